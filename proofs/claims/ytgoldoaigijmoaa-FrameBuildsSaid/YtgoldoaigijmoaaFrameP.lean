/- The contract of frame's Parse: the frame of bytes. -/
import Derived.Test.YtgoldoaigijmoaaFrame
import Derived.Test.YtgoldoaigijmoaaRdrList
import Derived.Deep.DeepCutAuto
namespace Go.Proofs.Ytgoldoaigijmoaa.frc
open Go.RowKit
open Go.Proofs.Ytgoldoaigijmoaa.kit Go.Proofs.Ytgoldoaigijmoaa.bec
set_option linter.unusedVariables false

/-- what stands ahead is passed over -/
def skip (l : List Int) : List Int := if valN false l 2 = 65283 then l.drop 2 else l
def frT : List Int → Int × List Int × Int
  | [] => (0, [], 10)
  | x :: r => if x % 2 = 1 then (x, r, 0) else match r with
    | [] => (0, [], 10)
    | y :: q => if y % 2 = 1 then (256 * x + y, q, 0) else (0, [], 11)
def frP (l : List Int) : Int × List Int × Int := frT (skip l)
theorem skip_byt {l : List Int} (h : Byt l) : Byt (skip l) := by unfold skip; split; exact h.drop _; exact h
theorem skip_len (l : List Int) : (skip l).length ≤ l.length := by unfold skip; split; (rw [List.length_drop]; omega); exact Nat.le_refl _

theorem odd_any (w : World) (x : Int) (h : 0 ≤ x ∧ x ≤ 255) : Calls Try.prog 66 #[.int .u8 x] w fun e w' => e = .returned (.bool (decide (x % 2 = 1))) ∧ w = w' := by
  have e1 : bits .and .u8 x 1 = x % 2 := by
    rw [u8_and x 1 h.1 (by omega) (by omega) (by omega)]
    have : x.toNat &&& (1 : Int).toNat = x.toNat % 2 := nat_mask1 _
    rw [this]; omega
  go_enter Try.func66, Try.ntmps66
  go_wp2
  go_ret
  exact ⟨ret_bool rfl, rfl⟩
theorem odd_yes (w : World) (x : Int) (h : 0 ≤ x ∧ x ≤ 255) (h1 : x % 2 = 1) : Calls Try.prog 66 #[.int .u8 x] w fun e w' => e = .returned (.bool true) ∧ w = w' :=
  (odd_any w x h).mono fun e w' ⟨he, hw⟩ => ⟨by rw [he]; simp [h1], hw⟩
theorem odd_no (w : World) (x : Int) (h : 0 ≤ x ∧ x ≤ 255) (h1 : ¬ x % 2 = 1) : Calls Try.prog 66 #[.int .u8 x] w fun e w' => e = .returned (.bool false) ∧ w = w' :=
  (odd_any w x h).mono fun e w' ⟨he, hw⟩ => ⟨by rw [he]; simp [h1], hw⟩
def rightB (p : Int) : Bool := decide (p % 2 = 1) && decide (p / 256 % 2 = 0)
theorem right_any (w : World) (p : Int) (h : 0 ≤ p ∧ p ≤ 65535) : Calls Try.prog 34 #[.int .u16 p] w fun e w' => e = .returned (.bool (rightB p)) ∧ w = w' := by
  have e1 : IntKind.u8.wrap p = p % 256 := IntKind.wrap_u8' _
  have e2 : p / 2 ^ 8 = p / 256 := rfl
  have e3 : IntKind.u8.wrap (p / 256) = p / 256 := by rw [IntKind.wrap_u8']; omega
  have e4 : p % 256 % 2 = p % 2 := by omega
  by_cases h1 : p % 2 = 1
  · have HR := hid (show rightB p = !decide (p / 256 % 2 = 1) by unfold rightB; rw [decide_eq_true h1]; by_cases h2 : p / 256 % 2 = 1 <;> simp [h2]; omega)
    have A := hid (odd_yes w (p % 256) (by omega) (by omega))
    have B := hid (odd_any w (p / 256) (by omega))
    clear h1 e4
    go_enter Try.func34, Try.ntmps34
    go_wp2_with (go_at_call 66; first | (with_reducible refine A.out.mono ?_; rintro e w' ⟨rfl, rfl⟩) | (with_reducible refine B.out.mono ?_; rintro e w' ⟨rfl, rfl⟩))
    go_ret
    exact ⟨ret_bool HR.out.symm, rfl⟩
  · have HR := hid (show rightB p = false by unfold rightB; rw [decide_eq_false h1]; rfl)
    have A := hid (odd_no w (p % 256) (by omega) (by omega))
    clear h1 e4
    go_enter Try.func34, Try.ntmps34
    go_wp2_with (go_at_call 66; (with_reducible refine A.out.mono ?_; rintro e w' ⟨rfl, rfl⟩))
    go_ret
    exact ⟨ret_bool HR.out.symm, rfl⟩

theorem right_yes (w : World) (p : Int) (h : 0 ≤ p ∧ p ≤ 65535) (h1 : p % 2 = 1) (h2 : p / 256 % 2 = 0) : Calls Try.prog 34 #[.int .u16 p] w fun e w' => e = .returned (.bool true) ∧ w = w' :=
  (right_any w p h).mono fun e w' ⟨he, hw⟩ => ⟨by rw [he]; unfold rightB; simp [h1, h2], hw⟩
theorem right_no (w : World) (p : Int) (h : 0 ≤ p ∧ p ≤ 65535) (h1 : ¬ p % 2 = 1) : Calls Try.prog 34 #[.int .u16 p] w fun e w' => e = .returned (.bool false) ∧ w = w' :=
  (right_any w p h).mono fun e w' ⟨he, hw⟩ => ⟨by rw [he]; unfold rightB; simp [h1], hw⟩
theorem or16 (x y : Int) (hx : 0 ≤ x ∧ x ≤ 255) (hy : 0 ≤ y ∧ y ≤ 255) : bits .or .u16 (256 * x) y = 256 * x + y := by
  rw [u16_or _ _ (by omega) (by omega) hy.1 (by omega), nat_join 8 _ _ (by omega) (by omega)]
  omega
/-- the frame that is handed back, its bytes the call's own -/
theorem ret_own {w W wz : World} {L : List Sl} {base m c : Nat} {a : Option Addr} {l : List Int} {v0 v1 : Value} (h : St w W L) (hb : Below W.heap.size W wz) (ho : wz.ownsRow base 5 1 (.slice a m c) m (l.map (Value.int .u8))) (hB : W.heap.size < base) :
    St w ((wz.setCell ⟨W.heap.size, 0, none⟩ v0).setCell ⟨W.heap.size, 1, none⟩ v1) ((a, m, c, l) :: L) := by
  have ga := gb_setCell (World.grownBy.refl wz (some W.heap.size)) (p := ⟨W.heap.size, 0, none⟩) rfl v0
  have g := gb_setCell ga (p := ⟨W.heap.size, 1, none⟩) rfl v1
  refine (h.next (gb_below hb g hb.size (Nat.le_refl _))).push (own_nums (ho.kept g ?_))
  cases hv : (Value.slice a m c).ownBlock with
  | none => exact .inl rfl
  | some j => exact .inr (by have := (ho.lt j hv).1; intro e; injection e with e; omega)
theorem ret_none {w W wz : World} {L : List Sl} {v0 v1 : Value} (h : St w W L) (hb : Below W.heap.size W wz) :
    St w ((wz.setCell ⟨W.heap.size, 0, none⟩ v0).setCell ⟨W.heap.size, 1, none⟩ v1) ((none, 0, 0, []) :: L) :=
  (h.next (((hb).setCell (Nat.le_refl _) _).setCell (Nat.le_refl _) _)).nil
def ParsePost (T : Int × List Int × Int) (w : World) (L : List Sl) (e : Ending) (W' : World) : Prop :=
  ∃ a' m c', e = .returned (.tuple #[.agg #[.int .u16 T.1, .slice a' m c'], .int .i64 T.2.2]) ∧ St w W' ((a', m, c', T.2.1) :: L)

set_option maxHeartbeats 1000000 in
set_option maxRecDepth 20000 in
theorem parse_any {w W : World} {L : List Sl} {a : Option Addr} {n c : Nat} {l : List Int} (h : St w W L) (hm : (a, n, c, l) ∈ L) (hb : Byt l) (hn : n ≤ 3000) :
    Calls Try.prog 32 #[.slice a n c] W (ParsePost (frP l) w L) := by
  obtain ⟨s, hs⟩ : ∃ s, s = skip l := ⟨_, rfl⟩
  have hbs : Byt s := hs ▸ skip_byt hb
  have hls : s.length ≤ l.length := hs ▸ skip_len l
  rw [show frP l = frT s by rw [hs]; rfl]
  have SK := hid hs
  clear hs
  obtain ⟨W1, hW1⟩ : ∃ W1, W1 = W.alloc (.cells #[.int .u16 0, .slice none 0 0] 54) := ⟨_, rfl⟩
  have b0 : Below W.heap.size W W1 := by rw [hW1]; exact (Below.refl _ _).alloc (Nat.le_refl _) _
  have c0 : W1.cell? ⟨W.heap.size, 0, none⟩ = some (.int .u16 0) := by rw [hW1]; simp [go_sem]
  have c1 : W1.cell? ⟨W.heap.size, 1, none⟩ = some (.slice none 0 0) := by rw [hW1]; simp [go_sem]
  have f0 : W1.frozen? ⟨W.heap.size, 0, none⟩ = false := by rw [hW1]; simp [go_sem]
  have f1 : W1.frozen? ⟨W.heap.size, 1, none⟩ = false := by rw [hW1]; simp [go_sem]
  have hlt : W.heap.size < W1.heap.size := by rw [hW1]; simp
  have hW := hid hW1
  have N := h.get hm
  have hlen := N.len
  have N1 := hid ((N.below b0).mono b0.size)
  have HS := hid h
  have C0 := hid c0
  have C1 := hid c1
  clear h hm N c0 c1 hW1
  go_enter Try.func32, Try.ntmps32
  go_upto_region 1 with fail
  rw [← hW.out]
  go_upto_if 9 with (go_at_call 64; ((with_reducible refine (get16_any _ N1.out (Nat.le_refl _) hb).mono ?_); rintro e w1 ⟨rfl, b1⟩))
  have s1 := b1.size
  go_cut [0] (fun v wx => ∃ a' n' c', v = .slice a' n' c' ∧ Nums .u8 wx wx.heap.size a' n' c' s ∧ Below W1.heap.size W1 wx)
  case first =>
    cases hv : (valN false l 2 == 65283)
    · have hv' : ¬ valN false l 2 = 65283 := by simpa using hv
      have HSK := hid (show s = l by rw [SK.out]; unfold skip; rw [if_neg hv'])
      clear hv'
      go_wp2_with fail
      go_meet
      exact ⟨a, n, c, rfl, by rw [HSK.out]; exact (N1.out.below b1).mono s1, b1⟩
    · have hv' : valN false l 2 = 65283 := by simpa using hv
      have h2 : 2 ≤ n := by
        rw [← hlen]
        refine Nat.le_of_not_lt fun h => ?_
        have : valN false l 2 = 0 := by unfold valN okN okR; rw [if_neg (by simp; omega)]
        omega
      have HSK := hid (show s = l.drop 2 by rw [SK.out]; unfold skip; rw [if_pos hv'])
      have hcap := N1.out.le
      clear hv'
      go_wp2_with fail
      all_goals go_meet
      · have hc2 : c = 2 := by assumption
        subst hc2
        exact ⟨a, n - 2, 0, rfl, by rw [HSK.out]; exact (((N1.out.below b1).mono s1).drop h2 (fun _ => rfl) (fun h => absurd rfl h)), b1⟩
      · have hc2 : ¬ c = 2 := by assumption
        exact ⟨_, n - 2, c - 2, rfl, by rw [HSK.out]; exact (((N1.out.below b1).mono s1).drop h2 (fun h => absurd h hc2) (fun _ => rfl)), b1⟩
  case rest =>
    obtain ⟨a', n', c', rfl, N2, b2⟩ := hcut
    have s2 := b2.size
    have l2 := N2.len
    have e0 := keep_cell b2 C0.out
    have e1 := keep_cell b2 C1.out
    have g0 : wc.frozen? ⟨W.heap.size, 0, none⟩ = false := (b2.frozen (p := ⟨W.heap.size, 0, none⟩) hlt).trans f0
    have g1 : wc.frozen? ⟨W.heap.size, 1, none⟩ = false := (b2.frozen (p := ⟨W.heap.size, 1, none⟩) hlt).trans f1
    obtain ⟨W2, hW2⟩ : ∃ W2, W2 = wc.alloc (.cells #[.slice a' n' c', .bool false] 108) := ⟨_, rfl⟩
    have R0 : Hid (RdrAt W2 wc.heap.size wc.heap.size false s) := by rw [hW2]; exact RdrAt.made N2
    have B2 : Hid (Below W1.heap.size W1 W2) := by rw [hW2]; exact b2.alloc s2 _
    have HW2 := hid hW2
    have HLL := hid (show s.length ≤ 3000 by omega)
    have HB0 := hid b0
    have HF0 := hid f0
    have HF1 := hid f1
    have HBS := hid hbs
    clear N2 hb N1 hlen l2 hls b2 b0 f0 f1 hn e0 e1 g0 g1 hW2 hbs SK
    go_upto_region 4 with (go_at_call 57; refine (new_any _ _ _ _).mono ?_; rintro e w1' ⟨rfl, rfl⟩)
    rw [← HW2.out]
    have NX : Hid (∀ w3 w4 : World, Below W1.heap.size W1 w3 → w3.grownBy w4 (some wc.heap.size) → Below W1.heap.size W1 w4) := fun w3 w4 h1 h2 => gb_below h1 h2 h1.size s2
    have CE : Hid (∀ w3 : World, Below W1.heap.size W1 w3 → w3.cell? ⟨W.heap.size, 0, none⟩ = some (.int .u16 0) ∧ w3.cell? ⟨W.heap.size, 1, none⟩ = some (.slice none 0 0) ∧ w3.frozen? ⟨W.heap.size, 0, none⟩ = false ∧ w3.frozen? ⟨W.heap.size, 1, none⟩ = false) := fun w3 h1 =>
      ⟨keep_cell h1 C0.out, keep_cell h1 C1.out, (h1.frozen (p := ⟨W.heap.size, 0, none⟩) hlt).trans HF0.out, (h1.frozen (p := ⟨W.heap.size, 1, none⟩) hlt).trans HF1.out⟩
    match s, R0, HBS, HLL with
    | [], R0, HBS, HLL =>
      have hx0 : 0 ≤ (0 : Int) ∧ (0 : Int) ≤ 255 := by decide
      have hx1 : ¬ (0 : Int) % 2 = 1 := by decide
      go_upto_region 9 with (first | (go_at_call 65; ((with_reducible refine (u8_nil _ _ _ _ R0.out).mono ?_); rintro e w3 ⟨rfl, r3, g3⟩); have R3 := hid r3; have B3 := hid (NX.out _ _ B2.out g3); clear r3 g3) | (go_at_call 66; ((with_reducible refine (odd_no _ _ hx0 hx1).mono ?_); rintro e wo ⟨rfl, rfl⟩)) | (go_at_call 65; ((with_reducible refine (u8_nil _ _ _ _ R3.out).mono ?_); rintro e w4 ⟨rfl, r4, g4⟩); have R4 := hid r4; have B4 := hid (NX.out _ _ B3.out g4); clear r4 g4) | (go_at_call 61; ((with_reducible refine (bad_any _ _ _ _ _ R4.out).mono ?_); rintro e wq ⟨rfl, rfl⟩)))
      obtain ⟨q0, q1, q2, q3⟩ := CE.out _ B4.out
      go_wp2_with fail
      have q5 : ((w4.setCell ⟨W.heap.size, 0, none⟩ (.int .u16 0)).setCell ⟨W.heap.size, 1, none⟩ (.slice none 0 0)).cell? ⟨W.heap.size, 0, none⟩ = some (.int .u16 0) := cell_other (cell_same q0) (by decide)
      have q6 : ((w4.setCell ⟨W.heap.size, 0, none⟩ (.int .u16 0)).setCell ⟨W.heap.size, 1, none⟩ (.slice none 0 0)).cell? ⟨W.heap.size, 1, none⟩ = some (.slice none 0 0) := cell_same (cell_other q1 (by decide))
      refine bodyPost_ret (v := .tuple #[.agg #[.int .u16 0, (.slice none 0 0)], .int .i64 10]) (by simp [results, Try.results32, go_sem, q5, q6]) rfl ?_
      rw [show frT [] = (0, [], 10) from rfl]
      exact ⟨none, 0, 0, rfl, ret_none HS.out (HB0.out.trans (B4.out.mono HB0.out.size))⟩
    | x :: r, R0, HBS, HLL =>
      have hx0 : 0 ≤ x ∧ x ≤ 255 := HBS.out x (by simp)
      have hl1 := HLL.out
      simp only [List.length_cons] at hl1
      by_cases hx1 : x % 2 = 1
      · have RT := hid (fun w => right_yes w x (by omega) (by omega) (by omega))
        have e : frT (x :: r) = (x, r, 0) := by rw [frT.eq_def]; simp only [hx1]; rfl
        have FT := hid e
        clear e
        go_upto_region 12 with (first | (go_at_call 65; ((with_reducible refine (u8_cons _ _ _ _ _ R0.out HBS.out).mono ?_); rintro e w3 ⟨rfl, r3, g3⟩); have R3 := hid r3; have B3 := hid (NX.out _ _ B2.out g3); clear r3 g3) | (go_at_call 66; ((with_reducible refine (odd_yes _ _ hx0 hx1).mono ?_); rintro e wo ⟨rfl, rfl⟩)) | (go_at_call 61; ((with_reducible refine (bad_any _ _ _ _ _ R3.out).mono ?_); rintro e wq ⟨rfl, rfl⟩)) | (go_at_call 34; ((with_reducible refine (RT.out _).mono ?_); rintro e wo ⟨rfl, rfl⟩)))
        go_wp2_with (go_at_call 67; ((with_reducible refine (rest_ok _ _ _ _ R3.out (by omega)).mono ?_); rintro e w4 ⟨a5, c5, rfl, o5, g5⟩); have B4 := hid (NX.out _ _ B3.out g5); have O5 := hid o5; clear o5 g5; obtain ⟨q0, q1, q2, q3⟩ := CE.out _ B4.out)
        have q5 : ((w4.setCell ⟨W.heap.size, 0, none⟩ (.int .u16 x)).setCell ⟨W.heap.size, 1, none⟩ (.slice a5 (r).length c5)).cell? ⟨W.heap.size, 0, none⟩ = some (.int .u16 x) := cell_other (cell_same q0) (by decide)
        have q6 : ((w4.setCell ⟨W.heap.size, 0, none⟩ (.int .u16 x)).setCell ⟨W.heap.size, 1, none⟩ (.slice a5 (r).length c5)).cell? ⟨W.heap.size, 1, none⟩ = some (.slice a5 (r).length c5) := cell_same (cell_other q1 (by decide))
        refine bodyPost_ret (v := .tuple #[.agg #[.int .u16 x, (.slice a5 (r).length c5)], .int .i64 0]) (by simp [results, Try.results32, go_sem, q5, q6]) rfl ?_
        rw [FT.out]
        exact ⟨a5, _, c5, rfl, ret_own HS.out (HB0.out.trans (B4.out.mono HB0.out.size)) O5.out (Nat.lt_of_lt_of_le hlt B3.out.size)⟩
      · match r, R0, HBS, HLL, hl1 with
        | [], R0, HBS, HLL, hl1 =>
          have FT := hid (show frT [x] = (0, [], 10) by rw [frT.eq_def]; simp only [hx1]; rfl)
          have hsh : IntKind.u16.wrap (x * 256) = 256 * x := by rw [IntKind.wrap_u16]; omega
          go_upto_region 9 with (first | (go_at_call 65; ((with_reducible refine (u8_cons _ _ _ _ _ R0.out HBS.out).mono ?_); rintro e w3 ⟨rfl, r3, g3⟩); have R3 := hid r3; have B3 := hid (NX.out _ _ B2.out g3); clear r3 g3) | (go_at_call 66; ((with_reducible refine (odd_no _ _ hx0 hx1).mono ?_); rintro e wo ⟨rfl, rfl⟩)) | (go_at_call 65; ((with_reducible refine (u8_nil _ _ _ _ R3.out).mono ?_); rintro e w4 ⟨rfl, r4, g4⟩); have R4 := hid r4; have B4 := hid (NX.out _ _ B3.out g4); clear r4 g4) | (go_at_call 61; ((with_reducible refine (bad_any _ _ _ _ _ R4.out).mono ?_); rintro e wq ⟨rfl, rfl⟩)))
          obtain ⟨q0, q1, q2, q3⟩ := CE.out _ B4.out
          go_wp2_with fail
          have q5 : ((w4.setCell ⟨W.heap.size, 0, none⟩ (.int .u16 0)).setCell ⟨W.heap.size, 1, none⟩ (.slice none 0 0)).cell? ⟨W.heap.size, 0, none⟩ = some (.int .u16 0) := cell_other (cell_same q0) (by decide)
          have q6 : ((w4.setCell ⟨W.heap.size, 0, none⟩ (.int .u16 0)).setCell ⟨W.heap.size, 1, none⟩ (.slice none 0 0)).cell? ⟨W.heap.size, 1, none⟩ = some (.slice none 0 0) := cell_same (cell_other q1 (by decide))
          refine bodyPost_ret (v := .tuple #[.agg #[.int .u16 0, (.slice none 0 0)], .int .i64 10]) (by simp [results, Try.results32, go_sem, q5, q6]) rfl ?_
          rw [FT.out]
          exact ⟨none, 0, 0, rfl, ret_none HS.out (HB0.out.trans (B4.out.mono HB0.out.size))⟩
        | y :: q, R0, HBS, HLL, hl1 =>
          have hy0 : 0 ≤ y ∧ y ≤ 255 := HBS.out y (by simp)
          have HY := hid (show Byt (y :: q) from fun z hz => HBS.out z (by simp at hz ⊢; exact .inr hz))
          simp only [List.length_cons] at hl1
          have hor : bits .or .u16 (256 * x) y = 256 * x + y := or16 x y hx0 hy0
          have hsh : IntKind.u16.wrap (x * 256) = 256 * x := by rw [IntKind.wrap_u16]; omega
          by_cases hy1 : y % 2 = 1
          · have FT := hid (show frT (x :: y :: q) = (256 * x + y, q, 0) by rw [frT.eq_def]; simp only [hx1, hy1]; rfl)
            have RT := hid (fun w => right_yes w (256 * x + y) (by omega) (by omega) (by omega))
            go_upto_region 12 with (first | (go_at_call 65; ((with_reducible refine (u8_cons _ _ _ _ _ R0.out HBS.out).mono ?_); rintro e w3 ⟨rfl, r3, g3⟩); have R3 := hid r3; have B3 := hid (NX.out _ _ B2.out g3); clear r3 g3) | (go_at_call 66; ((with_reducible refine (odd_no _ _ hx0 hx1).mono ?_); rintro e wo ⟨rfl, rfl⟩)) | (go_at_call 65; ((with_reducible refine (u8_cons _ _ _ _ _ R3.out HY.out).mono ?_); rintro e w4 ⟨rfl, r4, g4⟩); have R4 := hid r4; have B4 := hid (NX.out _ _ B3.out g4); clear r4 g4) | (go_at_call 61; ((with_reducible refine (bad_any _ _ _ _ _ R4.out).mono ?_); rintro e wq ⟨rfl, rfl⟩)) | (go_at_call 34; ((with_reducible refine (RT.out _).mono ?_); rintro e wo ⟨rfl, rfl⟩)))
            go_wp2_with (go_at_call 67; ((with_reducible refine (rest_ok _ _ _ _ R4.out (by omega)).mono ?_); rintro e w5 ⟨a5, c5, rfl, o5, g5⟩); have B5 := hid (NX.out _ _ B4.out g5); have O5 := hid o5; clear o5 g5; obtain ⟨q0, q1, q2, q3⟩ := CE.out _ B5.out)
            have q5 : ((w5.setCell ⟨W.heap.size, 0, none⟩ (.int .u16 (256 * x + y))).setCell ⟨W.heap.size, 1, none⟩ (.slice a5 (q).length c5)).cell? ⟨W.heap.size, 0, none⟩ = some (.int .u16 (256 * x + y)) := cell_other (cell_same q0) (by decide)
            have q6 : ((w5.setCell ⟨W.heap.size, 0, none⟩ (.int .u16 (256 * x + y))).setCell ⟨W.heap.size, 1, none⟩ (.slice a5 (q).length c5)).cell? ⟨W.heap.size, 1, none⟩ = some (.slice a5 (q).length c5) := cell_same (cell_other q1 (by decide))
            refine bodyPost_ret (v := .tuple #[.agg #[.int .u16 (256 * x + y), (.slice a5 (q).length c5)], .int .i64 0]) (by simp [results, Try.results32, go_sem, q5, q6]) rfl ?_
            rw [FT.out]
            exact ⟨a5, _, c5, rfl, ret_own HS.out (HB0.out.trans (B5.out.mono HB0.out.size)) O5.out (Nat.lt_of_lt_of_le hlt B4.out.size)⟩
          · have FT := hid (show frT (x :: y :: q) = (0, [], 11) by rw [frT.eq_def]; simp only [hx1, hy1]; rfl)
            have RT := hid (fun w => right_no w (256 * x + y) (by omega) (by omega))
            go_upto_region 11 with (first | (go_at_call 65; ((with_reducible refine (u8_cons _ _ _ _ _ R0.out HBS.out).mono ?_); rintro e w3 ⟨rfl, r3, g3⟩); have R3 := hid r3; have B3 := hid (NX.out _ _ B2.out g3); clear r3 g3) | (go_at_call 66; ((with_reducible refine (odd_no _ _ hx0 hx1).mono ?_); rintro e wo ⟨rfl, rfl⟩)) | (go_at_call 65; ((with_reducible refine (u8_cons _ _ _ _ _ R3.out HY.out).mono ?_); rintro e w4 ⟨rfl, r4, g4⟩); have R4 := hid r4; have B4 := hid (NX.out _ _ B3.out g4); clear r4 g4) | (go_at_call 61; ((with_reducible refine (bad_any _ _ _ _ _ R4.out).mono ?_); rintro e wq ⟨rfl, rfl⟩)) | (go_at_call 34; ((with_reducible refine (RT.out _).mono ?_); rintro e wo ⟨rfl, rfl⟩)))
            obtain ⟨q0, q1, q2, q3⟩ := CE.out _ B4.out
            go_wp2_with fail
            have q5 : ((w4.setCell ⟨W.heap.size, 0, none⟩ (.int .u16 0)).setCell ⟨W.heap.size, 1, none⟩ (.slice none 0 0)).cell? ⟨W.heap.size, 0, none⟩ = some (.int .u16 0) := cell_other (cell_same q0) (by decide)
            have q6 : ((w4.setCell ⟨W.heap.size, 0, none⟩ (.int .u16 0)).setCell ⟨W.heap.size, 1, none⟩ (.slice none 0 0)).cell? ⟨W.heap.size, 1, none⟩ = some (.slice none 0 0) := cell_same (cell_other q1 (by decide))
            refine bodyPost_ret (v := .tuple #[.agg #[.int .u16 0, (.slice none 0 0)], .int .i64 11]) (by simp [results, Try.results32, go_sem, q5, q6]) rfl ?_
            rw [FT.out]
            exact ⟨none, 0, 0, rfl, ret_none HS.out (HB0.out.trans (B4.out.mono HB0.out.size))⟩
end Go.Proofs.Ytgoldoaigijmoaa.frc
