/- The contract of the document's own frame of bytes. -/
import Derived.Test.YtgoldoaigijmoaaFrameP
import Derived.Test.YtgoldoaigijmoaaRegion
import Derived.Deep.RegionLaw
namespace Go.Proofs.Ytgoldoaigijmoaa.frc
open Go.RowKit
open Go.Proofs.Ytgoldoaigijmoaa.kit Go.Proofs.Ytgoldoaigijmoaa.bec
set_option linter.unusedVariables false

theorem rright_any (w : World) (p : Int) (h : 0 ≤ p ∧ p ≤ 65535) : Calls Try.prog 35 #[.int .i64 p] w fun e w' => e = .returned (.bool (rightB p)) ∧ w = w' := by
  have e1 : p.tmod 2 = p % 2 := Int.tmod_eq_emod_of_nonneg h.1
  have e2 : p.tdiv 256 = p / 256 := Int.tdiv_eq_ediv_of_nonneg h.1
  have e3 : (p / 256).tmod 2 = p / 256 % 2 := Int.tmod_eq_emod_of_nonneg (by omega)
  have e4 : IntKind.i64.wrap (p / 256) = p / 256 := IntWalk.i64_in _ (by omega)
  cases h1 : (p % 2 == 1)
  · have HR := hid (show rightB p = false by unfold rightB; simp at h1 ⊢; omega)
    go_enter Try.func35, Try.ntmps35
    go_wp2
    go_ret
    exact ⟨ret_bool HR.out.symm, rfl⟩
  · cases h2 : (p / 256 % 2 == 0)
    · have HR := hid (show rightB p = false by unfold rightB; simp at h1 h2 ⊢; omega)
      go_enter Try.func35, Try.ntmps35
      go_wp2
      go_ret
      exact ⟨ret_bool HR.out.symm, rfl⟩
    · have HR := hid (show rightB p = true by unfold rightB; simp at h1 h2 ⊢; omega)
      go_enter Try.func35, Try.ntmps35
      go_wp2
      go_ret
      exact ⟨ret_bool HR.out.symm, rfl⟩
theorem rright_yes (w : World) (p : Int) (h : 0 ≤ p ∧ p ≤ 65535) (h1 : p % 2 = 1) (h2 : p / 256 % 2 = 0) : Calls Try.prog 35 #[.int .i64 p] w fun e w' => e = .returned (.bool true) ∧ w = w' :=
  (rright_any w p h).mono fun e w' ⟨he, hw⟩ => ⟨by rw [he]; unfold rightB; simp [h1, h2], hw⟩
theorem rright_no (w : World) (p : Int) (h : 0 ≤ p ∧ p ≤ 65535) (h1 : ¬ p % 2 = 1) : Calls Try.prog 35 #[.int .i64 p] w fun e w' => e = .returned (.bool false) ∧ w = w' :=
  (rright_any w p h).mono fun e w' ⟨he, hw⟩ => ⟨by rw [he]; unfold rightB; simp [h1], hw⟩

/-- how much is passed over -/
def ahead (l : List Int) : Nat := if 2 ≤ l.length ∧ l.getD 0 0 = 255 ∧ l.getD 1 0 = 3 then 2 else 0
theorem skip_ahead {l : List Int} (hb : Byt l) : skip l = l.drop (ahead l) := by
  unfold skip ahead
  by_cases h2 : 2 ≤ l.length
  · match l, h2 with
    | x :: y :: r, h2 =>
      have e : valN false (x :: y :: r) 2 = 256 * x + y := by
        unfold valN okN okR; rw [if_pos (by simp; omega)]; simp [numB]; omega
      have hx := hb x (by simp)
      have hy := hb y (by simp)
      rw [e]
      simp only [List.getD_cons_zero, List.getD_cons_succ]
      by_cases h : 256 * x + y = 65283
      · rw [if_pos h, if_pos ⟨h2, by omega, by omega⟩]
      · rw [if_neg h, if_neg (by omega)]; rfl
  · have e : valN false l 2 = 0 := by unfold valN okN okR; rw [if_neg (by simp; omega)]
    rw [e, if_neg (by decide), if_neg (by omega)]; rfl
theorem ahead_le (l : List Int) : ahead l ≤ l.length ∧ (ahead l = 0 ∨ ahead l = 2) := by unfold ahead; split <;> omega

/-- a frame that is being put together in a block -/
structure FAt (W1 wr : World) (g : Nat) (p : Int) (v : Value) (j : Nat) (D : List Int) : Prop where
  c0 : wr.cell? ⟨g, 0, none⟩ = some (.int .u16 p)
  c1 : wr.cell? ⟨g, 1, none⟩ = some v
  f1 : wr.frozen? ⟨g, 1, none⟩ = false
  own : wr.ownsRow (g + 1) 5 1 v j (D.map (Value.int .u8))
  below : Below g W1 wr
  lt : g < wr.heap.size
theorem fat_start (W1 : World) (p : Int) : FAt W1 (W1.alloc (.cells #[.int .u16 p, .slice none 0 0] 54)) W1.heap.size p (.slice none 0 0) 0 [] :=
  ⟨by simp [go_sem], by simp [go_sem], by simp [go_sem], World.ownsRow_nil _ _ _ _, (Below.refl _ _).alloc (Nat.le_refl _) _, by simp⟩
theorem fat_grown {W1 wr w3 : World} {g : Nat} {p : Int} {v : Value} {j : Nat} {D : List Int} {o : Obj} (h : FAt W1 wr g p v j D) (hg : (wr.alloc o).drew.grownBy w3 v.ownBlock) :
    w3.cell? ⟨g, 0, none⟩ = some (.int .u16 p) ∧ w3.cell? ⟨g, 1, none⟩ = some v ∧ w3.frozen? ⟨g, 1, none⟩ = false ∧ Below g W1 w3 ∧ g < w3.heap.size := by
  have hne : ∀ k, v.ownBlock = some k → g + 1 ≤ k := fun k hk => (h.own.lt k hk).1
  have hb : Below (g + 1) wr w3 := (((Below.refl _ _).alloc h.lt o).drew).grown hg (by have := h.lt; simp; omega) hne
  exact ⟨(hb.cell (p := ⟨g, 0, none⟩) (Nat.lt_succ_self _)).trans h.c0, (hb.cell (p := ⟨g, 1, none⟩) (Nat.lt_succ_self _)).trans h.c1, (hb.frozen (p := ⟨g, 1, none⟩) (Nat.lt_succ_self _)).trans h.f1, h.below.trans (hb.mono (by omega)), Nat.lt_of_lt_of_le h.lt hb.size⟩
theorem fat_step {W1 w3 : World} {g : Nat} {p : Int} {v v' : Value} {j : Nat} {D : List Int} (h0 : w3.cell? ⟨g, 0, none⟩ = some (.int .u16 p)) (h1 : w3.cell? ⟨g, 1, none⟩ = some v) (h2 : w3.frozen? ⟨g, 1, none⟩ = false) (hb : Below g W1 w3) (hl : g < w3.heap.size)
    (ho : w3.ownsRow (g + 1) 5 1 v' j (D.map (Value.int .u8))) : FAt W1 (w3.setCell ⟨g, 1, none⟩ v') g p v' j D :=
  ⟨cell_other h0 (by decide), cell_same h1, frozen_set h2, ho.kept (gb_setCell (World.grownBy.refl w3 (some g)) (p := ⟨g, 1, none⟩) rfl v') (by
      cases hv : v'.ownBlock with
      | none => exact .inl rfl
      | some k => exact .inr (by have := (ho.lt k hv).1; intro e; injection e with e; omega)),
    hb.setCell (Nat.le_refl _) _, by simpa [World.setCell] using hl⟩

set_option maxHeartbeats 1000000 in
set_option maxRecDepth 20000 in
theorem rparse_any {w W : World} {L : List Sl} {a : Option Addr} {n c : Nat} {l : List Int} (h : St w W L) (hm : (a, n, c, l) ∈ L) (hb : Byt l) (hn : n ≤ 3000) :
    Calls Try.prog 33 #[.slice a n c] W (ParsePost (frP l) w L) := by
  obtain ⟨i0, hi, hi0, hi1, hi2⟩ := info_parts Try.info_u8
  have hA := ahead_le l
  obtain ⟨A, hAe⟩ : ∃ A, A = ahead l := ⟨_, rfl⟩
  rw [← hAe] at hA
  obtain ⟨s, hs⟩ : ∃ s, s = l.drop A := ⟨_, rfl⟩
  have hbs : Byt s := hs ▸ hb.drop A
  rw [show frP l = frT s by rw [hs, hAe, ← skip_ahead hb]; rfl]
  have N := h.get hm
  have hlen := N.len
  have hsl : A + s.length = n := by rw [hs, List.length_drop]; omega
  have CE : Hid (∀ j, j < n → ∃ b off, a = some ⟨b, off, none⟩ ∧ b < W.heap.size ∧ W.cell? ⟨b, off + j, none⟩ = some (.int .u8 (l.getD j 0))) := fun j hj => by
    obtain ⟨b, off, ha, _, hbb, hc⟩ := N.cells (by omega)
    exact ⟨b, off, ha, hbb, hc j hj⟩
  have SE : Hid (∀ j, s.getD j 0 = l.getD (A + j) 0) := fun j => by rw [hs, List.getD_eq_getElem?_getD, List.getElem?_drop, ← List.getD_eq_getElem?_getD]
  have hcap := N.le
  obtain ⟨W1, hW1⟩ : ∃ W1, W1 = W.alloc (.cells #[.int .u16 0, .slice none 0 0] 54) := ⟨_, rfl⟩
  have b0 : Below W.heap.size W W1 := by rw [hW1]; exact (Below.refl _ _).alloc (Nat.le_refl _) _
  have c0 : W1.cell? ⟨W.heap.size, 0, none⟩ = some (.int .u16 0) := by rw [hW1]; simp [go_sem]
  have c1 : W1.cell? ⟨W.heap.size, 1, none⟩ = some (.slice none 0 0) := by rw [hW1]; simp [go_sem]
  have f0 : W1.frozen? ⟨W.heap.size, 0, none⟩ = false := by rw [hW1]; simp [go_sem]
  have f1 : W1.frozen? ⟨W.heap.size, 1, none⟩ = false := by rw [hW1]; simp [go_sem]
  have hlt : W.heap.size < W1.heap.size := by rw [hW1]; simp
  have hW := hid hW1
  have HS := hid h
  have HL := hid hlen
  have B0 := hid b0
  have AE := hid hAe
  have SL := hid hsl
  have CB : Hid (∀ j, j < n → ∃ b off, a = some ⟨b, off, none⟩ ∧ b < W.heap.size ∧ W1.cell? ⟨b, off + j, none⟩ = some (.int .u8 (l.getD j 0))) := fun j hj => by
    obtain ⟨b, off, ha, hbb, hc⟩ := CE.out j hj
    exact ⟨b, off, ha, hbb, keep_cell b0 hc⟩
  clear h hm N hW1 hlen hAe hs b0 hsl CE
  go_enter Try.func33, Try.ntmps33
  go_upto_region 2 with fail
  rw [← hW.out]
  obtain ⟨BA, hBA⟩ : ∃ BA, BA = decide (A = 2) := ⟨_, rfl⟩
  have HBA := hid hBA
  clear hBA
  go_cut [21] (fun s21 wx => s21 = .bool BA ∧ wx = W1)
  case first =>
    by_cases h1 : 1 < n
    · obtain ⟨b, off, ha, hbb, x0⟩ := CB.out 0 (by omega)
      obtain ⟨b', off', ha', hbb', x1⟩ := CB.out 1 (by omega)
      subst ha
      injection ha' with ha'
      injection ha' with e1 e2 _
      subst e1 e2
      have y0 : W1.cell? ⟨b, off, none⟩ = some (.int .u8 (l.getD 0 0)) := x0
      obtain ⟨u, hu⟩ : ∃ u, u = l.getD 0 0 := ⟨_, rfl⟩
      obtain ⟨v, hv⟩ : ∃ v, v = l.getD 1 0 := ⟨_, rfl⟩
      rw [← hu] at y0
      rw [← hv] at x1
      have HU := hid hu
      have HV := hid hv
      clear x0 hu hv
      cases hu : (u == 255)
      · have HA := hid (show decide (A = 2) = false by rw [AE.out]; unfold ahead; rw [if_neg (by rw [← HU.out]; simp at hu; exact fun h => hu h.2.1)]; rfl)
        go_wp2_with fail
        go_meet
        exact ⟨by rw [HBA.out, HA.out], rfl⟩
      · cases hv : (v == 3)
        · have HA := hid (show decide (A = 2) = false by rw [AE.out]; unfold ahead; rw [if_neg (by rw [← HV.out]; simp at hv; exact fun h => hv h.2.2)]; rfl)
          go_wp2_with fail
          go_meet
          exact ⟨by rw [HBA.out, HA.out], rfl⟩
        · have HA := hid (show decide (A = 2) = true by rw [AE.out]; unfold ahead; rw [if_pos (by rw [← HV.out, ← HU.out, HL.out]; simp at hv hu; exact ⟨h1, hu, hv⟩)]; rfl)
          go_wp2_with fail
          go_meet
          exact ⟨by rw [HBA.out, HA.out], rfl⟩
    · have HA := hid (show decide (A = 2) = false by rw [AE.out]; unfold ahead; rw [if_neg (by rw [HL.out]; omega)]; rfl)
      go_wp2_with fail
      go_meet
      exact ⟨by rw [HBA.out, HA.out], rfl⟩
  case rest =>
    obtain ⟨hs21, rfl⟩ := hcut
    subst hs21
    go_upto_if 21 with fail
    go_cut [4] (fun v wx => v = .int .i64 (A : Nat) ∧ wx = wc)
    case first =>
      cases BA
      · have HA2 := hid (show A = 0 by have := HBA.out; simp at this; omega)
        go_wp2_with fail
        go_meet
        exact ⟨by rw [HA2.out]; rfl, rfl⟩
      · have HA2 := hid (show A = 2 by have := HBA.out; simpa using this)
        go_wp2_with fail
        go_meet
        exact ⟨by rw [HA2.out]; rfl, rfl⟩
    case rest =>
      obtain ⟨rfl, rfl⟩ := hcut
      have CS : Hid (∀ j x, s.getD j 0 = x → j < s.length → ∃ b off, a = some ⟨b, off, none⟩ ∧ b < W.heap.size ∧ wc.cell? ⟨b, off + (A + j), none⟩ = some (.int .u8 x)) := fun j x hx hj => by
        obtain ⟨b, off, ha, hbb, hc⟩ := CB.out (A + j) (by have := SL.out; omega)
        exact ⟨b, off, ha, hbb, by rw [hc, ← SE.out, hx]⟩
      have HB := hid hbs
      clear CB SE hA hbs HBA AE
      match s, CS, HB, SL with
      | [], CS, HB, SL =>
        have hq : ((A : Int) == (n : Int)) = true := by have := SL.out; simp at this; simp; omega
        go_wp2_with fail
        have q5 : ((wc.setCell ⟨W.heap.size, 0, none⟩ (.int .u16 0)).setCell ⟨W.heap.size, 1, none⟩ (.slice none 0 0)).cell? ⟨W.heap.size, 0, none⟩ = some (.int .u16 0) := cell_other (cell_same c0) (by decide)
        have q6 : ((wc.setCell ⟨W.heap.size, 0, none⟩ (.int .u16 0)).setCell ⟨W.heap.size, 1, none⟩ (.slice none 0 0)).cell? ⟨W.heap.size, 1, none⟩ = some (.slice none 0 0) := cell_same (cell_other c1 (by decide))
        refine bodyPost_ret (v := .tuple #[.agg #[.int .u16 0, (.slice none 0 0)], .int .i64 10]) (by simp [results, Try.results33, go_sem, q5, q6]) rfl ?_
        rw [show frT [] = (0, [], 10) from rfl]
        exact ⟨none, 0, 0, rfl, ret_none HS.out B0.out⟩
      | x :: r, CS, HB, SL =>
        have hx0 : 0 ≤ x ∧ x ≤ 255 := HB.out x (by simp)
        have hl1 := SL.out
        simp only [List.length_cons] at hl1
        have hq : ((A : Int) == (n : Int)) = false := by simp; omega
        obtain ⟨b, off, ha, hbb, hc0⟩ := CS.out 0 x rfl (by simp)
        subst ha
        rw [Nat.add_zero] at hc0
        have ht : x.tmod 2 = x % 2 := Int.tmod_eq_emod_of_nonneg hx0.1
        have hw1 : IntKind.i64.wrap ((A : Int) + 1) = (A : Int) + 1 := IntWalk.i64_in _ (by omega)
        by_cases hx1 : x % 2 = 1
        · have hz : (x % 2 == 0) = false := by simp; omega
          have RT := hid (fun w => rright_yes w x (by omega) (by omega) (by omega))
          have FT := hid (show frT (x :: r) = (x, r, 0) by rw [frT.eq_def]; simp only [hx1]; rfl)
          clear hx1
          have hw16 : IntKind.u16.wrap x = x := by rw [IntKind.wrap_u16]; omega
          have S0 := hid (fat_start wc x)
          have QC : Hid (∀ j, j < r.length → wc.cell? ⟨b, off + (A + 1 + j), none⟩ = some (.int .u8 (r.getD j 0))) := fun j hj => by
            obtain ⟨b3, off3, ha3, _, hc3⟩ := CS.out (1 + j) (r.getD j 0) (by rw [show 1 + j = j + 1 by omega]; rfl) (by simp; omega)
            injection ha3 with ha3
            injection ha3 with e1 e2 _
            subst e1 e2
            rw [← hc3]; congr 2; omega
          have E0 := hid c0
          have E1 := hid c1
          have F0 := hid f0
          have F1 := hid f1
          have hbg : b < wc.heap.size := by omega
          have hgz : W.heap.size < wc.heap.size := hlt
          have SLq : A + 1 + r.length = n := by omega
          clear CS f0 f1 c0 c1 hlt hbb hq ht hw1
          go_wp2_with (go_at_call 35; ((with_reducible refine (RT.out _).mono ?_); rintro e wo ⟨rfl, rfl⟩))
          go_loopw [4] (fun iv wr => ∃ (j t : Nat) (v : Value), j ≤ r.length ∧ t = A + 1 + j ∧ iv = .int .i64 (t : Nat) ∧ FAt wc wr wc.heap.size x v j (r.take j)) (fun iv _ => n - (intOf iv).toNat)
          case atStart =>
            exact ⟨0, A + 1, .slice none 0 0, Nat.zero_le _, rfl, by first | rfl | (congr 1), S0.out⟩
          case round =>
            obtain ⟨j, t, v, hj, ht, rfl, hF⟩ := hrel
            have HF := hid hF
            have HT := hid ht
            have k1 := hF.c1
            have k0 := hF.c0
            have htn : t ≤ n := by omega
            have hww : IntKind.i64.wrap ((t : Int) + 1) = (t : Int) + 1 := IntWalk.i64_in _ (by omega)
            by_cases hlt : j < r.length
            · have htl : t < n := by omega
              have hcx : wr.cell? ⟨b, off + t, none⟩ = some (.int .u8 (r.getD j 0)) := by rw [ht]; exact (hF.below.cell (p := ⟨b, _, none⟩) hbg).trans (QC.out j hlt)
              obtain ⟨z, hz⟩ : ∃ z, z = r.getD j 0 := ⟨_, rfl⟩
              rw [← hz] at hcx
              have HZ := hid hz
              have k2 : (wr.alloc (.cells #[.int .u8 z] 5)).cell? ⟨wc.heap.size, 1, none⟩ = some v := keep_cell ((Below.refl _ _).alloc (Nat.le_refl _) _) k1
              have hgl := hF.lt
              clear hF ht hz k0
              go_wp2_with fail
              go_region_law (refine step_append_nums rfl (.tmp 66) (.tmp 71) 22 rfl (wc.heap.size + 1) 5 i0 (.int .u8 0) 1 Try.underlying22 hi hi0 hi1 hi2 rfl _ j _ rfl (HF.out.own.alloc _).drew _ 1 1 _ _ rfl nums_one.drew (by unfold maxLen; omega) (by omega) (by simp <;> omega) ?_; intro v3 w3 g3 r3; obtain ⟨m0, m1, m2, m3, m4⟩ := fat_grown HF.out r3; obtain ⟨a6, c6, rfl⟩ := own_slice g3; clear k1 k2 hcx)
              all_goals
                have HS3 := hid (fat_step m0 m1 m2 m3 m4 g3)
                clear m0 m1 m2 m3 m4 g3 r3
                go_wp2_with fail
                go_roundw
                case rel => exact ⟨j + 1, t + 1, .slice a6 (j + 1) c6, by omega, by rw [HT.out]; omega, by go_num, by rw [take_getD hlt, ← HZ.out]; exact HS3.out⟩
                case measure => simp [intOf]; omega
            · have htl : ¬ t < n := by omega
              have hbe := hF.below
              have y0 := keep_cell hbe E0.out
              have y1 := keep_cell hbe E1.out
              have y2 := (hbe.frozen (p := ⟨W.heap.size, 0, none⟩) hgz).trans F0.out
              have y3 := (hbe.frozen (p := ⟨W.heap.size, 1, none⟩) hgz).trans F1.out
              have ho := hF.own
              rw [List.take_of_length_le (by omega)] at ho
              obtain ⟨a5, c5, rfl⟩ := own_slice ho
              have HO := hid ho
              have HBE := hid hbe
              clear ho hF hbe ht
              go_wp2_with fail
              have q5 : ((wr.setCell ⟨W.heap.size, 0, none⟩ (.int .u16 x)).setCell ⟨W.heap.size, 1, none⟩ (.slice a5 j c5)).cell? ⟨W.heap.size, 0, none⟩ = some (.int .u16 x) := cell_other (cell_same y0) (by decide)
              have q6 : ((wr.setCell ⟨W.heap.size, 0, none⟩ (.int .u16 x)).setCell ⟨W.heap.size, 1, none⟩ (.slice a5 j c5)).cell? ⟨W.heap.size, 1, none⟩ = some (.slice a5 j c5) := cell_same (cell_other y1 (by decide))
              refine bodyPost_ret (v := .tuple #[.agg #[.int .u16 x, .slice a5 j c5], .int .i64 0]) (by simp [results, Try.results33, go_sem, q5, q6]) rfl ?_
              rw [FT.out]
              exact ⟨a5, _, c5, rfl, ret_own HS.out (B0.out.trans (HBE.out.mono (by omega))) HO.out (by omega)⟩
        · have hz : (x % 2 == 0) = true := by simp; omega
          match r, CS, HB, SL, hl1 with
          | [], CS, HB, SL, hl1 =>
            have FT := hid (show frT [x] = (0, [], 10) by rw [frT.eq_def]; simp only [hx1]; rfl)
            clear hx1
            have hq2 : ((A : Int) + 1 == (n : Int)) = true := by simp at hl1; simp; omega
            go_wp2_with fail
            have q5 : ((wc.setCell ⟨W.heap.size, 0, none⟩ (.int .u16 0)).setCell ⟨W.heap.size, 1, none⟩ (.slice none 0 0)).cell? ⟨W.heap.size, 0, none⟩ = some (.int .u16 0) := cell_other (cell_same c0) (by decide)
            have q6 : ((wc.setCell ⟨W.heap.size, 0, none⟩ (.int .u16 0)).setCell ⟨W.heap.size, 1, none⟩ (.slice none 0 0)).cell? ⟨W.heap.size, 1, none⟩ = some (.slice none 0 0) := cell_same (cell_other c1 (by decide))
            refine bodyPost_ret (v := .tuple #[.agg #[.int .u16 0, (.slice none 0 0)], .int .i64 10]) (by simp [results, Try.results33, go_sem, q5, q6]) rfl ?_
            rw [FT.out]
            exact ⟨none, 0, 0, rfl, ret_none HS.out B0.out⟩
          | y :: q, CS, HB, SL, hl1 =>
            have hy0 : 0 ≤ y ∧ y ≤ 255 := HB.out y (by simp)
            simp only [List.length_cons] at hl1
            obtain ⟨b2, off2, ha2, _, hc1⟩ := CS.out 1 y rfl (by simp)
            injection ha2 with ha2
            injection ha2 with e1 e2 _
            subst e1 e2
            have hq2 : ((A : Int) + 1 == (n : Int)) = false := by simp; omega
            have hm : IntKind.i64.wrap (256 * x) = 256 * x := IntWalk.i64_in _ (by omega)
            have hm2 : IntKind.i64.wrap (256 * x + y) = 256 * x + y := IntWalk.i64_in _ (by omega)
            have hw2 : IntKind.i64.wrap ((A : Int) + 1 + 1) = (A : Int) + 1 + 1 := IntWalk.i64_in _ (by omega)
            by_cases hy1 : y % 2 = 1
            · have FT := hid (show frT (x :: y :: q) = (256 * x + y, q, 0) by rw [frT.eq_def]; simp only [hx1, hy1]; rfl)
              have RT := hid (fun w => rright_yes w (256 * x + y) (by omega) (by omega) (by omega))
              clear hx1 hy1
              have hw16 : IntKind.u16.wrap (256 * x + y) = (256 * x + y) := by rw [IntKind.wrap_u16]; omega
              have S0 := hid (fat_start wc (256 * x + y))
              have QC : Hid (∀ j, j < q.length → wc.cell? ⟨b, off + (A + 2 + j), none⟩ = some (.int .u8 (q.getD j 0))) := fun j hj => by
                obtain ⟨b3, off3, ha3, _, hc3⟩ := CS.out (2 + j) (q.getD j 0) (by rw [show 2 + j = j + 1 + 1 by omega]; rfl) (by simp; omega)
                injection ha3 with ha3
                injection ha3 with e1 e2 _
                subst e1 e2
                rw [← hc3]; congr 2; omega
              have E0 := hid c0
              have E1 := hid c1
              have F0 := hid f0
              have F1 := hid f1
              have hbg : b < wc.heap.size := by omega
              have hgz : W.heap.size < wc.heap.size := hlt
              have SLq : A + 2 + q.length = n := by omega
              clear CS f0 f1 c0 c1 hlt hbb hq ht hw1
              go_wp2_with (go_at_call 35; ((with_reducible refine (RT.out _).mono ?_); rintro e wo ⟨rfl, rfl⟩))
              go_loopw [4] (fun iv wr => ∃ (j t : Nat) (v : Value), j ≤ q.length ∧ t = A + 2 + j ∧ iv = .int .i64 (t : Nat) ∧ FAt wc wr wc.heap.size (256 * x + y) v j (q.take j)) (fun iv _ => n - (intOf iv).toNat)
              case atStart =>
                exact ⟨0, A + 2, .slice none 0 0, Nat.zero_le _, rfl, by first | rfl | (congr 1), S0.out⟩
              case round =>
                obtain ⟨j, t, v, hj, ht, rfl, hF⟩ := hrel
                have HF := hid hF
                have HT := hid ht
                have k1 := hF.c1
                have k0 := hF.c0
                have htn : t ≤ n := by omega
                have hww : IntKind.i64.wrap ((t : Int) + 1) = (t : Int) + 1 := IntWalk.i64_in _ (by omega)
                by_cases hlt : j < q.length
                · have htl : t < n := by omega
                  have hcx : wr.cell? ⟨b, off + t, none⟩ = some (.int .u8 (q.getD j 0)) := by rw [ht]; exact (hF.below.cell (p := ⟨b, _, none⟩) hbg).trans (QC.out j hlt)
                  obtain ⟨z, hz⟩ : ∃ z, z = q.getD j 0 := ⟨_, rfl⟩
                  rw [← hz] at hcx
                  have HZ := hid hz
                  have k2 : (wr.alloc (.cells #[.int .u8 z] 5)).cell? ⟨wc.heap.size, 1, none⟩ = some v := keep_cell ((Below.refl _ _).alloc (Nat.le_refl _) _) k1
                  have hgl := hF.lt
                  clear hF ht hz k0
                  go_wp2_with fail
                  go_region_law (refine step_append_nums rfl (.tmp 66) (.tmp 71) 22 rfl (wc.heap.size + 1) 5 i0 (.int .u8 0) 1 Try.underlying22 hi hi0 hi1 hi2 rfl _ j _ rfl (HF.out.own.alloc _).drew _ 1 1 _ _ rfl nums_one.drew (by unfold maxLen; omega) (by omega) (by simp <;> omega) ?_; intro v3 w3 g3 r3; obtain ⟨m0, m1, m2, m3, m4⟩ := fat_grown HF.out r3; obtain ⟨a6, c6, rfl⟩ := own_slice g3; clear k1 k2 hcx)
                  all_goals
                    have HS3 := hid (fat_step m0 m1 m2 m3 m4 g3)
                    clear m0 m1 m2 m3 m4 g3 r3
                    go_wp2_with fail
                    go_roundw
                    case rel => exact ⟨j + 1, t + 1, .slice a6 (j + 1) c6, by omega, by rw [HT.out]; omega, by go_num, by rw [take_getD hlt, ← HZ.out]; exact HS3.out⟩
                    case measure => simp [intOf]; omega
                · have htl : ¬ t < n := by omega
                  have hbe := hF.below
                  have y0 := keep_cell hbe E0.out
                  have y1 := keep_cell hbe E1.out
                  have y2 := (hbe.frozen (p := ⟨W.heap.size, 0, none⟩) hgz).trans F0.out
                  have y3 := (hbe.frozen (p := ⟨W.heap.size, 1, none⟩) hgz).trans F1.out
                  have ho := hF.own
                  rw [List.take_of_length_le (by omega)] at ho
                  obtain ⟨a5, c5, rfl⟩ := own_slice ho
                  have HO := hid ho
                  have HBE := hid hbe
                  clear ho hF hbe ht
                  go_wp2_with fail
                  have q5 : ((wr.setCell ⟨W.heap.size, 0, none⟩ (.int .u16 (256 * x + y))).setCell ⟨W.heap.size, 1, none⟩ (.slice a5 j c5)).cell? ⟨W.heap.size, 0, none⟩ = some (.int .u16 (256 * x + y)) := cell_other (cell_same y0) (by decide)
                  have q6 : ((wr.setCell ⟨W.heap.size, 0, none⟩ (.int .u16 (256 * x + y))).setCell ⟨W.heap.size, 1, none⟩ (.slice a5 j c5)).cell? ⟨W.heap.size, 1, none⟩ = some (.slice a5 j c5) := cell_same (cell_other y1 (by decide))
                  refine bodyPost_ret (v := .tuple #[.agg #[.int .u16 (256 * x + y), .slice a5 j c5], .int .i64 0]) (by simp [results, Try.results33, go_sem, q5, q6]) rfl ?_
                  rw [FT.out]
                  exact ⟨a5, _, c5, rfl, ret_own HS.out (B0.out.trans (HBE.out.mono (by omega))) HO.out (by omega)⟩
            · have FT := hid (show frT (x :: y :: q) = (0, [], 11) by rw [frT.eq_def]; simp only [hx1, hy1]; rfl)
              have RT := hid (fun w => rright_no w (256 * x + y) (by omega) (by omega))
              clear hx1 hy1
              go_wp2_with (go_at_call 35; ((with_reducible refine (RT.out _).mono ?_); rintro e wo ⟨rfl, rfl⟩))
              have q5 : ((wc.setCell ⟨W.heap.size, 0, none⟩ (.int .u16 0)).setCell ⟨W.heap.size, 1, none⟩ (.slice none 0 0)).cell? ⟨W.heap.size, 0, none⟩ = some (.int .u16 0) := cell_other (cell_same c0) (by decide)
              have q6 : ((wc.setCell ⟨W.heap.size, 0, none⟩ (.int .u16 0)).setCell ⟨W.heap.size, 1, none⟩ (.slice none 0 0)).cell? ⟨W.heap.size, 1, none⟩ = some (.slice none 0 0) := cell_same (cell_other c1 (by decide))
              refine bodyPost_ret (v := .tuple #[.agg #[.int .u16 0, (.slice none 0 0)], .int .i64 11]) (by simp [results, Try.results33, go_sem, q5, q6]) rfl ?_
              rw [FT.out]
              exact ⟨none, 0, 0, rfl, ret_none HS.out B0.out⟩
end Go.Proofs.Ytgoldoaigijmoaa.frc
