/- opt: the contract of Parse. -/
import Derived.Test.YtgoldoaigijmoaaOptRow
import Derived.Test.YtgoldoaigijmoaaBClone
namespace Go.Proofs.Ytgoldoaigijmoaa.opc
open Go.RowKit
open Go.Proofs.Ytgoldoaigijmoaa.kit Go.Proofs.Ytgoldoaigijmoaa.opm
set_option linter.unusedVariables false
set_option linter.unusedSimpArgs false
set_option maxRecDepth 20000

def PPost (T : List Opt × Int) (w : World) (e : Ending) (w' : World) : Prop :=
  ∃ a n c, e = .returned (.tuple #[.slice a n c, .int .i64 T.2]) ∧ Opts w' w'.heap.size a n c T.1 ∧ Below w.heap.size w w'
theorem opts_nil (w : World) : Opts w w.heap.size none 0 0 [] := ⟨rfl, Nat.le_refl _, Nat.zero_le _, fun _ => rfl, fun j hj => by omega⟩
theorem own_o_below {w0 w w' : World} {base : Nat} {v : Value} {n : Nat} {L : List Opt} (h : OwnO w base v n L) (hb : Below base w0 w) (hg : w.grownBy w' v.ownBlock) (hB : base ≤ w.heap.size) : Below base w0 w' := by
  obtain ⟨cs, h1, _⟩ := h
  exact own_below h1 hb hg hB

theorem OwnO.lt {w : World} {base : Nat} {v : Value} {n : Nat} {L : List Opt} (h : OwnO w base v n L) : ∀ k, v.ownBlock = some k → k < w.heap.size := by
  obtain ⟨cs, h1, _⟩ := h
  exact fun k hk => (h1.lt k hk).2

set_option maxHeartbeats 4000000 in
theorem parse_any {w : World} {B n cap : Nat} {a : Option Addr} {l : List Int} (h : Nums .u8 w B a n cap l) (hB : B ≤ w.heap.size) (ho : ∀ x ∈ l, 0 ≤ x ∧ x ≤ 255) (hn : n ≤ 100000) :
    Calls Try.prog 11 #[.slice a n cap] w (PPost (fin [] l) w) := by
  obtain ⟨i0, hi, hi0, hi1, hi2⟩ := info_parts Try.info_opt
  have HN := hid h
  have HO := hid (show Oct l from ho)
  obtain ⟨T, hT⟩ : ∃ T, T = fin [] l := ⟨_, rfl⟩
  rw [← hT]
  have HT := hid hT
  clear h ho hT
  go_enter Try.func11, Try.ntmps11
  go_wp2_with fail
  go_loopw [0, 4, 5] (fun bv ov x5 wr => ∃ (l' : List Int) (a' : Option Addr) (n' c' : Nat) (m : Nat) (L : List Opt), bv = .slice a' n' c' ∧ Nums .u8 w B a' n' c' l' ∧ Oct l' ∧ fin L l' = T ∧ 2 * m + n' ≤ n ∧ OwnO wr w.heap.size ov m L ∧ Below w.heap.size w wr) (fun bv _ _ _ => match bv with | .slice _ n' _ => n' | _ => 0)
  case atStart => exact ⟨l, a, n, cap, 0, [], rfl, HN.out, HO.out, HT.out.symm, by omega, OwnO.nil _ _, Below.refl _ _⟩
  case round =>
    clear HN HO HT
    obtain ⟨l', a', n', c', m, L, rfl, hN, hO, hF, hm, hOw, hb⟩ := hrel
    have hlen := hN.len
    have hle := hN.le
    have HLEN := hid hlen
    have HN := hid hN
    have HO := hid hO
    have HF := hid hF
    have HW := hid hOw
    have HB := hid hb
    have hbs := hb.size
    clear hN hO hF hOw hb hlen
    by_cases h0 : n' = 0
    · subst h0
      have hl : l' = [] := List.eq_nil_of_length_eq_zero HLEN.out
      have hTe := HF.out
      rw [hl, fin_nil] at hTe
      have HTe := hid hTe
      clear hTe
      go_wp2_with fail
      go_ret2
      obtain ⟨a2, c2, rfl, hop⟩ := HW.out.opts
      exact ⟨a2, m, c2, by rw [← HTe.out]; rfl, by rw [← HTe.out]; exact hop, HB.out⟩
    · by_cases h1 : n' < 2
      · have hTe := HF.out
        rw [fin_one (by have := HLEN.out; omega)] at hTe
        have HTe := hid hTe
        clear hTe
        go_wp2_with fail
        go_ret2
        exact ⟨none, 0, 0, by rw [← HTe.out]; rfl, by rw [← HTe.out]; exact opts_nil wr, HB.out⟩
      · have hN := (HN.out.below (HB.out.mono hB))
        obtain ⟨b, off, ha, hb1, hb2, hc⟩ := hN.cells (by omega)
        subst ha
        have x0 : wr.cell? ⟨b, off, none⟩ = some (.int .u8 (l'.getD 0 0)) := hc 0 (by omega)
        have x1 : wr.cell? ⟨b, off + 1, none⟩ = some (.int .u8 (l'.getD 1 0)) := hc 1 (by omega)
        have hx := HO.out.at 1
        obtain ⟨ty, hty⟩ : ∃ ty, ty = l'.getD 0 0 := ⟨_, rfl⟩
        obtain ⟨x, hxe⟩ : ∃ x : Nat, l'.getD 1 0 = (x : Nat) := ⟨(l'.getD 1 0).toNat, by omega⟩
        rw [← hty] at x0
        rw [hxe] at x1 hx
        have HTY := hid hty
        have HX := hid hxe
        have hx255 : x ≤ 255 := by omega
        clear hty hxe hc hx
        by_cases h2 : x < 2
        · have hTe := HF.out
          rw [fin_form (by have := HLEN.out; omega) (by rw [HX.out]; omega)] at hTe
          have HTe := hid hTe
          clear hTe
          go_wp2_with fail
          go_ret2
          exact ⟨none, 0, 0, by rw [← HTe.out]; rfl, by rw [← HTe.out]; exact opts_nil wr, HB.out⟩
        · by_cases h3 : n' < x
          · have hTe := HF.out
            rw [fin_short (by have := HLEN.out; omega) (by rw [HX.out]; omega) (by rw [HX.out]; have := HLEN.out; omega)] at hTe
            have HTe := hid hTe
            clear hTe
            go_wp2_with fail
            go_ret2
            exact ⟨none, 0, 0, by rw [← HTe.out]; rfl, by rw [← HTe.out]; exact opts_nil wr, HB.out⟩
          · have hTe := HF.out
            rw [fin_step (x := x) (by have := HLEN.out; omega) HX.out (by omega) (by have := HLEN.out; omega), ← HTY.out] at hTe
            have HTe := hid hTe
            obtain ⟨d, hd⟩ : ∃ d, d = (l'.take x).drop 2 := ⟨_, rfl⟩
            have HD := hid hd
            clear hTe hN
            have hxc : x ≤ c' := by omega
            obtain ⟨AS, CS, hAS, SN⟩ : ∃ AS CS, ((c' = 2 ∧ AS = some ⟨b, off, none⟩ ∧ CS = 0) ∨ (¬ c' = 2 ∧ AS = some ⟨b, off + 2, none⟩ ∧ CS = c' - 2)) ∧ Nums .u8 wr B AS (x - 2) CS d := by
              have hN2 := (HN.out.below (HB.out.mono hB)).take (m := x) (by omega)
              by_cases hc2 : c' = 2
              · exact ⟨_, _, .inl ⟨hc2, rfl, rfl⟩, by rw [hd]; have := hN2.drop (m := 2) (a' := some ⟨b, off, none⟩) (by omega) (fun _ => rfl) (fun h => absurd hc2 h); rw [hc2] at this; exact this⟩
              · exact ⟨_, _, .inr ⟨hc2, rfl, rfl⟩, by rw [hd]; exact hN2.drop (m := 2) (a' := some ⟨b, off + 2, none⟩) (by omega) (fun h => absurd h hc2) (fun _ => by rw [Option.map_some, Addr.add_lit])⟩
            have HSN := hid SN
            clear hd SN
            have hBr : B ≤ wr.heap.size := by omega
            have NE : Hid (c' = x → Nums .u8 w B (some ⟨b, off, none⟩) (n' - x) 0 (l'.drop x)) := fun hc => by
              have := HN.out.drop (m := x) (a' := some ⟨b, off, none⟩) (by omega) (fun _ => rfl) (fun h => absurd hc h)
              rw [hc, Nat.sub_self] at this; exact this
            have NL : Hid (¬ c' = x → Nums .u8 w B (some ⟨b, off + x, none⟩) (n' - x) (c' - x) (l'.drop x)) := fun hc =>
              HN.out.drop (m := x) (a' := some ⟨b, off + x, none⟩) (by omega) (fun h => absurd h hc) (fun _ => by rw [Option.map_some, Addr.add_lit])
            have NI : Hid (Nums .u8 w B (if c' = x then some ⟨b, off, none⟩ else some ⟨b, off + x, none⟩) (n' - x) (c' - x) (l'.drop x)) := by
              by_cases hc : c' = x
              · rw [if_pos hc]; have := NE.out hc; rw [hc, Nat.sub_self]; exact hid this
              · rw [if_neg hc]; exact hid (NL.out hc)
            have OD := hid (show Oct (l'.drop x) from fun y hy => HO.out y (List.mem_of_mem_drop hy))
            have HM := hid hm
            rcases hAS with ⟨hc2, rfl, rfl⟩ | ⟨hc2, rfl, rfl⟩
            case' inl => (have hx2 : x = 2 := by omega); (have hn2 : n' = 2 := by omega); subst hx2; subst hc2; subst hn2
            all_goals try (have i1 : (2 : Int) ≤ (x : Int) := by omega)
            all_goals try (have i2 : (x : Int) ≤ (c' : Int) := by omega)
            all_goals
              go_upto_region 10 with fail
              have y0 : wr.drew.cell? ⟨b, off, none⟩ = some (.int .u8 ty) := x0
              go_region_law (first | (refine step_call (f := 50) (args := #[.slice (some ⟨b, off, none⟩) 0 0]) rfl (by simp [execOp, resolve, invoke, go_sem]) ?_; refine (bclone_any _ (show Nums .u8 wr.drew B (some ⟨b, off, none⟩) 0 0 d from HSN.out.drew) (by omega) hBr).mono ?_; rintro e w2 ⟨a2, c2, rfl, o2, b2⟩; have z0 := keep_cell b2 y0; have HO2 := hid o2; have HB2 := hid b2; clear o2 b2; refine ⟨_, rfl, ?_⟩) | (refine step_call (f := 50) (args := #[.slice (some ⟨b, off + 2, none⟩) (x - 2) (c' - 2)]) rfl (by simp [execOp, resolve, invoke, go_sem]) ?_; refine (bclone_any _ HSN.out.drew (by omega) hBr).mono ?_; rintro e w2 ⟨a2, c2, rfl, o2, b2⟩; have z0 := keep_cell b2 y0; have HO2 := hid o2; have HB2 := hid b2; clear o2 b2; refine ⟨_, rfl, ?_⟩) | (refine step_append_opt rfl (.tmp 22) (.tmp 31) 23 rfl w.heap.size i0 Try.underlying23 hi hi0 hi1 hi2 _ m L rfl (((HW.out.below ((Below.refl _ _).drew)).below HB2.out).below ((Below.refl _ _).alloc (Nat.le_refl _) _)) ⟨w2.heap.size, 0, none⟩ ty a2 _ c2 d rfl (by simp [go_sem]) (by simp [go_sem]) ((NumsN.own HO2.out HW.out.lt).below ((Below.refl _ _).alloc (Nat.le_refl _) _)) (by omega) (by have := HB2.out.size; simp at this ⊢; omega) ?_; intro v3 w3 g1 g2 g3))
              all_goals
                have HG := hid g1
                have HB3 := hid (own_o_below (((HW.out.below ((Below.refl _ _).drew)).below HB2.out).below ((Below.refl _ _).alloc (Nat.le_refl _) _)) (((HB.out.trans (((Below.refl _ _).drew).mono hbs)).trans (HB2.out.mono hbs)).alloc (by have := HB2.out.size; simp at this; omega) _) g2 (by have := HB2.out.size; simp at this ⊢; omega))
                clear g1 g2 g3 hm
                go_wp2_with fail
                all_goals
                  go_roundw
                  case rel =>
                    first
                    | exact ⟨_, _, _, _, m + 1, _, rfl, NI.out, OD.out, (by rw [HD.out]; exact HTe.out), (by have := HM.out; omega), HG.out, HB3.out⟩
                    | exact ⟨_, _, _, _, m + 1, _, rfl, NE.out rfl, OD.out, (by rw [HD.out]; exact HTe.out), (by have := HM.out; omega), HG.out, HB3.out⟩
                  case measure => simp <;> omega
end Go.Proofs.Ytgoldoaigijmoaa.opc
