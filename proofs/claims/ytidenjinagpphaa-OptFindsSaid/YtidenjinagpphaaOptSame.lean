/- opt: are two options the same, are two rows: the document's own answers. -/
import Derived.Test.YtidenjinagpphaaOpts
import Derived.Deep.QuietTactic
import Derived.BigQuiet
import Derived.WalkSpells
import Derived.Deep.RegionWith
namespace Go.Proofs.Ytidenjinagpphaa.opc
open Go.RowKit
open Go.Proofs.Ytidenjinagpphaa.kit Go.Proofs.Ytidenjinagpphaa.opm
set_option linter.unusedVariables false
set_option maxRecDepth 20000

set_option maxHeartbeats 4000000 in
theorem one_any {B1 B2 n1 n2 c1 c2 : Nat} {a1 a2 : Option Addr} {l1 l2 : List Int} (w : World) (h1 : Nums .u8 w B1 a1 n1 c1 l1) (h2 : Nums .u8 w B2 a2 n2 c2 l2) (hB1 : B1 ≤ w.heap.size) (hB2 : B2 ≤ w.heap.size) (t1 t2 : Int) :
    Calls Try.prog 15 #[.agg #[.int .u8 t1, .slice a1 n1 c1], .agg #[.int .u8 t2, .slice a2 n2 c2]] w fun e w' => e = .returned (.bool (decide ((t1, l1) = (t2, l2)))) ∧ Below w.heap.size w w' := by
  obtain ⟨W2, hW2⟩ : ∃ W2, W2 = (w.alloc (.cells #[.int .u8 t1, .slice a1 n1 c1] 31)).alloc (.cells #[.int .u8 t2, .slice a2 n2 c2] 31) := ⟨_, rfl⟩
  have b2 : Below w.heap.size w W2 := by rw [hW2]; exact ((Below.refl _ _).alloc (Nat.le_refl _) _).alloc (by simp) _
  have x0 : W2.cell? ⟨w.heap.size, 0, none⟩ = some (.int .u8 t1) := by rw [hW2]; simp [go_sem]
  have x1 : W2.cell? ⟨w.heap.size, 1, none⟩ = some (.slice a1 n1 c1) := by rw [hW2]; simp [go_sem]
  have y0 : W2.cell? ⟨w.heap.size + 1, 0, none⟩ = some (.int .u8 t2) := by rw [hW2]; simp [go_sem]
  have y1 : W2.cell? ⟨w.heap.size + 1, 1, none⟩ = some (.slice a2 n2 c2) := by rw [hW2]; simp [go_sem]
  have H1 := hid (h1.below (b2.mono hB1))
  have H2 := hid (h2.below (b2.mono hB2))
  have e1 := hid h1.len
  have e2 := hid h2.len
  have k1 : n1 ≤ 9223372036854775807 := by have := h1.le; have := h1.max; unfold maxLen at this; omega
  have HW := hid hW2
  have HB := hid b2
  clear h1 h2 hW2 b2
  cases ht : (t1 != t2)
  · have hte := hid (show t1 = t2 by simpa [bne] using ht)
    by_cases hn : n1 = n2
    · subst hn
      go_enter Try.func15, Try.ntmps15
      go_upto_region 1 with fail
      rw [← HW.out]
      go_wp2_with fail
      go_loopw [5] (fun i wr => ∃ k : Nat, k ≤ n1 ∧ i = .int .i64 k ∧ l1.take k = l2.take k ∧ ∃ m, wr = W2.drewN m) (fun i _ => n1 - (intOf i).toNat)
      case atStart => exact ⟨0, Nat.zero_le _, rfl, by simp, 0, rfl⟩
      case round =>
        obtain ⟨k, hk, rfl, heq, m, rfl⟩ := hrel
        have HE := hid heq
        clear heq
        by_cases hlt : k < n1
        · obtain ⟨p1, o1, ha1, hb1, hs1, hc1⟩ := H1.out.cells (by omega)
          obtain ⟨p2, o2, ha2, hb2, hs2, hc2⟩ := H2.out.cells (by omega)
          subst ha1 ha2
          have hx1 : W2.cell? ⟨p1, o1 + k, none⟩ = some (.int .u8 (l1.getD k 0)) := hc1 k hlt
          have hx2 : W2.cell? ⟨p2, o2 + k, none⟩ = some (.int .u8 (l2.getD k 0)) := hc2 k hlt
          have l1e := H1.out.le
          have l2e := H2.out.le
          clear hc1 hc2
          obtain ⟨x, hx⟩ : ∃ x, x = l1.getD k 0 := ⟨_, rfl⟩
          obtain ⟨y, hy⟩ : ∃ y, y = l2.getD k 0 := ⟨_, rfl⟩
          rw [← hx] at hx1
          rw [← hy] at hx2
          have X := hid hx
          have Y := hid hy
          clear hx hy
          have hww : IntKind.i64.wrap ((k : Int) + 1) = (k : Int) + 1 := IntWalk.i64_in _ (by omega)
          by_cases hxy : x = y
          · have hb : (x != y) = false := by simp [hxy]
            have HXY := hid hxy
            clear hxy
            go_wp2_with fail
            go_quiet (fail)
            go_wp2_with fail
            go_roundw
            case rel => exact ⟨k + 1, by omega, by go_num, take_eq_succ e1.out e2.out hlt HE.out (by rw [← X.out, ← Y.out]; exact HXY.out), _, rfl⟩
            case measure => simp [intOf]; omega
          · have hb : (x != y) = true := by simp [hxy]
            have HXY := hid hxy
            clear hxy
            go_wp2_with fail
            go_quiet (fail)
            go_wp2_with fail
            go_ret
            exact ⟨ret_bool (by symm; rw [decide_eq_false_iff_not]; intro h; injection h with _ h; exact HXY.out (by rw [X.out, Y.out, h])), below_drewN (below_drewN HB.out _) _⟩
        · obtain rfl : k = n1 := by omega
          go_wp2_with fail
          go_ret
          exact ⟨ret_bool (by symm; rw [decide_eq_true_iff]; have := HE.out; rw [List.take_of_length_le (by rw [e1.out]; omega), List.take_of_length_le (by rw [e2.out]; omega)] at this; rw [this, hte.out]), below_drewN HB.out _⟩
    · have hnn : ((n1 : Int) != (n2 : Int)) = true := by simp; omega
      have HR := hid (show decide ((t1, l1) = (t2, l2)) = false by rw [decide_eq_false_iff_not]; intro h; injection h with _ h; exact hn (by rw [← e1.out, ← e2.out, h]))
      clear hn
      go_enter Try.func15, Try.ntmps15
      go_upto_region 1 with fail
      rw [← HW.out]
      go_wp2_with fail
      go_ret
      exact ⟨ret_bool HR.out.symm, HB.out⟩
  · have HR := hid (show decide ((t1, l1) = (t2, l2)) = false by rw [decide_eq_false_iff_not]; intro h; injection h with h _; rw [h] at ht; simp at ht)
    go_enter Try.func15, Try.ntmps15
    go_upto_region 1 with fail
    rw [← HW.out]
    go_wp2_with fail
    go_ret
    exact ⟨ret_bool HR.out.symm, HB.out⟩

theorem takeO_eq {L1 L2 : List Opt} {n k : Nat} (e1 : L1.length = n) (e2 : L2.length = n) (hk : k < n) (h : L1.take k = L2.take k) (hx : L1.getD k (0, []) = L2.getD k (0, [])) : L1.take (k + 1) = L2.take (k + 1) := by
  rw [takeO (by omega), takeO (by omega), h, hx]
set_option maxHeartbeats 4000000 in
theorem same_any {B1 B2 n1 n2 c1 c2 : Nat} {a1 a2 : Option Addr} {L1 L2 : List Opt} (w : World) (h1 : Opts w B1 a1 n1 c1 L1) (h2 : Opts w B2 a2 n2 c2 L2) (hB1 : B1 ≤ w.heap.size) (hB2 : B2 ≤ w.heap.size) :
    Calls Try.prog 17 #[.slice a1 n1 c1, .slice a2 n2 c2] w fun e w' => e = .returned (.bool (decide (L1 = L2))) ∧ Below w.heap.size w w' := by
  have H1 := hid h1
  have H2 := hid h2
  have e1 := hid h1.len
  have e2 := hid h2.len
  have l1e := h1.le
  have l2e := h2.le
  have k1 : n1 ≤ 9223372036854775807 := by have := h1.le; have := h1.max; unfold maxLen at this; omega
  clear h1 h2
  by_cases hn : n1 = n2
  · subst hn
    go_enter Try.func17, Try.ntmps17
    go_wp2_with fail
    go_loopw [5] (fun i wr => ∃ k : Nat, k ≤ n1 ∧ i = .int .i64 k ∧ L1.take k = L2.take k ∧ Below w.heap.size w wr) (fun i _ => n1 - (intOf i).toNat)
    case atStart => exact ⟨0, Nat.zero_le _, rfl, by simp, Below.refl _ _⟩
    case round =>
      obtain ⟨k, hk, rfl, heq, hb⟩ := hrel
      have HE := hid heq
      have HB := hid hb
      have hbs := hb.size
      clear heq hb
      by_cases hlt : k < n1
      · obtain ⟨p1, o1, aj1, nj1, cj1, ha1, hb1, hs1, u0, u1, u2⟩ := (H1.out.below (HB.out.mono hB1)).cells k hlt
        obtain ⟨p2, o2, aj2, nj2, cj2, ha2, hb2, hs2, v0, v1, v2⟩ := (H2.out.below (HB.out.mono hB2)).cells k hlt
        subst ha1 ha2
        obtain ⟨⟨ty1, d1⟩, hx⟩ : ∃ x, x = L1.getD k (0, []) := ⟨_, rfl⟩
        obtain ⟨⟨ty2, d2⟩, hy⟩ : ∃ y, y = L2.getD k (0, []) := ⟨_, rfl⟩
        rw [← hx] at u0 u2
        rw [← hy] at v0 v2
        have u0' : wr.cell? ⟨p1, o1 + k * 2, none⟩ = some (.int .u8 ty1) := u0
        have v0' : wr.cell? ⟨p2, o2 + k * 2, none⟩ = some (.int .u8 ty2) := v0
        have X := hid hx
        have Y := hid hy
        have U := hid u2
        have V := hid v2
        have hww : IntKind.i64.wrap ((k : Int) + 1) = (k : Int) + 1 := IntWalk.i64_in _ (by omega)
        obtain ⟨q, hq⟩ : ∃ q, q = decide ((ty1, d1) = (ty2, d2)) := ⟨_, rfl⟩
        have HC := hid (fun (W : World) (hb : Below wr.heap.size wr W) => hq ▸ one_any W (U.out.below (hb.mono (by omega))) (V.out.below (hb.mono (by omega))) (by have := hb.size; omega) (by have := hb.size; omega) ty1 ty2)
        have Q := hid hq
        clear hx hy u0 v0 u2 v2 hq
        cases q
        all_goals
          go_upto_region 6 with fail
          go_region_with (go_at_call 15; ((with_reducible refine (HC.out _ ((Below.refl _ _).drew)).mono ?_); rintro e w3 ⟨rfl, b3⟩; have HB3 := hid b3; clear b3))
          all_goals
            go_wp2_with fail
            first
            | (go_roundw
               case rel => exact ⟨k + 1, by omega, by go_num, takeO_eq e1.out e2.out hlt HE.out (by rw [← X.out, ← Y.out]; exact of_decide_eq_true Q.out.symm), HB.out.trans ((((Below.refl _ _).drew).trans HB3.out).mono hbs)⟩
               case measure => simp [intOf]; omega)
            | (go_ret
               exact ⟨ret_bool (by symm; rw [decide_eq_false_iff_not]; intro h; exact of_decide_eq_false Q.out.symm (by rw [X.out, Y.out, h])), HB.out.trans ((((Below.refl _ _).drew).trans HB3.out).mono hbs)⟩)
      · obtain rfl : k = n1 := by omega
        go_wp2_with fail
        go_ret
        exact ⟨ret_bool (by symm; rw [decide_eq_true_iff]; have := HE.out; rw [List.take_of_length_le (by rw [e1.out]; omega), List.take_of_length_le (by rw [e2.out]; omega)] at this; exact this), HB.out⟩
  · have hnn : ((n1 : Int) != (n2 : Int)) = true := by simp; omega
    have HR := hid (show decide (L1 = L2) = false by rw [decide_eq_false_iff_not]; intro h; exact hn (by rw [← e1.out, ← e2.out, h]))
    clear hn
    go_enter Try.func17, Try.ntmps17
    go_wp2_with fail
    go_ret
    exact ⟨ret_bool HR.out.symm, Below.refl _ _⟩
end Go.Proofs.Ytidenjinagpphaa.opc
