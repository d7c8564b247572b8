/- opt: are two rows of options the same, by the package; the place of the first one of a type. -/
import Derived.Test.YtidenjinagpphaaOptSame
import Derived.Test.YtidenjinagpphaaStrNums
namespace Go.Proofs.Ytidenjinagpphaa.opc
open Go.RowKit
open Go.Proofs.Ytidenjinagpphaa.kit Go.Proofs.Ytidenjinagpphaa.opm Go.Proofs.Ytidenjinagpphaa.hxt Go.Proofs.Ytidenjinagpphaa.hxm
set_option linter.unusedVariables false
set_option maxRecDepth 20000

theorem bequal_any {B1 B2 n1 n2 c1 c2 : Nat} {a1 a2 : Option Addr} {l1 l2 : List Int} (w : World) (h1 : Nums .u8 w B1 a1 n1 c1 l1) (h2 : Nums .u8 w B2 a2 n2 c2 l2) (o1 : ∀ x ∈ l1, 0 ≤ x ∧ x ≤ 255) (o2 : ∀ x ∈ l2, 0 ≤ x ∧ x ≤ 255) :
    Calls Try.prog 54 #[.slice a1 n1 c1, .slice a2 n2 c2] w fun e w' => e = .returned (.bool (decide (l1 = l2))) ∧ w = w' := by
  have k1 := conv_nums h1
  have k2 := conv_nums h2
  clear h1 h2
  by_cases h : l1 = l2
  · have hE := str_eq_true (show strOfNums l1 = strOfNums l2 by rw [h])
    have HH := hid h
    clear h
    go_enter Try.func54, Try.ntmps54
    go_wp2
    go_ret
    exact ⟨ret_bool (by rw [decide_eq_true HH.out]), rfl⟩
  · have hE := str_eq_false (show ¬ strOfNums l1 = strOfNums l2 from fun e => h (by rw [← nums_str l1 o1, ← nums_str l2 o2, e]))
    have HH := hid h
    clear h
    go_enter Try.func54, Try.ntmps54
    go_wp2
    go_ret
    exact ⟨ret_bool (by rw [decide_eq_false HH.out]), rfl⟩
theorem alike_any {B1 B2 n1 n2 c1 c2 : Nat} {a1 a2 : Option Addr} {l1 l2 : List Int} (w : World) (h1 : Nums .u8 w B1 a1 n1 c1 l1) (h2 : Nums .u8 w B2 a2 n2 c2 l2) (hB1 : B1 ≤ w.heap.size) (hB2 : B2 ≤ w.heap.size) (o1 : ∀ x ∈ l1, 0 ≤ x ∧ x ≤ 255) (o2 : ∀ x ∈ l2, 0 ≤ x ∧ x ≤ 255) (t1 t2 : Int) :
    Calls Try.prog 35 #[.agg #[.int .u8 t1, .slice a1 n1 c1], .agg #[.int .u8 t2, .slice a2 n2 c2]] w fun e w' => e = .returned (.bool (decide ((t1, l1) = (t2, l2)))) ∧ Below w.heap.size w w' := by
  obtain ⟨W2, hW2⟩ : ∃ W2, W2 = (w.alloc (.cells #[.int .u8 t1, .slice a1 n1 c1] 31)).alloc (.cells #[.int .u8 t2, .slice a2 n2 c2] 31) := ⟨_, rfl⟩
  have b2 : Below w.heap.size w W2 := by rw [hW2]; exact ((Below.refl _ _).alloc (Nat.le_refl _) _).alloc (by simp) _
  have x0 : W2.cell? ⟨w.heap.size, 0, none⟩ = some (.int .u8 t1) := by rw [hW2]; simp [go_sem]
  have x1 : W2.cell? ⟨w.heap.size, 1, none⟩ = some (.slice a1 n1 c1) := by rw [hW2]; simp [go_sem]
  have y0 : W2.cell? ⟨w.heap.size + 1, 0, none⟩ = some (.int .u8 t2) := by rw [hW2]; simp [go_sem]
  have y1 : W2.cell? ⟨w.heap.size + 1, 1, none⟩ = some (.slice a2 n2 c2) := by rw [hW2]; simp [go_sem]
  obtain ⟨q, hq⟩ : ∃ q, q = decide (l1 = l2) := ⟨_, rfl⟩
  have HC := hid (hq ▸ bequal_any W2 (h1.below (b2.mono hB1)) (h2.below (b2.mono hB2)) o1 o2)
  have Q := hid hq
  have HW := hid hW2
  have HB := hid b2
  clear h1 h2 hW2 b2 hq
  cases ht : (t1 == t2)
  · have HR := hid (show decide ((t1, l1) = (t2, l2)) = false by rw [decide_eq_false_iff_not]; intro h; injection h with h _; rw [h] at ht; simp at ht)
    go_enter Try.func35, Try.ntmps35
    go_upto_region 1 with fail
    rw [← HW.out]
    go_wp2_with fail
    go_ret
    exact ⟨ret_bool HR.out.symm, HB.out⟩
  · have HR := hid (show decide ((t1, l1) = (t2, l2)) = q by rw [Q.out, show t1 = t2 by simpa using ht]; simp)
    go_enter Try.func35, Try.ntmps35
    go_upto_region 1 with fail
    rw [← HW.out]
    go_wp2_with (go_at_call 54; ((with_reducible refine HC.out.mono ?_); rintro e w3 ⟨rfl, rfl⟩))
    go_ret
    exact ⟨ret_bool HR.out.symm, HB.out⟩
set_option maxHeartbeats 2000000 in
theorem rfind_any {w : World} {B n cap : Nat} {a : Option Addr} {L : List Opt} (h : Opts w B a n cap L) (hn : n ≤ 100000) (t : Int) :
    Calls Try.prog 14 #[.slice a n cap, .int .u8 t] w fun e w' => ∃ r : Int, e = .returned (.int .i64 r) ∧ ((r = -1 ∧ ∀ j, j < n → ¬ (L.getD j (0, [])).1 = t) ∨ ∃ k : Nat, r = k ∧ k < n ∧ (L.getD k (0, [])).1 = t ∧ ∀ j, j < k → ¬ (L.getD j (0, [])).1 = t) ∧ w = w' := by
  have hle := h.le
  have HH := hid h
  clear h
  go_enter Try.func14, Try.ntmps14
  go_wp2_with fail
  go_loopw [5] (fun iv wr => ∃ k : Nat, k ≤ n ∧ iv = .int .i64 (k : Nat) ∧ (∀ j, j < k → ¬ (L.getD j (0, [])).1 = t) ∧ wr = w) (fun iv _ => n - (intOf iv).toNat)
  case atStart => exact ⟨0, Nat.zero_le _, rfl, (fun j hj => by omega), rfl⟩
  case round =>
    obtain ⟨k, hk, rfl, hno, rfl⟩ := hrel
    have NO := hid hno
    clear hno
    have hww : IntKind.i64.wrap ((k : Int) + 1) = (k : Int) + 1 := IntWalk.i64_in _ (by omega)
    by_cases hlt : k < n
    · obtain ⟨b, off, aj, nj, cj, ha, h1, h2, h3, h4, h5⟩ := HH.out.cells k hlt
      subst ha
      obtain ⟨⟨ty, d⟩, ho⟩ : ∃ o, o = L.getD k (0, []) := ⟨_, rfl⟩
      rw [← ho] at h3
      have h3' : wr.cell? ⟨b, off + k * 2, none⟩ = some (.int .u8 ty) := h3
      have HO := hid ho
      clear h3 h5 ho
      cases ht : (ty == t)
      · go_wp2_with fail
        go_roundw
        case rel => exact ⟨k + 1, by omega, by go_num, (fun j hj => by
          by_cases hj' : j < k
          · exact NO.out j hj'
          · obtain rfl : j = k := by omega
            rw [← HO.out]; simpa using ht), by first | trivial | rfl⟩
        case measure => simp [intOf]; omega
      · go_wp2_with fail
        go_ret
        exact ⟨k, rfl, .inr ⟨k, rfl, hlt, by rw [← HO.out]; simpa using ht, NO.out⟩, rfl⟩
    · obtain rfl : k = n := by omega
      go_wp2_with fail
      go_ret
      exact ⟨-1, rfl, .inl ⟨rfl, NO.out⟩, rfl⟩

set_option maxHeartbeats 4000000 in
theorem eqfunc_any {B1 B2 n1 n2 c1 c2 : Nat} {a1 a2 : Option Addr} {L1 L2 : List Opt} (w : World) (h1 : Opts w B1 a1 n1 c1 L1) (h2 : Opts w B2 a2 n2 c2 L2) (hB1 : B1 ≤ w.heap.size) (hB2 : B2 ≤ w.heap.size)
    (o1 : ∀ o ∈ L1, ∀ x ∈ o.2, 0 ≤ x ∧ x ≤ 255) (o2 : ∀ o ∈ L2, ∀ x ∈ o.2, 0 ≤ x ∧ x ≤ 255) :
    Calls Try.prog 34 #[.slice a1 n1 c1, .slice a2 n2 c2, .func (.func 35) #[] #[]] w fun e w' => e = .returned (.bool (decide (L1 = L2))) ∧ Below w.heap.size w w' := by
  have H1 := hid h1
  have H2 := hid h2
  have e1 := hid h1.len
  have e2 := hid h2.len
  have l1e := h1.le
  have l2e := h2.le
  have k1 : n1 ≤ 9223372036854775807 := by have := h1.le; have := h1.max; unfold maxLen at this; omega
  have O1 := hid o1
  have O2 := hid o2
  clear h1 h2 o1 o2
  by_cases hn : n1 = n2
  · subst hn
    go_enter Try.func34, Try.ntmps34
    go_wp2_with fail
    go_loopw [7, 8, 9, 17] (fun x7 x8 x9 i wr => ∃ k : Nat, k ≤ n1 ∧ i = .int .i64 k ∧ L1.take k = L2.take k ∧ Below w.heap.size w wr) (fun _ _ _ i _ => n1 - (intOf i).toNat)
    case atStart => exact ⟨0, Nat.zero_le _, rfl, by simp, Below.refl _ _⟩
    case round =>
      obtain ⟨k, hk, rfl, heq, hb⟩ := hrel
      have HE := hid heq
      have HB := hid hb
      have hbs := hb.size
      clear heq hb
      by_cases hlt : k < n1
      · obtain ⟨p1, o1, aj1, nj1, cj1, ha1, hb1, hs1, u0, u1, u2⟩ := (H1.out.below (HB.out.mono hB1)).cells k hlt
        obtain ⟨p2, o2, aj2, nj2, cj2, ha2, hb2, hs2, v0, v1, v2⟩ := (H2.out.below (HB.out.mono hB2)).cells k hlt
        subst ha1 ha2
        have oo1 := O1.out (L1.getD k (0, [])) (by rw [List.getD_eq_getElem?_getD, List.getElem?_eq_getElem (by rw [e1.out]; exact hlt)]; exact List.getElem_mem _)
        have oo2 := O2.out (L2.getD k (0, [])) (by rw [List.getD_eq_getElem?_getD, List.getElem?_eq_getElem (by rw [e2.out]; exact hlt)]; exact List.getElem_mem _)
        obtain ⟨⟨ty1, d1⟩, hx⟩ : ∃ x, x = L1.getD k (0, []) := ⟨_, rfl⟩
        obtain ⟨⟨ty2, d2⟩, hy⟩ : ∃ y, y = L2.getD k (0, []) := ⟨_, rfl⟩
        rw [← hx] at u0 u2 oo1
        rw [← hy] at v0 v2 oo2
        have u0' : wr.cell? ⟨p1, o1 + k * 2, none⟩ = some (.int .u8 ty1) := u0
        obtain ⟨W5, hW5⟩ : ∃ W5, W5 = wr.alloc (.cells #[.int .u8 ty1, .slice aj1 nj1 cj1] 31) := ⟨_, rfl⟩
        have b5 : Below wr.heap.size wr W5 := by rw [hW5]; exact (Below.refl _ _).alloc (Nat.le_refl _) _
        have v0' : W5.cell? ⟨p2, o2 + k * 2, none⟩ = some (.int .u8 ty2) := keep_cell b5 v0
        have v1' : W5.cell? ⟨p2, o2 + k * 2 + 1, none⟩ = some (.slice aj2 nj2 cj2) := keep_cell b5 v1
        have z0 : W5.cell? ⟨wr.heap.size, 0, none⟩ = some (.int .u8 ty1) := by rw [hW5]; simp [go_sem]
        have z1 : W5.cell? ⟨wr.heap.size, 1, none⟩ = some (.slice aj1 nj1 cj1) := by rw [hW5]; simp [go_sem]
        obtain ⟨W7, hW7⟩ : ∃ W7, W7 = W5.alloc (.cells #[.int .u8 ty2, .slice aj2 nj2 cj2] 31) := ⟨_, rfl⟩
        have b7 : Below W5.heap.size W5 W7 := by rw [hW7]; exact (Below.refl _ _).alloc (Nat.le_refl _) _
        have y0 := keep_cell b7 z0
        have y1 := keep_cell b7 z1
        have y2 : W7.cell? ⟨W5.heap.size, 0, none⟩ = some (.int .u8 ty2) := by rw [hW7]; simp [go_sem]
        have y3 : W7.cell? ⟨W5.heap.size, 1, none⟩ = some (.slice aj2 nj2 cj2) := by rw [hW7]; simp [go_sem]
        have b57 := b5.trans (b7.mono b5.size)
        have X := hid hx
        have Y := hid hy
        obtain ⟨q, hq⟩ : ∃ q, q = decide ((ty1, d1) = (ty2, d2)) := ⟨_, rfl⟩
        have HC := hid (hq ▸ alike_any W7 (u2.below (b57.mono (by omega))) (v2.below (b57.mono (by omega))) (by have := b57.size; omega) (by have := b57.size; omega) oo1 oo2 ty1 ty2)
        have Q := hid hq
        have HW5 := hid hW5
        have HW7 := hid hW7
        have HB7 := hid (HB.out.trans (b57.mono hbs))
        have hww : IntKind.i64.wrap ((k : Int) + 1) = (k : Int) + 1 := IntWalk.i64_in _ (by omega)
        clear hx hy u0 v0 v1 u2 v2 hq hW5 hW7 b5 b7 b57 oo1 oo2 z0 z1
        cases q
        all_goals
          go_upto_region 6 with fail
          rw [← HW5.out]
          go_upto_region 7 with fail
          rw [← HW7.out]
          go_wp2_with (go_at_call 35; ((with_reducible refine HC.out.mono ?_); rintro e w3 ⟨rfl, b3⟩))
          first
          | (go_roundw
             case rel => exact ⟨k + 1, by omega, by go_num, takeO_eq e1.out e2.out hlt HE.out (by rw [← X.out, ← Y.out]; exact of_decide_eq_true Q.out.symm), HB7.out.trans (b3.mono HB7.out.size)⟩
             case measure => simp [intOf]; omega)
          | (go_ret
             exact ⟨ret_bool (by symm; rw [decide_eq_false_iff_not]; intro h; exact of_decide_eq_false Q.out.symm (by rw [X.out, Y.out, h])), HB7.out.trans (b3.mono HB7.out.size)⟩)
      · obtain rfl : k = n1 := by omega
        go_wp2_with fail
        go_ret
        exact ⟨ret_bool (by symm; rw [decide_eq_true_iff]; have := HE.out; rw [List.take_of_length_le (by rw [e1.out]; omega), List.take_of_length_le (by rw [e2.out]; omega)] at this; exact this), HB.out⟩
  · have hnn : ((n1 : Int) != (n2 : Int)) = true := by simp; omega
    have HR := hid (show decide (L1 = L2) = false by rw [decide_eq_false_iff_not]; intro h; exact hn (by rw [← e1.out, ← e2.out, h]))
    clear hn
    go_enter Try.func34, Try.ntmps34
    go_wp2_with fail
    go_ret
    exact ⟨ret_bool HR.out.symm, Below.refl _ _⟩
theorem psame_any {B1 B2 n1 n2 c1 c2 : Nat} {a1 a2 : Option Addr} {L1 L2 : List Opt} (w : World) (h1 : Opts w B1 a1 n1 c1 L1) (h2 : Opts w B2 a2 n2 c2 L2) (hB1 : B1 ≤ w.heap.size) (hB2 : B2 ≤ w.heap.size)
    (o1 : ∀ o ∈ L1, ∀ x ∈ o.2, 0 ≤ x ∧ x ≤ 255) (o2 : ∀ o ∈ L2, ∀ x ∈ o.2, 0 ≤ x ∧ x ≤ 255) :
    Calls Try.prog 16 #[.slice a1 n1 c1, .slice a2 n2 c2] w fun e w' => e = .returned (.bool (decide (L1 = L2))) ∧ Below w.heap.size w w' := by
  have HC := hid (eqfunc_any w h1 h2 hB1 hB2 o1 o2)
  clear h1 h2
  go_enter Try.func16, Try.ntmps16
  go_wp2_with (go_at_call 34; ((with_reducible refine HC.out.mono ?_); rintro e w3 ⟨rfl, b3⟩))
  go_ret
  exact ⟨rfl, b3⟩
end Go.Proofs.Ytidenjinagpphaa.opc
