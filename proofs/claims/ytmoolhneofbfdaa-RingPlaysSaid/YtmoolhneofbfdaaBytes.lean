/- Slices of bytes: the library's Equal and Clone over them. -/
import Derived.Test.YtmoolhneofbfdaaNums
import Derived.Deep.QuietTactic
import Derived.BigQuiet
import Derived.WalkSpells
namespace Go.Proofs.Ytmoolhneofbfdaa.kit
open Go.RowKit

theorem Try.info_u8 : (Try.prog.info? 5).map (fun i => (i.zero, i.size, i.bytes)) = some (some (.int .u8 0), 1, 1) := by kernel_rfl

theorem take_getD {l : List Int} {k : Nat} (h : k < l.length) : l.take (k + 1) = l.take k ++ [l.getD k 0] := by
  rw [List.take_succ_eq_append_getElem h, List.getD_eq_getElem?_getD, List.getElem?_eq_getElem h]; rfl
theorem take_eq_succ {l1 l2 : List Int} {n k : Nat} (e1 : l1.length = n) (e2 : l2.length = n) (hk : k < n) (h : l1.take k = l2.take k) (hx : l1.getD k 0 = l2.getD k 0) : l1.take (k + 1) = l2.take (k + 1) := by
  rw [take_getD (by omega), take_getD (by omega), h, hx]

/-- slices.Equal over bytes -/
theorem equal_any {B1 B2 n1 n2 c1 c2 : Nat} {a1 a2 : Option Addr} {l1 l2 : List Int} (w : World) (h1 : Nums .u8 w B1 a1 n1 c1 l1) (h2 : Nums .u8 w B2 a2 n2 c2 l2) :
    Calls Try.prog 12 #[.slice a1 n1 c1, .slice a2 n2 c2] w fun e w' => e = .returned (.bool (decide (l1 = l2))) ∧ ∃ m, w' = w.drewN m := by
  have e1 := h1.len
  have e2 := h2.len
  have k1 : n1 ≤ 9223372036854775807 := by have := h1.le; have := h1.max; unfold maxLen at this; omega
  by_cases hn : n1 = n2
  · subst hn
    have HC1 := hid h1.cells
    have HC2 := hid h2.cells
    clear h1 h2
    have E1 := hid e1
    have E2 := hid e2
    clear e1 e2
    go_enter Try.func12, Try.ntmps12
    go_wp2
    go_loopw [13] (fun i wr => ∃ k : Nat, k ≤ n1 ∧ i = .int .i64 k ∧ l1.take k = l2.take k ∧ ∃ m, wr = w.drewN m) (fun i _ => n1 - (intOf i).toNat)
    case atStart => exact ⟨0, Nat.zero_le _, rfl, by simp, 0, rfl⟩
    case round =>
      obtain ⟨k, hk, rfl, heq, m, rfl⟩ := hrel
      have HE := hid heq
      clear heq
      by_cases hlt : k < n1
      · obtain ⟨b1, o1, ha1, hb1, hs1, hc1⟩ := HC1.out (by omega)
        obtain ⟨b2, o2, ha2, hb2, hs2, hc2⟩ := HC2.out (by omega)
        subst ha1 ha2
        have hx1 : w.cell? ⟨b1, o1 + k, none⟩ = some (.int .u8 (l1.getD k 0)) := hc1 k hlt
        have hx2 : w.cell? ⟨b2, o2 + k, none⟩ = some (.int .u8 (l2.getD k 0)) := hc2 k hlt
        clear hc1 hc2 HC1 HC2
        obtain ⟨x, hx⟩ : ∃ x, x = l1.getD k 0 := ⟨_, rfl⟩
        obtain ⟨y, hy⟩ : ∃ y, y = l2.getD k 0 := ⟨_, rfl⟩
        rw [← hx] at hx1
        rw [← hy] at hx2
        have X := hid hx
        have Y := hid hy
        clear hx hy
        by_cases hxy : x = y
        · have hb : (x != y) = false := by simp [hxy]
          have HXY := hid hxy
          clear hxy
          go_wp2_with fail
          go_quiet (fail)
          go_wp2_with fail
          go_roundw
          case rel => exact ⟨k + 1, by omega, by go_num, take_eq_succ E1.out E2.out hlt HE.out (by rw [← X.out, ← Y.out]; exact HXY.out), _, rfl⟩
          case measure => simp [intOf]; omega
        · have hb : (x != y) = true := by simp [hxy]
          have HXY := hid hxy
          clear hxy
          go_wp2_with fail
          go_quiet (fail)
          go_wp2_with fail
          go_ret
          exact ⟨ret_bool (by symm; rw [decide_eq_false_iff_not]; intro h; exact HXY.out (by rw [X.out, Y.out, h])), m + nq, World.drewN_drewN _ _ _⟩
      · obtain rfl : k = n1 := by omega
        go_wp2
        go_ret
        exact ⟨ret_bool (by symm; rw [decide_eq_true_iff]; have := HE.out; rw [List.take_of_length_le (by rw [E1.out]; omega), List.take_of_length_le (by rw [E2.out]; omega)] at this; exact this), m, rfl⟩
  · have hb : decide (l1 = l2) = false := by simp; intro h; exact hn (by rw [← e1, ← e2, h])
    have hnn : ((n1 : Int) != (n2 : Int)) = true := by simp; omega
    have HB := hid hb
    clear h1 h2 e1 e2 hb
    go_enter Try.func12, Try.ntmps12
    go_wp2
    go_ret
    exact ⟨ret_bool HB.out.symm, 0, rfl⟩

/-- slices.Clone over bytes: bytes of the call's own -/
theorem clone_any {B n cap : Nat} {a : Option Addr} {l : List Int} (w : World) (h : Nums .u8 w B a n cap l) (hn : n ≤ 70368744177664) (hB : B ≤ w.heap.size) :
    Calls Try.prog 31 #[.slice a n cap] w fun e w' => ∃ a' c', e = .returned (.slice a' n c') ∧ w'.ownsRow w.heap.size 5 1 (.slice a' n c') n (l.map (Value.int .u8)) ∧ Below w.heap.size w w' := by
  obtain ⟨i0, hi, hz0, hz1, hz2⟩ := info_parts Try.info_u8
  have hnil := fun (w : World) (a : Option Addr) (n c : Nat) => Lib.run_eql_slice_nil (P := Try.prog) w 22 5 a n c 0 0 Try.underlying22
  cases a with
  | none =>
    have hc := h.nil rfl
    have hm : n = 0 := by have := h.le; omega
    subst hc hm
    have hl : l = [] := List.eq_nil_of_length_eq_zero h.len
    subst hl
    clear h
    go_enter Try.func31, Try.ntmps31
    go_wp2
    go_ret
    exact ⟨none, 0, rfl, World.ownsRow_nil _ _ _ _, Below.refl _ _⟩
  | some ad =>
    have HN := hid (h.below (Below.refl _ _))
    clear h
    go_enter Try.func31, Try.ntmps31
    go_wp2_with (at_builtin; go_loud (refine wpList_append_nums rfl _ _ 22 rfl w.heap.size 5 i0 (.int .u8 0) 1 Try.underlying22 hi hz0 hz1 hz2 rfl _ 0 [] rfl (World.ownsRow_made w #[] 0 (Nat.le_refl _) (by decide) rfl) (some ad) n cap B l rfl (HN.out.below ((Below.refl _ _).alloc hB _)) (by unfold maxLen; omega) (by omega) (by simp) ?_); go_loud (intro v' w1 h1 h2))
    go_ret
    simp only [Nat.zero_add, List.nil_append] at h1
    have hb := own_below (w0 := w) (World.ownsRow_made w (e := 5) (size := 1) #[] 0 (Nat.le_refl _) (by decide) rfl) ((Below.refl _ _).alloc (Nat.le_refl _) _) h2 (by simp)
    obtain ⟨a', c', rfl⟩ := own_slice h1
    exact ⟨a', c', rfl, h1, hb⟩
end Go.Proofs.Ytmoolhneofbfdaa.kit
