/- Slices of bytes: the library's Equal over them. -/
import Derived.Test.YtnfklhebcloolaaDoorBytes
namespace Go.Proofs.YtnfklhebcloolaaDoor.kit
open Go.RowKit

/-- slices.Equal over bytes -/
theorem equal_any {B1 B2 n1 n2 c1 c2 : Nat} {a1 a2 : Option Addr} {l1 l2 : List Int} (w : World) (h1 : Nums .u8 w B1 a1 n1 c1 l1) (h2 : Nums .u8 w B2 a2 n2 c2 l2) :
    Calls Tryd.prog 13 #[.slice a1 n1 c1, .slice a2 n2 c2] w fun e w' => e = .returned (.bool (decide (l1 = l2))) ∧ ∃ m, w' = w.drewN m := by
  have e1 := h1.len
  have e2 := h2.len
  have k1 : n1 ≤ 9223372036854775807 := by have := h1.le; have := h1.max; unfold maxLen at this; omega
  by_cases hn : n1 = n2
  · subst hn
    have HC1 := hid h1.cells
    have HC2 := hid h2.cells
    clear h1 h2
    have E1 := hid e1
    have E2 := hid e2
    clear e1 e2
    go_enter Tryd.func13, Tryd.ntmps13
    go_wp2
    go_loopw [13] (fun i wr => ∃ k : Nat, k ≤ n1 ∧ i = .int .i64 k ∧ l1.take k = l2.take k ∧ ∃ m, wr = w.drewN m) (fun i _ => n1 - (intOf i).toNat)
    case atStart => exact ⟨0, Nat.zero_le _, rfl, by simp, 0, rfl⟩
    case round =>
      obtain ⟨k, hk, rfl, heq, m, rfl⟩ := hrel
      have HE := hid heq
      clear heq
      by_cases hlt : k < n1
      · obtain ⟨b1, o1, ha1, hb1, hs1, hc1⟩ := HC1.out (by omega)
        obtain ⟨b2, o2, ha2, hb2, hs2, hc2⟩ := HC2.out (by omega)
        subst ha1 ha2
        have hx1 : w.cell? ⟨b1, o1 + k, none⟩ = some (.int .u8 (l1.getD k 0)) := hc1 k hlt
        have hx2 : w.cell? ⟨b2, o2 + k, none⟩ = some (.int .u8 (l2.getD k 0)) := hc2 k hlt
        clear hc1 hc2 HC1 HC2
        obtain ⟨x, hx⟩ : ∃ x, x = l1.getD k 0 := ⟨_, rfl⟩
        obtain ⟨y, hy⟩ : ∃ y, y = l2.getD k 0 := ⟨_, rfl⟩
        rw [← hx] at hx1
        rw [← hy] at hx2
        have X := hid hx
        have Y := hid hy
        clear hx hy
        by_cases hxy : x = y
        · have hb : (x != y) = false := by simp [hxy]
          have HXY := hid hxy
          clear hxy
          go_wp2_with fail
          go_quiet (fail)
          go_wp2_with fail
          go_roundw
          case rel => exact ⟨k + 1, by omega, by go_num, take_eq_succ E1.out E2.out hlt HE.out (by rw [← X.out, ← Y.out]; exact HXY.out), _, rfl⟩
          case measure => simp [intOf]; omega
        · have hb : (x != y) = true := by simp [hxy]
          have HXY := hid hxy
          clear hxy
          go_wp2_with fail
          go_quiet (fail)
          go_wp2_with fail
          go_ret
          exact ⟨ret_bool (by symm; rw [decide_eq_false_iff_not]; intro h; exact HXY.out (by rw [X.out, Y.out, h])), m + nq, World.drewN_drewN _ _ _⟩
      · obtain rfl : k = n1 := by omega
        go_wp2
        go_ret
        exact ⟨ret_bool (by symm; rw [decide_eq_true_iff]; have := HE.out; rw [List.take_of_length_le (by rw [E1.out]; omega), List.take_of_length_le (by rw [E2.out]; omega)] at this; exact this), m, rfl⟩
  · have hb : decide (l1 = l2) = false := by simp; intro h; exact hn (by rw [← e1, ← e2, h])
    have hnn : ((n1 : Int) != (n2 : Int)) = true := by simp; omega
    have HB := hid hb
    clear h1 h2 e1 e2 hb
    go_enter Tryd.func13, Tryd.ntmps13
    go_wp2
    go_ret
    exact ⟨ret_bool HB.out.symm, 0, rfl⟩

end Go.Proofs.YtnfklhebcloolaaDoor.kit
