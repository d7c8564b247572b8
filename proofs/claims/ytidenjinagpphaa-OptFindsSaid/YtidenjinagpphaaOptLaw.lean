/- opt: that the package lives. -/
import Derived.Test.YtidenjinagpphaaOpts
import Derived.Test.YtidenjinagpphaaBeLaw
namespace Go.Proofs.Ytidenjinagpphaa.opc
open Go.RowKit
open Go.Proofs.Ytidenjinagpphaa.kit Go.Proofs.Ytidenjinagpphaa.opm
set_option linter.unusedVariables false
set_option maxRecDepth 20000

theorem alive_any (w : World) : Calls Try.prog 19 #[] w fun e w' => e = .returned (.bool true) ∧ Below w.heap.size w w' := by
  obtain ⟨W1, hW1⟩ : ∃ W1, W1 = w.alloc (.cells #[.int .u8 5, .int .u8 220] 5) := ⟨_, rfl⟩
  have n1 : Nums .u8 W1 (w.heap.size + 1) (some ⟨w.heap.size, 0, none⟩) 2 2 [5, 220] := by rw [hW1]; exact nums_two
  have b1 : Below w.heap.size w W1 := by rw [hW1]; exact (Below.refl _ _).alloc (Nat.le_refl _) _
  have hz : W1.heap.size = w.heap.size + 1 := by rw [hW1]; simp
  obtain ⟨W2, hW2⟩ : ∃ W2, W2 = W1.alloc (.cells #[.int .u8 1, .slice (some ⟨w.heap.size, 0, none⟩) 2 2] 31) := ⟨_, rfl⟩
  have b2 : Below W1.heap.size W1 W2 := by rw [hW2]; exact (Below.refl _ _).alloc (Nat.le_refl _) _
  have o2 : Opts W2 W2.heap.size (some ⟨w.heap.size + 1, 0, none⟩) 1 1 [(1, [5, 220])] := by
    refine ⟨rfl, Nat.le_refl _, by decide, (by intro h; cases h), fun j hj => ?_⟩
    obtain rfl : j = 0 := by omega
    have hs2 : W2.heap.size = W1.heap.size + 1 := by rw [hW2]; simp
    refine ⟨w.heap.size + 1, 0, some ⟨w.heap.size, 0, none⟩, 2, 2, rfl, by omega, by omega, ?_, ?_, ?_⟩
    · rw [← hz, hW2]; simp [go_sem]
    · rw [← hz, hW2]; simp [go_sem]
    · exact (n1.below (b2.mono (by omega))).mono (by omega)
  have HW1 := hid hW1
  have HW2 := hid hW2
  have O2 := hid o2
  have BB := hid (b1.trans (b2.mono b1.size))
  clear hW1 hW2 o2 n1 b1 b2 hz
  go_enter Try.func19, Try.ntmps19
  go_upto_region 1 with fail
  go_wp2_with (first | (go_at_call 36; rw [← HW1.out, ← HW2.out]; refine (build_any O2.out (Nat.le_refl _) (by decide)).mono ?_; rintro e w3 ⟨a3, m3, c3, rfl, h3, b3⟩) | (go_at_call 25; refine (bec.equal_same _ (h3.below ((Below.refl _ _).alloc (Nat.le_refl _) _)) (nums_lit (w := w3) (k := .u8) (e := 5) (cs := #[.int .u8 1, .int .u8 4, .int .u8 5, .int .u8 220]) (n := 4) [1, 4, 5, 220] rfl (by decide) rfl) (by decide)).mono ?_; rintro e w4 ⟨rfl, mm, rfl⟩))
  go_ret
  exact ⟨rfl, below_drewN ((BB.out.trans (b3.mono BB.out.size)).alloc (by have := BB.out.size; have := b3.size; omega) _) mm⟩
end Go.Proofs.Ytidenjinagpphaa.opc
