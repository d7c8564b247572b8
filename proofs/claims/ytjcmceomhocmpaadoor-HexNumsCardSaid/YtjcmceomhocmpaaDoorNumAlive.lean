/- The example of hex, for its laws over numbers. -/
import Derived.Test.YtjcmceomhocmpaaDoorNumRef
import Derived.Test.YtjcmceomhocmpaaDoorNum
import Derived.Test.YtjcmceomhocmpaaDoorHexText
namespace Go.Proofs.YtjcmceomhocmpaaDoor.nmc
open Go.RowKit
open Go.Proofs.YtjcmceomhocmpaaDoor.kit Go.Proofs.YtjcmceomhocmpaaDoor.hxm Go.Proofs.YtjcmceomhocmpaaDoor.hxt Go.Proofs.YtjcmceomhocmpaaDoor.nmm
set_option linter.unusedVariables false
theorem alive_any (w : World) : Calls Tryd.prog 17 #[] w fun e w' => e = .returned (.bool true) ∧ Below w.heap.size w w' := by
  have hN : Nums .u8 (w.alloc (.cells #[.int .u8 1, .int .u8 171] 5)) (w.heap.size + 1) (some ⟨w.heap.size, 0, none⟩) 2 2 [1, 171] := nums_two
  have HN := hid hN
  have hE := hid (show ((strOfNums (textI [1, 171])).toList == [48, 49, 97, 98]) = true by decide +kernel)
  clear hN
  go_enter Tryd.func17, Tryd.ntmps17
  go_wp2_with (go_at_call 25; go_loud (refine (text_any _ HN.out (by intro x hx; simp only [List.mem_cons, List.not_mem_nil, or_false] at hx; rcases hx with rfl | rfl <;> decide) (by omega) (by simp)).mono ?_); go_loud (rintro e w1 ⟨rfl, hb⟩))
  rw [hE.out]
  go_ret
  exact ⟨rfl, ((Below.refl _ _).alloc (Nat.le_refl _) _).trans (hb.mono (by simp))⟩
end Go.Proofs.YtjcmceomhocmpaaDoor.nmc
