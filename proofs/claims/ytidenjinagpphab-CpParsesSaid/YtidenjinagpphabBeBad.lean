/- be's Reader: is it bad? -/
import Derived.Test.YtidenjinagpphabBeRdr
namespace Go.Proofs.Ytidenjinagpphab.bec
open Go.RowKit
open Go.Proofs.Ytidenjinagpphab.kit
set_option linter.unusedVariables false

theorem bad_any (w : World) (g D : Nat) (bad : Bool) (l : List Int) (h : RdrAt w g D bad l) :
    Calls Try.prog 74 #[.pointer (some ⟨g, 0, none⟩)] w fun e w' => e = .returned (.bool bad) ∧ w = w' := by
  have hc := h.isBad
  clear h
  go_enter Try.func74, Try.ntmps74
  go_wp2
  go_ret
  exact ⟨rfl, rfl⟩

end Go.Proofs.Ytidenjinagpphab.bec
