/- The contracts that layer 1's statements share: the document's own number, and that the package lives. -/
import Derived.Test.YtidenjinagpphaaBeRdr2
import Derived.Test.YtidenjinagpphaaEqual8
namespace Go.Proofs.Ytidenjinagpphaa.bec
open Go.RowKit
open Go.Proofs.Ytidenjinagpphaa.kit
set_option linter.unusedVariables false

theorem equal_same {B1 B2 n1 n2 c1 c2 : Nat} {a1 a2 : Option Addr} {l1 l2 : List Int} (w : World) (h1 : Nums .u8 w B1 a1 n1 c1 l1) (h2 : Nums .u8 w B2 a2 n2 c2 l2) (h : l1 = l2) :
    Calls Try.prog 25 #[.slice a1 n1 c1, .slice a2 n2 c2] w fun e w' => e = .returned (.bool true) ∧ ∃ m, w' = w.drewN m :=
  (equal_any w h1 h2).mono fun e w' hh => ⟨by rw [hh.1]; simp [h], hh.2⟩

theorem beB_mod (s : Nat) : ∀ x : Int, beB s (x % 256 ^ s) = beB s x := by
  induction s with
  | zero => intro x; rfl
  | succ s ih =>
    intro x
    have hp : (0 : Int) < 256 ^ s := Int.pow_pos (by decide)
    have e1 : x % 256 ^ (s + 1) / 256 ^ s % 256 = x / 256 ^ s % 256 := by
      have e : x % 256 ^ (s + 1) = x + 256 ^ s * (-(256 * (x / (256 ^ s * 256)))) := by
        rw [Int.emod_def, Int.pow_succ, Int.mul_neg, Int.mul_assoc]; omega
      rw [e, Int.add_mul_ediv_left _ _ (by omega)]
      omega
    have e2 : x % 256 ^ (s + 1) % 256 ^ s = x % 256 ^ s := Int.emod_emod_of_dvd _ ⟨256, by rw [Int.pow_succ]⟩
    simp only [beB]
    rw [e1, ← ih (x % 256 ^ (s + 1)), e2, ih x]

end Go.Proofs.Ytidenjinagpphaa.bec
