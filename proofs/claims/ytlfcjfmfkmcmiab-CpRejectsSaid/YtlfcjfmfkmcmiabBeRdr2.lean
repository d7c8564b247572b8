/- The contracts of be's Reader, by its callers: numbers of one size, bytes, all that is left; and of the numbers that bytes begin with. -/
import Derived.Test.YtlfcjfmfkmcmiabBeRdr
namespace Go.Proofs.Ytlfcjfmfkmcmiab.bec
open Go.RowKit
open Go.Proofs.Ytlfcjfmfkmcmiab.kit
set_option linter.unusedVariables false

theorem valN_bd (bad : Bool) (l : List Int) (hb : Byt l) (k : Nat) : 0 ≤ valN bad l k ∧ valN bad l k < 256 ^ k := by
  have hp : (0 : Int) < 256 ^ k := Int.pow_pos (by decide)
  unfold valN
  split
  · rename_i h
    have : k ≤ l.length := by simp [okN, okR] at h; omega
    have := numB_bd l hb k this
    simpa using this
  · omega




/-- bytes of the call's own; what a reader's turn leaves -/
def TakePost (g D : Nat) (bad : Bool) (l : List Int) (m : Int) (w : World) (v : Value) (w' : World) : Prop :=
  ∃ a n c, v = .slice a n c ∧ w'.ownsRow w.heap.size 5 1 (.slice a n c) n ((gotR bad l m).map (Value.int .u8)) ∧ RdrAt w' g D (!okR bad l m) (leftR bad l m) ∧ w.grownBy w' (some g)




end Go.Proofs.Ytlfcjfmfkmcmiab.bec
