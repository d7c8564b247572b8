/- be's Reader over a list that is known: what comes next of it. -/
import Derived.Test.YtlfcjfmfkmcmiabBeRdr2
namespace Go.Proofs.Ytlfcjfmfkmcmiab.bec
open Go.RowKit
open Go.Proofs.Ytlfcjfmfkmcmiab.kit
set_option linter.unusedVariables false

theorem nx_cons (x : Int) (r : List Int) : valN false (x :: r) 1 = x ∧ okN false (x :: r) 1 = true ∧ leftN false (x :: r) 1 = r := by
  have h : okN false (x :: r) 1 = true := by simp [okN, okR]; omega
  exact ⟨by unfold valN; rw [h]; simp [numB], h, by unfold leftN; rw [h]; rfl⟩
theorem nx_nil (b : Bool) : valN b [] 1 = 0 ∧ okN b [] 1 = false ∧ leftN b [] 1 = [] := by
  have h : okN b [] 1 = false := by cases b <;> simp [okN, okR]
  exact ⟨by unfold valN; rw [h]; rfl, h, by unfold leftN; rw [h]; rfl⟩
end Go.Proofs.Ytlfcjfmfkmcmiab.bec
