/- Lists of bytes. -/
import Derived.Test.YtnokfpojgmndmaaBytes
namespace Go.Proofs.Ytnokfpojgmndmaa.kit
open Go.RowKit

def Oct (l : List Int) : Prop := ∀ x ∈ l, 0 ≤ x ∧ x ≤ 255
theorem Oct.at {l : List Int} (h : Oct l) (k : Nat) : 0 ≤ l.getD k 0 ∧ l.getD k 0 ≤ 255 := by
  rw [List.getD_eq_getElem?_getD]
  by_cases hk : k < l.length
  · rw [List.getElem?_eq_getElem hk]; exact h _ (List.getElem_mem _)
  · rw [List.getElem?_eq_none (by omega)]; decide

theorem oct_nil : Oct [] := by intro x hx; cases hx
end Go.Proofs.Ytnokfpojgmndmaa.kit
