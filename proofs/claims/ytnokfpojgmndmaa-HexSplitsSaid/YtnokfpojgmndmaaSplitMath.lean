/- A text cut at a byte: the mathematics. -/
import Derived.Test.YtnokfpojgmndmaaHexMath
namespace Go.Proofs.Ytnokfpojgmndmaa.spm
open Go.Proofs.Ytnokfpojgmndmaa.hxm
set_option linter.unusedVariables false

/-- what stands between bytes c, of what is left and what one has of the first -/
def sp (c : Int) : List Int → List Int → List (List Int)
  | [], one => [one]
  | x :: r, one => if x = c then one :: sp c r [] else sp c r (one ++ [x])
theorem sp_len (c : Int) (l one : List Int) : 1 ≤ (sp c l one).length ∧ (sp c l one).length ≤ l.length + 1 := by
  induction l generalizing one with
  | nil => simp [sp]
  | cons x r ih =>
    simp only [sp]
    split
    · have := ih []; simp; omega
    · have := ih (one ++ [x]); simp; omega
theorem drop_at (l : List Int) (k : Nat) (h : k < l.length) : l.drop k = l.getD k 0 :: l.drop (k + 1) := by
  rw [List.drop_eq_getElem_cons h, List.getD_eq_getElem?_getD, List.getElem?_eq_getElem h]; rfl
theorem sp_cut (c : Int) (l one : List Int) (k : Nat) (h : k < l.length) (he : l.getD k 0 = c) : sp c (l.drop k) one = one :: sp c (l.drop (k + 1)) [] := by
  rw [drop_at l k h]; simp only [sp]; rw [if_pos he]
theorem sp_on (c : Int) (l one : List Int) (k : Nat) (h : k < l.length) (he : l.getD k 0 ≠ c) : sp c (l.drop k) one = sp c (l.drop (k + 1)) (one ++ [l.getD k 0]) := by
  rw [drop_at l k h]; simp only [sp]; rw [if_neg he]
theorem sp_end (c : Int) (l one : List Int) : sp c (l.drop l.length) one = [one] := by rw [List.drop_length]; rfl
/-- the words: without what is empty -/
def wordsI (l : List Int) : List (List Int) := (sp 32 l []).filter fun x => !x.isEmpty
/-- so many parts, without what is empty -/
def keepI (L : List (List Int)) (k : Nat) : List (List Int) := (L.take k).filter fun x => !x.isEmpty
theorem keep_succ (L : List (List Int)) (k : Nat) (h : k < L.length) : keepI L (k + 1) = if (L.getD k []).isEmpty then keepI L k else keepI L k ++ [L.getD k []] := by
  unfold keepI
  rw [List.take_succ_eq_append_getElem h, List.filter_append, List.getD_eq_getElem?_getD, List.getElem?_eq_getElem h]
  simp only [Option.getD_some, List.filter_cons, List.filter_nil]
  cases (L[k]).isEmpty <;> simp
theorem keep_len (L : List (List Int)) (k : Nat) : (keepI L k).length ≤ k := by
  unfold keepI
  exact Nat.le_trans (List.length_filter_le _ _) (List.length_take_le _ _)
theorem keep_all (L : List (List Int)) : keepI L L.length = L.filter fun x => !x.isEmpty := by unfold keepI; rw [List.take_length]
end Go.Proofs.Ytnokfpojgmndmaa.spm
