/- Numbers that wait in an array that goes round: plain mathematics. -/
import Derived.WalkKit
namespace Go.Proofs.Ytcbfebbnelofpaa.mgm
/-- what is told at a call for which none was drawn -/
def mk (c : Nat) : Nat := ((c * 2654435761 % 4294967296 ^^^ c * 2654435761 % 4294967296 / 32768) * 2246822507 % 4294967296) ^^^ ((c * 2654435761 % 4294967296 ^^^ c * 2654435761 % 4294967296 / 32768) * 2246822507 % 4294967296 / 8192)
theorem xor_lt (a b : Nat) (h : a < 4294967296) (k : b < 4294967296) : a ^^^ b < 4294967296 := Nat.xor_lt_two_pow (n := 32) h k
theorem mk_lt (c : Nat) : mk c < 4294967296 := xor_lt _ _ (by omega) (by omega)
/-- the numbers q wait in the array A from place f on -/
structure Is (A : List Int) (f : Nat) (q : List Int) : Prop where
  len : A.length = 64
  lt : f < 64
  le : q.length ≤ 64
  at_ : ∀ j, j < q.length → A.getD ((f + j) % 64) 0 = q.getD j 0
theorem getD_set (A : List Int) (i j : Nat) (v : Int) (h : i < A.length) : (A.set i v).getD j 0 = if i = j then v else A.getD j 0 := by
  rw [List.getD_eq_getElem?_getD, List.getD_eq_getElem?_getD]
  by_cases e : i = j
  · subst e; rw [if_pos rfl, List.getElem?_set_self h]; rfl
  · rw [if_neg e, List.getElem?_set_ne e]
theorem Is.push {A : List Int} {f : Nat} {q : List Int} (h : Is A f q) (hq : q.length < 64) (n : Int) : Is (A.set ((f + q.length) % 64) n) f (q ++ [n]) := by
  have h1 := h.len
  have h2 := h.lt
  refine ⟨by rw [List.length_set]; exact h.len, h.lt, by simp; omega, fun j hj => ?_⟩
  simp at hj
  rw [getD_set _ _ _ _ (by omega)]
  by_cases e : j = q.length
  · subst e; rw [if_pos rfl]; simp [List.getD_eq_getElem?_getD]
  · rw [if_neg (by omega), h.at_ j (by omega), List.getD_eq_getElem?_getD, List.getD_eq_getElem?_getD, List.getElem?_append_left (by omega)]
theorem Is.first {A : List Int} {f : Nat} {x : Int} {q : List Int} (h : Is A f (x :: q)) : A.getD f 0 = x := by
  have h2 := h.lt
  have := h.at_ 0 (by simp)
  rw [Nat.add_zero, Nat.mod_eq_of_lt h2] at this
  exact this
theorem Is.pop {A : List Int} {f : Nat} {x : Int} {q : List Int} (h : Is A f (x :: q)) : Is A ((f + 1) % 64) q := by
  have h1 := h.le
  simp at h1
  refine ⟨h.len, by omega, by omega, fun j hj => ?_⟩
  have := h.at_ (j + 1) (by simp; omega)
  rw [show ((f + 1) % 64 + j) % 64 = (f + (j + 1)) % 64 by omega, this]
  simp
theorem is_new : Is (List.replicate 64 0) 0 [] := ⟨by simp, by omega, by simp, fun j hj => by simp at hj⟩
/-- what Next tells of what waits, behind k calls -/
def nx (q : List Int) (k : Nat) : Int := match q with | [] => (mk (k + 1) : Nat) | x :: _ => x
/-- what Some tells -/
def sm (q : List Int) (k : Nat) : Int := if nx q k ≠ 0 then nx q k else if nx q.tail (k + 1) ≠ 0 then nx q.tail (k + 1) else 1
def smq (q : List Int) (k : Nat) : List Int := if nx q k ≠ 0 then q.tail else q.tail.tail
def smk (q : List Int) (k : Nat) : Nat := if nx q k ≠ 0 then k + 1 else k + 2
end Go.Proofs.Ytcbfebbnelofpaa.mgm
