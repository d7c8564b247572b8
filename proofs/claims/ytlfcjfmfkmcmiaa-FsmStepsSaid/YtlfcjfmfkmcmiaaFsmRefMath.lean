/- The document's table of the automaton, as texts: what its words say is the table of numbers. -/
import Derived.Test.YtlfcjfmfkmcmiaaFsmMath
import Derived.Test.YtlfcjfmfkmcmiaaSplitMath
namespace Go.Proofs.Ytlfcjfmfkmcmiaa.fm
open Go.Proofs.Ytlfcjfmfkmcmiaa.spm
def rowB : List (List Int) := [
  [50, 32, 54, 105, 114, 32, 46, 32, 46, 32, 46, 32, 46, 32, 46, 32, 46, 32, 46, 32, 46],
  [46, 32, 46, 32, 48, 32, 49, 115, 32, 48, 32, 49, 32, 49, 32, 49, 32, 49, 32, 49, 100],
  [49, 115, 32, 49, 32, 54, 105, 114, 32, 51, 32, 53, 32, 53, 32, 54, 32, 55, 32, 56, 32, 57],
  [48, 32, 48, 102, 32, 50, 32, 50, 32, 52, 32, 52, 32, 52, 105, 116, 32, 52, 105, 116, 32, 52, 105, 116, 32, 52, 100, 105, 116],
  [46, 32, 46, 32, 46, 32, 46, 32, 52, 116, 32, 53, 116, 32, 54, 114, 32, 54, 114, 32, 56, 114, 32, 46],
  [46, 32, 46, 32, 46, 32, 46, 32, 50, 102, 32, 51, 102, 32, 51, 102, 32, 51, 102, 32, 51, 102, 32, 46],
  [46, 32, 46, 32, 50, 107, 32, 56, 105, 114, 97, 32, 52, 32, 53, 32, 56, 97, 32, 57, 97, 117, 32, 56, 97, 32, 56, 100, 114, 97],
  [46, 32, 46, 32, 50, 107, 32, 54, 105, 114, 110, 32, 52, 32, 53, 32, 54, 110, 32, 55, 110, 32, 54, 110, 32, 54, 100, 114, 110],
  [46, 32, 46, 32, 50, 107, 32, 51, 107, 32, 52, 32, 53, 32, 55, 105, 32, 54, 114, 32, 57, 105, 117, 32, 54, 100, 114],
  [46, 32, 46, 32, 50, 107, 32, 51, 107, 32, 52, 32, 53, 32, 54, 105, 114, 32, 54, 114, 32, 56, 105, 114, 32, 54, 100, 114],
  [46, 32, 46, 32, 50, 107, 32, 51, 107, 32, 52, 107, 32, 53, 107, 32, 54, 107, 32, 54, 107, 32, 54, 107, 32, 53, 100, 122, 107],
  [46, 32, 46, 32, 50, 32, 51, 32, 50, 102, 32, 51, 102, 32, 54, 32, 54, 32, 56, 32, 54, 100, 114],
  [46, 32, 46, 32, 50, 106, 32, 51, 106, 32, 52, 106, 32, 53, 106, 32, 54, 106, 32, 55, 106, 32, 56, 106, 32, 57, 106],
  [46, 32, 46, 32, 50, 32, 51, 32, 52, 32, 53, 32, 54, 32, 54, 32, 56, 32, 57],
  [46, 32, 46, 32, 50, 102, 32, 51, 102, 32, 50, 102, 32, 51, 102, 32, 51, 102, 32, 51, 102, 32, 51, 102, 32, 53, 100, 105, 116],
  [46, 32, 46, 32, 50, 32, 51, 32, 52, 32, 53, 32, 54, 32, 55, 32, 56, 32, 57, 101]]
def letters : List Int := [117, 100, 115, 102, 105, 122, 114, 97, 110, 116, 107, 106, 101]
/-- the number of a letter -/
def pl : List Int → Int → Int → Int
  | [], _, _ => 0
  | x :: r, i, c => if x = c then i else pl r (i + 1) c
def place (c : Int) : Int := pl letters 0 c
theorem pl_bd (l : List Int) (i c : Int) (h : 0 ≤ i) : 0 ≤ pl l i c ∧ pl l i c ≤ i + l.length := by
  induction l generalizing i with
  | nil => simp [pl]; omega
  | cons x r ih =>
    simp only [pl]
    split
    · simp; omega
    · have := ih (i + 1) (by omega)
      simp only [List.length_cons]; omega
theorem pl_at (l : List Int) (c : Int) (k : Nat) (i : Int) (hk : k < l.length) (hb : ∀ j, j < k → l.getD j 0 ≠ c) (h : l.getD k 0 = c) : pl l i c = i + k := by
  induction l generalizing i k with
  | nil => simp at hk
  | cons x r ih =>
    cases k with
    | zero => simp only [pl]; rw [if_pos (by simpa using h)]; omega
    | succ k =>
      simp only [pl]
      rw [if_neg (by simpa using hb 0 (by omega)), ih k (i + 1) (by simpa using hk) (fun j hj => by simpa using hb (j + 1) (by omega)) (by simpa using h)]
      omega
theorem pl_none (l : List Int) (c : Int) (i : Int) (hb : ∀ j, j < l.length → l.getD j 0 ≠ c) : pl l i c = 0 := by
  induction l generalizing i with
  | nil => rfl
  | cons x r ih =>
    simp only [pl]
    rw [if_neg (by simpa using hb 0 (by simp)), ih (i + 1) (fun j hj => by simpa using hb (j + 1) (by simpa using hj))]
theorem place_bd (c : Int) : 0 ≤ place c ∧ place c ≤ 13 := by have := pl_bd letters 0 c (by omega); unfold place; have e : letters.length = 13 := rfl; rw [e] at this; omega
/-- what so many letters behind the first say -/
def actOf (w : List Int) : Nat → Int
  | 0 => 0
  | k + 1 => actOf w k + 2 ^ (place (w.getD (k + 1) 0)).toNat
theorem actOf_bd (w : List Int) (k : Nat) : 0 ≤ actOf w k ∧ actOf w k ≤ 8192 * k := by
  induction k with
  | zero => simp [actOf]
  | succ k ih =>
    simp only [actOf]
    have h := place_bd (w.getD (k + 1) 0)
    have h1 : (2 : Int) ^ (place (w.getD (k + 1) 0)).toNat ≤ 2 ^ 13 := by
      have : (2 : Nat) ^ (place (w.getD (k + 1) 0)).toNat ≤ 2 ^ 13 := Nat.pow_le_pow_right (by omega) (by omega)
      exact_mod_cast this
    have h2 : (0 : Int) ≤ 2 ^ (place (w.getD (k + 1) 0)).toNat := by
      have : (0 : Nat) ≤ 2 ^ (place (w.getD (k + 1) 0)).toNat := Nat.zero_le _
      exact_mod_cast this
    omega
def wordI (e s : Nat) : List Int := (wordsI (rowB.getD e [])).getD s []
def fits (e s : Nat) : Bool :=
  let w := wordI e s
  (w.all fun x => decide (0 ≤ x) && decide (x ≤ 255)) && decide (1 ≤ w.length) && decide (w.length ≤ 5) && (if w = [46] then decide (toI s e = s) && decide (actI s e = 0) else decide (toI s e = w.getD 0 0 - 48) && decide (actI s e = actOf w (w.length - 1)) && decide (48 ≤ w.getD 0 0) && decide (w.getD 0 0 ≤ 57))
theorem fits_all : (List.range 16).all (fun e => (wordsI (rowB.getD e [])).length == 10 && ((List.range 10).all fun s => fits e s) && ((rowB.getD e []).all fun x => decide (0 ≤ x) && decide (x ≤ 255)) && decide ((rowB.getD e []).length ≤ 60)) = true := by decide +kernel
theorem fit (e s : Nat) (he : e < 16) (hs : s < 10) : fits e s = true := by
  have := List.all_eq_true.1 fits_all e (List.mem_range.2 he)
  simp only [Bool.and_eq_true] at this
  exact List.all_eq_true.1 this.1.1.2 s (List.mem_range.2 hs)
theorem words_ten (e : Nat) (he : e < 16) : (wordsI (rowB.getD e [])).length = 10 := by
  have := List.all_eq_true.1 fits_all e (List.mem_range.2 he)
  simp only [Bool.and_eq_true] at this
  simpa using this.1.1.1
theorem row_ok (e : Nat) (he : e < 16) : (∀ x ∈ rowB.getD e [], 0 ≤ x ∧ x ≤ 255) ∧ (rowB.getD e []).length ≤ 60 := by
  have := List.all_eq_true.1 fits_all e (List.mem_range.2 he)
  simp only [Bool.and_eq_true] at this
  exact ⟨fun x hx => by have := List.all_eq_true.1 this.1.2 x hx; simpa using this, by simpa using this.2⟩
end Go.Proofs.Ytlfcjfmfkmcmiaa.fm
