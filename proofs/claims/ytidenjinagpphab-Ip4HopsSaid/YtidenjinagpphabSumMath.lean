/- The checksum's arithmetic: sums of words, folded. -/
import Derived.Test.YtidenjinagpphabOct
namespace Go.Proofs.Ytidenjinagpphab.sm
open Go.Proofs.Ytidenjinagpphab.kit

/-- a sum, folded till it is a word -/
def fd (n : Nat) : Nat := if n = 0 then 0 else (n - 1) % 65535 + 1
theorem fd_le (n : Nat) : fd n ≤ 65535 := by unfold fd; split <;> omega
theorem fd_small {n : Nat} (h : n ≤ 65535) : fd n = n := by unfold fd; split <;> omega
theorem fd_step (n : Nat) : fd (n / 65536 + n % 65536) = fd n := by unfold fd; split <;> split <;> omega
theorem fd_less {n : Nat} (h : 65535 < n) : n / 65536 + n % 65536 < n := by omega
theorem fd_add (a b : Nat) : fd (fd a + b) = fd (a + b) := by unfold fd; split <;> split <;> split <;> omega
theorem fd_pos {n : Nat} (h : 0 < n) : 0 < fd n := by unfold fd; split <;> omega
theorem fd_zero {n : Nat} : fd n = 0 ↔ n = 0 := by unfold fd; split <;> omega
theorem fd_seal (n : Nat) : fd (n + (65535 - fd n)) = 65535 := by unfold fd; split <;> split <;> omega
/-- what a byte adds: at an odd place itself, else 256 times that -/
def bit (p : Nat) (x : Int) : Nat := if p % 2 = 1 then x.toNat else 256 * x.toNat
/-- the sum of the first bytes, from a place on -/
def tot (l : List Int) (p : Nat) : Nat → Nat
  | 0 => 0
  | k + 1 => tot l p k + bit (p + k) (l.getD k 0)
theorem bit_le {p : Nat} {x : Int} (h : x ≤ 255) : bit p x ≤ 65280 := by unfold bit; split <;> omega
theorem tot_le {l : List Int} (h : Oct l) (p k : Nat) : tot l p k ≤ 65280 * k := by
  induction k with
  | zero => simp [tot]
  | succ k ih => have := bit_le (p := p + k) (h.at k).2; simp only [tot]; omega
theorem tot_congr {l m : List Int} {p k : Nat} (h : ∀ i, i < k → l.getD i 0 = m.getD i 0) : tot l p k = tot m p k := by
  induction k with
  | zero => rfl
  | succ k ih => simp only [tot]; rw [ih (fun i hi => h i (by omega)), h k (by omega)]
theorem tot_add (l : List Int) (p a b : Nat) : tot l p (a + b) = tot l p a + tot (l.drop a) (p + a) b := by
  induction b with
  | zero => simp [tot]
  | succ b ih =>
    show tot l p (a + b) + bit (p + (a + b)) (l.getD (a + b) 0) = tot l p a + (tot (l.drop a) (p + a) b + bit (p + a + b) ((l.drop a).getD b 0))
    rw [ih, Nat.add_assoc, ← Nat.add_assoc p a b]
    simp [List.getD_eq_getElem?_getD, List.getElem?_drop]
theorem tot_take (l : List Int) (p k n : Nat) (h : k ≤ n) : tot (l.take n) p k = tot l p k := by
  apply tot_congr; intro i hi
  rw [List.getD_eq_getElem?_getD, List.getD_eq_getElem?_getD, List.getElem?_take_of_lt (by omega)]
theorem tot_par (l : List Int) (p k : Nat) : tot l (p % 2) k = tot l p k := by
  induction k with
  | zero => rfl
  | succ k ih => simp only [tot]; rw [ih]; congr 1; unfold bit; rw [show (p % 2 + k) % 2 = (p + k) % 2 by omega]
theorem tot_two (l : List Int) (k : Nat) : tot l 0 (2 * k + 2) = tot l 0 (2 * k) + 256 * (l.getD (2 * k) 0).toNat + (l.getD (2 * k + 1) 0).toNat := by
  simp only [tot, bit]
  rw [if_neg (by omega), if_pos (by omega)]
theorem tot_zero {l : List Int} {p k : Nat} (h : tot l p k = 0) : ∀ i, i < k → (l.getD i 0).toNat = 0 := by
  induction k with
  | zero => intro i hi; omega
  | succ k ih =>
    simp only [tot] at h
    intro i hi
    by_cases e : i = k
    · subst e; have h2 : bit (p + i) (l.getD i 0) = 0 := by omega
      unfold bit at h2; split at h2 <;> omega
    · exact ih (by omega) i (by omega)
theorem tot_none {l : List Int} {p k : Nat} (h : ∀ i, i < k → (l.getD i 0).toNat = 0) : tot l p k = 0 := by
  induction k with
  | zero => rfl
  | succ k ih => simp only [tot]; rw [ih (fun i hi => h i (by omega))]; unfold bit; rw [h k (by omega)]; simp
/-- the sum of bytes, and their checksum -/
def sumOf (l : List Int) : Nat := tot l 0 l.length
def chk (l : List Int) : Nat := 65535 - fd (sumOf l)
theorem chk_le (l : List Int) : chk l ≤ 65535 := by unfold chk; omega
/-- a word of bytes put in -/
def word2 (l : List Int) (a : Nat) (x y : Int) : List Int := (l.set (2 * a) x).set (2 * a + 1) y
theorem word2_len (l : List Int) (a : Nat) (x y : Int) : (word2 l a x y).length = l.length := by simp [word2]
theorem word2_at (l : List Int) (a : Nat) (x y : Int) (h : 2 * a + 1 < l.length) (i : Nat) : (word2 l a x y).getD i 0 = if i = 2 * a then x else if i = 2 * a + 1 then y else l.getD i 0 := by
  unfold word2
  rw [List.getD_eq_getElem?_getD, List.getElem?_set, List.getElem?_set]
  by_cases h1 : i = 2 * a + 1
  · subst h1; simp [h]
  · by_cases h2 : i = 2 * a
    · subst h2; simp; rw [if_pos (by omega)]; rfl
    · rw [if_neg (by omega), if_neg (by omega), if_neg h2, if_neg h1, List.getD_eq_getElem?_getD]
def ind (k j v : Nat) : Nat := if j < k then v else 0
theorem ind_succ (k j v : Nat) : ind (k + 1) j v = ind k j v + (if k = j then v else 0) := by unfold ind; split <;> split <;> split <;> omega
theorem word2_sum_k (l : List Int) (a : Nat) (x y : Int) (h : 2 * a + 1 < l.length) (k : Nat) :
    tot (word2 l a x y) 0 k + ind k (2 * a) (256 * (l.getD (2 * a) 0).toNat) + ind k (2 * a + 1) (l.getD (2 * a + 1) 0).toNat
      = tot l 0 k + ind k (2 * a) (256 * x.toNat) + ind k (2 * a + 1) y.toNat := by
  induction k with
  | zero => rfl
  | succ k ih =>
    simp only [tot, ind_succ]
    rw [word2_at l a x y h]
    unfold bit
    by_cases h1 : k = 2 * a
    · rw [if_neg (by omega), if_pos h1, if_pos h1, if_neg (by omega), if_neg (by omega), if_pos h1, if_neg (by omega), ← h1]
      rw [← h1] at ih
      omega
    · by_cases h2 : k = 2 * a + 1
      · rw [if_pos (by omega), if_neg h1, if_pos h2, if_neg h1, if_pos h2, if_pos (by omega), if_neg h1, if_pos h2, ← h2]
        rw [← h2] at ih
        omega
      · rw [if_neg h1, if_neg h2, if_neg h1, if_neg h2, if_neg h1, if_neg h2]
        omega
theorem word2_sum (l : List Int) (a : Nat) (x y : Int) (h : 2 * a + 1 < l.length) :
    sumOf (word2 l a x y) + 256 * (l.getD (2 * a) 0).toNat + (l.getD (2 * a + 1) 0).toNat = sumOf l + 256 * x.toNat + y.toNat := by
  have := word2_sum_k l a x y h l.length
  unfold ind at this
  rw [if_pos (by omega), if_pos h, if_pos (by omega), if_pos h] at this
  unfold sumOf; rw [word2_len]; exact this
/-- what is sealed is right -/
theorem sealed (l : List Int) (a : Nat) (h : 2 * a + 1 < l.length) (x y : Int) (hx : x = (chk (word2 l a 0 0) / 256 : Nat)) (hy : y = (chk (word2 l a 0 0) % 256 : Nat)) : chk (word2 (word2 l a 0 0) a x y) = 0 := by
  have e := word2_sum (word2 l a 0 0) a x y (by rw [word2_len]; exact h)
  rw [word2_at l a 0 0 h, word2_at l a 0 0 h, if_pos rfl, if_neg (by omega), if_pos rfl] at e
  have e2 : sumOf (word2 (word2 l a 0 0) a x y) = sumOf (word2 l a 0 0) + (65535 - fd (sumOf (word2 l a 0 0))) := by
    have : chk (word2 l a 0 0) = 65535 - fd (sumOf (word2 l a 0 0)) := rfl
    rw [← this]; simp at e; omega
  have e3 := fd_seal (sumOf (word2 l a 0 0))
  show 65535 - fd (sumOf (word2 (word2 l a 0 0) a x y)) = 0
  rw [e2, e3]
/-- what a checksum becomes when one word does -/
theorem turned {S S' was now : Nat} (h : S' + was = S + now) (hw : was ≤ S) (hw2 : was ≤ 65535) :
    65535 - fd (fd S + (65535 - was) + now) = if S' = 0 then 0 else 65535 - fd S' := by
  unfold fd
  split <;> split <;> split <;> omega
end Go.Proofs.Ytidenjinagpphab.sm
