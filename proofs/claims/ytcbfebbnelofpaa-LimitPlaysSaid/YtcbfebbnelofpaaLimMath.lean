/- The mathematics of layer 24: what goes through a bucket. -/
import Derived.WalkKit
namespace Go.Proofs.Ytcbfebbnelofpaa.lmm
set_option linter.unusedVariables false
/-- a number within bounds -/
def cutI (n lo hi : Int) : Int := if n < lo then lo else if hi < n then hi else n
theorem cut_in (n lo hi : Int) (h : lo ≤ hi) : lo ≤ cutI n lo hi ∧ cutI n lo hi ≤ hi := by unfold cutI; split <;> (try split) <;> omega
theorem cut_le {n lo hi : Int} (h : lo ≤ hi) (h1 : n < lo) : cutI n lo hi = lo := by unfold cutI; rw [if_pos h1]
theorem cut_ge {n lo hi : Int} (h : lo ≤ hi) (h1 : hi < n) : cutI n lo hi = hi := by unfold cutI; rw [if_neg (by omega), if_pos h1]
theorem cut_mid {n lo hi : Int} (h1 : lo ≤ n) (h2 : n ≤ hi) : cutI n lo hi = n := by unfold cutI; rw [if_neg (by omega), if_neg (by omega)]
/-- the lesser one -/
def mn (a b : Int) : Int := if a ≤ b then a else b
/-- how much there is behind t ticks -/
def fl (h r d t : Int) : Int := mn (h + r * mn t 1048576) d
theorem mn_le (a b : Int) : mn a b ≤ a ∧ mn a b ≤ b := by unfold mn; split <;> omega
theorem mn_ge {a b c : Int} (h1 : c ≤ a) (h2 : c ≤ b) : c ≤ mn a b := by unfold mn; split <;> omega
theorem mul_nn {a b : Int} (h1 : 0 ≤ a) (h2 : 0 ≤ b) : 0 ≤ a * b := Int.mul_nonneg h1 h2
theorem mul_bd {r t R T : Int} (h1 : 0 ≤ r) (h2 : r ≤ R) (h3 : 0 ≤ t) (h4 : t ≤ T) : r * t ≤ R * T :=
  Int.le_trans (Int.mul_le_mul_of_nonneg_right h2 h3) (Int.mul_le_mul_of_nonneg_left h4 (by omega))
theorem fl_in (h r d t : Int) (h0 : 0 ≤ h) (h1 : h ≤ d) (h2 : 0 ≤ r) (h3 : 0 ≤ t) : h ≤ fl h r d t ∧ fl h r d t ≤ d := by
  have k1 : 0 ≤ mn t 1048576 := mn_ge h3 (by omega)
  have k2 := mul_nn h2 k1
  exact ⟨mn_ge (by omega) h1, (mn_le _ _).2⟩
theorem fl_le (h r d t : Int) (h2 : 0 ≤ r) : fl h r d t ≤ h + r * t := by
  unfold fl
  have k1 := (mn_le t 1048576).1
  have k2 := Int.mul_le_mul_of_nonneg_left k1 h2
  have k3 := (mn_le (h + r * mn t 1048576) d).1
  omega
/-- as the document has it -/
theorem fl_zero (h d t : Int) (h1 : h ≤ d) : fl h 0 d t = h := by
  unfold fl mn; rw [Int.zero_mul]; split <;> omega
theorem fl_far (h r d t : Int) (h0 : 0 ≤ h) (hd : d ≤ 1048576) (hr : 1 ≤ r) (ht : 1048576 ≤ t) : fl h r d t = d := by
  unfold fl
  have e : mn t 1048576 = 1048576 := by unfold mn; split <;> omega
  rw [e]
  have k := Int.mul_le_mul_of_nonneg_right hr (show (0 : Int) ≤ 1048576 by omega)
  unfold mn; split <;> omega
theorem fl_near (h r d t : Int) (h0 : 0 ≤ h) (hd : d ≤ 1048576) (hr : 1 ≤ r) (ht : 0 ≤ t) : mn (h + r * t) d = fl h r d t := by
  by_cases k : t ≤ 1048576
  · unfold fl; rw [show mn t 1048576 = t by unfold mn; rw [if_pos k]]
  · rw [fl_far h r d t h0 hd hr (by omega)]
    have k2 := Int.mul_le_mul_of_nonneg_right hr (show (0 : Int) ≤ t by omega)
    unfold mn; split <;> omega
theorem wrap_diff (a b : Int) (h1 : a ≤ b) (h2 : b - a < 18446744073709551616) : IntKind.u64.wrap (IntKind.u64.wrap b - IntKind.u64.wrap a) = b - a := by
  rw [IntKind.wrap_u64, IntKind.wrap_u64, IntKind.wrap_u64]; omega
/-- in how many ticks there is so much -/
def rd (h r d n : Int) : Int := if n ≤ h then 0 else if d < n ∨ r = 0 then -1 else (n - h + r - 1) / r
theorem rd_now {h r d n : Int} (h1 : n ≤ h) : rd h r d n = 0 := by unfold rd; rw [if_pos h1]
theorem rd_no {h r d n : Int} (h1 : ¬ n ≤ h) (h2 : d < n ∨ r = 0) : rd h r d n = -1 := by unfold rd; rw [if_neg h1, if_pos h2]
theorem rd_yes {h r d n : Int} (h1 : ¬ n ≤ h) (h2 : n ≤ d) (h3 : 1 ≤ r) : rd h r d n = (n - h + r - 1) / r := by unfold rd; rw [if_neg h1, if_neg (by omega)]
theorem q_spec (x r k : Int) (hr : 1 ≤ r) : (k * r < x ↔ k < (x + r - 1) / r) := by
  have h1 : (x + r - 1) / r * r ≤ x + r - 1 := Int.ediv_mul_le _ (by omega)
  have h2 : x + r - 1 < ((x + r - 1) / r + 1) * r := Int.lt_ediv_add_one_mul_self _ (by omega)
  generalize (x + r - 1) / r = q at *
  constructor
  · intro h
    by_cases c : k < q
    · exact c
    · exfalso
      have : q * r ≤ k * r := Int.mul_le_mul_of_nonneg_right (by omega) (by omega)
      rw [Int.add_mul] at h2; omega
  · intro h
    have : (k + 1) * r ≤ q * r := Int.mul_le_mul_of_nonneg_right (by omega) (by omega)
    rw [Int.add_mul] at this; omega
theorem q_bd (x r : Int) (hr : 1 ≤ r) (hx : 1 ≤ x) : 0 ≤ (x + r - 1) / r ∧ (x + r - 1) / r ≤ x := by
  constructor
  · exact Int.ediv_nonneg (by omega) (by omega)
  · by_cases c : (x + r - 1) / r ≤ x
    · exact c
    · exfalso
      have := (q_spec x r x hr).2 (by omega)
      have h2 := Int.mul_le_mul_of_nonneg_left hr (show (0 : Int) ≤ x by omega)
      omega
end Go.Proofs.Ytcbfebbnelofpaa.lmm
