/- The mathematics of layer 19: how long an answer takes, by whole numbers. -/
namespace Go.Proofs.Ytlfcjfmfkmcmiaa.rm
/-- a number within bounds -/
def cutI (n lo hi : Int) : Int := if n < lo then lo else if hi < n then hi else n
def ab (x : Int) : Int := if x < 0 then -x else x
/-- the mean in eighths, behind one more -/
def mN (m t : Int) : Int := if m + (cutI t 0 64 - m / 8) < 8 then 8 else m + (cutI t 0 64 - m / 8)
/-- how far it is off in fourths, behind one more -/
def oN (m d t : Int) : Int := d + ab (cutI t 0 64 - m / 8) - d / 4
/-- one more, or (below 0) one that didn't come -/
def mS (m t : Int) : Int := if t < 0 then cutI (2 * m) 0 512 else mN m t
def oS (m d t : Int) : Int := if t < 0 then d else oN m d t
def In (m d : Int) : Prop := 8 ≤ m ∧ m ≤ 512 ∧ 0 ≤ d ∧ d ≤ 300
theorem cut_in (n lo hi : Int) (h : lo ≤ hi) : lo ≤ cutI n lo hi ∧ cutI n lo hi ≤ hi := by unfold cutI; split <;> (try split) <;> omega
theorem in_new (t : Int) : In (8 * cutI t 1 64) 0 := by have := cut_in t 1 64 (by omega); unfold In; omega
theorem in_sample (m d t : Int) (h : In m d) : In (mN m t) (oN m d t) := by
  have := cut_in t 0 64 (by omega)
  unfold In mN oN ab at *
  generalize cutI t 0 64 = c at *
  constructor
  · split <;> omega
  constructor
  · split <;> omega
  constructor
  · split <;> omega
  · split <;> omega
theorem in_late (m d : Int) (h : In m d) : In (cutI (2 * m) 0 512) d := by
  unfold In cutI at *; split <;> (try split) <;> omega
theorem in_step (m d t : Int) (h : In m d) : In (mS m t) (oS m d t) := by
  unfold mS oS; split
  · exact in_late m d h
  · exact in_sample m d t h
/-- k samples of t -/
def mR (t : Int) : Nat → Int → Int
  | 0, m => m
  | k + 1, m => mN (mR t k m) t
def oR (t : Int) : Nat → Int → Int → Int
  | 0, _, d => d
  | k + 1, m, d => oN (mR t k m) (oR t k m d) t
theorem in_reps (t : Int) (k : Nat) (m d : Int) (h : In m d) : In (mR t k m) (oR t k m d) := by
  induction k with
  | zero => exact h
  | succ k ih => exact in_sample _ _ _ ih
/-! how far the mean is from what it becomes -/
def y1 (y : Int) : Int := y - y / 8
def yR : Nat → Int → Int
  | 0, y => y
  | k + 1, y => yR k (y1 y)
def d1 (d : Int) : Int := d - d / 4
def dR : Nat → Int → Int
  | 0, d => d
  | k + 1, d => dR k (d1 d)
theorem yR_succ (k : Nat) (y : Int) : yR (k + 1) y = y1 (yR k y) := by
  induction k generalizing y with
  | zero => rfl
  | succ k ih => show yR (k + 1) (y1 y) = _; rw [ih]; rfl
theorem dR_succ (k : Nat) (y : Int) : dR (k + 1) y = d1 (dR k y) := by
  induction k generalizing y with
  | zero => rfl
  | succ k ih => show dR (k + 1) (d1 y) = _; rw [ih]; rfl
theorem mean_is (t m : Int) (ht : 1 ≤ t) (ht2 : t ≤ 64) (hm : 8 ≤ m) (hm2 : m ≤ 512) (k : Nat) : mR t k m = 8 * t + yR k (m - 8 * t) ∧ 8 ≤ mR t k m ∧ mR t k m ≤ 512 := by
  induction k with
  | zero => simp only [mR, yR]; omega
  | succ k ih =>
    obtain ⟨h1, h2, h3⟩ := ih
    rw [yR_succ]
    simp only [mR]
    have e : cutI t 0 64 = t := by unfold cutI; rw [if_neg (by omega), if_neg (by omega)]
    unfold mN y1
    rw [e]
    generalize mR t k m = a at *
    generalize yR k (m - 8 * t) = b at *
    rw [if_neg (by omega)]
    omega
def okY (k : Nat) (l : List Int) : Bool := l.all fun y => decide (0 ≤ yR k y) && decide (yR k y ≤ 7)
theorem y_all : (List.range 1009).all (fun i => decide (0 ≤ yR 100 ((i : Int) - 504)) && decide (yR 100 ((i : Int) - 504) ≤ 7)) = true := by decide +kernel
theorem d_all : (List.range 301).all (fun i => decide (dR 100 (i : Int) ≤ 3) && decide (0 ≤ dR 100 (i : Int))) = true := by decide +kernel
theorem y_end (y : Int) (h1 : -504 ≤ y) (h2 : y ≤ 504) : 0 ≤ yR 100 y ∧ yR 100 y ≤ 7 := by
  have := List.all_eq_true.1 y_all (y + 504).toNat (List.mem_range.2 (by omega))
  rw [show (((y + 504).toNat : Nat) : Int) - 504 = y by omega] at this
  simpa using this
theorem d_end (y : Int) (h1 : 0 ≤ y) (h2 : y ≤ 300) : dR 100 y ≤ 3 ∧ 0 ≤ dR 100 y := by
  have := List.all_eq_true.1 d_all y.toNat (List.mem_range.2 (by omega))
  rw [show ((y.toNat : Nat) : Int) = y by omega] at this
  simpa using this
theorem y_stays (y : Int) (h : 0 ≤ y ∧ y ≤ 7) : y1 y = y := by unfold y1; omega
theorem y_from (y : Int) (h1 : -504 ≤ y) (h2 : y ≤ 504) (k : Nat) : 0 ≤ yR (100 + k) y ∧ yR (100 + k) y ≤ 7 := by
  induction k with
  | zero => exact y_end y h1 h2
  | succ k ih => rw [← Nat.add_assoc, yR_succ, y_stays _ ih]; exact ih
theorem settles_m (t m : Int) (ht : 1 ≤ t) (ht2 : t ≤ 64) (hm : 8 ≤ m) (hm2 : m ≤ 512) (k : Nat) : mR t (100 + k) m / 8 = t := by
  have h1 := (mean_is t m ht ht2 hm hm2 (100 + k)).1
  have h2 := y_from (m - 8 * t) (by omega) (by omega) k
  omega
theorem off_is (t m d : Int) (ht : 1 ≤ t) (ht2 : t ≤ 64) (h : In m d) (k : Nat) : oR t (100 + k) m d = dR k (oR t 100 m d) := by
  induction k with
  | zero => rfl
  | succ k ih =>
    rw [dR_succ, ← ih]
    show oN (mR t (100 + k) m) (oR t (100 + k) m d) t = _
    unfold oN d1
    rw [settles_m t m ht ht2 h.1 h.2.1 k]
    have e : cutI t 0 64 = t := by unfold cutI; rw [if_neg (by omega), if_neg (by omega)]
    rw [e]; unfold ab
    rw [if_neg (by omega)]; omega
theorem d_stays (y : Int) (h : dR 100 y ≤ 3 ∧ 0 ≤ dR 100 y) (k : Nat) : dR (100 + k) y ≤ 3 ∧ 0 ≤ dR (100 + k) y := by
  induction k with
  | zero => exact h
  | succ k ih =>
    rw [← Nat.add_assoc, dR_succ]
    have e : d1 (dR (100 + k) y) = dR (100 + k) y := by unfold d1; omega
    rw [e]; exact ih
theorem settles_o (t m d : Int) (ht : 1 ≤ t) (ht2 : t ≤ 64) (h : In m d) (k : Nat) (hk : 200 ≤ k) : oR t k m d / 4 = 0 := by
  obtain ⟨j, rfl⟩ : ∃ j, k = 100 + (100 + j) := ⟨k - 200, by omega⟩
  have hi := in_reps t 100 m d h
  have h1 := off_is t m d ht ht2 h (100 + j)
  have h2 := d_stays _ (d_end (oR t 100 m d) hi.2.2.1 hi.2.2.2) j
  omega
theorem settles (t m d : Int) (ht : 1 ≤ t) (ht2 : t ≤ 64) (h : In m d) (k : Nat) (hk : 200 ≤ k) : mR t k m / 8 = t ∧ oR t k m d / 4 = 0 := by
  refine ⟨?_, settles_o t m d ht ht2 h k hk⟩
  obtain ⟨j, rfl⟩ : ∃ j, k = 100 + j := ⟨k - 100, by omega⟩
  exact settles_m t m ht ht2 h.1 h.2.1 j
end Go.Proofs.Ytlfcjfmfkmcmiaa.rm
