/- Prefixes of addresses: arithmetic. -/
import Derived.Laws.BitsAll
namespace Go.Proofs.YtnfklhebcloolabDoor.cim
set_option linter.unusedVariables false
set_option linter.unusedSimpArgs false
/-- the first m bits of 32 -/
def mk (m : Nat) : Nat := 4294967296 - 2 ^ (32 - m)
theorem pow_le (m : Nat) : 2 ^ (32 - m) ≤ 4294967296 := Nat.pow_le_pow_right (n := 2) (by decide) (show 32 - m ≤ 32 by omega)
theorem pow_pos (m : Nat) : 0 < 2 ^ (32 - m) := Nat.pow_pos (by decide)
theorem split_pow (k : Nat) (hk : k ≤ 32) : 2 ^ k * 2 ^ (32 - k) = 4294967296 := by rw [← Nat.pow_add, show k + (32 - k) = 32 by omega]
theorem mk_lt (m : Nat) : mk m < 4294967296 := by have := pow_pos m; have := pow_le m; unfold mk; omega
theorem mk_shift (m : Nat) (h : m ≤ 32) : mk m = (2 ^ m - 1) * 2 ^ (32 - m) := by rw [Nat.sub_mul, split_pow m h, Nat.one_mul]; rfl
theorem mk_wrap (m : Nat) (h : m ≤ 32) : 4294967295 * 2 ^ (32 - m) % 4294967296 = mk m := by
  have h1 := pow_pos m
  have h2 := pow_le m
  have e : 4294967295 * 2 ^ (32 - m) = 4294967296 * (2 ^ (32 - m) - 1) + (4294967296 - 2 ^ (32 - m)) := by
    generalize 2 ^ (32 - m) = x at *; omega
  rw [e, Nat.mul_add_mod, Nat.mod_eq_of_lt (by omega)]; rfl
/-- an address cut to so many bits -/
def cutA (a m : Nat) : Nat := a / 2 ^ (32 - m) * 2 ^ (32 - m)
theorem and_mk (a m : Nat) (ha : a < 4294967296) (h : m ≤ 32) : a &&& mk m = cutA a m := by
  rw [mk_shift m h]
  unfold cutA
  apply Nat.eq_of_testBit_eq
  intro i
  rw [Nat.testBit_and, Nat.testBit_mul_two_pow, Nat.testBit_mul_two_pow, Nat.testBit_two_pow_sub_one, Nat.testBit_div_two_pow]
  by_cases hs : 32 - m ≤ i
  · simp only [hs, decide_true, Bool.true_and]
    rw [show i - (32 - m) + (32 - m) = i by omega]
    by_cases hi : i < 32
    · have : i - (32 - m) < m := by omega
      simp [this]
    · have : a.testBit i = false := Nat.testBit_lt_two_pow (Nat.lt_of_lt_of_le ha (Nat.pow_le_pow_right (n := 2) (by decide) (show 32 ≤ i by omega)))
      simp [this]
  · simp [hs]
theorem not_mk (m : Nat) : 4294967295 - mk m = 2 ^ (32 - m) - 1 := by have := pow_pos m; have := pow_le m; unfold mk; omega
theorem andNot_mk (a m : Nat) : a &&& (4294967295 - mk m) = a % 2 ^ (32 - m) := by rw [not_mk, Nat.and_two_pow_sub_one_eq_mod]
theorem cutA_le (a m : Nat) : cutA a m ≤ a := Nat.div_mul_le_self _ _
/-- may be -/
def rightB (a : Nat) (b : Int) : Bool := decide (0 ≤ b ∧ b ≤ 32 ∧ a % 2 ^ (32 - b.toNat) = 0)
def clamp (b : Int) : Nat := if b ≤ 0 then 0 else if 32 ≤ b then 32 else b.toNat
theorem clamp_le (b : Int) : clamp b ≤ 32 := by unfold clamp; split <;> (try split) <;> omega
theorem clamp_in {b : Int} (h0 : 0 ≤ b) (h1 : b ≤ 32) : (clamp b : Int) = b := by unfold clamp; split <;> (try split) <;> omega
theorem clamp_out {b : Int} (h : b < 0 ∨ 32 < b) : (clamp b : Int) ≠ b := by unfold clamp; split <;> (try split) <;> omega
def hasB (a : Nat) (b : Int) (x : Nat) : Bool := decide (cutA x (clamp b) = a) && decide ((clamp b : Int) = b)
def withinB (a : Nat) (b : Int) (c : Nat) (d : Int) : Bool := rightB a b && (decide (d ≤ b) && hasB c d a)
theorem cut_eq (a x s : Nat) (hs : 0 < s) : x / s * s = a ↔ (a % s = 0 ∧ a ≤ x ∧ x < a + s) := by
  constructor
  · rintro rfl
    refine ⟨Nat.mul_mod_left _ _, Nat.div_mul_le_self _ _, ?_⟩
    have h1 := Nat.div_add_mod x s
    have h2 := Nat.mod_lt x hs
    rw [Nat.mul_comm s (x / s)] at h1
    generalize x / s * s = q at *
    omega
  · rintro ⟨h0, h1, h2⟩
    obtain ⟨k, rfl⟩ := Nat.dvd_of_mod_eq_zero h0
    have e : x / s = k := by
      apply Nat.div_eq_of_lt_le
      · rw [Nat.mul_comm]; exact h1
      · rw [Nat.add_mul, Nat.one_mul, Nat.mul_comm k s]; omega
    rw [e, Nat.mul_comm]
theorem has_span (a : Nat) (b : Int) (x : Nat) : hasB a b x = (rightB a b && (decide (a ≤ x) && decide (x < a + 2 ^ (32 - b.toNat)))) := by
  unfold hasB rightB
  by_cases hb : 0 ≤ b ∧ b ≤ 32
  · have hc := clamp_in hb.1 hb.2
    have hc2 : clamp b = b.toNat := by omega
    have := cut_eq a x (2 ^ (32 - b.toNat)) (pow_pos _)
    unfold cutA
    rw [hc2]
    by_cases h : x / 2 ^ (32 - b.toNat) * 2 ^ (32 - b.toNat) = a
    · obtain ⟨h1, h2, h3⟩ := this.1 h
      have e : ((b.toNat : Nat) : Int) = b := by omega
      rw [e]
      simp [h, h1, h2, h3, hb]
    · have hn : ¬ (a % 2 ^ (32 - b.toNat) = 0 ∧ a ≤ x ∧ x < a + 2 ^ (32 - b.toNat)) := fun k => h (this.2 k)
      rw [decide_eq_false h, Bool.false_and]
      symm
      rw [Bool.eq_false_iff]
      simp only [ne_eq, Bool.and_eq_true, decide_eq_true_eq]
      rintro ⟨⟨_, _, k1⟩, k2, k3⟩
      exact hn ⟨k1, k2, k3⟩
  · have hc := clamp_out (show b < 0 ∨ 32 < b by omega)
    have : ¬ (0 ≤ b ∧ b ≤ 32 ∧ a % 2 ^ (32 - b.toNat) = 0) := fun h => hb ⟨h.1, h.2.1⟩
    rw [decide_eq_false this, decide_eq_false hc]
    simp
theorem within_span (a : Nat) (b : Int) (c : Nat) (d : Int) : withinB a b c d = (rightB a b && (rightB c d && (decide (c ≤ a) && decide (a + 2 ^ (32 - b.toNat) ≤ c + 2 ^ (32 - d.toNat))))) := by
  unfold withinB
  by_cases hr : rightB a b = true
  · rw [hr, has_span]
    by_cases hq : rightB c d = true
    · rw [hq]
      simp only [Bool.true_and]
      unfold rightB at hr hq
      simp only [decide_eq_true_eq] at hr hq
      obtain ⟨r0, r1, r2⟩ := hr
      obtain ⟨q0, q1, q2⟩ := hq
      have hs := pow_pos b.toNat
      have ht := pow_pos d.toNat
      by_cases hle : d ≤ b
      · have hdv : 2 ^ (32 - b.toNat) ∣ 2 ^ (32 - d.toNat) := Nat.pow_dvd_pow 2 (by omega)
        have ha := Nat.dvd_of_mod_eq_zero r2
        have hc := Nat.dvd_of_mod_eq_zero q2
        have hct : 2 ^ (32 - b.toNat) ∣ c + 2 ^ (32 - d.toNat) := (Nat.dvd_add_right (Nat.dvd_trans hdv hc)).2 hdv
        generalize 2 ^ (32 - b.toNat) = s at *
        generalize 2 ^ (32 - d.toNat) = t at *
        obtain ⟨k, rfl⟩ := ha
        obtain ⟨m, hm⟩ := hct
        rw [hm, decide_eq_true hle, Bool.true_and]
        have e : decide (s * k < s * m) = decide (s * k + s ≤ s * m) := by
          apply decide_eq_decide.2
          rw [Nat.mul_lt_mul_left hs, ← Nat.mul_succ, Nat.mul_le_mul_left_iff hs]
          omega
        rw [e]
      · have hlt : 2 ^ (32 - d.toNat) < 2 ^ (32 - b.toNat) := Nat.pow_lt_pow_right (by decide) (by omega)
        rw [decide_eq_false hle, Bool.false_and]
        symm
        rw [Bool.eq_false_iff]
        simp only [ne_eq, Bool.and_eq_true, decide_eq_true_eq]
        rintro ⟨k1, k2⟩
        omega
    · rw [Bool.not_eq_true] at hq
      rw [hq]; simp
  · rw [Bool.not_eq_true] at hr
    rw [hr]; simp
end Go.Proofs.YtnfklhebcloolabDoor.cim
