/- Numbers of 32 bits: turned, rolled; a roll as so many rolls by one. -/
import Derived.Test.YtnfklhebcloolaaDoorMdMath
import Derived.Laws.BitsAll
namespace Go.Proofs.YtnfklhebcloolaaDoor.mdm
theorem not32 (b : Nat) (hb : b < 4294967296) : 4294967295 ^^^ b = 4294967295 - b := by
  have h := BitVec.toNat_not (x := BitVec.ofNat 32 b)
  rw [BitVec.not_def, BitVec.toNat_xor, BitVec.toNat_allOnes, BitVec.toNat_ofNat, Nat.mod_eq_of_lt (show b < 2 ^ 32 from hb)] at h
  simpa using h
theorem neg32 (b : Nat) (hb : b < 4294967296) : bits BinOp.xor IntKind.u32 IntKind.u32.max (b : Int) = ((4294967295 - b : Nat) : Int) := by
  have : IntKind.u32.max = ((4294967295 : Nat) : Int) := by decide
  rw [this, u32_xor_nat 4294967295 b (by decide) hb, not32 b hb]
theorem split_pow (k : Nat) (hk : k ≤ 32) : 2 ^ k * 2 ^ (32 - k) = 4294967296 := by rw [← Nat.pow_add, show k + (32 - k) = 32 by omega]
theorem rol_low (n k : Nat) (hk : k ≤ 32) : n * 2 ^ k % 4294967296 = 2 ^ k * (n % 2 ^ (32 - k)) := by
  have e := split_pow k hk
  rw [← e, Nat.mul_comm n, Nat.mul_mod_mul_left]
theorem rol_or (n k : Nat) (hn : n < 4294967296) (hk : k ≤ 32) : (n * 2 ^ k % 4294967296) ||| (n / 2 ^ (32 - k)) = rol n k := by
  have e := split_pow k hk
  have h : n / 2 ^ (32 - k) < 2 ^ k := by rw [Nat.div_lt_iff_lt_mul (Nat.pow_pos (by decide)), e]; exact hn
  unfold rol
  rw [rol_low n k hk, Nat.two_pow_add_eq_or_of_lt h]
theorem rol_zero (n : Nat) (hn : n < 4294967296) : rol n 0 = n := by unfold rol; simp; omega
theorem rol_succ (n k : Nat) (hn : n < 4294967296) (hk : k < 32) : 2 * rol n k % 4294967296 + rol n k / 2147483648 = rol n (k + 1) := by
  have e1 : 2 ^ k * 2 ^ (31 - k) = 2147483648 := by rw [← Nat.pow_add, show k + (31 - k) = 31 by omega]
  have e2 : 2 ^ (32 - k) = 2 * 2 ^ (31 - k) := by rw [show 32 - k = (31 - k) + 1 by omega, Nat.pow_succ, Nat.mul_comm]
  have e3 : 2 ^ (k + 1) = 2 * 2 ^ k := by rw [Nat.pow_succ, Nat.mul_comm]
  have e4 : 32 - (k + 1) = 31 - k := by omega
  unfold rol
  rw [rol_low n k (by omega), rol_low n (k + 1) (by omega), e4, e2, e3]
  have hP : 0 < 2 ^ k := Nat.pow_pos (by decide)
  have hQ : 0 < 2 ^ (31 - k) := Nat.pow_pos (by decide)
  generalize 2 ^ k = P at *
  generalize 2 ^ (31 - k) = Q at *
  obtain ⟨s, hs⟩ : ∃ s, s = n % Q := ⟨_, rfl⟩
  obtain ⟨m, hm⟩ : ∃ m, m = n / Q := ⟨_, rfl⟩
  have hd : Q * m + s = n := by rw [hs, hm]; exact Nat.div_add_mod n Q
  have hsq : s < Q := by rw [hs]; exact Nat.mod_lt _ hQ
  have h1 : n / (2 * Q) = m / 2 := by rw [Nat.mul_comm, ← Nat.div_div_eq_div_mul, ← hm]
  have h2 : n % (2 * Q) = Q * (m % 2) + s := by rw [Nat.mul_comm 2 Q, Nat.mod_mul, ← hs, ← hm]; omega
  rw [h1, h2, ← hs, ← hm]
  have hq : m / 2 < P := by
    have : n < (2 * P) * Q := by rw [Nat.mul_assoc, e1]; omega
    have : m < 2 * P := by rw [hm, Nat.div_lt_iff_lt_mul hQ]; exact this
    omega
  have h3 : P * (Q * (m % 2) + s) = 2147483648 * (m % 2) + P * s := by rw [Nat.mul_add, ← Nat.mul_assoc, e1]
  rw [h3]
  have h4 : P * s + m / 2 < 2147483648 := by
    have : P * (s + 1) ≤ P * Q := Nat.mul_le_mul_left _ hsq
    rw [Nat.mul_add, e1] at this; omega
  have h5 : 2 * P * s = 2 * (P * s) := Nat.mul_assoc 2 P s
  rw [h5]
  generalize P * s = t at *
  have : m % 2 = 0 ∨ m % 2 = 1 := by omega
  rcases this with h | h <;> rw [h] <;> omega
theorem F_bd (i b c d : Nat) (hb : b < 4294967296) (hc : c < 4294967296) (hd : d < 4294967296) : F i b c d < 4294967296 := F_lt i b c d hb hc hd
end Go.Proofs.YtnfklhebcloolaaDoor.mdm
