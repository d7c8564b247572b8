/- Ones of a word, by halves: the arithmetic of math/bits.OnesCount64, without the program. -/
import Derived.WalkKit
namespace Go.Proofs.YtgegejdkehbeeaaDoor.pop
set_option linter.unusedSimpArgs false
set_option linter.unusedVariables false

/-- how many below n are true -/
def pc (f : Nat → Bool) : Nat → Nat
  | 0 => 0
  | n + 1 => pc f n + (f n).toNat
theorem pc_congr {f g : Nat → Bool} {n : Nat} (h : ∀ i, i < n → f i = g i) : pc f n = pc g n := by
  induction n with
  | zero => rfl
  | succ n ih => simp only [pc]; rw [ih (fun i hi => h i (by omega)), h n (by omega)]
theorem pc_add (f : Nat → Bool) (m n : Nat) : pc f (m + n) = pc f m + pc (fun i => f (m + i)) n := by
  induction n with
  | zero => rfl
  | succ n ih => rw [← Nat.add_assoc]; simp only [pc]; rw [ih]; omega
theorem pc_le (f : Nat → Bool) (n : Nat) : pc f n ≤ n := by
  induction n with
  | zero => exact Nat.le_refl 0
  | succ n ih => simp only [pc]; have := Bool.toNat_le (f n); omega
/-- one at a place turned to b -/
def upd (f : Nat → Bool) (k : Nat) (b : Bool) (i : Nat) : Bool := if i = k then b else f i
theorem pc_upd (f : Nat → Bool) (k : Nat) (b : Bool) (n : Nat) : pc (upd f k b) n + (if k < n then (f k).toNat else 0) = pc f n + (if k < n then b.toNat else 0) := by
  induction n with
  | zero => simp [pc]
  | succ n ih =>
    simp only [pc]
    by_cases e : n = k
    · subst e
      have h1 : ¬ n < n := by omega
      have h2 : n < n + 1 := by omega
      have h3 : upd f n b n = b := by simp [upd]
      rw [if_neg h1, if_neg h1] at ih
      rw [if_pos h2, if_pos h2, h3]; omega
    · have h3 : upd f k b n = f n := by simp [upd, e]
      rw [h3]
      by_cases h : k < n
      · rw [if_pos h, if_pos h] at ih; rw [if_pos (by omega), if_pos (by omega)]; omega
      · rw [if_neg h, if_neg h] at ih; rw [if_neg (by omega), if_neg (by omega)]; omega
theorem pc_none {f : Nat → Bool} {n : Nat} (h : ∀ i, i < n → f i = false) : pc f n = 0 := by
  induction n with
  | zero => rfl
  | succ n ih => simp only [pc]; rw [ih (fun i hi => h i (by omega)), h n (by omega)]; rfl
theorem pc_full {f : Nat → Bool} {n : Nat} (h : ∀ i, i < n → f i = true) : pc f n = n := by
  induction n with
  | zero => rfl
  | succ n ih => simp only [pc]; rw [ih (fun i hi => h i (by omega)), h n (by omega)]; rfl

/-- the mask of so many bytes, each m -/
def mask (m : Nat) : Nat → Nat
  | 0 => 0
  | n + 1 => m + 256 * mask m n
theorem land_split (u v p q : Nat) (hu : u < 256) (hp : p < 256) : (u + 256 * v) &&& (p + 256 * q) = (u &&& p) + 256 * (v &&& q) := by
  have h1 : ((u + 256 * v) &&& (p + 256 * q)) % 2 ^ 8 = (u &&& p) := by
    rw [Nat.and_mod_two_pow, show (u + 256 * v) % 2 ^ 8 = u by omega, show (p + 256 * q) % 2 ^ 8 = p by omega]
  have h2 : ((u + 256 * v) &&& (p + 256 * q)) / 2 ^ 8 = (v &&& q) := by
    rw [Nat.and_div_two_pow, show (u + 256 * v) / 2 ^ 8 = v by omega, show (p + 256 * q) / 2 ^ 8 = q by omega]
  omega
theorem mask_succ (m n : Nat) : mask m (n + 1) = m + 256 * mask m n := rfl
def stA (n x : Nat) : Nat := (x / 2 &&& mask 85 n) + (x &&& mask 85 n)
def stB (n x : Nat) : Nat := (x / 4 &&& mask 51 n) + (x &&& mask 51 n)
def stC (n x : Nat) : Nat := (x / 16 + x) &&& mask 15 n
def byA (u : Nat) : Nat := (u / 2 &&& 85) + (u &&& 85)
def byB (u : Nat) : Nat := (u / 4 &&& 51) + (u &&& 51)
theorem byA_lt : ∀ u : Fin 256, byA u.val < 256 := by decide +kernel
theorem byB_of : ∀ u : Fin 256, byB (byA u.val) ≤ 68 ∧ byB (byA u.val) % 16 ≤ 4 ∧ ((byB (byA u.val) / 16 + byB (byA u.val)) &&& 15) = pc u.val.testBit 8 := by decide +kernel
theorem halfA : ∀ (u : Fin 256) (c : Fin 2), ((u.val / 2 + 128 * c.val) &&& 85) = (u.val / 2 &&& 85) := by decide +kernel
theorem halfB : ∀ (u : Fin 256) (c : Fin 4), ((u.val / 4 + 64 * c.val) &&& 51) = (u.val / 4 &&& 51) := by decide +kernel
theorem halfC : ∀ (u : Fin 69) (c : Fin 5), ((u.val / 16 + 16 * c.val + u.val) &&& 15) = ((u.val / 16 + u.val) &&& 15) := by decide +kernel
theorem stA_split (n u v : Nat) (hu : u < 256) : stA (n + 1) (u + 256 * v) = byA u + 256 * stA n v := by
  unfold stA byA; rw [mask_succ]
  rw [show (u + 256 * v) / 2 = (u / 2 + 128 * (v % 2)) + 256 * (v / 2) by omega, land_split _ _ _ _ (by omega) (by omega), land_split _ _ _ _ (by omega) (by omega)]
  have := halfA ⟨u, hu⟩ ⟨v % 2, by omega⟩
  simp only at this
  rw [this]; omega
theorem stB_split (n u v : Nat) (hu : u < 256) : stB (n + 1) (u + 256 * v) = byB u + 256 * stB n v := by
  unfold stB byB; rw [mask_succ]
  rw [show (u + 256 * v) / 4 = (u / 4 + 64 * (v % 4)) + 256 * (v / 4) by omega, land_split _ _ _ _ (by omega) (by omega), land_split _ _ _ _ (by omega) (by omega)]
  have := halfB ⟨u, hu⟩ ⟨v % 4, by omega⟩
  simp only at this
  rw [this]; omega
theorem stC_split (n u v : Nat) (hu : u ≤ 68) (hv : v % 16 ≤ 4) : stC (n + 1) (u + 256 * v) = ((u / 16 + u) &&& 15) + 256 * stC n v := by
  unfold stC; rw [mask_succ]
  rw [show (u + 256 * v) / 16 + (u + 256 * v) = (u / 16 + 16 * (v % 16) + u) + 256 * (v / 16 + v) by omega, land_split _ _ _ _ (by omega) (by omega)]
  have := halfC ⟨u, by omega⟩ ⟨v % 16, by omega⟩
  simp only at this
  rw [this]
theorem low_ok (n x : Nat) : stB n (stA n x) % 16 ≤ 4 := by
  cases n with
  | zero => simp [stB, stA, mask]
  | succ n =>
    have h := stA_split n (x % 256) (x / 256) (by omega)
    rw [show x % 256 + 256 * (x / 256) = x by omega] at h
    have b : byB (byA (x % 256)) % 16 ≤ 4 := (byB_of ⟨x % 256, by omega⟩).2.1
    have a : byA (x % 256) < 256 := byA_lt ⟨x % 256, by omega⟩
    rw [h, stB_split _ _ _ a]
    omega
def st (n x : Nat) : Nat := stC n (stB n (stA n x))
theorem st_split (n x : Nat) : st (n + 1) x = pc (x % 256).testBit 8 + 256 * st n (x / 256) := by
  have h := stA_split n (x % 256) (x / 256) (by omega)
  rw [show x % 256 + 256 * (x / 256) = x by omega] at h
  have b := byB_of ⟨x % 256, by omega⟩
  have a : byA (x % 256) < 256 := byA_lt ⟨x % 256, by omega⟩
  unfold st
  rw [h, stB_split _ _ _ a, stC_split _ _ _ b.1 (low_ok n _), b.2.2]
/-- the ones of a byte of a word -/
theorem pc_byte (x k : Nat) : pc (fun i => x.testBit (k + i)) 8 = pc (x / 2 ^ k % 256).testBit 8 := by
  apply pc_congr
  intro i hi
  rw [show (256 : Nat) = 2 ^ 8 from rfl, Nat.testBit_mod_two_pow, Nat.testBit_div_two_pow]
  simp [hi, Nat.add_comm]
theorem pc_word (x : Nat) : pc x.testBit 64 = pc (x % 256).testBit 8 + pc (x / 256 % 256).testBit 8 + pc (x / 256 / 256 % 256).testBit 8 + pc (x / 256 / 256 / 256 % 256).testBit 8
    + pc (x / 256 / 256 / 256 / 256 % 256).testBit 8 + pc (x / 256 / 256 / 256 / 256 / 256 % 256).testBit 8 + pc (x / 256 / 256 / 256 / 256 / 256 / 256 % 256).testBit 8 + pc (x / 256 / 256 / 256 / 256 / 256 / 256 / 256 % 256).testBit 8 := by
  have e : ∀ n, pc x.testBit (n + 8) = pc x.testBit n + pc (x / 2 ^ n % 256).testBit 8 := fun n => by rw [pc_add, pc_byte]
  have z : pc x.testBit 0 = 0 := rfl
  have e0 := e 0; have e1 := e 8; have e2 := e 16; have e3 := e 24; have e4 := e 32; have e5 := e 40; have e6 := e 48; have e7 := e 56
  simp only [Nat.reduceAdd] at e0 e1 e2 e3 e4 e5 e6 e7
  rw [e7, e6, e5, e4, e3, e2, e1, e0, z]
  simp only [Nat.div_div_eq_div_mul, Nat.reduceMul, Nat.reducePow, Nat.div_one, Nat.zero_add]
theorem m85 : mask 85 8 = 6148914691236517205 := by decide
theorem m51 : mask 51 8 = 3689348814741910323 := by decide
theorem m15 : mask 15 8 = 1085102592571150095 := by decide
theorem st_bytes (x : Nat) : st 8 x = pc (x % 256).testBit 8 + 256 * (pc (x / 256 % 256).testBit 8 + 256 * (pc (x / 256 / 256 % 256).testBit 8 + 256 * (pc (x / 256 / 256 / 256 % 256).testBit 8
    + 256 * (pc (x / 256 / 256 / 256 / 256 % 256).testBit 8 + 256 * (pc (x / 256 / 256 / 256 / 256 / 256 % 256).testBit 8 + 256 * (pc (x / 256 / 256 / 256 / 256 / 256 / 256 % 256).testBit 8 + 256 * (pc (x / 256 / 256 / 256 / 256 / 256 / 256 / 256 % 256).testBit 8))))))) := by
  rw [st_split, st_split, st_split, st_split, st_split, st_split, st_split, st_split]
  simp [st, stA, stB, stC, mask]
/-- the three foldings behind them -/
def fold1 (c : Nat) : Nat := c + c / 256
def fold2 (c : Nat) : Nat := c + c / 65536
def fold3 (c : Nat) : Nat := c + c / 4294967296
theorem div256 (a b k : Nat) (h : a < 256) : (a + 256 * b) / 256 = b := by omega
theorem folds (c0 c1 c2 c3 c4 c5 c6 c7 : Nat) (h0 : c0 ≤ 8) (h1 : c1 ≤ 8) (h2 : c2 ≤ 8) (h3 : c3 ≤ 8) (h4 : c4 ≤ 8) (h5 : c5 ≤ 8) (h6 : c6 ≤ 8) (h7 : c7 ≤ 8) (c : Nat)
    (hc : c = c0 + 256 * (c1 + 256 * (c2 + 256 * (c3 + 256 * (c4 + 256 * (c5 + 256 * (c6 + 256 * c7))))))) :
    c < 1152921504606846976 ∧ fold1 c < 1152921504606846976 ∧ fold2 (fold1 c) < 1152921504606846976 ∧ fold3 (fold2 (fold1 c)) < 1152921504606846976 ∧ fold3 (fold2 (fold1 c)) % 128 = c0 + c1 + c2 + c3 + c4 + c5 + c6 + c7 := by
  have hd : c / 256 = c1 + 256 * (c2 + 256 * (c3 + 256 * (c4 + 256 * (c5 + 256 * (c6 + 256 * c7))))) := by
    rw [hc, div256 _ _ 0 (by clear hc; omega)]
  have hf1 : fold1 c = (c0 + c1) + 256 * ((c1 + c2) + 256 * ((c2 + c3) + 256 * ((c3 + c4) + 256 * ((c4 + c5) + 256 * ((c5 + c6) + 256 * ((c6 + c7) + 256 * c7)))))) := by
    show c + c / 256 = _; rw [hd, hc]; clear hd hc; omega
  have l1 : c < 1152921504606846976 := by rw [hc]; clear hf1 hd hc; omega
  generalize fold1 c = d at hf1 ⊢
  clear hd hc
  have hd2 : d / 65536 = (c2 + c3) + 256 * ((c3 + c4) + 256 * ((c4 + c5) + 256 * ((c5 + c6) + 256 * ((c6 + c7) + 256 * c7)))) := by
    rw [show (65536 : Nat) = 256 * 256 from rfl, ← Nat.div_div_eq_div_mul, hf1, div256 _ _ 0 (by clear hf1; omega), div256 _ _ 0 (by clear hf1; omega)]
  have hf2 : fold2 d = (c0 + c1 + c2 + c3) + 256 * ((c1 + c2 + c3 + c4) + 256 * ((c2 + c3 + c4 + c5) + 256 * ((c3 + c4 + c5 + c6) + 256 * ((c4 + c5 + c6 + c7) + 256 * ((c5 + c6 + c7) + 256 * ((c6 + c7) + 256 * c7)))))) := by
    show d + d / 65536 = _; rw [hd2, hf1]; clear hd2 hf1; omega
  have l2 : d < 1152921504606846976 := by rw [hf1]; clear hf1 hd2 hf2; omega
  generalize fold2 d = e at hf2 ⊢
  clear hd2 hf1
  have hd3 : e / 4294967296 = (c4 + c5 + c6 + c7) + 256 * ((c5 + c6 + c7) + 256 * ((c6 + c7) + 256 * c7)) := by
    rw [show (4294967296 : Nat) = 256 * 256 * 256 * 256 from rfl, ← Nat.div_div_eq_div_mul, ← Nat.div_div_eq_div_mul, ← Nat.div_div_eq_div_mul, hf2, div256 _ _ 0 (by clear hf2; omega), div256 _ _ 0 (by clear hf2; omega), div256 _ _ 0 (by clear hf2; omega), div256 _ _ 0 (by clear hf2; omega)]
  have hf3 : fold3 e = (c0 + c1 + c2 + c3 + c4 + c5 + c6 + c7) + 256 * ((c1 + c2 + c3 + c4 + c5 + c6 + c7) + 256 * ((c2 + c3 + c4 + c5 + c6 + c7) + 256 * ((c3 + c4 + c5 + c6 + c7) + 256 * ((c4 + c5 + c6 + c7) + 256 * ((c5 + c6 + c7) + 256 * ((c6 + c7) + 256 * c7)))))) := by
    show e + e / 4294967296 = _; rw [hd3, hf2]; clear hd3 hf2; omega
  have l3 : e < 1152921504606846976 := by rw [hf2]; clear hf3 hd3 hf2; omega
  refine ⟨l1, l2, l3, ?_, ?_⟩
  · rw [hf3]; clear hf3 hd3 hf2; omega
  · rw [hf3]; clear hf3 hd3 hf2; omega
/-- the whole: the ones of a word -/
theorem swar (x : Nat) : let c := st 8 x
    c < 1152921504606846976 ∧ fold1 c < 1152921504606846976 ∧ fold2 (fold1 c) < 1152921504606846976 ∧ fold3 (fold2 (fold1 c)) < 1152921504606846976 ∧ fold3 (fold2 (fold1 c)) % 128 = pc x.testBit 64 := by
  have l : ∀ y : Nat, pc y.testBit 8 ≤ 8 := fun y => pc_le _ _
  rw [pc_word, st_bytes]
  exact folds _ _ _ _ _ _ _ _ (l _) (l _) (l _) (l _) (l _) (l _) (l _) (l _) _ rfl
theorem stA_lt (x : Nat) (h : x < 18446744073709551616) : stA 8 x < 18446744073709551616 := by
  have h1 : x / 2 &&& mask 85 8 ≤ mask 85 8 := Nat.and_le_right
  have h2 : x &&& mask 85 8 ≤ mask 85 8 := Nat.and_le_right
  rw [m85] at h1 h2; unfold stA; rw [m85]; omega
theorem stB_lt (x : Nat) : stB 8 x < 18446744073709551616 := by
  have h1 : x / 4 &&& mask 51 8 ≤ mask 51 8 := Nat.and_le_right
  have h2 : x &&& mask 51 8 ≤ mask 51 8 := Nat.and_le_right
  rw [m51] at h1 h2; unfold stB; rw [m51]; omega
end Go.Proofs.YtgegejdkehbeeaaDoor.pop
