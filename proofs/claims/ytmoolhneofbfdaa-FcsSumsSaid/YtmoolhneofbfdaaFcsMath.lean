/- Sums of bits: the arithmetic of the frame's check, without the program. -/
import Derived.WalkKit
namespace Go.Proofs.Ytmoolhneofbfdaa.fcm
set_option linter.unusedSimpArgs false
set_option linter.unusedVariables false

theorem nxor_left_comm (a b c : Nat) : a ^^^ (b ^^^ c) = b ^^^ (a ^^^ c) := by rw [← Nat.xor_assoc, Nat.xor_comm a b, Nat.xor_assoc]
theorem nxor_cancel (a b : Nat) : a ^^^ (a ^^^ b) = b := by rw [← Nat.xor_assoc, Nat.xor_self, Nat.zero_xor]
theorem nxor_eq0 {a b : Nat} (h : a ^^^ b = 0) : a = b := by
  have := nxor_cancel a b
  rw [h, Nat.xor_zero] at this; exact this
/-- one bit into the sum -/
def sb (s : Nat) (b : Bool) : Nat := (s / 2) ^^^ (if (s.testBit 0 ^^ b) = true then 33800 else 0)
/-- so many bits into the sum -/
def crc (s : Nat) (f : Nat → Bool) : Nat → Nat
  | 0 => s
  | n + 1 => sb (crc s f n) (f n)
theorem sb_lt {s : Nat} {b : Bool} (h : s < 65536) : sb s b < 65536 := by
  unfold sb; exact Nat.xor_lt_two_pow (n := 16) (by omega) (by split <;> decide)
theorem crc_lt {s : Nat} (f : Nat → Bool) (h : s < 65536) (n : Nat) : crc s f n < 65536 := by
  induction n with
  | zero => exact h
  | succ n ih => exact sb_lt ih
theorem half_xor (a b : Nat) : (a ^^^ b) / 2 = (a / 2) ^^^ (b / 2) := by
  apply Nat.eq_of_testBit_eq; intro i
  simp [Nat.testBit_div_two, Nat.testBit_xor]
theorem sb_xor (s t : Nat) (b c : Bool) : sb (s ^^^ t) (b ^^ c) = sb s b ^^^ sb t c := by
  unfold sb
  rw [half_xor, Nat.testBit_xor]
  cases s.testBit 0 <;> cases t.testBit 0 <;> cases b <;> cases c <;> simp only [Bool.xor_false, Bool.xor_true, Bool.false_xor, Bool.true_xor, Bool.not_true, Bool.not_false, if_true, Bool.false_eq_true, if_false, Nat.xor_zero, Nat.zero_xor, Nat.xor_assoc, nxor_left_comm _ 33800, Nat.xor_comm _ 33800, nxor_cancel]
theorem crc_xor (s t : Nat) (f g : Nat → Bool) (n : Nat) : crc (s ^^^ t) (fun i => f i ^^ g i) n = crc s f n ^^^ crc t g n := by
  induction n with
  | zero => rfl
  | succ n ih => simp only [crc]; rw [ih, sb_xor]
theorem crc_add (s : Nat) (f : Nat → Bool) (m n : Nat) : crc s f (m + n) = crc (crc s f m) (fun i => f (m + i)) n := by
  induction n with
  | zero => rfl
  | succ n ih => rw [← Nat.add_assoc]; simp only [crc]; rw [ih]
theorem crc_congr {s : Nat} {f g : Nat → Bool} {n : Nat} (h : ∀ i, i < n → f i = g i) : crc s f n = crc s g n := by
  induction n with
  | zero => rfl
  | succ n ih => simp only [crc]; rw [ih (fun i hi => h i (by omega)), h n (by omega)]
/-- a byte at once is its bits, one by one -/
theorem crc_byte (r c j : Nat) : crc (r ^^^ c) (fun _ => false) j = crc r (fun i => c.testBit i) j ^^^ (c >>> j) := by
  induction j with
  | zero => rfl
  | succ j ih =>
    simp only [crc]
    rw [ih]
    unfold sb
    rw [half_xor, Nat.testBit_xor, Nat.testBit_shiftRight, Nat.shiftRight_succ]
    cases (crc r (fun i => c.testBit i) j).testBit 0 <;> simp only [Nat.add_zero] <;> cases c.testBit j <;> simp only [Bool.xor_false, Bool.xor_true, Bool.false_xor, Bool.true_xor, Bool.not_true, Bool.not_false, if_true, Bool.false_eq_true, if_false, Nat.xor_zero, Nat.zero_xor, Nat.xor_assoc, nxor_left_comm _ 33800, Nat.xor_comm _ 33800, nxor_cancel]
theorem crc_byte8 (r c : Nat) (h : c < 256) : crc (r ^^^ c) (fun _ => false) 8 = crc r (fun i => c.testBit i) 8 := by
  rw [crc_byte, Nat.shiftRight_eq_div_pow, Nat.div_eq_of_lt (by omega)]; simp
theorem sb_false (s : Nat) : sb s false = (s / 2) ^^^ (33800 * (s % 2)) := by
  unfold sb
  have h := Nat.testBit_zero s
  rcases Nat.mod_two_eq_zero_or_one s with e | e <;> simp [h, e]
/-- the bits of bytes, the low ones first -/
def bitOf (l : List Int) (i : Nat) : Bool := (l.getD (i / 8) 0).toNat.testBit (i % 8)
theorem crc_step (s : Nat) (l : List Int) (k c : Nat) (hc : (l.getD k 0).toNat = c) (h : c < 256) : crc (crc s (bitOf l) (8 * k) ^^^ c) (fun _ => false) 8 = crc s (bitOf l) (8 * (k + 1)) := by
  rw [crc_byte8 _ _ h, Nat.mul_succ, crc_add]
  apply crc_congr
  intro i hi
  unfold bitOf
  rw [show (8 * k + i) / 8 = k by omega, show (8 * k + i) % 8 = i by omega, hc]
/-- nothing is lost on the way: a sum that is not 0 stays so -/
theorem sb_inj0 {s : Nat} (h : s < 65536) (h0 : s ≠ 0) : sb s false ≠ 0 := by
  rw [sb_false]
  intro h1
  have h2 : s / 2 = 33800 * (s % 2) := nxor_eq0 h1
  omega
theorem crc_ne0 {s : Nat} (h : s < 65536) (h0 : s ≠ 0) (n : Nat) : crc s (fun _ => false) n ≠ 0 := by
  induction n with
  | zero => exact h0
  | succ n ih => simp only [crc]; exact sb_inj0 (crc_lt _ h n) ih
theorem crc_0 (n : Nat) : crc 0 (fun _ => false) n = 0 := by
  induction n with
  | zero => rfl
  | succ n ih => simp only [crc]; rw [ih]; rfl
/-- turned bits that all lie within 16 in a row turn the sum -/
theorem crc_turned (s : Nat) (f g : Nat → Bool) (n p m : Nat) (hm : m < 65536) (h0 : m ≠ 0) (hp : p + 16 ≤ n) (hg : ∀ i, i < n → g i = (f i ^^ (decide (p ≤ i) && m.testBit (i - p)))) : crc s g n ≠ crc s f n := by
  have e : crc s g n = crc s f n ^^^ crc 0 (fun i => decide (p ≤ i) && m.testBit (i - p)) n := by
    have := crc_xor s 0 f (fun i => decide (p ≤ i) && m.testBit (i - p)) n
    rw [Nat.xor_zero] at this
    rw [← this]
    exact crc_congr hg
  have e2 : crc 0 (fun i => decide (p ≤ i) && m.testBit (i - p)) n ≠ 0 := by
    obtain ⟨q, rfl⟩ : ∃ q, n = p + (16 + q) := ⟨n - p - 16, by omega⟩
    rw [crc_add]
    have e3 : crc 0 (fun i => decide (p ≤ i) && m.testBit (i - p)) p = 0 := by
      rw [crc_congr (g := fun _ => false) (fun i hi => by simp; omega)]; exact crc_0 p
    rw [e3, crc_congr (g := fun i => m.testBit i) (fun i hi => by simp), crc_add]
    have e4 : crc 0 (fun i => m.testBit i) 16 = crc m (fun _ => false) 16 := by
      have := crc_byte 0 m 16
      rw [Nat.zero_xor, Nat.shiftRight_eq_div_pow, Nat.div_eq_of_lt (by omega), Nat.xor_zero] at this
      exact this.symm
    rw [e4, crc_congr (g := fun _ => false) (fun i _ => Nat.testBit_lt_two_pow (Nat.lt_of_lt_of_le hm (Nat.le_trans (by decide : 65536 ≤ 2 ^ 16) (Nat.pow_le_pow_right (by decide) (by omega)))))]
    exact crc_ne0 (crc_lt _ hm _) (crc_ne0 hm h0 _) _
  rw [e]
  intro h
  apply e2
  have := congrArg (crc s f n ^^^ ·) h
  simpa [← Nat.xor_assoc] using this
/-- what is behind bytes counts behind them -/
theorem crc_append (s : Nat) (l1 l2 : List Int) : crc s (bitOf (l1 ++ l2)) (8 * (l1.length + l2.length)) = crc (crc s (bitOf l1) (8 * l1.length)) (bitOf l2) (8 * l2.length) := by
  rw [Nat.mul_add, crc_add]
  congr 1
  · apply crc_congr; intro i hi; unfold bitOf
    rw [List.getD_eq_getElem?_getD, List.getD_eq_getElem?_getD, List.getElem?_append_left (by omega)]
  · funext i; unfold bitOf
    rw [List.getD_eq_getElem?_getD, List.getD_eq_getElem?_getD, List.getElem?_append_right (by omega)]
    rw [show (8 * l1.length + i) / 8 - l1.length = i / 8 by omega, show (8 * l1.length + i) % 8 = i % 8 by omega]
/-- the sum of what bears its sum -/
theorem crc_seal (s : Nat) (h : s < 65536) : crc s (bitOf [(((65535 - s) % 256 : Nat) : Int), (((65535 - s) / 256 : Nat) : Int)]) 16 = 61624 := by
  have e : ∀ i, i < 16 → bitOf [(((65535 - s) % 256 : Nat) : Int), (((65535 - s) / 256 : Nat) : Int)] i = (65535 - s).testBit i := by
    intro i hi
    unfold bitOf
    by_cases h8 : i < 8
    · rw [show i / 8 = 0 by omega, show i % 8 = i by omega, show (256 : Nat) = 2 ^ 8 by rfl]
      simp only [List.getD_cons_zero, Int.toNat_natCast, Nat.testBit_mod_two_pow, h8, decide_true, Bool.true_and]
    · obtain ⟨j, rfl⟩ : ∃ j, i = 8 + j := ⟨i - 8, by omega⟩
      rw [show (8 + j) / 8 = 1 by omega, show (8 + j) % 8 = j by omega, show (256 : Nat) = 2 ^ 8 by rfl]
      simp only [List.getD_cons_succ, List.getD_cons_zero, Int.toNat_natCast]
      rw [← Nat.shiftRight_eq_div_pow, Nat.testBit_shiftRight]
  rw [crc_congr e]
  have e2 : 65535 - s = s ^^^ 65535 := by
    have h1 := congrArg BitVec.toNat (BitVec.not_def (x := BitVec.ofNat 16 s))
    rw [BitVec.toNat_not, BitVec.toNat_xor, BitVec.toNat_allOnes, BitVec.toNat_ofNat, Nat.mod_eq_of_lt (by omega)] at h1
    rw [Nat.xor_comm]; exact h1
  have k := crc_byte s (65535 - s) 16
  rw [Nat.shiftRight_eq_div_pow, Nat.div_eq_of_lt (by omega), Nat.xor_zero] at k
  rw [← k, e2, ← Nat.xor_assoc, Nat.xor_self, Nat.zero_xor]
  decide
end Go.Proofs.Ytmoolhneofbfdaa.fcm
