/- The search for a free number. -/
import Derived.Test.YtgegejdkehbeeaaDoorIds
namespace Go.Proofs.YtgegejdkehbeeaaDoor.idc
open Go.RowKit
open Go.Proofs.YtgegejdkehbeeaaDoor.kit Go.Proofs.YtgegejdkehbeeaaDoor.pop
set_option linter.unusedVariables false
set_option linter.unusedSimpArgs false

/-- the lowest one of a word is at its lowest place -/
theorem ctz_is (x j : Nat) (hx : x < 18446744073709551616) (h1 : x.testBit j = true) (h0 : ∀ i, i < j → x.testBit i = false) : j = Lib.ctz 64 x ∧ x ≠ 0 := by
  have hx0 : x ≠ 0 := fun e => by rw [e, Nat.zero_testBit] at h1; cases h1
  refine ⟨?_, hx0⟩
  obtain ⟨m, hm, hlt⟩ := Lib.ctzFrom_spec 64 x (by omega) hx
  unfold Lib.ctz
  rw [if_neg hx0]
  generalize Lib.ctzFrom 64 x = c at *
  have hb : x.testBit c = true := by
    rw [hm, Nat.testBit_two_pow_mul]; simp
  have hl : ∀ i, i < c → x.testBit i = false := fun i hi => by
    rw [hm, Nat.testBit_two_pow_mul]; simp; omega
  rcases Nat.lt_trichotomy j c with h | h | h
  · rw [hl j h] at h1; cases h1
  · exact h
  · rw [h0 c h] at hb; cases hb
/-- what is open of a word, some of it left out -/
def opn (x a : Nat) : Nat := 18446744073709551615 - (x ||| a)
theorem opn_bit (x a i : Nat) (hx : x < 18446744073709551616) (ha : a < 18446744073709551616) (hi : i < 64) : (opn x a).testBit i = (!(x.testBit i || a.testBit i)) := by
  have h : x ||| a < 2 ^ 64 := Nat.or_lt_two_pow hx ha
  unfold opn
  rw [show 18446744073709551615 - (x ||| a) = 2 ^ 64 - ((x ||| a) + 1) by omega, Nat.testBit_two_pow_sub_succ h, Nat.testBit_or]
  simp [hi]
theorem opn_lt (x a : Nat) : opn x a < 18446744073709551616 := by unfold opn; omega
theorem opn_val (x a : Nat) (hx : x < 18446744073709551616) (ha : a < 18446744073709551616) :
    bits BinOp.xor IntKind.u64 (if IntKind.u64.signed = true then -1 else IntKind.u64.max) (bits BinOp.or IntKind.u64 (x : Int) (a : Int)) = ((opn x a : Nat) : Int) := by
  have h : x ||| a < 2 ^ 64 := Nat.or_lt_two_pow hx ha
  rw [bits_or_u64_nat _ _ hx ha]
  have := u64_xor_nat 18446744073709551615 (x ||| a) (by decide) (by omega)
  have e2 : 18446744073709551615 ^^^ (x ||| a) = opn x a := by
    have h1 := congrArg BitVec.toNat (BitVec.not_def (x := BitVec.ofNat 64 (x ||| a)))
    rw [BitVec.toNat_not, BitVec.toNat_xor, BitVec.toNat_allOnes, BitVec.toNat_ofNat, Nat.mod_eq_of_lt h] at h1
    exact h1.symm
  rw [e2] at this
  exact this
/-- the bits below a number's own, in its word -/
def ah (from_ k : Nat) : Nat := if k = from_ / 64 then bitN from_ - 1 else 0
theorem ah_lt (from_ k : Nat) : ah from_ k < 18446744073709551616 := by have := bitN_lt from_; unfold ah; split <;> omega
theorem ah_bit (from_ k i : Nat) (hk : from_ / 64 ≤ k) (hi : i < 64) : (ah from_ k).testBit i = decide (64 * k + i < from_) := by
  unfold ah
  split
  · next e => rw [bitN, Nat.testBit_two_pow_sub_one]; congr 1; rw [e]; simp; omega
  · rw [Nat.zero_testBit]; symm; simp; omega
theorem ah_first (from_ : Nat) : IntKind.u64.wrap ((bitN from_ : Nat) - 1 : Int) = ((ah from_ (from_ / 64) : Nat) : Int) := by
  have h := bitN_lt from_
  have hp : 0 < bitN from_ := Nat.pow_pos (by omega)
  unfold ah; rw [if_pos rfl, IntKind.wrap_u64]; omega
theorem ah_next (from_ k : Nat) (hk : from_ / 64 ≤ k) : ah from_ (k + 1) = 0 := by unfold ah; rw [if_neg (by omega)]
/-- no number of a word's is free behind the first -/
theorem opn_none (W : Nat → Nat) (from_ k : Nat) (hW : W k < 18446744073709551616) (hk : from_ / 64 ≤ k) (h : ∀ m, from_ ≤ m → m < 64 * k + 64 → tk W m = true) : opn (W k) (ah from_ k) = 0 := by
  apply Nat.eq_of_testBit_eq; intro i
  rw [Nat.zero_testBit]
  by_cases hi : i < 64
  · rw [opn_bit _ _ _ hW (ah_lt _ _) hi, ah_bit _ _ _ hk hi]
    by_cases hb : 64 * k + i < from_
    · simp [hb]
    · have := h (64 * k + i) (by omega) (by omega)
      unfold tk at this
      rw [show (64 * k + i) / 64 = k by omega, show (64 * k + i) % 64 = i by omega] at this
      simp [this]
  · exact Nat.testBit_lt_two_pow (Nat.lt_of_lt_of_le (opn_lt _ _) (by rw [show 18446744073709551616 = 2 ^ 64 from rfl]; exact Nat.pow_le_pow_right (by omega) (by omega)))
/-- the first free one of a word -/
theorem opn_some (W : Nat → Nat) (from_ n : Nat) (hW : W (n / 64) < 18446744073709551616) (hf : from_ ≤ n) (h0 : tk W n = false) (h1 : ∀ m, from_ ≤ m → m < n → tk W m = true) :
    n % 64 = Lib.ctz 64 (opn (W (n / 64)) (ah from_ (n / 64))) ∧ opn (W (n / 64)) (ah from_ (n / 64)) ≠ 0 := by
  have hk : from_ / 64 ≤ n / 64 := by omega
  refine ctz_is _ _ (opn_lt _ _) ?_ (fun i hi => ?_)
  · rw [opn_bit _ _ _ hW (ah_lt _ _) (by omega), ah_bit _ _ _ hk (by omega)]
    unfold tk at h0
    rw [h0]; simp; omega
  · rw [opn_bit _ _ _ hW (ah_lt _ _) (by omega), ah_bit _ _ _ hk (by omega)]
    by_cases hb : 64 * (n / 64) + i < from_
    · simp [hb]
    · have := h1 (64 * (n / 64) + i) (by omega) (by omega)
      unfold tk at this
      rw [show (64 * (n / 64) + i) / 64 = n / 64 by omega, show (64 * (n / 64) + i) % 64 = i by omega] at this
      simp [this]
set_option maxRecDepth 20000 in
theorem free_yes {g : Nat} {W : Nat → Nat} (from_ n : Nat) (hf : from_ ≤ n) (hn : n < 65536) (w : World) (h : SetAt w g W) (hT : Tab w) (h0 : tk W n = false) (h1 : ∀ m, from_ ≤ m → m < n → tk W m = true) :
    Calls Tryd.prog 60 #[.pointer (some ⟨g, 0, none⟩), .int .u16 from_] w fun e w' => e = .returned (.tuple #[.int .u16 n, .bool true]) ∧ w' = w := by
  have HW := hid h
  have HT := hid hT
  have HS := hid (opn_some W from_ n (h.lt _) hf h0 h1)
  have H1 := hid h1
  have hff := ah_first from_
  clear h hT h0 h1
  go_enter Tryd.func60, Tryd.ntmps60
  go_wp2_with (go_at_call 59; refine (place_any from_ (by omega) _).mono ?_; rintro e w' ⟨rfl, rfl⟩)
  clear hff
  go_loopw [8, 9] (fun sv iv wr => ∃ k : Nat, k ≤ n / 64 ∧ from_ / 64 ≤ k ∧ iv = .int .i64 k ∧ (∃ a : Nat, a = ah from_ k ∧ sv = .int .u64 a) ∧ wr = w') (fun _ iv _ => 1024 - (intOf iv).toNat)
  case atStart => exact ⟨from_ / 64, by omega, Nat.le_refl _, rfl, ⟨_, rfl, rfl⟩, rfl⟩
  case round =>
    obtain ⟨k, hk, hk0, rfl, ⟨a, ha, rfl⟩, rfl⟩ := hrel
    have hcx := HW.out.cells k (by omega)
    have hv := opn_val (W k) a (HW.out.lt k) (by rw [ha]; exact ah_lt _ _)
    obtain ⟨o, ho⟩ : ∃ o, o = opn (W k) a := ⟨_, rfl⟩
    rw [← ho] at hv
    by_cases hlt : k < n / 64
    · have ho0 : o = 0 := by rw [ho, ha]; exact opn_none W from_ k (HW.out.lt k) hk0 (fun m hm0 hm1 => H1.out m hm0 (by omega))
      subst ho0
      have HN := hid (ah_next from_ k hk0)
      clear ho ha
      go_wp2
      go_roundw
      case rel => exact ⟨k + 1, by omega, by omega, by go_num, ⟨0, HN.out.symm, rfl⟩, by first | rfl | trivial⟩
      case measure => simp [intOf]; omega
    · have hkk : k = n / 64 := by omega
      subst hkk
      rw [ha] at ho
      have hl := lowest_any (n / 64) o (n % 64) (by omega) (by rw [ho]; exact opn_lt _ _) (by rw [ho]; exact HS.out.2) (by rw [ho]; exact HS.out.1) wr HT.out
      rw [show 64 * (n / 64) + n % 64 = n by omega] at hl
      have HL := hid hl
      clear hl
      have hone : o ≠ 0 := by rw [ho]; exact HS.out.2
      clear ho ha
      go_wp2_with (go_at_call 93; refine HL.out.mono ?_; rintro e w' ⟨rfl, rfl⟩)
      go_ret2
      exact ⟨rfl, rfl⟩
set_option maxRecDepth 20000 in
theorem free_no {g : Nat} {W : Nat → Nat} (from_ : Nat) (hf : from_ < 65536) (w : World) (h : SetAt w g W) (h1 : ∀ m, from_ ≤ m → m < 65536 → tk W m = true) :
    Calls Tryd.prog 60 #[.pointer (some ⟨g, 0, none⟩), .int .u16 from_] w fun e w' => e = .returned (.tuple #[.int .u16 0, .bool false]) ∧ w' = w := by
  have HW := hid h
  have H1 := hid h1
  have hff := ah_first from_
  clear h h1
  go_enter Tryd.func60, Tryd.ntmps60
  go_wp2_with (go_at_call 59; refine (place_any from_ hf _).mono ?_; rintro e w' ⟨rfl, rfl⟩)
  clear hff
  go_loopw [8, 9] (fun sv iv wr => ∃ k : Nat, k ≤ 1024 ∧ from_ / 64 ≤ k ∧ iv = .int .i64 k ∧ (∃ a : Nat, a = ah from_ k ∧ sv = .int .u64 a) ∧ wr = w') (fun _ iv _ => 1024 - (intOf iv).toNat)
  case atStart => exact ⟨from_ / 64, by omega, Nat.le_refl _, rfl, ⟨_, rfl, rfl⟩, rfl⟩
  case round =>
    obtain ⟨k, hk, hk0, rfl, ⟨a, ha, rfl⟩, rfl⟩ := hrel
    by_cases hlt : k < 1024
    · have hcx := HW.out.cells k hlt
      have hv := opn_val (W k) a (HW.out.lt k) (by rw [ha]; exact ah_lt _ _)
      have ho0 : opn (W k) a = 0 := by rw [ha]; exact opn_none W from_ k (HW.out.lt k) hk0 (fun m hm0 hm1 => H1.out m hm0 (by omega))
      rw [ho0] at hv
      have HN := hid (ah_next from_ k hk0)
      clear ha ho0
      go_wp2
      go_roundw
      case rel => exact ⟨k + 1, by omega, by omega, by go_num, ⟨0, HN.out.symm, rfl⟩, by first | rfl | trivial⟩
      case measure => simp [intOf]; omega
    · have hkI : (k : Int) = 1024 := by omega
      clear ha H1 HW
      go_wp2
      go_ret2
      exact ⟨rfl, rfl⟩
/-- from one on, going round, n is the first free one -/
def First (W : Nat → Nat) (from_ n : Nat) : Prop :=
  n < 65536 ∧ 1 ≤ n ∧ tk W n = false ∧
    ((max from_ 1 ≤ n ∧ ∀ m, max from_ 1 ≤ m → m < n → tk W m = true) ∨ ((∀ m, max from_ 1 ≤ m → m < 65536 → tk W m = true) ∧ ∀ m, 1 ≤ m → m < n → tk W m = true))
/-- Fresh, from what its two searches answer -/
theorem fresh_of {g : Nat} {W : Nat → Nat} (from_ n : Nat) (hf : from_ < 65536) (w : World)
    (hK : Calls Tryd.prog 36 #[.pointer (some ⟨g, 0, none⟩), .int .u16 n] w fun e w' => e = .returned (.bool true) ∧ Turned w w' g (took W n))
    (hF : Calls Tryd.prog 60 #[.pointer (some ⟨g, 0, none⟩), .int .u16 (if from_ = 0 then 1 else from_ : Nat)] w fun e w' => e = .returned (.tuple #[.int .u16 n, .bool true]) ∧ w' = w) :
    Calls Tryd.prog 37 #[.pointer (some ⟨g, 0, none⟩), .int .u16 from_] w fun e w' => e = .returned (.tuple #[.int .u16 n, .bool true]) ∧ Turned w w' g (took W n) := by
  have HK := hid hK
  by_cases h0 : from_ = 0
  · subst h0
    rw [if_pos rfl, show ((1 : Nat) : Int) = 1 from rfl] at hF
    have HF := hid hF
    clear hF hK
    go_enter Tryd.func37, Tryd.ntmps37
    go_wp2_with (first | (go_at_call 60; with_reducible refine HF.out.mono ?_; rintro e w' ⟨rfl, rfl⟩) | (go_at_call 36; with_reducible refine HK.out.mono ?_; rintro e w1 ⟨rfl, hTu⟩))
    go_ret2
    exact ⟨rfl, by assumption⟩
  · rw [if_neg h0] at hF
    have HF := hid hF
    have h1 : (1 : Int) ≤ from_ := by omega
    clear hF hK
    go_enter Tryd.func37, Tryd.ntmps37
    go_wp2_with (first | (go_at_call 60; with_reducible refine HF.out.mono ?_; rintro e w' ⟨rfl, rfl⟩) | (go_at_call 36; with_reducible refine HK.out.mono ?_; rintro e w1 ⟨rfl, hTu⟩))
    go_ret2
    exact ⟨rfl, by assumption⟩
theorem fresh_none {g : Nat} {W : Nat → Nat} (from_ : Nat) (hf : from_ < 65536) (w : World) (h : SetAt w g W) (h1 : ∀ m, 1 ≤ m → m < 65536 → tk W m = true) :
    Calls Tryd.prog 37 #[.pointer (some ⟨g, 0, none⟩), .int .u16 from_] w fun e w' => e = .returned (.tuple #[.int .u16 0, .bool false]) ∧ w' = w := by
  have hF : Calls Tryd.prog 60 #[.pointer (some ⟨g, 0, none⟩), .int .u16 (1 : Int)] w fun e w' => e = .returned (.tuple #[.int .u16 0, .bool false]) ∧ w' = w := free_no 1 (by omega) w h h1
  have HF := hid hF
  by_cases h0 : from_ = 0
  · subst h0
    clear hF h h1
    go_enter Tryd.func37, Tryd.ntmps37
    go_wp2_with (go_at_call 60; with_reducible refine HF.out.mono ?_; rintro e w' ⟨rfl, rfl⟩)
    go_ret2
    exact ⟨rfl, rfl⟩
  · have HF2 := hid (free_no from_ hf w h (fun m hm0 hm1 => h1 m (by omega) hm1))
    have h2 : (1 : Int) ≤ from_ := by omega
    clear hF h h1
    go_enter Tryd.func37, Tryd.ntmps37
    go_wp2_with (go_at_call 60; first | (with_reducible refine HF2.out.mono ?_; rintro e w' ⟨rfl, rfl⟩) | (with_reducible refine HF.out.mono ?_; rintro e w' ⟨rfl, rfl⟩))
    go_ret2
    exact ⟨rfl, rfl⟩
end Go.Proofs.YtgegejdkehbeeaaDoor.idc
