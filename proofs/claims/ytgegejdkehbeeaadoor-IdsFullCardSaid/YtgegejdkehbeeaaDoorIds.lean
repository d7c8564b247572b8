/- The contracts of package ids. -/
import Derived.Test.YtgegejdkehbeeaaDoorKit
import Derived.Test.YtgegejdkehbeeaaDoorPopMath
import Derived.Laws.BitsAll
import Derived.Laws.Bits64b
import Derived.LoopTactic
import Derived.StillTailTactics
import Derived.Deep.RegionHeld3
import Derived.Deep.DeepCutAuto
import Derived.Shelf.Spec.TrailingZeros
import Derived.Lib.LaidTab
namespace Go.Proofs.YtgegejdkehbeeaaDoor.idc
open Go.RowKit
open Go.Proofs.YtgegejdkehbeeaaDoor.kit Go.Proofs.YtgegejdkehbeeaaDoor.pop
set_option linter.unusedVariables false
set_option linter.unusedSimpArgs false

theorem val_add (a b k : Nat) (h : a + b < 18446744073709551616) : IntKind.u64.wrap ((a : Int) + (b : Int)) = ((a + b : Nat) : Int) := by
  rw [IntKind.wrap_u64]; omega
theorem valA (x : Nat) (h : x < 18446744073709551616) : IntKind.u64.wrap (bits BinOp.and IntKind.u64 ((x : Int) / 2) 6148914691236517205 + bits BinOp.and IntKind.u64 (x : Int) 6148914691236517205) = ((stA 8 x : Nat) : Int) := by
  have l := stA_lt x h
  rw [show ((x : Int) / 2) = ((x / 2 : Nat) : Int) by omega, show (6148914691236517205 : Int) = ((6148914691236517205 : Nat) : Int) from rfl, bits_and_u64_nat _ _ (by omega) (by omega), bits_and_u64_nat _ _ h (by omega), val_add _ _ 0 (by unfold stA at l; rw [m85] at l; exact l), stA, m85]
theorem valB (x : Nat) (h : x < 18446744073709551616) : IntKind.u64.wrap (bits BinOp.and IntKind.u64 ((x : Int) / 4) 3689348814741910323 + bits BinOp.and IntKind.u64 (x : Int) 3689348814741910323) = ((stB 8 x : Nat) : Int) := by
  have l := stB_lt x
  rw [show ((x : Int) / 4) = ((x / 4 : Nat) : Int) by omega, show (3689348814741910323 : Int) = ((3689348814741910323 : Nat) : Int) from rfl, bits_and_u64_nat _ _ (by omega) (by omega), bits_and_u64_nat _ _ h (by omega), val_add _ _ 0 (by unfold stB at l; rw [m51] at l; exact l), stB, m51]
theorem stB_small (x : Nat) : stB 8 x ≤ 7378697629483820646 := by
  have h1 : x / 4 &&& mask 51 8 ≤ mask 51 8 := Nat.and_le_right
  have h2 : x &&& mask 51 8 ≤ mask 51 8 := Nat.and_le_right
  rw [m51] at h1 h2; unfold stB; rw [m51]; omega
theorem valC (x : Nat) (h : x ≤ 7378697629483820646) : bits BinOp.and IntKind.u64 (IntKind.u64.wrap ((x : Int) / 16 + (x : Int))) 1085102592571150095 = ((stC 8 x : Nat) : Int) := by
  rw [show ((x : Int) / 16) = ((x / 16 : Nat) : Int) by omega, val_add _ _ 0 (by omega), show (1085102592571150095 : Int) = ((1085102592571150095 : Nat) : Int) from rfl, bits_and_u64_nat _ _ (by omega) (by omega), stC, m15]
theorem val1 (c : Nat) (h : fold1 c < 1152921504606846976) : IntKind.u64.wrap ((c : Int) + (c : Int) / 256) = ((fold1 c : Nat) : Int) := by
  rw [show ((c : Int) / 256) = ((c / 256 : Nat) : Int) by omega, val_add _ _ 0 (by unfold fold1 at h; omega), fold1]
theorem val2 (c : Nat) (h : fold2 c < 1152921504606846976) : IntKind.u64.wrap ((c : Int) + (c : Int) / 65536) = ((fold2 c : Nat) : Int) := by
  rw [show ((c : Int) / 65536) = ((c / 65536 : Nat) : Int) by omega, val_add _ _ 0 (by unfold fold2 at h; omega), fold2]
theorem val3 (c : Nat) (h : fold3 c < 1152921504606846976) : IntKind.u64.wrap ((c : Int) + (c : Int) / 4294967296) = ((fold3 c : Nat) : Int) := by
  rw [show ((c : Int) / 4294967296) = ((c / 4294967296 : Nat) : Int) by omega, val_add _ _ 0 (by unfold fold3 at h; omega), fold3]
theorem val4 (f : Nat) (h : f < 9223372036854775808) : bits BinOp.and IntKind.i64 (f : Int) 127 = ((f % 128 : Nat) : Int) := by
  have h1 : (BitVec.ofInt 64 (f : Int)).toNat = f := by
    rw [BitVec.ofInt_natCast, BitVec.toNat_ofNat]; exact Nat.mod_eq_of_lt (by omega)
  have h2 : (BitVec.ofInt 64 (127 : Int)).toNat = 127 := by decide
  show IntKind.i64.wrap ((BitVec.ofInt 64 (f : Int) &&& BitVec.ofInt 64 (127 : Int)).toNat : Int) = _
  rw [BitVec.toNat_and, h1, h2, show (127 : Nat) = 2 ^ 7 - 1 from rfl, Nat.and_two_pow_sub_one_eq_mod]
  exact IntWalk.i64_in _ (by omega)
theorem ones (x : Nat) (hx : x < 18446744073709551616) (w : World) :
    Calls Tryd.prog 55 #[.int .u64 x] w fun e w' => e = .returned (.int .i64 (pc x.testBit 64 : Nat)) ∧ w' = w := by
  obtain ⟨l0, l1, l2, l3, l4⟩ := swar x
  have eA := valA x hx
  have eB := valB (stA 8 x) (stA_lt x hx)
  have eC := valC (stB 8 (stA 8 x)) (stB_small _)
  have e1 := val1 _ l1
  have e2 := val2 _ l2
  have e3 := val3 _ l3
  rw [st] at *
  have l3' : fold3 (fold2 (fold1 (stC 8 (stB 8 (stA 8 x))))) < 9223372036854775808 := by omega
  have e4 : bits BinOp.and IntKind.i64 ((fold3 (fold2 (fold1 (stC 8 (stB 8 (stA 8 x))))) : Nat) : Int) 127 = ((pc x.testBit 64 : Nat) : Int) := by
    rw [val4 _ l3', l4]
  clear l0 l1 l2 l4
  go_enter Tryd.func55, Tryd.ntmps55
  go_wp2
  go_ret
  exact ⟨rfl, rfl⟩
theorem ones_is (x b : Nat) (hx : x < 18446744073709551616) (hb : b = pc x.testBit 64) (w : World) :
    Calls Tryd.prog 55 #[.int .u64 x] w fun e w' => e = .returned (.int .i64 b) ∧ w' = w := by
  rw [hb]; exact ones x hx w
/-- a number's bit in its word -/
def bitN (n : Nat) : Nat := 2 ^ (n % 64)
theorem bitN_lt (n : Nat) : bitN n ≤ 9223372036854775808 := by
  have : 2 ^ (n % 64) ≤ 2 ^ 63 := Nat.pow_le_pow_right (by omega) (by omega)
  unfold bitN; omega
theorem place_any (n : Nat) (hn : n < 65536) (w : World) :
    Calls Tryd.prog 59 #[.int .u16 n] w fun e w' => e = .returned (.tuple #[.int .i64 ((n : Int) / 64), .int .u64 (bitN n)]) ∧ w' = w := by
  have e1 : IntKind.u64.wrap (2 ^ (n % 64)) = ((bitN n : Nat) : Int) := by
    have h := bitN_lt n
    have e : ((2 : Int) ^ (n % 64)) = ((bitN n : Nat) : Int) := by unfold bitN; push_cast; rfl
    rw [IntKind.wrap_u64, e]; omega
  go_enter Tryd.func59, Tryd.ntmps59
  go_wp2
  go_ret2
  refine ⟨?_, rfl⟩
  show Ending.returned (Value.tuple #[.int .i64 ((n : Int) / 64), .int .u64 (IntKind.u64.wrap (2 ^ (n % 64)))]) = _
  rw [e1]
/-- a set lies in a block: its 1024 words -/
structure SetAt (w : World) (g : Nat) (W : Nat → Nat) : Prop where
  lt : ∀ i, W i < 18446744073709551616
  cells : ∀ i, i < 1024 → w.cell? ⟨g, i, none⟩ = some (.int .u64 (W i : Nat))
/-- is it given out -/
def tk (W : Nat → Nat) (n : Nat) : Bool := (W (n / 64)).testBit (n % 64)
theorem and_bit (x n : Nat) (hx : x < 18446744073709551616) : (bits BinOp.and IntKind.u64 (x : Int) (bitN n : Nat) != 0) = x.testBit (n % 64) := by
  have h := bitN_lt n
  rw [bits_and_u64_nat _ _ hx (by omega)]
  by_cases hb : x.testBit (n % 64) = true
  · rw [hb]
    have h1 : (x &&& bitN n).testBit (n % 64) = true := by rw [Nat.testBit_and, hb, bitN, Nat.testBit_two_pow_self]; rfl
    have h2 : x &&& bitN n ≠ 0 := fun e => by rw [e, Nat.zero_testBit] at h1; cases h1
    simpa using h2
  · have hb : x.testBit (n % 64) = false := by simpa using hb
    rw [hb]
    have h2 : x &&& bitN n = 0 := by
      apply Nat.eq_of_testBit_eq; intro i
      rw [Nat.testBit_and, bitN, Nat.testBit_two_pow, Nat.zero_testBit]
      by_cases e : n % 64 = i
      · subst e; rw [hb]; rfl
      · simp [e]
    rw [h2]; rfl
theorem has_any {g : Nat} {W : Nat → Nat} (n : Nat) (hn : n < 65536) (w : World) (h : SetAt w g W) :
    Calls Tryd.prog 54 #[.pointer (some ⟨g, 0, none⟩), .int .u16 n] w fun e w' => e = .returned (.bool (tk W n)) ∧ w' = w := by
  have hc := h.cells (n / 64) (by omega)
  have hb := and_bit (W (n / 64)) n (h.lt _)
  clear h
  go_enter Tryd.func54, Tryd.ntmps54
  go_wp2_with (go_at_call 59; refine (place_any n hn _).mono ?_; rintro e w' ⟨rfl, rfl⟩)
  go_ret
  exact ⟨rfl, rfl⟩
theorem has_is {g : Nat} {W : Nat → Nat} (n : Nat) (hn : n < 65536) (w : World) (h : SetAt w g W) (b : Bool) (hb : tk W n = b) :
    Calls Tryd.prog 54 #[.pointer (some ⟨g, 0, none⟩), .int .u16 n] w fun e w' => e = .returned (.bool b) ∧ w' = w := by
  rw [← hb]; exact has_any n hn w h
/-- the words with one other word -/
def put (W : Nat → Nat) (k v : Nat) (i : Nat) : Nat := if i = k then v else W i
theorem or_bit (x n : Nat) (hx : x < 18446744073709551616) : bits BinOp.or IntKind.u64 (x : Int) (bitN n : Nat) = ((x ||| bitN n : Nat) : Int) := by
  have h := bitN_lt n
  rw [bits_or_u64_nat _ _ hx (by omega)]
theorem or_lt (x n : Nat) (hx : x < 18446744073709551616) : x ||| bitN n < 18446744073709551616 := by
  have h := bitN_lt n
  exact Nat.or_lt_two_pow (n := 64) hx (by omega)
theorem clr_bit (x n : Nat) (hx : x < 18446744073709551616) : bits BinOp.andNot IntKind.u64 (x : Int) (bitN n : Nat) = ((x &&& (18446744073709551615 - bitN n) : Nat) : Int) := by
  have h := bitN_lt n
  rw [u64_andNot_nat _ _ hx (by omega)]
theorem tk_put_or (W : Nat → Nat) (n m : Nat) : tk (put W (n / 64) (W (n / 64) ||| bitN n)) m = upd (tk W) n true m := by
  unfold tk put upd
  by_cases e : m / 64 = n / 64
  · rw [if_pos e, Nat.testBit_or, bitN, Nat.testBit_two_pow]; show _ = if m = n then true else (W (m / 64)).testBit (m % 64); rw [e]
    by_cases f : m = n
    · subst f; simp
    · have : ¬ n % 64 = m % 64 := by omega
      simp [f, this]
  · have f : ¬ m = n := fun h => e (by rw [h])
    rw [if_neg e, if_neg f]
theorem tk_put_clr (W : Nat → Nat) (hW : ∀ i, W i < 18446744073709551616) (n m : Nat) : tk (put W (n / 64) (W (n / 64) &&& (18446744073709551615 - bitN n))) m = upd (tk W) n false m := by
  unfold tk put upd
  by_cases e : m / 64 = n / 64
  · rw [if_pos e, Nat.testBit_and]; show _ = if m = n then false else (W (m / 64)).testBit (m % 64); rw [e, bitN, show 18446744073709551615 - 2 ^ (n % 64) = 2 ^ 64 - (2 ^ (n % 64) + 1) by omega, Nat.testBit_two_pow_sub_succ (by have := bitN_lt n; unfold bitN at this; omega), Nat.testBit_two_pow]
    by_cases f : m = n
    · subst f; simp
    · have h1 : ¬ n % 64 = m % 64 := by omega
      have h2 : m % 64 < 64 := by omega
      simp [f, h1, h2]
  · have f : ¬ m = n := fun h => e (by rw [h])
    rw [if_neg e, if_neg f]
theorem SetAt.put {w : World} {g : Nat} {W : Nat → Nat} (h : SetAt w g W) (k v : Nat) (hk : k < 1024) (hv : v < 18446744073709551616) : SetAt (w.setCell ⟨g, k, none⟩ (.int .u64 (v : Nat))) g (put W k v) := by
  refine ⟨fun i => ?_, fun i hi => ?_⟩
  · unfold idc.put; split
    · exact hv
    · exact h.lt i
  · unfold idc.put
    by_cases e : i = k
    · subst e; rw [if_pos rfl]; exact cell_same (h.cells i hi)
    · rw [if_neg e]; exact cell_other (h.cells i hi) (fun e' => e e'.symm)
theorem take_no {g : Nat} {W : Nat → Nat} (n : Nat) (hn : n < 65536) (w : World) (h : SetAt w g W) (hno : n = 0 ∨ tk W n = true) :
    Calls Tryd.prog 36 #[.pointer (some ⟨g, 0, none⟩), .int .u16 n] w fun e w' => e = .returned (.bool false) ∧ w' = w := by
  have H := hid h
  clear h
  by_cases h0 : n = 0
  · subst h0
    clear hno
    go_enter Tryd.func36, Tryd.ntmps36
    go_wp2
    go_ret
    exact ⟨rfl, rfl⟩
  · have ht : tk W n = true := hno.resolve_left h0
    clear hno
    go_enter Tryd.func36, Tryd.ntmps36
    go_wp2_with (go_at_call 54; refine (has_is n hn _ H.out _ ht).mono ?_; rintro e w' ⟨rfl, rfl⟩)
    go_ret
    exact ⟨rfl, rfl⟩
/-- the words behind a number that is given out -/
def took (W : Nat → Nat) (n : Nat) : Nat → Nat := put W (n / 64) (W (n / 64) ||| bitN n)
/-- the words behind a number that is given back -/
def gave (W : Nat → Nat) (n : Nat) : Nat → Nat := put W (n / 64) (W (n / 64) &&& (18446744073709551615 - bitN n))
/-- what a set's calls keep: the set may be written to, and of all that there was only its block may have turned -/
structure Turned (w w' : World) (g : Nat) (W : Nat → Nat) : Prop where
  set : SetAt w' g W
  only : w.grownBy w' (some g)
  free : ∀ i, w'.frozen? ⟨g, i, none⟩ = w.frozen? ⟨g, i, none⟩
theorem Turned.one {w : World} {g : Nat} {W : Nat → Nat} (h : SetAt w g W) (k v : Nat) (hk : k < 1024) (hv : v < 18446744073709551616) (d : Nat) : Turned w ((w.setCell ⟨g, k, none⟩ (.int .u64 (v : Nat))).drewN d) g (put W k v) :=
  have s := h.put k v hk hv
  ⟨⟨s.lt, s.cells⟩, gb_drewN (gb_setCell (World.grownBy.refl _ _) rfl _) d, fun i => frozen_set rfl⟩
theorem take_yes {g : Nat} {W : Nat → Nat} (n : Nat) (hn : n < 65536) (w : World) (h : SetAt w g W) (hz : ∀ i, i < 1024 → w.frozen? ⟨g, i, none⟩ = false) (h0 : n ≠ 0) (ht : tk W n = false) :
    Calls Tryd.prog 36 #[.pointer (some ⟨g, 0, none⟩), .int .u16 n] w fun e w' => e = .returned (.bool true) ∧ Turned w w' g (took W n) := by
  have H := hid h
  have HV := hid (or_lt (W (n / 64)) n (h.lt _))
  have hc := h.cells (n / 64) (by omega)
  have hfz := hz (n / 64) (by omega)
  have hb := or_bit (W (n / 64)) n (h.lt _)
  clear h hz
  go_enter Tryd.func36, Tryd.ntmps36
  go_wp2_with (first | (go_at_call 54; refine (has_is n hn _ H.out _ ht).mono ?_; rintro e w' ⟨rfl, rfl⟩) | (go_at_call 59; refine (place_any n hn _).mono ?_; rintro e w' ⟨rfl, rfl⟩))
  go_region
  go_wp2
  go_ret
  exact ⟨rfl, Turned.one H.out _ _ (by omega) HV.out 1⟩
theorem give_no {g : Nat} {W : Nat → Nat} (n : Nat) (hn : n < 65536) (w : World) (h : SetAt w g W) (ht : tk W n = false) :
    Calls Tryd.prog 52 #[.pointer (some ⟨g, 0, none⟩), .int .u16 n] w fun e w' => e = .returned (.bool false) ∧ w' = w := by
  have H := hid h
  clear h
  go_enter Tryd.func52, Tryd.ntmps52
  go_wp2_with (go_at_call 54; refine (has_is n hn _ H.out _ ht).mono ?_; rintro e w' ⟨rfl, rfl⟩)
  go_ret
  exact ⟨rfl, rfl⟩
theorem give_yes {g : Nat} {W : Nat → Nat} (n : Nat) (hn : n < 65536) (w : World) (h : SetAt w g W) (hz : ∀ i, i < 1024 → w.frozen? ⟨g, i, none⟩ = false) (ht : tk W n = true) :
    Calls Tryd.prog 52 #[.pointer (some ⟨g, 0, none⟩), .int .u16 n] w fun e w' => e = .returned (.bool true) ∧ Turned w w' g (gave W n) := by
  have H := hid h
  have HV := hid (show W (n / 64) &&& (18446744073709551615 - bitN n) < 18446744073709551616 from Nat.lt_of_le_of_lt Nat.and_le_left (h.lt _))
  have hc := h.cells (n / 64) (by omega)
  have hfz := hz (n / 64) (by omega)
  have hb := clr_bit (W (n / 64)) n (h.lt _)
  clear h hz
  go_enter Tryd.func52, Tryd.ntmps52
  go_wp2_with (first | (go_at_call 54; refine (has_is n hn _ H.out _ ht).mono ?_; rintro e w' ⟨rfl, rfl⟩) | (go_at_call 59; refine (place_any n hn _).mono ?_; rintro e w' ⟨rfl, rfl⟩))
  go_region
  go_wp2
  go_ret
  exact ⟨rfl, Turned.one H.out _ _ (by omega) HV.out 1⟩
theorem pc_words (W : Nat → Nat) (k : Nat) : pc (tk W) (64 * (k + 1)) = pc (tk W) (64 * k) + pc (W k).testBit 64 := by
  rw [show 64 * (k + 1) = 64 * k + 64 by omega, pc_add]
  congr 1
  apply pc_congr
  intro i hi
  unfold tk
  rw [show (64 * k + i) / 64 = k by omega, show (64 * k + i) % 64 = i by omega]
/-- how many are given out in the first k words -/
def upto (W : Nat → Nat) (k : Nat) : Nat := pc (tk W) (64 * k)
theorem upto_zero (W : Nat → Nat) : upto W 0 = 0 := rfl
theorem upto_succ (W : Nat → Nat) (k : Nat) : upto W (k + 1) = upto W k + pc (W k).testBit 64 := pc_words W k
theorem upto_le (W : Nat → Nat) (k : Nat) : upto W k ≤ 64 * k := pc_le _ _
set_option maxRecDepth 20000 in
theorem len_any {g : Nat} {W : Nat → Nat} (w : World) (h : SetAt w g W) (m : Nat) (hm : m = upto W 1024) :
    Calls Tryd.prog 29 #[.pointer (some ⟨g, 0, none⟩)] w fun e w' => e = .returned (.int .i64 m) ∧ w' = w := by
  have H := hid h
  have HM := hid hm
  clear h hm
  go_enter Tryd.func29, Tryd.ntmps29
  go_wp2
  go_loopw [3, 9] (fun sv iv wr => ∃ k : Nat, k ≤ 1024 ∧ iv = .int .i64 k ∧ (∃ a : Nat, a = upto W k ∧ sv = .int .i64 a) ∧ wr = w) (fun _ iv _ => 1024 - (intOf iv).toNat)
  case atStart => exact ⟨0, Nat.zero_le _, rfl, ⟨0, (upto_zero W).symm, rfl⟩, rfl⟩
  case round =>
    obtain ⟨k, hk, rfl, ⟨a, ha, rfl⟩, rfl⟩ := hrel
    by_cases hlt : k < 1024
    · have hcx := H.out.cells k hlt
      have hpw := upto_succ W k
      have hle := upto_le W k
      have hle2 := pc_le (W k).testBit 64
      have hwl := hid (H.out.lt k)
      obtain ⟨b, hb⟩ : ∃ b, b = pc (W k).testBit 64 := ⟨_, rfl⟩
      rw [← ha, ← hb] at hpw
      rw [← ha] at hle
      rw [← hb] at hle2
      have HPW := hid hpw
      have HB := hid hb
      clear hpw hb ha
      go_wp2_with (go_at_call 55; refine (ones_is (W k) b hwl.out HB.out _).mono ?_; rintro e w' ⟨rfl, rfl⟩)
      go_roundw
      case rel => exact ⟨k + 1, by omega, by go_num, ⟨a + b, HPW.out.symm, by go_num⟩, by first | rfl | trivial⟩
      case measure => simp [intOf]; omega
    · have hkk : k = 1024 := by omega
      have ham : a = m := by rw [ha, HM.out, hkk]
      subst ham
      have hkI : (k : Int) = 1024 := by omega
      clear ha HM H hkk
      go_wp2
      go_ret
      exact ⟨rfl, rfl⟩
theorem gdb : Tryd.prog.globalNamed "math/bits.deBruijn64tab" = some 3 := by kernel_rfl
def Tab (w : World) : Prop := ∀ j, j < 64 → w.cell? ⟨3, j, none⟩ = some (.int .u8 (Lib.deBruijn64tab.getD j 0 : Nat))
theorem tz_core (x k idx : Nat) (w : World) (hx0 : ((x : Int) == 0) = false)
    (key : IntKind.u64.wrap (bits BinOp.and IntKind.u64 (x : Int) (IntKind.u64.wrap (-(x : Int))) * 285870213051353865) / 288230376151711744 = (idx : Int))
    (hi : idx < 64) (hk : k < 64) (hcell : w.cell? ⟨3, idx, none⟩ = some (.int .u8 k)) :
    Calls Tryd.prog 111 #[.int .u64 x] w fun e w' => e = .returned (.int .i64 k) ∧ w' = w := by
  go_enter Tryd.func111, Tryd.ntmps111
  go_wp2_with (simp only [key])
  go_ret
  exact ⟨rfl, rfl⟩
/-- the lowest one of a word -/
theorem tz_any (x : Nat) (hx : x < 18446744073709551616) (hx0 : x ≠ 0) (w : World) (hT : Tab w) :
    Calls Tryd.prog 111 #[.int .u64 x] w fun e w' => e = .returned (.int .i64 (Lib.ctz 64 x : Nat)) ∧ w' = w := by
  obtain ⟨hlow, hk⟩ := Lib.lowest_bit 64 x hx0 hx
  obtain ⟨hi, htab⟩ := Lib.deBruijn64_at _ hk
  have hcell := hT _ hi
  rw [htab] at hcell
  exact tz_core x _ _ w (by simp; omega) (tz64_key x _ hx hx0 hlow) hi hk hcell
theorem lowest_any (at_ x k : Nat) (ha : at_ < 1024) (hx : x < 18446744073709551616) (hx0 : x ≠ 0) (hk : k = Lib.ctz 64 x) (w : World) (hT : Tab w) :
    Calls Tryd.prog 93 #[.int .i64 at_, .int .u64 x] w fun e w' => e = .returned (.int .u16 (64 * at_ + k : Nat)) ∧ w' = w := by
  have hk64 : k < 64 := by rw [hk]; exact (Lib.lowest_bit 64 x hx0 hx).2
  have H := (hk ▸ tz_any x hx hx0 w hT : Calls Tryd.prog 111 #[.int .u64 x] w fun e w' => e = .returned (.int .i64 (k : Nat)) ∧ w' = w)
  have HH := hid H
  clear H hk hT
  go_enter Tryd.func93, Tryd.ntmps93
  go_wp2_with (go_at_call 111; refine HH.out.mono ?_; rintro e w' ⟨rfl, rfl⟩)
  go_ret
  exact ⟨congrArg (fun z => Ending.returned (Value.int IntKind.u16 z)) (by omega), rfl⟩
end Go.Proofs.YtgegejdkehbeeaaDoor.idc
