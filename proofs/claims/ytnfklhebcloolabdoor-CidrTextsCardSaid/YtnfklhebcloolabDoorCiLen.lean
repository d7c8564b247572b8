/- How many bits a number has; which is its lowest. -/
import Derived.Test.YtnfklhebcloolabDoorCiMath
import Derived.Test.YtnfklhebcloolabDoorKit
import Derived.Lib.Strings
import Derived.Lib.Slices
import Derived.Lib.Small
import Derived.Lib.Walk
import Derived.Lib.BitFns
import Derived.Lib.LaidTab
import Derived.Shelf.Spec.TrailingZeros
namespace Go.Proofs.YtnfklhebcloolabDoor.cic
open Go.RowKit
open Go.Proofs.YtnfklhebcloolabDoor.kit Go.Proofs.YtnfklhebcloolabDoor.cim
set_option linter.unusedVariables false
set_option linter.unusedSimpArgs false
set_option maxRecDepth 100000
theorem bl_spec : ∀ (f x : Nat), x < 2 ^ f → x < 2 ^ Lib.bitLenAux f x ∧ (x ≠ 0 → 1 ≤ Lib.bitLenAux f x ∧ 2 ^ (Lib.bitLenAux f x - 1) ≤ x) := by
  intro f
  induction f with
  | zero => intro x h; exact ⟨by simpa [Lib.bitLenAux] using h, fun h0 => by simp at h; omega⟩
  | succ f ih =>
    intro x h
    unfold Lib.bitLenAux
    by_cases h0 : x = 0
    · rw [if_pos h0]; exact ⟨by omega, fun h1 => absurd h0 h1⟩
    · rw [if_neg h0]
      obtain ⟨i1, i2⟩ := ih (x / 2) (by rw [Nat.pow_succ] at h; omega)
      refine ⟨by rw [Nat.add_comm, Nat.pow_succ]; omega, fun _ => ⟨by omega, ?_⟩⟩
      rw [Nat.add_sub_cancel_left]
      by_cases h1 : x / 2 = 0
      · have hk : Lib.bitLenAux f 0 = 0 := by cases f <;> simp [Lib.bitLenAux]
        rw [h1, hk]; omega
      · obtain ⟨j1, j2⟩ := i2 h1
        generalize Lib.bitLenAux f (x / 2) = k at *
        have e : 2 ^ k = 2 ^ (k - 1) * 2 := by rw [← Nat.pow_succ]; congr 1; omega
        omega
theorem wr (k b : Nat) (hk : k ≤ 56) (hb : b ≤ 8) : wrap64 ((k : Int) + wrap64 (b : Int)) = ((k + b : Nat) : Int) := by unfold wrap64; omega
theorem wr0 (b : Nat) (hb : b ≤ 8) : wrap64 (b : Int) = (b : Int) := by unfold wrap64; omega
theorem wr1 (b : Nat) (hb : b ≤ 8) : wrap64 (wrap64 (b : Int)) = (b : Int) := by unfold wrap64; omega
theorem len24 (x : Int) (h0 : 16777216 ≤ x) (h1 : x < 4294967296) (w : World) : Calls Tryd.prog 33 #[.int .u64 x] w fun e w' => e = .returned (.int .i64 (Lib.bitLen x.toNat : Nat)) ∧ w = w' := by
  have i0 : 0 ≤ x / 65536 / 256 := by omega
  have i1 : x / 65536 / 256 ≤ 255 := by omega
  have e0 : (x / 65536 / 256).toNat = x.toNat / 16777216 := by omega
  have l := Lib.bitLen_le8' (x / 65536 / 256) i0 i1
  have HL := Lib.len8_of (x / 65536 / 256) i0 i1
  have s := Lib.bitLen_shift24 x.toNat (by omega) (by omega)
  rw [← e0] at s
  obtain ⟨b, hb⟩ : ∃ b, b = Lib.bitLen (x / 65536 / 256).toNat := ⟨_, rfl⟩
  rw [← hb] at l HL s
  rw [s]
  have HW := hid (wr 24 b (by omega) l)
  have H0 := hid (wr0 b l)
  have H1 := hid (wr1 b l)
  clear hb e0 s
  have c1 : ¬ 4294967296 ≤ x := by omega
  have d1 : 65536 ≤ x := by omega
  have d2 : 256 ≤ x / 65536 := by omega
  go_enter Tryd.func33, Tryd.ntmps33
  go_wp2
  go_ret
  exact ⟨ret_int (by omega), rfl⟩
theorem len16 (x : Int) (h0 : 65536 ≤ x) (h1 : x < 16777216) (w : World) : Calls Tryd.prog 33 #[.int .u64 x] w fun e w' => e = .returned (.int .i64 (Lib.bitLen x.toNat : Nat)) ∧ w = w' := by
  have i0 : 0 ≤ x / 65536 := by omega
  have i1 : x / 65536 ≤ 255 := by omega
  have e0 : (x / 65536).toNat = x.toNat / 65536 := by omega
  have l := Lib.bitLen_le8' (x / 65536) i0 i1
  have HL := Lib.len8_of (x / 65536) i0 i1
  have s := Lib.bitLen_shift16 x.toNat (by omega) (by omega)
  rw [← e0] at s
  obtain ⟨b, hb⟩ : ∃ b, b = Lib.bitLen (x / 65536).toNat := ⟨_, rfl⟩
  rw [← hb] at l HL s
  rw [s]
  have HW := hid (wr 16 b (by omega) l)
  have H0 := hid (wr0 b l)
  have H1 := hid (wr1 b l)
  clear hb e0 s
  have c1 : ¬ 4294967296 ≤ x := by omega
  have d1 : 65536 ≤ x := by omega
  have d2 : ¬ 256 ≤ x / 65536 := by omega
  go_enter Tryd.func33, Tryd.ntmps33
  go_wp2
  go_ret
  exact ⟨ret_int (by omega), rfl⟩
theorem len8 (x : Int) (h0 : 256 ≤ x) (h1 : x < 65536) (w : World) : Calls Tryd.prog 33 #[.int .u64 x] w fun e w' => e = .returned (.int .i64 (Lib.bitLen x.toNat : Nat)) ∧ w = w' := by
  have i0 : 0 ≤ x / 256 := by omega
  have i1 : x / 256 ≤ 255 := by omega
  have e0 : (x / 256).toNat = x.toNat / 256 := by omega
  have l := Lib.bitLen_le8' (x / 256) i0 i1
  have HL := Lib.len8_of (x / 256) i0 i1
  have s := Lib.bitLen_shift8 x.toNat (by omega) (by omega)
  rw [← e0] at s
  obtain ⟨b, hb⟩ : ∃ b, b = Lib.bitLen (x / 256).toNat := ⟨_, rfl⟩
  rw [← hb] at l HL s
  rw [s]
  have HW := hid (wr 8 b (by omega) l)
  have H0 := hid (wr0 b l)
  have H1 := hid (wr1 b l)
  clear hb e0 s
  have c1 : ¬ 4294967296 ≤ x := by omega
  have d1 : ¬ 65536 ≤ x := by omega
  have d2 : 256 ≤ x := by omega
  go_enter Tryd.func33, Tryd.ntmps33
  go_wp2
  go_ret
  exact ⟨ret_int (by omega), rfl⟩
theorem len0 (x : Int) (h0 : 1 ≤ x) (h1 : x < 256) (w : World) : Calls Tryd.prog 33 #[.int .u64 x] w fun e w' => e = .returned (.int .i64 (Lib.bitLen x.toNat : Nat)) ∧ w = w' := by
  have i0 : 0 ≤ x := by omega
  have i1 : x ≤ 255 := by omega
  have e0 : (x).toNat = x.toNat / 1 := by omega
  have l := Lib.bitLen_le8' (x) i0 i1
  have HL := Lib.len8_of (x) i0 i1
  obtain ⟨b, hb⟩ : ∃ b, b = Lib.bitLen (x).toNat := ⟨_, rfl⟩
  rw [← hb] at l HL ⊢
  have HW := hid (wr 0 b (by omega) l)
  have H0 := hid (wr0 b l)
  have H1 := hid (wr1 b l)
  clear hb e0
  have c1 : ¬ 4294967296 ≤ x := by omega
  have d1 : ¬ 65536 ≤ x := by omega
  have d2 : ¬ 256 ≤ x := by omega
  go_enter Tryd.func33, Tryd.ntmps33
  go_wp2
  go_ret
  exact ⟨ret_int (by omega), rfl⟩
theorem len64_any (x : Nat) (h0 : 1 ≤ x) (h1 : x ≤ 4294967296) (w : World) : Calls Tryd.prog 33 #[.int .u64 (x : Nat)] w fun e w' => e = .returned (.int .i64 (Lib.bitLen x : Nat)) ∧ w = w' := by
  have e : ((x : Int)).toNat = x := by omega
  by_cases c1 : 4294967296 ≤ x
  · obtain rfl : x = 4294967296 := by omega
    have hb := hid (show (Lib.bitLen 4294967296) = 33 by decide +kernel)
    rw [hb.out]
    clear e
    go_enter Tryd.func33, Tryd.ntmps33
    go_wp2
    go_ret
    exact ⟨ret_int (by decide +kernel), rfl⟩
  · by_cases c3 : 16777216 ≤ x
    · have := len24 (x : Int) (by omega) (by omega) w; rw [e] at this; exact this
    · by_cases c4 : 65536 ≤ x
      · have := len16 (x : Int) (by omega) (by omega) w; rw [e] at this; exact this
      · by_cases c5 : 256 ≤ x
        · have := len8 (x : Int) (by omega) (by omega) w; rw [e] at this; exact this
        · have := len0 (x : Int) (by omega) (by omega) w; rw [e] at this; exact this
/-! 'TrailingZeros64': the table that the row lays -/
def Tab (w : World) : Prop := ∀ j, j < 64 → w.cell? ⟨0, j, none⟩ = some (.int .u8 (Lib.deBruijn64tab.getD j 0 : Nat))
theorem tz_core (x k idx : Nat) (w : World) (hx0 : ((x : Int) == 0) = false)
    (key : IntKind.u64.wrap (bits BinOp.and IntKind.u64 (x : Int) (IntKind.u64.wrap (-(x : Int))) * 285870213051353865) / 288230376151711744 = (idx : Int))
    (hi : idx < 64) (hk : k < 64) (hcell : w.cell? ⟨0, idx, none⟩ = some (.int .u8 k)) :
    Calls Tryd.prog 32 #[.int .u64 x] w fun e w' => e = .returned (.int .i64 k) ∧ w = w' := by
  go_enter Tryd.func32, Tryd.ntmps32
  go_wp2_with (simp only [key])
  go_ret
  exact ⟨rfl, rfl⟩
theorem tz_any (x : Nat) (hx : x < 18446744073709551616) (hx0 : x ≠ 0) (w : World) (hT : Tab w) :
    Calls Tryd.prog 32 #[.int .u64 x] w fun e w' => e = .returned (.int .i64 (Lib.ctz 64 x : Nat)) ∧ w = w' := by
  obtain ⟨hlow, hk⟩ := Lib.lowest_bit 64 x hx0 hx
  obtain ⟨hi, htab⟩ := Lib.deBruijn64_at _ hk
  have hcell := hT _ hi
  rw [htab] at hcell
  exact tz_core x _ _ w (by simp; omega) (tz64_key x _ hx hx0 hlow) hi hk hcell
end Go.Proofs.YtnfklhebcloolabDoor.cic
