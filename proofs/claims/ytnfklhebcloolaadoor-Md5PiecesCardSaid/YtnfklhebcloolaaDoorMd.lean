/- The contracts of md5's small functions: a step's mixing, a roll; the document's own. -/
import Derived.Test.YtnfklhebcloolaaDoorMdBits
import Derived.Test.YtnfklhebcloolaaDoorKit
import Derived.Laws.BitsAll
import Derived.LoopTactic
import Derived.Deep.DeepCutAuto
namespace Go.Proofs.YtnfklhebcloolaaDoor.mdc
open Go.RowKit
open Go.Proofs.YtnfklhebcloolaaDoor.kit Go.Proofs.YtnfklhebcloolaaDoor.mdm
set_option linter.unusedVariables false
set_option linter.unusedSimpArgs false
theorem ret_two {k l : IntKind} {a b c d : Int} (h : a = b) (g : c = d) : Ending.returned (.tuple #[.int k a, .int l c]) = .returned (.tuple #[.int k b, .int l d]) := by rw [h, g]
theorem lt_and (a b : Nat) (h : a < 4294967296) : a &&& b < 4294967296 := Nat.lt_of_le_of_lt Nat.and_le_left h
theorem lt_or (a b : Nat) (h : a < 4294967296) (g : b < 4294967296) : a ||| b < 4294967296 := Nat.or_lt_two_pow (n := 32) h g
theorem lt_xor (a b : Nat) (h : a < 4294967296) (g : b < 4294967296) : a ^^^ b < 4294967296 := Nat.xor_lt_two_pow (n := 32) h g
theorem step_0 (i b c d : Nat) (h1 : 0 ≤ i) (h2 : i < 16) (hb : b < 4294967296) (hc : c < 4294967296) (hd : d < 4294967296) (w : World) :
    Calls Tryd.prog 45 #[.int .i64 (i : Nat), .int .u32 (b : Nat), .int .u32 (c : Nat), .int .u32 (d : Nat)] w fun e w' => e = .returned (.tuple #[.int .u32 (F i b c d : Nat), .int .i64 (G i : Nat)]) ∧ w = w' := by
  have HF := hid (show F i b c d = (b &&& c) ||| ((4294967295 - b) &&& d) by unfold F; rw [if_pos h2])
  have HG := hid (show G i = i by unfold G; rw [if_pos h2])
  have n1 := neg32 b hb
  have k1 : 4294967295 - b < 4294967296 := by omega
  have e1 := u32_and_nat b c hb hc
  have e2 := u32_and_nat (4294967295 - b) d k1 hd
  have e3 := u32_or_nat _ _ (lt_and b c hb) (lt_and (4294967295 - b) d k1)
  have hq : (i : Int) / 16 = 0 := by omega
  go_enter Tryd.func45, Tryd.ntmps45
  go_wp2
  go_ret2
  exact ⟨ret_two (by rw [HF.out]) (by rw [HG.out] <;> omega), rfl⟩
theorem step_1 (i b c d : Nat) (h1 : 16 ≤ i) (h2 : i < 32) (hb : b < 4294967296) (hc : c < 4294967296) (hd : d < 4294967296) (w : World) :
    Calls Tryd.prog 45 #[.int .i64 (i : Nat), .int .u32 (b : Nat), .int .u32 (c : Nat), .int .u32 (d : Nat)] w fun e w' => e = .returned (.tuple #[.int .u32 (F i b c d : Nat), .int .i64 (G i : Nat)]) ∧ w = w' := by
  have HF := hid (show F i b c d = (d &&& b) ||| ((4294967295 - d) &&& c) by unfold F; rw [if_neg (by omega)]; rw [if_pos h2])
  have HG := hid (show G i = (5 * i + 1) % 16 by unfold G; rw [if_neg (by omega)]; rw [if_pos h2])
  have n1 := neg32 d hd
  have k1 : 4294967295 - d < 4294967296 := by omega
  have e1 := u32_and_nat d b hd hb
  have e2 := u32_and_nat (4294967295 - d) c k1 hc
  have e3 := u32_or_nat _ _ (lt_and d b hd) (lt_and (4294967295 - d) c k1)
  have hq : (i : Int) / 16 = 1 := by omega
  go_enter Tryd.func45, Tryd.ntmps45
  go_wp2
  go_ret2
  exact ⟨ret_two (by rw [HF.out]) (by rw [HG.out] <;> omega), rfl⟩
theorem step_2 (i b c d : Nat) (h1 : 32 ≤ i) (h2 : i < 48) (hb : b < 4294967296) (hc : c < 4294967296) (hd : d < 4294967296) (w : World) :
    Calls Tryd.prog 45 #[.int .i64 (i : Nat), .int .u32 (b : Nat), .int .u32 (c : Nat), .int .u32 (d : Nat)] w fun e w' => e = .returned (.tuple #[.int .u32 (F i b c d : Nat), .int .i64 (G i : Nat)]) ∧ w = w' := by
  have HF := hid (show F i b c d = b ^^^ c ^^^ d by unfold F; rw [if_neg (by omega)]; rw [if_neg (by omega)]; rw [if_pos h2])
  have HG := hid (show G i = (3 * i + 5) % 16 by unfold G; rw [if_neg (by omega)]; rw [if_neg (by omega)]; rw [if_pos h2])
  have e1 := u32_xor_nat b c hb hc
  have e2 := u32_xor_nat _ d (lt_xor b c hb hc) hd
  have hq : (i : Int) / 16 = 2 := by omega
  go_enter Tryd.func45, Tryd.ntmps45
  go_wp2
  go_ret2
  exact ⟨ret_two (by rw [HF.out]) (by rw [HG.out] <;> omega), rfl⟩
theorem step_3 (i b c d : Nat) (h1 : 48 ≤ i) (h2 : i < 64) (hb : b < 4294967296) (hc : c < 4294967296) (hd : d < 4294967296) (w : World) :
    Calls Tryd.prog 45 #[.int .i64 (i : Nat), .int .u32 (b : Nat), .int .u32 (c : Nat), .int .u32 (d : Nat)] w fun e w' => e = .returned (.tuple #[.int .u32 (F i b c d : Nat), .int .i64 (G i : Nat)]) ∧ w = w' := by
  have HF := hid (show F i b c d = c ^^^ (b ||| (4294967295 - d)) by unfold F; rw [if_neg (by omega)]; rw [if_neg (by omega)]; rw [if_neg (by omega)])
  have HG := hid (show G i = 7 * i % 16 by unfold G; rw [if_neg (by omega)]; rw [if_neg (by omega)]; rw [if_neg (by omega)])
  have n1 := neg32 d hd
  have k1 : 4294967295 - d < 4294967296 := by omega
  have e1 := u32_or_nat b (4294967295 - d) hb k1
  have e2 := u32_xor_nat c _ hc (lt_or b (4294967295 - d) hb k1)
  have hq : (i : Int) / 16 = 3 := by omega
  go_enter Tryd.func45, Tryd.ntmps45
  go_wp2
  go_ret2
  exact ⟨ret_two (by rw [HF.out]) (by rw [HG.out] <;> omega), rfl⟩
theorem step_any (i b c d : Nat) (h : i < 64) (hb : b < 4294967296) (hc : c < 4294967296) (hd : d < 4294967296) (w : World) :
    Calls Tryd.prog 45 #[.int .i64 (i : Nat), .int .u32 (b : Nat), .int .u32 (c : Nat), .int .u32 (d : Nat)] w fun e w' => e = .returned (.tuple #[.int .u32 (F i b c d : Nat), .int .i64 (G i : Nat)]) ∧ w = w' := by
  rcases (show i < 16 ∨ (16 ≤ i ∧ i < 32) ∨ (32 ≤ i ∧ i < 48) ∨ 48 ≤ i by omega) with h1 | ⟨h1, h2⟩ | ⟨h1, h2⟩ | h1
  · exact step_0 i b c d (Nat.zero_le _) h1 hb hc hd w
  · exact step_1 i b c d h1 h2 hb hc hd w
  · exact step_2 i b c d h1 h2 hb hc hd w
  · exact step_3 i b c d h1 h hb hc hd w
theorem rot_any (n k : Nat) (hn : n < 4294967296) (hk : 0 < k) (hk2 : k < 32) (w : World) :
    Calls Tryd.prog 46 #[.int .u32 (n : Nat), .int .i64 (k : Nat)] w fun e w' => e = .returned (.int .u32 (rol n k : Nat)) ∧ w = w' := by
  have e1 : bits BinOp.and IntKind.u64 (k : Int) 31 = ((k : Nat) : Int) := by
    have := u64_and_nat k 31 (by omega) (by decide)
    rw [show k &&& 31 = k from by rw [show 31 = 2 ^ 5 - 1 from rfl, Nat.and_two_pow_sub_one_eq_mod]; omega] at this
    exact this
  have h1 : n * 2 ^ k % 4294967296 < 4294967296 := Nat.mod_lt _ (by decide)
  have h2 : n / 2 ^ (32 - k) < 4294967296 := Nat.lt_of_le_of_lt (Nat.div_le_self _ _) hn
  have HR := hid (show bits BinOp.or IntKind.u32 ((n * 2 ^ k % 4294967296 : Nat) : Int) ((n / 2 ^ (32 - k) : Nat) : Int) = ((rol n k : Nat) : Int) by
    rw [u32_or_nat _ _ h1 h2, rol_or n k hn (by omega)])
  clear h1 h2
  go_enter Tryd.func46, Tryd.ntmps46
  go_wp2
  go_ret
  exact ⟨ret_int (by have := HR.out; simpa using this), rfl⟩
end Go.Proofs.YtnfklhebcloolaaDoor.mdc
