/- The contracts of the document's own small functions of a digest. -/
import Derived.Test.YtnfklhebcloolaaDoorMd
import Derived.Test.YtnfklhebcloolaaDoorNums
import Derived.Test.YtnfklhebcloolaaDoorOct
import Derived.BigQuiet
namespace Go.Proofs.YtnfklhebcloolaaDoor.mdc
open Go.RowKit
open Go.Proofs.YtnfklhebcloolaaDoor.kit Go.Proofs.YtnfklhebcloolaaDoor.mdm
set_option linter.unusedVariables false
set_option linter.unusedSimpArgs false
set_option maxRecDepth 20000
theorem cut_any (n : Nat) (hn : n < 18446744073709551616) (w : World) :
    Calls Tryd.prog 36 #[.int .u64 (n : Nat)] w fun e w' => e = .returned (.int .u64 (n % 4294967296 : Nat)) ∧ w = w' := by
  go_enter Tryd.func36, Tryd.ntmps36
  go_wp2
  go_ret
  exact ⟨ret_int (by omega), rfl⟩
theorem not_any (n : Nat) (hn : n < 4294967296) (w : World) :
    Calls Tryd.prog 62 #[.int .u64 (n : Nat)] w fun e w' => e = .returned (.int .u64 (4294967295 - n : Nat)) ∧ w = w' := by
  go_enter Tryd.func62, Tryd.ntmps62
  go_wp2
  go_ret
  exact ⟨ret_int (by omega), rfl⟩
theorem roll_any (n k : Nat) (hn : n < 4294967296) (hk : k ≤ 32) (w : World) :
    Calls Tryd.prog 41 #[.int .u64 (n : Nat), .int .i64 (k : Nat)] w fun e w' => e = .returned (.int .u64 (rol n k : Nat)) ∧ w = w' := by
  have R0 := hid (rol_zero n hn)
  have RS := hid (fun j => rol_succ n j hn)
  have RL := hid (fun j => rol_lt n j hn)
  go_enter Tryd.func41, Tryd.ntmps41
  go_wp2
  go_loopw [0, 5] (fun nv iv wr => ∃ j : Nat, j ≤ k ∧ iv = .int .i64 j ∧ nv = .int .u64 (rol n j : Nat) ∧ w = wr) (fun _ iv _ => k - (intOf iv).toNat)
  case atStart => exact ⟨0, Nat.zero_le _, rfl, by rw [R0.out], rfl⟩
  case round =>
    obtain ⟨j, hj, rfl, rfl, rfl⟩ := hrel
    by_cases hlt : j < k
    · have h1 := RL.out j (by omega)
      have h2 := hid (RS.out j (by omega))
      obtain ⟨x, hx⟩ : ∃ x, x = rol n j := ⟨_, rfl⟩
      rw [← hx] at h1 h2 ⊢
      clear hx
      go_wp2
      go_roundw
      case rel => exact ⟨j + 1, by omega, by go_num, by rw [← h2.out]; go_num, trivial⟩
      case measure => simp [intOf]; omega
    · obtain rfl : j = k := by omega
      go_wp2
      go_ret
      exact ⟨rfl, rfl⟩
theorem rf_0 (i b c d : Nat) (h1 : 0 ≤ i) (h2 : i < 16) (hb : b < 4294967296) (hc : c < 4294967296) (hd : d < 4294967296) (w : World) :
    Calls Tryd.prog 37 #[.int .i64 (i : Nat), .int .u64 (b : Nat), .int .u64 (c : Nat), .int .u64 (d : Nat)] w fun e w' => e = .returned (.int .u64 (F i b c d : Nat)) ∧ w = w' := by
  have HF := hid (show F i b c d = (b &&& c) ||| ((4294967295 - b) &&& d) by unfold F; rw [if_pos h2])
  have k1 : 4294967295 - b < 4294967296 := by omega
  have k2 := lt_and b c hb
  have k3 := lt_and (4294967295 - b) d k1
  have e1 := u64_and_nat b c (by omega) (by omega)
  have e2 := u64_and_nat (4294967295 - b) d (by omega) (by omega)
  have e3 := u64_or_nat (b &&& c) ((4294967295 - b) &&& d) (by omega) (by omega)
  go_enter Tryd.func37, Tryd.ntmps37
  go_wp2_with (go_at_call 62; ((with_reducible refine (not_any b hb _).mono ?_); rintro e w1 ⟨rfl, rfl⟩))
  go_ret
  exact ⟨ret_int (by rw [HF.out]), rfl⟩
theorem rf_1 (i b c d : Nat) (h1 : 16 ≤ i) (h2 : i < 32) (hb : b < 4294967296) (hc : c < 4294967296) (hd : d < 4294967296) (w : World) :
    Calls Tryd.prog 37 #[.int .i64 (i : Nat), .int .u64 (b : Nat), .int .u64 (c : Nat), .int .u64 (d : Nat)] w fun e w' => e = .returned (.int .u64 (F i b c d : Nat)) ∧ w = w' := by
  have HF := hid (show F i b c d = (d &&& b) ||| ((4294967295 - d) &&& c) by unfold F; rw [if_neg (by omega)]; rw [if_pos h2])
  have k1 : 4294967295 - d < 4294967296 := by omega
  have k2 := lt_and d b hd
  have k3 := lt_and (4294967295 - d) c k1
  have e1 := u64_and_nat d b (by omega) (by omega)
  have e2 := u64_and_nat (4294967295 - d) c (by omega) (by omega)
  have e3 := u64_or_nat (d &&& b) ((4294967295 - d) &&& c) (by omega) (by omega)
  go_enter Tryd.func37, Tryd.ntmps37
  go_wp2_with (go_at_call 62; ((with_reducible refine (not_any d hd _).mono ?_); rintro e w1 ⟨rfl, rfl⟩))
  go_ret
  exact ⟨ret_int (by rw [HF.out]), rfl⟩
theorem rf_2 (i b c d : Nat) (h1 : 32 ≤ i) (h2 : i < 48) (hb : b < 4294967296) (hc : c < 4294967296) (hd : d < 4294967296) (w : World) :
    Calls Tryd.prog 37 #[.int .i64 (i : Nat), .int .u64 (b : Nat), .int .u64 (c : Nat), .int .u64 (d : Nat)] w fun e w' => e = .returned (.int .u64 (F i b c d : Nat)) ∧ w = w' := by
  have HF := hid (show F i b c d = b ^^^ c ^^^ d by unfold F; rw [if_neg (by omega)]; rw [if_neg (by omega)]; rw [if_pos h2])
  have k2 := lt_xor b c hb hc
  have e1 := u64_xor_nat b c (by omega) (by omega)
  have e2 := u64_xor_nat (b ^^^ c) d (by omega) (by omega)
  go_enter Tryd.func37, Tryd.ntmps37
  go_wp2_with (go_at_call 62; ((with_reducible refine (not_any b hb _).mono ?_); rintro e w1 ⟨rfl, rfl⟩))
  go_ret
  exact ⟨ret_int (by rw [HF.out]), rfl⟩
theorem rf_3 (i b c d : Nat) (h1 : 48 ≤ i) (h2 : i < 64) (hb : b < 4294967296) (hc : c < 4294967296) (hd : d < 4294967296) (w : World) :
    Calls Tryd.prog 37 #[.int .i64 (i : Nat), .int .u64 (b : Nat), .int .u64 (c : Nat), .int .u64 (d : Nat)] w fun e w' => e = .returned (.int .u64 (F i b c d : Nat)) ∧ w = w' := by
  have HF := hid (show F i b c d = c ^^^ (b ||| (4294967295 - d)) by unfold F; rw [if_neg (by omega)]; rw [if_neg (by omega)]; rw [if_neg (by omega)])
  have k1 : 4294967295 - d < 4294967296 := by omega
  have k2 := lt_or b (4294967295 - d) hb k1
  have e1 := u64_or_nat b (4294967295 - d) (by omega) (by omega)
  have e2 := u64_xor_nat c (b ||| (4294967295 - d)) (by omega) (by omega)
  go_enter Tryd.func37, Tryd.ntmps37
  go_wp2_with (go_at_call 62; ((with_reducible refine (not_any d hd _).mono ?_); rintro e w1 ⟨rfl, rfl⟩))
  go_ret
  exact ⟨ret_int (by rw [HF.out]), rfl⟩
theorem rf_any (i b c d : Nat) (h : i < 64) (hb : b < 4294967296) (hc : c < 4294967296) (hd : d < 4294967296) (w : World) :
    Calls Tryd.prog 37 #[.int .i64 (i : Nat), .int .u64 (b : Nat), .int .u64 (c : Nat), .int .u64 (d : Nat)] w fun e w' => e = .returned (.int .u64 (F i b c d : Nat)) ∧ w = w' := by
  rcases (show i < 16 ∨ (16 ≤ i ∧ i < 32) ∨ (32 ≤ i ∧ i < 48) ∨ 48 ≤ i by omega) with h1 | ⟨h1, h2⟩ | ⟨h1, h2⟩ | h1
  · exact rf_0 i b c d (Nat.zero_le _) h1 hb hc hd w
  · exact rf_1 i b c d h1 h2 hb hc hd w
  · exact rf_2 i b c d h1 h2 hb hc hd w
  · exact rf_3 i b c d h1 h hb hc hd w
theorem rolls_bd (i : Nat) (hi : i < 64) : 0 < rolls i ∧ rolls i < 32 := by
  have : (List.range 64).all (fun i => decide (0 < rolls i) && decide (rolls i < 32)) = true := by decide +kernel
  have := List.all_eq_true.1 this i (List.mem_range.2 hi)
  simpa using this
theorem K_bd (i : Nat) (hi : i < 64) : K.getD i 0 < 4294967296 := by
  have : (List.range 64).all (fun i => decide (K.getD i 0 < 4294967296)) = true := by decide +kernel
  have := List.all_eq_true.1 this i (List.mem_range.2 hi)
  simpa using this
theorem lit_cell {w : World} {k : IntKind} {t : TypeId} (L : List Nat) (j : Nat) (hj : j < L.length) (cs : Array Value) (h : cs = (L.map fun (n : Nat) => Value.int k (n : Int)).toArray) :
    (w.alloc (.cells cs t)).cell? ⟨w.heap.size, j, none⟩ = some (.int k (L.getD j 0 : Nat)) := by
  subst h
  simp [go_sem, hj, List.getElem?_eq_getElem hj]
end Go.Proofs.YtnfklhebcloolaaDoor.mdc
