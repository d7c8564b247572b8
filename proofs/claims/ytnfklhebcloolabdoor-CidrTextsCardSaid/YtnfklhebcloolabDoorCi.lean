/- The contracts of package cidr's small functions. -/
import Derived.Test.YtnfklhebcloolabDoorCiMath
import Derived.Test.YtnfklhebcloolabDoorKit
import Derived.Test.YtnfklhebcloolabDoorCells
import Derived.Test.YtnfklhebcloolabDoorTailC
import Derived.Deep.DeepCutAuto
import Derived.LoopTactic
import Derived.BigQuiet
namespace Go.Proofs.YtnfklhebcloolabDoor.cic
open Go.RowKit
open Go.Proofs.YtnfklhebcloolabDoor.kit Go.Proofs.YtnfklhebcloolabDoor.cim
set_option linter.unusedVariables false
set_option linter.unusedSimpArgs false
set_option maxRecDepth 20000
theorem mk_int (b : Nat) (h : b ≤ 32) : (4294967295 * 2 ^ (32 - b) % 4294967296 : Int) = ((mk b : Nat) : Int) := by rw [← mk_wrap b h, Int.natCast_emod, Int.natCast_mul, Int.natCast_pow]; rfl
theorem mask_any (b : Nat) (h : b ≤ 32) (w : World) : Calls Tryd.prog 26 #[.int .i64 (b : Nat)] w fun e w' => e = .returned (.int .u32 (mk b : Nat)) ∧ w = w' := by
  go_enter Tryd.func26, Tryd.ntmps26
  go_wp2
  go_ret
  exact ⟨ret_int (mk_int b h), rfl⟩
theorem size_any (b : Nat) (h : b ≤ 32) (w : World) : Calls Tryd.prog 27 #[.int .i64 (b : Nat)] w fun e w' => e = .returned (.int .i64 (2 ^ (32 - b) : Nat)) ∧ w = w' := by
  go_enter Tryd.func27, Tryd.ntmps27
  go_upto_region 3 with fail
  go_loopw [3, 4] (fun nv iv wr => ∃ (i q : Nat), b ≤ i ∧ i ≤ 32 ∧ iv = .int .i64 (i : Nat) ∧ nv = .int .i64 (q : Nat) ∧ Hid (q = 2 ^ (i - b)) ∧ wr = w) (fun _ iv _ => 32 - (intOf iv).toNat)
  case atStart => exact ⟨b, 1, Nat.le_refl _, h, rfl, rfl, hid (by simp), rfl⟩
  case round =>
    obtain ⟨i, q, h1, h2, rfl, rfl, hq, rfl⟩ := hrel
    by_cases hlt : i < 32
    · have hb : q ≤ 4294967296 := by rw [hq.out]; exact Nat.pow_le_pow_right (n := 2) (by decide) (show i - b ≤ 32 by omega)
      go_wp2
      go_roundw
      case rel => exact ⟨i + 1, 2 * q, by omega, by omega, by go_num, by go_num, hid (by rw [hq.out, show i + 1 - b = (i - b) + 1 by omega, Nat.pow_succ, Nat.mul_comm]), trivial⟩
      case measure => simp [intOf]; omega
    · obtain rfl : i = 32 := by omega
      go_wp2
      go_ret
      exact ⟨ret_int (by rw [hq.out]), rfl⟩
theorem mod_int (a s : Nat) : (a : Int) % 2 ^ s = ((a % 2 ^ s : Nat) : Int) := by rw [Int.natCast_emod, Int.natCast_pow]; rfl
theorem mod_zero (a s : Nat) : ((a : Int) % 2 ^ s == 0) = decide (a % 2 ^ s = 0) := by
  rw [mod_int, Bool.eq_iff_iff]; simp only [beq_iff_eq, decide_eq_true_eq]; omega
def pf (a : Nat) (b : Int) : Value := .agg #[.int .u32 (a : Nat), .int .i64 b]
theorem boxed (w : World) (a : Nat) (b : Int) : ∃ W, W = w.alloc (.cells #[.int .u32 (a : Nat), .int .i64 b] 25) ∧ W.cell? ⟨w.heap.size, 0, none⟩ = some (.int .u32 (a : Nat)) ∧ W.cell? ⟨w.heap.size, 1, none⟩ = some (.int .i64 b) ∧ Below w.heap.size w W :=
  ⟨_, rfl, (Box.made w #[.int .u32 (a : Nat), .int .i64 b] 25).at_ 0 _ rfl, (Box.made w #[.int .u32 (a : Nat), .int .i64 b] 25).at_ 1 _ rfl, (Below.refl _ _).alloc (Nat.le_refl _) _⟩
theorem right_no (a : Nat) (b : Int) (hb : b < 0 ∨ 32 < b) (w : World) : Calls Tryd.prog 7 #[pf a b] w fun e w' => e = .returned (.bool (rightB a b)) ∧ Below w.heap.size w w' := by
  have hr := hid (show rightB a b = false by unfold rightB; simp; omega)
  rw [hr.out]
  unfold pf
  obtain ⟨W, hW, k0, k1, bW⟩ := boxed w a b
  have K0 := After.cell k0
  have K1 := After.cell k1
  by_cases h0 : b < 0
  · have d0 : decide (0 ≤ b) = false := by simp; omega
    clear hb h0
    go_enter Tryd.func7, Tryd.ntmps7
    go_upto_region 1 with fail
    rw [← hW]
    refine wp_region_after W (by kernel_rfl) (by kernel_rfl) ((Below.refl _ _).drew) ?_
    repeat (go_big_quiet_step (fail))
    refine wpQuiet_nil ?_
    rintro _ ⟨⟨w3, b3⟩, rfl⟩
    go_wp2
    go_ret
    exact ⟨rfl, bW.trans (b3.mono bW.size)⟩
  · have d0 : decide (0 ≤ b) = true := by simp; omega
    have d1 : decide (b ≤ 32) = false := by simp; omega
    clear hb h0
    go_enter Tryd.func7, Tryd.ntmps7
    go_upto_region 1 with fail
    rw [← hW]
    refine wp_region_after W (by kernel_rfl) (by kernel_rfl) ((Below.refl _ _).drew) ?_
    repeat (go_big_quiet_step (fail))
    refine wpQuiet_nil ?_
    rintro _ ⟨⟨w3, b3⟩, rfl⟩
    go_wp2
    go_ret
    exact ⟨rfl, bW.trans (b3.mono bW.size)⟩
theorem right_yes (a b : Nat) (ha : a < 4294967296) (hb : b ≤ 32) (w : World) : Calls Tryd.prog 7 #[pf a (b : Nat)] w fun e w' => e = .returned (.bool (rightB a (b : Nat))) ∧ Below w.heap.size w w' := by
  have hr := hid (show decide ((a % 2 ^ (32 - b) : Nat) = 0) = rightB a (b : Nat) by unfold rightB; simp; omega)
  unfold pf
  obtain ⟨W, hW, k0, k1, bW⟩ := boxed w a b
  have K0 := After.cell k0
  have K1 := After.cell k1
  have KM := hid (fun (M : After W) => after_call ((mask_any b hb M.w).mono fun e w' ⟨h1, h2⟩ => ⟨h1, by rw [← h2]; exact Below.refl _ _⟩))
  have d0 : decide (0 ≤ (b : Int)) = true := by simp
  have d1 : decide ((b : Int) ≤ 32) = true := by simp; omega
  have HA := show bits .andNot .u32 (a : Int) ((mk b : Nat) : Int) = ((a % 2 ^ (32 - b) : Nat) : Int) by rw [u32_andNot_nat a (mk b) ha (mk_lt b), andNot_mk]
  go_enter Tryd.func7, Tryd.ntmps7
  go_upto_region 1 with fail
  rw [← hW]
  refine wp_region_after W (by kernel_rfl) (by kernel_rfl) ((Below.refl _ _).drew) ?_
  repeat (go_big_quiet_step (exact KM.out _))
  refine wpQuiet_nil ?_
  rintro _ ⟨⟨w3, b3⟩, rfl⟩
  go_wp2
  go_ret
  exact ⟨ret_bool (by rw [← hr.out]; exact mod_zero a (32 - b)), bW.trans (b3.mono bW.size)⟩
theorem right_any (a : Nat) (b : Int) (ha : a < 4294967296) (w : World) : Calls Tryd.prog 7 #[pf a b] w fun e w' => e = .returned (.bool (rightB a b)) ∧ Below w.heap.size w w' := by
  by_cases h : 0 ≤ b ∧ b ≤ 32
  · obtain ⟨n, rfl⟩ := Int.eq_ofNat_of_zero_le h.1
    exact right_yes a n ha (by omega) w
  · exact right_no a b (by omega) w
theorem clamp_if (b : Int) : (if 32 < if b < 0 then 0 else b then 32 else if b < 0 then 0 else b) = ((clamp b : Nat) : Int) := by
  unfold clamp; split <;> split <;> (try split) <;> (try split) <;> omega
theorem of_any (a : Nat) (b : Int) (ha : a < 4294967296) (w : World) : Calls Tryd.prog 13 #[.int .u32 (a : Nat), .int .i64 b] w fun e w' => e = .returned (pf (cutA a (clamp b)) (clamp b : Nat)) ∧ Below w.heap.size w w' := by
  have hc := clamp_le b
  have KM := hid (fun w => mask_any (clamp b) hc w)
  have HA := hid (show bits .and .u32 (a : Int) ((mk (clamp b) : Nat) : Int) = ((cutA a (clamp b) : Nat) : Int) by rw [u32_and_nat a (mk (clamp b)) ha (mk_lt _), and_mk a _ ha hc])
  have HE := hid (clamp_if b)
  obtain ⟨k, hk⟩ : ∃ k, k = clamp b := ⟨_, rfl⟩
  rw [← hk] at KM HA HE ⊢
  unfold pf
  clear ha hc hk
  go_enter Tryd.func13, Tryd.ntmps13
  go_upto_region 2 with fail
  rw [HE.out]
  generalize (if b < 0 then 0 else b) = z
  have ha2 := HA.out
  go_wp2_with (go_at_call 26; ((with_reducible refine (KM.out _).mono ?_); rintro e w3 ⟨rfl, rfl⟩))
  refine bodyPost_ret (v := .agg #[.int .u32 (cutA a k : Nat), .int .i64 (k : Nat)]) (by simp [results, Tryd.results13, go_sem]) rfl ⟨rfl, (Below.refl _ _).alloc (Nat.le_refl _) _⟩
theorem pf_eq (a c b d : Int) (W : World) : (Op.equalIn 10000 25 (.agg #[.int .u32 a, .int .i64 b]) (.agg #[.int .u32 c, .int .i64 d])).run Tryd.prog W = .ok (a == c && b == d) W := by
  have hS : Tryd.prog.underlying 25 = some (.struct (Tryd.prog.fieldsOf 25)) := by kernel_rfl
  have hp : Tryd.prog.stoodInHeld 25 = false := by kernel_rfl
  rw [show (10000 : Nat) = 9999 + 1 from rfl, run_equalIn_agg W 9999 25 _ _ hS hp]
  simp only [Program.fieldsOf, Tryd.underlying25]
  go_simp
  by_cases h1 : a = c <;> by_cases h2 : b = d <;> simp [h1, h2]
theorem has_any (a : Nat) (b : Int) (x : Nat) (hx : x < 4294967296) (w : World) : Calls Tryd.prog 9 #[pf a b, .int .u32 (x : Nat)] w fun e w' => e = .returned (.bool (hasB a b x)) ∧ Below w.heap.size w w' := by
  obtain ⟨W, hW, k0, k1, bW⟩ := boxed w a b
  have K0 := After.cell k0
  have K1 := After.cell k1
  have KM := hid (fun (M : After W) => after_call (of_any x b hx M.w))
  have hr := hid (show ((((cutA x (clamp b) : Nat) : Int) == (a : Int)) && (((clamp b : Nat) : Int) == b)) = hasB a b x by unfold hasB; rw [Bool.eq_iff_iff]; simp only [Bool.and_eq_true, beq_iff_eq, decide_eq_true_eq]; omega)
  unfold pf at *
  obtain ⟨c, hc⟩ : ∃ c, c = cutA x (clamp b) := ⟨_, rfl⟩
  obtain ⟨k, hk⟩ : ∃ k, k = clamp b := ⟨_, rfl⟩
  rw [← hc, ← hk] at KM hr
  rw [← hr.out]
  have E1 := fun W => pf_eq c a k b W
  have G1 : Tryd.prog.eqGuardType Tryd.prog.depth 25 = false := by kernel_rfl
  clear hc hk hr
  go_enter Tryd.func9, Tryd.ntmps9
  go_upto_region 1 with fail
  rw [← hW]
  refine wp_region_after W (by kernel_rfl) (by kernel_rfl) ((Below.refl _ _).drew) ?_
  repeat (go_big_quiet_step (exact KM.out _))
  refine wpQuiet_nil ?_
  rintro _ ⟨⟨w3, b3⟩, rfl⟩
  go_wp2
  go_ret
  exact ⟨rfl, bW.trans (b3.mono bW.size)⟩
theorem boxed2 (w : World) (a c : Nat) (b d : Int) : ∃ W, W = (w.alloc (.cells #[.int .u32 (a : Nat), .int .i64 b] 25)).alloc (.cells #[.int .u32 (c : Nat), .int .i64 d] 25) ∧ W.cell? ⟨w.heap.size, 0, none⟩ = some (.int .u32 (a : Nat)) ∧ W.cell? ⟨w.heap.size, 1, none⟩ = some (.int .i64 b) ∧ W.cell? ⟨w.heap.size + 1, 0, none⟩ = some (.int .u32 (c : Nat)) ∧ W.cell? ⟨w.heap.size + 1, 1, none⟩ = some (.int .i64 d) ∧ Below w.heap.size w W := by
  obtain ⟨W1, h1, a0, a1, b1⟩ := boxed w a b
  obtain ⟨W2, h2, c0, c1, b2⟩ := boxed W1 c d
  have hs : W1.heap.size = w.heap.size + 1 := by rw [h1]; exact World.size_alloc _ _
  rw [hs] at c0 c1
  exact ⟨W2, by rw [h2, h1], keep_cell b2 a0, keep_cell b2 a1, c0, c1, b1.trans (b2.mono b1.size)⟩
theorem within_any (a : Nat) (b : Int) (c : Nat) (d : Int) (ha : a < 4294967296) (w : World) : Calls Tryd.prog 11 #[pf a b, pf c d] w fun e w' => e = .returned (.bool (withinB a b c d)) ∧ Below w.heap.size w w' := by
  obtain ⟨W, hW, k0, k1, k2, k3, bW⟩ := boxed2 w a c b d
  have K1 := hid (fun w => right_any a b ha w)
  have K2 := hid (fun w => has_any c d a ha w)
  have hr := hid (show (rightB a b && (decide (d ≤ b) && hasB c d a)) = withinB a b c d from rfl)
  unfold pf at *
  obtain ⟨r, hr1⟩ : ∃ r, r = rightB a b := ⟨_, rfl⟩
  obtain ⟨q, hq⟩ : ∃ q, q = hasB c d a := ⟨_, rfl⟩
  rw [← hr1] at K1 hr
  rw [← hq] at K2 hr
  rw [← hr.out]
  clear hr hr1 hq ha
  have BW := hid bW
  clear bW
  cases r
  · go_enter Tryd.func11, Tryd.ntmps11
    go_upto_region 1 with fail
    rw [← hW]
    clear hW
    go_wp2_with (go_at_call 7; ((with_reducible refine (K1.out _).mono ?_); rintro e w3 ⟨rfl, b3⟩))
    go_ret
    exact ⟨rfl, BW.out.trans (b3.mono BW.out.size)⟩
  · by_cases hdb : d ≤ b
    · have d0 : decide (d ≤ b) = true := by simp [hdb]
      rw [d0]
      clear hdb
      go_enter Tryd.func11, Tryd.ntmps11
      go_upto_region 1 with fail
      rw [← hW]
      clear hW
      go_wp2_with (first | (go_at_call 7; ((with_reducible refine (K1.out W).mono ?_); rintro e w3 ⟨rfl, b3⟩; have l0 := keep_cell b3 k0; have l1 := keep_cell b3 k1; have l2 := keep_cell b3 k2; have l3 := keep_cell b3 k3; have B3 := hid b3; clear b3)) | (go_at_call 9; ((with_reducible refine (K2.out _).mono ?_); rintro e w4 ⟨rfl, b4⟩)))
      go_ret
      exact ⟨rfl, BW.out.trans ((B3.out.trans (b4.mono B3.out.size)).mono BW.out.size)⟩
    · have d0 : decide (d ≤ b) = false := by simp [hdb]
      rw [d0]
      clear hdb
      go_enter Tryd.func11, Tryd.ntmps11
      go_upto_region 1 with fail
      rw [← hW]
      clear hW
      go_wp2_with (go_at_call 7; ((with_reducible refine (K1.out W).mono ?_); rintro e w3 ⟨rfl, b3⟩; have l0 := keep_cell b3 k0; have l1 := keep_cell b3 k1; have l2 := keep_cell b3 k2; have l3 := keep_cell b3 k3; have B3 := hid b3; clear b3))
      go_ret
      exact ⟨rfl, BW.out.trans (B3.out.mono BW.out.size)⟩
end Go.Proofs.YtnfklhebcloolabDoor.cic
