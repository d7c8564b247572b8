/- The contracts of the document's prefixes. -/
import Derived.Test.YtnfklhebcloolabDoorCi2
namespace Go.Proofs.YtnfklhebcloolabDoor.cic
open Go.RowKit
open Go.Proofs.YtnfklhebcloolabDoor.kit Go.Proofs.YtnfklhebcloolabDoor.cim
set_option linter.unusedVariables false
set_option linter.unusedSimpArgs false
set_option maxRecDepth 20000
theorem rright_no (a : Nat) (b : Int) (hb : b < 0 ∨ 32 < b) (w : World) : Calls Tryd.prog 8 #[pf a b] w fun e w' => e = .returned (.bool (rightB a b)) ∧ Below w.heap.size w w' := by
  have hr := hid (show rightB a b = false by unfold rightB; simp; omega)
  rw [hr.out]
  unfold pf
  obtain ⟨W, hW, k0, k1, bW⟩ := boxed w a b
  have K0 := After.cell k0
  have K1 := After.cell k1
  by_cases h0 : b < 0
  · have d0 : decide (0 ≤ b) = false := by simp; omega
    clear hb h0
    go_enter Tryd.func8, Tryd.ntmps8
    go_upto_region 1 with fail
    rw [← hW]
    refine wp_region_after W (by kernel_rfl) (by kernel_rfl) ((Below.refl _ _).drew) ?_
    repeat (go_big_quiet_step (fail))
    refine wpQuiet_nil ?_
    rintro _ ⟨⟨w3, b3⟩, rfl⟩
    go_wp2
    go_ret
    exact ⟨rfl, bW.trans (b3.mono bW.size)⟩
  · have d0 : decide (0 ≤ b) = true := by simp; omega
    have d1 : decide (b ≤ 32) = false := by simp; omega
    clear hb h0
    go_enter Tryd.func8, Tryd.ntmps8
    go_upto_region 1 with fail
    rw [← hW]
    refine wp_region_after W (by kernel_rfl) (by kernel_rfl) ((Below.refl _ _).drew) ?_
    repeat (go_big_quiet_step (fail))
    refine wpQuiet_nil ?_
    rintro _ ⟨⟨w3, b3⟩, rfl⟩
    go_wp2
    go_ret
    exact ⟨rfl, bW.trans (b3.mono bW.size)⟩
theorem rright_yes (a b : Nat) (ha : a < 4294967296) (hb : b ≤ 32) (w : World) : Calls Tryd.prog 8 #[pf a (b : Nat)] w fun e w' => e = .returned (.bool (rightB a (b : Nat))) ∧ Below w.heap.size w w' := by
  have hr := hid (show decide ((a % 2 ^ (32 - b) : Nat) = 0) = rightB a (b : Nat) by unfold rightB; simp; omega)
  unfold pf
  obtain ⟨W, hW, k0, k1, bW⟩ := boxed w a b
  have K0 := After.cell k0
  have K1 := After.cell k1
  have KM := hid (fun (M : After W) => after_call ((size_any b hb M.w).mono fun e w' ⟨h1, h2⟩ => ⟨h1, by rw [← h2]; exact Below.refl _ _⟩))
  have d0 : decide (0 ≤ (b : Int)) = true := by simp
  have d1 : decide ((b : Int) ≤ 32) = true := by simp; omega
  have hq0 := pow_pos b
  have hq1 := pow_le b
  obtain ⟨q, hq⟩ : ∃ q, q = 2 ^ (32 - b) := ⟨_, rfl⟩
  rw [← hq] at KM hr hq0 hq1
  have ht : (a : Int).tmod (q : Int) = ((a % q : Nat) : Int) := by rw [Int.tmod_eq_emod_of_nonneg (by omega)]; omega
  have hne : ¬ (q : Int) = 0 := by omega
  have hl : a % q < 4294967296 := Nat.lt_of_lt_of_le (Nat.mod_lt _ hq0) hq1
  obtain ⟨m, hm⟩ : ∃ m, m = a % q := ⟨_, rfl⟩
  rw [← hm] at ht hr hl
  clear hq hm
  go_enter Tryd.func8, Tryd.ntmps8
  go_upto_region 1 with fail
  rw [← hW]
  refine wp_region_after W (by kernel_rfl) (by kernel_rfl) ((Below.refl _ _).drew) ?_
  repeat (go_big_quiet_step (exact KM.out _))
  refine wpQuiet_nil ?_
  rintro _ ⟨⟨w3, b3⟩, rfl⟩
  go_wp2
  go_ret
  exact ⟨ret_bool (by rw [← hr.out, Bool.eq_iff_iff]; simp), bW.trans (b3.mono bW.size)⟩
theorem rright_any (a : Nat) (b : Int) (ha : a < 4294967296) (w : World) : Calls Tryd.prog 8 #[pf a b] w fun e w' => e = .returned (.bool (rightB a b)) ∧ Below w.heap.size w w' := by
  by_cases h : 0 ≤ b ∧ b ≤ 32
  · obtain ⟨n, rfl⟩ := Int.eq_ofNat_of_zero_le h.1
    exact rright_yes a n ha (by omega) w
  · exact rright_no a b (by omega) w
theorem span_any (a b : Nat) (ha : a < 4294967296) (hb : b ≤ 32) (w : World) : Calls Tryd.prog 28 #[pf a (b : Nat)] w fun e w' => e = .returned (.tuple #[.int .i64 (a : Nat), .int .i64 ((a : Int) + (2 ^ (32 - b) : Nat) - 1)]) ∧ Below w.heap.size w w' := by
  unfold pf
  obtain ⟨W, hW, k0, k1, bW⟩ := boxed w a b
  have K0 := After.cell k0
  have K1 := After.cell k1
  have KM := hid (fun (M : After W) => after_call ((size_any b hb M.w).mono fun e w' ⟨h1, h2⟩ => ⟨h1, by rw [← h2]; exact Below.refl _ _⟩))
  have hq0 := pow_pos b
  have hq1 := pow_le b
  obtain ⟨q, hq⟩ : ∃ q, q = 2 ^ (32 - b) := ⟨_, rfl⟩
  rw [← hq] at KM hq0 hq1 ⊢
  clear hq
  go_enter Tryd.func28, Tryd.ntmps28
  go_upto_region 1 with fail
  rw [← hW]
  refine wp_region_after W (by kernel_rfl) (by kernel_rfl) ((Below.refl _ _).drew) ?_
  repeat (go_big_quiet_step (exact KM.out _))
  refine wpQuiet_nil ?_
  rintro _ ⟨⟨w3, b3⟩, rfl⟩
  go_wp2
  exact bodyPost_ret (v := .tuple #[.int .i64 (a : Nat), .int .i64 ((a : Int) + (q : Nat) - 1)]) (by simp [results, Tryd.results28, go_sem]) rfl ⟨rfl, bW.trans (b3.mono bW.size)⟩
theorem cut_int (a q : Nat) (h : a < 4294967296) (hq : 0 < q) : ((a / q * q : Nat) : Int) = ((a / q : Nat) : Int) * (q : Int) ∧ a / q * q < 4294967296 ∧ (a : Int).tdiv (q : Int) = ((a / q : Nat) : Int) := by
  refine ⟨by rw [Int.natCast_mul], Nat.lt_of_le_of_lt (Nat.div_mul_le_self _ _) h, ?_⟩
  rw [Int.tdiv_eq_ediv_of_nonneg (by omega), Int.natCast_ediv]
theorem rof_any (a : Nat) (b : Int) (ha : a < 4294967296) (w : World) : Calls Tryd.prog 14 #[.int .u32 (a : Nat), .int .i64 b] w fun e w' => e = .returned (pf (cutA a (clamp b)) (clamp b : Nat)) ∧ Below w.heap.size w w' := by
  have hc := clamp_le b
  obtain ⟨W, hW, k0, k1, bW⟩ := boxed w 0 0
  have KM := hid (fun (M : After W) => after_call ((size_any (clamp b) hc M.w).mono fun e w' ⟨h1, h2⟩ => ⟨h1, by rw [← h2]; exact Below.refl _ _⟩))
  have hq0 := pow_pos (clamp b)
  have hq1 := pow_le (clamp b)
  have HB := hid (show ((b < 0 ∧ clamp b = 0) ∨ (32 < b ∧ clamp b = 32) ∨ (0 ≤ b ∧ b ≤ 32 ∧ ((clamp b : Nat) : Int) = b)) from by unfold clamp; split <;> (try split) <;> omega)
  unfold cutA pf
  obtain ⟨k, hk⟩ : ∃ k, k = clamp b := ⟨_, rfl⟩
  rw [← hk] at KM hq0 hq1 HB ⊢
  obtain ⟨q, hq⟩ : ∃ q, q = 2 ^ (32 - k) := ⟨_, rfl⟩
  rw [← hq] at KM hq0 hq1 ⊢
  obtain ⟨e1, e2, e3⟩ := cut_int a q ha hq0
  have hne : ¬ (q : Int) = 0 := by omega
  obtain ⟨m, hm⟩ : ∃ m, m = a / q := ⟨_, rfl⟩
  obtain ⟨z, hz⟩ : ∃ z, z = a / q * q := ⟨_, rfl⟩
  have hml : m < 4294967296 := by rw [hm]; exact Nat.lt_of_le_of_lt (Nat.div_le_self _ _) ha
  rw [← hz] at e1 e2 ⊢
  rw [← hm] at e1 e3
  have hw : IntKind.i64.wrap ((m : Int) * (q : Int)) = (z : Int) := by rw [← e1]; exact IntWalk.i64_in _ (by omega)
  have BX := hid (Box.made w #[.int .u32 ((0 : Nat) : Int), .int .i64 0] 25)
  rw [← hW] at BX
  clear e1 hq hm hz hk hc k0 k1
  rcases HB.out with ⟨h0, hk⟩ | ⟨h0, hk⟩ | ⟨h0, h1, hk⟩
  · subst hk
    go_enter Tryd.func14, Tryd.ntmps14
    go_upto_region 5 with fail
    clear HB
    change Code.wp _ _ _ _ (w.alloc (.cells #[.int .u32 ((0 : Nat) : Int), .int .i64 0] 25))
    rw [← hW]
    clear hW h0
    refine wp_region_after_tail W 11 (by kernel_rfl) (by kernel_rfl) ((Below.refl _ _).drew) ?_
    simp only [List.take_succ_cons, List.take_zero, List.drop_succ_cons, List.drop_zero]
    repeat (go_big_quiet_step (exact KM.out _))
    refine wpQuiet_nil ?_
    intro w3 hw'
    obtain ⟨N3, e3⟩ := hw'
    have b3 : Below W.heap.size W w3 := by rw [e3]; exact N3.h
    clear e3 N3
    have X3 := hid (BX.out.next b3)
    have y0 := X3.out.at_ 0 _ rfl
    have y1 := X3.out.at_ 1 _ rfl
    have g0 := X3.out.fr 0
    have g1 := X3.out.fr 1
    have q0 := ((X3.out.set 0 (.int .u32 (z : Int))).set 1 (.int .i64 0)).at_ 0 (.int .u32 (z : Int)) rfl
    have q1 := ((X3.out.set 0 (.int .u32 (z : Int))).set 1 (.int .i64 0)).at_ 1 (.int .i64 0) rfl
    have Q0 := hid q0
    have Q1 := hid q1
    have B5 := hid ((((bW.trans (b3.mono bW.size)).setCell (p := ⟨w.heap.size, 0, none⟩) (Nat.le_refl _) (.int .u32 (z : Int)))).setCell (p := ⟨w.heap.size, 1, none⟩) (Nat.le_refl _) (.int .i64 0))
    clear q0 q1 b3 hw hne hq0 hq1 hml
    go_wp2_with fail
    have q0 := Q0.out
    have q1 := Q1.out
    exact bodyPost_ret (v := .agg #[.int .u32 (z : Nat), .int .i64 0]) (by simp [results, Tryd.results14, go_sem, q0, q1]) rfl ⟨rfl, B5.out⟩
  · subst hk
    go_enter Tryd.func14, Tryd.ntmps14
    go_upto_region 5 with fail
    clear HB
    change Code.wp _ _ _ _ (w.alloc (.cells #[.int .u32 ((0 : Nat) : Int), .int .i64 0] 25))
    rw [← hW]
    clear hW h0
    refine wp_region_after_tail W 11 (by kernel_rfl) (by kernel_rfl) ((Below.refl _ _).drew) ?_
    simp only [List.take_succ_cons, List.take_zero, List.drop_succ_cons, List.drop_zero]
    repeat (go_big_quiet_step (exact KM.out _))
    refine wpQuiet_nil ?_
    intro w3 hw'
    obtain ⟨N3, e3⟩ := hw'
    have b3 : Below W.heap.size W w3 := by rw [e3]; exact N3.h
    clear e3 N3
    have X3 := hid (BX.out.next b3)
    have y0 := X3.out.at_ 0 _ rfl
    have y1 := X3.out.at_ 1 _ rfl
    have g0 := X3.out.fr 0
    have g1 := X3.out.fr 1
    have q0 := ((X3.out.set 0 (.int .u32 (z : Int))).set 1 (.int .i64 32)).at_ 0 (.int .u32 (z : Int)) rfl
    have q1 := ((X3.out.set 0 (.int .u32 (z : Int))).set 1 (.int .i64 32)).at_ 1 (.int .i64 32) rfl
    have Q0 := hid q0
    have Q1 := hid q1
    have B5 := hid ((((bW.trans (b3.mono bW.size)).setCell (p := ⟨w.heap.size, 0, none⟩) (Nat.le_refl _) (.int .u32 (z : Int)))).setCell (p := ⟨w.heap.size, 1, none⟩) (Nat.le_refl _) (.int .i64 32))
    clear q0 q1 b3 hw hne hq0 hq1 hml
    go_wp2_with fail
    have q0 := Q0.out
    have q1 := Q1.out
    exact bodyPost_ret (v := .agg #[.int .u32 (z : Nat), .int .i64 32]) (by simp [results, Tryd.results14, go_sem, q0, q1]) rfl ⟨rfl, B5.out⟩
  · subst hk
    go_enter Tryd.func14, Tryd.ntmps14
    go_upto_region 5 with fail
    clear HB
    change Code.wp _ _ _ _ (w.alloc (.cells #[.int .u32 ((0 : Nat) : Int), .int .i64 0] 25))
    rw [← hW]
    clear hW
    refine wp_region_after_tail W 11 (by kernel_rfl) (by kernel_rfl) ((Below.refl _ _).drew) ?_
    simp only [List.take_succ_cons, List.take_zero, List.drop_succ_cons, List.drop_zero]
    repeat (go_big_quiet_step (exact KM.out _))
    refine wpQuiet_nil ?_
    intro w3 hw'
    obtain ⟨N3, e3⟩ := hw'
    have b3 : Below W.heap.size W w3 := by rw [e3]; exact N3.h
    clear e3 N3
    have X3 := hid (BX.out.next b3)
    have y0 := X3.out.at_ 0 _ rfl
    have y1 := X3.out.at_ 1 _ rfl
    have g0 := X3.out.fr 0
    have g1 := X3.out.fr 1
    have q0 := ((X3.out.set 0 (.int .u32 (z : Int))).set 1 (.int .i64 (k : Int))).at_ 0 (.int .u32 (z : Int)) rfl
    have q1 := ((X3.out.set 0 (.int .u32 (z : Int))).set 1 (.int .i64 (k : Int))).at_ 1 (.int .i64 (k : Int)) rfl
    have Q0 := hid q0
    have Q1 := hid q1
    have B5 := hid ((((bW.trans (b3.mono bW.size)).setCell (p := ⟨w.heap.size, 0, none⟩) (Nat.le_refl _) (.int .u32 (z : Int)))).setCell (p := ⟨w.heap.size, 1, none⟩) (Nat.le_refl _) (.int .i64 (k : Int)))
    clear q0 q1 b3 hw hne hq0 hq1 hml
    go_wp2_with fail
    have q0 := Q0.out
    have q1 := Q1.out
    exact bodyPost_ret (v := .agg #[.int .u32 (z : Nat), .int .i64 (k : Int)]) (by simp [results, Tryd.results14, go_sem, q0, q1]) rfl ⟨rfl, B5.out⟩
end Go.Proofs.YtnfklhebcloolabDoor.cic
