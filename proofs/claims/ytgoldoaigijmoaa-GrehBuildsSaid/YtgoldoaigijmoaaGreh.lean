/- The contracts of package greh, and of the document's own answers: which packets may be, and their bytes. -/
import Derived.Test.YtgoldoaigijmoaaBeLaw
import Derived.Test.YtgoldoaigijmoaaBeBad
import Derived.Test.YtgoldoaigijmoaaBeRef
import Derived.Test.YtgoldoaigijmoaaSt
import Derived.Deep.Onto
import Derived.Deep.DeepCutAuto
namespace Go.Proofs.Ytgoldoaigijmoaa.grc
open Go.RowKit
open Go.Proofs.Ytgoldoaigijmoaa.kit Go.Proofs.Ytgoldoaigijmoaa.bec
set_option linter.unusedVariables false
set_option maxRecDepth 20000

/-- may there be such a packet? -/
def rightT (hs : Bool) (seq : Int) (ha : Bool) (ack : Int) (n : Nat) : Bool := (hs == decide (0 < n)) && decide (n ≤ 1600) && (hs || seq == 0) && (ha || ack == 0)
def bitsT (hs ha : Bool) : Int := 8193 + (if hs then 4096 else 0) + (if ha then 128 else 0)
def numsT (hs : Bool) (seq : Int) (ha : Bool) (ack : Int) : List Int := (if hs then beB 4 seq else []) ++ (if ha then beB 4 ack else [])
def headT (call : Int) (hs ha : Bool) (n : Nat) : List Int := beB 2 (bitsT hs ha) ++ beB 2 34827 ++ beB 2 (n : Int) ++ beB 2 call
/-- a packet's bytes -/
def grB (call : Int) (hs : Bool) (seq : Int) (ha : Bool) (ack : Int) (d : List Int) : List Int :=
  if rightT hs seq ha ack d.length then headT call hs ha d.length ++ numsT hs seq ha ack ++ d else []

section
variable (call : Int) (hs : Bool) (seq : Int) (ha : Bool) (ack : Int) (a : Option Addr) (n c : Nat)

theorem matched_any (w : World) : Calls Try.prog 56 #[.agg #[.int .u16 call, .bool hs, .int .u32 seq, .bool ha, .int .u32 ack, .slice a n c]] w fun e w' => e = .returned (.bool (hs == decide (0 < n))) ∧ Below w.heap.size w w' := by
  by_cases h1 : 0 < n
  all_goals cases hs
  all_goals
    go_enter Try.func56, Try.ntmps56
    go_wp2
    go_ret
    exact ⟨ret_bool (by simp [h1] <;> omega), (Below.refl _ _).alloc (Nat.le_refl _) _⟩
set_option maxHeartbeats 4000000 in
theorem right_any (w : World) : Calls Try.prog 26 #[.agg #[.int .u16 call, .bool hs, .int .u32 seq, .bool ha, .int .u32 ack, .slice a n c]] w fun e w' => e = .returned (.bool (rightT hs seq ha ack n)) ∧ Below w.heap.size w w' := by
  obtain ⟨W1, hW1⟩ : ∃ W1, W1 = w.alloc (.cells #[.int .u16 call, .bool hs, .int .u32 seq, .bool ha, .int .u32 ack, .slice a n c] 45) := ⟨_, rfl⟩
  have b0 : Below w.heap.size w W1 := by rw [hW1]; exact (Below.refl _ _).alloc (Nat.le_refl _) _
  have x0 : W1.cell? ⟨w.heap.size, 0, none⟩ = some (.int .u16 call) := by rw [hW1]; simp [go_sem]
  have x1 : W1.cell? ⟨w.heap.size, 1, none⟩ = some (.bool hs) := by rw [hW1]; simp [go_sem]
  have x2 : W1.cell? ⟨w.heap.size, 2, none⟩ = some (.int .u32 seq) := by rw [hW1]; simp [go_sem]
  have x3 : W1.cell? ⟨w.heap.size, 3, none⟩ = some (.bool ha) := by rw [hW1]; simp [go_sem]
  have x4 : W1.cell? ⟨w.heap.size, 4, none⟩ = some (.int .u32 ack) := by rw [hW1]; simp [go_sem]
  have x5 : W1.cell? ⟨w.heap.size, 5, none⟩ = some (.slice a n c) := by rw [hW1]; simp [go_sem]
  have HW := hid hW1
  have MM := hid (fun w => matched_any call hs seq ha ack a n c w)
  clear hW1
  cases hm : (hs == decide (0 < n))
  · rw [hm] at MM
    have HR := hid (show rightT hs seq ha ack n = false by unfold rightT; rw [hm]; rfl)
    clear hm
    go_enter Try.func26, Try.ntmps26
    go_upto_region 1 with fail
    rw [← HW.out]
    go_wp2_with (go_at_call 56; ((with_reducible refine (MM.out _).mono ?_); rintro e w1 ⟨rfl, b1⟩))
    go_ret
    exact ⟨ret_bool HR.out.symm, b0.trans (b1.mono b0.size)⟩
  · rw [hm] at MM
    have HR0 := hid (show rightT hs seq ha ack n = (decide (n ≤ 1600) && (hs || seq == 0) && (ha || ack == 0)) by unfold rightT; rw [hm]; rfl)
    clear hm
    by_cases h2 : n ≤ 1600
    · have HR1 := hid (show rightT hs seq ha ack n = ((hs || seq == 0) && (ha || ack == 0)) by rw [HR0.out]; simp [h2])
      cases hsq : (seq == 0)
      all_goals cases hak : (ack == 0)
      all_goals rw [hsq, hak] at HR1
      all_goals cases hs
      all_goals cases ha
      all_goals
        go_enter Try.func26, Try.ntmps26
        go_upto_region 1 with fail
        rw [← HW.out]
        go_wp2_with (go_at_call 56; ((with_reducible refine (MM.out _).mono ?_); rintro e w1 ⟨rfl, b1⟩); have y0 := keep_cell b1 x0; have y1 := keep_cell b1 x1; have y2 := keep_cell b1 x2; have y3 := keep_cell b1 x3; have y4 := keep_cell b1 x4; have y5 := keep_cell b1 x5)
        go_ret
        exact ⟨ret_bool HR1.out.symm, b0.trans (b1.mono b0.size)⟩
    · have HR := hid (show rightT hs seq ha ack n = false by rw [HR0.out]; simp [h2])
      go_enter Try.func26, Try.ntmps26
      go_upto_region 1 with fail
      rw [← HW.out]
      go_wp2_with (go_at_call 56; ((with_reducible refine (MM.out _).mono ?_); rintro e w1 ⟨rfl, b1⟩); have y0 := keep_cell b1 x0; have y1 := keep_cell b1 x1; have y2 := keep_cell b1 x2; have y3 := keep_cell b1 x3; have y4 := keep_cell b1 x4; have y5 := keep_cell b1 x5)
      go_ret
      exact ⟨ret_bool HR.out.symm, b0.trans (b1.mono b0.size)⟩
set_option maxHeartbeats 4000000 in
theorem rright_any (w : World) : Calls Try.prog 27 #[.agg #[.int .u16 call, .bool hs, .int .u32 seq, .bool ha, .int .u32 ack, .slice a n c]] w fun e w' => e = .returned (.bool (rightT hs seq ha ack n)) ∧ Below w.heap.size w w' := by
  by_cases h2 : n ≤ 1600
  · by_cases h1 : 0 < n
    all_goals have HR1 := hid (show rightT hs seq ha ack n = ((hs == decide (0 < n)) && (hs || seq == 0) && (ha || ack == 0)) by unfold rightT; simp [h2])
    all_goals cases hsq : (seq == 0)
    all_goals cases hak : (ack == 0)
    all_goals rw [hsq, hak] at HR1
    all_goals cases hs
    all_goals cases ha
    all_goals try (have hnsq : (seq != 0) = true := by simp [bne, hsq])
    all_goals try (have hnsq : (seq != 0) = false := by simp [bne, hsq])
    all_goals try (have hnak : (ack != 0) = true := by simp [bne, hak])
    all_goals try (have hnak : (ack != 0) = false := by simp [bne, hak])
    all_goals
      go_enter Try.func27, Try.ntmps27
      go_wp2
      go_ret
      exact ⟨ret_bool (by rw [HR1.out]; simp [h1]), (Below.refl _ _).alloc (Nat.le_refl _) _⟩
  · have HR := hid (show rightT hs seq ha ack n = false by unfold rightT; simp [h2])
    go_enter Try.func27, Try.ntmps27
    go_wp2
    go_ret
    exact ⟨ret_bool HR.out.symm, (Below.refl _ _).alloc (Nat.le_refl _) _⟩
end
end Go.Proofs.Ytgoldoaigijmoaa.grc
