/- The contracts of the document's own answers for numbers that go round. -/
import Derived.Test.YtecppfdfdabflaaSerialWide
namespace Go.Proofs.Ytecppfdfdabflaa.serialc
open Go.RowKit
open Go.Proofs.Ytecppfdfdabflaa.kit

theorem ref_steps (a b : Int) (w : World) (ha : U32 a) (hb : U32 b) :
    Calls Try.prog 33 #[.int .u32 a, .int .u32 b] w fun e w' => e = .returned (.int .i64 (steps a b)) ∧ w = w' := by
  obtain ⟨ha0, ha1⟩ := ha
  obtain ⟨hb0, hb1⟩ := hb
  go_enter Try.func33, Try.ntmps33
  go_wp2
  all_goals go_ret
  all_goals exact ⟨ret_int (by unfold steps; omega), rfl⟩

theorem steps_bd (a b : Int) : 0 ≤ steps a b ∧ steps a b < 4294967296 := by unfold steps; omega

theorem ref_less (a b : Int) (w : World) (ha : U32 a) (hb : U32 b) :
    Calls Try.prog 26 #[.int .u32 a, .int .u32 b] w fun e w' => e = .returned (.bool (lessB a b)) ∧ w = w' := by
  have hs := steps_bd a b
  have hd : lessB a b = decide (0 < steps a b ∧ steps a b < 2147483648) := by
    unfold lessB dist steps; rw [decide_eq_decide]; omega
  have HD := hid hd
  clear hd
  by_cases h1 : 0 < steps a b
  all_goals
    go_enter Try.func26, Try.ntmps26
    go_wp2_with (go_at_call 33; refine (ref_steps _ _ _ ha hb).mono ?_; rintro e w' ⟨rfl, rfl⟩)
    go_ret
    exact ⟨ret_bool (by rw [HD.out]; simp [*] <;> omega), rfl⟩

theorem ref_distance (a b : Int) (w : World) (ha : U32 a) (hb : U32 b) :
    Calls Try.prog 29 #[.int .u32 a, .int .u32 b] w fun e w' => e = .returned (.int .i64 (dist a b)) ∧ w = w' := by
  have hs := steps_bd a b
  have hd : dist a b = if 2147483648 ≤ steps a b then steps a b - 4294967296 else steps a b := by
    unfold dist steps; split <;> omega
  by_cases h1 : 2147483648 ≤ steps a b
  all_goals
    have HD := hid hd
    clear hd
    go_enter Try.func29, Try.ntmps29
    go_wp2_with (go_at_call 33; refine (ref_steps _ _ _ ha hb).mono ?_; rintro e w' ⟨rfl, rfl⟩)
    go_ret
    exact ⟨ret_int (by rw [HD.out]; split <;> omega), rfl⟩
end Go.Proofs.Ytecppfdfdabflaa.serialc
