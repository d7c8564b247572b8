/- The contracts of package serial: what each of its functions answers, at any numbers. -/
import Derived.Test.YtecppfdfdabflaaKit

namespace Go.Proofs.Ytecppfdfdabflaa.serialc
open Go.RowKit
open Go.Proofs.Ytecppfdfdabflaa.kit

/-- steps on from a to b, going round, from -2^31 on -/
def dist (a b : Int) : Int := (b - a + 2147483648) % 4294967296 - 2147483648
/-- steps on from a to b, going up -/
def steps (a b : Int) : Int := (b - a) % 4294967296
def lessB (a b : Int) : Bool := decide (0 < dist a b)
def maxI (a b : Int) : Int := if lessB a b then b else a
def betweenB (a b c : Int) : Bool := decide (steps a b ≤ steps a c)
def U32 (a : Int) : Prop := 0 ≤ a ∧ a < 4294967296

theorem wrap_dist (a b : Int) : wrap64 (wrap32 ((b - a) % 4294967296)) = dist a b := by
  unfold wrap64 wrap32 dist; omega

theorem distance_any (a b : Int) (w : World) :
    Calls Try.prog 27 #[.int .u32 a, .int .u32 b] w fun e w' => e = .returned (.int .i64 (dist a b)) ∧ w = w' := by
  go_enter Try.func27, Try.ntmps27
  go_wp2
  go_ret
  exact ⟨ret_int (wrap_dist a b), rfl⟩

theorem less_any (a b : Int) (w : World) :
    Calls Try.prog 28 #[.int .u32 a, .int .u32 b] w fun e w' => e = .returned (.bool (lessB a b)) ∧ w = w' := by
  go_enter Try.func28, Try.ntmps28
  go_wp2_with (go_at_call 27; refine (distance_any _ _ _).mono ?_; rintro e w' ⟨rfl, rfl⟩)
  go_ret
  exact ⟨ret_bool (by unfold lessB; first | rfl | simp), rfl⟩

theorem max_any (a b : Int) (w : World) :
    Calls Try.prog 30 #[.int .u32 a, .int .u32 b] w fun e w' => e = .returned (.int .u32 (maxI a b)) ∧ w = w' := by
  go_enter Try.func30, Try.ntmps30
  go_wp2_with (go_at_call 28; refine (less_any _ _ _).mono ?_; rintro e w' ⟨rfl, rfl⟩)
  all_goals go_ret
  · exact ⟨ret_int (by unfold maxI; rw [if_pos (by assumption)]), rfl⟩
  · exact ⟨ret_int (by unfold maxI; rw [if_neg (by simp [*])]), rfl⟩

theorem between_any (a b c : Int) (w : World) :
    Calls Try.prog 32 #[.int .u32 a, .int .u32 b, .int .u32 c] w fun e w' => e = .returned (.bool (betweenB a b c)) ∧ w = w' := by
  go_enter Try.func32, Try.ntmps32
  go_wp2
  go_ret
  exact ⟨ret_bool (by unfold betweenB steps; rfl), rfl⟩

theorem add_any (a n : Int) (w : World) :
    Calls Try.prog 31 #[.int .u32 a, .int .i64 n] w fun e w' => e = .returned (.int .u32 ((a + n) % 4294967296)) ∧ w = w' := by
  go_enter Try.func31, Try.ntmps31
  go_wp2
  go_ret
  exact ⟨ret_int (by omega), rfl⟩

end Go.Proofs.Ytecppfdfdabflaa.serialc
