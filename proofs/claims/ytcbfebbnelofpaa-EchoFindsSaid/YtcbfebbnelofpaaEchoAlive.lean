/- The law's own alive. -/
import Derived.Test.YtcbfebbnelofpaaEcho
namespace Go.Proofs.Ytcbfebbnelofpaa.ecc
open Go.RowKit
open Go.Proofs.Ytcbfebbnelofpaa.kit
set_option linter.unusedVariables false
set_option maxHeartbeats 1000000 in
theorem alive_any (w : World) :
    Calls Try.prog 24 #[] w fun e w' => e = .returned (.bool true) ∧ Below w.heap.size w w' := by
  have B1 := hid (show Box (w.alloc (.cells #[.bool false, .int .i64 0, .int .u8 0, .int .i64 0] 47)) w.heap.size (ev false 0 0 0) from Box.made w _ _)
  have B0 := hid ((Below.refl w.heap.size w).alloc (Nat.le_refl _) (.cells #[.bool false, .int .i64 0, .int .u8 0, .int .i64 0] 47))
  have hs : w.heap.size < (w.alloc (.cells #[.bool false, .int .i64 0, .int .u8 0, .int .i64 0] 47)).heap.size := by simp
  go_enter Try.func24, Try.ntmps24
  go_wp2_with (first | (go_at_call 18; ((with_reducible refine (start_any _ _ _ _ _ _ 0 (by omega) (by omega) B1.out).mono ?_); rintro e w1 ⟨rfl, h1⟩; have H1 := hid h1; clear h1)) | (go_at_call 20; ((with_reducible refine (tick_ask _ _ _ _ _ 20 H1.out.box (by omega) (by omega) (by omega) (by omega) (by omega) (by omega)).mono ?_); rintro e w2 ⟨rfl, h2⟩; have H2 := hid h2; clear h2)) | (go_at_call 23; ((with_reducible refine (missed_any _ _ _ _ _ _ H2.out.box).mono ?_); rintro e w3 ⟨rfl, rfl⟩)))
  go_ret
  exact ⟨rfl, gb_below (gb_below B0.out H1.out.only (Nat.le_of_lt hs) (Nat.le_refl _)) H2.out.only (Nat.le_trans (Nat.le_of_lt hs) H1.out.only.size) (Nat.le_refl _)⟩
end Go.Proofs.Ytcbfebbnelofpaa.ecc
