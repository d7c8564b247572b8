/- What is new; the law's own alive. -/
import Derived.Test.YtcbfebbnelofpaaMagicStep
namespace Go.Proofs.Ytcbfebbnelofpaa.mgc
open Go.RowKit
open Go.Proofs.Ytcbfebbnelofpaa.kit Go.Proofs.Ytcbfebbnelofpaa.mgm
set_option linter.unusedVariables false
set_option maxRecDepth 20000
/-- the cells of a new one -/
abbrev zeros : Array Value := #[.int .u32 0, .int .u32 0, .int .u32 0, .int .u32 0, .int .u32 0, .int .u32 0, .int .u32 0, .int .u32 0, .int .u32 0, .int .u32 0, .int .u32 0, .int .u32 0, .int .u32 0, .int .u32 0, .int .u32 0, .int .u32 0, .int .u32 0, .int .u32 0, .int .u32 0, .int .u32 0, .int .u32 0, .int .u32 0, .int .u32 0, .int .u32 0, .int .u32 0, .int .u32 0, .int .u32 0, .int .u32 0, .int .u32 0, .int .u32 0, .int .u32 0, .int .u32 0, .int .u32 0, .int .u32 0, .int .u32 0, .int .u32 0, .int .u32 0, .int .u32 0, .int .u32 0, .int .u32 0, .int .u32 0, .int .u32 0, .int .u32 0, .int .u32 0, .int .u32 0, .int .u32 0, .int .u32 0, .int .u32 0, .int .u32 0, .int .u32 0, .int .u32 0, .int .u32 0, .int .u32 0, .int .u32 0, .int .u32 0, .int .u32 0, .int .u32 0, .int .u32 0, .int .u32 0, .int .u32 0, .int .u32 0, .int .u32 0, .int .u32 0, .int .u32 0, .int .i64 0, .int .i64 0, .int .u32 0]
theorem zeros_is : zeros.toList = dv (List.replicate 64 0) 0 0 0 := by kernel_rfl
theorem has_new (w : World) : Has (w.alloc (.cells zeros 27)) w.heap.size [] 0 :=
  ⟨⟨List.replicate 64 0, 0, by have := Box.made w zeros 27; rw [zeros_is] at this; exact this, is_new⟩, by omega⟩
theorem ms_new (w : World) : MS w ((w.alloc (.cells zeros 27)).alloc (.cells #[.slice none 0 0, .int .u64 0] 32)) w.heap.size (w.heap.size + 1) [] 0 := by
  have b1 := (Below.refl w.heap.size w).alloc (Nat.le_refl _) (.cells zeros 27)
  refine ⟨b1.alloc b1.size _, (has_new w).next ((Below.refl _ _).alloc (Nat.le_refl _) _), ⟨⟨none, 0, ?_, Nums.empty (Nat.zero_le _) (fun _ => rfl), fun b f s e => by cases e⟩, by omega, by simp⟩, Nat.le_refl _, Nat.le_succ _, by simp; omega, by omega⟩
  have := Box.made (w.alloc (.cells zeros 27)) #[.slice none 0 0, .int .u64 0] 32
  simp only [World.size_alloc] at this
  exact this
set_option maxHeartbeats 1000000 in
theorem alive_any (w : World) :
    Calls Try.prog 14 #[] w fun e w' => e = .returned (.bool true) ∧ Below w.heap.size w w' := by
  have B1 := hid (has_new w)
  have B0 := hid ((Below.refl w.heap.size w).alloc (Nat.le_refl _) (.cells zeros 27))
  have hs : w.heap.size < (w.alloc (.cells zeros 27)).heap.size := by simp
  go_enter Try.func14, Try.ntmps14
  go_wp2_with fail
  change Calls _ _ _ (w.alloc (.cells zeros 27)) _
  generalize w.alloc (.cells zeros 27) = W at *
  refine ((add_yes W _ [] 0 5 B1.out (by simp)).mono ?_); rintro e w1 ⟨rfl, h1⟩; have H1 := hid h1; clear h1
  go_wp2_with (first | (go_at_call 13; ((with_reducible refine (left_any _ _ _ _ H1.out.has).mono ?_); rintro e w2 ⟨rfl, rfl⟩)) | (go_at_call 63; ((with_reducible refine (next_any _ _ [5] 0 H1.out.has (by omega)).mono ?_); rintro e w3 ⟨rfl, h3⟩; have H3 := hid (H1.out.trans h3); clear h3)))
  go_ret
  exact ⟨rfl, gb_below B0.out H3.out.only (Nat.le_of_lt hs) (Nat.le_refl _)⟩
end Go.Proofs.Ytcbfebbnelofpaa.mgc
