/- The chapter's example of package ring. -/
import Derived.Test.YtmoolhneofbfdaaRingStep
namespace Go.Proofs.Ytmoolhneofbfdaa.rgc
open Go.RowKit
open Go.Proofs.Ytmoolhneofbfdaa.kit
set_option linter.unusedVariables false

def RingB (w0 w : World) (g : Nat) (most : Int) (n : Nat) (l : List Int) : Prop := ∃ a cap, Ring w w0.heap.size g most a n cap l ∧ Below w0.heap.size w0 w
theorem pushB {w0 w : World} {g : Nat} {most : Int} {n : Nat} {l : List Int} (h : RingB w0 w g most n l) (hn : (n : Int) < most) (hm : most ≤ 4096) (x : Int) :
    Calls Try.prog 43 #[.pointer (some ⟨g, 0, none⟩), .int .i64 x] w fun e w' => e = .returned (.bool true) ∧ RingB w0 w' g most (n + 1) (l ++ [x]) := by
  obtain ⟨a, cap, h1, h2⟩ := h
  exact (push_any w h1 h2.size hn hm x).mono fun e w' ⟨he, a', cap', k1, k2, _⟩ => ⟨he, a', cap', k1, fr_below h1 h2 k2⟩
theorem fullB {w0 w : World} {g : Nat} {most : Int} {n : Nat} {l : List Int} (h : RingB w0 w g most n l) (hn : (n : Int) = most) (hm : most ≤ 4096) (x : Int) :
    Calls Try.prog 43 #[.pointer (some ⟨g, 0, none⟩), .int .i64 x] w fun e w' => e = .returned (.bool false) ∧ RingB w0 w' g most n l := by
  obtain ⟨a, cap, h1, h2⟩ := h
  exact (push_full w h1 hn hm x).mono fun e w' ⟨he, m, hw⟩ => ⟨he, a, cap, by rw [hw]; exact h1.below (below_drewN (Below.refl _ _) m), by rw [hw]; exact below_drewN h2 m⟩
theorem popB {w0 w : World} {g : Nat} {most : Int} {n : Nat} {x : Int} {l : List Int} (h : RingB w0 w g most (n + 1) (x :: l)) :
    Calls Try.prog 40 #[.pointer (some ⟨g, 0, none⟩)] w fun e w' => e = .returned (.tuple #[.int .i64 x, .bool true]) ∧ RingB w0 w' g most n l := by
  obtain ⟨a, cap, h1, h2⟩ := h
  exact (pop_in w h1).mono fun e w' ⟨he, a', cap', k1, k2, _⟩ => ⟨he, a', cap', k1, fr_below h1 h2 k2⟩
theorem lenB {w0 w : World} {g : Nat} {most : Int} {n : Nat} {l : List Int} (h : RingB w0 w g most n l) :
    Calls Try.prog 22 #[.pointer (some ⟨g, 0, none⟩)] w fun e w' => e = .returned (.int .i64 n) ∧ RingB w0 w' g most n l := by
  obtain ⟨a, cap, h1, h2⟩ := h
  exact (len_any w h1).mono fun e w' ⟨he, hw⟩ => ⟨he, a, cap, by rw [← hw]; exact h1, by rw [← hw]; exact h2⟩
theorem roomB {w0 w : World} {g : Nat} {most : Int} {n : Nat} {l : List Int} (h : RingB w0 w g most n l) (hn : (n : Int) ≤ most) (hm : most ≤ 4096) :
    Calls Try.prog 23 #[.pointer (some ⟨g, 0, none⟩)] w fun e w' => e = .returned (.int .i64 (most - n)) ∧ RingB w0 w' g most n l := by
  obtain ⟨a, cap, h1, h2⟩ := h
  exact (room_any w h1 hn hm).mono fun e w' ⟨he, m, hw⟩ => ⟨he, a, cap, by rw [hw]; exact h1.below (below_drewN (Below.refl _ _) m), by rw [hw]; exact below_drewN h2 m⟩

theorem alive_any (w : World) : Calls Try.prog 26 #[] w fun e w' => e = .returned (.bool true) ∧ Below w.heap.size w w' := by
  have R0 : RingB w (w.alloc (.cells #[.slice none 0 0, .int .i64 (cl 2)] 67)) w.heap.size 2 0 [] := ⟨none, 0, new_ring 2 w w.heap.size (Nat.le_refl _), (Below.refl _ _).alloc (Nat.le_refl _) _⟩
  go_enter Try.func26, Try.ntmps26
  go_wp2_with (first | (go_at_call 20; refine (new_any 2 w).mono ?_; rintro e w1 ⟨rfl, rfl⟩) | (go_at_call 43; ((with_reducible refine (pushB R0 (by decide) (by decide) _).mono ?_); rintro e w2 ⟨rfl, R1⟩; simp only [List.nil_append] at R1)) | (go_at_call 43; ((with_reducible refine (pushB R1 (by decide) (by decide) _).mono ?_); rintro e w3 ⟨rfl, R2⟩; simp only [List.cons_append, List.nil_append] at R2)) | (go_at_call 43; ((with_reducible refine (fullB R2 (by decide) (by decide) _).mono ?_); rintro e w4 ⟨rfl, R3⟩)) | (go_at_call 40; ((with_reducible refine (popB R3).mono ?_); rintro e w5 ⟨rfl, R4⟩)) | (go_at_call 22; ((with_reducible refine (lenB R4).mono ?_); rintro e w6 ⟨rfl, R5⟩)) | (go_at_call 23; ((with_reducible refine (roomB R5 (by decide) (by decide)).mono ?_); rintro e w7 ⟨rfl, R6⟩)))
  go_ret
  exact ⟨rfl, R6.choose_spec.choose_spec.2⟩
end Go.Proofs.Ytmoolhneofbfdaa.rgc
