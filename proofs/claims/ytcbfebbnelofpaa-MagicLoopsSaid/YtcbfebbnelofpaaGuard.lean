/- How often the own number came back. -/
import Derived.Test.YtcbfebbnelofpaaTwo
import Derived.Deep.DeepCutAuto
namespace Go.Proofs.Ytcbfebbnelofpaa.mgc
open Go.RowKit
open Go.Proofs.Ytcbfebbnelofpaa.kit
set_option linter.unusedVariables false
theorem see_no (w : World) (g : Nat) (b own n : Int) (HB : Box w g [.int .i64 b]) (h : own ≠ n ∨ n = 0) :
    Calls Try.prog 15 #[.pointer (some ⟨g, 0, none⟩), .int .u32 own, .int .u32 n] w fun e w' => e = .returned (.bool false) ∧ Wrote w w' g [.int .i64 0] := by
  have c0 := HB.at_ 0 _ rfl
  have f0 := HB.fr 0
  have H := hid HB
  clear HB
  by_cases h1 : n = own
  · have h2 : n = 0 := by omega
    have b1 : (n != own) = false := by simpa using h1
    have b2 : (n == 0) = true := by simpa using h2
    clear h h1 h2
    go_enter Try.func15, Try.ntmps15
    go_wp2
    go_ret
    exact ⟨rfl, H.out.set 0 (.int .i64 0), gb_setCell (World.grownBy.refl w (some g)) (p := ⟨g, 0, none⟩) rfl _⟩
  · have b1 : (n != own) = true := by simpa using h1
    clear h h1
    go_enter Try.func15, Try.ntmps15
    go_wp2
    go_ret
    exact ⟨rfl, H.out.set 0 (.int .i64 0), gb_setCell (World.grownBy.refl w (some g)) (p := ⟨g, 0, none⟩) rfl _⟩
theorem see_yes (w : World) (g : Nat) (b n b' : Int) (HB : Box w g [.int .i64 b]) (h : n ≠ 0) (h0 : 0 ≤ b) (h4 : b ≤ 4) (hb : b < 4 ∧ b' = b + 1 ∨ b = 4 ∧ b' = 4) :
    Calls Try.prog 15 #[.pointer (some ⟨g, 0, none⟩), .int .u32 n, .int .u32 n] w fun e w' => e = .returned (.bool true) ∧ Wrote w w' g [.int .i64 b'] := by
  have c0 := HB.at_ 0 _ rfl
  have f0 := HB.fr 0
  have H := hid HB
  have b2 : (n == 0) = false := by simpa using h
  clear HB h
  by_cases h1 : b < 4
  · have hb2 := hid (show b' = b + 1 by omega)
    clear hb
    go_enter Try.func15, Try.ntmps15
    go_wp2
    all_goals go_ret
    all_goals first | omega | skip
    all_goals exact ⟨rfl, by rw [hb2.out]; exact H.out.set 0 (.int .i64 (b + 1)), gb_setCell (World.grownBy.refl w (some g)) (p := ⟨g, 0, none⟩) rfl _⟩
  · have hb2 := hid (show b' = 4 by omega)
    clear hb
    go_enter Try.func15, Try.ntmps15
    go_wp2
    all_goals go_ret
    all_goals first | omega | skip
    all_goals exact ⟨rfl, by rw [hb2.out]; exact H.out.set 0 (.int .i64 4), gb_setCell (World.grownBy.refl w (some g)) (p := ⟨g, 0, none⟩) rfl _⟩
theorem loop_any (w : World) (g : Nat) (b : Int) (r : Bool) (HB : Box w g [.int .i64 b]) (h : (b == 4) = r) :
    Calls Try.prog 16 #[.pointer (some ⟨g, 0, none⟩)] w fun e w' => e = .returned (.bool r) ∧ w = w' := by
  have c0 := HB.at_ 0 _ rfl
  clear HB
  go_enter Try.func16, Try.ntmps16
  go_wp2
  go_ret
  exact ⟨rfl, rfl⟩
end Go.Proofs.Ytcbfebbnelofpaa.mgc
