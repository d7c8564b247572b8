/- The contracts of package echo, and of the law's own automaton. -/
import Derived.Test.YtcbfebbnelofpaaTwo
import Derived.Test.YtcbfebbnelofpaaQuietC
import Derived.Deep.DeepCutAuto
import Derived.LoopTactic
namespace Go.Proofs.Ytcbfebbnelofpaa.ecc
open Go.RowKit
open Go.Proofs.Ytcbfebbnelofpaa.kit
set_option linter.unusedVariables false
/-- an Echo: does one ask, at which tick, the last identifier, how many weren't answered -/
def ev (on : Bool) (next : Int) (last : Nat) (miss : Int) : List Value := [.bool on, .int .i64 next, .int .u8 last, .int .i64 miss]
/-- the law's own: is it on, at which tick, how many, which identifier -/
def lv (on : Bool) (next : Int) (last : Nat) (miss : Int) : List Value := [.bool on, .int .i64 next, .int .i64 miss, .int .u8 last]
theorem start_any (w : World) (g : Nat) (on : Bool) (next : Int) (last : Nat) (miss now : Int) (h0 : 0 ≤ now) (h1 : now ≤ 2000000000000) (HB : Box w g (ev on next last miss)) :
    Calls Try.prog 18 #[.pointer (some ⟨g, 0, none⟩), .int .i64 now] w fun e w' => e = .returned (.tuple #[]) ∧ Wrote w w' g (ev true (now + 20) last 0) := by
  have f0 := HB.fr 0
  have f1 := HB.fr 1
  have f3 := HB.fr 3
  have c0 := HB.at_ 0 _ rfl
  have c1 := HB.at_ 1 _ rfl
  have c3 := HB.at_ 3 _ rfl
  have H := hid HB
  clear HB
  go_enter Try.func18, Try.ntmps18
  go_wp2
  go_end0
  exact ⟨rfl, ((H.out.set 0 (.bool true)).set 1 (.int .i64 (now + 20))).set 3 (.int .i64 0), gb_setCell (gb_setCell (gb_setCell (World.grownBy.refl w (some g)) (p := ⟨g, 0, none⟩) rfl _) (p := ⟨g, 1, none⟩) rfl _) (p := ⟨g, 3, none⟩) rfl _⟩
theorem stop_any (w : World) (g : Nat) (on : Bool) (next : Int) (last : Nat) (miss : Int) (HB : Box w g (ev on next last miss)) :
    Calls Try.prog 19 #[.pointer (some ⟨g, 0, none⟩)] w fun e w' => e = .returned (.tuple #[]) ∧ Wrote w w' g (ev false next last miss) := by
  have f0 := HB.fr 0
  have c0 := HB.at_ 0 _ rfl
  have H := hid HB
  clear HB
  go_enter Try.func19, Try.ntmps19
  go_wp2
  go_end0
  exact ⟨rfl, H.out.set 0 (.bool false), gb_setCell (World.grownBy.refl w (some g)) (p := ⟨g, 0, none⟩) rfl _⟩
theorem on_any (w : World) (g : Nat) (on : Bool) (next : Int) (last : Nat) (miss : Int) (HB : Box w g (ev on next last miss)) :
    Calls Try.prog 22 #[.pointer (some ⟨g, 0, none⟩)] w fun e w' => e = .returned (.bool on) ∧ w = w' := by
  have c0 := HB.at_ 0 _ rfl
  clear HB
  go_enter Try.func22, Try.ntmps22
  go_wp2
  go_ret
  exact ⟨rfl, rfl⟩
theorem missed_any (w : World) (g : Nat) (on : Bool) (next : Int) (last : Nat) (miss : Int) (HB : Box w g (ev on next last miss)) :
    Calls Try.prog 23 #[.pointer (some ⟨g, 0, none⟩)] w fun e w' => e = .returned (.int .i64 miss) ∧ w = w' := by
  have c0 := HB.at_ 3 _ rfl
  clear HB
  go_enter Try.func23, Try.ntmps23
  go_wp2
  go_ret
  exact ⟨rfl, rfl⟩
/-- one does not ask now -/
theorem tick_no (w : World) (g : Nat) (on : Bool) (next : Int) (last : Nat) (miss now : Int) (HB : Box w g (ev on next last miss)) (h : on = false ∨ now < next) :
    Calls Try.prog 20 #[.pointer (some ⟨g, 0, none⟩), .int .i64 now] w fun e w' => e = .returned (.tuple #[.int .u8 0, .bool false, .bool false]) ∧ w = w' := by
  have c0 := HB.at_ 0 _ rfl
  have c1 := HB.at_ 1 _ rfl
  clear HB
  by_cases ho : on = false
  · subst ho
    clear h
    go_enter Try.func20, Try.ntmps20
    go_wp2
    go_ret3
    exact ⟨rfl, rfl⟩
  · have ho : on = true := by simpa using ho
    subst ho
    have h : now < next := by simpa using h
    go_enter Try.func20, Try.ntmps20
    go_wp2
    go_ret3
    exact ⟨rfl, rfl⟩
/-- the other end is gone -/
theorem tick_gone (w : World) (g : Nat) (next : Int) (last : Nat) (miss now : Int) (HB : Box w g (ev true next last miss)) (h : next ≤ now) (hm : 3 ≤ miss) :
    Calls Try.prog 20 #[.pointer (some ⟨g, 0, none⟩), .int .i64 now] w fun e w' => e = .returned (.tuple #[.int .u8 0, .bool false, .bool true]) ∧ w = w' := by
  have c0 := HB.at_ 0 _ rfl
  have c1 := HB.at_ 1 _ rfl
  have c3 := HB.at_ 3 _ rfl
  clear HB
  go_enter Try.func20, Try.ntmps20
  go_wp2
  go_ret3
  exact ⟨rfl, rfl⟩
/-- one asks -/
theorem tick_ask (w : World) (g : Nat) (next : Int) (last : Nat) (miss now : Int) (HB : Box w g (ev true next last miss)) (h : next ≤ now) (hm0 : 0 ≤ miss) (hm : miss < 3) (h0 : 0 ≤ now) (h1 : now ≤ 2000000000000) (hl : last < 256) :
    Calls Try.prog 20 #[.pointer (some ⟨g, 0, none⟩), .int .i64 now] w fun e w' => e = .returned (.tuple #[.int .u8 ((last + 1) % 256 : Nat), .bool true, .bool false]) ∧ Wrote w w' g (ev true (now + 20) ((last + 1) % 256) (miss + 1)) := by
  have f1 := HB.fr 1
  have f2 := HB.fr 2
  have f3 := HB.fr 3
  have c0 := HB.at_ 0 _ rfl
  have c1 := HB.at_ 1 _ rfl
  have c2 := HB.at_ 2 _ rfl
  have c3 := HB.at_ 3 _ rfl
  have H := hid HB
  have hw : IntKind.u8.wrap ((last : Int) + 1) = (((last + 1) % 256 : Nat) : Int) := by rw [IntKind.wrap_u8]; omega
  generalize (last + 1) % 256 = l2 at *
  clear HB hl
  go_enter Try.func20, Try.ntmps20
  go_wp2
  go_ret3
  exact ⟨rfl, ((H.out.set 2 (.int .u8 l2)).set 3 (.int .i64 (miss + 1))).set 1 (.int .i64 (now + 20)), gb_setCell (gb_setCell (gb_setCell (World.grownBy.refl w (some g)) (p := ⟨g, 2, none⟩) rfl _) (p := ⟨g, 3, none⟩) rfl _) (p := ⟨g, 1, none⟩) rfl _⟩
theorem heard_no (w : World) (g : Nat) (on : Bool) (next : Int) (last : Nat) (miss : Int) (id : Nat) (HB : Box w g (ev on next last miss)) (h : on = false ∨ miss = 0 ∨ id ≠ last) :
    Calls Try.prog 17 #[.pointer (some ⟨g, 0, none⟩), .int .u8 id] w fun e w' => e = .returned (.bool false) ∧ w = w' := by
  have c0 := HB.at_ 0 _ rfl
  have c2 := HB.at_ 2 _ rfl
  have c3 := HB.at_ 3 _ rfl
  clear HB
  cases on with
  | false =>
    clear h
    go_enter Try.func17, Try.ntmps17
    go_wp2
    go_ret
    exact ⟨rfl, rfl⟩
  | true =>
    by_cases hm : miss = 0
    · subst hm
      clear h
      go_enter Try.func17, Try.ntmps17
      go_wp2
      go_ret
      exact ⟨rfl, rfl⟩
    · have hi : ((id : Int) != last) = true := by rcases h with h | h | h <;> first | (cases h; done) | (exact absurd h hm) | (simp; omega)
      have hm2 : ((miss : Int) == 0) = false := by simpa using hm
      clear h hm
      go_enter Try.func17, Try.ntmps17
      go_wp2
      go_ret
      exact ⟨rfl, rfl⟩
theorem heard_yes (w : World) (g : Nat) (next : Int) (last : Nat) (miss : Int) (HB : Box w g (ev true next last miss)) (h : 0 < miss) :
    Calls Try.prog 17 #[.pointer (some ⟨g, 0, none⟩), .int .u8 last] w fun e w' => e = .returned (.bool true) ∧ Wrote w w' g (ev true next last 0) := by
  have f3 := HB.fr 3
  have c0 := HB.at_ 0 _ rfl
  have c2 := HB.at_ 2 _ rfl
  have c3 := HB.at_ 3 _ rfl
  have hm2 : ((miss : Int) == 0) = false := by simp; omega
  have H := hid HB
  clear HB
  go_enter Try.func17, Try.ntmps17
  go_wp2
  go_ret
  exact ⟨rfl, H.out.set 3 (.int .i64 0), gb_setCell (World.grownBy.refl w (some g)) (p := ⟨g, 3, none⟩) rfl _⟩
/-! the law's own automaton -/
theorem ltick_no (w : World) (g : Nat) (on : Bool) (next : Int) (last : Nat) (miss now : Int) (HB : Box w g (lv on next last miss)) (h : on = false ∨ now < next) :
    Calls Try.prog 21 #[.pointer (some ⟨g, 0, none⟩), .int .i64 now] w fun e w' => e = .returned (.tuple #[.int .u8 0, .bool false, .bool false]) ∧ w = w' := by
  have c0 := HB.at_ 0 _ rfl
  have c1 := HB.at_ 1 _ rfl
  clear HB
  by_cases ho : on = false
  · subst ho
    clear h
    go_enter Try.func21, Try.ntmps21
    go_wp2
    go_ret3
    exact ⟨rfl, rfl⟩
  · have ho : on = true := by simpa using ho
    subst ho
    have h : now < next := by simpa using h
    go_enter Try.func21, Try.ntmps21
    go_wp2
    go_ret3
    exact ⟨rfl, rfl⟩
theorem ltick_gone (w : World) (g : Nat) (next : Int) (last : Nat) (now : Int) (HB : Box w g (lv true next last 3)) (h : next ≤ now) :
    Calls Try.prog 21 #[.pointer (some ⟨g, 0, none⟩), .int .i64 now] w fun e w' => e = .returned (.tuple #[.int .u8 0, .bool false, .bool true]) ∧ w = w' := by
  have c0 := HB.at_ 0 _ rfl
  have c1 := HB.at_ 1 _ rfl
  have c3 := HB.at_ 2 _ rfl
  clear HB
  go_enter Try.func21, Try.ntmps21
  go_wp2
  go_ret3
  exact ⟨rfl, rfl⟩
theorem ltick_ask (w : World) (g : Nat) (next : Int) (last : Nat) (miss now : Int) (HB : Box w g (lv true next last miss)) (h : next ≤ now) (hm0 : 0 ≤ miss) (hm : miss < 3) (h0 : 0 ≤ now) (h1 : now ≤ 2000000000000) (hl : last < 256) :
    Calls Try.prog 21 #[.pointer (some ⟨g, 0, none⟩), .int .i64 now] w fun e w' => e = .returned (.tuple #[.int .u8 ((last + 1) % 256 : Nat), .bool true, .bool false]) ∧ Wrote w w' g (lv true (now + 20) ((last + 1) % 256) (miss + 1)) := by
  have f1 := HB.fr 1
  have f2 := HB.fr 2
  have f3 := HB.fr 3
  have c0 := HB.at_ 0 _ rfl
  have c1 := HB.at_ 1 _ rfl
  have c2 := HB.at_ 2 _ rfl
  have c3 := HB.at_ 3 _ rfl
  have H := hid HB
  have hw : IntKind.u8.wrap ((last : Int) + 1) = (((last + 1) % 256 : Nat) : Int) := by rw [IntKind.wrap_u8]; omega
  have hm3 : ((miss : Int) == 3) = false := by simp; omega
  generalize (last + 1) % 256 = l2 at *
  clear HB hl
  go_enter Try.func21, Try.ntmps21
  go_wp2
  go_ret3
  exact ⟨rfl, ((H.out.set 1 (.int .i64 (now + 20))).set 2 (.int .i64 (miss + 1))).set 3 (.int .u8 l2), gb_setCell (gb_setCell (gb_setCell (World.grownBy.refl w (some g)) (p := ⟨g, 1, none⟩) rfl _) (p := ⟨g, 2, none⟩) rfl _) (p := ⟨g, 3, none⟩) rfl _⟩
end Go.Proofs.Ytcbfebbnelofpaa.ecc
