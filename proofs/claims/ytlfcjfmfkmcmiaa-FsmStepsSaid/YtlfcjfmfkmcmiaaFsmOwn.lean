/- The contracts of fsm's rows: what each event's cells are, and how they are laid over the states that stay. -/
import Derived.Test.YtlfcjfmfkmcmiaaFsmMath
import Derived.Test.YtlfcjfmfkmcmiaaCells
import Derived.Laws.CopyOwn
import Derived.LoopTactic
import Derived.Deep.DeepCutAuto
namespace Go.Proofs.Ytlfcjfmfkmcmiaa.fc
open Go.RowKit
open Go.Proofs.Ytlfcjfmfkmcmiaa.kit Go.Proofs.Ytlfcjfmfkmcmiaa.fm
set_option linter.unusedVariables false
set_option maxRecDepth 20000
def flat (l : List (Int × Int)) : List Value := l.flatMap fun p => [.int .i64 p.1, .int .u16 p.2]
theorem flat_len (l : List (Int × Int)) : (flat l).length = 2 * l.length := by
  induction l with
  | nil => rfl
  | cons p l ih => simp only [flat, List.flatMap_cons, List.length_append, List.length_cons, List.length_nil] at *; omega
theorem flat_one (l : List (Int × Int)) : ∀ v ∈ flat l, v.oneCell' = true := by
  intro v hv
  obtain ⟨p, _, hp⟩ := List.mem_flatMap.1 hv
  simp only [List.mem_cons, List.not_mem_nil, or_false] at hp
  rcases hp with rfl | rfl <;> rfl
/-- what an event's cells are: the first state, and the cells from there on -/
def OwnAt (x : Int) (f : Nat) (l : List (Int × Int)) : Prop := ∀ w : World, Calls Try.prog 45 #[.int .i64 x] w fun e w' => e = .returned (.tuple #[.int .i64 (f : Nat), .slice (some ⟨w.heap.size, 0, none⟩) l.length l.length]) ∧ w' = w.alloc (.cells (flat l).toArray 62)
def OwnNo (x : Int) : Prop := ∀ w : World, Calls Try.prog 45 #[.int .i64 x] w fun e w' => e = .returned (.tuple #[.int .i64 0, .slice none 0 0]) ∧ w' = w
def HeardAt (x : Int) (l : List (Int × Int)) : Prop := ∀ w : World, Calls Try.prog 46 #[.int .i64 x] w fun e w' => e = .returned (.slice (some ⟨w.heap.size, 0, none⟩) l.length l.length) ∧ w' = w.alloc (.cells (flat l).toArray 62)
def HeardNo (x : Int) : Prop := ∀ w : World, Calls Try.prog 46 #[.int .i64 x] w fun e w' => e = .returned (.slice none 0 0) ∧ w' = w
theorem own_0 : OwnAt 0 0 [(2, 0), (6, 80)] := by
  intro w
  go_enter Try.func45, Try.ntmps45
  go_wp2
  go_ret2
  exact ⟨rfl, rfl⟩
theorem own_1 : OwnAt 1 2 [(0, 0), (1, 4), (0, 0), (1, 0), (1, 0), (1, 0), (1, 0), (1, 2)] := by
  intro w
  go_enter Try.func45, Try.ntmps45
  go_wp2
  go_ret2
  exact ⟨rfl, rfl⟩
theorem own_2 : OwnAt 2 0 [(1, 4), (1, 0), (6, 80), (3, 0), (5, 0), (5, 0), (6, 0), (7, 0), (8, 0), (9, 0)] := by
  intro w
  go_enter Try.func45, Try.ntmps45
  go_wp2
  go_ret2
  exact ⟨rfl, rfl⟩
theorem own_3 : OwnAt 3 0 [(0, 0), (0, 8), (2, 0), (2, 0), (4, 0), (4, 0), (4, 528), (4, 528), (4, 528), (4, 530)] := by
  intro w
  go_enter Try.func45, Try.ntmps45
  go_wp2
  go_ret2
  exact ⟨rfl, rfl⟩
theorem own_4 : OwnAt 4 4 [(4, 512), (5, 512), (6, 64), (6, 64), (8, 64)] := by
  intro w
  go_enter Try.func45, Try.ntmps45
  go_wp2
  go_ret2
  exact ⟨rfl, rfl⟩
theorem own_5 : OwnAt 5 4 [(2, 8), (3, 8), (3, 8), (3, 8), (3, 8)] := by
  intro w
  go_enter Try.func45, Try.ntmps45
  go_wp2
  go_ret2
  exact ⟨rfl, rfl⟩
theorem own_no (x : Int) (h : x < 0 ∨ 5 < x) : OwnNo x := by
  intro w
  have b0 : (x == 0) = false := by rw [beq_eq_false_iff_ne]; omega
  have b1 : (x == 1) = false := by rw [beq_eq_false_iff_ne]; omega
  have b2 : (x == 2) = false := by rw [beq_eq_false_iff_ne]; omega
  have b3 : (x == 3) = false := by rw [beq_eq_false_iff_ne]; omega
  have b4 : (x == 4) = false := by rw [beq_eq_false_iff_ne]; omega
  have b5 : (x == 5) = false := by rw [beq_eq_false_iff_ne]; omega
  clear h
  go_enter Try.func45, Try.ntmps45
  go_wp2
  go_ret2
  exact ⟨rfl, rfl⟩
theorem heard_6 : HeardAt 6 [(2, 1024), (8, 208), (4, 0), (5, 0), (8, 128), (9, 129), (8, 128), (8, 194)] := by
  intro w
  go_enter Try.func46, Try.ntmps46
  go_wp2
  go_ret
  exact ⟨rfl, rfl⟩
theorem heard_7 : HeardAt 7 [(2, 1024), (6, 336), (4, 0), (5, 0), (6, 256), (7, 256), (6, 256), (6, 322)] := by
  intro w
  go_enter Try.func46, Try.ntmps46
  go_wp2
  go_ret
  exact ⟨rfl, rfl⟩
theorem heard_8 : HeardAt 8 [(2, 1024), (3, 1024), (4, 0), (5, 0), (7, 16), (6, 64), (9, 17), (6, 66)] := by
  intro w
  go_enter Try.func46, Try.ntmps46
  go_wp2
  go_ret
  exact ⟨rfl, rfl⟩
theorem heard_9 : HeardAt 9 [(2, 1024), (3, 1024), (4, 0), (5, 0), (6, 80), (6, 64), (8, 80), (6, 66)] := by
  intro w
  go_enter Try.func46, Try.ntmps46
  go_wp2
  go_ret
  exact ⟨rfl, rfl⟩
theorem heard_10 : HeardAt 10 [(2, 1024), (3, 1024), (4, 1024), (5, 1024), (6, 1024), (6, 1024), (6, 1024), (5, 1058)] := by
  intro w
  go_enter Try.func46, Try.ntmps46
  go_wp2
  go_ret
  exact ⟨rfl, rfl⟩
theorem heard_11 : HeardAt 11 [(2, 0), (3, 0), (2, 8), (3, 8), (6, 0), (6, 0), (8, 0), (6, 66)] := by
  intro w
  go_enter Try.func46, Try.ntmps46
  go_wp2
  go_ret
  exact ⟨rfl, rfl⟩
theorem heard_12 : HeardAt 12 [(2, 2048), (3, 2048), (4, 2048), (5, 2048), (6, 2048), (7, 2048), (8, 2048), (9, 2048)] := by
  intro w
  go_enter Try.func46, Try.ntmps46
  go_wp2
  go_ret
  exact ⟨rfl, rfl⟩
theorem heard_13 : HeardAt 13 [(2, 0), (3, 0), (4, 0), (5, 0), (6, 0), (6, 0), (8, 0), (9, 0)] := by
  intro w
  go_enter Try.func46, Try.ntmps46
  go_wp2
  go_ret
  exact ⟨rfl, rfl⟩
theorem heard_14 : HeardAt 14 [(2, 8), (3, 8), (2, 8), (3, 8), (3, 8), (3, 8), (3, 8), (5, 530)] := by
  intro w
  go_enter Try.func46, Try.ntmps46
  go_wp2
  go_ret
  exact ⟨rfl, rfl⟩
theorem heard_15 : HeardAt 15 [(2, 0), (3, 0), (4, 0), (5, 0), (6, 0), (7, 0), (8, 0), (9, 4096)] := by
  intro w
  go_enter Try.func46, Try.ntmps46
  go_wp2
  go_ret
  exact ⟨rfl, rfl⟩
theorem heard_no (x : Int) (h : x < 0 ∨ 15 < x) : HeardNo x := by
  intro w
  have b6 : (x == 6) = false := by rw [beq_eq_false_iff_ne]; omega
  have b7 : (x == 7) = false := by rw [beq_eq_false_iff_ne]; omega
  have b8 : (x == 8) = false := by rw [beq_eq_false_iff_ne]; omega
  have b9 : (x == 9) = false := by rw [beq_eq_false_iff_ne]; omega
  have b10 : (x == 10) = false := by rw [beq_eq_false_iff_ne]; omega
  have b11 : (x == 11) = false := by rw [beq_eq_false_iff_ne]; omega
  have b12 : (x == 12) = false := by rw [beq_eq_false_iff_ne]; omega
  have b13 : (x == 13) = false := by rw [beq_eq_false_iff_ne]; omega
  have b14 : (x == 14) = false := by rw [beq_eq_false_iff_ne]; omega
  have b15 : (x == 15) = false := by rw [beq_eq_false_iff_ne]; omega
  clear h
  go_enter Try.func46, Try.ntmps46
  go_wp2
  go_ret
  exact ⟨rfl, rfl⟩
end Go.Proofs.Ytlfcjfmfkmcmiaa.fc
