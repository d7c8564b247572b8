/- The contracts of fsm's Step, Has, Timed; what the law's own 'said' makes; that the package lives. -/
import Derived.Test.YtlfcjfmfkmcmiaaFsmRow
import Derived.Test.YtlfcjfmfkmcmiaaNums
import Derived.Test.YtlfcjfmfkmcmiaaRegion
import Derived.BigQuiet
import Derived.Laws.BitsAll
namespace Go.Proofs.Ytlfcjfmfkmcmiaa.fc
open Go.RowKit
open Go.Proofs.Ytlfcjfmfkmcmiaa.kit Go.Proofs.Ytlfcjfmfkmcmiaa.fm
set_option linter.unusedVariables false
set_option maxRecDepth 20000
/-- what each state becomes by an event -/
def rowM (x : Int) : List (Int × Int) := if 0 ≤ x ∧ x ≤ 15 then tab.getD x.toNat [] else stay 10
theorem row_any (x : Int) (w : World) : Calls Try.prog 41 #[.int .i64 x] w fun e w' => e = .returned (.agg (flat (rowM x)).toArray) ∧ Below w.heap.size w w' := by
  by_cases h : 0 ≤ x ∧ x ≤ 15
  · have hc : x = 0 ∨ x = 1 ∨ x = 2 ∨ x = 3 ∨ x = 4 ∨ x = 5 ∨ x = 6 ∨ x = 7 ∨ x = 8 ∨ x = 9 ∨ x = 10 ∨ x = 11 ∨ x = 12 ∨ x = 13 ∨ x = 14 ∨ x = 15 := by omega
    rcases hc with rfl | rfl | rfl | rfl | rfl | rfl | rfl | rfl | rfl | rfl | rfl | rfl | rfl | rfl | rfl | rfl
    · exact row_own 0 0 _ own_0 (by decide) (by decide) w
    · exact row_own 1 2 _ own_1 (by decide) (by decide) w
    · exact row_own 2 0 _ own_2 (by decide) (by decide) w
    · exact row_own 3 0 _ own_3 (by decide) (by decide) w
    · exact row_own 4 4 _ own_4 (by decide) (by decide) w
    · exact row_own 5 4 _ own_5 (by decide) (by decide) w
    · exact row_heard 6 _ (own_no _ (by omega)) heard_6 (by decide) (by decide) w
    · exact row_heard 7 _ (own_no _ (by omega)) heard_7 (by decide) (by decide) w
    · exact row_heard 8 _ (own_no _ (by omega)) heard_8 (by decide) (by decide) w
    · exact row_heard 9 _ (own_no _ (by omega)) heard_9 (by decide) (by decide) w
    · exact row_heard 10 _ (own_no _ (by omega)) heard_10 (by decide) (by decide) w
    · exact row_heard 11 _ (own_no _ (by omega)) heard_11 (by decide) (by decide) w
    · exact row_heard 12 _ (own_no _ (by omega)) heard_12 (by decide) (by decide) w
    · exact row_heard 13 _ (own_no _ (by omega)) heard_13 (by decide) (by decide) w
    · exact row_heard 14 _ (own_no _ (by omega)) heard_14 (by decide) (by decide) w
    · exact row_heard 15 _ (own_no _ (by omega)) heard_15 (by decide) (by decide) w
  · have e : rowM x = stay 10 := by unfold rowM; rw [if_neg h]
    rw [e]
    exact row_none x (own_no x (by omega)) (heard_no x (by omega)) w
theorem row_len (x : Int) : (rowM x).length = 10 := by
  unfold rowM
  split
  · next h =>
    have : (List.range 16).all (fun e => (tab.getD e []).length == 10) = true := by decide
    have := List.all_eq_true.1 this x.toNat (List.mem_range.2 (by omega))
    simpa using this
  · rfl
theorem row_at (s x : Int) (h : 0 ≤ s ∧ s ≤ 9) : (rowM x).getD s.toNat (s, 0) = (toI s x, actI s x) := by
  unfold rowM toI actI
  by_cases hx : 0 ≤ x ∧ x ≤ 15
  · rw [if_pos hx, if_pos ⟨h.1, h.2, hx.1, hx.2⟩, if_pos ⟨h.1, h.2, hx.1, hx.2⟩]
  · rw [if_neg hx, if_neg (by omega), if_neg (by omega)]
    have : (List.range 10).all (fun s => decide ((stay 10).getD s ((s : Int), 0) = ((s : Int), 0))) = true := by decide
    have := List.all_eq_true.1 this s.toNat (List.mem_range.2 (by omega))
    rw [show ((s.toNat : Nat) : Int) = s by omega] at this
    simpa using this
theorem list10 (L : List (Int × Int)) (h : L.length = 10) : ∃ t0 a0 t1 a1 t2 a2 t3 a3 t4 a4 t5 a5 t6 a6 t7 a7 t8 a8 t9 a9 : Int, L = [(t0, a0), (t1, a1), (t2, a2), (t3, a3), (t4, a4), (t5, a5), (t6, a6), (t7, a7), (t8, a8), (t9, a9)] := by
  match L, h with
  | [(t0, a0), (t1, a1), (t2, a2), (t3, a3), (t4, a4), (t5, a5), (t6, a6), (t7, a7), (t8, a8), (t9, a9)], _ => exact ⟨t0, a0, t1, a1, t2, a2, t3, a3, t4, a4, t5, a5, t6, a6, t7, a7, t8, a8, t9, a9, rfl⟩
theorem idx10 (L : List (Int × Int)) (hL : L.length = 10) (s : Int) (h : 0 ≤ s ∧ s ≤ 9) (w : World) : (Instr.index 63 (.agg (flat L).toArray) (.int .i64 s)).run Try.prog w = .ok (.agg #[.int .i64 (L.getD s.toNat (s, 0)).1, .int .u16 (L.getD s.toNat (s, 0)).2]) w := by
  obtain ⟨t0, a0, t1, a1, t2, a2, t3, a3, t4, a4, t5, a5, t6, a6, t7, a7, t8, a8, t9, a9, rfl⟩ := list10 L hL
  have hc : s = 0 ∨ s = 1 ∨ s = 2 ∨ s = 3 ∨ s = 4 ∨ s = 5 ∨ s = 6 ∨ s = 7 ∨ s = 8 ∨ s = 9 := by omega
  rcases hc with rfl | rfl | rfl | rfl | rfl | rfl | rfl | rfl | rfl | rfl
  all_goals first | rfl | kernel_rfl
theorem step_out (s x : Int) (h : s < 0 ∨ 9 < s) (w : World) :
    Calls Try.prog 30 #[.int .i64 s, .int .i64 x] w fun e w' => e = .returned (.tuple #[.int .i64 (toI s x), .int .u16 (actI s x)]) ∧ Below w.heap.size w w' := by
  have e1 : toI s x = s := by unfold toI; rw [if_neg (by omega)]
  have e2 : actI s x = 0 := by unfold actI; rw [if_neg (by omega)]
  rw [e1, e2]
  clear e1 e2
  rcases h with h | h
  · go_enter Try.func30, Try.ntmps30
    go_wp2
    go_ret2
    exact ⟨rfl, Below.refl _ _⟩
  · have h2 : ¬ s < 0 := by omega
    go_enter Try.func30, Try.ntmps30
    go_wp2
    go_ret2
    exact ⟨rfl, Below.refl _ _⟩
theorem step_in (s x : Int) (h : 0 ≤ s ∧ s ≤ 9) (w : World) :
    Calls Try.prog 30 #[.int .i64 s, .int .i64 x] w fun e w' => e = .returned (.tuple #[.int .i64 (toI s x), .int .u16 (actI s x)]) ∧ Below w.heap.size w w' := by
  have HI := hid (fun w => by have := idx10 (rowM x) (row_len x) s h w; rw [row_at s x h] at this; exact this)
  have HR := hid (fun w => row_any x w)
  generalize (flat (rowM x)).toArray = V at HI HR
  generalize toI s x = t at HI ⊢
  generalize actI s x = c at HI ⊢
  have h1 : ¬ s < 0 := by omega
  have h2 : ¬ 9 < s := by omega
  clear h
  go_enter Try.func30, Try.ntmps30
  go_upto_region 3 with fail
  have hx := HI.out
  go_wp2_with (go_at_call 41; ((with_reducible refine (HR.out _).mono ?_); rintro e w1 ⟨rfl, b1⟩))
  go_quiet (fail)
  go_wp2_with fail
  go_ret2
  exact ⟨rfl, below_drewN (b1.alloc b1.size _) _⟩
theorem step_any (s x : Int) (w : World) :
    Calls Try.prog 30 #[.int .i64 s, .int .i64 x] w fun e w' => e = .returned (.tuple #[.int .i64 (toI s x), .int .u16 (actI s x)]) ∧ Below w.heap.size w w' := by
  by_cases h : 0 ≤ s ∧ s ≤ 9
  · exact step_in s x h w
  · exact step_out s x (by omega) w
end Go.Proofs.Ytlfcjfmfkmcmiaa.fc
