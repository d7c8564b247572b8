/- Slices of bytes cut at a place: what the walk makes of 'x[:m]' and 'x[m:]'. -/
import Derived.Test.YtnfklhebcloolaaDoorBytes
namespace Go.Proofs.YtnfklhebcloolaaDoor.kit
open Go.RowKit
theorem Tryd.sl8 : Tryd.prog.underlying 22 = some (.slice (Tryd.prog.elem 22)) := by kernel_rfl
theorem slice_to (a : Option Addr) (n cap m : Nat) (h : m ≤ cap) : ∀ w, (Instr.slice 22 (.slice a n cap) none (some (.int .i64 (m : Int))) none).run Tryd.prog w = .ok (.slice a m cap) w := by
  intro w
  rw [run_slice_h (ht := Tryd.sl8) (h0 := by omega) (h2 := by omega)]
  simp [go_sem, Result.andThen, sliced]
theorem slice_from (a : Option Addr) (n cap m : Nat) (h : m ≤ n) : ∃ a', (∀ w, (Instr.slice 22 (.slice a n cap) (some (.int .i64 (m : Int))) none none).run Tryd.prog w = .ok (.slice a' (n - m) (cap - m)) w) ∧ (cap = m → a' = a) ∧ (¬ cap = m → a' = a.map (·.add m)) := by
  refine ⟨if cap = m then a else a.map (·.add m), fun w => ?_, fun h => by simp [h], fun h => by simp [h]⟩
  rw [run_slice_l (ht := Tryd.sl8) (h0 := by omega) (h1 := by omega)]
  simp [go_sem, Result.andThen, sliced]
end Go.Proofs.YtnfklhebcloolaaDoor.kit
