/- A block that bears known values. -/
import Derived.Test.YtjcmceomhocmpaaDoorKit
namespace Go.Proofs.YtjcmceomhocmpaaDoor.kit
open Go.RowKit
set_option linter.unusedVariables false

/-- block g bears these values -/
structure Box (w : World) (g : Nat) (vs : List Value) : Prop where
  at_ : ∀ j v, vs[j]? = some v → w.cell? ⟨g, j, none⟩ = some v
  fr : ∀ j, w.frozen? ⟨g, j, none⟩ = false
  lt : g < w.heap.size
section
variable {w w' : World} {g : Nat} {vs : List Value}
theorem Box.below {B : Nat} (h : Box w g vs) (hb : Below B w w') (hg : g < B) : Box w' g vs :=
  ⟨fun j v hv => (hb.cell (p := ⟨g, j, none⟩) hg).trans (h.at_ j v hv), fun j => (hb.frozen (p := ⟨g, j, none⟩) hg).trans (h.fr j), Nat.lt_of_lt_of_le h.lt hb.size⟩
theorem Box.next (h : Box w g vs) (hb : Below w.heap.size w w') : Box w' g vs := h.below hb h.lt
theorem Box.grown {o : Nat} (h : Box w g vs) (hb : w.grownBy w' (some o)) (hne : g ≠ o) : Box w' g vs :=
  ⟨fun j v hv => gb_cell hb (h.at_ j v hv) hne, fun j => (gb_frozen hb (p := ⟨g, j, none⟩) h.lt hne).trans (h.fr j), Nat.lt_of_lt_of_le h.lt hb.size⟩
theorem Box.set (h : Box w g vs) (i : Nat) (u : Value) : Box (w.setCell ⟨g, i, none⟩ u) g (vs.set i u) := by
  refine ⟨fun j v hv => ?_, fun j => frozen_set (h.fr j), by simpa [World.setCell] using h.lt⟩
  by_cases e : i = j
  · subst e
    rw [List.getElem?_set_self'] at hv
    cases hc : vs[i]? with
    | none => rw [hc] at hv; cases hv
    | some x => rw [hc] at hv; injection hv with hv; subst hv; exact cell_same (h.at_ i x hc)
  · rw [List.getElem?_set_ne e] at hv
    exact cell_other (h.at_ j v hv) e
theorem Box.made (w : World) (cs : Array Value) (e : TypeId) : Box (w.alloc (.cells cs e)) w.heap.size cs.toList := by
  refine ⟨fun j v hv => ?_, fun j => by simp [go_sem], by simp⟩
  have h1 : j < cs.size := by have := (List.getElem?_eq_some_iff.1 hv).1; simpa using this
  have h2 : cs[j] = v := by have := (List.getElem?_eq_some_iff.1 hv).2; simpa using this
  simp [go_sem, h1, h2]
/-- another block's cell is set -/
theorem Box.other (h : Box w g vs) {o i : Nat} (hne : g ≠ o) (u : Value) : Box (w.setCell ⟨o, i, none⟩ u) g vs :=
  h.grown (gb_setCell (World.grownBy.refl w (some o)) (p := ⟨o, i, none⟩) rfl u) hne
end
end Go.Proofs.YtjcmceomhocmpaaDoor.kit
