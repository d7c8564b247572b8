/- A value built of constants alone, however great: one step, by the kernel. -/
import Derived.Tactics
import Derived.WalkKit
import Derived.Deep.MidRow
namespace Go.Proofs.YtnfklhebcloolaaDoor.kit
open Go.RowKit
theorem wpList_const {P : Program} {w : World} {ops : Array Oper} {rest : List Oper} {o : Oper} {a : Act} {Q : Exit → Act → World → Prop} (v : Value) (hgd : o.guard = none) (h1 : (execOp a.eval o).run P w = .ok (.value v) w)
    (h : wpList P ops Q rest (a.put o.dst v) w) : wpList P ops Q (o :: rest) a w := by
  refine wpList_plain hgd fun K hK => ?_
  unfold Oper.wp
  rw [h1]
  exact hK _ _ h
/-- cells that are there, in a block that was just made -/
theorem there_made (w : World) (cs : Array Value) (t : TypeId) (n : Nat) (h : cs.size = n) : (w.alloc (.cells cs t)).there w.heap.size 0 n := by
  subst h
  intro j hj
  rw [Nat.zero_add]
  exact ⟨by simp [go_sem, hj], by simp [go_sem]⟩
theorem below_cells {B g : Nat} {w0 : World} (vs : List Value) : ∀ (o : Nat) (w : World), Below B w0 w → B ≤ g → Below B w0 (w.setCells g o vs) := by
  induction vs with
  | nil => intro o w h _; exact h
  | cons v vs ih => intro o w h hg; exact ih _ _ (h.setCell (p := ⟨g, o, none⟩) hg _) hg
/-- a great value stored: the world behind it is a variable; what the block bears is known -/
theorem wpList_store_new {P : Program} {ops : Array Oper} {rest : List Oper} {op : Oper} {a : Act} {w : World} {Q : Exit → Act → World → Prop} (hgd : op.guard = none) (ty : TypeId) (x y : Operand) (ho : op.op = .store ty x y)
    (b : Nat) (vs : List Value) (hx : a.eval x = .pointer (some ⟨b, 0, none⟩)) (hy : a.eval y = .agg vs.toArray)
    (ht : w.there b 0 vs.length) (hi : (P.info? ty).map (·.size) = some vs.length) (h1 : vs.all (·.oneCell') = true) (B : Nat) (w0 : World) (hb : Below B w0 w) (hB : B ≤ b)
    (h : ∀ w', Hid (w'.rangeAt b 0 vs) → Hid (Below B w0 w') → Hid (w'.there b 0 vs.length) → wpList P ops Q rest (a.put op.dst undef) w') : wpList P ops Q (op :: rest) a w := by
  refine wpList_store_mid hgd ty x y ho b 0 vs.toArray hx hy (by simpa using ht) (by simpa using hi) (by simpa using h1) ?_
  exact h _ (World.rangeAt_setCells_same w b 0 vs ht : _) (below_cells vs 0 w hb hB : _) (World.there_setCells ht b 0 vs : _)
theorem range_nat {w : World} {b : Nat} {k : IntKind} {L : List Nat} (h : w.rangeAt b 0 (L.map fun (n : Nat) => Value.int k (n : Int))) (i : Nat) (hi : i < L.length) : w.cell? ⟨b, i, none⟩ = some (.int k (L.getD i 0 : Nat)) := by
  have := h i (.int k (L.getD i 0 : Nat)) (by simp [hi])
  rwa [Nat.zero_add] at this
end Go.Proofs.YtnfklhebcloolaaDoor.kit
