/- A region that draws its order, whose callees make memory: one walk in the order of the text, in every world in which nothing that was there has turned. -/
import Derived.Test.YtnokfpojgmndmaaKit
import Derived.BigQuiet
namespace Go.Proofs.Ytnokfpojgmndmaa.kit
open Go.RowKit
/-- a world in which nothing that was there has turned -/
structure After (WA : World) where
  w : World
  h : Below WA.heap.size WA w
instance (WA : World) : Nonempty (After WA) := ⟨⟨WA, Below.refl _ _⟩⟩
theorem After.cell {WA : World} {p : Addr} {v : Value} (h : WA.cell? p = some v) (n : After WA) : n.w.cell? p = some v := keep_cell n.h h
theorem wp_region_after {P : Program} (WA : World) {id : Nat} {Q : Exit → Act → World → Prop} {a : Act} {w : World} {l : List Oper} (hm : P.follows .mixedOrders = true) (hB : Region.lexB .any l.toArray = true) (hC : Below WA.heap.size WA w.drew)
    (h : wpQuiet P l.toArray (fun w' => ∃ n : After WA, w' = n.w) (fun a' => ∀ w', (∃ n : After WA, w' = n.w) → Q .normal a' w') l a) : (Code.region id l.toArray true).wp P Q a w :=
  wp_region_quiet (C := fun w' => ∃ n : After WA, w' = n.w) hm hB ⟨⟨w.drew, hC⟩, rfl⟩ (by simpa using h)
theorem after_call {P : Program} {f : FuncId} {args : Array Value} {v : Value} {WA : World} {n : After WA} (h : Calls P f args n.w fun e w' => e = .returned v ∧ Below n.w.heap.size n.w w') :
    Calls P f args n.w fun e w'' => e = .returned v ∧ ∃ m : After WA, w'' = m.w :=
  h.mono fun _ w' ⟨he, hb⟩ => ⟨he, ⟨w', n.h.trans (hb.mono n.h.size)⟩, rfl⟩
end Go.Proofs.Ytnokfpojgmndmaa.kit
