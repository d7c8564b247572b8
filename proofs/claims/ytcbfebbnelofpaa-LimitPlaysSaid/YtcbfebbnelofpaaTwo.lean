/- Two blocks of the call's own that bear known values. -/
import Derived.Test.YtcbfebbnelofpaaCells
namespace Go.Proofs.Ytcbfebbnelofpaa.kit
open Go.RowKit
set_option linter.unusedVariables false
/-- what a call that writes into block g leaves -/
structure Wrote (w w' : World) (g : Nat) (vs : List Value) : Prop where
  box : Box w' g vs
  only : w.grownBy w' (some g)
/-- block g made since w bears these values; all that was there is as it was -/
structure One (w wr : World) (g : Nat) (P : List Value) : Prop where
  b : Below w.heap.size w wr
  p : Box wr g P
  h : w.heap.size ≤ g
section
variable {w wr w' : World} {g : Nat} {P P' : List Value}
theorem One.next (h : One w wr g P) (hb : Below wr.heap.size wr w') : One w w' g P := ⟨h.b.trans (hb.mono h.b.size), h.p.next hb, h.h⟩
theorem One.wrote (h : One w wr g P) (k : Wrote wr w' g P') : One w w' g P' := ⟨gb_below h.b k.only h.b.size h.h, k.box, h.h⟩
theorem One.set (h : One w wr g P) (i : Nat) (u : Value) : One w (wr.setCell ⟨g, i, none⟩ u) g (P.set i u) := h.wrote ⟨h.p.set i u, gb_setCell (World.grownBy.refl wr (some g)) (p := ⟨g, i, none⟩) rfl u⟩
theorem One.drewN (h : One w wr g P) (n : Nat) : One w (wr.drewN n) g P := h.next (below_drewN (Below.refl _ _) n)
theorem One.made (w : World) (P : Array Value) (s : TypeId) : One w (w.alloc (.cells P s)) w.heap.size P.toList := ⟨(Below.refl _ _).alloc (Nat.le_refl _) _, Box.made w P s, Nat.le_refl _⟩
end
/-- blocks g1, g2 made since w bear these values; all that was there is as it was -/
structure Two (w wr : World) (g1 g2 : Nat) (P Q : List Value) : Prop where
  b : Below w.heap.size w wr
  p : Box wr g1 P
  q : Box wr g2 Q
  h1 : w.heap.size ≤ g1
  h2 : w.heap.size ≤ g2
  ne : g1 ≠ g2
section
variable {w wr w' : World} {g1 g2 : Nat} {P Q P' Q' : List Value}
theorem Two.next (h : Two w wr g1 g2 P Q) (hb : Below wr.heap.size wr w') : Two w w' g1 g2 P Q := ⟨h.b.trans (hb.mono h.b.size), h.p.next hb, h.q.next hb, h.h1, h.h2, h.ne⟩
theorem Two.wroteP (h : Two w wr g1 g2 P Q) (k : Wrote wr w' g1 P') : Two w w' g1 g2 P' Q := ⟨gb_below h.b k.only h.b.size h.h1, k.box, h.q.grown k.only h.ne.symm, h.h1, h.h2, h.ne⟩
theorem Two.wroteQ (h : Two w wr g1 g2 P Q) (k : Wrote wr w' g2 Q') : Two w w' g1 g2 P Q' := ⟨gb_below h.b k.only h.b.size h.h2, h.p.grown k.only h.ne, k.box, h.h1, h.h2, h.ne⟩
theorem Two.setP (h : Two w wr g1 g2 P Q) (i : Nat) (u : Value) : Two w (wr.setCell ⟨g1, i, none⟩ u) g1 g2 (P.set i u) Q := h.wroteP ⟨h.p.set i u, gb_setCell (World.grownBy.refl wr (some g1)) (p := ⟨g1, i, none⟩) rfl u⟩
theorem Two.setQ (h : Two w wr g1 g2 P Q) (i : Nat) (u : Value) : Two w (wr.setCell ⟨g2, i, none⟩ u) g1 g2 P (Q.set i u) := h.wroteQ ⟨h.q.set i u, gb_setCell (World.grownBy.refl wr (some g2)) (p := ⟨g2, i, none⟩) rfl u⟩
theorem Two.drewN (h : Two w wr g1 g2 P Q) (n : Nat) : Two w (wr.drewN n) g1 g2 P Q := h.next (below_drewN (Below.refl _ _) n)
theorem Two.made (w : World) (P Q : Array Value) (s t : TypeId) : Two w ((w.alloc (.cells P s)).alloc (.cells Q t)) w.heap.size (w.heap.size + 1) P.toList Q.toList := by
  have b1 := (Below.refl w.heap.size w).alloc (Nat.le_refl _) (.cells P s)
  refine ⟨b1.alloc b1.size _, (Box.made w P s).next ((Below.refl _ _).alloc (Nat.le_refl _) _), ?_, Nat.le_refl _, Nat.le_succ _, by omega⟩
  have := Box.made (w.alloc (.cells P s)) Q t
  simpa using this
/-- a block that is made ahead of a call that makes memory -/
theorem Two.early {w wr w3 : World} {g : Nat} {P : List Value} {Q : Array Value} {t : TypeId} (h : One w wr g P) (b : Below (wr.drew.alloc (.cells Q t)).heap.size (wr.drew.alloc (.cells Q t)) w3) : Two w w3 g wr.heap.size P Q.toList := by
  have h1 := h.next (Below.refl wr.heap.size wr).drew
  have h2 := h1.next ((Below.refl wr.drew.heap.size wr.drew).alloc (Nat.le_refl _) (.cells Q t))
  have h3 := h2.next b
  have q : Box (wr.drew.alloc (.cells Q t)) wr.heap.size Q.toList := Box.made wr.drew Q t
  exact ⟨h3.b, h3.p, q.next b, h3.h, h.b.size, Nat.ne_of_lt h.p.lt⟩
theorem Two.early2 {w wr w3 : World} {g : Nat} {P : List Value} {Q : Array Value} {t : TypeId} (h : One w wr g P) (b : Below (wr.alloc (.cells Q t)).drew.heap.size (wr.alloc (.cells Q t)).drew w3) : Two w w3 g wr.heap.size P Q.toList := by
  have h2 := h.next ((Below.refl wr.heap.size wr).alloc (Nat.le_refl _) (.cells Q t))
  have h3 := (h2.next (Below.refl _ _).drew).next b
  have q : Box (wr.alloc (.cells Q t)) wr.heap.size Q.toList := Box.made wr Q t
  exact ⟨h3.b, h3.p, (q.next (Below.refl _ _).drew).next b, h3.h, h.b.size, Nat.ne_of_lt h.p.lt⟩
/-- behind it -/
theorem Two.late {w wr w3 : World} {g : Nat} {P : List Value} {Q : Array Value} {t : TypeId} (h : One w wr g P) (b : Below wr.drew.heap.size wr.drew w3) : Two w (w3.alloc (.cells Q t)) g w3.heap.size P Q.toList := by
  have h1 := h.next (Below.refl wr.heap.size wr).drew
  have h2 := h1.next b
  have h3 := h2.next ((Below.refl w3.heap.size w3).alloc (Nat.le_refl _) (.cells Q t))
  exact ⟨h3.b, h3.p, Box.made w3 Q t, h3.h, h2.b.size, Nat.ne_of_lt h2.p.lt⟩
end
end Go.Proofs.Ytcbfebbnelofpaa.kit
