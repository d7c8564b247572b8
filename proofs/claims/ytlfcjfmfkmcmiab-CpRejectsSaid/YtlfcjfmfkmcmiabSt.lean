/- What a walk knows beside its slots: nothing that was there at first has turned, and slices of bytes that read as lists. -/
import Derived.Test.YtlfcjfmfkmcmiabBytes
namespace Go.Proofs.Ytlfcjfmfkmcmiab.kit
open Go.RowKit

abbrev Sl := Option Addr × Nat × Nat × List Int
theorem m0 {x : Sl} {L : List Sl} : x ∈ x :: L := .head _
theorem m1 {x y : Sl} {L : List Sl} : x ∈ y :: x :: L := .tail _ m0
theorem m2 {x y z : Sl} {L : List Sl} : x ∈ y :: z :: x :: L := .tail _ m1
theorem m3 {x y z u : Sl} {L : List Sl} : x ∈ y :: z :: u :: x :: L := .tail _ m2
theorem m4 {x y z u v : Sl} {L : List Sl} : x ∈ y :: z :: u :: v :: x :: L := .tail _ m3
structure St (w W : World) (L : List Sl) : Prop where
  below : Below w.heap.size w W
  all : ∀ x ∈ L, Nums .u8 W W.heap.size x.1 x.2.1 x.2.2.1 x.2.2.2
theorem St.next {w W W' : World} {L : List Sl} (h : St w W L) (hb : Below W.heap.size W W') : St w W' L :=
  ⟨h.below.trans (hb.mono h.below.size), fun x hx => ((h.all x hx).below hb).mono hb.size⟩
theorem St.push {w W : World} {L : List Sl} {a : Option Addr} {n c : Nat} {l : List Int} (h : St w W L) (hn : Nums .u8 W W.heap.size a n c l) : St w W ((a, n, c, l) :: L) :=
  ⟨h.below, fun x hx => by
    rcases List.mem_cons.1 hx with rfl | hx
    · exact hn
    · exact h.all x hx⟩
theorem St.get {w W : World} {L : List Sl} {a : Option Addr} {n c : Nat} {l : List Int} (h : St w W L) (hm : (a, n, c, l) ∈ L) : Nums .u8 W W.heap.size a n c l := h.all _ hm
theorem St.start (w : World) : St w w [] := ⟨Below.refl _ _, fun x hx => by cases hx⟩
theorem St.size {w W : World} {L : List Sl} (h : St w W L) : w.heap.size ≤ W.heap.size := h.below.size
/-- a call that leaves a slice of its own -/
theorem St.own {w W W' : World} {L : List Sl} {a : Option Addr} {n c : Nat} {l : List Int} {e : TypeId} (h : St w W L) (ho : W'.ownsRow W.heap.size e 1 (.slice a n c) n (l.map (Value.int .u8))) (hb : Below W.heap.size W W') : St w W' ((a, n, c, l) :: L) :=
  (h.next hb).push (own_nums ho)
theorem St.tl {w W : World} {L : List Sl} {x : Sl} (h : St w W (x :: L)) : St w W L := ⟨h.below, fun y hy => h.all y (.tail _ hy)⟩
theorem St.nil {w W : World} {L : List Sl} (h : St w W L) : St w W ((none, 0, 0, []) :: L) := h.push (Nums.empty (Nat.zero_le _) (fun _ => rfl))
/-- a row of the call's own, and more behind it -/
theorem St.app {w W1 W2 W3 : World} {L : List Sl} {e : TypeId} {vo : Value} {n m : Nat} {xs : List Value} {a : Option Addr} {c : Nat} {l : List Int} (s : St w W1 L) (ho : W2.ownsRow W1.heap.size e 1 vo n xs) (hb : Below W1.heap.size W1 W2)
    (g : W3.ownsRow W1.heap.size e 1 (.slice a m c) m (l.map (Value.int .u8))) (hg : W2.grownBy W3 vo.ownBlock) : St w W3 ((a, m, c, l) :: L) :=
  (s.next (own_below ho hb hg hb.size)).push (own_nums g)
end Go.Proofs.Ytlfcjfmfkmcmiab.kit
