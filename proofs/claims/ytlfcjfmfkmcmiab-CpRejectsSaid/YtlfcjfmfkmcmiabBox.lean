/- A block that bears known values; numbers put behind a state's rows; results that lie in a block. -/
import Derived.Test.YtlfcjfmfkmcmiabBe
import Derived.Test.YtlfcjfmfkmcmiabSt
namespace Go.Proofs.Ytlfcjfmfkmcmiab.kit
open Go.RowKit
open Go.Proofs.Ytlfcjfmfkmcmiab.bec
set_option linter.unusedVariables false

/-- block g bears these values -/
structure Box (w : World) (g : Nat) (vs : List Value) : Prop where
  at_ : ∀ j v, vs[j]? = some v → w.cell? ⟨g, j, none⟩ = some v
  fr : ∀ j, w.frozen? ⟨g, j, none⟩ = false
  lt : g < w.heap.size
section
variable {w w' : World} {g : Nat} {vs : List Value}
theorem Box.below {B : Nat} (h : Box w g vs) (hb : Below B w w') (hg : g < B) : Box w' g vs :=
  ⟨fun j v hv => (hb.cell (p := ⟨g, j, none⟩) hg).trans (h.at_ j v hv), fun j => (hb.frozen (p := ⟨g, j, none⟩) hg).trans (h.fr j), Nat.lt_of_lt_of_le h.lt hb.size⟩
theorem Box.next (h : Box w g vs) (hb : Below w.heap.size w w') : Box w' g vs := h.below hb h.lt
theorem Box.grown {o : Nat} (h : Box w g vs) (hb : w.grownBy w' (some o)) (hne : g ≠ o) : Box w' g vs :=
  ⟨fun j v hv => gb_cell hb (h.at_ j v hv) hne, fun j => (gb_frozen hb (p := ⟨g, j, none⟩) h.lt hne).trans (h.fr j), Nat.lt_of_lt_of_le h.lt hb.size⟩
theorem Box.set (h : Box w g vs) (i : Nat) (u : Value) : Box (w.setCell ⟨g, i, none⟩ u) g (vs.set i u) := by
  refine ⟨fun j v hv => ?_, fun j => frozen_set (h.fr j), by simpa [World.setCell] using h.lt⟩
  by_cases e : i = j
  · subst e
    rw [List.getElem?_set_self'] at hv
    cases hc : vs[i]? with
    | none => rw [hc] at hv; cases hv
    | some x => rw [hc] at hv; injection hv with hv; subst hv; exact cell_same (h.at_ i x hc)
  · rw [List.getElem?_set_ne e] at hv
    exact cell_other (h.at_ j v hv) e
theorem Box.made (w : World) (cs : Array Value) (e : TypeId) : Box (w.alloc (.cells cs e)) w.heap.size cs.toList := by
  refine ⟨fun j v hv => ?_, fun j => by simp [go_sem], by simp⟩
  have h1 : j < cs.size := by have := (List.getElem?_eq_some_iff.1 hv).1; simpa using this
  have h2 : cs[j] = v := by have := (List.getElem?_eq_some_iff.1 hv).2; simpa using this
  simp [go_sem, h1, h2]
end
theorem be1 (p : Int) (h : 0 ≤ p ∧ p ≤ 255) : beB 1 p = [p] := by
  simp only [beB, Int.reducePow]
  congr 1; omega
theorem be2 (p : Int) (h : 0 ≤ p ∧ p ≤ 65535) : beB 2 p = [p / 256, p % 256] := by
  simp only [beB, Int.reducePow]
  congr 1
  · omega
  · congr 1; omega
theorem be4 (p : Int) (h : 0 ≤ p ∧ p ≤ 4294967295) : beB 4 p = [p / 16777216, p / 65536 % 256, p / 256 % 256, p % 256] := by
  simp only [beB, Int.reducePow]
  congr 1
  · omega
  · congr 2; congr 1; congr 1; omega
/-- a result of the call's own bytes; of what there was only the result's block has turned since -/
theorem St.ret {w W wz wF : World} {L : List Sl} {base m c g : Nat} {a : Option Addr} {l : List Int} (h : St w W L) (hb : Below W.heap.size W wz) (ho : wz.ownsRow base 5 1 (.slice a m c) m (l.map (Value.int .u8))) (hB : g < base) (hg : W.heap.size ≤ g) (hF : wz.grownBy wF (some g)) :
    St w wF ((a, m, c, l) :: L) := by
  refine (h.next (gb_below hb hF hb.size hg)).push (own_nums (ho.kept hF ?_))
  cases hv : (Value.slice a m c).ownBlock with
  | none => exact .inl rfl
  | some j => exact .inr (by have := (ho.lt j hv).1; intro e; injection e with e; omega)
/-- a slice of no bytes for a result -/
theorem St.ret0 {w W wz wF : World} {L : List Sl} {g : Nat} (h : St w W L) (hb : Below W.heap.size W wz) (hg : W.heap.size ≤ g) (hF : wz.grownBy wF (some g)) : St w wF ((none, 0, 0, []) :: L) :=
  (h.next (gb_below hb hF hb.size hg)).nil
/-- a slice in another block than the one that turned -/
theorem nums_grown {k : IntKind} {w w' : World} {B n cap g : Nat} {a : Option Addr} {l : List Int} (h : Nums k w B a n cap l) (hb : w.grownBy w' (some g)) (hne : ∀ b o s, a = some ⟨b, o, s⟩ → b ≠ g) : Nums k w' B a n cap l :=
  ⟨h.len, h.le, h.max, h.nil, fun hp => by
    obtain ⟨b, off, ha, h1, h2, hc⟩ := h.cells hp
    exact ⟨b, off, ha, h1, Nat.lt_of_lt_of_le h2 hb.size, fun j hj => gb_cell hb (hc j hj) (hne b off none ha)⟩⟩
theorem own_from {w : World} {base e n cap : Nat} {a : Option Addr} {xs : List Value} (h : w.ownsRow base e 1 (.slice a n cap) n xs) : ∀ b o s, a = some ⟨b, o, s⟩ → base ≤ b := by
  rintro b o s rfl
  rcases h.2 with ⟨hv, _⟩ | ⟨g, c, _, hv, hg, _⟩
  · injection hv with h1; cases h1
  · injection hv with h1; injection h1 with h1; injection h1 with h1; omega
/-- a result in a block of the call's own -/
theorem St.retN {w W wz wF : World} {L : List Sl} {n c g : Nat} {a : Option Addr} {l : List Int} (h : St w W L) (hb : Below W.heap.size W wz) (hn : Nums .u8 wz wz.heap.size a n c l) (hne : ∀ b o s, a = some ⟨b, o, s⟩ → b ≠ g) (hg : W.heap.size ≤ g) (hF : wz.grownBy wF (some g)) : St w wF ((a, n, c, l) :: L) :=
  (h.next (gb_below hb hF hb.size hg)).push ((nums_grown hn hF hne).mono hF.size)
theorem st_base {w W : World} {L : List Sl} (h : St w W L) : St W W L := ⟨Below.refl _ _, h.all⟩
theorem st_on {w W W' : World} {L L' : List Sl} (h : St w W L) (k : St W W' L') : St w W' L' := ⟨h.below.trans (k.below.mono h.below.size), k.all⟩
theorem set3 (w : World) (g : Nat) (u v x : Value) : w.grownBy (((w.setCell ⟨g, 0, none⟩ u).setCell ⟨g, 1, none⟩ v).setCell ⟨g, 2, none⟩ x) (some g) :=
  gb_setCell (gb_setCell (gb_setCell (World.grownBy.refl w (some g)) (p := ⟨g, 0, none⟩) rfl u) (p := ⟨g, 1, none⟩) rfl v) (p := ⟨g, 2, none⟩) rfl x

theorem put16_st {w W : World} {L : List Sl} {a : Option Addr} {n c : Nat} {l : List Int} (h : St w W L) (hm : (a, n, c, l) ∈ L) (hn : n ≤ 100000) (p : Int) (hp : 0 ≤ p ∧ p ≤ 65535) :
    Calls Try.prog 59 #[.slice a n c, .int .u16 p] W fun e W' => ∃ a' c', e = .returned (.slice a' (n + 2) c') ∧ W'.ownsRow W.heap.size 5 1 (.slice a' (n + 2) c') (n + 2) ((l ++ [p / 256, p % 256]).map (Value.int .u8)) ∧ Below W.heap.size W W' ∧ St w W' ((a', n + 2, c', l ++ [p / 256, p % 256]) :: L) :=
  (put16_any W (h.get hm) (by omega) (Nat.le_refl _) p hp.1 hp.2).mono fun e W' ⟨a', c', he, ho, hb⟩ => by rw [be2 p hp] at ho; exact ⟨a', c', he, ho, hb, h.own ho hb⟩
theorem put32_st {w W : World} {L : List Sl} {a : Option Addr} {n c : Nat} {l : List Int} (h : St w W L) (hm : (a, n, c, l) ∈ L) (hn : n ≤ 100000) (p : Int) (hp : 0 ≤ p ∧ p ≤ 4294967295) :
    Calls Try.prog 87 #[.slice a n c, .int .u32 p] W fun e W' => ∃ a' c', e = .returned (.slice a' (n + 4) c') ∧ W'.ownsRow W.heap.size 5 1 (.slice a' (n + 4) c') (n + 4) ((l ++ [p / 16777216, p / 65536 % 256, p / 256 % 256, p % 256]).map (Value.int .u8)) ∧ Below W.heap.size W W' ∧ St w W' ((a', n + 4, c', l ++ [p / 16777216, p / 65536 % 256, p / 256 % 256, p % 256]) :: L) :=
  (put32_any W (h.get hm) (by omega) (Nat.le_refl _) p hp.1 hp.2).mono fun e W' ⟨a', c', he, ho, hb⟩ => by rw [be4 p hp] at ho; exact ⟨a', c', he, ho, hb, h.own ho hb⟩
end Go.Proofs.Ytlfcjfmfkmcmiab.kit
