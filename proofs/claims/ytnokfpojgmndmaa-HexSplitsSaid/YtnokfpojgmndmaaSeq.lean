/- A loop over a function that goes through a copy of its own: what a round that collects keeps; an append that says where its row lies. -/
import Derived.RangeFuncBox
import Derived.RangeFuncNested
import Derived.RangeFuncLeaves
import Derived.Shelf.Abstract
import Derived.WalkKit
import Derived.OwnWalkIn
import Derived.TacticsInMore
import Derived.LoopNIn
import Derived.LoopIn
import Derived.Maps.AppendAt
import Derived.Test.YtnokfpojgmndmaaKit
namespace Go.Proofs.Ytnokfpojgmndmaa.kit
open Go.RowKit Go.Shelf
set_option linter.unusedVariables false

/-- What a round that collects into the box bx keeps: every block of cells but the box, and the row that the box holds. -/
def Kp (bx : Nat) (t : TypeId) (W W' : World) : Prop := ∀ v, Boxed W bx t v → W.heap.size ≤ W'.heap.size ∧ ∃ v', Boxed W' bx t v' ∧ (∀ i, i < W.heap.size → v'.ownBlock = some i → v.ownBlock = some i) ∧
  ∀ i o, W.heap[i]? = some o → o.isCells = true → i ≠ bx → v.ownBlock ≠ some i → W'.heap[i]? = some o
theorem kp_t {bx : Nat} {t : TypeId} {A B C : World} (h : Kp bx t A B) (k : Kp bx t B C) : Kp bx t A C := by
  intro v hv
  obtain ⟨h1, v', h2, h3, h4⟩ := h v hv
  obtain ⟨k1, v'', k2, k3, k4⟩ := k v' h2
  refine ⟨Nat.le_trans h1 k1, v'', k2, fun i hi e => h3 i hi (k3 i (by omega) e), fun i o ho hc hb hn => ?_⟩
  have hi := (Array.getElem?_eq_some_iff.1 ho).1
  exact k4 i o (h4 i o ho hc hb hn) hc hb (fun e => hn (h3 i hi e))
theorem kp_b {bx : Nat} {t : TypeId} {w : World} (W : World) (l : Nat) (o o' : Obj) (_ : w.heap.size ≤ l) (h : W.heap[l]? = some o) (hc : o.isCells = false) (_ : o.isWalk = false) : Kp bx t W (W.putObj l o') := by
  intro v hv
  have hg := grownBy_putObj' W l o'
  have hne : ∀ i u, W.heap[i]? = some u → u.isCells = true → i ≠ l := by
    rintro i u hu hcu rfl; rw [h] at hu; cases hu; rw [hc] at hcu; cases hcu
  have hbl : some bx ≠ some l := fun e => hne bx _ hv rfl (Option.some.inj e)
  refine ⟨hg.size, v, hv.kept hg hbl, fun i _ e => e, fun i u hu hcu _ _ => ?_⟩
  exact (hg.block i (Array.getElem?_eq_some_iff.1 hu).1 (fun e => hne i u hu hcu (Option.some.inj e))).trans hu
theorem kp_same {bx : Nat} {t : TypeId} {W W' : World} (hg : W.grownBy W' none) : Kp bx t W W' := by
  intro v hv
  exact ⟨hg.size, v, hv.kept hg (by simp), fun i _ e => e, fun i u hu _ _ _ => (hg.block i (Array.getElem?_eq_some_iff.1 hu).1 (by simp)).trans hu⟩

/-- 'append(own, xs...)': the longer row lies where it lay, or in a new block -/
theorem run_append_fresh {P : Program} (w : World) (base : Nat) (t ty e : TypeId) (i : TypeInfo) (z : Value) (size bytes : Nat) (h1 : P.underlying t = some (.slice e)) (h2 : P.info? e = some i) (h3 : i.zero = some z) (h4 : i.size = size) (h5 : i.bytes = bytes) (h6 : z.cells.size = size) (h7 : 0 < size)
    (v : Value) (k : Nat) (xs : List Value) (hown : w.ownsRow base e size v k xs) (ad : Addr) (m c : Nat) (news : List Value) (hn : news.length = m * size) (hm : 0 < m)
    (hc : ∀ j u, news[j]? = some u → w.cell? (ad.add j) = some u) (h1c : ∀ u ∈ news, u.oneCell' = true) (b1 : k + m ≤ maxLen) (b2 : (k + m) * bytes ≤ 140737488355328) (b3 : base ≤ w.heap.size) :
    ∃ v' w', (Builtin.append_ #[t, t] ty #[v, .slice (some ad) m c]).run P w = .ok v' w' ∧ w'.ownsRow base e size v' (k + m) (xs ++ news) ∧ w.grownBy w' v.ownBlock ∧ (v'.ownBlock = v.ownBlock ∨ ∃ g, w.heap.size ≤ g ∧ v'.ownBlock = some g) := by
  obtain ⟨v', w', hrun, r1, r2, _⟩ := run_append_own (P := P) w base t ty e i z size bytes h1 h2 h3 h4 h5 h6 h7 v k xs hown ad m c news hn hc h1c b1 b2 b3
  refine ⟨v', w', hrun, r1, r2, ?_⟩
  rcases hown.2 with ⟨rfl, rfl⟩ | ⟨g, cap, cur, rfl, hbg, hg, hnc, hmx, hcs, ht⟩
  · have hown2 : w.ownsRow w.heap.size e size (.slice none 0 0) 0 xs := ⟨hown.1, .inl ⟨rfl, rfl⟩⟩
    obtain ⟨v2, w2, hrun2, q1, _, _⟩ := run_append_own (P := P) w w.heap.size t ty e i z size bytes h1 h2 h3 h4 h5 h6 h7 _ 0 xs hown2 ad m c news hn hc h1c b1 b2 (Nat.le_refl _)
    rw [hrun] at hrun2
    injection hrun2 with e1 e2
    subst e1 e2
    rcases q1.2 with ⟨_, h0⟩ | ⟨g, c2, _, hv, hb, _⟩
    · omega
    · exact .inr ⟨g, hb, by rw [hv]; rfl⟩
  · by_cases hroom : k + m ≤ cap
    · left
      have hlen := hown.1
      have hsp : ∀ j, j < news.length → k * size + j < cur.size := fun j hj => by
        rw [hcs]
        have : (k + m) * size ≤ cap * size := Nat.mul_le_mul_right _ hroom
        rw [Nat.add_mul] at this
        omega
      have hr2 := run_append_room_cells (P := P) w t ty e i h1 h2 g 0 k cap ad m c news (by rw [h4]; exact hn) hc h1c hroom
        (fun j hj => by rw [h4, Nat.zero_add, cell_of_row w g _ cur e (0, 0) hg, Array.getElem?_eq_getElem (hsp j hj)]; rfl) (fun j hj => frozen_of_row w g _ cur e hg)
      rw [hrun] at hr2
      injection hr2 with e1 e2
      rw [e1]; rfl
    · right
      obtain ⟨v2, w2, hrun2, q1, _⟩ := run_append_arg_grows (P := P) w t ty e i z size bytes h1 h2 h3 h4 h5 h6 h7 ⟨g, 0, none⟩ k cap xs hown.1 (fun j u hj => by
        have hj2 : j < k * size := by rw [← hown.1]; exact (List.getElem?_eq_some_iff.1 hj).1
        rw [Addr.add_lit, Nat.zero_add, hown.cellAt j hj2]; exact hj) ad m c news hn hc (by omega) b1 b2
      rw [hrun] at hrun2
      injection hrun2 with e1 e2
      subst e1 e2
      rcases q1.2 with ⟨_, h0⟩ | ⟨g2, c2, _, hv, hb, _⟩
      · omega
      · exact ⟨g2, hb, by rw [hv]; rfl⟩
theorem wpListIn_append_fresh {F : Fence} {n : Nat} {P : Program} (w : World) {ops : Array Oper} {rest : List Oper} {o : Oper} {a : Act} {Q : Exit → Act → World → Prop}
    (hg : o.guard = none) (s x : Operand) (t : TypeId) (hop : o.op = Op.call { callee := Callee.builtin Builtin.append, args := #[s, x], argTypes := #[t, t] })
    (base : Nat) (e : TypeId) (i : TypeInfo) (z : Value) (size bytes : Nat) (h1 : P.underlying t = some (.slice e)) (h2 : P.info? e = some i) (h3 : i.zero = some z) (h4 : i.size = size) (h5 : i.bytes = bytes) (h6 : z.cells.size = size) (h7 : 0 < size)
    (v : Value) (k : Nat) (xs : List Value) (hs : a.eval s = v) (hown : w.ownsRow base e size v k xs) (ad : Addr) (m c : Nat) (news : List Value) (hx : a.eval x = .slice (some ad) m c) (hn : news.length = m * size) (hm : 0 < m)
    (hc : ∀ j u, news[j]? = some u → w.cell? (ad.add j) = some u) (h1c : ∀ u ∈ news, u.oneCell' = true) (b1 : k + m ≤ maxLen) (b2 : (k + m) * bytes ≤ 140737488355328) (b3 : base ≤ w.heap.size)
    (hK : ∀ v' w', w'.ownsRow base e size v' (k + m) (xs ++ news) → w.grownBy w' v.ownBlock → (v'.ownBlock = v.ownBlock ∨ ∃ g, w.heap.size ≤ g ∧ v'.ownBlock = some g) → wpListIn F n P ops Q rest (a.put o.dst v') w') :
    wpListIn F n P ops Q (o :: rest) a w := by
  refine wpListIn_plain hg fun K hK' => ?_
  obtain ⟨v', w', hrun, r1, r2, r3⟩ := run_append_fresh (P := P) w base t o.type e i z size bytes h1 h2 h3 h4 h5 h6 h7 v k xs hown ad m c news hn hm hc h1c b1 b2 b3
  unfold Oper.wpIn
  refine ⟨?_, ?_⟩
  · simp [Oper.about, hop, resolve, Target.leads, Sem.run_pure]
  · rw [Oper.semAt_plain F _ _ (by rw [hop]; intro c hc'; cases hc')]
    simp [execOp, hop, resolve, invoke, builtin, hs, hx, hrun, Result.andThen]
    exact hK' _ _ (hK v' w' r1 r2 r3)
/-- a round that appends, and stores the row into its box -/
theorem kp_append {bx : Nat} {t : TypeId} {W w1 : World} {o : Obj} {v v' : Value} (hv : Boxed W bx t v) (hb : v.ownBlock ≠ some bx) (hg : (W.alloc o).grownBy w1 v.ownBlock) (hw : v'.ownBlock = v.ownBlock ∨ ∃ g, (W.alloc o).heap.size ≤ g ∧ v'.ownBlock = some g) : Kp bx t W (w1.setCell ⟨bx, 0, none⟩ v') := by
  intro u hu
  obtain rfl : u = v := by have := hu.cell.symm.trans hv.cell; simpa using this
  have hv1 : Boxed w1 bx t u := (hv.alloc o).kept hg (fun e => hb e.symm)
  have hs := hg.size
  simp only [World.size_alloc] at hs hw
  refine ⟨by have := (grownBy_setCell' w1 bx v').size; omega, v', hv1.set v', fun i hi e => ?_, fun i ob ho hc hbx hn => ?_⟩
  · rcases hw with h | ⟨g, h1, h2⟩
    · rw [← h]; exact e
    · rw [h2] at e; have := Option.some.inj e; omega
  · have hi := (Array.getElem?_eq_some_iff.1 ho).1
    have h1 : (W.alloc o).heap[i]? = some ob := (Below.heap_alloc W o i hi).trans ho
    have h2 : w1.heap[i]? = some ob := (hg.block i (by simp; omega) (fun e => hn e.symm)).trans h1
    exact ((grownBy_setCell' w1 bx v').block i (Array.getElem?_eq_some_iff.1 h2).1 (fun e => hbx (Option.some.inj e))).trans h2
end Go.Proofs.Ytnokfpojgmndmaa.kit
