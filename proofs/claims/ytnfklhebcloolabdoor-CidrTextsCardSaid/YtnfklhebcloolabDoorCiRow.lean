/- Rows of prefixes of the call's own. -/
import Derived.Test.YtnfklhebcloolabDoorCi2
import Derived.Test.YtnfklhebcloolabDoorCiCov
import Derived.Test.YtnfklhebcloolabDoorRegion
import Derived.Test.YtnfklhebcloolabDoorNums
import Derived.Maps.AppendAt
import Derived.Deep.RegionLaw
namespace Go.Proofs.YtnfklhebcloolabDoor.cic
open Go.RowKit
open Go.Proofs.YtnfklhebcloolabDoor.kit Go.Proofs.YtnfklhebcloolabDoor.cim
set_option linter.unusedVariables false
set_option linter.unusedSimpArgs false
set_option maxRecDepth 20000
theorem Tryd.info_pf : (Tryd.prog.info? 25).map (fun i => (i.zero, i.size, i.bytes)) = some (some (.agg #[.int .u32 0, .int .i64 0]), 2, 16) := by kernel_rfl
def pcell (x : Nat × Nat) : List Value := [.int .u32 (x.1 : Nat), .int .i64 (x.2 : Nat)]
def pcs (L : List (Nat × Nat)) : List Value := L.flatMap pcell
theorem pcs_len (L : List (Nat × Nat)) : (pcs L).length = L.length * 2 := by
  induction L with
  | nil => rfl
  | cons x L ih => unfold pcs at *; rw [List.flatMap_cons, List.length_append, ih]; simp [pcell]; omega
theorem pcs_snoc (L : List (Nat × Nat)) (x : Nat × Nat) : pcs (L ++ [x]) = pcs L ++ [.int .u32 (x.1 : Nat), .int .i64 (x.2 : Nat)] := by simp [pcs, pcell]
theorem pcs_at (L : List (Nat × Nat)) (j : Nat) (hj : j < L.length) : (pcs L)[j * 2]? = some (.int .u32 (L[j].1 : Nat)) ∧ (pcs L)[j * 2 + 1]? = some (.int .i64 (L[j].2 : Nat)) := by
  induction L generalizing j with
  | nil => simp at hj
  | cons x L ih =>
    have e : pcs (x :: L) = .int .u32 (x.1 : Nat) :: .int .i64 (x.2 : Nat) :: pcs L := by simp [pcs, pcell]
    rw [e]
    cases j with
    | zero => exact ⟨rfl, rfl⟩
    | succ j =>
      have := ih j (by simpa using hj)
      rw [show (j + 1) * 2 = j * 2 + 1 + 1 by omega]
      simpa using this
/-- a row of prefixes of the call's own -/
def OwnP (w : World) (base : Nat) (v : Value) (L : List (Nat × Nat)) : Prop := w.ownsRow base 25 2 v L.length (pcs L)
theorem OwnP.nil (w : World) (base : Nat) : OwnP w base (.slice none 0 0) [] := World.ownsRow_nil _ _ _ _
theorem OwnP.below {w w' : World} {base : Nat} {v : Value} {L : List (Nat × Nat)} (h : OwnP w base v L) (hb : Below w.heap.size w w') : OwnP w' base v L := by
  refine ⟨h.1, ?_⟩
  rcases h.2 with hn | ⟨g, cap, cur, rfl, hg, hgg, rest⟩
  · exact .inl hn
  · exact .inr ⟨g, cap, cur, rfl, hg, by rw [hb.block g (Array.getElem?_eq_some_iff.1 hgg).1]; exact hgg, rest⟩
theorem OwnP.slice {w : World} {base : Nat} {v : Value} {L : List (Nat × Nat)} (h : OwnP w base v L) : ∃ a c, v = .slice a L.length c := own_slice h
/-- prefixes that lie behind one another -/
structure Pfs (w : World) (a : Option Addr) (n : Nat) (L : List (Nat × Nat)) : Prop where
  len : L.length = n
  cells : 0 < n → ∃ b off, a = some ⟨b, off, none⟩ ∧ b < w.heap.size ∧ ∀ j (h : j < L.length), w.cell? ⟨b, off + j * 2, none⟩ = some (.int .u32 (L[j].1 : Nat)) ∧ w.cell? ⟨b, off + (j * 2 + 1), none⟩ = some (.int .i64 (L[j].2 : Nat))
theorem OwnP.pfs {w : World} {base c : Nat} {a : Option Addr} {L : List (Nat × Nat)} {n : Nat} (h : OwnP w base (.slice a n c) L) : Pfs w a n L ∧ L.length = n ∧ n ≤ c ∧ c ≤ maxLen := by
  unfold OwnP at h
  have h0 := h
  obtain ⟨hl, hv⟩ := h
  rcases hv with ⟨hv, hn⟩ | ⟨g, c', cur, hv, hbg, hg, hnc, hm, hcs, ht⟩
  · injection hv with e1 e2 e3
    subst e1 e2 e3
    exact ⟨⟨hn, fun h => absurd h (by omega)⟩, hn, by omega, by omega⟩
  · injection hv with e1 e2 e3
    subst e1 e2 e3
    refine ⟨⟨rfl, fun hp => ⟨g, 0, rfl, (Array.getElem?_eq_some_iff.1 hg).1, fun j hj => ?_⟩⟩, rfl, hnc, hm⟩
    obtain ⟨p1, p2⟩ := pcs_at L j hj
    rw [Nat.zero_add, Nat.zero_add, h0.cellAt (j * 2) (by omega), h0.cellAt (j * 2 + 1) (by omega)]
    exact ⟨p1, p2⟩
theorem Pfs.below {w w' : World} {a : Option Addr} {n : Nat} {L : List (Nat × Nat)} (h : Pfs w a n L) (hb : Below w.heap.size w w') : Pfs w' a n L :=
  ⟨h.len, fun hp => by
    obtain ⟨b, off, ha, hlt, hc⟩ := h.cells hp
    exact ⟨b, off, ha, Nat.lt_of_lt_of_le hlt hb.size, fun j hj => ⟨(hb.cell (p := ⟨b, off + j * 2, none⟩) hlt).trans (hc j hj).1, (hb.cell (p := ⟨b, off + (j * 2 + 1), none⟩) hlt).trans (hc j hj).2⟩⟩⟩
/-- 'append(own, one)' -/
theorem wpList_append_pf {P : Program} {w : World} {ops : Array Oper} {rest : List Oper} {o : Oper} {a : Act} {Q : Exit → Act → World → Prop} (hgd : o.guard = none) (s x : Operand) (t : TypeId)
    (ho : o.op = .call { callee := .builtin .append, args := #[s, x], argTypes := #[t, t] })
    (base : Nat) (i : TypeInfo) (ht : P.underlying t = some (.slice 25)) (hi : P.info? 25 = some i) (hz : i.zero = some (.agg #[.int .u32 0, .int .i64 0])) (hsize : i.size = 2) (hby : i.bytes = 16)
    (v : Value) (L : List (Nat × Nat)) (hs : a.eval s = v) (hown : OwnP w base v L)
    (ad : Addr) (p q : Nat) (hx : a.eval x = .slice (some ad) 1 1) (hc0 : w.cell? (ad.add 0) = some (.int .u32 (p : Nat))) (hc1 : w.cell? (ad.add 1) = some (.int .i64 (q : Nat)))
    (hn : L.length ≤ 4294967296) (hbase : base ≤ w.heap.size)
    (h : ∀ v' w', OwnP w' base v' (L ++ [(p, q)]) → w.grownBy w' v.ownBlock → wpList P ops Q rest (a.put o.dst v') w') : wpList P ops Q (o :: rest) a w := by
  refine wpList_append_own_at (P := P) w hgd s x t ho base 25 i (.agg #[.int .u32 0, .int .i64 0]) 2 16 ht hi hz hsize hby (by simp [Value.cells]) (by decide) v L.length (pcs L) hs hown ad 1 1 [.int .u32 (p : Nat), .int .i64 (q : Nat)] hx rfl ?_ ?_ (by unfold maxLen; omega) (by omega) hbase ?_
  · intro j u hu
    match j, hu with
    | 0, hu => simp at hu; rw [hc0, hu]
    | 1, hu => simp at hu; rw [hc1, hu]
    | j + 2, hu => simp at hu
  · intro u hu
    simp only [List.mem_cons, List.not_mem_nil, or_false] at hu
    rcases hu with rfl | rfl <;> rfl
  · intro v' w' g1 g2 _ g4
    refine h v' w' ?_ g2
    unfold OwnP
    rw [pcs_snoc, List.length_append]
    exact g1
theorem own_p_below {w0 w w' : World} {base : Nat} {v : Value} {L : List (Nat × Nat)} (h : OwnP w base v L) (hb : Below base w0 w) (hg : w.grownBy w' v.ownBlock) (hB : base ≤ w.heap.size) : Below base w0 w' :=
  hb.grown hg hB (fun k hk => (h.lt k hk).1)
end Go.Proofs.YtnfklhebcloolabDoor.cic
