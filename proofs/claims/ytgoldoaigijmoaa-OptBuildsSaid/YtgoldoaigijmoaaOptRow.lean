/- A row of options of the call's own, the data in other blocks; one more behind it. -/
import Derived.Test.YtgoldoaigijmoaaOpts
import Derived.Test.YtgoldoaigijmoaaRegion
import Derived.Maps.AppendAt
import Derived.Deep.RegionLaw
namespace Go.Proofs.Ytgoldoaigijmoaa.opc
open Go.RowKit
open Go.Proofs.Ytgoldoaigijmoaa.kit Go.Proofs.Ytgoldoaigijmoaa.opm
set_option linter.unusedVariables false
set_option maxRecDepth 20000

theorem Try.info_opt : (Try.prog.info? 36).map (fun i => (i.zero, i.size, i.bytes)) = some (some (.agg #[.int .u8 0, .slice none 0 0]), 2, 32) := by kernel_rfl

/-- numbers in a block other than that one -/
structure NumsN (w : World) (g : Option Nat) (a : Option Addr) (n cap : Nat) (l : List Int) : Prop where
  len : l.length = n
  le : n ≤ cap
  max : cap ≤ maxLen
  nil : a = none → cap = 0
  cells : 0 < n → ∃ b off, a = some ⟨b, off, none⟩ ∧ some b ≠ g ∧ b < w.heap.size ∧ ∀ j, j < n → w.cell? ⟨b, off + j, none⟩ = some (.int .u8 (l.getD j 0))
theorem NumsN.grown {w w' : World} {g g' : Option Nat} {a : Option Addr} {n cap : Nat} {l : List Int} (h : NumsN w g a n cap l) (hg : w.grownBy w' g) (hg' : g' = g ∨ g' = some w.heap.size) : NumsN w' g' a n cap l :=
  ⟨h.len, h.le, h.max, h.nil, fun hp => by
    obtain ⟨b, off, ha, h1, h2, hc⟩ := h.cells hp
    refine ⟨b, off, ha, ?_, Nat.lt_of_lt_of_le h2 hg.size, fun j hj => hg.cell (a := ⟨b, off + j, none⟩) (hc j hj) h1⟩
    rcases hg' with rfl | rfl
    · exact h1
    · intro e; injection e with e; omega⟩
theorem NumsN.below {w w' : World} {g : Option Nat} {a : Option Addr} {n cap : Nat} {l : List Int} (h : NumsN w g a n cap l) (hb : Below w.heap.size w w') : NumsN w' g a n cap l :=
  ⟨h.len, h.le, h.max, h.nil, fun hp => by
    obtain ⟨b, off, ha, h1, h2, hc⟩ := h.cells hp
    exact ⟨b, off, ha, h1, Nat.lt_of_lt_of_le h2 hb.size, fun j hj => (hb.cell (p := ⟨b, off + j, none⟩) h2).trans (hc j hj)⟩⟩
theorem NumsN.nums {w : World} {g : Option Nat} {a : Option Addr} {n cap : Nat} {l : List Int} (h : NumsN w g a n cap l) : Nums .u8 w w.heap.size a n cap l :=
  ⟨h.len, h.le, h.max, h.nil, fun hp => by
    obtain ⟨b, off, ha, h1, h2, hc⟩ := h.cells hp
    exact ⟨b, off, ha, h2, h2, hc⟩⟩
/-- numbers of a row that is the call's own, and lies behind all that was -/
theorem NumsN.own {w : World} {base : Nat} {e : TypeId} {a : Option Addr} {n cap : Nat} {l : List Int} {g : Option Nat} (h : w.ownsRow base e 1 (.slice a n cap) n (l.map (Value.int .u8))) (hg : ∀ k, g = some k → k < base) : NumsN w g a n cap l := by
  have hn := own_nums h
  refine ⟨hn.len, hn.le, hn.max, hn.nil, fun hp => ?_⟩
  obtain ⟨b, off, ha, h1, h2, hc⟩ := hn.cells hp
  refine ⟨b, off, ha, ?_, h2, hc⟩
  intro e
  have h3 := hg b e.symm
  subst ha
  have := (h.lt b rfl).1
  omega

/-- A row of options of the call's own. -/
def OwnO (w : World) (base : Nat) (v : Value) (n : Nat) (L : List Opt) : Prop :=
  ∃ cs : List Value, w.ownsRow base 36 2 v n cs ∧ L.length = n ∧
    ∀ j, j < n → ∃ aj nj cj, cs[j * 2]? = some (.int .u8 (L.getD j (0, [])).1) ∧ cs[j * 2 + 1]? = some (.slice aj nj cj) ∧ NumsN w v.ownBlock aj nj cj (L.getD j (0, [])).2
theorem OwnO.nil (w : World) (base : Nat) : OwnO w base (.slice none 0 0) 0 [] := ⟨[], World.ownsRow_nil _ _ _ _, rfl, fun j hj => by omega⟩
theorem OwnO.below {w w' : World} {base : Nat} {v : Value} {n : Nat} {L : List Opt} (h : OwnO w base v n L) (hb : Below w.heap.size w w') : OwnO w' base v n L := by
  obtain ⟨cs, h1, h2, h3⟩ := h
  refine ⟨cs, h1.kept (gb_of_below hb none) (by cases v.ownBlock <;> simp), h2, fun j hj => ?_⟩
  obtain ⟨aj, nj, cj, e1, e2, e3⟩ := h3 j hj
  exact ⟨aj, nj, cj, e1, e2, e3.below hb⟩
theorem OwnO.opts {w : World} {base : Nat} {v : Value} {n : Nat} {L : List Opt} (h : OwnO w base v n L) : ∃ a cap, v = .slice a n cap ∧ Opts w w.heap.size a n cap L := by
  obtain ⟨cs, h1, h2, h3⟩ := h
  obtain ⟨a, cap, rfl⟩ := own_slice h1
  refine ⟨a, cap, rfl, ?_⟩
  have h1' := h1
  obtain ⟨hl, hv⟩ := h1
  rcases hv with ⟨hv, rfl⟩ | ⟨g, c, cur, hv, hbg, hg, hnc, hm, hcs, ht⟩
  · injection hv with e1 e2 e3; subst e1 e3
    exact ⟨h2, Nat.zero_le _, Nat.zero_le _, fun _ => rfl, fun j hj => by omega⟩
  · injection hv with e1 e2 e3; subst e1 e3
    have hgs : g < w.heap.size := (Array.getElem?_eq_some_iff.1 hg).1
    refine ⟨h2, hnc, hm, (by intro h; cases h), fun j hj => ?_⟩
    obtain ⟨aj, nj, cj, e1, e2, e3⟩ := h3 j hj
    refine ⟨g, 0, aj, nj, cj, rfl, hgs, hgs, ?_, ?_, e3.nums⟩
    · rw [Nat.zero_add, h1'.cellAt (j * 2) (by omega), e1]
    · rw [Nat.zero_add, h1'.cellAt (j * 2 + 1) (by omega), e2]

/-- 'append(own, one)' -/
theorem wpList_append_opt {P : Program} {w : World} {ops : Array Oper} {rest : List Oper} {o : Oper} {a : Act} {Q : Exit → Act → World → Prop} (hgd : o.guard = none) (s x : Operand) (t : TypeId)
    (ho : o.op = .call { callee := .builtin .append, args := #[s, x], argTypes := #[t, t] })
    (base : Nat) (i : TypeInfo) (ht : P.underlying t = some (.slice 36)) (hi : P.info? 36 = some i) (hz : i.zero = some (.agg #[.int .u8 0, .slice none 0 0])) (hsize : i.size = 2) (hby : i.bytes = 32)
    (v : Value) (n : Nat) (L : List Opt) (hs : a.eval s = v) (hown : OwnO w base v n L)
    (ad : Addr) (ty : Int) (aj : Option Addr) (nj cj : Nat) (d : List Int) (hx : a.eval x = .slice (some ad) 1 1) (hc0 : w.cell? (ad.add 0) = some (.int .u8 ty)) (hc1 : w.cell? (ad.add 1) = some (.slice aj nj cj)) (hd : NumsN w v.ownBlock aj nj cj d)
    (hn : n ≤ 100000) (hbase : base ≤ w.heap.size)
    (h : ∀ v' w', OwnO w' base v' (n + 1) (L ++ [(ty, d)]) → w.grownBy w' v.ownBlock → (v'.ownBlock = v.ownBlock ∨ v'.ownBlock = some w.heap.size) → wpList P ops Q rest (a.put o.dst v') w') : wpList P ops Q (o :: rest) a w := by
  obtain ⟨cs, h1, h2, h3⟩ := hown
  refine wpList_append_own_at (P := P) w hgd s x t ho base 36 i (.agg #[.int .u8 0, .slice none 0 0]) 2 32 ht hi hz hsize hby (by simp [Value.cells]) (by decide) v n cs hs h1 ad 1 1 [.int .u8 ty, .slice aj nj cj] hx rfl ?_ ?_ (by unfold maxLen; omega) (by omega) hbase ?_
  · intro j u hu
    match j, hu with
    | 0, hu => simp at hu; rw [hc0, hu]
    | 1, hu => simp at hu; rw [hc1, hu]
    | j + 2, hu => simp at hu
  · intro u hu
    simp only [List.mem_cons, List.not_mem_nil, or_false] at hu
    rcases hu with rfl | rfl <;> rfl
  · intro v' w' g1 g2 _ g4
    refine h v' w' ⟨_, g1, by rw [List.length_append, h2]; rfl, fun j hj => ?_⟩ g2 g4
    have hcl : cs.length = n * 2 := h1.1
    by_cases hjn : j < n
    · obtain ⟨aj', nj', cj', e1, e2, e3⟩ := h3 j hjn
      have hl : (L ++ [(ty, d)]).getD j (0, []) = L.getD j (0, []) := by rw [List.getD_eq_getElem?_getD, List.getElem?_append_left (by omega), ← List.getD_eq_getElem?_getD]
      rw [hl]
      exact ⟨aj', nj', cj', by rw [List.getElem?_append_left (by omega)]; exact e1, by rw [List.getElem?_append_left (by omega)]; exact e2, e3.grown g2 g4⟩
    · obtain rfl : j = n := by omega
      have hl : (L ++ [(ty, d)]).getD j (0, []) = (ty, d) := by rw [List.getD_eq_getElem?_getD, List.getElem?_append_right (by omega), h2, Nat.sub_self]; rfl
      rw [hl]
      refine ⟨aj, nj, cj, ?_, ?_, hd.grown g2 g4⟩
      · rw [List.getElem?_append_right (by omega), hcl, Nat.sub_self]; rfl
      · rw [List.getElem?_append_right (by omega), hcl, show j * 2 + 1 - j * 2 = 1 by omega]; rfl
theorem step_append_opt {P : Program} {w : World} {ops : Array Oper} {o : Oper} {a : Act} {K : Act → World → Prop} {Q : Exit → Act → World → Prop} {E : Prop} (hgd : o.guard = none) (s x : Operand) (t : TypeId)
    (ho : o.op = .call { callee := .builtin .append, args := #[s, x], argTypes := #[t, t] })
    (base : Nat) (i : TypeInfo) (ht : P.underlying t = some (.slice 36)) (hi : P.info? 36 = some i) (hz : i.zero = some (.agg #[.int .u8 0, .slice none 0 0])) (hsize : i.size = 2) (hby : i.bytes = 32)
    (v : Value) (n : Nat) (L : List Opt) (hs : a.eval s = v) (hown : OwnO w base v n L)
    (ad : Addr) (ty : Int) (aj : Option Addr) (nj cj : Nat) (d : List Int) (hx : a.eval x = .slice (some ad) 1 1) (hc0 : w.cell? (ad.add 0) = some (.int .u8 ty)) (hc1 : w.cell? (ad.add 1) = some (.slice aj nj cj)) (hd : NumsN w v.ownBlock aj nj cj d)
    (hn : n ≤ 100000) (hbase : base ≤ w.heap.size)
    (h : ∀ v' w', OwnO w' base v' (n + 1) (L ++ [(ty, d)]) → w.grownBy w' v.ownBlock → (v'.ownBlock = v.ownBlock ∨ v'.ownBlock = some w.heap.size) → K (a.put o.dst v') w') : if Region.wanted o (yielded ops a.tmps) = true then Oper.wp P o a w K Q else E :=
  step_of_list hgd fun Q' hQ => wpList_append_opt hgd s x t ho base i ht hi hz hsize hby v n L hs hown ad ty aj nj cj d hx hc0 hc1 hd hn hbase fun v' w' h1 h2 h3 => by
    simp only [wpList, hQ]; exact h v' w' h1 h2 h3
theorem step_call {P : Program} {ops : Array Oper} {o : Oper} {a : Act} {w : World} {K : Act → World → Prop} {Q : Exit → Act → World → Prop} {E : Prop} (hg : o.guard = none) {f : Nat} {args : Array Value}
    (hrun : (execOp a.eval o).run P w = .ok (.enter f args) w) (h : Calls P f args w fun e w' => ∃ v, e = .returned v ∧ K (a.put o.dst v) w') : if Region.wanted o (yielded ops a.tmps) = true then Oper.wp P o a w K Q else E := by
  have hw : Region.wanted o (yielded ops a.tmps) = true := by simp [Region.wanted, hg]
  rw [if_pos hw]
  unfold Oper.wp
  rw [hrun, Oper.upon_enter]
  refine h.mono ?_
  rintro e w' ⟨v, rfl, hk⟩
  exact hk
end Go.Proofs.Ytgoldoaigijmoaa.opc
