/- Rows of texts: what one is, what keeps it; one more behind a row of the call's own. -/
import Derived.Test.YtnokfpojgmndmaaNums
import Derived.Test.YtnokfpojgmndmaaRegion
namespace Go.Proofs.Ytnokfpojgmndmaa.kit
open Go.RowKit
set_option linter.unusedVariables false

/-- A slice value of n texts, whose cells lie in a block below B, reads as L. -/
structure Strs (w : World) (B : Nat) (a : Option Addr) (n cap : Nat) (L : List ByteArray) : Prop where
  len : L.length = n
  le : n ≤ cap
  max : cap ≤ maxLen
  nil : a = none → cap = 0
  cells : 0 < n → ∃ b off, a = some ⟨b, off, none⟩ ∧ b < B ∧ b < w.heap.size ∧ ∀ j, j < n → w.cell? ⟨b, off + j, none⟩ = some (.string (L.getD j ByteArray.empty))
section
variable {w w' : World} {B n cap : Nat} {a : Option Addr} {L : List ByteArray}
theorem Strs.below (h : Strs w B a n cap L) (hb : Below B w w') : Strs w' B a n cap L :=
  ⟨h.len, h.le, h.max, h.nil, fun hp => by
    obtain ⟨b, off, ha, h1, h2, hc⟩ := h.cells hp
    exact ⟨b, off, ha, h1, Nat.lt_of_lt_of_le h2 hb.size, fun j hj => (hb.cell (by exact h1)).trans (hc j hj)⟩⟩
theorem Strs.mono {B' : Nat} (h : Strs w B a n cap L) (hB : B ≤ B') : Strs w B' a n cap L :=
  ⟨h.len, h.le, h.max, h.nil, fun hp => by
    obtain ⟨b, off, ha, h1, h2, hc⟩ := h.cells hp
    exact ⟨b, off, ha, by omega, h2, hc⟩⟩
theorem Strs.drew (h : Strs w B a n cap L) : Strs w.drew B a n cap L := h.below (Below.refl _ _).drew
theorem Strs.drewN (h : Strs w B a n cap L) (m : Nat) : Strs (w.drewN m) B a n cap L := h.below (below_drewN (Below.refl _ _) m)
theorem Strs.take {m : Nat} (h : Strs w B a n cap L) (hm : m ≤ n) : Strs w B a m cap (L.take m) :=
  ⟨by rw [List.length_take, h.len]; omega, by have := h.le; omega, h.max, h.nil, fun hp => by
    obtain ⟨b, off, ha, h1, h2, hc⟩ := h.cells (by omega)
    refine ⟨b, off, ha, h1, h2, fun j hj => (hc j (by omega)).trans ?_⟩
    rw [List.getD_eq_getElem?_getD, List.getD_eq_getElem?_getD, List.getElem?_take_of_lt hj]⟩
/-- The call's own row of texts reads as a list, too. -/
theorem own_strs {base : Nat} {e : TypeId} (h : w.ownsRow base e 1 (.slice a n cap) n (L.map Value.string)) : Strs w w.heap.size a n cap L := by
  obtain ⟨h1, h2⟩ := h
  have hl : L.length = n := by simpa using h1
  rcases h2 with ⟨hv, rfl⟩ | ⟨g, c, cur, hv, hbg, hg, hnc, hm, hcs, ht⟩
  · injection hv with h1 h2 h3; subst h1 h3
    exact ⟨hl, Nat.zero_le _, Nat.zero_le _, fun _ => rfl, fun h => by omega⟩
  · injection hv with h1 h2 h3; subst h1 h3
    refine ⟨hl, hnc, hm, (by intro h; cases h), fun hp => ⟨g, 0, rfl, ?_, ?_, fun j hj => ?_⟩⟩
    · exact (Array.getElem?_eq_some_iff.1 hg).1
    · exact (Array.getElem?_eq_some_iff.1 hg).1
    · have hown : w.ownsRow base e 1 (.slice (some ⟨g, 0, none⟩) n cap) n (L.map Value.string) := ⟨by simpa using hl, .inr ⟨g, cap, cur, rfl, hbg, hg, hnc, hm, hcs, ht⟩⟩
      have := hown.cells (g := g) rfl j (.string (L.getD j ByteArray.empty)) (by rw [List.getElem?_map, List.getD_eq_getElem?_getD, List.getElem?_eq_getElem (by omega)]; rfl)
      rw [Addr.add_lit] at this; exact this
end
theorem Try.info_str : (Try.prog.info? 9).map (fun i => (i.zero, i.size, i.bytes)) = some (some (.string ByteArray.empty), 1, 16) := by kernel_rfl
/-- 'append(own, one)' -/
theorem wpList_append_str {w : World} {ops : Array Oper} {rest : List Oper} {o : Oper} {a : Act} {Q : Exit → Act → World → Prop} (hgd : o.guard = none) (s x : Operand)
    (ho : o.op = .call { callee := .builtin .append, args := #[s, x], argTypes := #[23, 23] })
    (base : Nat) (v : Value) (n : Nat) (L : List ByteArray) (hs : a.eval s = v) (hown : w.ownsRow base 9 1 v n (L.map Value.string))
    (ad : Addr) (c : Nat) (y : ByteArray) (hx : a.eval x = .slice (some ad) 1 c) (hc : w.cell? (ad.add 0) = some (.string y)) (hn : n ≤ 1000000) (hbase : base ≤ w.heap.size)
    (h : ∀ v' w', w'.ownsRow base 9 1 v' (n + 1) ((L ++ [y]).map Value.string) → w.grownBy w' v.ownBlock → wpList Try.prog ops Q rest (a.put o.dst v') w') : wpList Try.prog ops Q (o :: rest) a w := by
  obtain ⟨i0, hi, hi0, hi1, hi2⟩ := info_parts Try.info_str
  refine wpList_append_own (P := Try.prog) w hgd s x 23 ho base 9 i0 (.string ByteArray.empty) 1 16 Try.underlying23 hi hi0 hi1 hi2 (by simp [Value.cells]) (by decide) v n _ hs hown ad 1 c [.string y] hx rfl ?_ ?_ (by unfold maxLen; omega) (by omega) hbase ?_
  · intro j u hu
    match j, hu with
    | 0, hu => simp at hu; rw [hc, hu]
    | j + 1, hu => simp at hu
  · intro u hu
    simp only [List.mem_cons, List.not_mem_nil, or_false] at hu
    subst hu; rfl
  · intro v' w' h1 h2 _
    exact h v' w' (by simpa using h1) h2
theorem step_append_str {w : World} {ops : Array Oper} {o : Oper} {a : Act} {K : Act → World → Prop} {Q : Exit → Act → World → Prop} {E : Prop} (hgd : o.guard = none) (s x : Operand)
    (ho : o.op = .call { callee := .builtin .append, args := #[s, x], argTypes := #[23, 23] })
    (base : Nat) (v : Value) (n : Nat) (L : List ByteArray) (hs : a.eval s = v) (hown : w.ownsRow base 9 1 v n (L.map Value.string))
    (ad : Addr) (c : Nat) (y : ByteArray) (hx : a.eval x = .slice (some ad) 1 c) (hc : w.cell? (ad.add 0) = some (.string y)) (hn : n ≤ 1000000) (hbase : base ≤ w.heap.size)
    (h : ∀ v' w', w'.ownsRow base 9 1 v' (n + 1) ((L ++ [y]).map Value.string) → w.grownBy w' v.ownBlock → K (a.put o.dst v') w') : if Region.wanted o (yielded ops a.tmps) = true then Oper.wp Try.prog o a w K Q else E :=
  step_of_list hgd fun Q' hQ => wpList_append_str hgd s x ho base v n L hs hown ad c y hx hc hn hbase fun v' w' h1 h2 => by
    simp only [wpList, hQ]; exact h v' w' h1 h2
end Go.Proofs.Ytnokfpojgmndmaa.kit
