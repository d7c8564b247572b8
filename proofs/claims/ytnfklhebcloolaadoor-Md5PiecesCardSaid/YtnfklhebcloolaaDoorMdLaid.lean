/- What the rows of md5 lay: the sines, the rolls, the start. -/
import Derived.Test.YtnfklhebcloolaaDoorRows
import Derived.Test.YtnfklhebcloolaaDoorMdMath
import Derived.Test.YtnfklhebcloolaaDoorKit
import Derived.WalkKit
import Derived.ProofKit
import Derived.LaidMore
import Derived.LaidLaws
import Derived.Stop.Joined
import Derived.SevenTiedAt
import Derived.Lib.LaidTab
import Derived.OpenShut
namespace Go.Proofs.YtnfklhebcloolaaDoor.mdc
open Go.RowKit
open Go.Proofs.YtnfklhebcloolaaDoor.kit Go.Proofs.YtnfklhebcloolaaDoor.mdm
set_option linter.unusedVariables false
def nk (L : List Nat) : List Int := L.map fun (n : Nat) => (n : Int)
def S0 : List Nat := [1732584193, 4023233417, 2562383102, 271733878]
structure Tab (W : World) : Prop where
  k : ∀ j, j < 64 → W.cell? ⟨0, j, none⟩ = some (.int .u32 (K.getD j 0 : Nat))
  r : ∀ j, j < 16 → W.cell? ⟨1, j, none⟩ = some (.int .i64 (R.getD j 0 : Nat))
  s : ∀ j, j < 4 → W.cell? ⟨2, j, none⟩ = some (.int .u32 (S0.getD j 0 : Nat))
theorem g_k : Tryd.prog.globalNamed "catwalk/md5.sines" = some 0 := by kernel_rfl
theorem g_r : Tryd.prog.globalNamed "catwalk/md5.rolls" = some 1 := by kernel_rfl
theorem g_s : Tryd.prog.globalNamed "catwalk/md5.start" = some 2 := by kernel_rfl
theorem nk_at (L : List Nat) (j : Nat) : (nk L).getD j 0 = ((L.getD j 0 : Nat) : Int) := by
  simp only [nk, List.getD_eq_getElem?_getD, List.getElem?_map]
  cases L[j]? <;> rfl
section
variable {H : Type} {enc : TypeId × Value → H} {W : World} {base : Nat} {sp : Nat → Bool} {held : Bool} {g : Nat} {t : TypeId} {cs : Array Value} {f : Nat} {p : List MemPlace}
theorem laid_k (hg : Tryd.prog.globalNamed "catwalk/md5.sines" = some g) (ht : (Tryd.prog.globals[g]?).map (·.type) = some t) (hv : W.var? Tryd.prog "catwalk/md5.sines" = some cs)
    (hd : DataW.trod enc Tryd.prog W base sp held f t cs.toList = some (Rows.laid_catwalk_md5_sines, p)) : ∀ j, j < 64 → W.cell? ⟨0, j, none⟩ = some (.int .u32 (K.getD j 0 : Nat)) := by
  obtain rfl := Option.some.inj (g_k.symm.trans hg)
  have u2 : (Tryd.prog.globals[0]?).map (·.type) = some 85 := by kernel_rfl
  obtain rfl := Option.some.inj (u2.symm.trans ht)
  have hd' : DataW.trod enc Tryd.prog W base sp held f 85 cs.toList = some (Lib.tabData .u32 (nk K), p) := hd
  have hc := Lib.cells_of_tab Tryd.underlying85 Tryd.underlying31 (by kernel_rfl) (by kernel_rfl) hd'
  have hT : Lib.TabIs Tryd.prog W "catwalk/md5.sines" .u32 (nk K) := by unfold Lib.TabIs; rw [← hc]; exact hv
  intro j hj
  have := hT.cell g_k j (show j < 64 from hj)
  rw [nk_at] at this; exact this
theorem laid_s (hg : Tryd.prog.globalNamed "catwalk/md5.start" = some g) (ht : (Tryd.prog.globals[g]?).map (·.type) = some t) (hv : W.var? Tryd.prog "catwalk/md5.start" = some cs)
    (hd : DataW.trod enc Tryd.prog W base sp held f t cs.toList = some (Rows.laid_catwalk_md5_start, p)) : ∀ j, j < 4 → W.cell? ⟨2, j, none⟩ = some (.int .u32 (S0.getD j 0 : Nat)) := by
  obtain rfl := Option.some.inj (g_s.symm.trans hg)
  have u2 : (Tryd.prog.globals[2]?).map (·.type) = some 32 := by kernel_rfl
  obtain rfl := Option.some.inj (u2.symm.trans ht)
  have hd' : DataW.trod enc Tryd.prog W base sp held f 32 cs.toList = some (Lib.tabData .u32 (nk S0), p) := hd
  have hc := Lib.cells_of_tab Tryd.underlying32 Tryd.underlying31 (by kernel_rfl) (by kernel_rfl) hd'
  have hT : Lib.TabIs Tryd.prog W "catwalk/md5.start" .u32 (nk S0) := by unfold Lib.TabIs; rw [← hc]; exact hv
  intro j hj
  have := hT.cell g_s j (show j < 4 from hj)
  rw [nk_at] at this; exact this
theorem cut16 {α : Type} (L t0 t1 t2 t3 : List α) (h : L.length = 16) (h0 : (L.drop 0).take 4 = t0) (h1 : (L.drop 4).take 4 = t1) (h2 : (L.drop 8).take 4 = t2) (h3 : (L.drop 12).take 4 = t3) : L = t0 ++ (t1 ++ (t2 ++ t3)) := by
  subst h0 h1 h2 h3
  have e0 := (List.take_append_drop 4 (L.drop 0)).symm
  have e1 := (List.take_append_drop 4 (L.drop 4)).symm
  have e2 := (List.take_append_drop 4 (L.drop 8)).symm
  have e3 := (List.take_append_drop 4 (L.drop 12)).symm
  rw [List.drop_drop] at e0 e1 e2 e3
  have e4 : L.drop (12 + 4) = [] := List.drop_eq_nil_of_le (by omega)
  rw [e4, List.append_nil] at e3
  rw [← e3, ← e2, ← e1, ← e0]; rfl
theorem laid_r (hg : Tryd.prog.globalNamed "catwalk/md5.rolls" = some g) (ht : (Tryd.prog.globals[g]?).map (·.type) = some t) (hv : W.var? Tryd.prog "catwalk/md5.rolls" = some cs)
    (hd : DataW.trod enc Tryd.prog W base sp held f t cs.toList = some (Rows.laid_catwalk_md5_rolls, p)) : ∀ j, j < 16 → W.cell? ⟨1, j, none⟩ = some (.int .i64 (R.getD j 0 : Nat)) := by
  obtain rfl := Option.some.inj (g_r.symm.trans hg)
  have u2 : (Tryd.prog.globals[1]?).map (·.type) = some 90 := by kernel_rfl
  obtain rfl := Option.some.inj (u2.symm.trans ht)
  obtain ⟨xs, m, rfl, hx, hl, hn, hr⟩ := DataW.trod_array Tryd.underlying90 hd
  have c1 : Tryd.prog.cellsOf 90 = 16 := by kernel_rfl
  have c2 : Tryd.prog.cellsOf 89 = 4 := by kernel_rfl
  rw [c1] at hl
  rw [c2] at hr
  match xs, hn with
  | [(d0, p0), (d1, p1), (d2, p2), (d3, p3)], _ =>
    have hx1 := congrArg Prod.fst hx
    have hx2 : (DataW.agg [Lib.tabData .i64 (nk [7, 12, 17, 22]), Lib.tabData .i64 (nk [5, 9, 14, 20]), Lib.tabData .i64 (nk [4, 11, 16, 23]), Lib.tabData .i64 (nk [6, 10, 15, 21])] : DataW H) = .agg [d0, d1, d2, d3] := hx1
    injection hx2 with hx3
    injection hx3 with a0 hx3
    injection hx3 with a1 hx3
    injection hx3 with a2 hx3
    injection hx3 with a3 hx3
    subst a0 a1 a2 a3
    have r0 := Lib.cells_of_tab Tryd.underlying89 Tryd.underlying3 (by kernel_rfl) (by kernel_rfl) (hr 0 (by decide))
    have r1 := Lib.cells_of_tab Tryd.underlying89 Tryd.underlying3 (by kernel_rfl) (by kernel_rfl) (hr 1 (by decide))
    have r2 := Lib.cells_of_tab Tryd.underlying89 Tryd.underlying3 (by kernel_rfl) (by kernel_rfl) (hr 2 (by decide))
    have r3 := Lib.cells_of_tab Tryd.underlying89 Tryd.underlying3 (by kernel_rfl) (by kernel_rfl) (hr 3 (by decide))
    have hc := cut16 cs.toList _ _ _ _ hl r0 r1 r2 r3
    have hc : cs.toList = (nk R).map fun z => Value.int .i64 z := hc
    have hT : Lib.TabIs Tryd.prog W "catwalk/md5.rolls" .i64 (nk R) := by unfold Lib.TabIs; rw [← hc]; exact hv
    intro j hj
    have := hT.cell g_r j (show j < 16 from hj)
    rw [nk_at] at this; exact this
theorem Tab.lt {W : World} (h : Tab W) : 0 < W.heap.size ∧ 1 < W.heap.size ∧ 2 < W.heap.size :=
  ⟨World.block_lt_of_cell? W _ (h.k 0 (by omega)), World.block_lt_of_cell? W _ (h.r 0 (by omega)), World.block_lt_of_cell? W _ (h.s 0 (by omega))⟩
theorem Tab.below {W w w' : World} {B : Nat} (h : Tab w) (hb : Below B w w') (h1 : 0 < B) (h2 : 1 < B) (h3 : 2 < B) : Tab w' :=
  ⟨fun j hj => (hb.cell (p := ⟨_, j, none⟩) h1).trans (h.k j hj), fun j hj => (hb.cell (p := ⟨_, j, none⟩) h2).trans (h.r j hj), fun j hj => (hb.cell (p := ⟨_, j, none⟩) h3).trans (h.s j hj)⟩
theorem Tab.next {w w' : World} (h : Tab w) (hb : Below w.heap.size w w') : Tab w' := h.below hb h.lt.1 h.lt.2.1 h.lt.2.2 (W := w)
theorem laid_of {W : World} (h : laidMetH Tryd.prog Rows.md5OfRow.laid W) : Tab W := by
  rw [MakeChecks.laidMetH_plain _ _ _ (by kernel_rfl)] at h
  obtain ⟨ps, ⟨g0, t0, cs0, f0, p0, q0, hg0, ht0, hv0, hd0, l1, _⟩, _, _⟩ := h
  obtain ⟨g1, t1, cs1, f1, p1, q1, hg1, ht1, hv1, hd1, l2, _⟩ := l1
  obtain ⟨g2, t2, cs2, f2, p2, q2, hg2, ht2, hv2, hd2, l3, _⟩ := l2
  exact ⟨laid_k hg0 ht0 hv0 hd0, laid_r hg1 ht1 hv1 hd1, laid_s hg2 ht2 hv2 hd2⟩
theorem laid_pieces {W : World} (h : laidMetH Tryd.prog Rows.md5PiecesRow.laid W) : Tab W := by
  rw [MakeChecks.laidMetH_plain _ _ _ (by kernel_rfl)] at h
  obtain ⟨ps, ⟨g0, t0, cs0, f0, p0, q0, hg0, ht0, hv0, hd0, l1, _⟩, _, _⟩ := h
  obtain ⟨g1, t1, cs1, f1, p1, q1, hg1, ht1, hv1, hd1, l2, _⟩ := l1
  obtain ⟨g2, t2, cs2, f2, p2, q2, hg2, ht2, hv2, hd2, l3, _⟩ := l2
  exact ⟨laid_k hg0 ht0 hv0 hd0, laid_r hg1 ht1 hv1 hd1, laid_s hg2 ht2 hv2 hd2⟩
theorem laid_same {W : World} (h : laidMetH Tryd.prog Rows.md5SameRow.laid W) : Tab W := by
  rw [MakeChecks.laidMetH_plain _ _ _ (by kernel_rfl)] at h
  obtain ⟨ps, ⟨g0, t0, cs0, f0, p0, q0, hg0, ht0, hv0, hd0, l1, _⟩, _, _⟩ := h
  obtain ⟨g1, t1, cs1, f1, p1, q1, hg1, ht1, hv1, hd1, l2, _⟩ := l1
  obtain ⟨g2, t2, cs2, f2, p2, q2, hg2, ht2, hv2, hd2, l3, _⟩ := l2
  exact ⟨laid_k hg0 ht0 hv0 hd0, laid_r hg1 ht1 hv1 hd1, laid_s hg2 ht2 hv2 hd2⟩
end
end Go.Proofs.YtnfklhebcloolaaDoor.mdc
