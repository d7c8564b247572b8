/- How what came in is opened: slices, and the fields of structs in them. -/
import Derived.Test.YtnfklhebcloolabDoorNums
import Derived.ProofKit
import Derived.Deep.Slices
namespace Go.Proofs.YtnfklhebcloolabDoor.kit
open Go.RowKit Go.ChangeShapes Go.WideShapes Go.Deep
set_option linter.unusedVariables false

section
variable {H : Type} {enc : TypeId × Value → H} {P : Program} {w : World}

/-- A slice that came in: nil, or its elements' cells, and each element's reading. -/
theorem slice_cells {t e : TypeId} {a : Option Addr} {len cap C : Nat} {d : DataW H} {p : List MemPlace} (ht : P.underlying t = some (.slice e)) (hC : P.cellsOf e = C) (h0 : 0 < C)
    (h : DataW.Trod enc P w 0 (fun _ => true) true t (.slice a len cap) d p) :
    len ≤ cap ∧ cap ≤ maxLen ∧ (a = none → cap = 0) ∧ (0 < len → ∃ b off, a = some ⟨b, off, none⟩ ∧ b < w.heap.size ∧
      ∀ i, i < len → ∃ cs n y, cs.length = C ∧ (∀ j, j < C → w.cell? ⟨b, off + (i * C + j), none⟩ = cs[j]?) ∧ DataW.trod enc P w 0 (fun _ => true) true n e cs = some y) := by
  obtain ⟨fuel, hf⟩ := h
  rcases open_slice ht hf with ⟨hcs, _⟩ | ⟨x, l, c, m, n, D, Pl, hcs, _, hl, hm, hmm, _, hi⟩
  · simp [Value.cells] at hcs
    obtain ⟨rfl, rfl, rfl⟩ := hcs
    exact ⟨Nat.le_refl _, Nat.zero_le _, fun _ => rfl, fun h => by omega⟩
  · simp [Value.cells] at hcs
    obtain ⟨rfl, rfl, rfl⟩ := hcs
    rw [if_pos rfl] at hmm
    refine ⟨hl, hm, (fun h => by (cases h)), fun hp => ?_⟩
    rw [hC] at hi
    have key : ∀ i, i < len → ∃ cs n y, cs.length = C ∧ (∀ j, j < C → w.cell? (x.add (i * C + j)) = cs[j]?) ∧ DataW.trod enc P w 0 (fun _ => true) true n e cs = some y := by
      intro i hil
      obtain ⟨cs', h1, h2⟩ := hi i (by omega)
      obtain ⟨_, hcl, hat⟩ := World.cells?_some h1
      exact ⟨cs', n, _, hcl, fun j hj => by rw [← Go.Deep.add_add]; exact hat j hj, h2⟩
    obtain ⟨cs, _, _, hl0, hc0, _⟩ := key 0 hp
    have hx0 : w.cell? (x.add (0 * C + 0)) = some (cs[0]'(by omega)) := by rw [hc0 0 h0, List.getElem?_eq_getElem]
    obtain ⟨b, off, spot⟩ := x
    have hspot : spot = none := by simpa [Addr.add] using World.cell?_spot hx0
    subst hspot
    refine ⟨b, off, rfl, ?_, fun i hil => ?_⟩
    · have := World.block_lt_of_cell? w _ hx0; simpa [Addr.add] using this
    · obtain ⟨cs, n, y, h1, h2, h3⟩ := key i hil
      exact ⟨cs, n, y, h1, fun j hj => by rw [← Addr.add_lit]; exact h2 j hj, h3⟩

/-- a field that is a number -/
theorem field_int {e : TypeId} {fs : Array Field} {cs : List Value} {n : Nat} {y : DataW H × List MemPlace} (he : P.underlying e = some (.struct fs)) (h : DataW.trod enc P w 0 (fun _ => true) true n e cs = some y)
    (i : Nat) (f : Field) (hf : fs[i]? = some f) {k : IntKind} (hk : P.underlying f.type = some (.int k)) (h1 : P.cellsOf f.type = 1) : ∃ v, cs[f.offset]? = some (.int k v) ∧ (Lit.int k v).wf = true := by
  obtain ⟨xs, n', _, _, _, hlen, hfd⟩ := DataW.trod_struct he h
  have hi : i < fs.size := (Array.getElem?_eq_some_iff.1 hf).1
  have hx := hfd i f hf
  rw [h1, List.getElem?_eq_getElem (by omega)] at hx
  obtain ⟨v, hv, _, hw⟩ := DataW.trod_int hk hx
  refine ⟨v, ?_, hw⟩
  have := congrArg (fun l : List Value => l[0]?) hv
  simpa [List.getElem?_take, List.getElem?_drop] using this
/-- a field that is a bool -/
theorem field_bool {e : TypeId} {fs : Array Field} {cs : List Value} {n : Nat} {y : DataW H × List MemPlace} (he : P.underlying e = some (.struct fs)) (h : DataW.trod enc P w 0 (fun _ => true) true n e cs = some y)
    (i : Nat) (f : Field) (hf : fs[i]? = some f) (hk : P.underlying f.type = some .bool) (h1 : P.cellsOf f.type = 1) : ∃ v, cs[f.offset]? = some (.bool v) := by
  obtain ⟨xs, n', _, _, _, hlen, hfd⟩ := DataW.trod_struct he h
  have hi : i < fs.size := (Array.getElem?_eq_some_iff.1 hf).1
  have hx := hfd i f hf
  rw [h1, List.getElem?_eq_getElem (by omega)] at hx
  obtain ⟨v, hv, _⟩ := DataW.trod_bool hk hx
  refine ⟨v, ?_⟩
  have := congrArg (fun l : List Value => l[0]?) hv
  simpa [List.getElem?_take, List.getElem?_drop] using this

/-- numbers that came in -/
theorem open_nums {t e : TypeId} {k : IntKind} {a : Option Addr} {len cap : Nat} {d : DataW H} {p : List MemPlace} (ht : P.underlying t = some (.slice e)) (he : P.underlying e = some (.int k)) (hC : P.cellsOf e = 1)
    (h : DataW.Trod enc P w 0 (fun _ => true) true t (.slice a len cap) d p) : ∃ l, Nums k w w.heap.size a len cap l ∧ ∀ n ∈ l, (Lit.int k n).wf = true := by
  obtain ⟨h1, h2, h3, h4⟩ := slice_cells ht hC (by decide) h
  by_cases hp : 0 < len
  · obtain ⟨b, off, ha, hb, hc⟩ := h4 hp
    have key : ∀ i, i < len → ∃ v, w.cell? ⟨b, off + i, none⟩ = some (.int k v) ∧ (Lit.int k v).wf = true := by
      intro i hi
      obtain ⟨cs, n, y, hl, hcell, hy⟩ := hc i hi
      obtain ⟨v, hv, _, hw⟩ := DataW.trod_int he hy
      refine ⟨v, ?_, hw⟩
      have := hcell 0 (by decide)
      rw [hv] at this
      simpa using this
    refine ⟨(List.range len).map fun i => if h : i < len then (key i h).choose else 0, ⟨by simp, h1, h2, h3, fun _ => ⟨b, off, ha, hb, hb, fun j hj => ?_⟩⟩, ?_⟩
    · have := (key j hj).choose_spec.1
      rw [this, List.getD_eq_getElem?_getD]
      simp [hj]
    · intro n hn
      obtain ⟨i, hi, rfl⟩ := List.mem_map.1 hn
      have hi' : i < len := by simpa using hi
      simp only [dif_pos hi']
      exact (key i hi').choose_spec.2
  · obtain rfl : len = 0 := by omega
    exact ⟨[], ⟨rfl, h1, h2, h3, fun h => absurd h hp⟩, fun n hn => by cases hn⟩
/-- a field that is a slice of numbers -/
theorem field_nums {e u : TypeId} {k : IntKind} {fs : Array Field} {cs : List Value} {n : Nat} {y : DataW H × List MemPlace} (he : P.underlying e = some (.struct fs)) (h : DataW.trod enc P w 0 (fun _ => true) true n e cs = some y)
    (i : Nat) (f : Field) (hf : fs[i]? = some f) (hs : P.underlying f.type = some (.slice u)) (hu : P.underlying u = some (.int k)) (hC : P.cellsOf u = 1) (h1 : P.cellsOf f.type = 1) :
    ∃ a len cap l, cs[f.offset]? = some (.slice a len cap) ∧ Nums k w w.heap.size a len cap l ∧ ∀ n ∈ l, (Lit.int k n).wf = true := by
  obtain ⟨xs, n', _, _, _, hlen, hfd⟩ := DataW.trod_struct he h
  have hi : i < fs.size := (Array.getElem?_eq_some_iff.1 hf).1
  have hx := hfd i f hf
  rw [h1, List.getElem?_eq_getElem (by omega)] at hx
  have key : ∀ a len cap, (cs.drop f.offset).take 1 = [.slice a len cap] → ∃ a len cap l, cs[f.offset]? = some (.slice a len cap) ∧ Nums k w w.heap.size a len cap l ∧ ∀ n ∈ l, (Lit.int k n).wf = true := by
    intro a len cap hv
    have h2 : cs[f.offset]? = some (.slice a len cap) := by
      have := congrArg (fun l : List Value => l[0]?) hv
      simpa [List.getElem?_take, List.getElem?_drop] using this
    rw [hv] at hx
    obtain ⟨l, hl, hw⟩ := open_nums hs hu hC (⟨n', hx⟩ : DataW.Trod enc P w 0 (fun _ => true) true f.type (.slice a len cap) _ _)
    exact ⟨a, len, cap, l, h2, hl, hw⟩
  rcases open_slice hs hx with ⟨hv, _⟩ | ⟨a, len, cap, _, _, _, _, hv, _⟩
  · exact key _ _ _ hv
  · exact key _ _ _ hv
/-- a field that is a string -/
theorem field_string {e : TypeId} {fs : Array Field} {cs : List Value} {n : Nat} {y : DataW H × List MemPlace} (he : P.underlying e = some (.struct fs)) (h : DataW.trod enc P w 0 (fun _ => true) true n e cs = some y)
    (i : Nat) (f : Field) (hf : fs[i]? = some f) (hk : P.underlying f.type = some .string) (h1 : P.cellsOf f.type = 1) : ∃ v, cs[f.offset]? = some (.string v) ∧ v.size ≤ maxLen := by
  obtain ⟨xs, n', _, _, _, hlen, hfd⟩ := DataW.trod_struct he h
  have hi : i < fs.size := (Array.getElem?_eq_some_iff.1 hf).1
  have hx := hfd i f hf
  rw [h1, List.getElem?_eq_getElem (by omega)] at hx
  obtain ⟨v, hv, _, hw⟩ := DataW.trod_string hk hx
  refine ⟨v, ?_, hw⟩
  have := congrArg (fun l : List Value => l[0]?) hv
  simpa [List.getElem?_take, List.getElem?_drop] using this
/-- a struct that came in, of so many cells -/
theorem open_struct {t : TypeId} {fs : Array Field} {v : Value} {d : DataW H} {p : List MemPlace} {r : Reach} {b : Nat} (ht : P.underlying t = some (.struct fs)) (ho : Value.okWide P w r b t v) (h : DataW.Trod enc P w 0 (fun _ => true) true t v d p) :
    ∃ cs n y, v = .agg cs ∧ cs.size = P.cellsOf t ∧ DataW.trod enc P w 0 (fun _ => true) true n t cs.toList = some y := by
  obtain ⟨cs, rfl, hs⟩ := okWide_struct ht ho
  obtain ⟨n, hn⟩ := h
  exact ⟨cs, n, _, rfl, hs, by simpa [Value.cells] using hn⟩
end
theorem agg2 {cs : Array Value} {x y : Value} (hs : cs.size = 2) (h0 : cs.toList[0]? = some x) (h1 : cs.toList[1]? = some y) : cs = #[x, y] := by
  apply Array.ext'
  match h : cs.toList, (show cs.toList.length = 2 by simpa using hs) with
  | [u, v], _ => rw [h] at h0 h1; simp at h0 h1; simp [h0, h1]
theorem agg6 {cs : Array Value} {x0 x1 x2 x3 x4 x5 : Value} (hs : cs.size = 6) (h0 : cs.toList[0]? = some x0) (h1 : cs.toList[1]? = some x1) (h2 : cs.toList[2]? = some x2) (h3 : cs.toList[3]? = some x3) (h4 : cs.toList[4]? = some x4) (h5 : cs.toList[5]? = some x5) : cs = #[x0, x1, x2, x3, x4, x5] := by
  apply Array.ext'
  match h : cs.toList, (show cs.toList.length = 6 by simpa using hs) with
  | [u0, u1, u2, u3, u4, u5], _ => rw [h] at h0 h1 h2 h3 h4 h5; simp at h0 h1 h2 h3 h4 h5; simp [h0, h1, h2, h3, h4, h5]
end Go.Proofs.YtnfklhebcloolabDoor.kit
