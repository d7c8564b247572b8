/- Options that came in. -/
import Derived.Test.YtidenjinagpphaaOpts
import Derived.Test.YtidenjinagpphaaOpen
namespace Go.Proofs.Ytidenjinagpphaa.opc
open Go.RowKit
open Go.Proofs.Ytidenjinagpphaa.kit Go.Proofs.Ytidenjinagpphaa.opm
set_option linter.unusedVariables false
section
open Go.ChangeShapes Go.WideShapes Go.Deep
theorem open_opts {H : Type} {enc : TypeId × Value → H} {w : World} {a : Option Addr} {len cap : Nat} {d : DataW H} {p : List MemPlace} (h : DataW.Trod enc Try.prog w 0 (fun _ => true) true 27 (.slice a len cap) d p) :
    ∃ L, Opts w w.heap.size a len cap L ∧ ∀ o ∈ L, (0 ≤ o.1 ∧ o.1 ≤ 255) ∧ ∀ x ∈ o.2, 0 ≤ x ∧ x ≤ 255 := by
  obtain ⟨h1, h2, h3, h4⟩ := slice_cells Try.underlying27 (C := 2) (by kernel_rfl) (by decide) h
  have key : ∀ i, i < len → ∃ o : Opt, (∃ b off aj nj cj, a = some ⟨b, off, none⟩ ∧ b < w.heap.size ∧ w.cell? ⟨b, off + i * 2, none⟩ = some (.int .u8 o.1) ∧ w.cell? ⟨b, off + i * 2 + 1, none⟩ = some (.slice aj nj cj) ∧ Nums .u8 w w.heap.size aj nj cj o.2) ∧ (0 ≤ o.1 ∧ o.1 ≤ 255) ∧ ∀ x ∈ o.2, 0 ≤ x ∧ x ≤ 255 := by
    intro i hi
    obtain ⟨b, off, ha, hb, hc⟩ := h4 (by omega)
    obtain ⟨cs, n, y, hl, hcell, hy⟩ := hc i hi
    obtain ⟨t, q1, q2⟩ := field_int Try.underlying31 hy 0 _ rfl Try.underlying5 (by kernel_rfl)
    obtain ⟨aj, nj, cj, l, r1, r2, r3⟩ := field_nums Try.underlying31 hy 1 _ rfl Try.underlying29 Try.underlying5 (by kernel_rfl) (by kernel_rfl)
    exact ⟨(t, l), ⟨b, off, aj, nj, cj, ha, hb, (hcell 0 (by decide)).trans q1, (hcell 1 (by decide)).trans r1, r2⟩, wf_u8 q2, fun x hx => wf_u8 (r3 x hx)⟩
  refine ⟨(List.range len).map fun i => if h : i < len then (key i h).choose else (0, []), ⟨by simp, h1, h2, h3, fun j hj => ?_⟩, ?_⟩
  · have hk := (key j hj).choose_spec.1
    obtain ⟨b, off, aj, nj, cj, ha, hb, k1, k2, k3⟩ := hk
    have e : ((List.range len).map fun i => if h : i < len then (key i h).choose else (0, [])).getD j (0, []) = (key j hj).choose := by
      rw [List.getD_eq_getElem?_getD]; simp [hj]
    rw [e]
    exact ⟨b, off, aj, nj, cj, ha, hb, hb, k1, k2, k3⟩
  · intro o ho
    obtain ⟨i, hi, rfl⟩ := List.mem_map.1 ho
    have hi' : i < len := by simpa using hi
    simp only [dif_pos hi']
    exact (key i hi').choose_spec.2
end
end Go.Proofs.Ytidenjinagpphaa.opc
