/- What the rows of cidr lay: the table of the lowest bits. -/
import Derived.Test.YtnfklhebcloolabDoorRows
import Derived.Test.YtnfklhebcloolabDoorCiEq
import Derived.WalkKit
import Derived.ProofKit
import Derived.LaidMore
import Derived.LaidLaws
import Derived.Stop.Joined
import Derived.SevenTiedAt
import Derived.Lib.LaidTab
namespace Go.Proofs.YtnfklhebcloolabDoor.cic
open Go.RowKit
set_option linter.unusedVariables false
theorem gdb : Tryd.prog.globalNamed "math/bits.deBruijn64tab" = some 0 := by kernel_rfl
def dbTab : List Int := Lib.deBruijn64tab.map fun (n : Nat) => (n : Int)
theorem laid_tab {H : Type} {enc : TypeId × Value → H} {W : World} {base : Nat} {sp : Nat → Bool} {held : Bool} {g : Nat} {t : TypeId} {cs : Array Value} {f : Nat} {p : List MemPlace}
    (hg : Tryd.prog.globalNamed "math/bits.deBruijn64tab" = some g) (ht : (Tryd.prog.globals[g]?).map (·.type) = some t) (hv : W.var? Tryd.prog "math/bits.deBruijn64tab" = some cs)
    (hd : DataW.trod enc Tryd.prog W base sp held f t cs.toList = some (Rows.laid_math_bits_deBruijn64tab, p)) : Tab W ∧ 0 < W.heap.size := by
  obtain rfl := Option.some.inj (gdb.symm.trans hg)
  have u2 : (Tryd.prog.globals[0]?).map (·.type) = some 78 := by kernel_rfl
  obtain rfl := Option.some.inj (u2.symm.trans ht)
  have hd' : DataW.trod enc Tryd.prog W base sp held f 78 cs.toList = some (Lib.tabData .u8 dbTab, p) := hd
  have hc := Lib.cells_of_tab Tryd.underlying78 Tryd.underlying5 (by kernel_rfl) (by kernel_rfl) hd'
  have hT : Lib.TabIs Tryd.prog W "math/bits.deBruijn64tab" .u8 dbTab := by unfold Lib.TabIs; rw [← hc]; exact hv
  have key : ∀ j, j < 64 → dbTab.getD j 0 = ((Lib.deBruijn64tab.getD j 0 : Nat) : Int) := by decide +kernel
  have cell : Tab W := fun j hj => by
    have := hT.cell gdb j (show j < 64 from hj)
    rw [key j hj] at this; exact this
  exact ⟨cell, World.block_lt_of_cell? W _ (cell 0 (by omega))⟩
theorem laid_tells {W : World} (h : laidMetH Tryd.prog Rows.cidrTellsRow.laid W) : Tab W := by
  rw [MakeChecks.laidMetH_plain _ _ _ (by kernel_rfl)] at h
  obtain ⟨ps, ⟨g0, t0, cs0, f0, p0, q0, hg0, ht0, hv0, hd0, _, _⟩, _, _⟩ := h
  exact (laid_tab hg0 ht0 hv0 hd0).1
theorem laid_covers {W : World} (h : laidMetH Tryd.prog Rows.cidrCoversRow.laid W) : Tab W := by
  rw [MakeChecks.laidMetH_plain _ _ _ (by kernel_rfl)] at h
  obtain ⟨ps, ⟨g0, t0, cs0, f0, p0, q0, hg0, ht0, hv0, hd0, _, _⟩, _, _⟩ := h
  exact (laid_tab hg0 ht0 hv0 hd0).1
theorem laid_merges {W : World} (h : laidMetH Tryd.prog Rows.cidrMergesRow.laid W) : Tab W := by
  rw [MakeChecks.laidMetH_plain _ _ _ (by kernel_rfl)] at h
  obtain ⟨ps, ⟨g0, t0, cs0, f0, p0, q0, hg0, ht0, hv0, hd0, _, _⟩, _, _⟩ := h
  exact (laid_tab hg0 ht0 hv0 hd0).1
end Go.Proofs.YtnfklhebcloolabDoor.cic
