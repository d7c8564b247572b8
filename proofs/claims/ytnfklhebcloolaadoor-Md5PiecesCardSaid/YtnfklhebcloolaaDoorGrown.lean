/- Slices where another block turned. -/
import Derived.Test.YtnfklhebcloolaaDoorNums
namespace Go.Proofs.YtnfklhebcloolaaDoor.kit
open Go.RowKit
set_option linter.unusedVariables false
/-- a slice in another block than the one that turned -/
theorem nums_grown {k : IntKind} {w w' : World} {B n cap g : Nat} {a : Option Addr} {l : List Int} (h : Nums k w B a n cap l) (hb : w.grownBy w' (some g)) (hne : ∀ b o s, a = some ⟨b, o, s⟩ → b ≠ g) : Nums k w' B a n cap l :=
  ⟨h.len, h.le, h.max, h.nil, fun hp => by
    obtain ⟨b, off, ha, h1, h2, hc⟩ := h.cells hp
    exact ⟨b, off, ha, h1, Nat.lt_of_lt_of_le h2 hb.size, fun j hj => gb_cell hb (hc j hj) (hne b off none ha)⟩⟩
theorem own_from {w : World} {base e n cap : Nat} {a : Option Addr} {xs : List Value} (h : w.ownsRow base e 1 (.slice a n cap) n xs) : ∀ b o s, a = some ⟨b, o, s⟩ → base ≤ b := by
  rintro b o s rfl
  rcases h.2 with ⟨hv, _⟩ | ⟨g, c, _, hv, hg, _⟩
  · injection hv with h1; cases h1
  · injection hv with h1; injection h1 with h1; injection h1 with h1; omega
end Go.Proofs.YtnfklhebcloolaaDoor.kit
