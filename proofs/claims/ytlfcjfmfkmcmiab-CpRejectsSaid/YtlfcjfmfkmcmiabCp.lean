/- cp: packets as lists of numbers; the contracts of Build and of Parse. -/
import Derived.Test.YtlfcjfmfkmcmiabBeLaw
import Derived.Test.YtlfcjfmfkmcmiabBeBad
import Derived.Test.YtlfcjfmfkmcmiabRdrList
import Derived.Test.YtlfcjfmfkmcmiabSlice8
import Derived.Test.YtlfcjfmfkmcmiabBox
import Derived.Deep.DeepCutAuto
namespace Go.Proofs.Ytlfcjfmfkmcmiab.cpc
open Go.RowKit
open Go.Proofs.Ytlfcjfmfkmcmiab.kit Go.Proofs.Ytlfcjfmfkmcmiab.bec
set_option linter.unusedVariables false
set_option maxRecDepth 20000

/-- a packet's bytes -/
def cpB (x y : Int) (d : List Int) : List Int := [x, y, ((4 + d.length : Nat) : Int) / 256, ((4 + d.length : Nat) : Int) % 256] ++ d
/-- the packet that bytes begin with; an error -/
def cpT (x y s : Int) (r : List Int) : Int × Int × List Int × Int := if s < 4 then (0, 0, [], 11) else if (r.length : Int) + 4 < s then (0, 0, [], 10) else (x, y, r.take (s - 4).toNat, 0)
def cpP : List Int → Int × Int × List Int × Int
  | x :: y :: z :: u :: r => cpT x y (256 * z + u) r
  | _ => (0, 0, [], 10)
theorem cpP_short {l : List Int} (h : l.length < 4) : cpP l = (0, 0, [], 10) := by
  match l, h with
  | [], _ => rfl
  | [_], _ => rfl
  | [_, _], _ => rfl
  | [_, _, _], _ => rfl
/-- what was built is parsed as it was -/
theorem cpP_built (x y : Int) (d r : List Int) (hd : d.length ≤ 60000) : cpP (cpB x y d ++ r) = (x, y, d, 0) := by
  show cpT x y (256 * (((4 + d.length : Nat) : Int) / 256) + ((4 + d.length : Nat) : Int) % 256) (d ++ r) = _
  have e : 256 * (((4 + d.length : Nat) : Int) / 256) + ((4 + d.length : Nat) : Int) % 256 = d.length + 4 := by omega
  unfold cpT
  rw [e, if_neg (by omega), if_neg (by rw [List.length_append]; omega), show ((d.length : Int) + 4 - 4).toNat = d.length by omega, List.take_left']
  rfl
theorem short_bad {l : List Int} (h : l.length < 4) : okN (!okN (!okN false l 1) (leftN false l 1) 1) (leftN (!okN false l 1) (leftN false l 1) 1) 2 = false := by
  match l, h with
  | [], _ => decide
  | [x], _ => obtain ⟨_, h2, h3⟩ := nx_cons x []; rw [h2, h3]; obtain ⟨_, h2, h3⟩ := nx_nil (!true); rw [h2, h3]; decide
  | [x, y], _ => obtain ⟨_, h2, h3⟩ := nx_cons x [y]; rw [h2, h3]; obtain ⟨_, h2, h3⟩ := nx_cons y []; rw [Bool.not_true, h2, h3]; decide
  | [x, y, z], _ => obtain ⟨_, h2, h3⟩ := nx_cons x [y, z]; rw [h2, h3]; obtain ⟨_, h2, h3⟩ := nx_cons y [z]; rw [Bool.not_true, h2, h3]; simp [okN, okR]
theorem byt_leftN {b : Bool} {l : List Int} (h : Byt l) (m : Int) : Byt (leftN b l m) := by unfold leftN; split; exact h.drop _; exact h
theorem four {l : List Int} (h : 4 ≤ l.length) : ∃ x y z u r, l = x :: y :: z :: u :: r := by
  match l, h with
  | x :: y :: z :: u :: r, _ => exact ⟨x, y, z, u, r, rfl⟩
def CPost (T : Int × Int × List Int × Int) (w : World) (L : List Sl) (e : Ending) (W' : World) : Prop :=
  ∃ a n c, e = .returned (.tuple #[.agg #[.int .u8 T.1, .int .u8 T.2.1, .slice a n c], .int .i64 T.2.2.2]) ∧ St w W' ((a, n, c, T.2.2.1) :: L)
theorem ret_cells {w : World} {g : Nat} {vs : List Value} (h : Box w g vs) (hv : vs.length = 3) (u v x : Value) :
    (((w.setCell ⟨g, 0, none⟩ u).setCell ⟨g, 1, none⟩ v).setCell ⟨g, 2, none⟩ x).cell? ⟨g, 0, none⟩ = some u ∧ (((w.setCell ⟨g, 0, none⟩ u).setCell ⟨g, 1, none⟩ v).setCell ⟨g, 2, none⟩ x).cell? ⟨g, 1, none⟩ = some v ∧ (((w.setCell ⟨g, 0, none⟩ u).setCell ⟨g, 1, none⟩ v).setCell ⟨g, 2, none⟩ x).cell? ⟨g, 2, none⟩ = some x := by
  have hb := ((h.set 0 u).set 1 v).set 2 x
  match vs, hv with
  | [a, b, c], _ => exact ⟨hb.at_ 0 _ rfl, hb.at_ 1 _ rfl, hb.at_ 2 _ rfl⟩

end Go.Proofs.Ytlfcjfmfkmcmiab.cpc
