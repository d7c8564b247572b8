/- The document's tables of a digest. -/
import Derived.Test.YtnfklhebcloolaaDoorMdR
import Derived.Test.YtnfklhebcloolaaDoorBuildC
import Derived.Test.YtnfklhebcloolaaDoorCells
import Derived.Deep.DeepCutAuto
import Derived.WalkSpells
namespace Go.Proofs.YtnfklhebcloolaaDoor.mdc
open Go.RowKit
open Go.Proofs.YtnfklhebcloolaaDoor.kit Go.Proofs.YtnfklhebcloolaaDoor.mdm
set_option linter.unusedVariables false
set_option maxRecDepth 100000
def KV : List Value := K.map fun (n : Nat) => Value.int .u64 (n : Int)
def RV : List Value := R.map fun (n : Nat) => Value.int .i64 (n : Int)
theorem k_any (i : Nat) (hi : i < 64) (w : World) :
    Calls Tryd.prog 38 #[.int .i64 (i : Nat)] w fun e w' => e = .returned (.int .u64 (K.getD i 0 : Nat)) ∧ Below w.heap.size w w' := by
  go_enter Tryd.func38, Tryd.ntmps38
  go_upto_region 1 with fail
  go_upto_region 2 with (first | (refine wpList_const (o := ⟨some 4, _, _, _, _, _⟩) (.agg KV.toArray) rfl (by kernel_rfl) ?_) | (refine wpList_store_new rfl 104 (.tmp 3) (.tmp 4) rfl w.heap.size KV rfl rfl (there_made w _ _ 64 rfl) (by kernel_rfl) (by kernel_rfl) w.heap.size w ((Below.refl _ _).alloc (Nat.le_refl _) _) (Nat.le_refl _) ?_; intro w1 R1 B1 T1; clear T1))
  have hc := range_nat (k := .u64) (L := K) R1.out i hi
  clear R1
  go_wp2_with fail
  go_ret
  exact ⟨rfl, B1.out⟩
theorem bits_any (i : Nat) (hi : i < 64) (w : World) :
    Calls Tryd.prog 42 #[.int .i64 (i : Nat)] w fun e w' => e = .returned (.int .i64 (rolls i : Nat)) ∧ Below w.heap.size w w' := by
  have hr : Hid (rolls i = R.getD (4 * (i / 16) + i % 4) 0) := rfl
  have hj : 4 * (i / 16) + i % 4 < 16 := by omega
  go_enter Tryd.func42, Tryd.ntmps42
  go_upto_region 1 with fail
  go_upto_region 2 with (first | (refine wpList_const (o := ⟨some 4, _, _, _, _, _⟩) (.agg RV.toArray) rfl (by kernel_rfl) ?_) | (refine wpList_store_new rfl 106 (.tmp 3) (.tmp 4) rfl w.heap.size RV rfl rfl (there_made w _ _ 16 rfl) (by kernel_rfl) (by kernel_rfl) w.heap.size w ((Below.refl _ _).alloc (Nat.le_refl _) _) (Nat.le_refl _) ?_; intro w1 R1 B1 T1; clear T1))
  have hc := range_nat (k := .i64) (L := R) R1.out (4 * (i / 16) + i % 4) hj
  clear R1
  obtain ⟨j, hjj⟩ : ∃ j, j = 4 * (i / 16) + i % 4 := ⟨_, rfl⟩
  rw [← hjj] at hc hr
  have hix : (4 : Int) * ((i : Int) / 16) + (i : Int) % 4 = (j : Int) := by omega
  have hj16 : j < 16 := by omega
  clear hjj
  go_wp2_with fail
  go_ret
  exact ⟨ret_int (by rw [hr.out]; simp), B1.out⟩
theorem g_any (i : Nat) (hi : i < 64) (w : World) :
    Calls Tryd.prog 40 #[.int .i64 (i : Nat)] w fun e w' => e = .returned (.int .i64 (G i : Nat)) ∧ Below w.heap.size w w' := by
  rcases (show i < 16 ∨ (16 ≤ i ∧ i < 32) ∨ (32 ≤ i ∧ i < 48) ∨ 48 ≤ i by omega) with h1 | ⟨h1, h2⟩ | ⟨h1, h2⟩ | h1
  · have HG := hid (show G i = i by unfold G; rw [if_pos h1])
    have hq : (i : Int) / 16 = 0 := by omega
    go_enter Tryd.func40, Tryd.ntmps40
    go_wp2
    go_quiet (fail)
    go_wp2_with fail
    go_ret
    exact ⟨ret_int (by rw [HG.out]; omega), below_drewN ((Below.refl _ _).alloc (Nat.le_refl _) _) _⟩
  · have HG := hid (show G i = (5 * i + 1) % 16 by unfold G; rw [if_neg (by omega), if_pos h2])
    have hq : (i : Int) / 16 = 1 := by omega
    go_enter Tryd.func40, Tryd.ntmps40
    go_wp2
    go_quiet (fail)
    go_wp2_with fail
    go_ret
    exact ⟨ret_int (by rw [HG.out]; omega), below_drewN ((Below.refl _ _).alloc (Nat.le_refl _) _) _⟩
  · have HG := hid (show G i = (3 * i + 5) % 16 by unfold G; rw [if_neg (by omega), if_neg (by omega), if_pos h2])
    have hq : (i : Int) / 16 = 2 := by omega
    go_enter Tryd.func40, Tryd.ntmps40
    go_wp2
    go_quiet (fail)
    go_wp2_with fail
    go_ret
    exact ⟨ret_int (by rw [HG.out]; omega), below_drewN ((Below.refl _ _).alloc (Nat.le_refl _) _) _⟩
  · have HG := hid (show G i = 7 * i % 16 by unfold G; rw [if_neg (by omega), if_neg (by omega), if_neg (by omega)])
    have hq : (i : Int) / 16 = 3 := by omega
    go_enter Tryd.func40, Tryd.ntmps40
    go_wp2
    go_quiet (fail)
    go_wp2_with fail
    go_ret
    exact ⟨ret_int (by rw [HG.out]; omega), below_drewN ((Below.refl _ _).alloc (Nat.le_refl _) _) _⟩
theorem low_any {B n cap : Nat} {a : Option Addr} {l : List Int} (w : World) (h : Nums .u8 w B a n cap l) (hO : Oct l) (hn : 4 ≤ n) :
    Calls Tryd.prog 39 #[.slice a n cap] w fun e w' => e = .returned (.int .u64 (word l 0 : Nat)) ∧ ∃ m, w' = w.drewN m := by
  obtain ⟨b, off, ha, _, _, hc⟩ := h.cells (by omega)
  subst ha
  have c0 := hc 0 (by omega)
  have c1 := hc 1 (by omega)
  have c2 := hc 2 (by omega)
  have c3 := hc 3 (by omega)
  have b0 := hO.at 0
  have b1 := hO.at 1
  have b2 := hO.at 2
  have b3 := hO.at 3
  have HW : Hid (word l 0 = (l.getD 0 0).toNat + 256 * (l.getD 1 0).toNat + 65536 * (l.getD 2 0).toNat + 16777216 * (l.getD 3 0).toNat) := rfl
  rw [Nat.add_zero] at c0
  generalize l.getD 0 0 = x0 at *
  generalize l.getD 1 0 = x1 at *
  generalize l.getD 2 0 = x2 at *
  generalize l.getD 3 0 = x3 at *
  clear hc h hO
  go_enter Tryd.func39, Tryd.ntmps39
  go_wp2
  go_quiet (fail)
  go_wp2_with fail
  go_ret
  exact ⟨ret_int (by rw [HW.out]; omega), _, rfl⟩
end Go.Proofs.YtnfklhebcloolaaDoor.mdc
