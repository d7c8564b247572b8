/- Whether two rows of prefixes are equal: where they are; the law's example. -/
import Derived.Test.YtnfklhebcloolabDoorCiCover
namespace Go.Proofs.YtnfklhebcloolabDoor.cic
open Go.RowKit
open Go.Proofs.YtnfklhebcloolabDoor.kit Go.Proofs.YtnfklhebcloolabDoor.cim
set_option linter.unusedVariables false
set_option linter.unusedSimpArgs false
set_option maxRecDepth 20000
theorem equal_same {n c1 c2 : Nat} {a1 a2 : Option Addr} {L : List (Nat × Nat)} (w : World) (h1 : Pfs w a1 n L) (h2 : Pfs w a2 n L) (hn : n ≤ 1099511627776) :
    Calls Tryd.prog 17 #[.slice a1 n c1, .slice a2 n c2] w fun e w' => e = .returned (.bool true) ∧ Below w.heap.size w w' := by
  have HL := hid h1.len
  have H1 := hid h1.cells
  have H2 := hid h2.cells
  have G1 : Tryd.prog.eqGuardType Tryd.prog.depth 25 = false := by kernel_rfl
  clear h1 h2
  go_enter Tryd.func17, Tryd.ntmps17
  go_wp2
  go_loopw [13] (fun i wr => ∃ k : Nat, k ≤ n ∧ i = .int .i64 (k : Nat) ∧ ∃ m, wr = w.drewN m) (fun i _ => n - (intOf i).toNat)
  case atStart => exact ⟨0, Nat.zero_le _, rfl, 0, rfl⟩
  case round =>
    obtain ⟨k, hk, rfl, m, rfl⟩ := hrel
    by_cases hlt : k < n
    · obtain ⟨b1, o1, ha1, hb1, hc1⟩ := H1.out (by omega)
      obtain ⟨b2, o2, ha2, hb2, hc2⟩ := H2.out (by omega)
      subst ha1 ha2
      obtain ⟨x1, x2⟩ := hc1 k (by rw [HL.out]; exact hlt)
      obtain ⟨y1, y2⟩ := hc2 k (by rw [HL.out]; exact hlt)
      obtain ⟨x, hx⟩ : ∃ x, x = L[k]'(by rw [HL.out]; exact hlt) := ⟨_, rfl⟩
      rw [← hx] at x1 x2 y1 y2
      rw [← Nat.add_assoc] at x2 y2
      have E1 : ∀ W : World, (Op.equalIn 10000 25 (.agg #[.int .u32 (x.1 : Nat), .int .i64 (x.2 : Nat)]) (.agg #[.int .u32 (x.1 : Nat), .int .i64 (x.2 : Nat)])).run Tryd.prog W = .ok true W := fun W => (pf_eq _ _ _ _ W).trans (by simp)
      clear hc1 hc2 H1 H2 hx
      go_wp2_with fail
      go_quiet (fail)
      go_wp2_with fail
      go_roundw
      case rel => exact ⟨k + 1, by omega, by go_num, _, rfl⟩
      case measure => simp [intOf]; omega
    · obtain rfl : k = n := by omega
      go_wp2
      go_ret
      exact ⟨rfl, below_drewN (Below.refl _ _) m⟩
theorem ex_cov : CovIs 167772161 (167772164 + 1) [(167772161, 32), (167772162, 31), (167772164, 32)] := ⟨3, by decide +kernel, by decide +kernel⟩
theorem alive_any (w : World) (T : Tab w) : Calls Tryd.prog 16 #[] w fun e w' => e = .returned (.bool true) ∧ Below w.heap.size w w' := by
  have KC := hid (show Calls Tryd.prog 18 #[.int .u32 167772161, .int .u32 167772164] w (CovP w 167772161 (167772164 + 1)) from cover_any 167772161 167772164 (by omega) (by omega) w T)
  unfold CovP at KC
  clear T
  go_enter Tryd.func16, Tryd.ntmps16
  go_upto_region 2 with (go_at_call 18; ((with_reducible refine KC.out.mono ?_); rintro e w3 ⟨v, L, rfl, O3, C3, b3⟩; have O3 := hid O3; have C3 := hid C3; have B3 := hid b3; clear b3))
  have hL := C3.out.eq ex_cov
  subst hL
  obtain ⟨a, c, rfl⟩ := O3.out.slice
  have P3 := hid O3.out.pfs.1
  have bA := (Below.refl w3.heap.size w3).alloc (Nat.le_refl _) (.cells #[.int .u32 167772161, .int .i64 32, .int .u32 167772162, .int .i64 31, .int .u32 167772164, .int .i64 32] 25)
  have PQ := hid (show Pfs (w3.alloc (.cells #[.int .u32 167772161, .int .i64 32, .int .u32 167772162, .int .i64 31, .int .u32 167772164, .int .i64 32] 25)) (some ⟨w3.heap.size, 0, none⟩) 3 [(167772161, 32), (167772162, 31), (167772164, 32)] from by
    have B := Box.made w3 #[.int .u32 167772161, .int .i64 32, .int .u32 167772162, .int .i64 31, .int .u32 167772164, .int .i64 32] 25
    refine ⟨rfl, fun _ => ⟨w3.heap.size, 0, rfl, B.lt, fun j hj => ?_⟩⟩
    have hc : j = 0 ∨ j = 1 ∨ j = 2 := by simp at hj; omega
    rcases hc with rfl | rfl | rfl
    · exact ⟨B.at_ 0 _ rfl, B.at_ 1 _ rfl⟩
    · exact ⟨B.at_ 2 _ rfl, B.at_ 3 _ rfl⟩
    · exact ⟨B.at_ 4 _ rfl, B.at_ 5 _ rfl⟩)
  have KE := hid (equal_same (n := 3) (c1 := c) (c2 := 3) _ (P3.out.below bA) PQ.out (by simp))
  have BA := hid bA
  clear bA P3 PQ O3 C3
  go_wp2_with (go_at_call 17; ((with_reducible refine KE.out.mono ?_); rintro e w5 ⟨rfl, b5⟩; have B5 := hid b5; clear b5))
  go_ret
  exact ⟨rfl, B3.out.trans ((BA.out.trans (B5.out.mono BA.out.size)).mono B3.out.size)⟩
end Go.Proofs.YtnfklhebcloolabDoor.cic
