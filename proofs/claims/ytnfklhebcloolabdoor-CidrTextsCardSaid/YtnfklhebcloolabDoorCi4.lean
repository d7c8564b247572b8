/- The contracts of the document's Has and Within of prefixes. -/
import Derived.Test.YtnfklhebcloolabDoorCi3
namespace Go.Proofs.YtnfklhebcloolabDoor.cic
open Go.RowKit
open Go.Proofs.YtnfklhebcloolabDoor.kit Go.Proofs.YtnfklhebcloolabDoor.cim
set_option linter.unusedVariables false
set_option linter.unusedSimpArgs false
set_option maxRecDepth 20000
theorem right_nat {a : Nat} {b : Int} (h : rightB a b = true) : ∃ n : Nat, b = (n : Int) ∧ n ≤ 32 := by
  unfold rightB at h
  simp only [decide_eq_true_eq] at h
  exact ⟨b.toNat, by omega, by omega⟩
theorem rhas_any (a : Nat) (b : Int) (x : Nat) (ha : a < 4294967296) (hx : x < 4294967296) (w : World) : Calls Tryd.prog 10 #[pf a b, .int .u32 (x : Nat)] w fun e w' => e = .returned (.bool (hasB a b x)) ∧ Below w.heap.size w w' := by
  obtain ⟨W, hW, k0, k1, bW⟩ := boxed w a b
  have K1 := hid (fun w => rright_any a b ha w)
  have HS := hid (has_span a b x)
  have BW := hid bW
  clear bW
  cases hr : rightB a b
  · rw [hr] at HS K1
    rw [HS.out]
    unfold pf at *
    clear hr
    go_enter Tryd.func10, Tryd.ntmps10
    go_upto_region 1 with fail
    rw [← hW]
    clear hW
    go_wp2_with (go_at_call 8; ((with_reducible refine (K1.out W).mono ?_); rintro e w3 ⟨rfl, b3⟩))
    go_ret
    exact ⟨ret_bool (by simp), BW.out.trans (b3.mono BW.out.size)⟩
  · obtain ⟨n, rfl, hn⟩ := right_nat hr
    rw [hr] at HS K1
    have K2 := hid (fun w => span_any a n ha hn w)
    have hq0 := pow_pos n
    have hq1 := pow_le n
    have HR := hid (show (decide (a ≤ x) && decide ((x : Int) ≤ (a : Int) + ((2 ^ (32 - n) : Nat) : Int) - 1)) = hasB a (n : Nat) x by
      rw [HS.out, Bool.eq_iff_iff]
      simp only [Bool.and_eq_true, decide_eq_true_eq, Int.toNat_natCast, true_and]
      generalize 2 ^ (32 - n) = q at *
      omega)
    obtain ⟨q, hq⟩ : ∃ q, q = 2 ^ (32 - n) := ⟨_, rfl⟩
    rw [← hq] at K2 hq0 hq1 HR
    rw [← HR.out]
    unfold pf at *
    clear hr hq HS HR
    by_cases hax : a ≤ x
    · have d0 : decide (a ≤ x) = true := by simp only [decide_eq_true_eq]; exact hax
      rw [d0]
      clear hax
      go_enter Tryd.func10, Tryd.ntmps10
      go_upto_region 1 with fail
      rw [← hW]
      clear hW
      go_wp2_with (first | (go_at_call 8; ((with_reducible refine (K1.out W).mono ?_); rintro e w3 ⟨rfl, b3⟩; have l0 := keep_cell b3 k0; have l1 := keep_cell b3 k1; have B3 := hid b3; clear b3)) | (go_at_call 28; ((with_reducible refine (K2.out _).mono ?_); rintro e w4 ⟨rfl, b4⟩)))
      go_ret
      exact ⟨ret_bool (by simp), BW.out.trans ((B3.out.trans (b4.mono B3.out.size)).mono BW.out.size)⟩
    · have d0 : decide (a ≤ x) = false := by simp only [decide_eq_false_iff_not]; exact hax
      rw [d0]
      clear hax
      go_enter Tryd.func10, Tryd.ntmps10
      go_upto_region 1 with fail
      rw [← hW]
      clear hW
      go_wp2_with (first | (go_at_call 8; ((with_reducible refine (K1.out W).mono ?_); rintro e w3 ⟨rfl, b3⟩; have l0 := keep_cell b3 k0; have l1 := keep_cell b3 k1; have B3 := hid b3; clear b3)) | (go_at_call 28; ((with_reducible refine (K2.out _).mono ?_); rintro e w4 ⟨rfl, b4⟩)))
      go_ret
      exact ⟨ret_bool (by simp), BW.out.trans ((B3.out.trans (b4.mono B3.out.size)).mono BW.out.size)⟩
theorem rwithin_any (a : Nat) (b : Int) (c : Nat) (d : Int) (ha : a < 4294967296) (hc : c < 4294967296) (w : World) : Calls Tryd.prog 12 #[pf a b, pf c d] w fun e w' => e = .returned (.bool (withinB a b c d)) ∧ Below w.heap.size w w' := by
  obtain ⟨W, hW, k0, k1, k2, k3, bW⟩ := boxed2 w a c b d
  have K1 := hid (fun w => rright_any a b ha w)
  have K2 := hid (fun w => rright_any c d hc w)
  have HS := hid (within_span a b c d)
  have BW := hid bW
  clear bW
  cases hr : rightB a b
  · rw [hr] at HS K1
    rw [HS.out]
    unfold pf at *
    clear hr K2
    go_enter Tryd.func12, Tryd.ntmps12
    go_upto_region 1 with fail
    rw [← hW]
    clear hW
    go_wp2_with (go_at_call 8; ((with_reducible refine (K1.out W).mono ?_); rintro e w3 ⟨rfl, b3⟩))
    go_ret
    exact ⟨ret_bool (by simp), BW.out.trans (b3.mono BW.out.size)⟩
  · cases hr2 : rightB c d
    · rw [hr, hr2] at HS
      rw [hr] at K1
      rw [hr2] at K2
      rw [HS.out]
      unfold pf at *
      clear hr hr2
      go_enter Tryd.func12, Tryd.ntmps12
      go_upto_region 1 with fail
      rw [← hW]
      clear hW
      go_wp2_with (first | (go_at_call 8; ((with_reducible refine (K1.out W).mono ?_); rintro e w3 ⟨rfl, b3⟩; have l0 := keep_cell b3 k0; have l1 := keep_cell b3 k1; have l2 := keep_cell b3 k2; have l3 := keep_cell b3 k3; have B3 := hid b3; clear b3)) | (go_at_call 8; ((with_reducible refine (K2.out w3).mono ?_); rintro e w4 ⟨rfl, b4⟩)))
      go_ret
      exact ⟨ret_bool (by simp), BW.out.trans ((B3.out.trans (b4.mono B3.out.size)).mono BW.out.size)⟩
    · obtain ⟨n, rfl, hn⟩ := right_nat hr
      obtain ⟨m, rfl, hm⟩ := right_nat hr2
      rw [hr, hr2] at HS
      rw [hr] at K1
      rw [hr2] at K2
      have K3 := hid (fun w => span_any a n ha hn w)
      have K4 := hid (fun w => span_any c m hc hm w)
      have hq0 := pow_pos n
      have hq1 := pow_le n
      have hp0 := pow_pos m
      have hp1 := pow_le m
      have HR := hid (show (decide (c ≤ a) && decide ((a : Int) + ((2 ^ (32 - n) : Nat) : Int) - 1 ≤ (c : Int) + ((2 ^ (32 - m) : Nat) : Int) - 1)) = withinB a (n : Nat) c (m : Nat) by
        rw [HS.out, Bool.eq_iff_iff]
        simp only [Bool.and_eq_true, decide_eq_true_eq, Int.toNat_natCast, true_and]
        generalize 2 ^ (32 - n) = q at *
        generalize 2 ^ (32 - m) = p at *
        omega)
      obtain ⟨q, hq⟩ : ∃ q, q = 2 ^ (32 - n) := ⟨_, rfl⟩
      obtain ⟨p, hp⟩ : ∃ p, p = 2 ^ (32 - m) := ⟨_, rfl⟩
      rw [← hq] at K3 hq0 hq1 HR
      rw [← hp] at K4 hp0 hp1 HR
      rw [← HR.out]
      unfold pf at *
      clear hr hr2 hq hp HS HR
      by_cases hax : c ≤ a
      · have d0 : decide (c ≤ a) = true := by simp only [decide_eq_true_eq]; exact hax
        rw [d0]
        clear hax
        go_enter Tryd.func12, Tryd.ntmps12
        go_upto_region 1 with fail
        rw [← hW]
        clear hW
        go_upto_region 3 with (first | (go_at_call 8; ((with_reducible refine (K1.out W).mono ?_); rintro e w3 ⟨rfl, b3⟩; have l0 := keep_cell b3 k0; have l1 := keep_cell b3 k1; have l2 := keep_cell b3 k2; have l3 := keep_cell b3 k3; have B3 := hid (BW.out.trans (b3.mono BW.out.size)); clear b3)) | (go_at_call 8; ((with_reducible refine (K2.out w3).mono ?_); rintro e w4 ⟨rfl, b4⟩; have m0 := keep_cell b4 l0; have m1 := keep_cell b4 l1; have m2 := keep_cell b4 l2; have m3 := keep_cell b4 l3; have B4 := hid (B3.out.trans (b4.mono B3.out.size)); clear b4)))
        clear k0 k1 k2 k3 l0 l1 l2 l3
        go_wp2_with (first | (go_at_call 28; ((with_reducible refine (K3.out w4).mono ?_); rintro e w5 ⟨rfl, b5⟩; have l2 := keep_cell b5 m2; have l3 := keep_cell b5 m3; have B5 := hid (B4.out.trans (b5.mono B4.out.size)); clear b5)) | (go_at_call 28; ((with_reducible refine (K4.out w5).mono ?_); rintro e w6 ⟨rfl, b6⟩)))
        go_ret
        exact ⟨ret_bool (by simp), B5.out.trans (b6.mono B5.out.size)⟩
      · have d0 : decide (c ≤ a) = false := by simp only [decide_eq_false_iff_not]; exact hax
        rw [d0]
        clear hax
        go_enter Tryd.func12, Tryd.ntmps12
        go_upto_region 1 with fail
        rw [← hW]
        clear hW
        go_upto_region 3 with (first | (go_at_call 8; ((with_reducible refine (K1.out W).mono ?_); rintro e w3 ⟨rfl, b3⟩; have l0 := keep_cell b3 k0; have l1 := keep_cell b3 k1; have l2 := keep_cell b3 k2; have l3 := keep_cell b3 k3; have B3 := hid (BW.out.trans (b3.mono BW.out.size)); clear b3)) | (go_at_call 8; ((with_reducible refine (K2.out w3).mono ?_); rintro e w4 ⟨rfl, b4⟩; have m0 := keep_cell b4 l0; have m1 := keep_cell b4 l1; have m2 := keep_cell b4 l2; have m3 := keep_cell b4 l3; have B4 := hid (B3.out.trans (b4.mono B3.out.size)); clear b4)))
        clear k0 k1 k2 k3 l0 l1 l2 l3
        go_wp2_with (first | (go_at_call 28; ((with_reducible refine (K3.out w4).mono ?_); rintro e w5 ⟨rfl, b5⟩; have l2 := keep_cell b5 m2; have l3 := keep_cell b5 m3; have B5 := hid (B4.out.trans (b5.mono B4.out.size)); clear b5)) | (go_at_call 28; ((with_reducible refine (K4.out w5).mono ?_); rintro e w6 ⟨rfl, b6⟩)))
        go_ret
        exact ⟨ret_bool (by simp), B5.out.trans (b6.mono B5.out.size)⟩
end Go.Proofs.YtnfklhebcloolabDoor.cic
