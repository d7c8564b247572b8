/- The contracts of package cidr's Compare; of the document's prefixes. -/
import Derived.Test.YtnfklhebcloolabDoorCi
namespace Go.Proofs.YtnfklhebcloolabDoor.cic
open Go.RowKit
open Go.Proofs.YtnfklhebcloolabDoor.kit Go.Proofs.YtnfklhebcloolabDoor.cim
set_option linter.unusedVariables false
set_option linter.unusedSimpArgs false
set_option maxRecDepth 20000
def cm (x y : Int) : Int := if x < y then -1 else if y < x then 1 else 0
theorem nan_i (x : Int) (w : World) : Calls Tryd.prog 50 #[.int .i64 x] w fun e w' => e = .returned (.bool false) ∧ w = w' := by
  go_enter Tryd.func50, Tryd.ntmps50
  go_wp2
  go_ret
  exact ⟨ret_bool (by simp), rfl⟩
theorem nan_a (x : Int) (w : World) : Calls Tryd.prog 49 #[.int .u32 x] w fun e w' => e = .returned (.bool false) ∧ w = w' := by
  go_enter Tryd.func49, Tryd.ntmps49
  go_wp2
  go_ret
  exact ⟨ret_bool (by simp), rfl⟩
theorem compare_i (x y : Int) (w : World) : Calls Tryd.prog 31 #[.int .i64 x, .int .i64 y] w fun e w' => e = .returned (.int .i64 (cm x y)) ∧ w = w' := by
  have K := hid (fun x w => nan_i x w)
  by_cases h1 : x < y
  · have hc := hid (show cm x y = -1 by unfold cm; rw [if_pos h1])
    rw [hc.out]
    go_enter Tryd.func31, Tryd.ntmps31
    go_wp2_with (go_at_call 50; ((with_reducible refine (K.out _ _).mono ?_); rintro e w3 ⟨rfl, rfl⟩))
    go_ret
    exact ⟨rfl, rfl⟩
  · by_cases h2 : y < x
    · have hc := hid (show cm x y = 1 by unfold cm; rw [if_neg h1, if_pos h2])
      rw [hc.out]
      go_enter Tryd.func31, Tryd.ntmps31
      go_wp2_with (go_at_call 50; ((with_reducible refine (K.out _ _).mono ?_); rintro e w3 ⟨rfl, rfl⟩))
      go_ret
      exact ⟨rfl, rfl⟩
    · have hc := hid (show cm x y = 0 by unfold cm; rw [if_neg h1, if_neg h2])
      rw [hc.out]
      go_enter Tryd.func31, Tryd.ntmps31
      go_wp2_with (go_at_call 50; ((with_reducible refine (K.out _ _).mono ?_); rintro e w3 ⟨rfl, rfl⟩))
      go_ret
      exact ⟨rfl, rfl⟩
theorem compare_a (x y : Int) (w : World) : Calls Tryd.prog 30 #[.int .u32 x, .int .u32 y] w fun e w' => e = .returned (.int .i64 (cm x y)) ∧ w = w' := by
  have K := hid (fun x w => nan_a x w)
  by_cases h1 : x < y
  · have hc := hid (show cm x y = -1 by unfold cm; rw [if_pos h1])
    rw [hc.out]
    go_enter Tryd.func30, Tryd.ntmps30
    go_wp2_with (go_at_call 49; ((with_reducible refine (K.out _ _).mono ?_); rintro e w3 ⟨rfl, rfl⟩))
    go_ret
    exact ⟨rfl, rfl⟩
  · by_cases h2 : y < x
    · have hc := hid (show cm x y = 1 by unfold cm; rw [if_neg h1, if_pos h2])
      rw [hc.out]
      go_enter Tryd.func30, Tryd.ntmps30
      go_wp2_with (go_at_call 49; ((with_reducible refine (K.out _ _).mono ?_); rintro e w3 ⟨rfl, rfl⟩))
      go_ret
      exact ⟨rfl, rfl⟩
    · have hc := hid (show cm x y = 0 by unfold cm; rw [if_neg h1, if_neg h2])
      rw [hc.out]
      go_enter Tryd.func30, Tryd.ntmps30
      go_wp2_with (go_at_call 49; ((with_reducible refine (K.out _ _).mono ?_); rintro e w3 ⟨rfl, rfl⟩))
      go_ret
      exact ⟨rfl, rfl⟩
theorem or_any (p q r : Int) (hr : (p ≠ 0 ∧ r = p) ∨ (p = 0 ∧ r = q)) (g : Nat) (w : World) (c0 : w.cell? ⟨g, 0, none⟩ = some (.int .i64 p)) (c1 : w.cell? ⟨g, 1, none⟩ = some (.int .i64 q)) :
    Calls Tryd.prog 29 #[.slice (some ⟨g, 0, none⟩) 2 2] w fun e w' => e = .returned (.int .i64 r) ∧ w = w' := by
  have HR := hid hr
  clear hr
  have C0 := hid c0
  have C1 := hid c1
  clear c0 c1
  go_enter Tryd.func29, Tryd.ntmps29
  go_upto_region 3 with fail
  go_loopw [8] (fun iv wr => ∃ i : Nat, i ≤ 2 ∧ iv = .int .i64 (i : Nat) ∧ Hid (1 ≤ i → p = 0) ∧ Hid (2 ≤ i → q = 0) ∧ w = wr) (fun iv _ => 2 - (intOf iv).toNat)
  case atStart => exact ⟨0, by omega, rfl, hid (fun h => by omega), hid (fun h => by omega), rfl⟩
  case round =>
    obtain ⟨i, hi, rfl, HP, HQ, rfl⟩ := hrel
    have hc : i = 0 ∨ i = 1 ∨ i = 2 := by omega
    rcases hc with rfl | rfl | rfl
    · have c0 := C0.out
      by_cases hz : p = 0
      · have h0 : (p != 0) = false := by simp [hz]
        have HZ := hid hz
        clear hz
        go_wp2
        go_roundw
        case rel => exact ⟨1, by omega, by go_num, hid (fun _ => HZ.out), hid (fun h => by omega), trivial⟩
        case measure => simp [intOf]
      · have h0 : (p != 0) = true := by simp [hz]
        have HZ := hid hz
        clear hz
        go_wp2
        go_ret
        exact ⟨ret_int (by have := HR.out; have := HZ.out; omega), rfl⟩
    · have c1 := C1.out
      by_cases hz : q = 0
      · have h0 : (q != 0) = false := by simp [hz]
        have HZ := hid hz
        clear hz
        go_wp2
        go_roundw
        case rel => exact ⟨2, by omega, by go_num, hid (fun _ => HP.out (by omega)), hid (fun _ => HZ.out), trivial⟩
        case measure => simp [intOf]
      · have h0 : (q != 0) = true := by simp [hz]
        clear hz
        go_wp2
        go_ret
        exact ⟨ret_int (by have := HR.out; have := HP.out (by omega); omega), rfl⟩
    · go_wp2
      go_ret
      exact ⟨ret_int (by have := HR.out; have := HP.out (by omega); have := HQ.out (by omega); omega), rfl⟩
def cmp2 (a : Nat) (b : Int) (c : Nat) (d : Int) : Int := if a < c then -1 else if c < a then 1 else cm b d
theorem cmp2_or (a c : Nat) (b d : Int) : (cm (a : Int) (c : Int) ≠ 0 ∧ cmp2 a b c d = cm (a : Int) (c : Int)) ∨ (cm (a : Int) (c : Int) = 0 ∧ cmp2 a b c d = cm b d) := by
  unfold cmp2
  by_cases h1 : a < c
  · left; unfold cm; rw [if_pos h1, if_pos (by omega)]; exact ⟨by omega, rfl⟩
  · by_cases h2 : c < a
    · left; unfold cm; rw [if_neg h1, if_pos h2, if_neg (by omega), if_pos (by omega)]; exact ⟨by omega, rfl⟩
    · right; rw [if_neg h1, if_neg h2]; exact ⟨by unfold cm; rw [if_neg (by omega), if_neg (by omega)], rfl⟩
theorem compare_any (a : Nat) (b : Int) (c : Nat) (d : Int) (w : World) : Calls Tryd.prog 15 #[pf a b, pf c d] w fun e w' => e = .returned (.int .i64 (cmp2 a b c d)) ∧ Below w.heap.size w w' := by
  obtain ⟨W, hW, k0, k1, k2, k3, bW⟩ := boxed2 w a c b d
  have K0 := After.cell k0
  have K1 := After.cell k1
  have K2 := After.cell k2
  have K3 := After.cell k3
  have KA := hid (fun (M : After W) => after_call ((compare_a a c M.w).mono fun e w' ⟨h1, h2⟩ => ⟨h1, by rw [← h2]; exact Below.refl _ _⟩))
  have KI := hid (fun (M : After W) => after_call ((compare_i b d M.w).mono fun e w' ⟨h1, h2⟩ => ⟨h1, by rw [← h2]; exact Below.refl _ _⟩))
  have HR := hid (cmp2_or a c b d)
  unfold pf
  obtain ⟨p, hp⟩ : ∃ p, p = cm (a : Int) (c : Int) := ⟨_, rfl⟩
  obtain ⟨q, hq⟩ : ∃ q, q = cm b d := ⟨_, rfl⟩
  obtain ⟨r, hr⟩ : ∃ r, r = cmp2 a b c d := ⟨_, rfl⟩
  rw [← hp] at KA HR
  rw [← hq] at KI HR
  rw [← hr] at HR ⊢
  clear hp hq hr
  go_enter Tryd.func15, Tryd.ntmps15
  go_upto_region 1 with fail
  rw [← hW]
  refine wp_region_after_tail W 10 (by kernel_rfl) (by kernel_rfl) ((Below.refl _ _).drew) ?_
  simp only [List.take_succ_cons, List.take_zero, List.drop_succ_cons, List.drop_zero]
  repeat (go_big_quiet_step (first | with_reducible exact KA.out _ | with_reducible exact KI.out _))
  refine wpQuiet_nil ?_
  intro w3 hw'
  obtain ⟨N3, e3⟩ := hw'
  have b3 : Below W.heap.size W w3 := by rw [e3]; exact N3.h
  clear e3 N3
  have B3 := hid b3
  have B4 := hid ((Below.refl w3.heap.size w3).alloc (Nat.le_refl _) (.cells #[.int .i64 p, .int .i64 q] 3))
  have KO := hid (or_any p q r HR.out w3.heap.size (w3.alloc (.cells #[.int .i64 p, .int .i64 q] 3)) ((Box.made w3 #[.int .i64 p, .int .i64 q] 3).at_ 0 _ rfl) ((Box.made w3 #[.int .i64 p, .int .i64 q] 3).at_ 1 _ rfl))
  clear b3 hW
  go_wp2_with (go_at_call 29; ((with_reducible refine KO.out.mono ?_); rintro e w5 ⟨rfl, rfl⟩))
  go_ret
  exact ⟨rfl, bW.trans ((B3.out.trans (B4.out.mono B3.out.size)).mono bW.size)⟩
end Go.Proofs.YtnfklhebcloolabDoor.cic
