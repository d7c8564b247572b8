/- The contracts of package rtt, and of the document's own numbers. -/
import Derived.Test.YtlfcjfmfkmcmiaaRttMath
import Derived.Test.YtlfcjfmfkmcmiaaCells
import Derived.Test.YtlfcjfmfkmcmiaaQuietC
import Derived.Deep.RegionHeld3
import Derived.Deep.DeepCutAuto
namespace Go.Proofs.Ytlfcjfmfkmcmiaa.rc
open Go.RowKit
open Go.Proofs.Ytlfcjfmfkmcmiaa.kit Go.Proofs.Ytlfcjfmfkmcmiaa.rm
set_option linter.unusedVariables false

def tv (m d : Int) : Value := .agg #[.int .i64 m, .int .i64 d]
theorem cut_any (n lo hi : Int) (h : lo ≤ hi) (w : World) :
    Calls Try.prog 36 #[.int .i64 n, .int .i64 lo, .int .i64 hi] w fun e w' => e = .returned (.int .i64 (cutI n lo hi)) ∧ w = w' := by
  by_cases h1 : n < lo
  · have H := hid (show cutI n lo hi = lo by unfold cutI; rw [if_pos h1])
    go_enter Try.func36, Try.ntmps36
    go_wp2
    all_goals go_ret
    all_goals exact ⟨ret_int (by rw [H.out] <;> omega), rfl⟩
  · by_cases h2 : hi < n
    · have H := hid (show cutI n lo hi = hi by unfold cutI; rw [if_neg h1, if_pos h2])
      go_enter Try.func36, Try.ntmps36
      go_wp2
      all_goals go_ret
      all_goals exact ⟨ret_int (by rw [H.out] <;> omega), rfl⟩
    · have H := hid (show cutI n lo hi = n by unfold cutI; rw [if_neg h1, if_neg h2])
      go_enter Try.func36, Try.ntmps36
      go_wp2
      all_goals go_ret
      all_goals exact ⟨ret_int (by rw [H.out] <;> omega), rfl⟩
theorem rcut_any (n lo hi : Int) (h : lo ≤ hi) (w : World) :
    Calls Try.prog 37 #[.int .i64 n, .int .i64 lo, .int .i64 hi] w fun e w' => e = .returned (.int .i64 (cutI n lo hi)) ∧ w = w' := by
  by_cases h1 : n < lo
  · have H := hid (show cutI n lo hi = lo by unfold cutI; rw [if_pos h1])
    go_enter Try.func37, Try.ntmps37
    go_wp2
    go_ret
    exact ⟨ret_int H.out.symm, rfl⟩
  · by_cases h2 : hi < n
    · have H := hid (show cutI n lo hi = hi by unfold cutI; rw [if_neg h1, if_pos h2])
      go_enter Try.func37, Try.ntmps37
      go_wp2
      go_ret
      exact ⟨ret_int H.out.symm, rfl⟩
    · have H := hid (show cutI n lo hi = n by unfold cutI; rw [if_neg h1, if_neg h2])
      go_enter Try.func37, Try.ntmps37
      go_wp2
      go_ret
      exact ⟨ret_int H.out.symm, rfl⟩
theorem cut_is (n lo hi c : Int) (h : lo ≤ hi) (hc : cutI n lo hi = c) (w : World) :
    Calls Try.prog 36 #[.int .i64 n, .int .i64 lo, .int .i64 hi] w fun e w' => e = .returned (.int .i64 c) ∧ w = w' := by rw [← hc]; exact cut_any n lo hi h w
theorem rcut_is (n lo hi c : Int) (h : lo ≤ hi) (hc : cutI n lo hi = c) (w : World) :
    Calls Try.prog 37 #[.int .i64 n, .int .i64 lo, .int .i64 hi] w fun e w' => e = .returned (.int .i64 c) ∧ w = w' := by rw [← hc]; exact rcut_any n lo hi h w
theorem mean_any (m d : Int) (h : 0 ≤ m) (h2 : m ≤ 10000) (w : World) :
    Calls Try.prog 16 #[.agg #[.int .i64 m, .int .i64 d]] w fun e w' => e = .returned (.int .i64 (m / 8)) ∧ Below w.heap.size w w' := by
  go_enter Try.func16, Try.ntmps16
  go_wp2
  go_ret
  exact ⟨rfl, (Below.refl _ _).alloc (Nat.le_refl _) _⟩
theorem off_any (m d : Int) (h : 0 ≤ d) (h2 : d ≤ 10000) (w : World) :
    Calls Try.prog 17 #[.agg #[.int .i64 m, .int .i64 d]] w fun e w' => e = .returned (.int .i64 (d / 4)) ∧ Below w.heap.size w w' := by
  go_enter Try.func17, Try.ntmps17
  go_wp2
  go_ret
  exact ⟨rfl, (Below.refl _ _).alloc (Nat.le_refl _) _⟩
theorem new_any (t : Int) (w : World) :
    Calls Try.prog 10 #[.int .i64 t] w fun e w' => e = .returned (.agg #[.int .i64 (8 * cutI t 1 64), .int .i64 0]) ∧ Below w.heap.size w w' := by
  have hc := cut_in t 1 64 (by omega)
  obtain ⟨c, hcc⟩ : ∃ c, cutI t 1 64 = c := ⟨_, rfl⟩
  rw [hcc] at hc ⊢
  have HC := hid hcc
  clear hcc
  go_enter Try.func10, Try.ntmps10
  go_wp2_with (go_at_call 36; ((with_reducible refine (cut_is _ _ _ c (by decide) HC.out _).mono ?_); rintro e w1 ⟨rfl, rfl⟩))
  exact bodyPost_ret (v := .agg #[.int .i64 (8 * c), .int .i64 0]) (by simp [results, Try.results10, go_sem]) rfl ⟨rfl, (Below.refl _ _).alloc (Nat.le_refl _) _⟩
theorem rnew_any (t : Int) (w : World) :
    Calls Try.prog 11 #[.int .i64 t] w fun e w' => e = .returned (.agg #[.int .i64 (8 * cutI t 1 64), .int .i64 0]) ∧ Below w.heap.size w w' := by
  have hc := cut_in t 1 64 (by omega)
  obtain ⟨c, hcc⟩ : ∃ c, cutI t 1 64 = c := ⟨_, rfl⟩
  rw [hcc] at hc ⊢
  have HC := hid hcc
  clear hcc
  go_enter Try.func11, Try.ntmps11
  go_wp2_with (go_at_call 37; ((with_reducible refine (rcut_is _ _ _ c (by decide) HC.out _).mono ?_); rintro e w1 ⟨rfl, rfl⟩))
  exact bodyPost_ret (v := .agg #[.int .i64 (8 * c), .int .i64 0]) (by simp [results, Try.results11, go_sem]) rfl ⟨rfl, (Below.refl _ _).alloc (Nat.le_refl _) _⟩
theorem same_below {w w' : World} (h : w = w') : Below w.heap.size w w' := by subst h; exact Below.refl _ _
theorem late_any (m d : Int) (h : In m d) (w : World) :
    Calls Try.prog 12 #[.agg #[.int .i64 m, .int .i64 d]] w fun e w' => e = .returned (.agg #[.int .i64 (cutI (2 * m) 0 512), .int .i64 d]) ∧ Below w.heap.size w w' := by
  obtain ⟨h1, h2, h3, h4⟩ := h
  by_cases h5 : 512 < 2 * m
  · have HE := hid (show cutI (2 * m) 0 512 = 512 by unfold cutI; rw [if_neg (by omega), if_pos h5])
    go_enter Try.func12, Try.ntmps12
    go_wp2
    exact bodyPost_ret (v := .agg #[.int .i64 512, .int .i64 d]) (by simp [results, Try.results12, go_sem]) rfl ⟨by rw [HE.out], ((Below.refl _ _).alloc (Nat.le_refl _) _).alloc (by simp) _⟩
  · have HE := hid (show cutI (2 * m) 0 512 = 2 * m by unfold cutI; rw [if_neg (by omega), if_neg h5])
    go_enter Try.func12, Try.ntmps12
    go_wp2
    exact bodyPost_ret (v := .agg #[.int .i64 (2 * m), .int .i64 d]) (by simp [results, Try.results12, go_sem]) rfl ⟨by rw [HE.out], ((Below.refl _ _).alloc (Nat.le_refl _) _).alloc (by simp) _⟩
theorem ret2 {w : World} {g : Nat} {vs : List Value} (h : Box w g vs) (hv : vs.length = 2) (u v : Value) :
    ((w.setCell ⟨g, 0, none⟩ u).setCell ⟨g, 1, none⟩ v).cell? ⟨g, 0, none⟩ = some u ∧ ((w.setCell ⟨g, 0, none⟩ u).setCell ⟨g, 1, none⟩ v).cell? ⟨g, 1, none⟩ = some v := by
  have hb := (h.set 0 u).set 1 v
  match vs, hv with
  | [a, b], _ => exact ⟨hb.at_ 0 _ rfl, hb.at_ 1 _ rfl⟩
/-- what a method of two numbers stands in: its receiver's block and its result's -/
structure Two (w W : World) (m d : Int) (t : TypeId) : Prop where
  is : W = (w.alloc (.cells #[.int .i64 m, .int .i64 d] t)).alloc (.cells #[.int .i64 0, .int .i64 0] t)
theorem Two.below {w W : World} {m d : Int} {t : TypeId} (h : Two w W m d t) : Below w.heap.size w W := by
  rw [h.is]; exact ((Below.refl _ _).alloc (Nat.le_refl _) _).alloc (by simp) _
theorem Two.b0 {w W : World} {m d : Int} {t : TypeId} (h : Two w W m d t) : Box W w.heap.size [.int .i64 m, .int .i64 d] := by
  rw [h.is]; exact (Box.made w #[.int .i64 m, .int .i64 d] t).next ((Below.refl _ _).alloc (Nat.le_refl _) _)
theorem Two.b1 {w W : World} {m d : Int} {t : TypeId} (h : Two w W m d t) : Box W (w.heap.size + 1) [.int .i64 0, .int .i64 0] := by
  rw [h.is]; have := Box.made (w.alloc (.cells #[.int .i64 m, .int .i64 d] t)) #[.int .i64 0, .int .i64 0] t; simpa using this
set_option maxHeartbeats 1000000 in
theorem rlate_any (m d : Int) (h : In m d) (w : World) :
    Calls Try.prog 13 #[.agg #[.int .i64 m, .int .i64 d]] w fun e w' => e = .returned (.agg #[.int .i64 (cutI (2 * m) 0 512), .int .i64 d]) ∧ Below w.heap.size w w' := by
  obtain ⟨h1, h2, h3, h4⟩ := h
  obtain ⟨c, hcc⟩ : ∃ c, cutI (2 * m) 0 512 = c := ⟨_, rfl⟩
  rw [hcc]
  have HC := hid hcc
  clear hcc
  have hw2 : IntKind.i64.wrap (2 * m) = 2 * m := IntWalk.i64_in _ (by omega)
  obtain ⟨W, hW⟩ : ∃ W, Two w W m d 27 := ⟨_, ⟨rfl⟩⟩
  have HW := hid hW
  have B := hid hW.below
  have B1 := hid hW.b1
  have x0 := hW.b0.at_ 0 _ rfl
  have x1 := hW.b0.at_ 1 _ rfl
  have y0 := hW.b1.at_ 0 _ rfl
  have y1 := hW.b1.at_ 1 _ rfl
  have f0 := hW.b1.fr 0
  have f1 := hW.b1.fr 1
  clear hW
  go_enter Try.func13, Try.ntmps13
  go_upto_region 1 with fail
  rw [← HW.out.is]
  go_region_held3 (fun w' => w'.cell? ⟨w.heap.size, 0, none⟩ = some (.int .i64 m) ∧ w'.cell? ⟨w.heap.size, 1, none⟩ = some (.int .i64 d)) (first | exact ⟨x0, x1⟩ | go_keep) ((go_at_call 37; ((with_reducible refine (rcut_is _ _ _ c (by decide) HC.out _).mono ?_); rintro e w1 ⟨rfl, rfl⟩)))
  all_goals go_wp2_with fail
  all_goals
    obtain ⟨q0, q1⟩ := ret2 B1.out rfl (.int .i64 c) (.int .i64 d)
    refine bodyPost_ret (v := .agg #[.int .i64 c, .int .i64 d]) (by simp [results, Try.results13, go_sem, q0, q1]) rfl ⟨rfl, ?_⟩
    exact ((B.out.setCell (p := ⟨w.heap.size + 1, 0, none⟩) (Nat.le_succ _) _).setCell (p := ⟨w.heap.size + 1, 1, none⟩) (Nat.le_succ _) _).drew
set_option maxHeartbeats 2000000 in
theorem sample_any (m d t : Int) (h : In m d) (w : World) :
    Calls Try.prog 14 #[.agg #[.int .i64 m, .int .i64 d], .int .i64 t] w fun e w' => e = .returned (.agg #[.int .i64 (mN m t), .int .i64 (oN m d t)]) ∧ Below w.heap.size w w' := by
  have hin := in_sample m d t h
  obtain ⟨h1, h2, h3, h4⟩ := h
  have hcb := cut_in t 0 64 (by omega)
  obtain ⟨c, hcc⟩ : ∃ c, cutI t 0 64 = c := ⟨_, rfl⟩
  obtain ⟨x, hx⟩ : ∃ x, x = c - m / 8 := ⟨_, rfl⟩
  have eM : mN m t = (if m + x < 8 then 8 else m + x) := by unfold mN; rw [hcc, hx]
  have eO : oN m d t = d + ab x - d / 4 := by unfold oN; rw [hcc, hx]
  rw [hcc] at hcb
  have hxb : -64 ≤ x ∧ x ≤ 64 := by omega
  have HC := hid hcc
  have HX := hid hx
  obtain ⟨W, hW⟩ : ∃ W, Two w W m d 24 := ⟨_, ⟨rfl⟩⟩
  have HW := hid hW
  have B := hid hW.below
  have B1 := hid hW.b1
  have x0 := hW.b0.at_ 0 _ rfl
  have x1 := hW.b0.at_ 1 _ rfl
  have y0 := hW.b1.at_ 0 _ rfl
  have y1 := hW.b1.at_ 1 _ rfl
  have f0 := hW.b1.fr 0
  have f1 := hW.b1.fr 1
  have HM := hid eM
  have HO := hid eO
  have KC := hid (fun N : After W => after_call ((cut_is t 0 64 c (by decide) hcc N.w).mono fun e w' ⟨he, hw⟩ => ⟨he, same_below hw⟩))
  have KM := hid (fun N : After W => after_call (mean_any m d (by omega) (by omega) N.w))
  clear hW hcc hx eM eO hin
  have hsub : IntKind.i64.wrap (c - m / 8) = c - m / 8 := IntWalk.i64_in _ (by omega)
  go_enter Try.func14, Try.ntmps14
  go_upto_region 1 with fail
  rw [← HW.out.is]
  have z0 := After.cell x0
  have z1 := After.cell x1
  refine wp_region_after W (by kernel_rfl) (by kernel_rfl) ((Below.refl _ _).drew) ?_
  repeat (go_big_quiet_step (first | exact KC.out _ | exact KM.out _))
  refine wpQuiet_nil ?_
  intro w3 hw'
  obtain ⟨N3, e3⟩ := hw'
  have b3 : Below W.heap.size W w3 := by rw [e3]; exact N3.h
  clear e3 N3
  rw [← HX.out]
  have B3 := hid (B.out.trans (b3.mono B.out.size))
  have k1 := B1.out.next b3
  have K1 := hid k1
  have u0 := keep_cell b3 x0
  have u1 := keep_cell b3 x1
  clear x0 x1 y0 y1 f0 f1 z0 z1 KC KM b3 B B1 HW hsub k1
  have hs1 : IntKind.i64.wrap (m + x) = m + x := IntWalk.i64_in _ (by omega)
  have hs2 : IntKind.i64.wrap (-x) = -x := IntWalk.i64_in _ (by omega)
  have hs3 : IntKind.i64.wrap (d + x) = d + x := IntWalk.i64_in _ (by omega)
  have hs4 : IntKind.i64.wrap (d + -x) = d + -x := IntWalk.i64_in _ (by omega)
  have hs5 : IntKind.i64.wrap (d + x - d / 4) = d + x - d / 4 := IntWalk.i64_in _ (by omega)
  have hs6 : IntKind.i64.wrap (d + -x - d / 4) = d + -x - d / 4 := IntWalk.i64_in _ (by omega)
  go_upto_region 2 with fail
  by_cases hx0 : x < 0
  · have EO := hid (show oN m d t = d + -x - d / 4 by rw [HO.out]; unfold ab; rw [if_pos hx0])
    by_cases hm8 : m + x < 8
    · have EM := hid (show mN m t = 8 by rw [HM.out, if_pos hm8])
      go_region_held3 (fun w' => w'.cell? ⟨w.heap.size, 0, none⟩ = some (.int .i64 m) ∧ w'.cell? ⟨w.heap.size, 1, none⟩ = some (.int .i64 d)) (first | exact ⟨u0, u1⟩ | exact ⟨u5, u6⟩ | go_keep) ((go_at_call 17; ((with_reducible refine (off_any m d (by omega) (by omega) _).mono ?_); rintro e w4 ⟨rfl, b4⟩; have b5 : Below w3.heap.size w3 w4 := (Below.refl w3.heap.size w3).drew.trans b4; have k2 := K1.out.next b5; have v0 := k2.at_ 0 _ rfl; have v1 := k2.at_ 1 _ rfl; have g0 := k2.fr 0; have g1 := k2.fr 1; have u5 := keep_cell b5 u0; have u6 := keep_cell b5 u1)))
      all_goals go_wp2_with fail
      all_goals
        obtain ⟨q0, q1⟩ := ret2 k2 rfl (.int .i64 (8)) (.int .i64 (d + -x - d / 4))
        refine bodyPost_ret (v := .agg #[.int .i64 (8), .int .i64 (d + -x - d / 4)]) (by simp [results, Try.results14, go_sem, q0, q1]) rfl ⟨by rw [EM.out, EO.out], ?_⟩
        exact ((B3.out.trans (b5.mono B3.out.size)).setCell (p := ⟨w.heap.size + 1, 0, none⟩) (Nat.le_succ _) _).setCell (p := ⟨w.heap.size + 1, 1, none⟩) (Nat.le_succ _) _
    · have EM := hid (show mN m t = m + x by rw [HM.out, if_neg hm8])
      go_region_held3 (fun w' => w'.cell? ⟨w.heap.size, 0, none⟩ = some (.int .i64 m) ∧ w'.cell? ⟨w.heap.size, 1, none⟩ = some (.int .i64 d)) (first | exact ⟨u0, u1⟩ | exact ⟨u5, u6⟩ | go_keep) ((go_at_call 17; ((with_reducible refine (off_any m d (by omega) (by omega) _).mono ?_); rintro e w4 ⟨rfl, b4⟩; have b5 : Below w3.heap.size w3 w4 := (Below.refl w3.heap.size w3).drew.trans b4; have k2 := K1.out.next b5; have v0 := k2.at_ 0 _ rfl; have v1 := k2.at_ 1 _ rfl; have g0 := k2.fr 0; have g1 := k2.fr 1; have u5 := keep_cell b5 u0; have u6 := keep_cell b5 u1)))
      all_goals go_wp2_with fail
      all_goals
        obtain ⟨q0, q1⟩ := ret2 k2 rfl (.int .i64 (m + x)) (.int .i64 (d + -x - d / 4))
        refine bodyPost_ret (v := .agg #[.int .i64 (m + x), .int .i64 (d + -x - d / 4)]) (by simp [results, Try.results14, go_sem, q0, q1]) rfl ⟨by rw [EM.out, EO.out], ?_⟩
        exact ((B3.out.trans (b5.mono B3.out.size)).setCell (p := ⟨w.heap.size + 1, 0, none⟩) (Nat.le_succ _) _).setCell (p := ⟨w.heap.size + 1, 1, none⟩) (Nat.le_succ _) _
  · have EO := hid (show oN m d t = d + x - d / 4 by rw [HO.out]; unfold ab; rw [if_neg hx0])
    have hm8 : ¬ m + x < 8 := by omega
    have EM := hid (show mN m t = m + x by rw [HM.out, if_neg hm8])
    go_region_held3 (fun w' => w'.cell? ⟨w.heap.size, 0, none⟩ = some (.int .i64 m) ∧ w'.cell? ⟨w.heap.size, 1, none⟩ = some (.int .i64 d)) (first | exact ⟨u0, u1⟩ | exact ⟨u5, u6⟩ | go_keep) ((go_at_call 17; ((with_reducible refine (off_any m d (by omega) (by omega) _).mono ?_); rintro e w4 ⟨rfl, b4⟩; have b5 : Below w3.heap.size w3 w4 := (Below.refl w3.heap.size w3).drew.trans b4; have k2 := K1.out.next b5; have v0 := k2.at_ 0 _ rfl; have v1 := k2.at_ 1 _ rfl; have g0 := k2.fr 0; have g1 := k2.fr 1; have u5 := keep_cell b5 u0; have u6 := keep_cell b5 u1)))
    all_goals go_wp2_with fail
    all_goals
      obtain ⟨q0, q1⟩ := ret2 k2 rfl (.int .i64 (m + x)) (.int .i64 (d + x - d / 4))
      refine bodyPost_ret (v := .agg #[.int .i64 (m + x), .int .i64 (d + x - d / 4)]) (by simp [results, Try.results14, go_sem, q0, q1]) rfl ⟨by rw [EM.out, EO.out], ?_⟩
      exact ((B3.out.trans (b5.mono B3.out.size)).setCell (p := ⟨w.heap.size + 1, 0, none⟩) (Nat.le_succ _) _).setCell (p := ⟨w.heap.size + 1, 1, none⟩) (Nat.le_succ _) _
end Go.Proofs.Ytlfcjfmfkmcmiaa.rc
