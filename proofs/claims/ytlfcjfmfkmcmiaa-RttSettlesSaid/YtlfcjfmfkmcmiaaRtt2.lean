/- The contracts of package rtt, and of the document's own numbers: Wait, Sample; that the package lives. -/
import Derived.Test.YtlfcjfmfkmcmiaaRtt
namespace Go.Proofs.Ytlfcjfmfkmcmiaa.rc
open Go.RowKit
open Go.Proofs.Ytlfcjfmfkmcmiaa.kit Go.Proofs.Ytlfcjfmfkmcmiaa.rm
set_option linter.unusedVariables false

def waitI (m d : Int) : Int := cutI (m / 8 + d) 1 64
set_option maxHeartbeats 1000000 in
theorem wait_any (m d : Int) (h : In m d) (w : World) :
    Calls Try.prog 18 #[.agg #[.int .i64 m, .int .i64 d]] w fun e w' => e = .returned (.int .i64 (waitI m d)) ∧ Below w.heap.size w w' := by
  obtain ⟨h1, h2, h3, h4⟩ := h
  obtain ⟨c, hcc⟩ : ∃ c, waitI m d = c := ⟨_, rfl⟩
  rw [hcc]
  obtain ⟨W, hW⟩ : ∃ W, W = w.alloc (.cells #[.int .i64 m, .int .i64 d] 24) := ⟨_, rfl⟩
  have hb : Below w.heap.size w W := by rw [hW]; exact (Below.refl _ _).alloc (Nat.le_refl _) _
  have bx : Box W w.heap.size [.int .i64 m, .int .i64 d] := by rw [hW]; exact Box.made w #[.int .i64 m, .int .i64 d] _
  have x0 := bx.at_ 0 _ rfl
  have x1 := bx.at_ 1 _ rfl
  have B := hid hb
  have HW := hid hW
  have KC := hid (fun N : After W => after_call ((cut_is (m / 8 + d) 1 64 c (by decide) hcc N.w).mono fun e w' ⟨he, hw⟩ => ⟨he, same_below hw⟩))
  have KM := hid (fun N : After W => after_call (mean_any m d (by omega) (by omega) N.w))
  have hsum : IntKind.i64.wrap (m / 8 + d) = m / 8 + d := IntWalk.i64_in _ (by omega)
  clear hb bx hcc hW
  go_enter Try.func18, Try.ntmps18
  go_upto_region 1 with fail
  rw [← HW.out]
  have z0 := After.cell x0
  have z1 := After.cell x1
  refine wp_region_after W (by kernel_rfl) (by kernel_rfl) ((Below.refl _ _).drew) ?_
  repeat (go_big_quiet_step (first | exact KC.out _ | exact KM.out _))
  refine wpQuiet_nil ?_
  intro w3 hw'
  obtain ⟨N3, e3⟩ := hw'
  have b3 : Below W.heap.size W w3 := by rw [e3]; exact N3.h
  clear e3 N3
  go_wp2_with fail
  go_ret
  exact ⟨rfl, B.out.trans (b3.mono B.out.size)⟩
theorem rwait_any (m d : Int) (h : In m d) (w : World) :
    Calls Try.prog 19 #[.agg #[.int .i64 m, .int .i64 d]] w fun e w' => e = .returned (.int .i64 (waitI m d)) ∧ Below w.heap.size w w' := by
  obtain ⟨h1, h2, h3, h4⟩ := h
  obtain ⟨c, hcc⟩ : ∃ c, waitI m d = c := ⟨_, rfl⟩
  rw [hcc]
  have KC := hid (fun W => rcut_is (m / 8 + d) 1 64 c (by decide) hcc W)
  clear hcc
  go_enter Try.func19, Try.ntmps19
  go_wp2_with (go_at_call 37; ((with_reducible refine (KC.out _).mono ?_); rintro e w1 ⟨rfl, rfl⟩))
  go_ret
  exact ⟨rfl, (Below.refl _ _).alloc (Nat.le_refl _) _⟩
set_option maxHeartbeats 2000000 in
theorem rsample_any (m d t : Int) (h : In m d) (w : World) :
    Calls Try.prog 15 #[.agg #[.int .i64 m, .int .i64 d], .int .i64 t] w fun e w' => e = .returned (.agg #[.int .i64 (mN m t), .int .i64 (oN m d t)]) ∧ Below w.heap.size w w' := by
  obtain ⟨h1, h2, h3, h4⟩ := h
  have hcb := cut_in t 0 64 (by omega)
  obtain ⟨c, hcc⟩ : ∃ c, cutI t 0 64 = c := ⟨_, rfl⟩
  obtain ⟨x, hx⟩ : ∃ x, x = c - m / 8 := ⟨_, rfl⟩
  have eM : mN m t = (if m + x < 8 then 8 else m + x) := by unfold mN; rw [hcc, hx]
  have eO : oN m d t = d + ab x - d / 4 := by unfold oN; rw [hcc, hx]
  rw [hcc] at hcb
  have hxb : -64 ≤ x ∧ x ≤ 64 := by omega
  have HX := hid hx
  obtain ⟨W, hW⟩ : ∃ W, Two w W m d 27 := ⟨_, ⟨rfl⟩⟩
  have HW := hid hW
  have B := hid hW.below
  have B1 := hid hW.b1
  have x0 := hW.b0.at_ 0 _ rfl
  have x1 := hW.b0.at_ 1 _ rfl
  have HM := hid eM
  have HO := hid eO
  have KC := hid (fun N : After W => after_call ((rcut_is t 0 64 c (by decide) hcc N.w).mono fun e w' ⟨he, hw⟩ => ⟨he, same_below hw⟩))
  clear hW hcc hx eM eO
  have hsub : IntKind.i64.wrap (c - m / 8) = c - m / 8 := IntWalk.i64_in _ (by omega)
  have htd : m.tdiv 8 = m / 8 := Int.tdiv_eq_ediv_of_nonneg (by omega)
  have hwd : IntKind.i64.wrap (m / 8) = m / 8 := IntWalk.i64_in _ (by omega)
  go_enter Try.func15, Try.ntmps15
  go_upto_region 1 with fail
  rw [← HW.out.is]
  have z0 := After.cell x0
  have z1 := After.cell x1
  refine wp_region_after W (by kernel_rfl) (by kernel_rfl) ((Below.refl _ _).drew) ?_
  repeat (go_big_quiet_step (exact KC.out _))
  refine wpQuiet_nil ?_
  intro w3 hw'
  obtain ⟨N3, e3⟩ := hw'
  have b3 : Below W.heap.size W w3 := by rw [e3]; exact N3.h
  clear e3 N3
  rw [← HX.out]
  have B3 := hid (B.out.trans (b3.mono B.out.size))
  have k2 := B1.out.next b3
  have u0 := keep_cell b3 x0
  have u1 := keep_cell b3 x1
  have v0 := k2.at_ 0 _ rfl
  have v1 := k2.at_ 1 _ rfl
  have g0 := k2.fr 0
  have g1 := k2.fr 1
  have K2 := hid k2
  clear x0 x1 z0 z1 KC b3 B B1 HW hsub htd hwd k2
  by_cases hx0 : x < 0
  · have EO := hid (show oN m d t = d + -x - d / 4 by rw [HO.out]; unfold ab; rw [if_pos hx0])
    by_cases hm8 : m + x < 8
    · have EM := hid (show mN m t = 8 by rw [HM.out, if_pos hm8])
      go_wp2_with fail
      obtain ⟨q0, q1⟩ := ret2 K2.out rfl (.int .i64 8) (.int .i64 (d + -x - d / 4))
      refine bodyPost_ret (v := .agg #[.int .i64 8, .int .i64 (d + -x - d / 4)]) (by simp [results, Try.results15, go_sem, q0, q1]) rfl ⟨by rw [EM.out, EO.out], ?_⟩
      exact (B3.out.setCell (p := ⟨w.heap.size + 1, 0, none⟩) (Nat.le_succ _) _).setCell (p := ⟨w.heap.size + 1, 1, none⟩) (Nat.le_succ _) _
    · have EM := hid (show mN m t = m + x by rw [HM.out, if_neg hm8])
      go_wp2_with fail
      obtain ⟨q0, q1⟩ := ret2 K2.out rfl (.int .i64 (m + x)) (.int .i64 (d + -x - d / 4))
      refine bodyPost_ret (v := .agg #[.int .i64 (m + x), .int .i64 (d + -x - d / 4)]) (by simp [results, Try.results15, go_sem, q0, q1]) rfl ⟨by rw [EM.out, EO.out], ?_⟩
      exact (B3.out.setCell (p := ⟨w.heap.size + 1, 0, none⟩) (Nat.le_succ _) _).setCell (p := ⟨w.heap.size + 1, 1, none⟩) (Nat.le_succ _) _
  · have EO := hid (show oN m d t = d + x - d / 4 by rw [HO.out]; unfold ab; rw [if_neg hx0])
    have hm8 : ¬ m + x < 8 := by omega
    have EM := hid (show mN m t = m + x by rw [HM.out, if_neg hm8])
    go_wp2_with fail
    obtain ⟨q0, q1⟩ := ret2 K2.out rfl (.int .i64 (m + x)) (.int .i64 (d + x - d / 4))
    refine bodyPost_ret (v := .agg #[.int .i64 (m + x), .int .i64 (d + x - d / 4)]) (by simp [results, Try.results15, go_sem, q0, q1]) rfl ⟨by rw [EM.out, EO.out], ?_⟩
    exact (B3.out.setCell (p := ⟨w.heap.size + 1, 0, none⟩) (Nat.le_succ _) _).setCell (p := ⟨w.heap.size + 1, 1, none⟩) (Nat.le_succ _) _
theorem alive_any (w : World) :
    Calls Try.prog 20 #[] w fun e w' => e = .returned (.bool true) ∧ Below w.heap.size w w' := by
  have h1 : 8 * cutI 2 1 64 = 16 := by decide
  have h2 : waitI 16 0 = 2 := by decide
  have KN := hid (fun w => h1 ▸ new_any 2 w)
  have KW := hid (fun w => h2 ▸ wait_any 16 0 (by unfold In; decide) w)
  clear h1 h2
  go_enter Try.func20, Try.ntmps20
  go_wp2_with (first | (go_at_call 10; ((with_reducible refine (KN.out _).mono ?_); rintro e w1 ⟨rfl, b1⟩)) | (go_at_call 18; ((with_reducible refine (KW.out _).mono ?_); rintro e w2 ⟨rfl, b2⟩)))
  go_ret
  exact ⟨rfl, b1.trans (b2.mono b1.size)⟩
end Go.Proofs.Ytlfcjfmfkmcmiaa.rc
