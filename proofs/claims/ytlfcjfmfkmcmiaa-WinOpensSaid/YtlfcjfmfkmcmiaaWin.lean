/- The contracts of package win, and of the document's own windows. -/
import Derived.Test.YtlfcjfmfkmcmiaaWinMath
import Derived.Test.YtlfcjfmfkmcmiaaCells
import Derived.Test.YtlfcjfmfkmcmiaaTailC
import Derived.Deep.DeepCutAuto
import Derived.LoopTactic
namespace Go.Proofs.Ytlfcjfmfkmcmiaa.wc
open Go.RowKit
open Go.Proofs.Ytlfcjfmfkmcmiaa.kit Go.Proofs.Ytlfcjfmfkmcmiaa.wm
set_option linter.unusedVariables false

theorem cut_any (n lo hi : Int) (h : lo ≤ hi) (w : World) :
    Calls Try.prog 38 #[.int .i64 n, .int .i64 lo, .int .i64 hi] w fun e w' => e = .returned (.int .i64 (cutI n lo hi)) ∧ w = w' := by
  by_cases h1 : n < lo
  · have H := hid (show cutI n lo hi = lo by unfold cutI; rw [if_pos h1])
    go_enter Try.func38, Try.ntmps38
    go_wp2
    all_goals go_ret
    all_goals exact ⟨ret_int (by rw [H.out] <;> omega), rfl⟩
  · by_cases h2 : hi < n
    · have H := hid (show cutI n lo hi = hi by unfold cutI; rw [if_neg h1, if_pos h2])
      go_enter Try.func38, Try.ntmps38
      go_wp2
      all_goals go_ret
      all_goals exact ⟨ret_int (by rw [H.out] <;> omega), rfl⟩
    · have H := hid (show cutI n lo hi = n by unfold cutI; rw [if_neg h1, if_neg h2])
      go_enter Try.func38, Try.ntmps38
      go_wp2
      all_goals go_ret
      all_goals exact ⟨ret_int (by rw [H.out] <;> omega), rfl⟩
theorem rcut_any (n lo hi : Int) (h : lo ≤ hi) (w : World) :
    Calls Try.prog 40 #[.int .i64 n, .int .i64 lo, .int .i64 hi] w fun e w' => e = .returned (.int .i64 (cutI n lo hi)) ∧ w = w' := by
  by_cases h1 : n < lo
  · have H := hid (show cutI n lo hi = lo by unfold cutI; rw [if_pos h1])
    go_enter Try.func40, Try.ntmps40
    go_wp2
    go_ret
    exact ⟨ret_int H.out.symm, rfl⟩
  · by_cases h2 : hi < n
    · have H := hid (show cutI n lo hi = hi by unfold cutI; rw [if_neg h1, if_pos h2])
      go_enter Try.func40, Try.ntmps40
      go_wp2
      go_ret
      exact ⟨ret_int H.out.symm, rfl⟩
    · have H := hid (show cutI n lo hi = n by unfold cutI; rw [if_neg h1, if_neg h2])
      go_enter Try.func40, Try.ntmps40
      go_wp2
      go_ret
      exact ⟨ret_int H.out.symm, rfl⟩
theorem half_any (n : Int) (h0 : 0 ≤ n) (h1 : n ≤ 1000) (w : World) :
    Calls Try.prog 39 #[.int .i64 n] w fun e w' => e = .returned (.int .i64 ((n + 1) / 2)) ∧ w = w' := by
  go_enter Try.func39, Try.ntmps39
  go_wp2
  go_ret
  exact ⟨rfl, rfl⟩
theorem size_any (s n c : Int) (w : World) :
    Calls Try.prog 27 #[.agg #[.int .i64 s, .int .i64 n, .int .i64 c]] w fun e w' => e = .returned (.int .i64 s) ∧ Below w.heap.size w w' := by
  go_enter Try.func27, Try.ntmps27
  go_wp2
  go_ret
  exact ⟨rfl, (Below.refl _ _).alloc (Nat.le_refl _) _⟩
theorem most_any (s n c : Int) (w : World) :
    Calls Try.prog 28 #[.agg #[.int .i64 s, .int .i64 n, .int .i64 c]] w fun e w' => e = .returned (.int .i64 n) ∧ Below w.heap.size w w' := by
  go_enter Try.func28, Try.ntmps28
  go_wp2
  go_ret
  exact ⟨rfl, (Below.refl _ _).alloc (Nat.le_refl _) _⟩
theorem new_any (t : Int) (w : World) :
    Calls Try.prog 21 #[.int .i64 t] w fun e w' => e = .returned (.agg #[.int .i64 ((cutI t 1 16 + 1) / 2), .int .i64 (cutI t 1 16), .int .i64 0]) ∧ Below w.heap.size w w' := by
  have hc := cut_in t 1 16 (by omega)
  have KC := hid (fun w => cut_any t 1 16 (by omega) w)
  generalize cutI t 1 16 = c at *
  go_enter Try.func21, Try.ntmps21
  go_wp2_with (first | (go_at_call 38; ((with_reducible refine (KC.out _).mono ?_); rintro e w1 ⟨rfl, rfl⟩)) | (go_at_call 39; ((with_reducible refine (half_any c (by omega) (by omega) _).mono ?_); rintro e w1 ⟨rfl, rfl⟩)))
  exact bodyPost_ret (v := .agg #[.int .i64 ((c + 1) / 2), .int .i64 c, .int .i64 0]) (by simp [results, Try.results21, go_sem]) rfl ⟨rfl, (Below.refl _ _).alloc (Nat.le_refl _) _⟩
theorem rnew_any (t : Int) (w : World) :
    Calls Try.prog 22 #[.int .i64 t] w fun e w' => e = .returned (.agg #[.int .i64 ((cutI t 1 16 + 1) / 2), .int .i64 0, .int .i64 (cutI t 1 16)]) ∧ Below w.heap.size w w' := by
  have hc := cut_in t 1 16 (by omega)
  have KC := hid (fun w => rcut_any t 1 16 (by omega) w)
  generalize cutI t 1 16 = c at *
  obtain ⟨c1, c2⟩ := hc
  go_enter Try.func22, Try.ntmps22
  go_wp2_with (go_at_call 40; ((with_reducible refine (KC.out _).mono ?_); rintro e w1 ⟨rfl, rfl⟩))
  exact bodyPost_ret (v := .agg #[.int .i64 ((c + 1) / 2), .int .i64 0, .int .i64 c]) (by simp [results, Try.results22, go_sem]) rfl ⟨rfl, (Below.refl _ _).alloc (Nat.le_refl _) _⟩
theorem ret3 {w : World} {g : Nat} {vs : List Value} (h : Box w g vs) (hv : vs.length = 3) (u v x : Value) :
    (((w.setCell ⟨g, 0, none⟩ u).setCell ⟨g, 1, none⟩ v).setCell ⟨g, 2, none⟩ x).cell? ⟨g, 0, none⟩ = some u ∧ (((w.setCell ⟨g, 0, none⟩ u).setCell ⟨g, 1, none⟩ v).setCell ⟨g, 2, none⟩ x).cell? ⟨g, 1, none⟩ = some v ∧ (((w.setCell ⟨g, 0, none⟩ u).setCell ⟨g, 1, none⟩ v).setCell ⟨g, 2, none⟩ x).cell? ⟨g, 2, none⟩ = some x := by
  have hb := ((h.set 0 u).set 1 v).set 2 x
  match vs, hv with
  | [a, b, c], _ => exact ⟨hb.at_ 0 _ rfl, hb.at_ 1 _ rfl, hb.at_ 2 _ rfl⟩
/-- what a method of three numbers stands in: its receiver's block and its result's -/
structure Three (w W : World) (x y z : Int) : Prop where
  b : Below w.heap.size w W
  p : Box W w.heap.size [.int .i64 x, .int .i64 y, .int .i64 z]
  r : Box W (w.heap.size + 1) [.int .i64 0, .int .i64 0, .int .i64 0]
theorem Three.start (w : World) (x y z : Int) (t : TypeId) : Three w ((w.alloc (.cells #[.int .i64 x, .int .i64 y, .int .i64 z] t)).alloc (.cells #[.int .i64 0, .int .i64 0, .int .i64 0] t)) x y z := by
  refine ⟨((Below.refl _ _).alloc (Nat.le_refl _) _).alloc (by simp) _, (Box.made w #[.int .i64 x, .int .i64 y, .int .i64 z] t).next ((Below.refl _ _).alloc (Nat.le_refl _) _), ?_⟩
  have := Box.made (w.alloc (.cells #[.int .i64 x, .int .i64 y, .int .i64 z] t)) #[.int .i64 0, .int .i64 0, .int .i64 0] t
  simpa using this
theorem Three.next {w W W' : World} {x y z : Int} (h : Three w W x y z) (hb : Below W.heap.size W W') : Three w W' x y z := ⟨h.b.trans (hb.mono h.b.size), h.p.next hb, h.r.next hb⟩
theorem Three.set0 {w W : World} {x y z : Int} (h : Three w W x y z) (u : Int) : Three w (W.setCell ⟨w.heap.size, 0, none⟩ (.int .i64 u)) u y z :=
  ⟨h.b.setCell (p := ⟨w.heap.size, 0, none⟩) (Nat.le_refl _) _, h.p.set 0 _, h.r.other (by omega) _⟩
theorem Three.set1 {w W : World} {x y z : Int} (h : Three w W x y z) (u : Int) : Three w (W.setCell ⟨w.heap.size, 1, none⟩ (.int .i64 u)) x u z :=
  ⟨h.b.setCell (p := ⟨w.heap.size, 1, none⟩) (Nat.le_refl _) _, h.p.set 1 _, h.r.other (by omega) _⟩
theorem Three.set2 {w W : World} {x y z : Int} (h : Three w W x y z) (u : Int) : Three w (W.setCell ⟨w.heap.size, 2, none⟩ (.int .i64 u)) x y u :=
  ⟨h.b.setCell (p := ⟨w.heap.size, 2, none⟩) (Nat.le_refl _) _, h.p.set 2 _, h.r.other (by omega) _⟩
theorem Three.end_ {w W : World} {x y z : Int} (h : Three w W x y z) (u v t : Value) : Below w.heap.size w (((W.setCell ⟨w.heap.size + 1, 0, none⟩ u).setCell ⟨w.heap.size + 1, 1, none⟩ v).setCell ⟨w.heap.size + 1, 2, none⟩ t) :=
  ((h.b.setCell (p := ⟨w.heap.size + 1, 0, none⟩) (Nat.le_succ _) _).setCell (p := ⟨w.heap.size + 1, 1, none⟩) (Nat.le_succ _) _).setCell (p := ⟨w.heap.size + 1, 2, none⟩) (Nat.le_succ _) _
theorem same_below {w w' : World} (h : w = w') : Below w.heap.size w w' := by subst h; exact Below.refl _ _
theorem rlate_any (n s c : Int) (h : In n s c) (w : World) :
    Calls Try.prog 24 #[.agg #[.int .i64 s, .int .i64 c, .int .i64 n]] w fun e w' => e = .returned (.agg #[.int .i64 ((s + 1) / 2), .int .i64 0, .int .i64 n]) ∧ Below w.heap.size w w' := by
  obtain ⟨h1, h2, h3, h4, h5, h6⟩ := h
  go_enter Try.func24, Try.ntmps24
  go_wp2
  exact bodyPost_ret (v := .agg #[.int .i64 ((s + 1) / 2), .int .i64 0, .int .i64 n]) (by simp [results, Try.results24, go_sem]) rfl ⟨rfl, ((Below.refl _ _).alloc (Nat.le_refl _) _).alloc (by simp) _⟩
set_option maxHeartbeats 1000000 in
theorem late_any (n s c : Int) (h : In n s c) (w : World) :
    Calls Try.prog 23 #[.agg #[.int .i64 s, .int .i64 n, .int .i64 c]] w fun e w' => e = .returned (.agg #[.int .i64 ((s + 1) / 2), .int .i64 n, .int .i64 0]) ∧ Below w.heap.size w w' := by
  obtain ⟨h1, h2, h3, h4, h5, h6⟩ := h
  obtain ⟨W, hW⟩ : ∃ W, W = (w.alloc (.cells #[.int .i64 s, .int .i64 n, .int .i64 c] 36)).alloc (.cells #[.int .i64 0, .int .i64 0, .int .i64 0] 36) := ⟨_, rfl⟩
  have T := hid (show Three w W s n c by rw [hW]; exact Three.start w s n c _)
  have HW := hid hW
  have x0 := T.out.p.at_ 0 _ rfl
  have x1 := T.out.p.at_ 1 _ rfl
  have z0 := After.cell x0
  have z1 := After.cell x1
  have KC := hid (fun N : After W => after_call ((half_any s (by omega) (by omega) N.w).mono fun e w' ⟨he, hw⟩ => ⟨he, same_below hw⟩))
  clear hW
  go_enter Try.func23, Try.ntmps23
  go_upto_region 1 with fail
  rw [← HW.out]
  refine wp_region_after_tail W 6 (by kernel_rfl) (by kernel_rfl) ((Below.refl _ _).drew) ?_
  simp only [List.take_succ_cons, List.take_zero, List.drop_succ_cons, List.drop_zero]
  repeat (go_big_quiet_step (exact KC.out _))
  refine wpQuiet_nil ?_
  intro w3 hw'
  obtain ⟨N3, e3⟩ := hw'
  have b3 : Below W.heap.size W w3 := by rw [e3]; exact N3.h
  clear e3 N3 KC z0 z1 x0 x1
  have kd := T.out.next b3
  have v0 := kd.r.at_ 0 _ rfl
  have v1 := kd.r.at_ 1 _ rfl
  have v2 := kd.r.at_ 2 _ rfl
  have f0 := kd.r.fr 0
  have f1 := kd.r.fr 1
  have f2 := kd.r.fr 2
  have KD := hid kd
  clear kd b3 T HW
  go_wp2_with fail
  obtain ⟨q0, q1, q2⟩ := ret3 KD.out.r rfl (.int .i64 ((s + 1) / 2)) (.int .i64 n) (.int .i64 0)
  exact bodyPost_ret (v := .agg #[.int .i64 ((s + 1) / 2), .int .i64 n, .int .i64 0]) (by simp [results, Try.results23, go_sem, q0, q1, q2]) rfl ⟨rfl, KD.out.end_ _ _ _⟩
set_option maxHeartbeats 2000000 in
theorem acked_any (n s c x : Int) (h : In n s c) (w : World) :
    Calls Try.prog 25 #[.agg #[.int .i64 s, .int .i64 n, .int .i64 c], .int .i64 x] w fun e w' => e = .returned (.agg #[.int .i64 (sR n (kOf x) s c), .int .i64 n, .int .i64 (cR n (kOf x) s c)]) ∧ Below w.heap.size w w' := by
  have HI := hid (fun k => in_acks n s c h k)
  obtain ⟨hK1, hK2⟩ := kOf_le x
  obtain ⟨K, hK⟩ : ∃ K, K = kOf x := ⟨_, rfl⟩
  rw [← hK] at hK1 hK2 ⊢
  have KC := hid (fun w => hK2 ▸ cut_any x 0 16 (by omega) w)
  obtain ⟨W, hW⟩ : ∃ W, W = (w.alloc (.cells #[.int .i64 s, .int .i64 n, .int .i64 c] 36)).alloc (.cells #[.int .i64 0, .int .i64 0, .int .i64 0] 36) := ⟨_, rfl⟩
  have T : Hid (Three w W (sR n 0 s c) n (cR n 0 s c)) := hid (show Three w W s n c by rw [hW]; exact Three.start w s n c _)
  have HW := hid hW
  clear hW hK hK2 h
  go_enter Try.func25, Try.ntmps25
  go_upto_region 1 with fail
  rw [← HW.out]
  go_wp2_with (go_at_call 38; ((with_reducible refine (KC.out _).mono ?_); rintro e w1 ⟨rfl, rfl⟩))
  go_loopw [7] (fun iv wr => ∃ j : Nat, j ≤ K ∧ iv = .int .i64 j ∧ Hid (Three w wr (sR n j s c) n (cR n j s c))) (fun iv _ => K - (intOf iv).toNat)
  case atStart => exact ⟨0, Nat.zero_le _, rfl, T⟩
  case round =>
    clear T
    obtain ⟨j, hj, rfl, HT⟩ := hrel
    by_cases hlt : j < K
    · obtain ⟨h1, h2, h3, h4, h5, h6⟩ := HI.out j
      have ES := hid (sR_succ n j s c)
      have EC := hid (cR_succ n j s c)
      obtain ⟨S, hS⟩ : ∃ S, S = sR n j s c := ⟨_, rfl⟩
      obtain ⟨C, hC⟩ : ∃ C, C = cR n j s c := ⟨_, rfl⟩
      rw [← hS, ← hC] at ES EC
      rw [← hS] at h3 h4 h6 HT
      rw [← hC] at h5 h6 HT
      clear hS hC
      have x0 := HT.out.p.at_ 0 _ rfl
      have x1 := HT.out.p.at_ 1 _ rfl
      have x2 := HT.out.p.at_ 2 _ rfl
      have f0 := HT.out.p.fr 0
      have f1 := HT.out.p.fr 1
      have f2 := HT.out.p.fr 2
      by_cases hge : C + 1 < S
      · have e1 := hid (show sR n (j + 1) s c = S by rw [ES.out]; unfold s1; rw [if_neg (by omega)])
        have e2 := hid (show cR n (j + 1) s c = C + 1 by rw [EC.out]; unfold c1; rw [if_neg (by omega)])
        go_wp2_with fail
        go_roundw
        case rel => exact ⟨j + 1, by omega, by go_num, by rw [e1.out, e2.out]; exact hid (HT.out.set2 _)⟩
        case measure => simp [intOf]; omega
      · by_cases hm : S < n
        · have e1 := hid (show sR n (j + 1) s c = S + 1 by rw [ES.out]; unfold s1; rw [if_pos (by omega), if_pos hm])
          have e2 := hid (show cR n (j + 1) s c = 0 by rw [EC.out]; unfold c1; rw [if_pos (by omega)])
          go_wp2_with fail
          all_goals go_roundw
          all_goals first | omega | skip
          case rel => exact ⟨j + 1, by omega, by go_num, by rw [e1.out, e2.out]; exact hid (((HT.out.set2 _).set0 _).set2 _)⟩
          case measure => simp [intOf]; omega
        · have e1 := hid (show sR n (j + 1) s c = n by rw [ES.out]; unfold s1; rw [if_pos (by omega), if_neg hm]; omega)
          have e2 := hid (show cR n (j + 1) s c = 0 by rw [EC.out]; unfold c1; rw [if_pos (by omega)])
          go_wp2_with fail
          all_goals go_roundw
          all_goals first | omega | skip
          case rel => exact ⟨j + 1, by omega, by go_num, by rw [e1.out, e2.out]; exact hid (((HT.out.set2 _).set0 _).set2 _)⟩
          case measure => simp [intOf]; omega
    · obtain rfl : j = K := by omega
      have x0 := HT.out.p.at_ 0 _ rfl
      have x1 := HT.out.p.at_ 1 _ rfl
      have x2 := HT.out.p.at_ 2 _ rfl
      have v0 := HT.out.r.at_ 0 _ rfl
      have v1 := HT.out.r.at_ 1 _ rfl
      have v2 := HT.out.r.at_ 2 _ rfl
      have f0 := HT.out.r.fr 0
      have f1 := HT.out.r.fr 1
      have f2 := HT.out.r.fr 2
      clear HI KC HW
      go_wp2_with fail
      obtain ⟨q0, q1, q2⟩ := ret3 HT.out.r rfl (.int .i64 (sR n j s c)) (.int .i64 n) (.int .i64 (cR n j s c))
      exact bodyPost_ret (v := .agg #[.int .i64 (sR n j s c), .int .i64 n, .int .i64 (cR n j s c)]) (by simp [results, Try.results25, go_sem, q0, q1, q2]) rfl ⟨rfl, HT.out.end_ _ _ _⟩
end Go.Proofs.Ytlfcjfmfkmcmiaa.wc
