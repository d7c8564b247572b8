/- The contracts of package limit, and of the law's own numbers. -/
import Derived.Test.YtcbfebbnelofpaaLimMath
import Derived.Test.YtcbfebbnelofpaaTwo
import Derived.Test.YtcbfebbnelofpaaTailC
import Derived.Deep.DeepCutAuto
import Derived.LoopTactic
namespace Go.Proofs.Ytcbfebbnelofpaa.lmc
open Go.RowKit
open Go.Proofs.Ytcbfebbnelofpaa.kit Go.Proofs.Ytcbfebbnelofpaa.lmm
set_option linter.unusedVariables false
theorem cut_any (n : Int) (w : World) :
    Calls Try.prog 69 #[.int .i64 n] w fun e w' => e = .returned (.int .i64 (cutI n 0 1048576)) ∧ w = w' := by
  by_cases h1 : n < 0
  · have H := hid (cut_le (n := n) (lo := 0) (hi := 1048576) (by omega) h1)
    go_enter Try.func69, Try.ntmps69
    go_wp2
    all_goals go_ret
    all_goals exact ⟨ret_int (by rw [H.out] <;> omega), rfl⟩
  · by_cases h2 : 1048576 < n
    · have H := hid (cut_ge (n := n) (lo := 0) (hi := 1048576) (by omega) h2)
      go_enter Try.func69, Try.ntmps69
      go_wp2
      all_goals go_ret
      all_goals exact ⟨ret_int (by rw [H.out] <;> omega), rfl⟩
    · have H := hid (cut_mid (n := n) (lo := 0) (hi := 1048576) (by omega) (by omega))
      go_enter Try.func69, Try.ntmps69
      go_wp2
      all_goals go_ret
      all_goals exact ⟨ret_int (by rw [H.out] <;> omega), rfl⟩
theorem lcut_any (n lo hi : Int) (h : lo ≤ hi) (w : World) :
    Calls Try.prog 27 #[.int .i64 n, .int .i64 lo, .int .i64 hi] w fun e w' => e = .returned (.int .i64 (cutI n lo hi)) ∧ w = w' := by
  by_cases h1 : n < lo
  · have H := hid (cut_le h h1)
    go_enter Try.func27, Try.ntmps27
    go_wp2
    all_goals go_ret
    all_goals exact ⟨ret_int (by rw [H.out] <;> omega), rfl⟩
  · by_cases h2 : hi < n
    · have H := hid (cut_ge h h2)
      go_enter Try.func27, Try.ntmps27
      go_wp2
      all_goals go_ret
      all_goals exact ⟨ret_int (by rw [H.out] <;> omega), rfl⟩
    · have H := hid (cut_mid (n := n) (lo := lo) (hi := hi) (by omega) (by omega))
      go_enter Try.func27, Try.ntmps27
      go_wp2
      all_goals go_ret
      all_goals exact ⟨ret_int (by rw [H.out] <;> omega), rfl⟩
theorem far_no (n : Int) (w : World) (h0 : -1099511627776 ≤ n) (h1 : n ≤ 1099511627776) :
    Calls Try.prog 25 #[.int .i64 n] w fun e w' => e = .returned (.bool false) ∧ w = w' := by
  have q0 : decide (n < -1099511627776) = false := by simp; omega
  have q1 : decide (1099511627776 < n) = false := by simp; omega
  go_enter Try.func25, Try.ntmps25
  go_wp2
  go_ret
  exact ⟨rfl, rfl⟩
theorem far_yes (n : Int) (w : World) (h : n < -1099511627776 ∨ 1099511627776 < n) :
    Calls Try.prog 25 #[.int .i64 n] w fun e w' => e = .returned (.bool true) ∧ w = w' := by
  by_cases h0 : n < -1099511627776
  · go_enter Try.func25, Try.ntmps25
    go_wp2
    go_ret
    exact ⟨rfl, rfl⟩
  · have h1 : 1099511627776 < n := by omega
    clear h
    go_enter Try.func25, Try.ntmps25
    go_wp2
    go_ret
    exact ⟨rfl, rfl⟩
/-- a bucket -/
def bk (r d h a : Int) : Array Value := #[.int .i64 r, .int .i64 d, .int .i64 h, .int .i64 a]
structure Ok (r d h a : Int) : Prop where
  r0 : 0 ≤ r
  r1 : r ≤ 1048576
  h0 : 0 ≤ h
  hd : h ≤ d
  d1 : d ≤ 1048576
  a0 : -1099511627776 ≤ a
  a1 : a ≤ 1099511627776
theorem new_any (r d a : Int) (w : World) :
    Calls Try.prog 26 #[.int .i64 r, .int .i64 d, .int .i64 a] w fun e w' => e = .returned (.agg (bk (cutI r 0 1048576) (cutI d 0 1048576) (cutI d 0 1048576) a)) ∧ Below w.heap.size w w' := by
  unfold bk
  have K1 := hid (fun w => cut_any r w)
  have K2 := hid (fun w => cut_any d w)
  generalize cutI r 0 1048576 = r' at *
  generalize cutI d 0 1048576 = d' at *
  go_enter Try.func26, Try.ntmps26
  go_wp2_with (go_at_call 69; first | ((with_reducible refine (K2.out _).mono ?_); rintro e w1 ⟨rfl, rfl⟩) | ((with_reducible refine (K1.out _).mono ?_); rintro e w1 ⟨rfl, rfl⟩))
  exact bodyPost_ret (v := .agg #[.int .i64 r', .int .i64 d', .int .i64 d', .int .i64 a]) (by simp [results, Try.results26, go_sem]) rfl ⟨rfl, (Below.refl _ _).alloc (Nat.le_refl _) _⟩
theorem have_any (r d h a : Int) (w : World) :
    Calls Try.prog 30 #[.agg (bk r d h a)] w fun e w' => e = .returned (.int .i64 h) ∧ Below w.heap.size w w' := by
  unfold bk
  go_enter Try.func30, Try.ntmps30
  go_wp2
  go_ret
  exact ⟨rfl, (Below.refl _ _).alloc (Nat.le_refl _) _⟩
theorem two_new (w : World) (o o' : Obj) : Below w.heap.size w ((w.alloc o).alloc o') := ((Below.refl _ _).alloc (Nat.le_refl _) _).alloc (by simp) _
theorem fill_old (r d h a now : Int) (hn : now ≤ a) (w : World) :
    Calls Try.prog 29 #[.agg (bk r d h a), .int .i64 now] w fun e w' => e = .returned (.agg (bk r d h a)) ∧ Below w.heap.size w w' := by
  unfold bk
  go_enter Try.func29, Try.ntmps29
  go_wp2
  exact bodyPost_ret (v := .agg #[.int .i64 r, .int .i64 d, .int .i64 h, .int .i64 a]) (by simp [results, Try.results29, go_sem]) rfl ⟨rfl, two_new _ _ _⟩
set_option maxHeartbeats 1000000 in
theorem fill_new (r d h a now : Int) (ok : Ok r d h a) (hn : a < now) (hm : now ≤ 1099511627776) (w : World) :
    Calls Try.prog 29 #[.agg (bk r d h a), .int .i64 now] w fun e w' => e = .returned (.agg (bk r d (fl h r d (now - a)) now)) ∧ Below w.heap.size w w' := by
  unfold bk
  obtain ⟨r0, r1, h0, hd, d1, a0, a1⟩ := ok
  have hw := wrap_diff a now (by omega) (by omega)
  obtain ⟨t, ht⟩ : ∃ t, t = now - a := ⟨_, rfl⟩
  rw [← ht] at hw ⊢
  have t0 : 1 ≤ t := by omega
  have t1 : t ≤ 2199023255552 := by omega
  have HW := hid ht
  clear ht
  by_cases hbig : t ≤ 1048576
  · have hc : IntKind.i64.wrap t = t := IntWalk.i64_in _ (by omega)
    have p0 : 0 ≤ r * t := mul_nn r0 (by omega)
    have p1 : r * t ≤ 1048576 * 1048576 := mul_bd r0 r1 (by omega) hbig
    have hf : fl h r d t = mn (h + r * t) d := by unfold fl; rw [show mn t 1048576 = t by unfold mn; rw [if_pos hbig]]
    by_cases hle : h + r * t ≤ d
    · have HF := hid (show fl h r d t = h + r * t by rw [hf]; unfold mn; rw [if_pos hle])
      clear hf
      go_enter Try.func29, Try.ntmps29
      go_wp2
      rw [HF.out]
      exact bodyPost_ret (v := .agg #[.int .i64 r, .int .i64 d, .int .i64 (h + r * t), .int .i64 now]) (by simp [results, Try.results29, go_sem]) rfl ⟨rfl, two_new _ _ _⟩
    · have HF := hid (show fl h r d t = d by rw [hf]; unfold mn; rw [if_neg hle])
      clear hf
      go_enter Try.func29, Try.ntmps29
      go_wp2
      rw [HF.out]
      exact bodyPost_ret (v := .agg #[.int .i64 r, .int .i64 d, .int .i64 d, .int .i64 now]) (by simp [results, Try.results29, go_sem]) rfl ⟨rfl, two_new _ _ _⟩
  · have hbig : 1048576 < t := by omega
    have hf : fl h r d t = mn (h + r * 1048576) d := by unfold fl; rw [show mn t 1048576 = 1048576 by unfold mn; rw [if_neg (by omega)]]
    by_cases hle : h + r * 1048576 ≤ d
    · have HF := hid (show fl h r d t = h + r * 1048576 by rw [hf]; unfold mn; rw [if_pos hle])
      clear hf
      go_enter Try.func29, Try.ntmps29
      go_wp2
      rw [HF.out]
      exact bodyPost_ret (v := .agg #[.int .i64 r, .int .i64 d, .int .i64 (h + r * 1048576), .int .i64 now]) (by simp [results, Try.results29, go_sem]) rfl ⟨rfl, two_new _ _ _⟩
    · have HF := hid (show fl h r d t = d by rw [hf]; unfold mn; rw [if_neg hle])
      clear hf
      go_enter Try.func29, Try.ntmps29
      go_wp2
      rw [HF.out]
      exact bodyPost_ret (v := .agg #[.int .i64 r, .int .i64 d, .int .i64 d, .int .i64 now]) (by simp [results, Try.results29, go_sem]) rfl ⟨rfl, two_new _ _ _⟩
/-- how much there is as of a tick, and which tick that is -/
def fh (h r d a now : Int) : Int := if now ≤ a then h else fl h r d (now - a)
def fa (a now : Int) : Int := if now ≤ a then a else now
theorem Ok.fill {r d h a : Int} (ok : Ok r d h a) (now : Int) (hm : now ≤ 1099511627776) : Ok r d (fh h r d a now) (fa a now) := by
  obtain ⟨r0, r1, h0, hd, d1, a0, a1⟩ := ok
  unfold fh fa
  by_cases hn : now ≤ a
  · rw [if_pos hn, if_pos hn]; exact ⟨r0, r1, h0, hd, d1, a0, a1⟩
  · rw [if_neg hn, if_neg hn]
    have := fl_in h r d (now - a) h0 hd r0 (by omega)
    exact ⟨r0, r1, by omega, this.2, d1, by omega, hm⟩
theorem fill_any (r d h a now : Int) (ok : Ok r d h a) (hm : now ≤ 1099511627776) (w : World) :
    Calls Try.prog 29 #[.agg (bk r d h a), .int .i64 now] w fun e w' => e = .returned (.agg (bk r d (fh h r d a now) (fa a now))) ∧ Below w.heap.size w w' := by
  unfold fh fa
  by_cases hn : now ≤ a
  · rw [if_pos hn, if_pos hn]; exact fill_old r d h a now hn w
  · rw [if_neg hn, if_neg hn]; exact fill_new r d h a now ok (by omega) hm w
set_option maxHeartbeats 2000000 in
theorem take_no (r d h a n now : Int) (ok : Ok r d h a) (hm : now ≤ 1099511627776) (hn : n < 0 ∨ fh h r d a now < n) (w : World) :
    Calls Try.prog 31 #[.agg (bk r d h a), .int .i64 n, .int .i64 now] w fun e w' => e = .returned (.tuple #[.agg (bk r d (fh h r d a now) (fa a now)), .bool false]) ∧ Below w.heap.size w w' := by
  have KF := hid (fun w => fill_any r d h a now ok hm w)
  obtain ⟨h2, hh2⟩ : ∃ x, x = fh h r d a now := ⟨_, rfl⟩
  obtain ⟨a2, ha2⟩ : ∃ x, x = fa a now := ⟨_, rfl⟩
  have hok := ok.fill now hm
  rw [← hh2, ← ha2] at KF hok
  rw [← hh2] at hn
  rw [← hh2, ← ha2]
  obtain ⟨k0, k1, k2, k3, k4, _, _⟩ := hok
  unfold bk at *
  clear hh2 ha2 ok
  have T0 := hid (Two.made w #[.int .i64 r, .int .i64 d, .int .i64 h, .int .i64 a] #[.int .i64 0, .int .i64 0, .int .i64 0, .int .i64 0] 66 66)
  by_cases hneg : n < 0
  · clear hn
    go_enter Try.func31, Try.ntmps31
    go_wp2_with (go_at_call 29; ((with_reducible refine (KF.out _).mono ?_); rintro e w1 ⟨rfl, b1⟩; have t1 := T0.out.next b1; have c0 := t1.p.at_ 0 _ rfl; have c1 := t1.p.at_ 1 _ rfl; have c2 := t1.p.at_ 2 _ rfl; have c3 := t1.p.at_ 3 _ rfl; have c4 := t1.q.at_ 0 _ rfl; have c5 := t1.q.at_ 1 _ rfl; have c6 := t1.q.at_ 2 _ rfl; have c7 := t1.q.at_ 3 _ rfl; have f0 := t1.p.fr 0; have f1 := t1.p.fr 1; have f2 := t1.p.fr 2; have f3 := t1.p.fr 3; have f4 := t1.q.fr 0; have f5 := t1.q.fr 1; have f6 := t1.q.fr 2; have f7 := t1.q.fr 3; have T1 := hid t1; clear t1 b1))
    have TF := (((((((T1.out.setP 0 (.int .i64 r)).setP 1 (.int .i64 d)).setP 2 (.int .i64 h2)).setP 3 (.int .i64 a2)).setQ 0 (.int .i64 r)).setQ 1 (.int .i64 d)).setQ 2 (.int .i64 h2)).setQ 3 (.int .i64 a2)
    have q0 := TF.q.at_ 0 _ rfl
    have q1 := TF.q.at_ 1 _ rfl
    have q2 := TF.q.at_ 2 _ rfl
    have q3 := TF.q.at_ 3 _ rfl
    exact bodyPost_ret (v := .tuple #[.agg #[.int .i64 r, .int .i64 d, .int .i64 h2, .int .i64 a2], .bool false]) (by simp [results, Try.results31, go_sem, q0, q1, q2, q3]) rfl ⟨rfl, TF.b⟩
  · have hgt : h2 < n := by omega
    clear hn
    go_enter Try.func31, Try.ntmps31
    go_wp2_with (go_at_call 29; ((with_reducible refine (KF.out _).mono ?_); rintro e w1 ⟨rfl, b1⟩; have t1 := T0.out.next b1; have c0 := t1.p.at_ 0 _ rfl; have c1 := t1.p.at_ 1 _ rfl; have c2 := t1.p.at_ 2 _ rfl; have c3 := t1.p.at_ 3 _ rfl; have c4 := t1.q.at_ 0 _ rfl; have c5 := t1.q.at_ 1 _ rfl; have c6 := t1.q.at_ 2 _ rfl; have c7 := t1.q.at_ 3 _ rfl; have f0 := t1.p.fr 0; have f1 := t1.p.fr 1; have f2 := t1.p.fr 2; have f3 := t1.p.fr 3; have f4 := t1.q.fr 0; have f5 := t1.q.fr 1; have f6 := t1.q.fr 2; have f7 := t1.q.fr 3; have T1 := hid t1; clear t1 b1))
    have TF := (((((((T1.out.setP 0 (.int .i64 r)).setP 1 (.int .i64 d)).setP 2 (.int .i64 h2)).setP 3 (.int .i64 a2)).setQ 0 (.int .i64 r)).setQ 1 (.int .i64 d)).setQ 2 (.int .i64 h2)).setQ 3 (.int .i64 a2)
    have q0 := TF.q.at_ 0 _ rfl
    have q1 := TF.q.at_ 1 _ rfl
    have q2 := TF.q.at_ 2 _ rfl
    have q3 := TF.q.at_ 3 _ rfl
    exact bodyPost_ret (v := .tuple #[.agg #[.int .i64 r, .int .i64 d, .int .i64 h2, .int .i64 a2], .bool false]) (by simp [results, Try.results31, go_sem, q0, q1, q2, q3]) rfl ⟨rfl, TF.b⟩
set_option maxHeartbeats 2000000 in
theorem take_yes (r d h a n now : Int) (ok : Ok r d h a) (hm : now ≤ 1099511627776) (hn : 0 ≤ n ∧ n ≤ fh h r d a now) (w : World) :
    Calls Try.prog 31 #[.agg (bk r d h a), .int .i64 n, .int .i64 now] w fun e w' => e = .returned (.tuple #[.agg (bk r d (fh h r d a now - n) (fa a now)), .bool true]) ∧ Below w.heap.size w w' := by
  have KF := hid (fun w => fill_any r d h a now ok hm w)
  obtain ⟨h2, hh2⟩ : ∃ x, x = fh h r d a now := ⟨_, rfl⟩
  obtain ⟨a2, ha2⟩ : ∃ x, x = fa a now := ⟨_, rfl⟩
  have hok := ok.fill now hm
  rw [← hh2, ← ha2] at KF hok
  rw [← hh2] at hn
  rw [← hh2, ← ha2]
  obtain ⟨k0, k1, k2, k3, k4, _, _⟩ := hok
  unfold bk at *
  clear hh2 ha2 ok
  have T0 := hid (Two.made w #[.int .i64 r, .int .i64 d, .int .i64 h, .int .i64 a] #[.int .i64 0, .int .i64 0, .int .i64 0, .int .i64 0] 66 66)
  obtain ⟨n0, n1⟩ := hn
  go_enter Try.func31, Try.ntmps31
  go_upto_region 5 with (go_at_call 29; ((with_reducible refine (KF.out _).mono ?_); rintro e w1 ⟨rfl, b1⟩; have t1 := T0.out.next b1; have c0 := t1.p.at_ 0 _ rfl; have c1 := t1.p.at_ 1 _ rfl; have c2 := t1.p.at_ 2 _ rfl; have c3 := t1.p.at_ 3 _ rfl; have c4 := t1.q.at_ 0 _ rfl; have c5 := t1.q.at_ 1 _ rfl; have c6 := t1.q.at_ 2 _ rfl; have c7 := t1.q.at_ 3 _ rfl; have f0 := t1.p.fr 0; have f1 := t1.p.fr 1; have f2 := t1.p.fr 2; have f3 := t1.p.fr 3; have f4 := t1.q.fr 0; have f5 := t1.q.fr 1; have f6 := t1.q.fr 2; have f7 := t1.q.fr 3; have T1 := hid t1; clear t1 b1))
  have T2 := hid (show Two w (((((w1.setCell ⟨w.heap.size, 0, none⟩ (.int .i64 r)).setCell ⟨w.heap.size, 1, none⟩ (.int .i64 d)).setCell ⟨w.heap.size, 2, none⟩ (.int .i64 h2)).setCell ⟨w.heap.size, 3, none⟩ (.int .i64 a2)).setCell ⟨w.heap.size, 2, none⟩ (.int .i64 (h2 - n))) w.heap.size (w.heap.size + 1) [.int .i64 r, .int .i64 d, .int .i64 (h2 - n), .int .i64 a2] [.int .i64 0, .int .i64 0, .int .i64 0, .int .i64 0] from ((((T1.out.setP 0 (.int .i64 r)).setP 1 (.int .i64 d)).setP 2 (.int .i64 h2)).setP 3 (.int .i64 a2)).setP 2 (.int .i64 (h2 - n)))
  obtain ⟨W2, hW2⟩ : ∃ W, W = ((((w1.setCell ⟨w.heap.size, 0, none⟩ (.int .i64 r)).setCell ⟨w.heap.size, 1, none⟩ (.int .i64 d)).setCell ⟨w.heap.size, 2, none⟩ (.int .i64 h2)).setCell ⟨w.heap.size, 3, none⟩ (.int .i64 a2)).setCell ⟨w.heap.size, 2, none⟩ (.int .i64 (h2 - n)) := ⟨_, rfl⟩
  rw [← hW2] at T2 ⊢
  clear hW2 c0 c1 c2 c3 c4 c5 c6 c7 f0 f1 f2 f3 f4 f5 f6 f7 T1
  have c0 := T2.out.p.at_ 0 _ rfl
  have c1 := T2.out.p.at_ 1 _ rfl
  have c2 := T2.out.p.at_ 2 _ rfl
  have c3 := T2.out.p.at_ 3 _ rfl
  have c4 := T2.out.q.at_ 0 _ rfl
  have c5 := T2.out.q.at_ 1 _ rfl
  have c6 := T2.out.q.at_ 2 _ rfl
  have c7 := T2.out.q.at_ 3 _ rfl
  have f4 := T2.out.q.fr 0
  have f5 := T2.out.q.fr 1
  have f6 := T2.out.q.fr 2
  have f7 := T2.out.q.fr 3
  go_wp2_with fail
  have TF := (((T2.out.setQ 0 (.int .i64 r)).setQ 1 (.int .i64 d)).setQ 2 (.int .i64 (h2 - n))).setQ 3 (.int .i64 a2)
  have q0 := TF.q.at_ 0 _ rfl
  have q1 := TF.q.at_ 1 _ rfl
  have q2 := TF.q.at_ 2 _ rfl
  have q3 := TF.q.at_ 3 _ rfl
  exact bodyPost_ret (v := .tuple #[.agg #[.int .i64 r, .int .i64 d, .int .i64 (h2 - n), .int .i64 a2], .bool true]) (by simp [results, Try.results31, go_sem, q0, q1, q2, q3]) rfl ⟨rfl, TF.b⟩
theorem ready_any (r d h a n : Int) (ok : Ok r d h a) (w : World) :
    Calls Try.prog 32 #[.agg (bk r d h a), .int .i64 n] w fun e w' => e = .returned (.int .i64 (rd h r d n)) ∧ Below w.heap.size w w' := by
  obtain ⟨r0, r1, h0, hd, d1, a0, a1⟩ := ok
  unfold bk
  by_cases h1 : n ≤ h
  · have H := hid (rd_now (r := r) (d := d) h1)
    go_enter Try.func32, Try.ntmps32
    go_wp2
    go_ret
    exact ⟨ret_int (by rw [H.out]), (Below.refl _ _).alloc (Nat.le_refl _) _⟩
  · by_cases h2 : d < n
    · have H := hid (rd_no (r := r) h1 (.inl h2))
      go_enter Try.func32, Try.ntmps32
      go_wp2
      go_ret
      exact ⟨ret_int (by rw [H.out]), (Below.refl _ _).alloc (Nat.le_refl _) _⟩
    · by_cases h3 : r = 0
      · have H := hid (rd_no (d := d) h1 (.inr h3))
        have b3 : (r == 0) = true := by simpa using h3
        clear h3
        go_enter Try.func32, Try.ntmps32
        go_wp2
        go_ret
        exact ⟨ret_int (by rw [H.out]), (Below.refl _ _).alloc (Nat.le_refl _) _⟩
      · have H := hid (rd_yes (d := d) h1 (by omega) (show 1 ≤ r by omega))
        have b3 : (r == 0) = false := by simpa using h3
        have r2 : 1 ≤ r := by omega
        clear h3
        go_enter Try.func32, Try.ntmps32
        go_wp2
        go_ret
        exact ⟨ret_int (by rw [H.out]), (Below.refl _ _).alloc (Nat.le_refl _) _⟩
end Go.Proofs.Ytcbfebbnelofpaa.lmc
