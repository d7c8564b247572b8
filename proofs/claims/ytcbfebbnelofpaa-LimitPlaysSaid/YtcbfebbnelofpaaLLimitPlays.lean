/- catwalk's catwalklaw24.LimitPlays answers true at every input, and leaves its arguments as they were. No condition. -/
import Derived.Test.YtcbfebbnelofpaaRows
import Derived.WalkKit
import Derived.ProofKit
import Derived.OpenShut
import Derived.ShutString
import Derived.ChangeOld
import Derived.Below
import Derived.Test.YtcbfebbnelofpaaLimLaw
import Derived.Test.YtcbfebbnelofpaaOpen
import Derived.Deep.DeepCutAuto
import Derived.Deep.RegionHeld3
import Derived.BigQuiet
import Derived.Deep.QuietTactic
namespace Go.Proofs.Ytcbfebbnelofpaa.limitPlays
open Go.ChangeShapes Go.WideShapes Go.ChangeAt Go.RowKit
open Go.ChangeMaps (open_string shut_string)
set_option linter.unusedVariables false

theorem own : ownKnob Try.prog.godebug = none := by kernel_rfl
theorem laidOut : laidOutB Try.prog = true := by kernel_rfl

open Go.Proofs.Ytcbfebbnelofpaa.kit Go.Proofs.Ytcbfebbnelofpaa.lmm Go.Proofs.Ytcbfebbnelofpaa.lmc
theorem agg3 {cs : Array Value} {x y z : Value} (hs : cs.size = 3) (h0 : cs.toList[0]? = some x) (h1 : cs.toList[1]? = some y) (h2 : cs.toList[2]? = some z) : cs = #[x, y, z] := by
  apply Array.ext'
  match h : cs.toList, (show cs.toList.length = 3 by simpa using hs) with
  | [u, v, t], _ => rw [h] at h0 h1 h2; simp at h0 h1 h2; simp [h0, h1, h2]
def Far (n : Int) : Prop := n < -1099511627776 ∨ 1099511627776 < n

set_option maxHeartbeats 12000000 in
set_option maxRecDepth 100000 in
/-- the walk: true, and nothing that was there has turned -/
theorem walk {H : Type} {enc : TypeId × Value → H} {base : Nat} (v0 : Value) (d0 : DataW H) (p0 : List MemPlace) (v1 : Value) (d1 : DataW H) (p1 : List MemPlace) (a2 : Int) (w : World) (w0 : DataW.Trod enc Try.prog w 0 (fun _ => true) true 60 v0 d0 p0) (o0 : Value.okWide Try.prog w .any base 60 v0) (w1 : DataW.Trod enc Try.prog w 0 (fun _ => true) true 61 v1 d1 p1) (o1 : Value.okWide Try.prog w .any base 61 v1) (w2 : (Lit.int .i64 a2).wf = true) :
    Calls Try.prog 7 #[v0, v1, .int .i64 a2] w fun e w' => e = .returned (.bool true) ∧ Below w.heap.size w w' := by
  obtain ⟨cs, n0, yy, rfl, hsz, hy⟩ := open_struct Try.underlying60 o0 w0
  obtain ⟨r0, hf0, _⟩ := field_int Try.underlying60 hy 0 _ rfl Try.underlying3 (by kernel_rfl)
  obtain ⟨d0', hf1, _⟩ := field_int Try.underlying60 hy 1 _ rfl Try.underlying3 (by kernel_rfl)
  obtain ⟨t0, hf2, _⟩ := field_int Try.underlying60 hy 2 _ rfl Try.underlying3 (by kernel_rfl)
  obtain rfl := agg3 (hsz.trans (by kernel_rfl)) hf0 hf1 hf2
  obtain ⟨a1, len1, cap1, rfl⟩ := okWide_slice Try.underlying61 o1
  obtain ⟨ho1, ho2, _, ho4⟩ := slice_cells Try.underlying61 (C := 2) (by kernel_rfl) (by decide) w1
  have hops : ∀ i, i < len1 → ∃ b off kd n, a1 = some ⟨b, off, none⟩ ∧ b < w.heap.size ∧ w.cell? ⟨b, off + (i * 2 + 0), none⟩ = some (.int .i64 kd) ∧ w.cell? ⟨b, off + (i * 2 + 1), none⟩ = some (.int .i64 n) ∧ (Lit.int .i64 kd).wf = true := by
    intro i hi
    obtain ⟨b, off, ha, hb, hc⟩ := ho4 (by omega)
    obtain ⟨cs, n, y, hl, hcell, hy⟩ := hc i hi
    obtain ⟨kd, h1, hk⟩ := field_int Try.underlying64 hy 0 _ rfl Try.underlying3 (by kernel_rfl)
    obtain ⟨nn, h2, _⟩ := field_int Try.underlying64 hy 1 _ rfl Try.underlying3 (by kernel_rfl)
    exact ⟨b, off, kd, nn, ha, hb, (hcell 0 (by decide)).trans h1, (hcell 1 (by decide)).trans h2, hk⟩
  unfold maxLen at ho2
  have hw2 := wf_i64 w2
  clear w0 w1 w2 o0 o1 ho4 hf0 hf1 hf2 hy hsz
  have HO := hid hops
  clear hops
  have BX := hid (Box.made w #[.int .i64 r0, .int .i64 d0', .int .i64 t0] 60)
  have BW := hid ((Below.refl w.heap.size w).alloc (Nat.le_refl _) (.cells #[.int .i64 r0, .int .i64 d0', .int .i64 t0] 60))
  by_cases hbig : 200 < len1
  · clear HO
    go_enter Try.func7, Try.ntmps7
    go_wp2
    go_ret
    exact ⟨rfl, BW.out⟩
  · by_cases hfar : Far t0
    · have KF := hid (fun w => far_yes t0 w hfar)
      clear HO hfar
      go_enter Try.func7, Try.ntmps7
      go_wp2_with (go_at_call 25; ((with_reducible refine (KF.out _).mono ?_); rintro e wa ⟨rfl, rfl⟩))
      go_ret
      exact ⟨rfl, BW.out⟩
    · unfold Far at hfar
      have ht0 : -1099511627776 ≤ t0 := by omega
      have ht1 : t0 ≤ 1099511627776 := by omega
      clear hfar
      go_enter Try.func7, Try.ntmps7
      go_wp2_with (go_at_call 25; ((with_reducible refine (far_no t0 _ ht0 ht1).mono ?_); rintro e wa ⟨rfl, rfl⟩))
      obtain ⟨W, hW⟩ : ∃ W, W = w.alloc (.cells #[.int .i64 r0, .int .i64 d0', .int .i64 t0] 60) := ⟨_, rfl⟩
      rw [← hW] at BX BW ⊢
      clear hW
      go_loop [7] (fun iv => ∃ k : Nat, k ≤ len1 ∧ iv = .int .i64 (k : Nat) ∧ Hid (∀ j, j < k → ∀ b off n, a1 = some ⟨b, off, none⟩ → w.cell? ⟨b, off + (j * 2 + 1), none⟩ = some (.int .i64 n) → ¬ Far n)) (fun iv => len1 - (intOf iv).toNat)
      case atStart => exact ⟨0, Nat.zero_le _, rfl, hid (fun j hj => absurd hj (by omega))⟩
      case round =>
        obtain ⟨k, hk, rfl, HN⟩ := hrel
        by_cases hlt : k < len1
        · obtain ⟨b, off, N, x, ha, hbw, hc0, hc1, hNw⟩ := HO.out k hlt
          subst ha
          have y1 : W.cell? ⟨b, off + k * 2 + 1, none⟩ = some (.int .i64 x) := (BW.out.cell (p := ⟨b, off + (k * 2 + 1), none⟩) hbw).trans hc1
          have HC1 := hid hc1
          clear hc0 hc1
          by_cases hfx : Far x
          · have KF := hid (fun w => far_yes x w hfx)
            clear HO HN HC1 hfx
            go_wp2_with (go_at_call 25; ((with_reducible refine (KF.out _).mono ?_); rintro e wa ⟨rfl, rfl⟩))
            go_ret
            exact ⟨rfl, BW.out⟩
          · have HF := hid hfx
            have hfx2 : ¬ (x < -1099511627776 ∨ 1099511627776 < x) := hfx
            have KF := hid (fun w => far_no x w (by omega) (by omega))
            clear hfx hfx2
            go_wp2_with (go_at_call 25; ((with_reducible refine (KF.out _).mono ?_); rintro e wa ⟨rfl, rfl⟩))
            go_round
            case rel =>
              refine ⟨k + 1, by omega, by go_num, hid (fun j hj b2 off2 n2 e hc => ?_)⟩
              by_cases hjk : j = k
              · subst hjk
                injection e with e; injection e with e1 e2 _
                subst e1 e2
                rw [HC1.out] at hc
                injection hc with hc; injection hc with _ hc; subst hc
                exact HF.out
              · exact HN.out j (by omega) b2 off2 n2 e hc
            case measure => simp [intOf]; omega
        · have hkl : len1 = k := by omega
          subst hkl
          have HNF := HN
          clear HN hlt
          have K1 := hid (fun w => new_any r0 d0' t0 w)
          have K2 := hid (fun w => lcut_any r0 0 1048576 (by omega) w)
          have K3 := hid (fun w => lcut_any d0' 0 1048576 (by omega) w)
          unfold bk at K1
          have hr := cut_in r0 0 1048576 (by omega)
          have hd := cut_in d0' 0 1048576 (by omega)
          obtain ⟨r, hre⟩ : ∃ r, r = cutI r0 0 1048576 := ⟨_, rfl⟩
          obtain ⟨d, hde⟩ : ∃ d, d = cutI d0' 0 1048576 := ⟨_, rfl⟩
          rw [← hre, ← hde] at K1
          rw [← hre] at K2 hr
          rw [← hde] at K3 hd
          clear hre hde
          obtain ⟨r1, r2⟩ := hr
          obtain ⟨d1, d2⟩ := hd
          have s0 := BX.out.at_ 0 _ rfl
          have s1 := BX.out.at_ 1 _ rfl
          have s2 := BX.out.at_ 2 _ rfl
          go_upto_region 9 with (go_at_call 26; ((with_reducible refine (K1.out _).mono ?_); rintro e wa ⟨rfl, ba⟩))
          have K0 : Hid (One w (wa.alloc (.cells #[.int .i64 r, .int .i64 d, .int .i64 d, .int .i64 t0] 66)) wa.heap.size [.int .i64 r, .int .i64 d, .int .i64 d, .int .i64 t0]) := hid (by
            have b1 := BW.out.trans (ba.mono BW.out.size)
            exact ⟨b1.alloc b1.size _, Box.made wa _ _, b1.size⟩)
          have BX2 := hid ((BX.out.next ba).next ((Below.refl wa.heap.size wa).alloc (Nat.le_refl _) (.cells #[.int .i64 r, .int .i64 d, .int .i64 d, .int .i64 t0] 66)))
          clear K1 ba s0 s1 s2
          generalize wa.alloc (.cells #[.int .i64 r, .int .i64 d, .int .i64 d, .int .i64 t0] 66) = W1 at *
          obtain ⟨g, hg⟩ : ∃ g, g = wa.heap.size := ⟨_, rfl⟩
          rw [← hg] at K0 ⊢
          clear hg
          have s0 := BX2.out.at_ 0 _ rfl
          have s1 := BX2.out.at_ 1 _ rfl
          have s2 := BX2.out.at_ 2 _ rfl
          go_quiet ((first | (go_at_call 27; with_reducible exact quiet_l (K2.out _)) | (go_at_call 27; with_reducible exact quiet_l (K3.out _))))
          have K01 := hid (K0.out.drewN nq)
          have HOK0 : Hid (Ok r d d t0) := hid ⟨by omega, by omega, by omega, by omega, by omega, by omega, by omega⟩
          clear K0 BX2 BX BW K2 K3 s0 s1 s2
          go_wp2_with fail
          generalize W1.drewN nq = W2 at *
          go_loopw [11, 12, 13] (fun nv hv iv wr => ∃ (j : Nat) (n h : Int), j ≤ len1 ∧ iv = .int .i64 (j : Nat) ∧ nv = .int .i64 n ∧ hv = .int .i64 h ∧ Hid (Ok r d h n) ∧ Hid (One w wr g [.int .i64 r, .int .i64 d, .int .i64 h, .int .i64 n])) (fun _ _ iv _ => len1 - (intOf iv).toNat)
          case atStart => exact ⟨0, t0, d, Nat.zero_le _, rfl, rfl, rfl, HOK0, K01⟩
          case round =>
            clear HOK0 K01
            obtain ⟨j, n, h, hj, rfl, rfl, rfl, HOK, HT⟩ := hrel
            by_cases hlt : j < len1
            · obtain ⟨b, off, N, x, ha, hbw, hc0, hc1, hNw⟩ := HO.out j hlt
              have hnf : ¬ (x < -1099511627776 ∨ 1099511627776 < x) := HNF.out j hlt b off x ha hc1
              have hx0 : -1099511627776 ≤ x := by omega
              have hx1 : x ≤ 1099511627776 := by omega
              subst ha
              have y0 : wr.cell? ⟨b, off + j * 2, none⟩ = some (.int .i64 N) := (HT.out.b.cell (p := ⟨b, off + (j * 2 + 0), none⟩) hbw).trans hc0
              have y1 : wr.cell? ⟨b, off + j * 2 + 1, none⟩ = some (.int .i64 x) := (HT.out.b.cell (p := ⟨b, off + (j * 2 + 1), none⟩) hbw).trans hc1
              have HC0 := hid hc0
              have HC1 := hid hc1
              have hN := wf_i64 hNw
              have HOK2 := hid (HOK.out.fill x hx1)
              obtain ⟨h2, hh2⟩ : ∃ v, v = fh h r d n x := ⟨_, rfl⟩
              obtain ⟨n2, hn2⟩ : ∃ v, v = fa n x := ⟨_, rfl⟩
              rw [← hh2, ← hn2] at HOK2
              have HH2 := hid hh2
              have HN2 := hid hn2
              have k0 := HOK.out.h0
              have k1 := HOK.out.hd
              have k2 := HOK.out.a0
              have k3 := HOK.out.a1
              have k4 := HOK2.out.h0
              have k5 := HOK2.out.hd
              clear hnf hc0 hc1 hh2 hn2 HO HNF
              go_upto_if 65 with fail
              go_cut [11, 12] (fun nv hv wx => nv = .int .i64 n2 ∧ hv = .int .i64 h2 ∧ wx = wr)
              case first =>
                by_cases hnew : n < x
                · have hw := wrap_diff n x (by omega) (by omega)
                  obtain ⟨t, ht⟩ : ∃ t, t = x - n := ⟨_, rfl⟩
                  have e1 : fl h r d t = h2 := by rw [HH2.out]; unfold fh; rw [if_neg (by omega), ht]
                  have E2 := hid (show n2 = x by rw [HN2.out]; unfold fa; rw [if_neg (by omega)])
                  have KF := hid (fun w => filled_any h r d t r1 r2 k0 k1 d2 (by omega) (by omega) w)
                  rw [e1] at KF
                  rw [← ht] at hw
                  clear ht e1
                  go_wp2_with (go_at_call 28; ((with_reducible refine (KF.out _).mono ?_); rintro e w1 ⟨rfl, rfl⟩))
                  go_meet
                  exact ⟨by rw [E2.out], rfl, rfl⟩
                · have E1 := hid (show h2 = h by rw [HH2.out]; unfold fh; rw [if_pos (by omega)])
                  have E2 := hid (show n2 = n by rw [HN2.out]; unfold fa; rw [if_pos (by omega)])
                  go_wp2_with fail
                  go_meet
                  exact ⟨by rw [E2.out], by rw [E1.out], rfl⟩
              case rest =>
                obtain ⟨rfl, rfl, rfl⟩ := hcut
                have p0 := HT.out.p.at_ 0 _ rfl
                have p1 := HT.out.p.at_ 1 _ rfl
                have p2 := HT.out.p.at_ 2 _ rfl
                have p3 := HT.out.p.at_ 3 _ rfl
                have KF : Hid (∀ M : After wc, Calls Try.prog 29 #[.agg #[.int .i64 r, .int .i64 d, .int .i64 h, .int .i64 n], .int .i64 x] M.w fun e w'' => e = .returned (.agg #[.int .i64 r, .int .i64 d, .int .i64 h2, .int .i64 n2]) ∧ ∃ m : After wc, w'' = m.w) := hid (fun M => after_call (by
                  have := fill_any r d h n x HOK.out hx1 M.w
                  rw [← HH2.out, ← HN2.out] at this
                  exact this))
                have KH := hid (fun M : After wc => after_call (have_any r d h2 n2 M.w))
                unfold bk at KH
                have z0 := After.cell p0
                have z1 := After.cell p1
                have z2 := After.cell p2
                have z3 := After.cell p3
                have z4 := After.cell y1
                obtain ⟨WA, hWA⟩ : ∃ W : World, W = wc := ⟨_, rfl⟩
                go_upto_region 17 with fail
                refine wp_region_after wc (by kernel_rfl) (by kernel_rfl) ((Below.refl _ _).drew) ?_
                repeat (go_big_quiet_step (first | with_reducible exact KF.out _ | with_reducible exact KH.out _))
                refine wpQuiet_nil ?_
                intro w3 hw'
                obtain ⟨N3, e3⟩ := hw'
                have b3 : Below wc.heap.size wc w3 := by rw [e3]; exact N3.h
                clear e3 N3 KF KH z0 z1 z2 z3 z4 hWA WA p0 p1 p2 p3
                have HT3 := hid (HT.out.next b3)
                have x0 := keep_cell b3 y0
                have x1 := keep_cell b3 y1
                clear HT b3 y0 y1
                have y0 := x0
                have y1 := x1
                have p0 := HT3.out.p.at_ 0 _ rfl
                have p1 := HT3.out.p.at_ 1 _ rfl
                have p2 := HT3.out.p.at_ 2 _ rfl
                have p3 := HT3.out.p.at_ 3 _ rfl
                clear x0 x1
                go_upto_region 19 with fail
                by_cases hno : N < 0 ∨ h2 < N
                · have KT : Hid (∀ M : World, Calls Try.prog 31 #[.agg #[.int .i64 r, .int .i64 d, .int .i64 h, .int .i64 n], .int .i64 N, .int .i64 x] M fun e w'' => e = .returned (.tuple #[.agg #[.int .i64 r, .int .i64 d, .int .i64 h2, .int .i64 n2], .bool false]) ∧ Below M.heap.size M w'') := hid (fun M => by
                    have := take_no r d h n N x HOK.out hx1 (by rw [← HH2.out]; omega) M
                    rw [← HH2.out, ← HN2.out] at this
                    exact this)
                  go_cut [14, 15] (fun pv bv wx => ∃ g2 : Nat, pv = .pointer (some ⟨g2, 0, none⟩) ∧ bv = .bool false ∧ Hid (Two w wx g g2 [.int .i64 r, .int .i64 d, .int .i64 h, .int .i64 n] [.int .i64 r, .int .i64 d, .int .i64 h2, .int .i64 n2]))
                  case first =>
                    have SM := hid (fun (w' : World) (hb : Below w3.heap.size w3 w') => (⟨keep_cell hb y0, keep_cell hb y1, keep_cell hb p0, keep_cell hb p1, keep_cell hb p2, keep_cell hb p3, hb⟩ : w'.cell? ⟨b, off + j * 2, none⟩ = some (.int .i64 N) ∧ w'.cell? ⟨b, off + j * 2 + 1, none⟩ = some (.int .i64 x) ∧ w'.cell? ⟨g, 0, none⟩ = some (.int .i64 r) ∧ w'.cell? ⟨g, 1, none⟩ = some (.int .i64 d) ∧ w'.cell? ⟨g, 2, none⟩ = some (.int .i64 h) ∧ w'.cell? ⟨g, 3, none⟩ = some (.int .i64 n) ∧ Below w3.heap.size w3 w'))
                    have d0 : Below w3.heap.size w3 w3.drew := (Below.refl _ _).drew
                    have d1 : Below w3.heap.size w3 (w3.alloc (.cells #[.int .i64 0, .int .i64 0, .int .i64 0, .int .i64 0] 66)).drew := ((Below.refl _ _).alloc (Nat.le_refl _) _).drew
                    go_region_held3 (fun w' => w'.cell? ⟨b, off + j * 2, none⟩ = some (.int .i64 N) ∧ w'.cell? ⟨b, off + j * 2 + 1, none⟩ = some (.int .i64 x) ∧ w'.cell? ⟨g, 0, none⟩ = some (.int .i64 r) ∧ w'.cell? ⟨g, 1, none⟩ = some (.int .i64 d) ∧ w'.cell? ⟨g, 2, none⟩ = some (.int .i64 h) ∧ w'.cell? ⟨g, 3, none⟩ = some (.int .i64 n) ∧ Below w3.heap.size w3 w') (first | exact SM.out _ d0 | exact SM.out _ d1 | exact SM.out _ c4 | exact SM.out _ (c4.alloc c4.size _) | exact SM.out _ ((((c4.setCell hg _).setCell hg _).setCell hg _).setCell hg _) | go_keep) ((first | (go_at_call 31; ((with_reducible refine (KT.out w3.drew).mono ?_); rintro e w4 ⟨rfl, b4⟩; have c4 := d0.trans (b4.mono d0.size))) | (go_at_call 31; ((with_reducible refine (KT.out (w3.alloc (.cells #[.int .i64 0, .int .i64 0, .int .i64 0, .int .i64 0] 66)).drew).mono ?_); rintro e w4 ⟨rfl, b4⟩; have c4 := d1.trans (b4.mono d1.size); have hg : w3.heap.size ≤ w3.heap.size := Nat.le_refl _; have bx := Two.early2 HT3.out b4; have j0 := bx.q.at_ 0 _ rfl; have j1 := bx.q.at_ 1 _ rfl; have j2 := bx.q.at_ 2 _ rfl; have j3 := bx.q.at_ 3 _ rfl; have i0 := bx.q.fr 0; have i1 := bx.q.fr 1; have i2 := bx.q.fr 2; have i3 := bx.q.fr 3))))
                    all_goals
                      go_wp2_with fail
                      go_meet
                      first
                      | exact ⟨_, rfl, rfl, hid (Two.late HT3.out b4)⟩
                      | exact ⟨_, rfl, rfl, hid ((((bx.setQ 0 (.int .i64 r)).setQ 1 (.int .i64 d)).setQ 2 (.int .i64 h2)).setQ 3 (.int .i64 n2))⟩
                  case rest =>
                    obtain ⟨g2, rfl, rfl, H2⟩ := hcut
                    clear p0 p1 p2 p3 y0 y1 HT3 KT
                    have y0 : wc.cell? ⟨b, off + j * 2, none⟩ = some (.int .i64 N) := (H2.out.b.cell (p := ⟨b, off + (j * 2 + 0), none⟩) hbw).trans HC0.out
                    have p0 := H2.out.p.at_ 0 _ rfl
                    have p1 := H2.out.p.at_ 1 _ rfl
                    have p2 := H2.out.p.at_ 2 _ rfl
                    have p3 := H2.out.p.at_ 3 _ rfl
                    have q0 := H2.out.q.at_ 0 _ rfl
                    have q1 := H2.out.q.at_ 1 _ rfl
                    have q2 := H2.out.q.at_ 2 _ rfl
                    have q3 := H2.out.q.at_ 3 _ rfl
                    have f0 := H2.out.p.fr 0
                    have f1 := H2.out.p.fr 1
                    have f2 := H2.out.p.fr 2
                    have f3 := H2.out.p.fr 3
                    have hne := H2.out.ne
                    have hbg : ¬ b = g := by have := H2.out.h1; omega
                    have hgb : ¬ g = b := by have := H2.out.h1; omega
                    have KH := hid (fun w => have_any r d h2 n2 w)
                    unfold bk at KH
                    have hor := hno
                    clear hno
                    by_cases hneg : N < 0
                    · go_wp2_with (go_at_call 30; ((with_reducible refine (KH.out _).mono ?_); rintro e w5 ⟨rfl, b5⟩; have H3 := hid (show One w w5 g [.int .i64 r, .int .i64 d, .int .i64 h2, .int .i64 n2] from (One.next ⟨((((H2.out.setP 0 (.int .i64 r)).setP 1 (.int .i64 d)).setP 2 (.int .i64 h2)).setP 3 (.int .i64 n2)).b, ((((H2.out.setP 0 (.int .i64 r)).setP 1 (.int .i64 d)).setP 2 (.int .i64 h2)).setP 3 (.int .i64 n2)).p, H2.out.h1⟩ b5)); clear b5))
                      go_roundw
                      case rel => exact ⟨j + 1, n2, h2, by omega, by go_num, rfl, rfl, hid HOK2.out, H3⟩
                      case measure => simp [intOf]; omega
                    · have hgt : h2 < N := by omega
                      go_wp2_with (go_at_call 30; ((with_reducible refine (KH.out _).mono ?_); rintro e w5 ⟨rfl, b5⟩; have H3 := hid (show One w w5 g [.int .i64 r, .int .i64 d, .int .i64 h2, .int .i64 n2] from (One.next ⟨((((H2.out.setP 0 (.int .i64 r)).setP 1 (.int .i64 d)).setP 2 (.int .i64 h2)).setP 3 (.int .i64 n2)).b, ((((H2.out.setP 0 (.int .i64 r)).setP 1 (.int .i64 d)).setP 2 (.int .i64 h2)).setP 3 (.int .i64 n2)).p, H2.out.h1⟩ b5)); clear b5))
                      go_roundw
                      case rel => exact ⟨j + 1, n2, h2, by omega, by go_num, rfl, rfl, hid HOK2.out, H3⟩
                      case measure => simp [intOf]; omega
                · have hN0 : 0 ≤ N := by omega
                  have hN1 : N ≤ h2 := by omega
                  have KT : Hid (∀ M : World, Calls Try.prog 31 #[.agg #[.int .i64 r, .int .i64 d, .int .i64 h, .int .i64 n], .int .i64 N, .int .i64 x] M fun e w'' => e = .returned (.tuple #[.agg #[.int .i64 r, .int .i64 d, .int .i64 (h2 - N), .int .i64 n2], .bool true]) ∧ Below M.heap.size M w'') := hid (fun M => by
                    have := take_yes r d h n N x HOK.out hx1 (by rw [← HH2.out]; omega) M
                    rw [← HH2.out, ← HN2.out] at this
                    exact this)
                  go_cut [14, 15] (fun pv bv wx => ∃ g2 : Nat, pv = .pointer (some ⟨g2, 0, none⟩) ∧ bv = .bool true ∧ Hid (Two w wx g g2 [.int .i64 r, .int .i64 d, .int .i64 h, .int .i64 n] [.int .i64 r, .int .i64 d, .int .i64 (h2 - N), .int .i64 n2]))
                  case first =>
                    have SM := hid (fun (w' : World) (hb : Below w3.heap.size w3 w') => (⟨keep_cell hb y0, keep_cell hb y1, keep_cell hb p0, keep_cell hb p1, keep_cell hb p2, keep_cell hb p3, hb⟩ : w'.cell? ⟨b, off + j * 2, none⟩ = some (.int .i64 N) ∧ w'.cell? ⟨b, off + j * 2 + 1, none⟩ = some (.int .i64 x) ∧ w'.cell? ⟨g, 0, none⟩ = some (.int .i64 r) ∧ w'.cell? ⟨g, 1, none⟩ = some (.int .i64 d) ∧ w'.cell? ⟨g, 2, none⟩ = some (.int .i64 h) ∧ w'.cell? ⟨g, 3, none⟩ = some (.int .i64 n) ∧ Below w3.heap.size w3 w'))
                    have d0 : Below w3.heap.size w3 w3.drew := (Below.refl _ _).drew
                    have d1 : Below w3.heap.size w3 (w3.alloc (.cells #[.int .i64 0, .int .i64 0, .int .i64 0, .int .i64 0] 66)).drew := ((Below.refl _ _).alloc (Nat.le_refl _) _).drew
                    go_region_held3 (fun w' => w'.cell? ⟨b, off + j * 2, none⟩ = some (.int .i64 N) ∧ w'.cell? ⟨b, off + j * 2 + 1, none⟩ = some (.int .i64 x) ∧ w'.cell? ⟨g, 0, none⟩ = some (.int .i64 r) ∧ w'.cell? ⟨g, 1, none⟩ = some (.int .i64 d) ∧ w'.cell? ⟨g, 2, none⟩ = some (.int .i64 h) ∧ w'.cell? ⟨g, 3, none⟩ = some (.int .i64 n) ∧ Below w3.heap.size w3 w') (first | exact SM.out _ d0 | exact SM.out _ d1 | exact SM.out _ c4 | exact SM.out _ (c4.alloc c4.size _) | exact SM.out _ ((((c4.setCell hg _).setCell hg _).setCell hg _).setCell hg _) | go_keep) ((first | (go_at_call 31; ((with_reducible refine (KT.out w3.drew).mono ?_); rintro e w4 ⟨rfl, b4⟩; have c4 := d0.trans (b4.mono d0.size))) | (go_at_call 31; ((with_reducible refine (KT.out (w3.alloc (.cells #[.int .i64 0, .int .i64 0, .int .i64 0, .int .i64 0] 66)).drew).mono ?_); rintro e w4 ⟨rfl, b4⟩; have c4 := d1.trans (b4.mono d1.size); have hg : w3.heap.size ≤ w3.heap.size := Nat.le_refl _; have bx := Two.early2 HT3.out b4; have j0 := bx.q.at_ 0 _ rfl; have j1 := bx.q.at_ 1 _ rfl; have j2 := bx.q.at_ 2 _ rfl; have j3 := bx.q.at_ 3 _ rfl; have i0 := bx.q.fr 0; have i1 := bx.q.fr 1; have i2 := bx.q.fr 2; have i3 := bx.q.fr 3))))
                    all_goals
                      go_wp2_with fail
                      go_meet
                      first
                      | exact ⟨_, rfl, rfl, hid (Two.late HT3.out b4)⟩
                      | exact ⟨_, rfl, rfl, hid ((((bx.setQ 0 (.int .i64 r)).setQ 1 (.int .i64 d)).setQ 2 (.int .i64 (h2 - N))).setQ 3 (.int .i64 n2))⟩
                  case rest =>
                    obtain ⟨g2, rfl, rfl, H2⟩ := hcut
                    clear p0 p1 p2 p3 y0 y1 HT3 KT
                    have y0 : wc.cell? ⟨b, off + j * 2, none⟩ = some (.int .i64 N) := (H2.out.b.cell (p := ⟨b, off + (j * 2 + 0), none⟩) hbw).trans HC0.out
                    have p0 := H2.out.p.at_ 0 _ rfl
                    have p1 := H2.out.p.at_ 1 _ rfl
                    have p2 := H2.out.p.at_ 2 _ rfl
                    have p3 := H2.out.p.at_ 3 _ rfl
                    have q0 := H2.out.q.at_ 0 _ rfl
                    have q1 := H2.out.q.at_ 1 _ rfl
                    have q2 := H2.out.q.at_ 2 _ rfl
                    have q3 := H2.out.q.at_ 3 _ rfl
                    have f0 := H2.out.p.fr 0
                    have f1 := H2.out.p.fr 1
                    have f2 := H2.out.p.fr 2
                    have f3 := H2.out.p.fr 3
                    have hne := H2.out.ne
                    have hbg : ¬ b = g := by have := H2.out.h1; omega
                    have hgb : ¬ g = b := by have := H2.out.h1; omega
                    have KH := hid (fun w => have_any r d (h2 - N) n2 w)
                    unfold bk at KH
                    go_wp2_with (go_at_call 30; ((with_reducible refine (KH.out _).mono ?_); rintro e w5 ⟨rfl, b5⟩; have H3 := hid (show One w w5 g [.int .i64 r, .int .i64 d, .int .i64 (h2 - N), .int .i64 n2] from (One.next ⟨((((H2.out.setP 0 (.int .i64 r)).setP 1 (.int .i64 d)).setP 2 (.int .i64 (h2 - N))).setP 3 (.int .i64 n2)).b, ((((H2.out.setP 0 (.int .i64 r)).setP 1 (.int .i64 d)).setP 2 (.int .i64 (h2 - N))).setP 3 (.int .i64 n2)).p, H2.out.h1⟩ b5)); clear b5))
                    go_roundw
                    case rel => exact ⟨j + 1, n2, (h2 - N), by omega, by go_num, rfl, rfl, hid ⟨HOK2.out.r0, HOK2.out.r1, by omega, by omega, HOK2.out.d1, HOK2.out.a0, HOK2.out.a1⟩, H3⟩
                    case measure => simp [intOf]; omega
            · have hjl : len1 = j := by omega
              subst hjl
              have p0 := HT.out.p.at_ 0 _ rfl
              have p1 := HT.out.p.at_ 1 _ rfl
              have p2 := HT.out.p.at_ 2 _ rfl
              have p3 := HT.out.p.at_ 3 _ rfl
              have KR := hid (fun w => ready_any r d h n a2 HOK.out w)
              have KL := hid (fun w => lready_any h r d a2 r1 r2 HOK.out.h0 HOK.out.hd HOK.out.d1 w)
              unfold bk at KR
              generalize rd h r d a2 = q at *
              have HB := hid HT.out.b
              clear HT HOK
              go_wp2_with (first | (go_at_call 32; ((with_reducible refine (KR.out _).mono ?_); rintro e w1 ⟨rfl, b1⟩; have B1 := hid (HB.out.trans (b1.mono HB.out.size)); clear b1)) | (go_at_call 33; ((with_reducible refine (KL.out _).mono ?_); rintro e w2 ⟨rfl, rfl⟩)) | (go_at_call 34; ((with_reducible refine (alive_any _).mono ?_); rintro e wb ⟨rfl, h11⟩)))
              go_ret
              exact ⟨rfl, B1.out.trans (h11.mono B1.out.size)⟩
set_option maxRecDepth 100000 in
theorem lifted (os : Os) (started : os.Started) (H : Type) (enc : TypeId × Value → H) :
    ReturnsInHanded {} Try.checked os 7 .any (Rows.limitPlaysSpec.pre6 enc Try.prog Try.f7 Rows.limitPlaysRow.domain false) (Rows.limitPlaysSpec.post enc Try.prog Try.f7 false true false false) := by
  refine returnsInHanded_of_change (C := Try.checked) own started (by kernel_rfl) Try.func7
    (ChangeSpec.witness6 (enc := enc) (C := Try.checked) false ⟨#[], #[.agg #[.int .i64 0, .int .i64 0, .int .i64 0], .slice none 0 0, .int .i64 0], []⟩ 8 (by kernel_rfl) (by kernel_rfl) (by kernel_rfl) (by kernel_rfl)) ?_
  intro W base args ds gs before hval0 hW hcnd _
  have hval : ∀ (j : Nat) t v, Try.f7.params[j]? = some t → args[j]? = some v → Value.okWide Try.prog W .any base t v := hval0
  have hW' := hW
  obtain ⟨p, q, hA0, hV, rfl, hfz, hnd⟩ := hW
  have hA : DataW.TrodAll enc Try.prog W 0 (fun _ => true) true Try.f7.params.toList args.toList ds p := hA0
  rw [Try.params7] at hA hval
  obtain ⟨v0, vs0, d0, ds0, p0, q0, hargs, rfl, rfl, h0, r0⟩ := trodAll_cons hA
  obtain ⟨v1, vs1, d1, ds1, p1, q1, rfl, rfl, rfl, h1, r1⟩ := trodAll_cons r0
  obtain ⟨v2, vs2, d2, ds2, p2, q2, rfl, rfl, rfl, h2, r2⟩ := trodAll_cons r1
  obtain ⟨rfl, rfl, rfl⟩ := trodAll_nil r2
  obtain rfl : args = #[v0, v1, v2] := by cases args; simp_all
  obtain ⟨rfl, rfl⟩ := trodVars_none hV
  have k0 := h0
  have o0 := hval 0 60 v0 rfl rfl
  have lt0 : ∀ x ∈ p0, x.block < W.heap.size := by obtain ⟨m, hm⟩ := k0; exact DataW.trod_lt m _ _ _ hm
  have k1 := h1
  have o1 := hval 1 61 v1 rfl rfl
  have lt1 : ∀ x ∈ p1, x.block < W.heap.size := by obtain ⟨m, hm⟩ := k1; exact DataW.trod_lt m _ _ _ hm
  obtain ⟨a2, rfl, rfl, rfl, w2⟩ := open_int Try.underlying3 (hval 2 3 v2 rfl rfl) h2
  clear hA0 hval0
  refine (walk (H := H) (enc := enc) (base := base) v0 d0 p0 v1 d1 p1 a2 W k0 o0 k1 o1 w2).mono fun e W' ⟨he, bel⟩ => ?_
  subst he
  exact ⟨_, rfl, _, _, _, [], _, [], hW', trodAll_mk1 (shut_bool Try.underlying4 _), (trodAll_cons_mk (Below.trod laidOut (by kernel_rfl) (of_decide_eq_true (by kernel_rfl)) k0 bel lt0) (trodAll_cons_mk (Below.trod laidOut (by kernel_rfl) (of_decide_eq_true (by kernel_rfl)) k1 bel lt1) (trodAll_cons_mk (shut_int Try.underlying3 w2) trodAll_mk0))), rfl, bel.frame _, fun h => by cases h⟩

theorem over : Rows.limitPlaysRow.holds Try.pinned (OpenSpec.ofChange Rows.limitPlaysSpec) :=
  OpenClaim.holds_of_wide 7 Try.f7 rfl rfl rfl rfl rfl rfl rfl ⟨rfl, rfl, rfl, rfl, rfl⟩ rfl rfl rfl rfl rfl (by kernel_rfl) Try.func7 (by kernel_rfl)
    (of_decide_eq_true (by kernel_rfl)) (by unfold Func.isWrapper; first | (rw [if_pos (by decide +kernel)]; kernel_rfl) | (rw [if_neg (by decide +kernel)]; exact ⟨rfl, rfl⟩))
    (fun os started H enc _ => lifted os started H enc)

/-- the statement -/
theorem proved : Rows.LimitPlaysSaid := over
end Go.Proofs.Ytcbfebbnelofpaa.limitPlays
