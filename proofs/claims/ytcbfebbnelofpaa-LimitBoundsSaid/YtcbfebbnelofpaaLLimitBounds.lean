/- catwalk's catwalklaw24.LimitBounds answers true at every input, and leaves its arguments as they were. No condition. -/
import Derived.Test.YtcbfebbnelofpaaRows
import Derived.WalkKit
import Derived.ProofKit
import Derived.OpenShut
import Derived.ShutString
import Derived.ChangeOld
import Derived.Below
import Derived.Test.YtcbfebbnelofpaaLimLaw
import Derived.Test.YtcbfebbnelofpaaOpen
import Derived.Deep.DeepCutAuto
import Derived.Deep.RegionWith
namespace Go.Proofs.Ytcbfebbnelofpaa.limitBounds
open Go.ChangeShapes Go.WideShapes Go.ChangeAt Go.RowKit
open Go.ChangeMaps (open_string shut_string)
set_option linter.unusedVariables false

theorem own : ownKnob Try.prog.godebug = none := by kernel_rfl
theorem laidOut : laidOutB Try.prog = true := by kernel_rfl

open Go.Proofs.Ytcbfebbnelofpaa.kit Go.Proofs.Ytcbfebbnelofpaa.lmm Go.Proofs.Ytcbfebbnelofpaa.lmc

set_option maxHeartbeats 12000000 in
set_option maxRecDepth 100000 in
/-- the walk: true, and nothing that was there has turned -/
theorem walk {H : Type} {enc : TypeId × Value → H} {base : Nat} (a0 : Int) (a1 : Int) (v2 : Value) (d2 : DataW H) (p2 : List MemPlace) (w : World) (w0 : (Lit.int .i64 a0).wf = true) (w1 : (Lit.int .i64 a1).wf = true) (w2 : DataW.Trod enc Try.prog w 0 (fun _ => true) true 61 v2 d2 p2) (o2 : Value.okWide Try.prog w .any base 61 v2) :
    Calls Try.prog 8 #[.int .i64 a0, .int .i64 a1, v2] w fun e w' => e = .returned (.bool true) ∧ Below w.heap.size w w' := by
  obtain ⟨a2, len2, cap2, rfl⟩ := okWide_slice Try.underlying61 o2
  obtain ⟨ho1, ho2, _, ho4⟩ := slice_cells Try.underlying61 (C := 2) (by kernel_rfl) (by decide) w2
  have hops : ∀ i, i < len2 → ∃ b off kd n, a2 = some ⟨b, off, none⟩ ∧ b < w.heap.size ∧ w.cell? ⟨b, off + (i * 2 + 0), none⟩ = some (.int .i64 kd) ∧ w.cell? ⟨b, off + (i * 2 + 1), none⟩ = some (.int .i64 n) ∧ (Lit.int .i64 kd).wf = true := by
    intro i hi
    obtain ⟨b, off, ha, hb, hc⟩ := ho4 (by omega)
    obtain ⟨cs, n, y, hl, hcell, hy⟩ := hc i hi
    obtain ⟨kd, h1, hk⟩ := field_int Try.underlying64 hy 0 _ rfl Try.underlying3 (by kernel_rfl)
    obtain ⟨nn, h2, _⟩ := field_int Try.underlying64 hy 1 _ rfl Try.underlying3 (by kernel_rfl)
    exact ⟨b, off, kd, nn, ha, hb, (hcell 0 (by decide)).trans h1, (hcell 1 (by decide)).trans h2, hk⟩
  unfold maxLen at ho2
  have hw0 := wf_i64 w0
  have hw1 := wf_i64 w1
  clear w0 w1 w2 o2 ho4
  have HO := hid hops
  clear hops
  by_cases hbad : 200 < len2 ∨ a0 < 0 ∨ 1048576 < a0 ∨ a1 < 0 ∨ 1048576 < a1
  · clear HO
    by_cases h1 : 200 < len2
    · go_enter Try.func8, Try.ntmps8
      go_wp2
      go_ret
      exact ⟨rfl, Below.refl _ _⟩
    · by_cases h2 : a0 < 0
      · go_enter Try.func8, Try.ntmps8
        go_wp2
        go_ret
        exact ⟨rfl, Below.refl _ _⟩
      · by_cases h3 : 1048576 < a0
        · go_enter Try.func8, Try.ntmps8
          go_wp2
          go_ret
          exact ⟨rfl, Below.refl _ _⟩
        · by_cases h4 : a1 < 0
          · go_enter Try.func8, Try.ntmps8
            go_wp2
            go_ret
            exact ⟨rfl, Below.refl _ _⟩
          · have h5 : 1048576 < a1 := by omega
            go_enter Try.func8, Try.ntmps8
            go_wp2
            go_ret
            exact ⟨rfl, Below.refl _ _⟩
  · have h1 : ¬ 200 < len2 := by omega
    have h2 : ¬ a0 < 0 := by omega
    have h3 : ¬ 1048576 < a0 := by omega
    have h4 : ¬ a1 < 0 := by omega
    have h5 : ¬ 1048576 < a1 := by omega
    clear hbad hw0 hw1
    have K1 : Hid (∀ w, Calls Try.prog 26 #[.int .i64 a0, .int .i64 a1, .int .i64 0] w fun e w' => e = .returned (.agg #[.int .i64 a0, .int .i64 a1, .int .i64 a1, .int .i64 0]) ∧ Below w.heap.size w w') := hid (fun w => by
      have := new_any a0 a1 0 w
      rw [cut_mid (n := a0) (by omega) (by omega), cut_mid (n := a1) (by omega) (by omega)] at this
      exact this)
    go_enter Try.func8, Try.ntmps8
    go_wp2_with (go_at_call 26; ((with_reducible refine (K1.out _).mono ?_); rintro e wa ⟨rfl, ba⟩))
    have K0 : Hid (One w (wa.alloc (.cells #[.int .i64 a0, .int .i64 a1, .int .i64 a1, .int .i64 0] 66)) wa.heap.size [.int .i64 a0, .int .i64 a1, .int .i64 a1, .int .i64 0]) := hid ⟨ba.alloc ba.size _, Box.made wa _ _, ba.size⟩
    generalize wa.alloc (.cells #[.int .i64 a0, .int .i64 a1, .int .i64 a1, .int .i64 0] 66) = W at *
    obtain ⟨g, hg⟩ : ∃ g, g = wa.heap.size := ⟨_, rfl⟩
    rw [← hg] at K0 ⊢
    have hok0 : Ok a0 a1 a1 0 := ⟨by omega, by omega, by omega, by omega, by omega, by omega, by omega⟩
    have HOK0 := hid hok0
    clear K1 ba hg hok0
    go_loopw [8, 9, 10] (fun nv vv iv wr => ∃ (k : Nat) (n v h : Int), k ≤ len2 ∧ iv = .int .i64 (k : Nat) ∧ nv = .int .i64 n ∧ vv = .int .i64 v ∧ 0 ≤ n ∧ n ≤ 1000 * k ∧ 0 ≤ v ∧ v + h ≤ a1 + a0 * n ∧ Hid (Ok a0 a1 h n) ∧ Hid (One w wr g [.int .i64 a0, .int .i64 a1, .int .i64 h, .int .i64 n])) (fun _ _ iv _ => len2 - (intOf iv).toNat)
    case atStart => exact ⟨0, 0, 0, a1, Nat.zero_le _, rfl, rfl, rfl, by omega, by omega, by omega, by rw [Int.mul_zero]; omega, HOK0, K0⟩
    case round =>
      clear K0 HOK0
      obtain ⟨k, n, v, h, hk, rfl, rfl, rfl, hn0, hn1, hv0, hvh, HOK, HT⟩ := hrel
      by_cases hlt : k < len2
      · obtain ⟨b, off, N, x, ha, hbw, hc0, hc1, hNw⟩ := HO.out k hlt
        subst ha
        have y0 : wr.cell? ⟨b, off + k * 2, none⟩ = some (.int .i64 N) := (HT.out.b.cell (p := ⟨b, off + (k * 2 + 0), none⟩) hbw).trans hc0
        have y1 : wr.cell? ⟨b, off + k * 2 + 1, none⟩ = some (.int .i64 x) := (HT.out.b.cell (p := ⟨b, off + (k * 2 + 1), none⟩) hbw).trans hc1
        have p0 := HT.out.p.at_ 0 _ rfl
        have p1 := HT.out.p.at_ 1 _ rfl
        have p2 := HT.out.p.at_ 2 _ rfl
        have p3 := HT.out.p.at_ 3 _ rfl
        have hc := cut_in x 0 1000 (by omega)
        have KC := hid (fun w => lcut_any x 0 1000 (by omega) w)
        obtain ⟨c, hcc⟩ : ∃ c, c = cutI x 0 1000 := ⟨_, rfl⟩
        rw [← hcc] at hc KC
        obtain ⟨hcl, hcu⟩ := hc
        clear HO hcc
        have hN := wf_i64 hNw
        go_upto_region 9 with (go_at_call 27; ((with_reducible refine (KC.out _).mono ?_); rintro e w1 ⟨rfl, rfl⟩))
        have hok2 := HOK.out.fill (n + c) (by omega)
        have hfa : fa n (n + c) = n + c := by unfold fa; split <;> omega
        have hh : fh h a0 a1 n (n + c) ≤ h + a0 * c := by
          unfold fh
          split
          · have : 0 ≤ a0 * c := mul_nn (by omega) hcl
            omega
          · have := fl_le h a0 a1 (n + c - n) (by omega)
            rw [show n + c - n = c by omega] at this; rw [show n + c - n = c by omega]; exact this
        rw [hfa] at hok2
        have HFA := hid hfa
        obtain ⟨h2, hh2⟩ : ∃ x, x = fh h a0 a1 n (n + c) := ⟨_, rfl⟩
        rw [← hh2] at hok2 hh
        have HH2 := hid hh2
        have HOK2 := hid hok2
        have h20 := hok2.h0
        have h21 := hok2.hd
        have hmul : a0 * (n + c) = a0 * n + a0 * c := Int.mul_add _ _ _
        have HMUL := hid hmul
        clear hfa hh2 hok2 hmul
        by_cases hno : N < 0 ∨ h2 < N
        · have KT : Hid (∀ M : World, Calls Try.prog 31 #[.agg #[.int .i64 a0, .int .i64 a1, .int .i64 h, .int .i64 n], .int .i64 N, .int .i64 (n + c)] M fun e w'' => e = .returned (.tuple #[.agg #[.int .i64 a0, .int .i64 a1, .int .i64 h2, .int .i64 (n + c)], .bool false]) ∧ Below M.heap.size M w'') := hid (fun M => by
            have := take_no a0 a1 h n N (n + c) HOK.out (by omega) (by rw [← HH2.out]; omega) M
            rw [← HH2.out, HFA.out] at this
            exact this)
          go_cut [11, 12] (fun pv bv wx => ∃ g2 : Nat, pv = .pointer (some ⟨g2, 0, none⟩) ∧ bv = .bool false ∧ Hid (Two w wx g g2 [.int .i64 a0, .int .i64 a1, .int .i64 h, .int .i64 n] [.int .i64 a0, .int .i64 a1, .int .i64 h2, .int .i64 (n + c)]))
          case first =>
            have A0 := fun o => keep_cell ((Below.refl wr.heap.size wr).alloc (Nat.le_refl _) o) y0
            have A1 := fun o => keep_cell ((Below.refl wr.heap.size wr).alloc (Nat.le_refl _) o) p0
            have A2 := fun o => keep_cell ((Below.refl wr.heap.size wr).alloc (Nat.le_refl _) o) p1
            have A3 := fun o => keep_cell ((Below.refl wr.heap.size wr).alloc (Nat.le_refl _) o) p2
            have A4 := fun o => keep_cell ((Below.refl wr.heap.size wr).alloc (Nat.le_refl _) o) p3
            go_region_with (go_at_call 31; ((with_reducible refine (KT.out _).mono ?_); rintro e w3 ⟨rfl, b3⟩; (try (have bx := Two.early HT.out b3; have j0 := bx.q.at_ 0 _ rfl; have j1 := bx.q.at_ 1 _ rfl; have j2 := bx.q.at_ 2 _ rfl; have j3 := bx.q.at_ 3 _ rfl; have i0 := bx.q.fr 0; have i1 := bx.q.fr 1; have i2 := bx.q.fr 2; have i3 := bx.q.fr 3; clear bx)); have B3 := hid b3; clear b3))
            all_goals
              go_wp2_with fail
              go_meet
              first
              | exact ⟨_, rfl, rfl, hid (Two.late HT.out B3.out)⟩
              | exact ⟨_, rfl, rfl, hid (((((Two.early HT.out B3.out).setQ 0 (.int .i64 a0)).setQ 1 (.int .i64 a1)).setQ 2 (.int .i64 h2)).setQ 3 (.int .i64 (n + c)))⟩
          case rest =>
            obtain ⟨g2, rfl, rfl, H2⟩ := hcut
            clear p0 p1 p2 p3 y0 y1 HT KT
            have y0 : wc.cell? ⟨b, off + k * 2, none⟩ = some (.int .i64 N) := (H2.out.b.cell (p := ⟨b, off + (k * 2 + 0), none⟩) hbw).trans hc0
            have p0 := H2.out.p.at_ 0 _ rfl
            have p1 := H2.out.p.at_ 1 _ rfl
            have p2 := H2.out.p.at_ 2 _ rfl
            have p3 := H2.out.p.at_ 3 _ rfl
            have q0 := H2.out.q.at_ 0 _ rfl
            have q1 := H2.out.q.at_ 1 _ rfl
            have q2 := H2.out.q.at_ 2 _ rfl
            have q3 := H2.out.q.at_ 3 _ rfl
            have f0 := H2.out.p.fr 0
            have f1 := H2.out.p.fr 1
            have f2 := H2.out.p.fr 2
            have f3 := H2.out.p.fr 3
            have hne := H2.out.ne
            have hbg : ¬ b = g := by have := H2.out.h1; omega
            have hgb : ¬ g = b := by have := H2.out.h1; omega
            have hgoal : a0 * (n + c) = a0 * n + a0 * c := HMUL.out
            have hle2 : v ≤ a1 + a0 * (n + c) := by omega
            have m0 : 0 ≤ a0 * (n + c) := mul_nn (by omega) (by omega)
            have m1 : a0 * (n + c) ≤ 1048576 * 1048576 := mul_bd (by omega) (by omega) (by omega) (by omega)
            have hvh2 : v + h2 ≤ a1 + a0 * (n + c) := by omega
            clear hgoal
            go_wp2_with fail
            go_roundw
            case rel => exact ⟨k + 1, n + c, v, h2, by omega, by go_num, rfl, rfl, by omega, by omega, by omega, hvh2, hid HOK2.out, hid ⟨(((H2.out.setP 0 (.int .i64 a0)).setP 1 (.int .i64 a1)).setP 2 (.int .i64 h2)).setP 3 (.int .i64 (n + c)) |>.b, (((H2.out.setP 0 (.int .i64 a0)).setP 1 (.int .i64 a1)).setP 2 (.int .i64 h2)).setP 3 (.int .i64 (n + c)) |>.p, H2.out.h1⟩⟩
            case measure => simp [intOf]; omega
        · have hN0 : 0 ≤ N := by omega
          have hN1 : N ≤ h2 := by omega
          have KT : Hid (∀ M : World, Calls Try.prog 31 #[.agg #[.int .i64 a0, .int .i64 a1, .int .i64 h, .int .i64 n], .int .i64 N, .int .i64 (n + c)] M fun e w'' => e = .returned (.tuple #[.agg #[.int .i64 a0, .int .i64 a1, .int .i64 (h2 - N), .int .i64 (n + c)], .bool true]) ∧ Below M.heap.size M w'') := hid (fun M => by
            have := take_yes a0 a1 h n N (n + c) HOK.out (by omega) (by rw [← HH2.out]; omega) M
            rw [← HH2.out, HFA.out] at this
            exact this)
          go_cut [11, 12] (fun pv bv wx => ∃ g2 : Nat, pv = .pointer (some ⟨g2, 0, none⟩) ∧ bv = .bool true ∧ Hid (Two w wx g g2 [.int .i64 a0, .int .i64 a1, .int .i64 h, .int .i64 n] [.int .i64 a0, .int .i64 a1, .int .i64 (h2 - N), .int .i64 (n + c)]))
          case first =>
            have A0 := fun o => keep_cell ((Below.refl wr.heap.size wr).alloc (Nat.le_refl _) o) y0
            have A1 := fun o => keep_cell ((Below.refl wr.heap.size wr).alloc (Nat.le_refl _) o) p0
            have A2 := fun o => keep_cell ((Below.refl wr.heap.size wr).alloc (Nat.le_refl _) o) p1
            have A3 := fun o => keep_cell ((Below.refl wr.heap.size wr).alloc (Nat.le_refl _) o) p2
            have A4 := fun o => keep_cell ((Below.refl wr.heap.size wr).alloc (Nat.le_refl _) o) p3
            go_region_with (go_at_call 31; ((with_reducible refine (KT.out _).mono ?_); rintro e w3 ⟨rfl, b3⟩; (try (have bx := Two.early HT.out b3; have j0 := bx.q.at_ 0 _ rfl; have j1 := bx.q.at_ 1 _ rfl; have j2 := bx.q.at_ 2 _ rfl; have j3 := bx.q.at_ 3 _ rfl; have i0 := bx.q.fr 0; have i1 := bx.q.fr 1; have i2 := bx.q.fr 2; have i3 := bx.q.fr 3; clear bx)); have B3 := hid b3; clear b3))
            all_goals
              go_wp2_with fail
              go_meet
              first
              | exact ⟨_, rfl, rfl, hid (Two.late HT.out B3.out)⟩
              | exact ⟨_, rfl, rfl, hid (((((Two.early HT.out B3.out).setQ 0 (.int .i64 a0)).setQ 1 (.int .i64 a1)).setQ 2 (.int .i64 (h2 - N))).setQ 3 (.int .i64 (n + c)))⟩
          case rest =>
            obtain ⟨g2, rfl, rfl, H2⟩ := hcut
            clear p0 p1 p2 p3 y0 y1 HT KT
            have y0 : wc.cell? ⟨b, off + k * 2, none⟩ = some (.int .i64 N) := (H2.out.b.cell (p := ⟨b, off + (k * 2 + 0), none⟩) hbw).trans hc0
            have p0 := H2.out.p.at_ 0 _ rfl
            have p1 := H2.out.p.at_ 1 _ rfl
            have p2 := H2.out.p.at_ 2 _ rfl
            have p3 := H2.out.p.at_ 3 _ rfl
            have q0 := H2.out.q.at_ 0 _ rfl
            have q1 := H2.out.q.at_ 1 _ rfl
            have q2 := H2.out.q.at_ 2 _ rfl
            have q3 := H2.out.q.at_ 3 _ rfl
            have f0 := H2.out.p.fr 0
            have f1 := H2.out.p.fr 1
            have f2 := H2.out.p.fr 2
            have f3 := H2.out.p.fr 3
            have hne := H2.out.ne
            have hbg : ¬ b = g := by have := H2.out.h1; omega
            have hgb : ¬ g = b := by have := H2.out.h1; omega
            have hgoal : a0 * (n + c) = a0 * n + a0 * c := HMUL.out
            have hle2 : v + N ≤ a1 + a0 * (n + c) := by omega
            have m0 : 0 ≤ a0 * (n + c) := mul_nn (by omega) (by omega)
            have m1 : a0 * (n + c) ≤ 1048576 * 1048576 := mul_bd (by omega) (by omega) (by omega) (by omega)
            have hvh2 : v + N + (h2 - N) ≤ a1 + a0 * (n + c) := by omega
            clear hgoal
            go_wp2_with fail
            go_roundw
            case rel => exact ⟨k + 1, n + c, v + N, (h2 - N), by omega, by go_num, rfl, rfl, by omega, by omega, by omega, hvh2, hid ⟨HOK2.out.r0, HOK2.out.r1, by omega, by omega, HOK2.out.d1, HOK2.out.a0, HOK2.out.a1⟩, hid ⟨(((H2.out.setP 0 (.int .i64 a0)).setP 1 (.int .i64 a1)).setP 2 (.int .i64 (h2 - N))).setP 3 (.int .i64 (n + c)) |>.b, (((H2.out.setP 0 (.int .i64 a0)).setP 1 (.int .i64 a1)).setP 2 (.int .i64 (h2 - N))).setP 3 (.int .i64 (n + c)) |>.p, H2.out.h1⟩⟩
            case measure => simp [intOf]; omega
      · obtain rfl : k = len2 := by omega
        have HB := hid HT.out.b
        clear HT
        go_wp2_with (go_at_call 34; ((with_reducible refine (alive_any _).mono ?_); rintro e wb ⟨rfl, h11⟩))
        go_ret
        exact ⟨rfl, HB.out.trans (h11.mono HB.out.size)⟩
set_option maxRecDepth 100000 in
theorem lifted (os : Os) (started : os.Started) (H : Type) (enc : TypeId × Value → H) :
    ReturnsInHanded {} Try.checked os 8 .any (Rows.limitBoundsSpec.pre6 enc Try.prog Try.f8 Rows.limitBoundsRow.domain false) (Rows.limitBoundsSpec.post enc Try.prog Try.f8 false true false false) := by
  refine returnsInHanded_of_change (C := Try.checked) own started (by kernel_rfl) Try.func8
    (ChangeSpec.witness6 (enc := enc) (C := Try.checked) false ⟨#[], #[.int .i64 0, .int .i64 0, .slice none 0 0], []⟩ 8 (by kernel_rfl) (by kernel_rfl) (by kernel_rfl) (by kernel_rfl)) ?_
  intro W base args ds gs before hval0 hW hcnd _
  have hval : ∀ (j : Nat) t v, Try.f8.params[j]? = some t → args[j]? = some v → Value.okWide Try.prog W .any base t v := hval0
  have hW' := hW
  obtain ⟨p, q, hA0, hV, rfl, hfz, hnd⟩ := hW
  have hA : DataW.TrodAll enc Try.prog W 0 (fun _ => true) true Try.f8.params.toList args.toList ds p := hA0
  rw [Try.params8] at hA hval
  obtain ⟨v0, vs0, d0, ds0, p0, q0, hargs, rfl, rfl, h0, r0⟩ := trodAll_cons hA
  obtain ⟨v1, vs1, d1, ds1, p1, q1, rfl, rfl, rfl, h1, r1⟩ := trodAll_cons r0
  obtain ⟨v2, vs2, d2, ds2, p2, q2, rfl, rfl, rfl, h2, r2⟩ := trodAll_cons r1
  obtain ⟨rfl, rfl, rfl⟩ := trodAll_nil r2
  obtain rfl : args = #[v0, v1, v2] := by cases args; simp_all
  obtain ⟨rfl, rfl⟩ := trodVars_none hV
  obtain ⟨a0, rfl, rfl, rfl, w0⟩ := open_int Try.underlying3 (hval 0 3 v0 rfl rfl) h0
  obtain ⟨a1, rfl, rfl, rfl, w1⟩ := open_int Try.underlying3 (hval 1 3 v1 rfl rfl) h1
  have k2 := h2
  have o2 := hval 2 61 v2 rfl rfl
  have lt2 : ∀ x ∈ p2, x.block < W.heap.size := by obtain ⟨m, hm⟩ := k2; exact DataW.trod_lt m _ _ _ hm
  clear hA0 hval0
  refine (walk (H := H) (enc := enc) (base := base) a0 a1 v2 d2 p2 W w0 w1 k2 o2).mono fun e W' ⟨he, bel⟩ => ?_
  subst he
  exact ⟨_, rfl, _, _, _, [], _, [], hW', trodAll_mk1 (shut_bool Try.underlying4 _), (trodAll_cons_mk (shut_int Try.underlying3 w0) (trodAll_cons_mk (shut_int Try.underlying3 w1) (trodAll_cons_mk (Below.trod laidOut (by kernel_rfl) (of_decide_eq_true (by kernel_rfl)) k2 bel lt2) trodAll_mk0))), rfl, bel.frame _, fun h => by cases h⟩

theorem over : Rows.limitBoundsRow.holds Try.pinned (OpenSpec.ofChange Rows.limitBoundsSpec) :=
  OpenClaim.holds_of_wide 8 Try.f8 rfl rfl rfl rfl rfl rfl rfl ⟨rfl, rfl, rfl, rfl, rfl⟩ rfl rfl rfl rfl rfl (by kernel_rfl) Try.func8 (by kernel_rfl)
    (of_decide_eq_true (by kernel_rfl)) (by unfold Func.isWrapper; first | (rw [if_pos (by decide +kernel)]; kernel_rfl) | (rw [if_neg (by decide +kernel)]; exact ⟨rfl, rfl⟩))
    (fun os started H enc _ => lifted os started H enc)

/-- the statement -/
theorem proved : Rows.LimitBoundsSaid := over
end Go.Proofs.Ytcbfebbnelofpaa.limitBounds
