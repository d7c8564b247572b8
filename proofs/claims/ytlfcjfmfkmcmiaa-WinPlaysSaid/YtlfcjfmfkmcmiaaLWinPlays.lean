/- catwalklaw20.WinPlays answers true at every input, and leaves its arguments as they were. No condition. -/
import Derived.Test.YtlfcjfmfkmcmiaaRows
import Derived.WalkKit
import Derived.ProofKit
import Derived.OpenShut
import Derived.ShutString
import Derived.ChangeOld
import Derived.Below
import Derived.Test.YtlfcjfmfkmcmiaaWin2
import Derived.Test.YtlfcjfmfkmcmiaaNums
import Derived.Test.YtlfcjfmfkmcmiaaTailC
import Derived.Deep.RegionWith
import Derived.Deep.DeepCutAuto
namespace Go.Proofs.Ytlfcjfmfkmcmiaa.winPlays
open Go.ChangeShapes Go.WideShapes Go.ChangeAt Go.RowKit
open Go.ChangeMaps (open_string shut_string)
set_option linter.unusedVariables false

theorem own : ownKnob Try.prog.godebug = none := by kernel_rfl
theorem laidOut : laidOutB Try.prog = true := by kernel_rfl

/-- WHAT THE WALK IS TOLD OF A SLICE OF INTEGERS THAT CAME IN: it is nil; or it leads to a row of 'cap' cells, the numbers 'zs' (the first 'len' are its elements, the rest its spare room), each fitting its kind. -/
def IsRow (k : IntKind) (w : World) (a : Option Addr) (len cap : Nat) (zs : List Int) : Prop :=
  (a = none ∧ len = 0 ∧ cap = 0 ∧ zs = []) ∨
  ∃ x, a = some x ∧ len ≤ cap ∧ cap ≤ maxLen ∧ zs.length = cap ∧ (∀ i, i < zs.length → w.cell? (x.add i) = some (.int k (zs.getD i 0))) ∧ ∀ n ∈ zs, (Lit.int k n).wf = true

open Go.Proofs.Ytlfcjfmfkmcmiaa.kit Go.Proofs.Ytlfcjfmfkmcmiaa.wm Go.Proofs.Ytlfcjfmfkmcmiaa.wc
/-- what the loop keeps: the two blocks bear the same numbers -/
structure Keep (w wr : World) (g1 g2 : Nat) (n m d : Int) : Prop where
  b : Below w.heap.size w wr
  p : Box wr g1 [.int .i64 m, .int .i64 n, .int .i64 d]
  q : Box wr g2 [.int .i64 m, .int .i64 d, .int .i64 n]
  h1 : w.heap.size ≤ g1
  h2 : g1 < g2
  inn : In n m d
theorem Keep.next {w wr w' : World} {g1 g2 : Nat} {n m d : Int} (h : Keep w wr g1 g2 n m d) (hb : Below wr.heap.size wr w') : Keep w w' g1 g2 n m d :=
  ⟨h.b.trans (hb.mono h.b.size), h.p.next hb, h.q.next hb, h.h1, h.h2, h.inn⟩
theorem Keep.put {w wr : World} {g1 g2 : Nat} {n m d : Int} (h : Keep w wr g1 g2 n m d) (x y : Int) (hi : In n x y) :
    Keep w ((((((wr.setCell ⟨g1, 0, none⟩ (.int .i64 x)).setCell ⟨g1, 1, none⟩ (.int .i64 n)).setCell ⟨g1, 2, none⟩ (.int .i64 y)).setCell ⟨g2, 0, none⟩ (.int .i64 x)).setCell ⟨g2, 1, none⟩ (.int .i64 y)).setCell ⟨g2, 2, none⟩ (.int .i64 n)) g1 g2 n x y := by
  have hl := h.h2
  have hg := h.h1
  have hg2 : w.heap.size ≤ g2 := by omega
  refine ⟨?_, ?_, ?_, h.h1, h.h2, hi⟩
  · exact (((((h.b.setCell (p := ⟨g1, 0, none⟩) hg _).setCell (p := ⟨g1, 1, none⟩) hg _).setCell (p := ⟨g1, 2, none⟩) hg _).setCell (p := ⟨g2, 0, none⟩) hg2 _).setCell (p := ⟨g2, 1, none⟩) hg2 _).setCell (p := ⟨g2, 2, none⟩) hg2 _
  · exact (((((h.p.set 0 _).set 1 _).set 2 _).other (by omega) _).other (by omega) _).other (by omega) _
  · exact (((((h.q.other (by omega) _).other (by omega) _).other (by omega) _).set 0 _).set 1 _).set 2 _

/-! ### STEP 1: THE WALK: the Go text returns true, AND WRITES NOTHING THAT WAS THERE: 'Below w.heap.size w w'' (Derived/Below.lean: '.refl', '.alloc', '.drew', '.setCell' at a new block, '.trans'). Open each 'IsRow' by 'rcases' AHEAD of 'go_enter'; part every test ahead of the walk. -/
set_option maxHeartbeats 2000000 in
theorem walk (a0 : Int) (a1 : Option Addr) (len1 cap1 : Nat) (z1 : List Int) (w : World) (w0 : (Lit.int .i64 a0).wf = true) (w1 : IsRow .i64 w a1 len1 cap1 z1) :
    Calls Try.prog 5 #[.int .i64 a0, .slice a1 len1 cap1] w fun e w' => e = .returned (.bool true) ∧ Below w.heap.size w w' := by
  obtain ⟨l, hN, hwf⟩ := row_nums w1
  clear w1 hwf
  have hle := hN.le
  have hmx := hN.max
  unfold maxLen at hmx
  by_cases hbig : 300 < len1
  · clear hN
    go_enter Try.func5, Try.ntmps5
    go_wp2
    go_ret
    exact ⟨rfl, Below.refl _ _⟩
  · have HN := hid hN
    have HL := hid hN.len
    clear hN
    have HI := hid (in_new a0)
    obtain ⟨n, hn0⟩ : ∃ n, n = cutI a0 1 16 := ⟨_, rfl⟩
    obtain ⟨m0, hm0⟩ : ∃ m, m = (n + 1) / 2 := ⟨_, rfl⟩
    have K1 := hid (fun w => new_any a0 w)
    have K2 := hid (fun w => rnew_any a0 w)
    rw [← hn0, ← hm0] at HI K1 K2
    clear hm0 hn0
    go_enter Try.func5, Try.ntmps5
    go_wp2_with (first | (go_at_call 21; ((with_reducible refine (K1.out _).mono ?_); rintro e wa ⟨rfl, ba⟩)) | (go_at_call 22; ((with_reducible refine (K2.out _).mono ?_); rintro e wb ⟨rfl, bb⟩)))
    have k0 : Keep w (wb.alloc (.cells #[.int .i64 m0, .int .i64 0, .int .i64 n] 39)) wa.heap.size wb.heap.size n m0 0 := by
      have c0 : Below w.heap.size w (wa.alloc (.cells #[.int .i64 m0, .int .i64 n, .int .i64 0] 36)) := ba.alloc ba.size _
      have c1 := bb.size
      simp only [World.size_alloc] at c1
      have c2 : Below w.heap.size w wb := c0.trans (bb.mono (by have := ba.size; simp; omega))
      refine ⟨c2.alloc c2.size _, ?_, Box.made wb #[.int .i64 m0, .int .i64 0, .int .i64 n] _, ba.size, by omega, HI.out⟩
      exact ((Box.made wa #[.int .i64 m0, .int .i64 n, .int .i64 0] 36).next bb).next ((Below.refl _ _).alloc (Nat.le_refl _) _)
    obtain ⟨g1, hg1⟩ : ∃ g, g = wa.heap.size := ⟨_, rfl⟩
    obtain ⟨g2, hg2⟩ : ∃ g, g = wb.heap.size := ⟨_, rfl⟩
    rw [← hg1, ← hg2] at k0 ⊢
    have K0 := hid k0
    clear K1 K2 HI k0 hg1 hg2 bb ba
    go_loopw [7] (fun iv wr => ∃ (k : Nat) (m d : Int), k ≤ len1 ∧ iv = .int .i64 k ∧ Hid (Keep w wr g1 g2 n m d)) (fun iv _ => len1 - (intOf iv).toNat)
    case atStart => exact ⟨0, m0, 0, Nat.zero_le _, rfl, K0⟩
    case round =>
      clear K0
      obtain ⟨k, m, d, hk, rfl, HK⟩ := hrel
      by_cases hlt : k < len1
      · obtain ⟨b, off, ha, hb1, hb2, hc⟩ := HN.out.cells (by omega)
        subst ha
        obtain ⟨x, hx⟩ : ∃ x, x = l.getD k 0 := ⟨_, rfl⟩
        have hc0 := hc k hlt
        rw [← hx] at hc0
        have HCX := hid (fun (W : World) (hb : Below w.heap.size w W) => (hb.cell (p := ⟨b, off + k, none⟩) hb1).trans hc0)
        clear hc hx hc0
        have hcx := HCX.out wr HK.out.b
        have p0 := HK.out.p.at_ 0 _ rfl
        have p1 := HK.out.p.at_ 1 _ rfl
        have q0 := HK.out.q.at_ 0 _ rfl
        have q1 := HK.out.q.at_ 1 _ rfl
        have p2 := HK.out.p.at_ 2 _ rfl
        have q2 := HK.out.q.at_ 2 _ rfl
        have hne : ¬ g1 = g2 := by have := HK.out.h2; omega
        have hne2 : ¬ g2 = g1 := by have := HK.out.h2; omega
        go_upto_if 25 with fail
        go_cut [7] (fun iv wx => iv = .int .i64 (k : Nat) ∧ Hid (∃ m' d', Keep w wx g1 g2 n m' d'))
        case first =>
          by_cases hx0 : x < 0
          · have L1 := hid (fun N : After wr => after_call (late_any n m d HK.out.inn N.w))
            have L2 := hid (fun N : After wr => after_call (rlate_any n m d HK.out.inn N.w))
            have HI := hid (in_late n m d HK.out.inn)
            obtain ⟨m', hm'⟩ : ∃ m', m' = (m + 1) / 2 := ⟨_, rfl⟩
            rw [← hm'] at L1 L2 HI
            clear hm'
            have z0 := After.cell p0
            have z1 := After.cell p1
            have z2 := After.cell p2
            have z3 := After.cell q0
            have z4 := After.cell q1
            have z5 := After.cell q2
            have z6 := After.cell hcx
            go_upto_region 9 with fail
            refine wp_region_after_tail wr 4 (by kernel_rfl) (by kernel_rfl) ((Below.refl _ _).drew) ?_
            simp only [List.take_succ_cons, List.take_zero, List.drop_succ_cons, List.drop_zero]
            repeat (go_big_quiet_step (first | exact L1.out _ | exact L2.out _))
            refine wpQuiet_nil ?_
            intro w3 hw'
            obtain ⟨N3, e3⟩ := hw'
            have b3 : Below wr.heap.size wr w3 := by rw [e3]; exact N3.h
            clear e3 N3 L1 L2 z0 z1 z2 z3 z4 z5 z6
            have kd := HK.out.next b3
            have v0 := kd.p.at_ 0 _ rfl
            have v1 := kd.p.at_ 1 _ rfl
            have v2 := kd.p.at_ 2 _ rfl
            have v3 := kd.q.at_ 0 _ rfl
            have v4 := kd.q.at_ 1 _ rfl
            have v5 := kd.q.at_ 2 _ rfl
            have f0 := kd.p.fr 0
            have f1 := kd.p.fr 1
            have f2 := kd.p.fr 2
            have f3 := kd.q.fr 0
            have f4 := kd.q.fr 1
            have f5 := kd.q.fr 2
            have KD := hid kd
            clear kd b3 p0 p1 p2 q0 q1 q2 hcx
            go_wp2_with fail
            go_meet
            exact ⟨rfl, hid ⟨_, _, KD.out.put m' 0 HI.out⟩⟩
          · have L1 := hid (fun N : After wr => after_call (acked_any n m d x HK.out.inn N.w))
            have L2 := hid (fun N : After wr => after_call (racked_any n m d x HK.out.inn N.w))
            have HI := hid (in_acks n m d HK.out.inn (kOf x))
            obtain ⟨m', hm'⟩ : ∃ m', m' = sR n (kOf x) m d := ⟨_, rfl⟩
            obtain ⟨d', hd'⟩ : ∃ d', d' = cR n (kOf x) m d := ⟨_, rfl⟩
            rw [← hm', ← hd'] at L1 L2 HI
            clear hm' hd'
            have z0 := After.cell p0
            have z1 := After.cell p1
            have z2 := After.cell p2
            have z3 := After.cell q0
            have z4 := After.cell q1
            have z5 := After.cell q2
            have z6 := After.cell hcx
            go_upto_region 10 with fail
            refine wp_region_after_tail wr 12 (by kernel_rfl) (by kernel_rfl) ((Below.refl _ _).drew) ?_
            simp only [List.take_succ_cons, List.take_zero, List.drop_succ_cons, List.drop_zero]
            repeat (go_big_quiet_step (first | exact L1.out _ | exact L2.out _))
            refine wpQuiet_nil ?_
            intro w3 hw'
            obtain ⟨N3, e3⟩ := hw'
            have b3 : Below wr.heap.size wr w3 := by rw [e3]; exact N3.h
            clear e3 N3 L1 L2 z0 z1 z2 z3 z4 z5 z6
            have kd := HK.out.next b3
            have v0 := kd.p.at_ 0 _ rfl
            have v1 := kd.p.at_ 1 _ rfl
            have v2 := kd.p.at_ 2 _ rfl
            have v3 := kd.q.at_ 0 _ rfl
            have v4 := kd.q.at_ 1 _ rfl
            have v5 := kd.q.at_ 2 _ rfl
            have f0 := kd.p.fr 0
            have f1 := kd.p.fr 1
            have f2 := kd.p.fr 2
            have f3 := kd.q.fr 0
            have f4 := kd.q.fr 1
            have f5 := kd.q.fr 2
            have KD := hid kd
            clear kd b3 p0 p1 p2 q0 q1 q2 hcx
            go_wp2_with fail
            go_meet
            exact ⟨rfl, hid ⟨_, _, KD.out.put m' d' HI.out⟩⟩
        case rest =>
          obtain ⟨rfl, hcut2⟩ := hcut
          obtain ⟨m', d', hK'⟩ := hcut2.out
          clear hcut2 p0 p1 p2 q0 q1 q2 hcx HK HCX
          have hin := hK'.inn
          obtain ⟨i1, i2, i3, i4, i5, i6⟩ := hin
          have x0 := hK'.p.at_ 0 _ rfl
          have x1 := hK'.p.at_ 1 _ rfl
          have x2 := hK'.p.at_ 2 _ rfl
          have y0 := hK'.q.at_ 0 _ rfl
          have y1 := hK'.q.at_ 1 _ rfl
          have y2 := hK'.q.at_ 2 _ rfl
          have HK2 := hid hK'
          obtain ⟨W, hW⟩ : ∃ W, W = wc := ⟨_, rfl⟩
          rw [← hW] at x0 x1 x2 y0 y1 y2 HK2
          have z0 := After.cell x0
          have z1 := After.cell x1
          have z2 := After.cell x2
          have z3 := After.cell y0
          have z4 := After.cell y1
          have z5 := After.cell y2
          have C1 := hid (fun N : After W => after_call (size_any m' n d' N.w))
          have C2 := hid (fun N : After W => after_call (most_any m' n d' N.w))
          clear hK' x0 x1 x2 y0 y1 y2
          go_upto_region 11 with fail
          rw [← hW]
          clear hW
          have hj1 : decide (m' < 1) = false := by simp; omega
          have hj2 : decide (n < m') = false := by simp; omega
          refine wp_region_after W (by kernel_rfl) (by kernel_rfl) ((Below.refl _ _).drew) ?_
          repeat (go_big_quiet_step (first | exact C1.out _ | exact C2.out _))
          refine wpQuiet_nil ?_
          intro w3 hw'
          obtain ⟨N3, e3⟩ := hw'
          have b3 : Below W.heap.size W w3 := by rw [e3]; exact N3.h
          clear e3 N3 C1 C2 z0 z1 z2 z3 z4 z5
          go_wp2_with fail
          go_roundw
          case rel => exact ⟨k + 1, m', d', by omega, by go_num, hid (HK2.out.next b3)⟩
          case measure => simp [intOf]; omega
      · obtain rfl : k = len1 := by omega
        have x0 := HK.out.p.at_ 0 _ rfl
        have x1 := HK.out.p.at_ 1 _ rfl
        have x2 := HK.out.p.at_ 2 _ rfl
        have y0 := HK.out.q.at_ 0 _ rfl
        have z0 := After.cell x0
        have z1 := After.cell x1
        have z2 := After.cell x2
        have z3 := After.cell y0
        have C1 := hid (fun N : After wr => after_call (size_any m n d N.w))
        have C2 := hid (fun N : After wr => after_call (alive_any N.w))
        have B := hid HK.out.b
        clear HK x0 x1 x2 y0
        go_upto_region 13 with fail
        refine wp_region_after wr (by kernel_rfl) (by kernel_rfl) ((Below.refl _ _).drew) ?_
        repeat (go_big_quiet_step (first | exact C1.out _ | exact C2.out _))
        refine wpQuiet_nil ?_
        intro w3 hw'
        obtain ⟨N3, e3⟩ := hw'
        have b3 : Below wr.heap.size wr w3 := by rw [e3]; exact N3.h
        clear e3 N3 C1 C2 z0 z1 z2 z3
        go_wp2_with fail
        go_ret
        exact ⟨rfl, B.out.trans (b3.mono B.out.size)⟩

/-! ### THE ROW's STEP: WRITTEN OUT: LEAVE IT -/
set_option maxRecDepth 100000 in
theorem lifted (os : Os) (started : os.Started) (H : Type) (enc : TypeId × Value → H) :
    ReturnsInHanded {} Try.checked os 5 .any (Rows.winPlaysSpec.pre6 enc Try.prog Try.f5 Rows.winPlaysRow.domain false) (Rows.winPlaysSpec.post enc Try.prog Try.f5 false true false false) := by
  refine returnsInHanded_of_change (C := Try.checked) own started (by kernel_rfl) Try.func5
    (ChangeSpec.witness6 (enc := enc) (C := Try.checked) false ⟨#[], #[.int .i64 0, .slice none 0 0], []⟩ 8 (by kernel_rfl) (by kernel_rfl) (by kernel_rfl) (by kernel_rfl)) ?_
  intro W base args ds gs before hval0 hW hcnd _
  have hval : ∀ (j : Nat) t v, Try.f5.params[j]? = some t → args[j]? = some v → Value.okWide Try.prog W .any base t v := hval0
  have hW' := hW
  obtain ⟨p, q, hA0, hV, rfl, hfz, hnd⟩ := hW
  have hA : DataW.TrodAll enc Try.prog W 0 (fun _ => true) true Try.f5.params.toList args.toList ds p := hA0
  rw [Try.params5] at hA hval
  obtain ⟨v0, vs0, d0, ds0, p0, q0, hargs, rfl, rfl, h0, r0⟩ := trodAll_cons hA
  obtain ⟨v1, vs1, d1, ds1, p1, q1, rfl, rfl, rfl, h1, r1⟩ := trodAll_cons r0
  obtain ⟨rfl, rfl, rfl⟩ := trodAll_nil r1
  obtain rfl : args = #[v0, v1] := by cases args; simp_all
  obtain ⟨rfl, rfl⟩ := trodVars_none hV
  obtain ⟨a0, rfl, rfl, rfl, w0⟩ := open_int Try.underlying3 (hval 0 3 v0 rfl rfl) h0
  obtain ⟨a1, len1, cap1, rfl⟩ := okWide_slice Try.underlying22 (hval 1 22 v1 rfl rfl)
  have k1 := h1
  have lt1 : ∀ x ∈ p1, x.block < W.heap.size := by obtain ⟨m, hm⟩ := k1; exact DataW.trod_lt m _ _ _ hm
  obtain ⟨z1, w1⟩ : ∃ zs, IsRow .i64 W a1 len1 cap1 zs := by
    obtain ⟨fuel, hf⟩ := h1
    rcases open_ints Try.underlying22 Try.underlying3 (by kernel_rfl) hf with ⟨hcs, _⟩ | ⟨x, l, c, zs, hcs, _, hl, hm, hz, _, hcell, hwz⟩
    · simp [Value.cells] at hcs
      obtain ⟨rfl, rfl, rfl⟩ := hcs
      exact ⟨[], .inl ⟨rfl, rfl, rfl, rfl⟩⟩
    · simp [Value.cells] at hcs
      obtain ⟨rfl, rfl, rfl⟩ := hcs
      exact ⟨zs, .inr ⟨_, rfl, hl, hm, by simpa using hz, hcell, hwz⟩⟩
  clear hA0 hval0
  refine (walk a0 a1 len1 cap1 z1 W w0 w1).mono fun e W' ⟨he, bel⟩ => ?_
  subst he
  exact ⟨_, rfl, _, _, _, [], _, [], hW', trodAll_mk1 (shut_bool Try.underlying4 _), (trodAll_cons_mk (shut_int Try.underlying3 w0) (trodAll_cons_mk (Below.trod laidOut (by kernel_rfl) (of_decide_eq_true (by kernel_rfl)) k1 bel lt1) trodAll_mk0)), rfl, bel.frame _, fun h => by cases h⟩

theorem over : Rows.winPlaysRow.holds Try.pinned (OpenSpec.ofChange Rows.winPlaysSpec) :=
  OpenClaim.holds_of_wide 5 Try.f5 rfl rfl rfl rfl rfl rfl rfl ⟨rfl, rfl, rfl, rfl, rfl⟩ rfl rfl rfl rfl rfl (by kernel_rfl) Try.func5 (by kernel_rfl)
    (of_decide_eq_true (by kernel_rfl)) (by unfold Func.isWrapper; first | (rw [if_pos (by decide +kernel)]; kernel_rfl) | (rw [if_neg (by decide +kernel)]; exact ⟨rfl, rfl⟩))
    (fun os started H enc _ => lifted os started H enc)

/-- ████ THE STATEMENT ████ -/
theorem proved : Rows.WinPlaysSaid := over
end Go.Proofs.Ytlfcjfmfkmcmiaa.winPlays
