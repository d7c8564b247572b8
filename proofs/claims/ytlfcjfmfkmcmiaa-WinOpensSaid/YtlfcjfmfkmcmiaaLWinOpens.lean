/- catwalklaw20.WinOpens answers true at every input, and leaves its arguments as they were. No condition. -/
import Derived.Test.YtlfcjfmfkmcmiaaRows
import Derived.WalkKit
import Derived.ProofKit
import Derived.OpenShut
import Derived.ShutString
import Derived.ChangeOld
import Derived.Below
import Derived.Test.YtlfcjfmfkmcmiaaWin2
import Derived.Test.YtlfcjfmfkmcmiaaNums
import Derived.Test.YtlfcjfmfkmcmiaaTailC
import Derived.Deep.RegionWith
import Derived.Deep.DeepCutAuto
namespace Go.Proofs.Ytlfcjfmfkmcmiaa.winOpens
open Go.ChangeShapes Go.WideShapes Go.ChangeAt Go.RowKit
open Go.ChangeMaps (open_string shut_string)
set_option linter.unusedVariables false

theorem own : ownKnob Try.prog.godebug = none := by kernel_rfl
theorem laidOut : laidOutB Try.prog = true := by kernel_rfl

/-- WHAT THE WALK IS TOLD OF A SLICE OF INTEGERS THAT CAME IN: it is nil; or it leads to a row of 'cap' cells, the numbers 'zs' (the first 'len' are its elements, the rest its spare room), each fitting its kind. -/
def IsRow (k : IntKind) (w : World) (a : Option Addr) (len cap : Nat) (zs : List Int) : Prop :=
  (a = none ∧ len = 0 ∧ cap = 0 ∧ zs = []) ∨
  ∃ x, a = some x ∧ len ≤ cap ∧ cap ≤ maxLen ∧ zs.length = cap ∧ (∀ i, i < zs.length → w.cell? (x.add i) = some (.int k (zs.getD i 0))) ∧ ∀ n ∈ zs, (Lit.int k n).wf = true

open Go.Proofs.Ytlfcjfmfkmcmiaa.kit Go.Proofs.Ytlfcjfmfkmcmiaa.wm Go.Proofs.Ytlfcjfmfkmcmiaa.wc
/-- what the loops keep -/
structure Keep (w wr : World) (g1 : Nat) (n m d : Int) : Prop where
  b : Below w.heap.size w wr
  p : Box wr g1 [.int .i64 m, .int .i64 n, .int .i64 d]
  h1 : w.heap.size ≤ g1
  inn : In n m d
theorem Keep.next {w wr w' : World} {g1 : Nat} {n m d : Int} (h : Keep w wr g1 n m d) (hb : Below wr.heap.size wr w') : Keep w w' g1 n m d :=
  ⟨h.b.trans (hb.mono h.b.size), h.p.next hb, h.h1, h.inn⟩
theorem Keep.put {w wr : World} {g1 : Nat} {n m d : Int} (h : Keep w wr g1 n m d) (x y : Int) (hi : In n x y) :
    Keep w (((wr.setCell ⟨g1, 0, none⟩ (.int .i64 x)).setCell ⟨g1, 1, none⟩ (.int .i64 n)).setCell ⟨g1, 2, none⟩ (.int .i64 y)) g1 n x y :=
  ⟨((h.b.setCell (p := ⟨g1, 0, none⟩) h.h1 _).setCell (p := ⟨g1, 1, none⟩) h.h1 _).setCell (p := ⟨g1, 2, none⟩) h.h1 _, ((h.p.set 0 _).set 1 _).set 2 _, h.h1, hi⟩
theorem k16 : kOf 16 = 16 := by decide

/-! ### STEP 1: THE WALK: the Go text returns true, AND WRITES NOTHING THAT WAS THERE: 'Below w.heap.size w w'' (Derived/Below.lean: '.refl', '.alloc', '.drew', '.setCell' at a new block, '.trans'). Open each 'IsRow' by 'rcases' AHEAD of 'go_enter'; part every test ahead of the walk. -/
set_option maxHeartbeats 2000000 in
theorem walk (a0 : Int) (a1 : Option Addr) (len1 cap1 : Nat) (z1 : List Int) (w : World) (w0 : (Lit.int .i64 a0).wf = true) (w1 : IsRow .i64 w a1 len1 cap1 z1) :
    Calls Try.prog 6 #[.int .i64 a0, .slice a1 len1 cap1] w fun e w' => e = .returned (.bool true) ∧ Below w.heap.size w w' := by
  obtain ⟨l, hN, hwf⟩ := row_nums w1
  clear w1 hwf
  have hle := hN.le
  have hmx := hN.max
  unfold maxLen at hmx
  have HN := hid hN
  clear hN
  by_cases hbig : 100 < len1
  · clear HN
    go_enter Try.func6, Try.ntmps6
    go_wp2
    go_ret
    exact ⟨rfl, Below.refl _ _⟩
  · have HI0 := hid (in_new a0)
    obtain ⟨n, hn0⟩ : ∃ n, n = cutI a0 1 16 := ⟨_, rfl⟩
    obtain ⟨m0, hm0⟩ : ∃ m, m = (n + 1) / 2 := ⟨_, rfl⟩
    have K1 := hid (fun w => new_any a0 w)
    rw [← hn0, ← hm0] at HI0 K1
    clear hm0 hn0
    go_enter Try.func6, Try.ntmps6
    go_wp2_with (go_at_call 21; ((with_reducible refine (K1.out _).mono ?_); rintro e wa ⟨rfl, ba⟩))
    have K0 : Hid (Keep w (wa.alloc (.cells #[.int .i64 m0, .int .i64 n, .int .i64 0] 36)) wa.heap.size n m0 0) :=
      hid ⟨ba.alloc ba.size _, Box.made wa #[.int .i64 m0, .int .i64 n, .int .i64 0] _, ba.size, HI0.out⟩
    obtain ⟨g1, hg1⟩ : ∃ g, g = wa.heap.size := ⟨_, rfl⟩
    rw [← hg1] at K0 ⊢
    clear K1 hg1 ba HI0
    go_loopw [6] (fun iv wr => ∃ (k : Nat) (m d : Int), k ≤ len1 ∧ iv = .int .i64 k ∧ Hid (Keep w wr g1 n m d)) (fun iv _ => len1 - (intOf iv).toNat)
    case atStart => exact ⟨0, m0, 0, Nat.zero_le _, rfl, K0⟩
    case round =>
      clear K0
      obtain ⟨k, m, d, hk, rfl, HK⟩ := hrel
      have p0 := HK.out.p.at_ 0 _ rfl
      have p1 := HK.out.p.at_ 1 _ rfl
      have p2 := HK.out.p.at_ 2 _ rfl
      by_cases hlt : k < len1
      · obtain ⟨b, off, ha, hb1, hb2, hc⟩ := HN.out.cells (by omega)
        subst ha
        obtain ⟨x, hx⟩ : ∃ x, x = l.getD k 0 := ⟨_, rfl⟩
        have hc0 := hc k hlt
        rw [← hx] at hc0
        have hcx : wr.cell? ⟨b, off + k, none⟩ = some (.int .i64 x) := (HK.out.b.cell (p := ⟨b, off + k, none⟩) hb1).trans hc0
        clear hc hx hc0
        by_cases hx0 : x < 0
        · have L1 := hid (fun w => late_any n m d HK.out.inn w)
          have HI := hid (in_late n m d HK.out.inn)
          obtain ⟨m', hm'⟩ : ∃ m', m' = (m + 1) / 2 := ⟨_, rfl⟩
          rw [← hm'] at L1 HI
          clear hm'
          go_wp2_with (go_at_call 23; ((with_reducible refine (L1.out _).mono ?_); rintro e wc ⟨rfl, bc⟩; have kd := HK.out.next bc; have v0 := kd.p.at_ 0 _ rfl; have v1 := kd.p.at_ 1 _ rfl; have v2 := kd.p.at_ 2 _ rfl; have v3 := kd.p.fr 0; have v4 := kd.p.fr 1; have v5 := kd.p.fr 2; have KD := hid kd; clear kd))
          go_roundw
          case rel => exact ⟨k + 1, m', 0, by omega, by go_num, hid (KD.out.put m' 0 HI.out)⟩
          case measure => simp [intOf]; omega
        · have L1 := hid (fun N : After wr => after_call (acked_any n m d x HK.out.inn N.w))
          have HI := hid (in_acks n m d HK.out.inn (kOf x))
          obtain ⟨m', hm'⟩ : ∃ m', m' = sR n (kOf x) m d := ⟨_, rfl⟩
          obtain ⟨d', hd'⟩ : ∃ d', d' = cR n (kOf x) m d := ⟨_, rfl⟩
          rw [← hm', ← hd'] at L1 HI
          clear hm' hd'
          have z0 := After.cell p0
          have z1 := After.cell p1
          have z2 := After.cell p2
          have z4 := After.cell hcx
          go_upto_region 9 with fail
          refine wp_region_after_tail wr 6 (by kernel_rfl) (by kernel_rfl) ((Below.refl _ _).drew) ?_
          simp only [List.take_succ_cons, List.take_zero, List.drop_succ_cons, List.drop_zero]
          repeat (go_big_quiet_step (exact L1.out _))
          refine wpQuiet_nil ?_
          intro w3 hw'
          obtain ⟨N3, e3⟩ := hw'
          have b3 : Below wr.heap.size wr w3 := by rw [e3]; exact N3.h
          clear e3 N3 L1 z0 z1 z2 z4
          have kd := HK.out.next b3
          have v0 := kd.p.at_ 0 _ rfl
          have v1 := kd.p.at_ 1 _ rfl
          have v2 := kd.p.at_ 2 _ rfl
          have v3 := kd.p.fr 0
          have v4 := kd.p.fr 1
          have v5 := kd.p.fr 2
          have KD := hid kd
          clear kd b3 p0 p1 p2 hcx
          go_wp2_with fail
          go_roundw
          case rel => exact ⟨k + 1, m', d', by omega, by go_num, hid (KD.out.put m' d' HI.out)⟩
          case measure => simp [intOf]; omega
      · obtain rfl : k = len1 := by omega
        clear hlt HN
        have F0 := hid (far_start n m d HK.out.inn)
        clear p0 p1 p2
        go_wp2_with fail
        go_loopw [7] (fun iv wq => ∃ (j : Nat) (m d : Int), j ≤ 20 ∧ iv = .int .i64 j ∧ Hid (Far n j m) ∧ Hid (Keep w wq g1 n m d)) (fun iv _ => 20 - (intOf iv).toNat)
        case atStart => exact ⟨0, m, d, Nat.zero_le _, rfl, F0, HK⟩
        case round =>
          clear F0 HK
          obtain ⟨j, m, d, hj, rfl, HF, HK⟩ := hrel
          have p0 := HK.out.p.at_ 0 _ rfl
          have p1 := HK.out.p.at_ 1 _ rfl
          have p2 := HK.out.p.at_ 2 _ rfl
          by_cases hlt : j < 20
          · have L1 := hid (fun w => k16 ▸ acked_any n m d 16 HK.out.inn w)
            have HI := hid (in_acks n m d HK.out.inn 16)
            have HF2 := hid (far_step n m d HK.out.inn j HF.out)
            obtain ⟨m', hm'⟩ : ∃ m', m' = sR n 16 m d := ⟨_, rfl⟩
            obtain ⟨d', hd'⟩ : ∃ d', d' = cR n 16 m d := ⟨_, rfl⟩
            rw [← hm', ← hd'] at L1 HI
            rw [← hm'] at HF2
            clear hm' hd'
            go_wp2_with (go_at_call 25; ((with_reducible refine (L1.out _).mono ?_); rintro e wc ⟨rfl, bc⟩; have kd := HK.out.next bc; have v0 := kd.p.at_ 0 _ rfl; have v1 := kd.p.at_ 1 _ rfl; have v2 := kd.p.at_ 2 _ rfl; have v3 := kd.p.fr 0; have v4 := kd.p.fr 1; have v5 := kd.p.fr 2; have KD := hid kd; clear kd))
            go_roundw
            case rel => exact ⟨j + 1, m', d', by omega, by go_num, HF2, hid (KD.out.put _ _ HI.out)⟩
            case measure => simp [intOf]; omega
          · obtain rfl : j = 20 := by omega
            have e := far_end n m d HK.out.inn HF.out
            subst e
            have z0 := After.cell p0
            have z1 := After.cell p1
            have z2 := After.cell p2
            obtain ⟨W, hW⟩ : ∃ W : World, W = wr := ⟨_, rfl⟩
            have C1 := hid (fun N : After wr => after_call (size_any m m d N.w))
            have C2 := hid (fun N : After wr => after_call (most_any m m d N.w))
            have C3 := hid (fun N : After wr => after_call (alive_any N.w))
            have B := hid HK.out.b
            clear HK HF p0 p1 p2 hW
            go_upto_region 14 with fail
            refine wp_region_after wr (by kernel_rfl) (by kernel_rfl) ((Below.refl _ _).drew) ?_
            repeat (go_big_quiet_step (first | exact C1.out _ | exact C2.out _ | exact C3.out _))
            refine wpQuiet_nil ?_
            intro w3 hw'
            obtain ⟨N3, e3⟩ := hw'
            have b3 : Below wr.heap.size wr w3 := by rw [e3]; exact N3.h
            clear e3 N3 C1 C2 C3 z0 z1 z2
            go_wp2_with fail
            go_ret
            exact ⟨rfl, B.out.trans (b3.mono B.out.size)⟩

/-! ### THE ROW's STEP: WRITTEN OUT: LEAVE IT -/
set_option maxRecDepth 100000 in
theorem lifted (os : Os) (started : os.Started) (H : Type) (enc : TypeId × Value → H) :
    ReturnsInHanded {} Try.checked os 6 .any (Rows.winOpensSpec.pre6 enc Try.prog Try.f6 Rows.winOpensRow.domain false) (Rows.winOpensSpec.post enc Try.prog Try.f6 false true false false) := by
  refine returnsInHanded_of_change (C := Try.checked) own started (by kernel_rfl) Try.func6
    (ChangeSpec.witness6 (enc := enc) (C := Try.checked) false ⟨#[], #[.int .i64 0, .slice none 0 0], []⟩ 8 (by kernel_rfl) (by kernel_rfl) (by kernel_rfl) (by kernel_rfl)) ?_
  intro W base args ds gs before hval0 hW hcnd _
  have hval : ∀ (j : Nat) t v, Try.f6.params[j]? = some t → args[j]? = some v → Value.okWide Try.prog W .any base t v := hval0
  have hW' := hW
  obtain ⟨p, q, hA0, hV, rfl, hfz, hnd⟩ := hW
  have hA : DataW.TrodAll enc Try.prog W 0 (fun _ => true) true Try.f6.params.toList args.toList ds p := hA0
  rw [Try.params6] at hA hval
  obtain ⟨v0, vs0, d0, ds0, p0, q0, hargs, rfl, rfl, h0, r0⟩ := trodAll_cons hA
  obtain ⟨v1, vs1, d1, ds1, p1, q1, rfl, rfl, rfl, h1, r1⟩ := trodAll_cons r0
  obtain ⟨rfl, rfl, rfl⟩ := trodAll_nil r1
  obtain rfl : args = #[v0, v1] := by cases args; simp_all
  obtain ⟨rfl, rfl⟩ := trodVars_none hV
  obtain ⟨a0, rfl, rfl, rfl, w0⟩ := open_int Try.underlying3 (hval 0 3 v0 rfl rfl) h0
  obtain ⟨a1, len1, cap1, rfl⟩ := okWide_slice Try.underlying22 (hval 1 22 v1 rfl rfl)
  have k1 := h1
  have lt1 : ∀ x ∈ p1, x.block < W.heap.size := by obtain ⟨m, hm⟩ := k1; exact DataW.trod_lt m _ _ _ hm
  obtain ⟨z1, w1⟩ : ∃ zs, IsRow .i64 W a1 len1 cap1 zs := by
    obtain ⟨fuel, hf⟩ := h1
    rcases open_ints Try.underlying22 Try.underlying3 (by kernel_rfl) hf with ⟨hcs, _⟩ | ⟨x, l, c, zs, hcs, _, hl, hm, hz, _, hcell, hwz⟩
    · simp [Value.cells] at hcs
      obtain ⟨rfl, rfl, rfl⟩ := hcs
      exact ⟨[], .inl ⟨rfl, rfl, rfl, rfl⟩⟩
    · simp [Value.cells] at hcs
      obtain ⟨rfl, rfl, rfl⟩ := hcs
      exact ⟨zs, .inr ⟨_, rfl, hl, hm, by simpa using hz, hcell, hwz⟩⟩
  clear hA0 hval0
  refine (walk a0 a1 len1 cap1 z1 W w0 w1).mono fun e W' ⟨he, bel⟩ => ?_
  subst he
  exact ⟨_, rfl, _, _, _, [], _, [], hW', trodAll_mk1 (shut_bool Try.underlying4 _), (trodAll_cons_mk (shut_int Try.underlying3 w0) (trodAll_cons_mk (Below.trod laidOut (by kernel_rfl) (of_decide_eq_true (by kernel_rfl)) k1 bel lt1) trodAll_mk0)), rfl, bel.frame _, fun h => by cases h⟩

theorem over : Rows.winOpensRow.holds Try.pinned (OpenSpec.ofChange Rows.winOpensSpec) :=
  OpenClaim.holds_of_wide 6 Try.f6 rfl rfl rfl rfl rfl rfl rfl ⟨rfl, rfl, rfl, rfl, rfl⟩ rfl rfl rfl rfl rfl (by kernel_rfl) Try.func6 (by kernel_rfl)
    (of_decide_eq_true (by kernel_rfl)) (by unfold Func.isWrapper; first | (rw [if_pos (by decide +kernel)]; kernel_rfl) | (rw [if_neg (by decide +kernel)]; exact ⟨rfl, rfl⟩))
    (fun os started H enc _ => lifted os started H enc)

/-- ████ THE STATEMENT ████ -/
theorem proved : Rows.WinOpensSaid := over
end Go.Proofs.Ytlfcjfmfkmcmiaa.winOpens
