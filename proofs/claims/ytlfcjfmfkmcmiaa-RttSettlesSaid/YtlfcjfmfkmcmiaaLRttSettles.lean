/- catwalklaw19.RttSettles answers true at every input, and leaves its arguments as they were. No condition. -/
import Derived.Test.YtlfcjfmfkmcmiaaRows
import Derived.WalkKit
import Derived.ProofKit
import Derived.OpenShut
import Derived.ShutString
import Derived.ChangeOld
import Derived.Below
import Derived.Test.YtlfcjfmfkmcmiaaRtt2
import Derived.Test.YtlfcjfmfkmcmiaaNums
import Derived.Test.YtlfcjfmfkmcmiaaTailC
import Derived.Deep.RegionWith
import Derived.Deep.DeepCutAuto
namespace Go.Proofs.Ytlfcjfmfkmcmiaa.rttSettles
open Go.ChangeShapes Go.WideShapes Go.ChangeAt Go.RowKit
open Go.ChangeMaps (open_string shut_string)
set_option linter.unusedVariables false

theorem own : ownKnob Try.prog.godebug = none := by kernel_rfl
theorem laidOut : laidOutB Try.prog = true := by kernel_rfl

/-- WHAT THE WALK IS TOLD OF A SLICE OF INTEGERS THAT CAME IN: it is nil; or it leads to a row of 'cap' cells, the numbers 'zs' (the first 'len' are its elements, the rest its spare room), each fitting its kind. -/
def IsRow (k : IntKind) (w : World) (a : Option Addr) (len cap : Nat) (zs : List Int) : Prop :=
  (a = none ∧ len = 0 ∧ cap = 0 ∧ zs = []) ∨
  ∃ x, a = some x ∧ len ≤ cap ∧ cap ≤ maxLen ∧ zs.length = cap ∧ (∀ i, i < zs.length → w.cell? (x.add i) = some (.int k (zs.getD i 0))) ∧ ∀ n ∈ zs, (Lit.int k n).wf = true

open Go.Proofs.Ytlfcjfmfkmcmiaa.kit Go.Proofs.Ytlfcjfmfkmcmiaa.rm Go.Proofs.Ytlfcjfmfkmcmiaa.rc
/-- what the loops keep -/
structure Keep (w wr : World) (g1 : Nat) (m d : Int) : Prop where
  b : Below w.heap.size w wr
  p : Box wr g1 [.int .i64 m, .int .i64 d]
  h1 : w.heap.size ≤ g1
  inn : In m d
theorem Keep.next {w wr w' : World} {g1 : Nat} {m d : Int} (h : Keep w wr g1 m d) (hb : Below wr.heap.size wr w') : Keep w w' g1 m d :=
  ⟨h.b.trans (hb.mono h.b.size), h.p.next hb, h.h1, h.inn⟩
theorem Keep.put {w wr : World} {g1 : Nat} {m d : Int} (h : Keep w wr g1 m d) (x y : Int) (hi : In x y) :
    Keep w ((wr.setCell ⟨g1, 0, none⟩ (.int .i64 x)).setCell ⟨g1, 1, none⟩ (.int .i64 y)) g1 x y :=
  ⟨(h.b.setCell (p := ⟨g1, 0, none⟩) h.h1 _).setCell (p := ⟨g1, 1, none⟩) h.h1 _, (h.p.set 0 _).set 1 _, h.h1, hi⟩

/-! ### STEP 1: THE WALK: the Go text returns true, AND WRITES NOTHING THAT WAS THERE: 'Below w.heap.size w w'' (Derived/Below.lean: '.refl', '.alloc', '.drew', '.setCell' at a new block, '.trans'). Open each 'IsRow' by 'rcases' AHEAD of 'go_enter'; part every test ahead of the walk. -/
set_option maxHeartbeats 2000000 in
theorem walk (a0 : Option Addr) (len0 cap0 : Nat) (z0 : List Int) (a1 : Int) (a2 : Int) (w : World) (w0 : IsRow .i64 w a0 len0 cap0 z0) (w1 : (Lit.int .i64 a1).wf = true) (w2 : (Lit.int .i64 a2).wf = true) :
    Calls Try.prog 4 #[.slice a0 len0 cap0, .int .i64 a1, .int .i64 a2] w fun e w' => e = .returned (.bool true) ∧ Below w.heap.size w w' := by
  obtain ⟨l, hN, hwf⟩ := row_nums w0
  clear w0 hwf
  have hle := hN.le
  have hmx := hN.max
  unfold maxLen at hmx
  have HN := hid hN
  clear hN
  by_cases hbig : 30 < len0 ∨ a1 < 1 ∨ 64 < a1 ∨ a2 < 300 ∨ 400 < a2
  · clear HN
    go_enter Try.func4, Try.ntmps4
    rcases (show 30 < len0 ∨ (¬ 30 < len0 ∧ a1 < 1) ∨ (¬ 30 < len0 ∧ ¬ a1 < 1 ∧ 64 < a1) ∨ (¬ 30 < len0 ∧ ¬ a1 < 1 ∧ ¬ 64 < a1 ∧ a2 < 300) ∨ (¬ 30 < len0 ∧ ¬ a1 < 1 ∧ ¬ 64 < a1 ∧ ¬ a2 < 300 ∧ 400 < a2) by omega) with h | ⟨h, h2⟩ | ⟨h, h2, h3⟩ | ⟨h, h2, h3, h4⟩ | ⟨h, h2, h3, h4, h5⟩
    all_goals
      clear hbig
      go_wp2
      go_ret
      exact ⟨rfl, Below.refl _ _⟩
  · obtain ⟨h1, h2, h3, h4, h5⟩ : ¬ 30 < len0 ∧ ¬ a1 < 1 ∧ ¬ 64 < a1 ∧ ¬ a2 < 300 ∧ ¬ 400 < a2 := by omega
    clear hbig
    have e1 : 8 * cutI 1 1 64 = 8 := by decide
    have K1 := hid (fun w => e1 ▸ new_any 1 w)
    clear e1
    go_enter Try.func4, Try.ntmps4
    go_wp2_with (go_at_call 10; ((with_reducible refine (K1.out _).mono ?_); rintro e wa ⟨rfl, ba⟩))
    have K0 : Hid (Keep w (wa.alloc (.cells #[.int .i64 8, .int .i64 0] 24)) wa.heap.size 8 0) :=
      hid ⟨ba.alloc ba.size _, Box.made wa #[.int .i64 8, .int .i64 0] _, ba.size, by unfold In; decide⟩
    obtain ⟨g1, hg1⟩ : ∃ g, g = wa.heap.size := ⟨_, rfl⟩
    rw [← hg1] at K0 ⊢
    clear K1 hg1 ba
    go_loopw [8] (fun iv wr => ∃ (k : Nat) (m d : Int), k ≤ len0 ∧ iv = .int .i64 k ∧ Hid (Keep w wr g1 m d)) (fun iv _ => len0 - (intOf iv).toNat)
    case atStart => exact ⟨0, 8, 0, Nat.zero_le _, rfl, K0⟩
    case round =>
      clear K0
      obtain ⟨k, m, d, hk, rfl, HK⟩ := hrel
      have p0 := HK.out.p.at_ 0 _ rfl
      have p1 := HK.out.p.at_ 1 _ rfl
      have f0 := HK.out.p.fr 0
      have f1 := HK.out.p.fr 1
      by_cases hlt : k < len0
      · obtain ⟨b, off, ha, hb1, hb2, hc⟩ := HN.out.cells (by omega)
        subst ha
        obtain ⟨x, hx⟩ : ∃ x, x = l.getD k 0 := ⟨_, rfl⟩
        have hc0 := hc k hlt
        rw [← hx] at hc0
        have hcx : wr.cell? ⟨b, off + k, none⟩ = some (.int .i64 x) := (HK.out.b.cell (p := ⟨b, off + k, none⟩) hb1).trans hc0
        clear hc hx hc0
        by_cases hx0 : x < 0
        · have L1 := hid (fun w => late_any m d HK.out.inn w)
          have HI := hid (in_late m d HK.out.inn)
          obtain ⟨m', hm'⟩ : ∃ m', m' = cutI (2 * m) 0 512 := ⟨_, rfl⟩
          rw [← hm'] at L1 HI
          clear hm'
          go_wp2_with (go_at_call 12; ((with_reducible refine (L1.out _).mono ?_); rintro e wc ⟨rfl, bc⟩; have kd := HK.out.next bc; have v0 := kd.p.at_ 0 _ rfl; have v1 := kd.p.at_ 1 _ rfl; have v2 := kd.p.fr 0; have v3 := kd.p.fr 1; have KD := hid kd; clear kd))
          go_roundw
          case rel => exact ⟨k + 1, m', d, by omega, by go_num, hid (KD.out.put m' d HI.out)⟩
          case measure => simp [intOf]; omega
        · have L1 := hid (fun N : After wr => after_call (sample_any m d x HK.out.inn N.w))
          have HI := hid (in_sample m d x HK.out.inn)
          obtain ⟨m', hm'⟩ : ∃ m', m' = mN m x := ⟨_, rfl⟩
          obtain ⟨d', hd'⟩ : ∃ d', d' = oN m d x := ⟨_, rfl⟩
          rw [← hm', ← hd'] at L1 HI
          clear hm' hd'
          have z0 := After.cell p0
          have z1 := After.cell p1
          have z4 := After.cell hcx
          go_upto_region 9 with fail
          refine wp_region_after_tail wr 6 (by kernel_rfl) (by kernel_rfl) ((Below.refl _ _).drew) ?_
          simp only [List.take_succ_cons, List.take_zero, List.drop_succ_cons, List.drop_zero]
          repeat (go_big_quiet_step (exact L1.out _))
          refine wpQuiet_nil ?_
          intro w3 hw'
          obtain ⟨N3, e3⟩ := hw'
          have b3 : Below wr.heap.size wr w3 := by rw [e3]; exact N3.h
          clear e3 N3 L1 z0 z1 z4
          have kd := HK.out.next b3
          have v0 := kd.p.at_ 0 _ rfl
          have v1 := kd.p.at_ 1 _ rfl
          have v2 := kd.p.fr 0
          have v3 := kd.p.fr 1
          have KD := hid kd
          clear kd b3 p0 p1 f0 f1 hcx
          go_wp2_with fail
          go_roundw
          case rel => exact ⟨k + 1, m', d', by omega, by go_num, hid (KD.out.put m' d' HI.out)⟩
          case measure => simp [intOf]; omega
      · obtain rfl : k = len0 := by omega
        clear hlt HN
        have hin := HK.out.inn
        have KS := hid (fun j => settles a1 m d (by omega) (by omega) hin j)
        have KI := hid (fun j => in_reps a1 j m d hin)
        obtain ⟨M, hM⟩ : ∃ M : Nat, (M : Int) = a2 := ⟨a2.toNat, by omega⟩
        have K0 : Hid (Keep w wr g1 (mR a1 0 m) (oR a1 0 m d)) := HK
        clear hin HK p0 p1 f0 f1
        subst hM
        go_wp2_with fail
        go_loopw [9] (fun iv wq => ∃ (j : Nat) , j ≤ M ∧ iv = .int .i64 j ∧ Hid (Keep w wq g1 (mR a1 j m) (oR a1 j m d))) (fun iv _ => M - (intOf iv).toNat)
        case atStart => exact ⟨0, Nat.zero_le _, rfl, K0⟩
        case round =>
          clear K0
          obtain ⟨wo, ho⟩ : ∃ wo : World, wo = wr := ⟨_, rfl⟩
          obtain ⟨j, hj, rfl, HK⟩ := hrel
          have p0 := HK.out.p.at_ 0 _ rfl
          have p1 := HK.out.p.at_ 1 _ rfl
          have f0 := HK.out.p.fr 0
          have f1 := HK.out.p.fr 1
          have hin := HK.out.inn
          by_cases hlt : j < M
          · have L1 := hid (fun w => sample_any (mR a1 j m) (oR a1 j m d) a1 hin w)
            have HI := hid (KI.out (j + 1))
            clear hin
            go_wp2_with (go_at_call 14; ((with_reducible refine (L1.out _).mono ?_); rintro e wc ⟨rfl, bc⟩; have kd := HK.out.next bc; have v0 := kd.p.at_ 0 _ rfl; have v1 := kd.p.at_ 1 _ rfl; have v2 := kd.p.fr 0; have v3 := kd.p.fr 1; have KD := hid kd; clear kd))
            go_roundw
            case rel => exact ⟨j + 1, by omega, by go_num, hid (KD.out.put _ _ HI.out)⟩
            case measure => simp [intOf]; omega
          · obtain rfl : j = M := by omega
            obtain ⟨s1, s2⟩ := KS.out j (by omega)
            have L1 := hid (fun w => s1 ▸ mean_any (mR a1 j m) (oR a1 j m d) (by have := hin.1; omega) (by have := hin.2.1; omega) w)
            have L2 := hid (fun w => s2 ▸ off_any (mR a1 j m) (oR a1 j m d) (by have := hin.2.2.1; omega) (by have := hin.2.2.2; omega) w)
            clear s1 s2 hin KS KI f0 f1
            go_wp2_with (first | (go_at_call 16; ((with_reducible refine (L1.out _).mono ?_); rintro e wc ⟨rfl, bc⟩; have kd := HK.out.next bc; have v0 := kd.p.at_ 0 _ rfl; have v1 := kd.p.at_ 1 _ rfl; have KD := hid kd; clear kd)) | (go_at_call 17; ((with_reducible refine (L2.out _).mono ?_); rintro e wd ⟨rfl, bd⟩; have KE := hid (KD.out.next bd))) | (go_at_call 20; ((with_reducible refine (alive_any _).mono ?_); rintro e we ⟨rfl, be⟩)))
            go_ret
            exact ⟨rfl, (KE.out.next be).b⟩

/-! ### THE ROW's STEP: WRITTEN OUT: LEAVE IT -/
set_option maxRecDepth 100000 in
theorem lifted (os : Os) (started : os.Started) (H : Type) (enc : TypeId × Value → H) :
    ReturnsInHanded {} Try.checked os 4 .any (Rows.rttSettlesSpec.pre6 enc Try.prog Try.f4 Rows.rttSettlesRow.domain false) (Rows.rttSettlesSpec.post enc Try.prog Try.f4 false true false false) := by
  refine returnsInHanded_of_change (C := Try.checked) own started (by kernel_rfl) Try.func4
    (ChangeSpec.witness6 (enc := enc) (C := Try.checked) false ⟨#[], #[.slice none 0 0, .int .i64 0, .int .i64 0], []⟩ 8 (by kernel_rfl) (by kernel_rfl) (by kernel_rfl) (by kernel_rfl)) ?_
  intro W base args ds gs before hval0 hW hcnd _
  have hval : ∀ (j : Nat) t v, Try.f4.params[j]? = some t → args[j]? = some v → Value.okWide Try.prog W .any base t v := hval0
  have hW' := hW
  obtain ⟨p, q, hA0, hV, rfl, hfz, hnd⟩ := hW
  have hA : DataW.TrodAll enc Try.prog W 0 (fun _ => true) true Try.f4.params.toList args.toList ds p := hA0
  rw [Try.params4] at hA hval
  obtain ⟨v0, vs0, d0, ds0, p0, q0, hargs, rfl, rfl, h0, r0⟩ := trodAll_cons hA
  obtain ⟨v1, vs1, d1, ds1, p1, q1, rfl, rfl, rfl, h1, r1⟩ := trodAll_cons r0
  obtain ⟨v2, vs2, d2, ds2, p2, q2, rfl, rfl, rfl, h2, r2⟩ := trodAll_cons r1
  obtain ⟨rfl, rfl, rfl⟩ := trodAll_nil r2
  obtain rfl : args = #[v0, v1, v2] := by cases args; simp_all
  obtain ⟨rfl, rfl⟩ := trodVars_none hV
  obtain ⟨a0, len0, cap0, rfl⟩ := okWide_slice Try.underlying22 (hval 0 22 v0 rfl rfl)
  have k0 := h0
  have lt0 : ∀ x ∈ p0, x.block < W.heap.size := by obtain ⟨m, hm⟩ := k0; exact DataW.trod_lt m _ _ _ hm
  obtain ⟨z0, w0⟩ : ∃ zs, IsRow .i64 W a0 len0 cap0 zs := by
    obtain ⟨fuel, hf⟩ := h0
    rcases open_ints Try.underlying22 Try.underlying3 (by kernel_rfl) hf with ⟨hcs, _⟩ | ⟨x, l, c, zs, hcs, _, hl, hm, hz, _, hcell, hwz⟩
    · simp [Value.cells] at hcs
      obtain ⟨rfl, rfl, rfl⟩ := hcs
      exact ⟨[], .inl ⟨rfl, rfl, rfl, rfl⟩⟩
    · simp [Value.cells] at hcs
      obtain ⟨rfl, rfl, rfl⟩ := hcs
      exact ⟨zs, .inr ⟨_, rfl, hl, hm, by simpa using hz, hcell, hwz⟩⟩
  obtain ⟨a1, rfl, rfl, rfl, w1⟩ := open_int Try.underlying3 (hval 1 3 v1 rfl rfl) h1
  obtain ⟨a2, rfl, rfl, rfl, w2⟩ := open_int Try.underlying3 (hval 2 3 v2 rfl rfl) h2
  clear hA0 hval0
  refine (walk a0 len0 cap0 z0 a1 a2 W w0 w1 w2).mono fun e W' ⟨he, bel⟩ => ?_
  subst he
  exact ⟨_, rfl, _, _, _, [], _, [], hW', trodAll_mk1 (shut_bool Try.underlying4 _), (trodAll_cons_mk (Below.trod laidOut (by kernel_rfl) (of_decide_eq_true (by kernel_rfl)) k0 bel lt0) (trodAll_cons_mk (shut_int Try.underlying3 w1) (trodAll_cons_mk (shut_int Try.underlying3 w2) trodAll_mk0))), rfl, bel.frame _, fun h => by cases h⟩

theorem over : Rows.rttSettlesRow.holds Try.pinned (OpenSpec.ofChange Rows.rttSettlesSpec) :=
  OpenClaim.holds_of_wide 4 Try.f4 rfl rfl rfl rfl rfl rfl rfl ⟨rfl, rfl, rfl, rfl, rfl⟩ rfl rfl rfl rfl rfl (by kernel_rfl) Try.func4 (by kernel_rfl)
    (of_decide_eq_true (by kernel_rfl)) (by unfold Func.isWrapper; first | (rw [if_pos (by decide +kernel)]; kernel_rfl) | (rw [if_neg (by decide +kernel)]; exact ⟨rfl, rfl⟩))
    (fun os started H enc _ => lifted os started H enc)

/-- ████ THE STATEMENT ████ -/
theorem proved : Rows.RttSettlesSaid := over
end Go.Proofs.Ytlfcjfmfkmcmiaa.rttSettles
