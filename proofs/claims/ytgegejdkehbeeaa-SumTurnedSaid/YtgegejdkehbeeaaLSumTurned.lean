/- catwalklaw05.SumTurned answers true at every input, and leaves its arguments as they were. No condition. -/
import Derived.Test.YtgegejdkehbeeaaRows
import Derived.WalkKit
import Derived.ProofKit
import Derived.OpenShut
import Derived.ShutString
import Derived.ChangeOld
import Derived.Below
import Derived.Test.YtgegejdkehbeeaaMax8
import Derived.Test.YtgegejdkehbeeaaSt
import Derived.Test.YtgegejdkehbeeaaRegion
import Derived.Deep.DeepCutAuto
namespace Go.Proofs.Ytgegejdkehbeeaa.sumTurned
open Go.ChangeShapes Go.WideShapes Go.ChangeAt Go.RowKit
open Go.ChangeMaps (open_string shut_string)
set_option linter.unusedVariables false

theorem own : ownKnob Try.prog.godebug = none := by kernel_rfl
theorem laidOut : laidOutB Try.prog = true := by kernel_rfl

/-- WHAT THE WALK IS TOLD OF A SLICE OF INTEGERS THAT CAME IN: it is nil; or it leads to a row of 'cap' cells, the numbers 'zs' (the first 'len' are its elements, the rest its spare room), each fitting its kind. -/
def IsRow (k : IntKind) (w : World) (a : Option Addr) (len cap : Nat) (zs : List Int) : Prop :=
  (a = none ∧ len = 0 ∧ cap = 0 ∧ zs = []) ∨
  ∃ x, a = some x ∧ len ≤ cap ∧ cap ≤ maxLen ∧ zs.length = cap ∧ (∀ i, i < zs.length → w.cell? (x.add i) = some (.int k (zs.getD i 0))) ∧ ∀ n ∈ zs, (Lit.int k n).wf = true

open Go.Proofs.Ytgegejdkehbeeaa.kit Go.Proofs.Ytgegejdkehbeeaa.sm Go.Proofs.Ytgegejdkehbeeaa.sc
theorem was_le (l : List Int) (p : Nat) (h : 2 * p + 1 < l.length) (c d : Nat) (hc : l.getD (2 * p) 0 = c) (hd : l.getD (2 * p + 1) 0 = d) : 256 * c + d ≤ sumOf l := by
  have := word2_sum l p 0 0 h
  rw [hc, hd] at this
  simp at this; omega
theorem turn_val (l : List Int) (p : Nat) (h : 2 * p + 1 < l.length) (c d y : Nat) (hc : l.getD (2 * p) 0 = c) (hd : l.getD (2 * p + 1) 0 = d) (hc2 : c ≤ 255) (hd2 : d ≤ 255) (x1 x2 : Int) (h1 : x1 = (y : Int) / 256) (h2 : x2 = (y : Int) % 256) (hy : y ≤ 65535) :
    65535 - fd ((65535 - chk l) + (65535 - (c * 256 + d)) + y) = if sumOf (word2 l p x1 x2) = 0 then 0 else chk (word2 l p x1 x2) := by
  have e := word2_sum l p x1 x2 h
  rw [hc, hd] at e
  have := was_le l p h c d hc hd
  have hf := fd_le (sumOf l)
  have k := turned (S := sumOf l) (S' := sumOf (word2 l p x1 x2)) (was := c * 256 + d) (now := y) (by subst h1 h2; omega) (by omega) (by omega)
  unfold chk
  rw [show 65535 - (65535 - fd (sumOf l)) = fd (sumOf l) by omega]
  exact k
theorem ref_is {B n cap : Nat} {a : Option Addr} {l : List Int} (w : World) (h : Nums .u8 w B a n cap l) (hO : Oct l) (hn : n ≤ 2000) (hB : B ≤ w.heap.size) (x : Nat) (hx : chk l = x) :
    Calls Try.prog 16 #[.slice a n cap] w fun e w' => e = .returned (.int .i64 x) ∧ Below w.heap.size w w' := by rw [← hx]; exact ref_of w h hO hn hB
theorem turned_is (c1 x1 y1 : Int) (c x y z : Nat) (h1 : c1 = c) (h2 : x1 = x) (h3 : y1 = y) (hc : c ≤ 65535) (hx : x ≤ 65535) (hy : y ≤ 65535) (hz : 65535 - fd ((65535 - c) + (65535 - x) + y) = z) (zi : Int) (hzi : zi = z) (w : World) :
    Calls Try.prog 23 #[.int .u16 c1, .int .u16 x1, .int .u16 y1] w fun e w' => e = .returned (.int .u16 zi) ∧ w' = w := by
  subst h1 h2 h3 hzi hz; exact turned_any c x y hc hx hy w

/-! ### STEP 1: THE WALK: the Go text returns true, AND WRITES NOTHING THAT WAS THERE: 'Below w.heap.size w w'' (Derived/Below.lean: '.refl', '.alloc', '.drew', '.setCell' at a new block, '.trans'). Open each 'IsRow' by 'rcases' AHEAD of 'go_enter'; part every test ahead of the walk. -/
set_option maxHeartbeats 800000 in
theorem walk (a0 : Option Addr) (len0 cap0 : Nat) (z0 : List Int) (a1 : Int) (a2 : Int) (w : World) (w0 : IsRow .u8 w a0 len0 cap0 z0) (w1 : (Lit.int .i64 a1).wf = true) (w2 : (Lit.int .u16 a2).wf = true) :
    Calls Try.prog 6 #[.slice a0 len0 cap0, .int .i64 a1, .int .u16 a2] w fun e w' => e = .returned (.bool true) ∧ Below w.heap.size w w' := by
  obtain ⟨l, hN, hwf⟩ := row_nums w0
  have hO : Oct l := fun x hx => wf_u8 (hwf x hx)
  clear w0 hwf
  have hle := hN.le
  have hmx := hN.max
  unfold maxLen at hmx
  by_cases hbig : 1000 < len0
  · clear hN hO
    go_enter Try.func6, Try.ntmps6
    go_wp2
    go_ret
    exact ⟨rfl, Below.refl _ _⟩
  · have hm : (len0 : Int).tmod 2 = ((len0 % 2 : Nat) : Int) := by rw [Int.tmod_eq_emod_of_nonneg (by omega)]; omega
    have hd : (len0 : Int).tdiv 2 = ((len0 / 2 : Nat) : Int) := by rw [Int.tdiv_eq_ediv_of_nonneg (by omega)]; omega
    by_cases hodd : len0 % 2 = 1
    · clear hN hO hd
      rw [hodd] at hm
      go_enter Try.func6, Try.ntmps6
      go_wp2
      go_ret
      exact ⟨rfl, Below.refl _ _⟩
    · rw [show len0 % 2 = 0 by omega] at hm
      by_cases hneg : a1 < 0
      · clear hN hO hd
        go_enter Try.func6, Try.ntmps6
        go_wp2
        go_ret
        exact ⟨rfl, Below.refl _ _⟩
      · obtain ⟨p, rfl⟩ : ∃ p : Nat, a1 = p := ⟨a1.toNat, by omega⟩
        by_cases hgt : len0 / 2 ≤ p
        · clear hN hO
          go_enter Try.func6, Try.ntmps6
          go_wp2
          go_ret
          exact ⟨rfl, Below.refl _ _⟩
        · have hp : 2 * p + 1 < len0 := by omega
          have HN := hid hN
          have HO := hid hO
          have HL := hid hN.len
          obtain ⟨y, rfl⟩ : ∃ y : Nat, a2 = y := ⟨a2.toNat, by have := wf_u16 w2; omega⟩
          have hy : y ≤ 65535 := by have := wf_u16 w2; omega
          obtain ⟨b, off, rfl, hb1, hb2, hcc⟩ := hN.cells (by omega)
          have hx1 := hO.at (2 * p)
          have hx2 := hO.at (2 * p + 1)
          obtain ⟨c, hc⟩ : ∃ c : Nat, l.getD (2 * p) 0 = c := ⟨(l.getD (2 * p) 0).toNat, by omega⟩
          obtain ⟨d, hd0⟩ : ∃ d : Nat, l.getD (2 * p + 1) 0 = d := ⟨(l.getD (2 * p + 1) 0).toNat, by omega⟩
          have g1 := hcc (2 * p) (by omega)
          have g2 := hcc (2 * p + 1) hp
          rw [hc] at g1 hx1
          rw [hd0] at g2 hx2
          have G1 := hid g1
          have G2 := hid g2
          have HCD := hid (And.intro hc hd0)
          clear hN hO g1 g2 hcc hc hd0 w2
          go_enter Try.func6, Try.ntmps6
          go_upto_region 4 with (go_at_call 21; (refine (clone_any w HN.out (by omega) (Nat.le_refl _)).mono ?_); rintro e wa ⟨aa, ca, rfl, h1, h2⟩)
          have k1 := (h2.cell (p := ⟨b, off + 2 * p, none⟩) hb2).trans G1.out
          have k2 := (h2.cell (p := ⟨b, off + (2 * p + 1), none⟩) hb2).trans G2.out
          have hI1 : (2 * (p : Int)) < len0 := by omega
          have hI2 : (2 * (p : Int) + 1) < len0 := by omega
          go_quiet (fail)
          obtain ⟨g, rfl, hg⟩ := own_some h1 (by omega)
          have h1 := h1.kept (gb_of_below (below_drewN (Below.refl _ _) nq) none) (Classical.em _)
          have h2 := below_drewN h2 nq
          clear k1 k2
          generalize wa.drewN nq = wb at *
          have hc1 := own_at h1 (2 * p) (by omega)
          have hc2 := own_at h1 (2 * p + 1) (by omega)
          have hf1 := h1.frozenAt (2 * p)
          have hf2 := h1.frozenAt (2 * p + 1)
          have H1 := hid (own_word h1 p ((y : Int) / 256) ((y : Int) % 256))
          have B1 := hid (word_below (i := 2 * p) (j := 2 * p + 1) (x := .int .u8 ((y : Int) / 256)) (y := .int .u8 ((y : Int) % 256)) h2 hg)
          have HO1 := hid (word2_oct HO.out p (x := (y : Int) / 256) (y := (y : Int) % 256) (by omega) (by omega))
          have HV := hid (turn_val l p (by rw [HL.out]; exact hp) c d y HCD.out.1 HCD.out.2 (by omega) (by omega) _ _ rfl rfl hy)
          obtain ⟨l', hl'⟩ : ∃ l', l' = word2 l p ((y : Int) / 256) ((y : Int) % 256) := ⟨_, rfl⟩
          rw [← hl'] at H1 HO1 HV
          clear h1 h2 hl'
          go_upto_region 6 with fail
          clear hc1 hc2 hf1 hf2
          generalize (wb.setCell ⟨g, 2 * p, none⟩ (.int .u8 ((y : Int) / 256))).setCell ⟨g, 2 * p + 1, none⟩ (.int .u8 ((y : Int) % 256)) = wc at *
          obtain ⟨q, hq⟩ : ∃ q, chk l' = q := ⟨_, rfl⟩
          obtain ⟨r, hr⟩ : ∃ r, chk l = r := ⟨_, rfl⟩
          have hr1 : r ≤ 65535 := by rw [← hr]; exact chk_le _
          have hq1 : q ≤ 65535 := by rw [← hq]; exact chk_le _
          rw [hr, hq] at HV
          have HQ := hid hq
          have HR := hid hr
          clear hq hr
          go_upto_region 7 with (go_at_call 16; (refine (ref_is _ (own_nums H1.out) HO1.out (by omega) (Nat.le_refl _) q HQ.out).mono ?_); rintro e wd ⟨rfl, b2⟩)
          have H2 := hid (H1.out.kept (gb_of_below b2 none) (Classical.em _))
          have B2 := hid (B1.out.trans (b2.mono B1.out.size))
          clear b2
          by_cases hz : sumOf l' = 0
          · have HZ := hid hz
            have hv := HV.out
            rw [if_pos hz] at hv
            have HV1 := hid hv
            clear hz hv HV
            go_wp2_with (first | (go_at_call 22; go_loud (refine (max_any _ (own_nums H2.out) HO1.out (by omega)).mono ?_); rintro e we ⟨⟨M, hM, rfl⟩, rfl⟩; have hM0 := hM.2 HZ.out; clear hM; subst hM0)               | (go_at_call 16; go_loud (refine (ref_is _ (HN.out.below B2.out) HO.out (by omega) B2.out.size r HR.out).mono ?_); rintro e wf ⟨rfl, b3⟩)               | (go_at_call 23; go_loud (refine (turned_is _ _ _ r (c * 256 + d) y 0 (by omega) (by omega) rfl hr1 (by omega) hy HV1.out 0 rfl _).mono ?_); rintro e wg ⟨rfl, rfl⟩)               | (go_at_call 19; go_loud (refine (alive_any _).mono ?_); rintro e wh ⟨rfl, b4⟩))
            go_ret
            have B3 := B2.out.trans (b3.mono B2.out.size)
            exact ⟨rfl, B3.trans (b4.mono B3.size)⟩
          · have HZ := hid hz
            have hv := HV.out
            rw [if_neg hz] at hv
            have HV1 := hid hv
            clear hz hv HV
            go_wp2_with (first | (go_at_call 22; go_loud (refine (max_any _ (own_nums H2.out) HO1.out (by omega)).mono ?_); rintro e we ⟨⟨M, hM, rfl⟩, rfl⟩; have hM0 : ((M : Int) == 0) = false := (by have := fun h => HZ.out (hM.1 h); simp; omega); clear hM)               | (go_at_call 16; go_loud (refine (ref_is _ (HN.out.below B2.out) HO.out (by omega) B2.out.size r HR.out).mono ?_); rintro e wf ⟨rfl, b3⟩)               | (go_at_call 23; go_loud (refine (turned_is _ _ _ r (c * 256 + d) y q (by omega) (by omega) rfl hr1 (by omega) hy HV1.out q rfl _).mono ?_); rintro e wg ⟨rfl, rfl⟩)               | (go_at_call 19; go_loud (refine (alive_any _).mono ?_); rintro e wh ⟨rfl, b4⟩))
            go_ret
            have B3 := B2.out.trans (b3.mono B2.out.size)
            exact ⟨rfl, B3.trans (b4.mono B3.size)⟩

/-! ### THE ROW's STEP: WRITTEN OUT: LEAVE IT -/
set_option maxRecDepth 100000 in
theorem lifted (os : Os) (started : os.Started) (H : Type) (enc : TypeId × Value → H) :
    ReturnsInHanded {} Try.checked os 6 .any (Rows.sumTurnedSpec.pre6 enc Try.prog Try.f6 Rows.sumTurnedRow.domain false) (Rows.sumTurnedSpec.post enc Try.prog Try.f6 false true false false) := by
  refine returnsInHanded_of_change (C := Try.checked) own started (by kernel_rfl) Try.func6
    (ChangeSpec.witness6 (enc := enc) (C := Try.checked) false ⟨#[], #[.slice none 0 0, .int .i64 0, .int .u16 0], []⟩ 8 (by kernel_rfl) (by kernel_rfl) (by kernel_rfl) (by kernel_rfl)) ?_
  intro W base args ds gs before hval0 hW hcnd _
  have hval : ∀ (j : Nat) t v, Try.f6.params[j]? = some t → args[j]? = some v → Value.okWide Try.prog W .any base t v := hval0
  have hW' := hW
  obtain ⟨p, q, hA0, hV, rfl, hfz, hnd⟩ := hW
  have hA : DataW.TrodAll enc Try.prog W 0 (fun _ => true) true Try.f6.params.toList args.toList ds p := hA0
  rw [Try.params6] at hA hval
  obtain ⟨v0, vs0, d0, ds0, p0, q0, hargs, rfl, rfl, h0, r0⟩ := trodAll_cons hA
  obtain ⟨v1, vs1, d1, ds1, p1, q1, rfl, rfl, rfl, h1, r1⟩ := trodAll_cons r0
  obtain ⟨v2, vs2, d2, ds2, p2, q2, rfl, rfl, rfl, h2, r2⟩ := trodAll_cons r1
  obtain ⟨rfl, rfl, rfl⟩ := trodAll_nil r2
  obtain rfl : args = #[v0, v1, v2] := by cases args; simp_all
  obtain ⟨rfl, rfl⟩ := trodVars_none hV
  obtain ⟨a0, len0, cap0, rfl⟩ := okWide_slice Try.underlying27 (hval 0 27 v0 rfl rfl)
  have k0 := h0
  have lt0 : ∀ x ∈ p0, x.block < W.heap.size := by obtain ⟨m, hm⟩ := k0; exact DataW.trod_lt m _ _ _ hm
  obtain ⟨z0, w0⟩ : ∃ zs, IsRow .u8 W a0 len0 cap0 zs := by
    obtain ⟨fuel, hf⟩ := h0
    rcases open_ints Try.underlying27 Try.underlying5 (by kernel_rfl) hf with ⟨hcs, _⟩ | ⟨x, l, c, zs, hcs, _, hl, hm, hz, _, hcell, hwz⟩
    · simp [Value.cells] at hcs
      obtain ⟨rfl, rfl, rfl⟩ := hcs
      exact ⟨[], .inl ⟨rfl, rfl, rfl, rfl⟩⟩
    · simp [Value.cells] at hcs
      obtain ⟨rfl, rfl, rfl⟩ := hcs
      exact ⟨zs, .inr ⟨_, rfl, hl, hm, by simpa using hz, hcell, hwz⟩⟩
  obtain ⟨a1, rfl, rfl, rfl, w1⟩ := open_int Try.underlying3 (hval 1 3 v1 rfl rfl) h1
  obtain ⟨a2, rfl, rfl, rfl, w2⟩ := open_int Try.underlying28 (hval 2 28 v2 rfl rfl) h2
  clear hA0 hval0
  refine (walk a0 len0 cap0 z0 a1 a2 W w0 w1 w2).mono fun e W' ⟨he, bel⟩ => ?_
  subst he
  exact ⟨_, rfl, _, _, _, [], _, [], hW', trodAll_mk1 (shut_bool Try.underlying4 _), (trodAll_cons_mk (Below.trod laidOut (by kernel_rfl) (of_decide_eq_true (by kernel_rfl)) k0 bel lt0) (trodAll_cons_mk (shut_int Try.underlying3 w1) (trodAll_cons_mk (shut_int Try.underlying28 w2) trodAll_mk0))), rfl, bel.frame _, fun h => by cases h⟩

theorem over : Rows.sumTurnedRow.holds Try.pinned (OpenSpec.ofChange Rows.sumTurnedSpec) :=
  OpenClaim.holds_of_wide 6 Try.f6 rfl rfl rfl rfl rfl rfl rfl ⟨rfl, rfl, rfl, rfl, rfl⟩ rfl rfl rfl rfl rfl (by kernel_rfl) Try.func6 (by kernel_rfl)
    (of_decide_eq_true (by kernel_rfl)) (by unfold Func.isWrapper; first | (rw [if_pos (by decide +kernel)]; kernel_rfl) | (rw [if_neg (by decide +kernel)]; exact ⟨rfl, rfl⟩))
    (fun os started H enc _ => lifted os started H enc)

/-- ████ THE STATEMENT ████ -/
theorem proved : Rows.SumTurnedSaid := over
end Go.Proofs.Ytgegejdkehbeeaa.sumTurned
