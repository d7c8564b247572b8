/- catwalklaw05.SumSeals answers true at every input, and leaves its arguments as they were. No condition. -/
import Derived.Test.YtgegejdkehbeeaaRows
import Derived.WalkKit
import Derived.ProofKit
import Derived.OpenShut
import Derived.ShutString
import Derived.ChangeOld
import Derived.Below
import Derived.Test.YtgegejdkehbeeaaSumLaw
import Derived.Test.YtgegejdkehbeeaaSt
import Derived.Deep.DeepCutAuto
namespace Go.Proofs.Ytgegejdkehbeeaa.sumSeals
open Go.ChangeShapes Go.WideShapes Go.ChangeAt Go.RowKit
open Go.ChangeMaps (open_string shut_string)
set_option linter.unusedVariables false

theorem own : ownKnob Try.prog.godebug = none := by kernel_rfl
theorem laidOut : laidOutB Try.prog = true := by kernel_rfl

/-- WHAT THE WALK IS TOLD OF A SLICE OF INTEGERS THAT CAME IN: it is nil; or it leads to a row of 'cap' cells, the numbers 'zs' (the first 'len' are its elements, the rest its spare room), each fitting its kind. -/
def IsRow (k : IntKind) (w : World) (a : Option Addr) (len cap : Nat) (zs : List Int) : Prop :=
  (a = none ∧ len = 0 ∧ cap = 0 ∧ zs = []) ∨
  ∃ x, a = some x ∧ len ≤ cap ∧ cap ≤ maxLen ∧ zs.length = cap ∧ (∀ i, i < zs.length → w.cell? (x.add i) = some (.int k (zs.getD i 0))) ∧ ∀ n ∈ zs, (Lit.int k n).wf = true

open Go.Proofs.Ytgegejdkehbeeaa.kit Go.Proofs.Ytgegejdkehbeeaa.sm Go.Proofs.Ytgegejdkehbeeaa.sc

/-! ### STEP 1: THE WALK: the Go text returns true, AND WRITES NOTHING THAT WAS THERE: 'Below w.heap.size w w'' (Derived/Below.lean: '.refl', '.alloc', '.drew', '.setCell' at a new block, '.trans'). Open each 'IsRow' by 'rcases' AHEAD of 'go_enter'; part every test ahead of the walk. -/
set_option maxHeartbeats 800000 in
theorem walk (a0 : Option Addr) (len0 cap0 : Nat) (z0 : List Int) (a1 : Int) (w : World) (w0 : IsRow .u8 w a0 len0 cap0 z0) (w1 : (Lit.int .i64 a1).wf = true) :
    Calls Try.prog 7 #[.slice a0 len0 cap0, .int .i64 a1] w fun e w' => e = .returned (.bool true) ∧ Below w.heap.size w w' := by
  obtain ⟨l, hN, hwf⟩ := row_nums w0
  have hO : Oct l := fun x hx => wf_u8 (hwf x hx)
  clear w0 hwf
  have hle := hN.le
  have hmx := hN.max
  unfold maxLen at hmx
  by_cases hbig : 1000 < len0
  · clear hN hO
    go_enter Try.func7, Try.ntmps7
    go_wp2
    go_ret
    exact ⟨rfl, Below.refl _ _⟩
  · have hm : (len0 : Int).tmod 2 = ((len0 % 2 : Nat) : Int) := by rw [Int.tmod_eq_emod_of_nonneg (by omega)]; omega
    have hd : (len0 : Int).tdiv 2 = ((len0 / 2 : Nat) : Int) := by rw [Int.tdiv_eq_ediv_of_nonneg (by omega)]; omega
    by_cases hodd : len0 % 2 = 1
    · clear hN hO hd
      rw [hodd] at hm
      go_enter Try.func7, Try.ntmps7
      go_wp2
      go_ret
      exact ⟨rfl, Below.refl _ _⟩
    · rw [show len0 % 2 = 0 by omega] at hm
      by_cases hneg : a1 < 0
      · clear hN hO hd
        go_enter Try.func7, Try.ntmps7
        go_wp2
        go_ret
        exact ⟨rfl, Below.refl _ _⟩
      · obtain ⟨p, rfl⟩ : ∃ p : Nat, a1 = p := ⟨a1.toNat, by omega⟩
        by_cases hgt : len0 / 2 ≤ p
        · clear hN hO
          go_enter Try.func7, Try.ntmps7
          go_wp2
          go_ret
          exact ⟨rfl, Below.refl _ _⟩
        · have hp : 2 * p + 1 < len0 := by omega
          have HN := hid hN
          have HO := hid hO
          have HL := hid hN.len
          clear hN hO
          go_enter Try.func7, Try.ntmps7
          go_upto_region 4 with (go_at_call 21; (refine (clone_any w HN.out (by omega) (Nat.le_refl _)).mono ?_); rintro e wa ⟨aa, ca, rfl, h1, h2⟩)
          obtain ⟨g, rfl, hg⟩ := own_some h1 (by omega)
          have hc1 := own_at h1 (2 * p) (by omega)
          have hc2 := own_at h1 (2 * p + 1) (by omega)
          have hf1 := h1.frozenAt (2 * p)
          have hf2 := h1.frozenAt (2 * p + 1)
          have H1 := hid (own_word h1 p 0 0)
          have B1 := hid (word_below (i := 2 * p) (j := 2 * p + 1) (x := .int .u8 0) (y := .int .u8 0) h2 hg)
          clear h1 h2
          go_upto_region 5 with fail
          have HO1 := hid (word2_oct HO.out p (x := 0) (y := 0) (by omega) (by omega))
          obtain ⟨c, hc⟩ : ∃ c, c = chk (word2 l p 0 0) := ⟨_, rfl⟩
          have hcl : c ≤ 65535 := by rw [hc]; exact chk_le _
          have HC := hid hc
          clear hc hc1 hc2 hf1 hf2
          generalize (wa.setCell ⟨g, 2 * p, none⟩ (.int .u8 0)).setCell ⟨g, 2 * p + 1, none⟩ (.int .u8 0) = wb at *
          go_upto_region 6 with (go_at_call 17; (refine (of_is _ (own_nums H1.out) HO1.out (Nat.le_refl _) c (by rw [HC.out])).mono ?_); rintro e wc ⟨rfl, b2⟩)
          have H2 := hid (H1.out.kept (gb_of_below b2 none) (Classical.em _))
          have B2 := hid (B1.out.trans (b2.mono B1.out.size))
          clear b2
          have hc1 := own_at H2.out (2 * p) (by omega)
          have hc2 := own_at H2.out (2 * p + 1) (by omega)
          have hf1 := H2.out.frozenAt (2 * p)
          have hf2 := H2.out.frozenAt (2 * p + 1)
          have H3 := hid (own_word H2.out p ((c : Int) / 256) ((c : Int) % 256))
          have B3 := hid (word_below (i := 2 * p) (j := 2 * p + 1) (x := .int .u8 ((c : Int) / 256)) (y := .int .u8 ((c : Int) % 256)) B2.out hg)
          have HO3 := hid (word2_oct HO1.out p (x := (c : Int) / 256) (y := (c : Int) % 256) (by omega) (by omega))
          have HS := hid (show (chk (word2 (word2 l p 0 0) p ((c : Int) / 256) ((c : Int) % 256)) == 0) = true by
            rw [sealed l p (by rw [HL.out]; exact hp) _ _ (by rw [← HC.out]; omega) (by rw [← HC.out]; omega)]; rfl)
          go_upto_region 7 with fail
          clear hc1 hc2 hf1 hf2
          generalize (wc.setCell ⟨g, 2 * p, none⟩ (.int .u8 ((c : Int) / 256))).setCell ⟨g, 2 * p + 1, none⟩ (.int .u8 ((c : Int) % 256)) = wd at *
          go_wp2_with (first | (go_at_call 18; (refine (right_any _ (own_nums H3.out) HO3.out (Nat.le_refl _)).mono ?_); rintro e we ⟨rfl, b4⟩; rw [HS.out])             | (go_at_call 19; (refine (alive_any _).mono ?_); rintro e wf ⟨rfl, b5⟩))
          go_ret
          have B4 := B3.out.trans (b4.mono B3.out.size)
          exact ⟨rfl, B4.trans (b5.mono B4.size)⟩

/-! ### THE ROW's STEP: WRITTEN OUT: LEAVE IT -/
set_option maxRecDepth 100000 in
theorem lifted (os : Os) (started : os.Started) (H : Type) (enc : TypeId × Value → H) :
    ReturnsInHanded {} Try.checked os 7 .any (Rows.sumSealsSpec.pre6 enc Try.prog Try.f7 Rows.sumSealsRow.domain false) (Rows.sumSealsSpec.post enc Try.prog Try.f7 false true false false) := by
  refine returnsInHanded_of_change (C := Try.checked) own started (by kernel_rfl) Try.func7
    (ChangeSpec.witness6 (enc := enc) (C := Try.checked) false ⟨#[], #[.slice none 0 0, .int .i64 0], []⟩ 8 (by kernel_rfl) (by kernel_rfl) (by kernel_rfl) (by kernel_rfl)) ?_
  intro W base args ds gs before hval0 hW hcnd _
  have hval : ∀ (j : Nat) t v, Try.f7.params[j]? = some t → args[j]? = some v → Value.okWide Try.prog W .any base t v := hval0
  have hW' := hW
  obtain ⟨p, q, hA0, hV, rfl, hfz, hnd⟩ := hW
  have hA : DataW.TrodAll enc Try.prog W 0 (fun _ => true) true Try.f7.params.toList args.toList ds p := hA0
  rw [Try.params7] at hA hval
  obtain ⟨v0, vs0, d0, ds0, p0, q0, hargs, rfl, rfl, h0, r0⟩ := trodAll_cons hA
  obtain ⟨v1, vs1, d1, ds1, p1, q1, rfl, rfl, rfl, h1, r1⟩ := trodAll_cons r0
  obtain ⟨rfl, rfl, rfl⟩ := trodAll_nil r1
  obtain rfl : args = #[v0, v1] := by cases args; simp_all
  obtain ⟨rfl, rfl⟩ := trodVars_none hV
  obtain ⟨a0, len0, cap0, rfl⟩ := okWide_slice Try.underlying27 (hval 0 27 v0 rfl rfl)
  have k0 := h0
  have lt0 : ∀ x ∈ p0, x.block < W.heap.size := by obtain ⟨m, hm⟩ := k0; exact DataW.trod_lt m _ _ _ hm
  obtain ⟨z0, w0⟩ : ∃ zs, IsRow .u8 W a0 len0 cap0 zs := by
    obtain ⟨fuel, hf⟩ := h0
    rcases open_ints Try.underlying27 Try.underlying5 (by kernel_rfl) hf with ⟨hcs, _⟩ | ⟨x, l, c, zs, hcs, _, hl, hm, hz, _, hcell, hwz⟩
    · simp [Value.cells] at hcs
      obtain ⟨rfl, rfl, rfl⟩ := hcs
      exact ⟨[], .inl ⟨rfl, rfl, rfl, rfl⟩⟩
    · simp [Value.cells] at hcs
      obtain ⟨rfl, rfl, rfl⟩ := hcs
      exact ⟨zs, .inr ⟨_, rfl, hl, hm, by simpa using hz, hcell, hwz⟩⟩
  obtain ⟨a1, rfl, rfl, rfl, w1⟩ := open_int Try.underlying3 (hval 1 3 v1 rfl rfl) h1
  clear hA0 hval0
  refine (walk a0 len0 cap0 z0 a1 W w0 w1).mono fun e W' ⟨he, bel⟩ => ?_
  subst he
  exact ⟨_, rfl, _, _, _, [], _, [], hW', trodAll_mk1 (shut_bool Try.underlying4 _), (trodAll_cons_mk (Below.trod laidOut (by kernel_rfl) (of_decide_eq_true (by kernel_rfl)) k0 bel lt0) (trodAll_cons_mk (shut_int Try.underlying3 w1) trodAll_mk0)), rfl, bel.frame _, fun h => by cases h⟩

theorem over : Rows.sumSealsRow.holds Try.pinned (OpenSpec.ofChange Rows.sumSealsSpec) :=
  OpenClaim.holds_of_wide 7 Try.f7 rfl rfl rfl rfl rfl rfl rfl ⟨rfl, rfl, rfl, rfl, rfl⟩ rfl rfl rfl rfl rfl (by kernel_rfl) Try.func7 (by kernel_rfl)
    (of_decide_eq_true (by kernel_rfl)) (by unfold Func.isWrapper; first | (rw [if_pos (by decide +kernel)]; kernel_rfl) | (rw [if_neg (by decide +kernel)]; exact ⟨rfl, rfl⟩))
    (fun os started H enc _ => lifted os started H enc)

/-- ████ THE STATEMENT ████ -/
theorem proved : Rows.SumSealsSaid := over
end Go.Proofs.Ytgegejdkehbeeaa.sumSeals
