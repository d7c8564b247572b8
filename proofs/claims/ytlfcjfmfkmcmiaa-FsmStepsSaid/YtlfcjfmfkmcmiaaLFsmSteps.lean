/- catwalk's catwalklaw21.FsmSteps answers true at every input, and leaves its arguments as they were. No condition. -/
import Derived.Test.YtlfcjfmfkmcmiaaRows
import Derived.WalkKit
import Derived.ProofKit
import Derived.OpenShut
import Derived.ShutString
import Derived.ChangeOld
import Derived.Below
import Derived.Test.YtlfcjfmfkmcmiaaFsmLaw
import Derived.Test.YtlfcjfmfkmcmiaaFsmRef2
import Derived.Deep.DeepCutAuto
namespace Go.Proofs.Ytlfcjfmfkmcmiaa.fsmSteps
open Go.ChangeShapes Go.WideShapes Go.ChangeAt Go.RowKit
open Go.ChangeMaps (open_string shut_string)
set_option linter.unusedVariables false

theorem own : ownKnob Try.prog.godebug = none := by kernel_rfl
theorem laidOut : laidOutB Try.prog = true := by kernel_rfl

open Go.Proofs.Ytlfcjfmfkmcmiaa.kit Go.Proofs.Ytlfcjfmfkmcmiaa.fm Go.Proofs.Ytlfcjfmfkmcmiaa.fc
theorem three (s : Int) : (4 ≤ s ∧ s ≤ 8) ∨ (4 ≤ s ∧ ¬ s ≤ 8) ∨ (¬ 4 ≤ s ∧ s ≤ 8) := by omega
theorem timed_is (s : Int) (q : Bool) (h : (decide (4 ≤ s) && decide (s ≤ 8)) = q) (w : World) : Calls Try.prog 33 #[.int .i64 s] w fun e w' => e = .returned (.bool q) ∧ w = w' := by
  rcases three s with ⟨h1, h2⟩ | ⟨h1, h2⟩ | ⟨h1, h2⟩
  · skip
    obtain rfl : q = true := by rw [← h]; simp; omega
    clear h
    go_enter Try.func33, Try.ntmps33
    go_wp2
    go_ret
    exact ⟨rfl, rfl⟩
  · skip
    obtain rfl : q = false := by rw [← h]; simp; omega
    clear h
    go_enter Try.func33, Try.ntmps33
    go_wp2
    go_ret
    exact ⟨rfl, rfl⟩
  · skip
    obtain rfl : q = false := by rw [← h]; simp; omega
    clear h
    go_enter Try.func33, Try.ntmps33
    go_wp2
    go_ret
    exact ⟨rfl, rfl⟩
theorem and64 (a b : Int) (h1 : 0 ≤ a) (h2 : a < 65536) (h3 : 0 ≤ b) (h4 : b < 65536) : bits BinOp.and IntKind.i64 a b = ((a.toNat &&& b.toNat : Nat) : Int) := by
  obtain ⟨A, rfl⟩ := Int.eq_ofNat_of_zero_le h1
  obtain ⟨B, rfl⟩ := Int.eq_ofNat_of_zero_le h3
  have ha : (BitVec.ofInt 64 (A : Int)).toNat = A := by rw [BitVec.toNat_ofInt]; omega
  have hb : (BitVec.ofInt 64 (B : Int)).toNat = B := by rw [BitVec.toNat_ofInt]; omega
  have hle : A &&& B ≤ A := Nat.and_le_left
  show IntKind.i64.wrap ((BitVec.ofInt 64 (A : Int) &&& BitVec.ofInt 64 (B : Int)).toNat : Nat) = _
  rw [BitVec.toNat_and, ha, hb, IntKind.wrap_i64]
  simp only [Int.toNat_natCast]
  omega

set_option maxHeartbeats 2000000 in
set_option maxRecDepth 100000 in
/-- the walk: true, and nothing that was there has turned -/
theorem walk {H : Type} {enc : TypeId × Value → H} {base : Nat} (a0 : Int) (a1 : Int) (a2 : Int) (w : World) (w0 : (Lit.int .i64 a0).wf = true) (w1 : (Lit.int .i64 a1).wf = true) (w2 : (Lit.int .u16 a2).wf = true) :
    Calls Try.prog 7 #[.int .i64 a0, .int .i64 a1, .int .u16 a2] w fun e w' => e = .returned (.bool true) ∧ Below w.heap.size w w' := by
  have hcb := act_bd a0 a1
  have hl := wf_u16 w2
  clear w0 w1 w2
  have K1 := hid (fun w => step_any a0 a1 w)
  have K2 := hid (fun w => rstep_any a0 a1 w)
  obtain ⟨t, ht⟩ : ∃ t, t = toI a0 a1 := ⟨_, rfl⟩
  obtain ⟨c, hcc⟩ : ∃ c, c = actI a0 a1 := ⟨_, rfl⟩
  rw [← ht, ← hcc] at K1 K2
  rw [← hcc] at hcb
  clear ht hcc
  have hb := and64 c a2 (by omega) (by omega) (by omega) (by omega)
  have hh : hasI c a2 = ((c.toNat &&& a2.toNat) != 0) := rfl
  obtain ⟨n, hn⟩ : ∃ n : Nat, n = c.toNat &&& a2.toNat := ⟨_, rfl⟩
  rw [← hn] at hb hh
  clear hn
  obtain ⟨q, hq⟩ : ∃ q, (decide (4 ≤ a0) && decide (a0 ≤ 8)) = q := ⟨_, rfl⟩
  have KT := hid (fun w => timed_is a0 q hq w)
  have HQ := hid hq
  clear hq
  have hcc : IntKind.i64.wrap c = c := IntWalk.i64_in _ (by omega)
  have hcl : IntKind.i64.wrap a2 = a2 := IntWalk.i64_in _ (by omega)
  by_cases h0 : n = 0
  · subst h0
    have KH := hid (fun w => has_is c a2 false (by rw [hh]; rfl) w (by omega) (by omega))
    clear hh
    rcases three a0 with ⟨g1, g2⟩ | ⟨g1, g2⟩ | ⟨g1, g2⟩
    · skip
      obtain rfl : q = true := by rw [← HQ.out]; simp; omega
      clear HQ
      go_enter Try.func7, Try.ntmps7
      go_wp2_with (first | (go_at_call 30; ((with_reducible refine (K1.out _).mono ?_); rintro e wa ⟨rfl, ba⟩)) | (go_at_call 31; ((with_reducible refine (K2.out _).mono ?_); rintro e wb ⟨rfl, bb⟩)) | (go_at_call 32; ((with_reducible refine (KH.out _).mono ?_); rintro e wc ⟨rfl, rfl⟩)) | (go_at_call 33; ((with_reducible refine (KT.out _).mono ?_); rintro e wd ⟨rfl, rfl⟩)) | (go_at_call 34; ((with_reducible refine (alive_any _).mono ?_); rintro e we ⟨rfl, be⟩)))
      go_ret
      have B := ba.trans (bb.mono ba.size)
      exact ⟨(by first | rfl | exact ret_bool (by simpa using g2)), B.trans (be.mono B.size)⟩
    · skip
      obtain rfl : q = false := by rw [← HQ.out]; simp; omega
      clear HQ
      go_enter Try.func7, Try.ntmps7
      go_wp2_with (first | (go_at_call 30; ((with_reducible refine (K1.out _).mono ?_); rintro e wa ⟨rfl, ba⟩)) | (go_at_call 31; ((with_reducible refine (K2.out _).mono ?_); rintro e wb ⟨rfl, bb⟩)) | (go_at_call 32; ((with_reducible refine (KH.out _).mono ?_); rintro e wc ⟨rfl, rfl⟩)) | (go_at_call 33; ((with_reducible refine (KT.out _).mono ?_); rintro e wd ⟨rfl, rfl⟩)) | (go_at_call 34; ((with_reducible refine (alive_any _).mono ?_); rintro e we ⟨rfl, be⟩)))
      go_ret
      have B := ba.trans (bb.mono ba.size)
      exact ⟨(by first | rfl | exact ret_bool (by simpa using g2)), B.trans (be.mono B.size)⟩
    · skip
      obtain rfl : q = false := by rw [← HQ.out]; simp; omega
      clear HQ
      go_enter Try.func7, Try.ntmps7
      go_wp2_with (first | (go_at_call 30; ((with_reducible refine (K1.out _).mono ?_); rintro e wa ⟨rfl, ba⟩)) | (go_at_call 31; ((with_reducible refine (K2.out _).mono ?_); rintro e wb ⟨rfl, bb⟩)) | (go_at_call 32; ((with_reducible refine (KH.out _).mono ?_); rintro e wc ⟨rfl, rfl⟩)) | (go_at_call 33; ((with_reducible refine (KT.out _).mono ?_); rintro e wd ⟨rfl, rfl⟩)) | (go_at_call 34; ((with_reducible refine (alive_any _).mono ?_); rintro e we ⟨rfl, be⟩)))
      go_ret
      have B := ba.trans (bb.mono ba.size)
      exact ⟨(by first | rfl | exact ret_bool (by simpa using g2)), B.trans (be.mono B.size)⟩
  · have KH := hid (fun w => has_is c a2 true (by rw [hh]; simpa using h0) w (by omega) (by omega))
    have hn0 : 0 < n := by omega
    have hn1 : (0 : Int) < (n : Int) := by omega
    clear hh h0
    rcases three a0 with ⟨g1, g2⟩ | ⟨g1, g2⟩ | ⟨g1, g2⟩
    · skip
      obtain rfl : q = true := by rw [← HQ.out]; simp; omega
      clear HQ
      go_enter Try.func7, Try.ntmps7
      go_wp2_with (first | (go_at_call 30; ((with_reducible refine (K1.out _).mono ?_); rintro e wa ⟨rfl, ba⟩)) | (go_at_call 31; ((with_reducible refine (K2.out _).mono ?_); rintro e wb ⟨rfl, bb⟩)) | (go_at_call 32; ((with_reducible refine (KH.out _).mono ?_); rintro e wc ⟨rfl, rfl⟩)) | (go_at_call 33; ((with_reducible refine (KT.out _).mono ?_); rintro e wd ⟨rfl, rfl⟩)) | (go_at_call 34; ((with_reducible refine (alive_any _).mono ?_); rintro e we ⟨rfl, be⟩)))
      go_ret
      have B := ba.trans (bb.mono ba.size)
      exact ⟨(by first | rfl | exact ret_bool (by simpa using g2)), B.trans (be.mono B.size)⟩
    · skip
      obtain rfl : q = false := by rw [← HQ.out]; simp; omega
      clear HQ
      go_enter Try.func7, Try.ntmps7
      go_wp2_with (first | (go_at_call 30; ((with_reducible refine (K1.out _).mono ?_); rintro e wa ⟨rfl, ba⟩)) | (go_at_call 31; ((with_reducible refine (K2.out _).mono ?_); rintro e wb ⟨rfl, bb⟩)) | (go_at_call 32; ((with_reducible refine (KH.out _).mono ?_); rintro e wc ⟨rfl, rfl⟩)) | (go_at_call 33; ((with_reducible refine (KT.out _).mono ?_); rintro e wd ⟨rfl, rfl⟩)) | (go_at_call 34; ((with_reducible refine (alive_any _).mono ?_); rintro e we ⟨rfl, be⟩)))
      go_ret
      have B := ba.trans (bb.mono ba.size)
      exact ⟨(by first | rfl | exact ret_bool (by simpa using g2)), B.trans (be.mono B.size)⟩
    · skip
      obtain rfl : q = false := by rw [← HQ.out]; simp; omega
      clear HQ
      go_enter Try.func7, Try.ntmps7
      go_wp2_with (first | (go_at_call 30; ((with_reducible refine (K1.out _).mono ?_); rintro e wa ⟨rfl, ba⟩)) | (go_at_call 31; ((with_reducible refine (K2.out _).mono ?_); rintro e wb ⟨rfl, bb⟩)) | (go_at_call 32; ((with_reducible refine (KH.out _).mono ?_); rintro e wc ⟨rfl, rfl⟩)) | (go_at_call 33; ((with_reducible refine (KT.out _).mono ?_); rintro e wd ⟨rfl, rfl⟩)) | (go_at_call 34; ((with_reducible refine (alive_any _).mono ?_); rintro e we ⟨rfl, be⟩)))
      go_ret
      have B := ba.trans (bb.mono ba.size)
      exact ⟨(by first | rfl | exact ret_bool (by simpa using g2)), B.trans (be.mono B.size)⟩
set_option maxRecDepth 100000 in
theorem lifted (os : Os) (started : os.Started) (H : Type) (enc : TypeId × Value → H) :
    ReturnsInHanded {} Try.checked os 7 .any (Rows.fsmStepsSpec.pre6 enc Try.prog Try.f7 Rows.fsmStepsRow.domain false) (Rows.fsmStepsSpec.post enc Try.prog Try.f7 false true false false) := by
  refine returnsInHanded_of_change (C := Try.checked) own started (by kernel_rfl) Try.func7
    (ChangeSpec.witness6 (enc := enc) (C := Try.checked) false ⟨#[], #[.int .i64 0, .int .i64 0, .int .u16 0], []⟩ 8 (by kernel_rfl) (by kernel_rfl) (by kernel_rfl) (by kernel_rfl)) ?_
  intro W base args ds gs before hval0 hW hcnd _
  have hval : ∀ (j : Nat) t v, Try.f7.params[j]? = some t → args[j]? = some v → Value.okWide Try.prog W .any base t v := hval0
  have hW' := hW
  obtain ⟨p, q, hA0, hV, rfl, hfz, hnd⟩ := hW
  have hA : DataW.TrodAll enc Try.prog W 0 (fun _ => true) true Try.f7.params.toList args.toList ds p := hA0
  rw [Try.params7] at hA hval
  obtain ⟨v0, vs0, d0, ds0, p0, q0, hargs, rfl, rfl, h0, r0⟩ := trodAll_cons hA
  obtain ⟨v1, vs1, d1, ds1, p1, q1, rfl, rfl, rfl, h1, r1⟩ := trodAll_cons r0
  obtain ⟨v2, vs2, d2, ds2, p2, q2, rfl, rfl, rfl, h2, r2⟩ := trodAll_cons r1
  obtain ⟨rfl, rfl, rfl⟩ := trodAll_nil r2
  obtain rfl : args = #[v0, v1, v2] := by cases args; simp_all
  obtain ⟨rfl, rfl⟩ := trodVars_none hV
  obtain ⟨a0, rfl, rfl, rfl, w0⟩ := open_int Try.underlying43 (hval 0 43 v0 rfl rfl) h0
  obtain ⟨a1, rfl, rfl, rfl, w1⟩ := open_int Try.underlying44 (hval 1 44 v1 rfl rfl) h1
  obtain ⟨a2, rfl, rfl, rfl, w2⟩ := open_int Try.underlying46 (hval 2 46 v2 rfl rfl) h2
  clear hA0 hval0
  refine (walk (H := H) (enc := enc) (base := base) a0 a1 a2 W w0 w1 w2).mono fun e W' ⟨he, bel⟩ => ?_
  subst he
  exact ⟨_, rfl, _, _, _, [], _, [], hW', trodAll_mk1 (shut_bool Try.underlying4 _), (trodAll_cons_mk (shut_int Try.underlying43 w0) (trodAll_cons_mk (shut_int Try.underlying44 w1) (trodAll_cons_mk (shut_int Try.underlying46 w2) trodAll_mk0))), rfl, bel.frame _, fun h => by cases h⟩

theorem over : Rows.fsmStepsRow.holds Try.pinned (OpenSpec.ofChange Rows.fsmStepsSpec) :=
  OpenClaim.holds_of_wide 7 Try.f7 rfl rfl rfl rfl rfl rfl rfl ⟨rfl, rfl, rfl, rfl, rfl⟩ rfl rfl rfl rfl rfl (by kernel_rfl) Try.func7 (by kernel_rfl)
    (of_decide_eq_true (by kernel_rfl)) (by unfold Func.isWrapper; first | (rw [if_pos (by decide +kernel)]; kernel_rfl) | (rw [if_neg (by decide +kernel)]; exact ⟨rfl, rfl⟩))
    (fun os started H enc _ => lifted os started H enc)

/-- the statement -/
theorem proved : Rows.FsmStepsSaid := over
end Go.Proofs.Ytlfcjfmfkmcmiaa.fsmSteps
