/- catwalk's catwalklaw23.EchoFinds answers true at every input, and leaves its arguments as they were. No condition. -/
import Derived.Test.YtcbfebbnelofpaaRows
import Derived.WalkKit
import Derived.ProofKit
import Derived.OpenShut
import Derived.ShutString
import Derived.ChangeOld
import Derived.Below
import Derived.Test.YtcbfebbnelofpaaEchoAlive
import Derived.Deep.DeepCutAuto
namespace Go.Proofs.Ytcbfebbnelofpaa.echoFinds
open Go.ChangeShapes Go.WideShapes Go.ChangeAt Go.RowKit
open Go.ChangeMaps (open_string shut_string)
set_option linter.unusedVariables false

theorem own : ownKnob Try.prog.godebug = none := by kernel_rfl
theorem laidOut : laidOutB Try.prog = true := by kernel_rfl

open Go.Proofs.Ytcbfebbnelofpaa.kit Go.Proofs.Ytcbfebbnelofpaa.ecc

set_option maxHeartbeats 2000000 in
set_option maxRecDepth 100000 in
/-- the walk: true, and nothing that was there has turned -/
theorem walk {H : Type} {enc : TypeId × Value → H} {base : Nat} (a0 : Int) (a1 : Int) (a2 : Bool) (w : World) (w0 : (Lit.int .i64 a0).wf = true) (w1 : (Lit.int .i64 a1).wf = true) :
    Calls Try.prog 6 #[.int .i64 a0, .int .i64 a1, .bool a2] w fun e w' => e = .returned (.bool true) ∧ Below w.heap.size w w' := by
  have hw0 := wf_i64 w0
  have hw1 := wf_i64 w1
  clear w0 w1
  by_cases hbad : a0 < 0 ∨ 1099511627276 < a0 ∨ a1 < 0 ∨ 500 < a1
  · by_cases h1 : a0 < 0
    · go_enter Try.func6, Try.ntmps6
      go_wp2
      go_ret
      exact ⟨rfl, Below.refl _ _⟩
    · by_cases h2 : 1099511627276 < a0
      · go_enter Try.func6, Try.ntmps6
        go_wp2
        go_ret
        exact ⟨rfl, Below.refl _ _⟩
      · by_cases h3 : a1 < 0
        · go_enter Try.func6, Try.ntmps6
          go_wp2
          go_ret
          exact ⟨rfl, Below.refl _ _⟩
        · have h4 : 500 < a1 := by omega
          go_enter Try.func6, Try.ntmps6
          go_wp2
          go_ret
          exact ⟨rfl, Below.refl _ _⟩
  · have h1 : ¬ a0 < 0 := by omega
    have h2 : ¬ 1099511627276 < a0 := by omega
    have h3 : ¬ a1 < 0 := by omega
    have h4 : ¬ 500 < a1 := by omega
    have h00 : 0 ≤ a0 := by omega
    have h01 : a0 ≤ 1099511627276 := by omega
    obtain ⟨m, rfl⟩ : ∃ m : Nat, a1 = m := ⟨a1.toNat, by omega⟩
    have hm : (m : Int) ≤ 500 := by omega
    clear hbad hw0 hw1
    have K0 := hid (show One w (w.alloc (.cells #[.bool false, .int .i64 0, .int .u8 0, .int .i64 0] 47)) w.heap.size (ev false 0 0 0) from One.made w _ _)
    cases a2 with
    | true =>
      go_enter Try.func6, Try.ntmps6
      go_wp2_with (go_at_call 18; ((with_reducible refine (start_any _ _ _ _ _ _ a0 h00 (by omega) K0.out.p).mono ?_); rintro e w1 ⟨rfl, h1⟩; have H1 := hid (K0.out.wrote h1); clear h1))
      clear K0
      go_loopw [8, 9] (fun av iv wr => ∃ (i q r l : Nat), i ≤ m + 1 ∧ i = 20 * q + r + 1 ∧ r < 20 ∧ l < 256 ∧ iv = .int .i64 (i : Nat) ∧ av = .int .i64 (q : Nat) ∧ Hid (One w wr w.heap.size (ev true (a0 + 20 * (q + 1 : Nat)) l 0))) (fun _ iv _ => m + 1 - (intOf iv).toNat)
      case atStart => exact ⟨1, 0, 0, 0, by omega, by omega, by omega, by omega, rfl, rfl, by simpa using H1⟩
      case round =>
        clear H1
        obtain ⟨i, q, r, l, hk, hkq, hr, hl, rfl, rfl, HT⟩ := hrel
        by_cases hlt : i ≤ m
        · have hle : (i : Int) ≤ m := by omega
          by_cases hq : r = 19
          · have hnx : a0 + 20 * ((q + 1 : Nat) : Int) ≤ a0 + (i : Int) := by omega
            have KT := hid (tick_ask wr _ _ _ _ (a0 + (i : Int)) HT.out.p hnx (by omega) (by omega) (by omega) (by omega) hl)
            obtain ⟨l2, hl2, hl3⟩ : ∃ l2 : Nat, (l + 1) % 256 = l2 ∧ l2 < 256 := ⟨_, rfl, by omega⟩
            rw [hl2] at KT
            clear hl2
            have HQ := hid hkq
            have HQR := hid hq
            clear hkq hq
            go_wp2_with (first | (go_at_call 20; ((with_reducible refine KT.out.mono ?_); rintro e w1 ⟨rfl, h1⟩; have H1 := hid (HT.out.wrote h1); clear h1)) | (go_at_call 17; ((with_reducible refine (heard_yes _ _ _ _ _ H1.out.p (by omega)).mono ?_); rintro e w2 ⟨rfl, h2⟩; have H2 := hid (H1.out.wrote h2); clear h2)))
            go_roundw
            case rel => exact ⟨i + 1, q + 1, 0, l2, by omega, by have := HQ.out; have := HQR.out; omega, by omega, hl3, by go_num, by go_num, by
              have := HQ.out
              have := HQR.out
              have e1 : a0 + 20 * ((q + 1 + 1 : Nat) : Int) = a0 + (i : Int) + 20 := by omega
              rw [e1]; exact H2⟩
            case measure => simp [intOf]; omega
          · have hno : a0 + (i : Int) < a0 + 20 * ((q + 1 : Nat) : Int) := by omega
            have HQ := hid hkq
            clear hkq
            go_wp2_with (go_at_call 20; ((with_reducible refine (tick_no _ _ _ _ _ _ _ HT.out.p (.inr hno)).mono ?_); rintro e w1 ⟨rfl, rfl⟩))
            go_roundw
            case rel => exact ⟨i + 1, q, r + 1, l, by omega, by have := HQ.out; omega, by omega, hl, by go_num, rfl, HT⟩
            case measure => simp [intOf]; omega
        · have hf : ((q : Int) == (m : Int) / 20) = true := by simp; omega
          have HB := hid HT.out.b
          clear HT hkq
          go_wp2_with (go_at_call 24; ((with_reducible refine (alive_any _).mono ?_); rintro e wb ⟨rfl, h11⟩))
          go_ret
          exact ⟨rfl, HB.out.trans (h11.mono HB.out.size)⟩
    | false =>
      go_enter Try.func6, Try.ntmps6
      go_wp2_with (go_at_call 18; ((with_reducible refine (start_any _ _ _ _ _ _ a0 h00 (by omega) K0.out.p).mono ?_); rintro e w1 ⟨rfl, h1⟩; have H1 := hid (K0.out.wrote h1); clear h1))
      clear K0
      go_loopw [8, 9] (fun av iv wr => ∃ (i q r c : Nat), i ≤ m + 1 ∧ i = 20 * q + r + 1 ∧ r < 20 ∧ (c = q ∧ q ≤ 3 ∨ c = 3 ∧ 3 ≤ q) ∧ iv = .int .i64 (i : Nat) ∧ av = .int .i64 (c : Nat) ∧ Hid (One w wr w.heap.size (ev true (a0 + 20 * (c + 1 : Nat)) c (c : Nat)))) (fun _ iv _ => m + 1 - (intOf iv).toNat)
      case atStart => exact ⟨1, 0, 0, 0, by omega, by omega, by omega, by omega, rfl, rfl, by simpa using H1⟩
      case round =>
        clear H1
        obtain ⟨i, q, r, c, hk, hkq, hr, hcq, rfl, rfl, HT⟩ := hrel
        by_cases hlt : i ≤ m
        · have hle : (i : Int) ≤ m := by omega
          have HQ := hid hkq
          have HC := hid hcq
          by_cases hno : a0 + (i : Int) < a0 + 20 * ((c + 1 : Nat) : Int)
          · have h80 : (i : Int) < 80 := by omega
            clear hkq hcq
            go_wp2_with (go_at_call 20; ((with_reducible refine (tick_no _ _ _ _ _ _ _ HT.out.p (.inr hno)).mono ?_); rintro e w1 ⟨rfl, rfl⟩))
            go_roundw
            case rel => exact ⟨i + 1, q, r + 1, c, by omega, by have := HQ.out; omega, by have := HQ.out; have := HC.out; omega, HC.out, by go_num, rfl, HT⟩
            case measure => simp [intOf]; omega
          · have hnx : a0 + 20 * ((c + 1 : Nat) : Int) ≤ a0 + (i : Int) := by omega
            by_cases hc3 : c < 3
            · have h80 : (i : Int) < 80 := by omega
              have hr19 : r = 19 := by omega
              have hcq' : c = q := by omega
              have H19 := hid hr19
              have HCQ := hid hcq'
              clear hr19 hcq' hkq hcq
              go_wp2_with (go_at_call 20; ((with_reducible refine (tick_ask _ _ _ _ _ _ HT.out.p hnx (by omega) (by omega) (by omega) (by omega) (by omega)).mono ?_); rintro e w1 ⟨rfl, h1⟩; have H1 := hid (HT.out.wrote h1); clear h1))
              go_roundw
              case rel => exact ⟨i + 1, q + 1, 0, c + 1, by omega, by have := HQ.out; have := H19.out; omega, by omega, by have := HCQ.out; omega, by go_num, by go_num, by
                have := HQ.out
                have := H19.out
                have := HCQ.out
                have e1 : a0 + 20 * ((c + 1 + 1 : Nat) : Int) = a0 + (i : Int) + 20 := by omega
                have e2 : (c + 1) % 256 = c + 1 := by omega
                rw [e2] at H1
                rw [e1]; exact H1⟩
              case measure => simp [intOf]; omega
            · have h80 : 80 ≤ (i : Int) := by omega
              have hq4 : 3 ≤ q := by omega
              have hc : c = 3 := by omega
              have HC3 := hid hc
              clear hkq hcq hc
              go_wp2_with (go_at_call 20; ((with_reducible refine (tick_gone _ _ _ _ _ _ HT.out.p hnx (by omega)).mono ?_); rintro e w1 ⟨rfl, rfl⟩))
              go_roundw
              case rel =>
                by_cases h19 : r = 19
                · exact ⟨i + 1, q + 1, 0, c, by omega, by have := HQ.out; omega, by omega, by have := HC3.out; omega, by go_num, rfl, HT⟩
                · exact ⟨i + 1, q, r + 1, c, by omega, by have := HQ.out; omega, by omega, HC.out, by go_num, rfl, HT⟩
              case measure => simp [intOf]; omega
        · have HB := hid HT.out.b
          clear HT
          by_cases h3 : q ≤ 3
          · have hf : ((c : Int) == (m : Int) / 20) = true := by simp; omega
            have hf2 : (m : Int) / 20 ≤ 3 := by omega
            clear hkq hcq
            go_wp2_with (go_at_call 24; ((with_reducible refine (alive_any _).mono ?_); rintro e wb ⟨rfl, h11⟩))
            go_ret
            exact ⟨rfl, HB.out.trans (h11.mono HB.out.size)⟩
          · have hf : ((c : Int) == 3) = true := by simp; omega
            have hf2 : 3 < (m : Int) / 20 := by omega
            clear hkq hcq
            go_wp2_with (go_at_call 24; ((with_reducible refine (alive_any _).mono ?_); rintro e wb ⟨rfl, h11⟩))
            go_ret
            exact ⟨rfl, HB.out.trans (h11.mono HB.out.size)⟩
set_option maxRecDepth 100000 in
theorem lifted (os : Os) (started : os.Started) (H : Type) (enc : TypeId × Value → H) :
    ReturnsInHanded {} Try.checked os 6 .any (Rows.echoFindsSpec.pre6 enc Try.prog Try.f6 Rows.echoFindsRow.domain false) (Rows.echoFindsSpec.post enc Try.prog Try.f6 false true false false) := by
  refine returnsInHanded_of_change (C := Try.checked) own started (by kernel_rfl) Try.func6
    (ChangeSpec.witness6 (enc := enc) (C := Try.checked) false ⟨#[], #[.int .i64 0, .int .i64 0, .bool false], []⟩ 8 (by kernel_rfl) (by kernel_rfl) (by kernel_rfl) (by kernel_rfl)) ?_
  intro W base args ds gs before hval0 hW hcnd _
  have hval : ∀ (j : Nat) t v, Try.f6.params[j]? = some t → args[j]? = some v → Value.okWide Try.prog W .any base t v := hval0
  have hW' := hW
  obtain ⟨p, q, hA0, hV, rfl, hfz, hnd⟩ := hW
  have hA : DataW.TrodAll enc Try.prog W 0 (fun _ => true) true Try.f6.params.toList args.toList ds p := hA0
  rw [Try.params6] at hA hval
  obtain ⟨v0, vs0, d0, ds0, p0, q0, hargs, rfl, rfl, h0, r0⟩ := trodAll_cons hA
  obtain ⟨v1, vs1, d1, ds1, p1, q1, rfl, rfl, rfl, h1, r1⟩ := trodAll_cons r0
  obtain ⟨v2, vs2, d2, ds2, p2, q2, rfl, rfl, rfl, h2, r2⟩ := trodAll_cons r1
  obtain ⟨rfl, rfl, rfl⟩ := trodAll_nil r2
  obtain rfl : args = #[v0, v1, v2] := by cases args; simp_all
  obtain ⟨rfl, rfl⟩ := trodVars_none hV
  obtain ⟨a0, rfl, rfl, rfl, w0⟩ := open_int Try.underlying3 (hval 0 3 v0 rfl rfl) h0
  obtain ⟨a1, rfl, rfl, rfl, w1⟩ := open_int Try.underlying3 (hval 1 3 v1 rfl rfl) h1
  obtain ⟨a2, rfl, rfl, rfl⟩ := open_bool Try.underlying4 (hval 2 4 v2 rfl rfl) h2
  clear hA0 hval0
  refine (walk (H := H) (enc := enc) (base := base) a0 a1 a2 W w0 w1).mono fun e W' ⟨he, bel⟩ => ?_
  subst he
  exact ⟨_, rfl, _, _, _, [], _, [], hW', trodAll_mk1 (shut_bool Try.underlying4 _), (trodAll_cons_mk (shut_int Try.underlying3 w0) (trodAll_cons_mk (shut_int Try.underlying3 w1) (trodAll_cons_mk (shut_bool Try.underlying4 a2) trodAll_mk0))), rfl, bel.frame _, fun h => by cases h⟩

theorem over : Rows.echoFindsRow.holds Try.pinned (OpenSpec.ofChange Rows.echoFindsSpec) :=
  OpenClaim.holds_of_wide 6 Try.f6 rfl rfl rfl rfl rfl rfl rfl ⟨rfl, rfl, rfl, rfl, rfl⟩ rfl rfl rfl rfl rfl (by kernel_rfl) Try.func6 (by kernel_rfl)
    (of_decide_eq_true (by kernel_rfl)) (by unfold Func.isWrapper; first | (rw [if_pos (by decide +kernel)]; kernel_rfl) | (rw [if_neg (by decide +kernel)]; exact ⟨rfl, rfl⟩))
    (fun os started H enc _ => lifted os started H enc)

/-- the statement -/
theorem proved : Rows.EchoFindsSaid := over
end Go.Proofs.Ytcbfebbnelofpaa.echoFinds
