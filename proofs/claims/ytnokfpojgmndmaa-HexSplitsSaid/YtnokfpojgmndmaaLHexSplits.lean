/- catwalk's catwalklaw03.HexSplits answers true at every input, and leaves its arguments as they were. No condition. -/
import Derived.Test.YtnokfpojgmndmaaRows
import Derived.WalkKit
import Derived.ProofKit
import Derived.OpenShut
import Derived.ShutString
import Derived.ChangeOld
import Derived.Below
import Derived.Test.YtnokfpojgmndmaaHexSpl
import Derived.Deep.DeepCutAuto
namespace Go.Proofs.Ytnokfpojgmndmaa.hexSplits
open Go.ChangeShapes Go.WideShapes Go.ChangeAt Go.RowKit
open Go.ChangeMaps (open_string shut_string)
set_option linter.unusedVariables false

theorem own : ownKnob Try.prog.godebug = none := by kernel_rfl
theorem laidOut : laidOutB Try.prog = true := by kernel_rfl

open Go.Proofs.Ytnokfpojgmndmaa.kit Go.Proofs.Ytnokfpojgmndmaa.hsp

set_option maxHeartbeats 1000000 in
set_option maxRecDepth 100000 in
/-- the walk: true, and nothing that was there has turned -/
theorem walk {H : Type} {enc : TypeId × Value → H} {base : Nat} (a0 : ByteArray) (w : World) (w0 : a0.size ≤ maxLen) :
    Calls Try.prog 3 #[.string a0] w fun e w' => e = .returned (.bool true) ∧ Below w.heap.size w w' := by
  unfold maxLen at w0
  by_cases hbig : 1000 < a0.size
  · have hbi : 1000 < (a0.size : Int) := by omega
    go_enter Try.func3, Try.ntmps3
    go_wp2
    go_ret
    exact ⟨rfl, Below.refl _ _⟩
  · have hbi : ¬ 1000 < (a0.size : Int) := by omega
    have hs : a0.size ≤ 1000 := by omega
    have nW := words_len a0 hs
    have nL := lines_len a0 hs
    obtain ⟨LW, hLW⟩ : ∃ L, L = wordsB a0 := ⟨_, rfl⟩
    obtain ⟨LL, hLL⟩ : ∃ L, L = linesB a0 := ⟨_, rfl⟩
    rw [← hLW] at nW
    rw [← hLL] at nL
    have HA : Hid (∀ W, Calls Try.prog 5 #[.string a0] W (RowPost W LW)) := fun W => by rw [hLW]; exact hex_words a0 hs W
    have HB : Hid (∀ W, Calls Try.prog 6 #[.string a0] W (RowPost W LW)) := fun W => by rw [hLW]; exact ref_words a0 hs W
    have HC : Hid (∀ W, Calls Try.prog 7 #[.string a0] W (RowPost W LL)) := fun W => by rw [hLL]; exact hex_lines a0 hs W
    have HD : Hid (∀ W, Calls Try.prog 8 #[.string a0] W (RowPost W LL)) := fun W => by rw [hLL]; exact ref_lines a0 hs W
    have NW := hid nW
    have NL := hid nL
    clear hLW hLL nW nL hs
    go_enter Try.func3, Try.ntmps3
    go_wp2_with (first | (go_at_call 5; ((with_reducible refine (HA.out _).mono ?_); rintro e wa ⟨x1, c1, rfl, s1, b1⟩; have S1 := hid s1; clear s1)) | (go_at_call 6; ((with_reducible refine (HB.out _).mono ?_); rintro e wb ⟨x2, c2, rfl, s2, b2'⟩; have S2 := hid s2; have S3 := hid (S1.out.below b2'); have b2 := keep_below b2' b1; clear b2' s2)) | (go_at_call 4; ((with_reducible refine (equal_row NW.out S3.out S2.out).mono ?_); rintro e wc ⟨rfl, b3'⟩; have b3 := keep_below b3' b2; clear b3')) | (go_at_call 7; ((with_reducible refine (HC.out _).mono ?_); rintro e wd ⟨x4, c4, rfl, s4, b4'⟩; have S4 := hid s4; have b4 := keep_below b4' b3; clear b4' s4)) | (go_at_call 8; ((with_reducible refine (HD.out _).mono ?_); rintro e we ⟨x5, c5, rfl, s5, b5'⟩; have S5 := hid s5; have S6 := hid (S4.out.below b5'); have b5 := keep_below b5' b4; clear b5' s5)) | (go_at_call 4; ((with_reducible refine (equal_row NL.out S6.out S5.out).mono ?_); rintro e wf ⟨rfl, b6'⟩; have b6 := keep_below b6' b5; clear b6')) | (go_at_call 9; ((with_reducible refine (alive_any _).mono ?_); rintro e wg ⟨rfl, b7'⟩; have b7 := keep_below b7' b6; clear b7')))
    go_ret
    exact ⟨rfl, b7⟩
set_option maxRecDepth 100000 in
theorem lifted (os : Os) (started : os.Started) (H : Type) (enc : TypeId × Value → H) :
    ReturnsInHanded {} Try.checked os 3 .any (Rows.hexSplitsSpec.pre6 enc Try.prog Try.f3 Rows.hexSplitsRow.domain false) (Rows.hexSplitsSpec.post enc Try.prog Try.f3 false true false false) := by
  refine returnsInHanded_of_change (C := Try.checked) own started (by kernel_rfl) Try.func3
    (ChangeSpec.witness6 (enc := enc) (C := Try.checked) false ⟨#[], #[.string ByteArray.empty], []⟩ 8 (by kernel_rfl) (by kernel_rfl) (by kernel_rfl) (by kernel_rfl)) ?_
  intro W base args ds gs before hval0 hW hcnd _
  have hval : ∀ (j : Nat) t v, Try.f3.params[j]? = some t → args[j]? = some v → Value.okWide Try.prog W .any base t v := hval0
  have hW' := hW
  obtain ⟨p, q, hA0, hV, rfl, hfz, hnd⟩ := hW
  have hA : DataW.TrodAll enc Try.prog W 0 (fun _ => true) true Try.f3.params.toList args.toList ds p := hA0
  rw [Try.params3] at hA hval
  obtain ⟨v0, vs0, d0, ds0, p0, q0, hargs, rfl, rfl, h0, r0⟩ := trodAll_cons hA
  obtain ⟨rfl, rfl, rfl⟩ := trodAll_nil r0
  obtain rfl : args = #[v0] := by cases args; simp_all
  obtain ⟨rfl, rfl⟩ := trodVars_none hV
  obtain ⟨a0, rfl, rfl, rfl, w0⟩ := open_string Try.underlying9 (hval 0 9 v0 rfl rfl) h0
  clear hA0 hval0
  refine (walk (H := H) (enc := enc) (base := base) a0 W w0).mono fun e W' ⟨he, bel⟩ => ?_
  subst he
  exact ⟨_, rfl, _, _, _, [], _, [], hW', trodAll_mk1 (shut_bool Try.underlying4 _), (trodAll_cons_mk (shut_string Try.underlying9 w0) trodAll_mk0), rfl, bel.frame _, fun h => by cases h⟩

theorem over : Rows.hexSplitsRow.holds Try.pinned (OpenSpec.ofChange Rows.hexSplitsSpec) :=
  OpenClaim.holds_of_wide 3 Try.f3 rfl rfl rfl rfl rfl rfl rfl ⟨rfl, rfl, rfl, rfl, rfl⟩ rfl rfl rfl rfl rfl (by kernel_rfl) Try.func3 (by kernel_rfl)
    (of_decide_eq_true (by kernel_rfl)) (by unfold Func.isWrapper; first | (rw [if_pos (by decide +kernel)]; kernel_rfl) | (rw [if_neg (by decide +kernel)]; exact ⟨rfl, rfl⟩))
    (fun os started H enc _ => lifted os started H enc)

/-- the statement -/
theorem proved : Rows.HexSplitsSaid := over
end Go.Proofs.Ytnokfpojgmndmaa.hexSplits
