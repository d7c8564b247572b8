/- catwalk's catwalklaw04.Md5Same answers true at every input, and leaves its arguments as they were. No condition. -/
import Derived.Test.YtnfklhebcloolaaDoorRows
import Derived.WalkKit
import Derived.ProofKit
import Derived.OpenShut
import Derived.ShutString
import Derived.ChangeOld
import Derived.Below
import Derived.Test.YtnfklhebcloolaaDoorTie
import Derived.Test.YtnfklhebcloolaaDoorCards
import Derived.LaidMore
import Derived.LaidLaws
import Derived.Stop.Joined
import Derived.SevenTiedAt
import Derived.Test.YtnfklhebcloolaaDoorMdEq
import Derived.Test.YtnfklhebcloolaaDoorMdSame
import Derived.Test.YtnfklhebcloolaaDoorEqual8
import Derived.Test.YtnfklhebcloolaaDoorOct
import Derived.Test.YtnfklhebcloolaaDoorOpen
import Derived.Deep.DeepCutAuto
namespace Go.Proofs.YtnfklhebcloolaaDoor.md5Same
open Go.ChangeShapes Go.WideShapes Go.ChangeAt Go.RowKit
open Go.ChangeMaps (open_string shut_string)
set_option linter.unusedVariables false

theorem own : ownKnob Tryd.prog.godebug = none := by kernel_rfl
theorem laidOut : laidOutB Tryd.prog = true := by kernel_rfl

open Go.Proofs.YtnfklhebcloolaaDoor.kit Go.Proofs.YtnfklhebcloolaaDoor.mdm Go.Proofs.YtnfklhebcloolaaDoor.mdc
theorem oct_wf {l : List Int} (h : ∀ n ∈ l, (Lit.int .u8 n).wf = true) : Oct l := fun z hz => wf_u8 (h z hz)
theorem tab_on {w W : World} (h : Tab w) (hb : Below w.heap.size w W) : Tab W := h.next hb

set_option maxHeartbeats 1000000 in
set_option maxRecDepth 100000 in
/-- the walk: true, and nothing that was there has turned -/
theorem walk {H : Type} {enc : TypeId × Value → H} {base : Nat} (v0 : Value) (d0 : DataW H) (p0 : List MemPlace) (v1 : Value) (d1 : DataW H) (p1 : List MemPlace) (w : World) (w0 : DataW.Trod enc Tryd.prog w 0 (fun _ => true) true 22 v0 d0 p0) (o0 : Value.okWide Tryd.prog w .any base 22 v0) (w1 : DataW.Trod enc Tryd.prog w 0 (fun _ => true) true 22 v1 d1 p1) (o1 : Value.okWide Tryd.prog w .any base 22 v1) (hL : laidMetH Tryd.prog Rows.md5SameRow.laid w) :
    Calls Tryd.prog 5 #[v0, v1] w fun e w' => e = .returned (.bool true) ∧ Below w.heap.size w w' := by
  have HT := hid (laid_same hL)
  clear hL
  obtain ⟨a0, len0, cap0, rfl⟩ := okWide_slice Tryd.underlying22 o0
  obtain ⟨l0, hN0, hwf0⟩ := open_nums Tryd.underlying22 Tryd.underlying5 (by kernel_rfl) w0
  obtain ⟨a1, len1, cap1, rfl⟩ := okWide_slice Tryd.underlying22 o1
  obtain ⟨l1, hN1, hwf1⟩ := open_nums Tryd.underlying22 Tryd.underlying5 (by kernel_rfl) w1
  have O0 := oct_wf hwf0
  have O1 := oct_wf hwf1
  clear w0 o0 w1 o1 hwf0 hwf1
  have K1 := hid (fun (W : World) (b : Below w.heap.size w W) => same_any W (hN0.below b) (hN1.below b) O0 O1 b.size)
  have K2 := hid (fun (W : World) (b : Below w.heap.size w W) => equal_any W (hN0.below b) (hN1.below b))
  have K3 := hid (fun (W : World) (b : Below w.heap.size w W) => same_any W (hN0.below b) (hN0.below b) O0 O0 b.size)
  have K4 := hid (fun (W : World) (b : Below w.heap.size w W) => alive_any W (HT.out.next b))
  have hself : decide (l0 = l0) = true := by simp
  rw [hself] at K3
  obtain ⟨q, hq⟩ : ∃ q : Bool, q = decide (l0 = l1) := ⟨_, rfl⟩
  rw [← hq] at K1 K2
  have hle0 := hN0.le
  have hmx0 := hN0.max
  have hle1 := hN1.le
  have hmx1 := hN1.max
  unfold maxLen at hmx0 hmx1
  clear hq hN0 hN1 O0 O1 hself
  by_cases h0 : 1000 < len0
  · go_enter Tryd.func5, Tryd.ntmps5
    go_wp2
    go_ret
    exact ⟨rfl, Below.refl _ _⟩
  · by_cases h1 : 1000 < len1
    · go_enter Tryd.func5, Tryd.ntmps5
      go_wp2
      go_ret
      exact ⟨rfl, Below.refl _ _⟩
    · have B0 := hid (Below.refl w.heap.size w)
      go_enter Tryd.func5, Tryd.ntmps5
      go_wp2_with (first | (go_at_call 12; ((with_reducible refine (K1.out _ B0.out).mono ?_); rintro e wa ⟨rfl, ba⟩; have B1 := hid ba; clear ba)) | (go_at_call 13; ((with_reducible refine (K2.out _ B1.out).mono ?_); rintro e wb ⟨rfl, mb, eb⟩; have B2 := hid (show Below w.heap.size w wb by rw [eb]; exact below_drewN B1.out mb); clear eb)) | (go_at_call 12; ((with_reducible refine (K3.out _ B2.out).mono ?_); rintro e wc ⟨rfl, bc⟩; have B3 := hid (B2.out.trans (bc.mono B2.out.size)); clear bc)) | (go_at_call 9; ((with_reducible refine (K4.out _ B3.out).mono ?_); rintro e wd ⟨rfl, bd⟩; have B4 := hid (B3.out.trans (bd.mono B3.out.size)); clear bd)))
      go_ret
      exact ⟨rfl, B4.out⟩
theorem door_met (os : Os) (args : Array Value) : laidMetH Tryd.prog Rows.md5SameRow.laid ((World.doorLaid Tryd.prog 400 os).forCall (fun _ _ => 0) ⟨#[], args, []⟩).memory :=
  laidMetH_of_parts3 (fuel := 8) (laidMet_of_run' 8 (by kernel_rfl) (by kernel_rfl)) (by kernel_rfl) (by kernel_rfl)
set_option maxRecDepth 100000 in
theorem lifted (os : Os) (started : os.Started) (H : Type) (enc : TypeId × Value → H) :
    ReturnsInHanded {} Tryd.checked os 5 .any (fun w args => (Rows.md5SameSpec.pre enc Tryd.prog Tryd.f5 Rows.md5SameRow.domain false w args ∧ laidMetH Tryd.prog Rows.md5SameRow.laid w) ∧ sizedMet enc Tryd.prog Tryd.f5 (OpenSpec.ofChange Rows.md5SameSpec) false w args) (Rows.md5SameSpec.post enc Tryd.prog Tryd.f5 false true false false) := by
  refine returnsInHanded_of_change_and (C := Tryd.checked) (X := fun w _ => laidMetH Tryd.prog Rows.md5SameRow.laid w) (fun _ _ _ hh h => h.of_heap hh) own started (by kernel_rfl) Tryd.func5
    (ChangeSpec.witness_shaped (enc := enc) (C := Tryd.checked) (os := os) (X := fun w _ => laidMetH Tryd.prog Rows.md5SameRow.laid w) false (World.doorLaid Tryd.prog 400 os) #[.slice none 0 0, .slice none 0 0] 8 rfl (World.shaped_of_RefB (by kernel_rfl) (by kernel_rfl)) (by kernel_rfl) (by kernel_rfl) (by kernel_rfl) (door_met os _)) ?_
  intro W base args ds gs before hval0 hW hcnd _ hL _
  have hval : ∀ (j : Nat) t v, Tryd.f5.params[j]? = some t → args[j]? = some v → Value.okWide Tryd.prog W .any base t v := hval0
  have hW' := hW
  obtain ⟨p, q, hA0, hV, rfl, hfz, hnd⟩ := hW
  have hA : DataW.TrodAll enc Tryd.prog W 0 (fun _ => true) true Tryd.f5.params.toList args.toList ds p := hA0
  rw [Tryd.params5] at hA hval
  obtain ⟨v0, vs0, d0, ds0, p0, q0, hargs, rfl, rfl, h0, r0⟩ := trodAll_cons hA
  obtain ⟨v1, vs1, d1, ds1, p1, q1, rfl, rfl, rfl, h1, r1⟩ := trodAll_cons r0
  obtain ⟨rfl, rfl, rfl⟩ := trodAll_nil r1
  obtain rfl : args = #[v0, v1] := by cases args; simp_all
  obtain ⟨rfl, rfl⟩ := trodVars_none hV
  have k0 := h0
  have o0 := hval 0 22 v0 rfl rfl
  have lt0 : ∀ x ∈ p0, x.block < W.heap.size := by obtain ⟨m, hm⟩ := k0; exact DataW.trod_lt m _ _ _ hm
  have k1 := h1
  have o1 := hval 1 22 v1 rfl rfl
  have lt1 : ∀ x ∈ p1, x.block < W.heap.size := by obtain ⟨m, hm⟩ := k1; exact DataW.trod_lt m _ _ _ hm
  clear hA0 hval0
  refine (walk (H := H) (enc := enc) (base := base) v0 d0 p0 v1 d1 p1 W k0 o0 k1 o1 hL).mono fun e W' ⟨he, bel⟩ => ?_
  subst he
  exact ⟨_, rfl, _, _, _, [], _, [], hW', trodAll_mk1 (shut_bool Tryd.underlying4 _), (trodAll_cons_mk (Below.trod laidOut (by kernel_rfl) (of_decide_eq_true (by kernel_rfl)) k0 bel lt0) (trodAll_cons_mk (Below.trod laidOut (by kernel_rfl) (of_decide_eq_true (by kernel_rfl)) k1 bel lt1) trodAll_mk0)), rfl, bel.frame _, fun h => by cases h⟩

theorem over : Rows.md5SameRow.holds Tryd.pinned (OpenSpec.ofChange Rows.md5SameSpec) :=
  OpenClaim.holds_of_wide 5 Tryd.f5 rfl rfl rfl rfl rfl rfl rfl ⟨rfl, rfl, rfl, rfl, rfl⟩ rfl rfl rfl rfl rfl (by kernel_rfl) Tryd.func5 (by kernel_rfl)
    (of_decide_eq_true (by kernel_rfl)) (by unfold Func.isWrapper; first | (rw [if_pos (by decide +kernel)]; kernel_rfl) | (rw [if_neg (by decide +kernel)]; exact ⟨rfl, rfl⟩))
    (fun os started H enc _ => lifted os started H enc)

/-- the statement: the card -/
theorem proved : Rows.Md5SameCardSaid :=
  Claim7.holds_tied_plain_at .later [] [.data, .data, .data] true (true, "19782ae484a4ae97c67a642e65a14608304aec11185172171083b1c757746526") false
    over (fun _ h => by cases h) (by kernel_rfl) (fun _ h => by cases h) md5Same_row_tie rfl ⟨rfl, rfl⟩ (by kernel_rfl) rfl
    (fun f fn hf hfn => by
      obtain rfl : f = 5 := Option.some.inj ((show Tryd.prog.funcNamed "catwalk/catwalklaw04.Md5Same" = some 5 by kernel_rfl).symm.trans hf) |>.symm
      obtain rfl : fn = Tryd.f5 := (Option.some.inj (Tryd.func5.symm.trans hfn)).symm
      exact ⟨by kernel_rfl, fun j t ht => by
        rw [Tryd.params5] at ht
        have hm : t ∈ [22] := by simpa using Array.mem_of_getElem? ht
        have hall : ([22].all fun u => !Tryd.prog.wantsStandIn u) = true := by kernel_rfl
        exact (show Tryd.prog.wantsStandIn t = false by simpa using List.all_eq_true.1 hall t hm)⟩)
    (by kernel_rfl)
end Go.Proofs.YtnfklhebcloolaaDoor.md5Same
