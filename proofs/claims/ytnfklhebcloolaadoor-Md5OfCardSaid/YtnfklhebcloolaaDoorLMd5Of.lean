/- catwalk's catwalklaw04.Md5Of answers true at every input, and leaves its arguments as they were. No condition. -/
import Derived.Test.YtnfklhebcloolaaDoorRows
import Derived.WalkKit
import Derived.ProofKit
import Derived.OpenShut
import Derived.ShutString
import Derived.ChangeOld
import Derived.Below
import Derived.Test.YtnfklhebcloolaaDoorTie
import Derived.Test.YtnfklhebcloolaaDoorCards
import Derived.LaidMore
import Derived.LaidLaws
import Derived.Stop.Joined
import Derived.SevenTiedAt
import Derived.Test.YtnfklhebcloolaaDoorMdEq
import Derived.Test.YtnfklhebcloolaaDoorMdRO
import Derived.Test.YtnfklhebcloolaaDoorOct
import Derived.Test.YtnfklhebcloolaaDoorOpen
import Derived.Deep.DeepCutAuto
namespace Go.Proofs.YtnfklhebcloolaaDoor.md5Of
open Go.ChangeShapes Go.WideShapes Go.ChangeAt Go.RowKit
open Go.ChangeMaps (open_string shut_string)
set_option linter.unusedVariables false

theorem own : ownKnob Tryd.prog.godebug = none := by kernel_rfl
theorem laidOut : laidOutB Tryd.prog = true := by kernel_rfl

open Go.Proofs.YtnfklhebcloolaaDoor.kit Go.Proofs.YtnfklhebcloolaaDoor.mdm Go.Proofs.YtnfklhebcloolaaDoor.mdc
theorem oct_wf {l : List Int} (h : ∀ n ∈ l, (Lit.int .u8 n).wf = true) : Oct l := fun z hz => wf_u8 (h z hz)

set_option maxHeartbeats 1000000 in
set_option maxRecDepth 100000 in
/-- the walk: true, and nothing that was there has turned -/
theorem walk {H : Type} {enc : TypeId × Value → H} {base : Nat} (v0 : Value) (d0 : DataW H) (p0 : List MemPlace) (w : World) (w0 : DataW.Trod enc Tryd.prog w 0 (fun _ => true) true 22 v0 d0 p0) (o0 : Value.okWide Tryd.prog w .any base 22 v0) (hL : laidMetH Tryd.prog Rows.md5OfRow.laid w) :
    Calls Tryd.prog 3 #[v0] w fun e w' => e = .returned (.bool true) ∧ Below w.heap.size w w' := by
  have HT := hid (laid_of hL)
  clear hL
  obtain ⟨a0, len0, cap0, rfl⟩ := okWide_slice Tryd.underlying22 o0
  obtain ⟨l0, hN0, hwf0⟩ := open_nums Tryd.underlying22 Tryd.underlying5 (by kernel_rfl) w0
  have O0 := oct_wf hwf0
  clear w0 o0 hwf0
  have hle0 := hN0.le
  have hmx0 := hN0.max
  unfold maxLen at hmx0
  by_cases h0 : 1000 < len0
  · clear hN0
    go_enter Tryd.func3, Tryd.ntmps3
    go_wp2
    go_ret
    exact ⟨rfl, Below.refl _ _⟩
  · have K1 := hid (of_one w HT.out hN0 O0 (Nat.le_refl _) (by omega) 22)
    have K2 := hid (fun (W : World) (b : Below w.heap.size w W) => rof_any W (hN0.below b) O0 b.size (by omega))
    have K4 := hid (fun (W : World) (b : Below w.heap.size w W) => alive_any W (HT.out.next b))
    have E1 : ∀ W : World, (Op.equalIn 10000 23 (.agg (b16 (md5 l0)).toArray) (.agg (b16 (md5 l0)).toArray)).run Tryd.prog W = .ok true W := fun W => (eq_arr 23 (by kernel_rfl) (md5 l0) (md5 l0) (md5_len _) (md5_len _) W).trans (by rw [decide_eq_true rfl])
    have G : Tryd.prog.eqGuardType Tryd.prog.depth 23 = false := by kernel_rfl
    obtain ⟨V, hV⟩ : ∃ V, V = (b16 (md5 l0)).toArray := ⟨_, rfl⟩
    rw [← hV] at K1 K2 E1
    clear hV hN0 O0
    go_enter Tryd.func3, Tryd.ntmps3
    go_wp2_with (first | (go_at_call 7; ((with_reducible refine K1.out.mono ?_); rintro e wa ⟨rfl, ba⟩; have B1 := hid ba; clear ba)) | (go_at_call 8; ((with_reducible refine (K2.out _ B1.out).mono ?_); rintro e wb ⟨rfl, bb⟩; have B2 := hid (B1.out.trans (bb.mono B1.out.size)); clear bb)) | (go_at_call 9; ((with_reducible refine (K4.out _ B2.out).mono ?_); rintro e wd ⟨rfl, bd⟩; have B4 := hid (B2.out.trans (bd.mono B2.out.size)); clear bd)))
    go_ret
    exact ⟨rfl, B4.out⟩
theorem door_met (os : Os) (args : Array Value) : laidMetH Tryd.prog Rows.md5OfRow.laid ((World.doorLaid Tryd.prog 400 os).forCall (fun _ _ => 0) ⟨#[], args, []⟩).memory :=
  laidMetH_of_parts3 (fuel := 8) (laidMet_of_run' 8 (by kernel_rfl) (by kernel_rfl)) (by kernel_rfl) (by kernel_rfl)
set_option maxRecDepth 100000 in
theorem lifted (os : Os) (started : os.Started) (H : Type) (enc : TypeId × Value → H) :
    ReturnsInHanded {} Tryd.checked os 3 .any (fun w args => (Rows.md5OfSpec.pre enc Tryd.prog Tryd.f3 Rows.md5OfRow.domain false w args ∧ laidMetH Tryd.prog Rows.md5OfRow.laid w) ∧ sizedMet enc Tryd.prog Tryd.f3 (OpenSpec.ofChange Rows.md5OfSpec) false w args) (Rows.md5OfSpec.post enc Tryd.prog Tryd.f3 false true false false) := by
  refine returnsInHanded_of_change_and (C := Tryd.checked) (X := fun w _ => laidMetH Tryd.prog Rows.md5OfRow.laid w) (fun _ _ _ hh h => h.of_heap hh) own started (by kernel_rfl) Tryd.func3
    (ChangeSpec.witness_shaped (enc := enc) (C := Tryd.checked) (os := os) (X := fun w _ => laidMetH Tryd.prog Rows.md5OfRow.laid w) false (World.doorLaid Tryd.prog 400 os) #[.slice none 0 0] 8 rfl (World.shaped_of_RefB (by kernel_rfl) (by kernel_rfl)) (by kernel_rfl) (by kernel_rfl) (by kernel_rfl) (door_met os _)) ?_
  intro W base args ds gs before hval0 hW hcnd _ hL _
  have hval : ∀ (j : Nat) t v, Tryd.f3.params[j]? = some t → args[j]? = some v → Value.okWide Tryd.prog W .any base t v := hval0
  have hW' := hW
  obtain ⟨p, q, hA0, hV, rfl, hfz, hnd⟩ := hW
  have hA : DataW.TrodAll enc Tryd.prog W 0 (fun _ => true) true Tryd.f3.params.toList args.toList ds p := hA0
  rw [Tryd.params3] at hA hval
  obtain ⟨v0, vs0, d0, ds0, p0, q0, hargs, rfl, rfl, h0, r0⟩ := trodAll_cons hA
  obtain ⟨rfl, rfl, rfl⟩ := trodAll_nil r0
  obtain rfl : args = #[v0] := by cases args; simp_all
  obtain ⟨rfl, rfl⟩ := trodVars_none hV
  have k0 := h0
  have o0 := hval 0 22 v0 rfl rfl
  have lt0 : ∀ x ∈ p0, x.block < W.heap.size := by obtain ⟨m, hm⟩ := k0; exact DataW.trod_lt m _ _ _ hm
  clear hA0 hval0
  refine (walk (H := H) (enc := enc) (base := base) v0 d0 p0 W k0 o0 hL).mono fun e W' ⟨he, bel⟩ => ?_
  subst he
  exact ⟨_, rfl, _, _, _, [], _, [], hW', trodAll_mk1 (shut_bool Tryd.underlying4 _), (trodAll_cons_mk (Below.trod laidOut (by kernel_rfl) (of_decide_eq_true (by kernel_rfl)) k0 bel lt0) trodAll_mk0), rfl, bel.frame _, fun h => by cases h⟩

theorem over : Rows.md5OfRow.holds Tryd.pinned (OpenSpec.ofChange Rows.md5OfSpec) :=
  OpenClaim.holds_of_wide 3 Tryd.f3 rfl rfl rfl rfl rfl rfl rfl ⟨rfl, rfl, rfl, rfl, rfl⟩ rfl rfl rfl rfl rfl (by kernel_rfl) Tryd.func3 (by kernel_rfl)
    (of_decide_eq_true (by kernel_rfl)) (by unfold Func.isWrapper; first | (rw [if_pos (by decide +kernel)]; kernel_rfl) | (rw [if_neg (by decide +kernel)]; exact ⟨rfl, rfl⟩))
    (fun os started H enc _ => lifted os started H enc)

/-- the statement: the card -/
theorem proved : Rows.Md5OfCardSaid :=
  Claim7.holds_tied_plain_at .later [] [.data, .data, .data] true (true, "19782ae484a4ae97c67a642e65a14608304aec11185172171083b1c757746526") false
    over (fun _ h => by cases h) (by kernel_rfl) (fun _ h => by cases h) md5Of_row_tie rfl ⟨rfl, rfl⟩ (by kernel_rfl) rfl
    (fun f fn hf hfn => by
      obtain rfl : f = 3 := Option.some.inj ((show Tryd.prog.funcNamed "catwalk/catwalklaw04.Md5Of" = some 3 by kernel_rfl).symm.trans hf) |>.symm
      obtain rfl : fn = Tryd.f3 := (Option.some.inj (Tryd.func3.symm.trans hfn)).symm
      exact ⟨by kernel_rfl, fun j t ht => by
        rw [Tryd.params3] at ht
        have hm : t ∈ [22] := by simpa using Array.mem_of_getElem? ht
        have hall : ([22].all fun u => !Tryd.prog.wantsStandIn u) = true := by kernel_rfl
        exact (show Tryd.prog.wantsStandIn t = false by simpa using List.all_eq_true.1 hall t hm)⟩)
    (by kernel_rfl)
end Go.Proofs.YtnfklhebcloolaaDoor.md5Of
