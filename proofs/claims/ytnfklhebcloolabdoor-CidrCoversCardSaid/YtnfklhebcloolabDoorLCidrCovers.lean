/- catwalk's catwalklaw26.CidrCovers answers true at every input, and leaves its arguments as they were. No condition. -/
import Derived.Test.YtnfklhebcloolabDoorRows
import Derived.WalkKit
import Derived.ProofKit
import Derived.OpenShut
import Derived.ShutString
import Derived.ChangeOld
import Derived.Below
import Derived.Test.YtnfklhebcloolabDoorTie
import Derived.Test.YtnfklhebcloolabDoorCards
import Derived.LaidMore
import Derived.LaidLaws
import Derived.Stop.Joined
import Derived.SevenTiedAt
import Derived.Test.YtnfklhebcloolabDoorCiLaid
import Derived.Test.YtnfklhebcloolabDoorCiEq
import Derived.Test.YtnfklhebcloolabDoorCiRCov
import Derived.Deep.DeepCutAuto
namespace Go.Proofs.YtnfklhebcloolabDoor.cidrCovers
open Go.ChangeShapes Go.WideShapes Go.ChangeAt Go.RowKit
open Go.ChangeMaps (open_string shut_string)
set_option linter.unusedVariables false

theorem own : ownKnob Tryd.prog.godebug = none := by kernel_rfl
theorem laidOut : laidOutB Tryd.prog = true := by kernel_rfl

open Go.Proofs.YtnfklhebcloolabDoor.kit Go.Proofs.YtnfklhebcloolabDoor.cim Go.Proofs.YtnfklhebcloolabDoor.cic
theorem cov_len {a e : Nat} {L : List (Nat × Nat)} (h : CovIs a e L) (he : e ≤ 4294967296) : L.length ≤ 1099511627776 := by
  obtain ⟨k, h1, rfl⟩ := h
  by_cases hae : a ≤ e
  · have := st_le hae k; omega
  · have := st_off (a := a) (e := e) (k := 0) (by show e ≤ a; omega) k
    rw [Nat.zero_add] at this
    rw [this]
    show ([] : List (Nat × Nat)).length ≤ _
    simp

set_option maxHeartbeats 1000000 in
set_option maxRecDepth 100000 in
/-- the walk: true, and nothing that was there has turned -/
theorem walk {H : Type} {enc : TypeId × Value → H} {base : Nat} (a0 : Int) (a1 : Int) (w : World) (w0 : (Lit.int .u32 a0).wf = true) (w1 : (Lit.int .u32 a1).wf = true) (hL : laidMetH Tryd.prog Rows.cidrCoversRow.laid w) :
    Calls Tryd.prog 4 #[.int .u32 a0, .int .u32 a1] w fun e w' => e = .returned (.bool true) ∧ Below w.heap.size w w' := by
  have T := laid_covers hL
  clear hL
  obtain ⟨a, rfl⟩ : ∃ a : Nat, a0 = a := ⟨a0.toNat, by have := wf_u32 w0; omega⟩
  obtain ⟨t, rfl⟩ : ∃ t : Nat, a1 = t := ⟨a1.toNat, by have := wf_u32 w1; omega⟩
  have ha : a < 4294967296 := by have := wf_u32 w0; omega
  have ht : t < 4294967296 := by have := wf_u32 w1; omega
  have K1 := hid (cover_any a t ha ht w T)
  have K2 := hid (fun w => rcover_any a t ha ht w)
  have K4 := hid (fun (W : World) (b : Below w.heap.size w W) => alive_any W (T.next b))
  unfold CovP at K1 K2
  clear w0 w1 T
  go_enter Tryd.func4, Tryd.ntmps4
  go_wp2_with (first | (go_at_call 18; ((with_reducible refine K1.out.mono ?_); rintro e wa ⟨v, L, rfl, Oa, Ca, ba⟩; obtain ⟨a3, c3, rfl⟩ := Oa.slice; have Oa := hid Oa; have Ca := hid Ca; have B1 := hid ba; clear ba)) | (go_at_call 19; ((with_reducible refine (K2.out wa).mono ?_); rintro e wb ⟨v2, L2, rfl, Ob, Cb, bb⟩; have hLL := Cb.eq Ca.out; subst hLL; obtain ⟨a4, c4, rfl⟩ := Ob.slice; have Pa := hid ((Oa.out.below bb).pfs); have Pb := hid Ob.pfs; have B2 := hid (B1.out.trans (bb.mono B1.out.size)); clear bb)) | (go_at_call 17; ((with_reducible refine (equal_same wb Pa.out.1 Pb.out.1 (cov_len Ca.out (by omega))).mono ?_); rintro e wc ⟨rfl, bc⟩; have B3 := hid (B2.out.trans (bc.mono B2.out.size)); clear bc)) | (go_at_call 16; ((with_reducible refine (K4.out _ B3.out).mono ?_); rintro e wd ⟨rfl, bd⟩; have B4 := hid (B3.out.trans (bd.mono B3.out.size)); clear bd)))
  go_ret
  exact ⟨rfl, B4.out⟩
theorem door_met (os : Os) (args : Array Value) : laidMetH Tryd.prog Rows.cidrCoversRow.laid ((World.doorLaid Tryd.prog 400 os).forCall (fun _ _ => 0) ⟨#[], args, []⟩).memory :=
  laidMetH_of_parts3 (fuel := 8) (laidMet_of_run' 8 (by kernel_rfl) (by kernel_rfl)) (by kernel_rfl) (by kernel_rfl)
set_option maxRecDepth 100000 in
theorem lifted (os : Os) (started : os.Started) (H : Type) (enc : TypeId × Value → H) :
    ReturnsInHanded {} Tryd.checked os 4 .any (fun w args => (Rows.cidrCoversSpec.pre enc Tryd.prog Tryd.f4 Rows.cidrCoversRow.domain false w args ∧ laidMetH Tryd.prog Rows.cidrCoversRow.laid w) ∧ sizedMet enc Tryd.prog Tryd.f4 (OpenSpec.ofChange Rows.cidrCoversSpec) false w args) (Rows.cidrCoversSpec.post enc Tryd.prog Tryd.f4 false true false false) := by
  refine returnsInHanded_of_change_and (C := Tryd.checked) (X := fun w _ => laidMetH Tryd.prog Rows.cidrCoversRow.laid w) (fun _ _ _ hh h => h.of_heap hh) own started (by kernel_rfl) Tryd.func4
    (ChangeSpec.witness_shaped (enc := enc) (C := Tryd.checked) (os := os) (X := fun w _ => laidMetH Tryd.prog Rows.cidrCoversRow.laid w) false (World.doorLaid Tryd.prog 400 os) #[.int .u32 0, .int .u32 0] 8 rfl (World.shaped_of_RefB (by kernel_rfl) (by kernel_rfl)) (by kernel_rfl) (by kernel_rfl) (by kernel_rfl) (door_met os _)) ?_
  intro W base args ds gs before hval0 hW hcnd _ hL _
  have hval : ∀ (j : Nat) t v, Tryd.f4.params[j]? = some t → args[j]? = some v → Value.okWide Tryd.prog W .any base t v := hval0
  have hW' := hW
  obtain ⟨p, q, hA0, hV, rfl, hfz, hnd⟩ := hW
  have hA : DataW.TrodAll enc Tryd.prog W 0 (fun _ => true) true Tryd.f4.params.toList args.toList ds p := hA0
  rw [Tryd.params4] at hA hval
  obtain ⟨v0, vs0, d0, ds0, p0, q0, hargs, rfl, rfl, h0, r0⟩ := trodAll_cons hA
  obtain ⟨v1, vs1, d1, ds1, p1, q1, rfl, rfl, rfl, h1, r1⟩ := trodAll_cons r0
  obtain ⟨rfl, rfl, rfl⟩ := trodAll_nil r1
  obtain rfl : args = #[v0, v1] := by cases args; simp_all
  obtain ⟨rfl, rfl⟩ := trodVars_none hV
  obtain ⟨a0, rfl, rfl, rfl, w0⟩ := open_int Tryd.underlying23 (hval 0 23 v0 rfl rfl) h0
  obtain ⟨a1, rfl, rfl, rfl, w1⟩ := open_int Tryd.underlying23 (hval 1 23 v1 rfl rfl) h1
  clear hA0 hval0
  refine (walk (H := H) (enc := enc) (base := base) a0 a1 W w0 w1 hL).mono fun e W' ⟨he, bel⟩ => ?_
  subst he
  exact ⟨_, rfl, _, _, _, [], _, [], hW', trodAll_mk1 (shut_bool Tryd.underlying4 _), (trodAll_cons_mk (shut_int Tryd.underlying23 w0) (trodAll_cons_mk (shut_int Tryd.underlying23 w1) trodAll_mk0)), rfl, bel.frame _, fun h => by cases h⟩

theorem over : Rows.cidrCoversRow.holds Tryd.pinned (OpenSpec.ofChange Rows.cidrCoversSpec) :=
  OpenClaim.holds_of_wide 4 Tryd.f4 rfl rfl rfl rfl rfl rfl rfl ⟨rfl, rfl, rfl, rfl, rfl⟩ rfl rfl rfl rfl rfl (by kernel_rfl) Tryd.func4 (by kernel_rfl)
    (of_decide_eq_true (by kernel_rfl)) (by unfold Func.isWrapper; first | (rw [if_pos (by decide +kernel)]; kernel_rfl) | (rw [if_neg (by decide +kernel)]; exact ⟨rfl, rfl⟩))
    (fun os started H enc _ => lifted os started H enc)

/-- the statement: the card -/
theorem proved : Rows.CidrCoversCardSaid :=
  Claim7.holds_tied_plain_at .later [] [.data] true (true, "6d30361f737eb43abe25c6c8673d81e6ee3ec0102be10d81385826ec67d476ec") true
    over (fun _ h => by cases h) (by kernel_rfl) (fun _ h => by cases h) cidrCovers_row_tie rfl ⟨rfl, rfl⟩ (by kernel_rfl) rfl
    (fun f fn hf hfn => by
      obtain rfl : f = 4 := Option.some.inj ((show Tryd.prog.funcNamed "catwalk/catwalklaw26.CidrCovers" = some 4 by kernel_rfl).symm.trans hf) |>.symm
      obtain rfl : fn = Tryd.f4 := (Option.some.inj (Tryd.func4.symm.trans hfn)).symm
      exact ⟨by kernel_rfl, fun j t ht => by
        rw [Tryd.params4] at ht
        have hm : t ∈ [23] := by simpa using Array.mem_of_getElem? ht
        have hall : ([23].all fun u => !Tryd.prog.wantsStandIn u) = true := by kernel_rfl
        exact (show Tryd.prog.wantsStandIn t = false by simpa using List.all_eq_true.1 hall t hm)⟩)
    (by kernel_rfl)
end Go.Proofs.YtnfklhebcloolabDoor.cidrCovers
