/- catwalk's catwalklaw26.CidrTells answers true at every input, and leaves its arguments as they were. No condition. -/
import Derived.Test.YtnfklhebcloolabDoorRows
import Derived.WalkKit
import Derived.ProofKit
import Derived.OpenShut
import Derived.ShutString
import Derived.ChangeOld
import Derived.Below
import Derived.Test.YtnfklhebcloolabDoorTie
import Derived.Test.YtnfklhebcloolabDoorCards
import Derived.LaidMore
import Derived.LaidLaws
import Derived.Stop.Joined
import Derived.SevenTiedAt
import Derived.Test.YtnfklhebcloolabDoorCiLaid
import Derived.Test.YtnfklhebcloolabDoorCiEq
import Derived.Test.YtnfklhebcloolabDoorCi4
import Derived.Test.YtnfklhebcloolabDoorOpen
import Derived.Deep.DeepCutAuto
namespace Go.Proofs.YtnfklhebcloolabDoor.cidrTells
open Go.ChangeShapes Go.WideShapes Go.ChangeAt Go.RowKit
open Go.ChangeMaps (open_string shut_string)
set_option linter.unusedVariables false

theorem own : ownKnob Tryd.prog.godebug = none := by kernel_rfl
theorem laidOut : laidOutB Tryd.prog = true := by kernel_rfl

open Go.Proofs.YtnfklhebcloolabDoor.kit Go.Proofs.YtnfklhebcloolabDoor.cim Go.Proofs.YtnfklhebcloolabDoor.cic

set_option maxHeartbeats 2000000 in
set_option maxRecDepth 100000 in
/-- the walk: true, and nothing that was there has turned -/
theorem walk {H : Type} {enc : TypeId × Value → H} {base : Nat} (v0 : Value) (d0 : DataW H) (p0 : List MemPlace) (v1 : Value) (d1 : DataW H) (p1 : List MemPlace) (a2 : Int) (w : World) (w0 : DataW.Trod enc Tryd.prog w 0 (fun _ => true) true 25 v0 d0 p0) (o0 : Value.okWide Tryd.prog w .any base 25 v0) (w1 : DataW.Trod enc Tryd.prog w 0 (fun _ => true) true 25 v1 d1 p1) (o1 : Value.okWide Tryd.prog w .any base 25 v1) (w2 : (Lit.int .u32 a2).wf = true) (hL : laidMetH Tryd.prog Rows.cidrTellsRow.laid w) :
    Calls Tryd.prog 3 #[v0, v1, .int .u32 a2] w fun e w' => e = .returned (.bool true) ∧ Below w.heap.size w w' := by
  have T := laid_tells hL
  clear hL
  obtain ⟨cs0, n0, y0, rfl, hsz0, hy0⟩ := open_struct Tryd.underlying25 o0 w0
  obtain ⟨a0, hf0, ha0⟩ := field_int Tryd.underlying25 hy0 0 _ rfl Tryd.underlying23 (by kernel_rfl)
  obtain ⟨b, hf1, hb⟩ := field_int Tryd.underlying25 hy0 1 _ rfl Tryd.underlying3 (by kernel_rfl)
  obtain rfl := agg2 (hsz0.trans (by kernel_rfl)) hf0 hf1
  obtain ⟨cs1, n1, y1, rfl, hsz1, hy1⟩ := open_struct Tryd.underlying25 o1 w1
  obtain ⟨c0, hg0, hc0⟩ := field_int Tryd.underlying25 hy1 0 _ rfl Tryd.underlying23 (by kernel_rfl)
  obtain ⟨d, hg1, hd⟩ := field_int Tryd.underlying25 hy1 1 _ rfl Tryd.underlying3 (by kernel_rfl)
  obtain rfl := agg2 (hsz1.trans (by kernel_rfl)) hg0 hg1
  obtain ⟨a, rfl⟩ : ∃ a : Nat, a0 = a := ⟨a0.toNat, by have := wf_u32 ha0; omega⟩
  obtain ⟨c, rfl⟩ : ∃ c : Nat, c0 = c := ⟨c0.toNat, by have := wf_u32 hc0; omega⟩
  obtain ⟨x, rfl⟩ : ∃ x : Nat, a2 = x := ⟨a2.toNat, by have := wf_u32 w2; omega⟩
  have hal : a < 4294967296 := by have := wf_u32 ha0; omega
  have hcl : c < 4294967296 := by have := wf_u32 hc0; omega
  have hxl : x < 4294967296 := by have := wf_u32 w2; omega
  clear w0 w1 w2 o0 o1 hf0 hf1 hg0 hg1 hy0 hy1 hsz0 hsz1 ha0 hb hc0 hd
  obtain ⟨W, hW, k0, k1, k2, k3, bW⟩ := boxed2 w a c b d
  have q0 := After.cell k0
  have q1 := After.cell k1
  have q2 := After.cell k2
  have q3 := After.cell k3
  have KR := hid (fun (M : After W) => after_call (right_any a b hal M.w))
  have KR2 := hid (fun (M : After W) => after_call (rright_any a b hal M.w))
  have KH := hid (fun (M : After W) => after_call (has_any a b x hxl M.w))
  have KH2 := hid (fun (M : After W) => after_call (rhas_any a b x hal hxl M.w))
  have KW := hid (fun (M : After W) => after_call (within_any a b c d hal M.w))
  have KW2 := hid (fun (M : After W) => after_call (rwithin_any a b c d hal hcl M.w))
  have KO := hid (fun (M : After W) => after_call (of_any x b hxl M.w))
  have KO2 := hid (fun (M : After W) => after_call (rof_any x b hxl M.w))
  have KC := hid (fun (M : World) => compare_any a b c d M)
  have KA := hid (fun (M : World) (b : Below w.heap.size w M) => alive_any M (T.next b))
  have EQ := hid (fun M => pf_eq a c b d M)
  unfold pf at *
  generalize rightB a b = r at *
  generalize hasB a b x = h at *
  generalize withinB a b c d = v at *
  obtain ⟨z, hz⟩ : ∃ z : Nat, z = cutA x (clamp b) := ⟨_, rfl⟩
  obtain ⟨k, hk⟩ : ∃ k : Nat, k = clamp b := ⟨_, rfl⟩
  rw [← hz, ← hk] at KO KO2
  have E1 : ∀ M : World, (Op.equalIn 10000 25 (.agg #[.int .u32 (z : Nat), .int .i64 (k : Nat)]) (.agg #[.int .u32 (z : Nat), .int .i64 (k : Nat)])).run Tryd.prog M = .ok true M := fun M => (pf_eq _ _ _ _ M).trans (by simp)
  have G1 : Tryd.prog.eqGuardType Tryd.prog.depth 25 = false := by kernel_rfl
  clear hz hk hal hcl hxl T
  go_enter Tryd.func3, Tryd.ntmps3
  go_upto_region 1 with fail
  rw [← hW]
  refine wp_region_after W (by kernel_rfl) (by kernel_rfl) ((Below.refl _ _).drew) ?_
  repeat (go_big_quiet_step (first | with_reducible exact KR.out _ | with_reducible exact KR2.out _ | with_reducible exact KH.out _ | with_reducible exact KH2.out _ | with_reducible exact KW.out _ | with_reducible exact KW2.out _ | with_reducible exact KO.out _ | with_reducible exact KO2.out _))
  refine wpQuiet_nil ?_
  intro w3 hw'
  obtain ⟨N3, e3⟩ := hw'
  have b3 : Below W.heap.size W w3 := by rw [e3]; exact N3.h
  clear e3 N3 q0 q1 q2 q3 KR KR2 KH KH2 KW KW2 KO KO2 E1 hW
  have j0 := keep_cell b3 k0
  have j1 := keep_cell b3 k1
  have j2 := keep_cell b3 k2
  have j3 := keep_cell b3 k3
  have B3 := hid (bW.trans (b3.mono bW.size))
  clear k0 k1 k2 k3 b3 bW
  by_cases h1 : a < c
  · have hv := hid (show cmp2 a b c d = -1 by unfold cmp2; rw [if_pos h1])
    rw [hv.out] at KC
    have f0 : decide (a < c) = true := by simp [h1]
    have E2 : ∀ M : World, (Op.equalIn 10000 25 (.agg #[.int .u32 (a : Nat), .int .i64 b]) (.agg #[.int .u32 (c : Nat), .int .i64 d])).run Tryd.prog M = .ok false M := fun M => (EQ.out M).trans (by rw [show (((a : Int) == (c : Int))) = false from (by simp; omega)]; rfl)
    clear EQ hv h1
    go_wp2_with (first | (go_at_call 15; ((with_reducible refine (KC.out _).mono ?_); rintro e w4 ⟨rfl, b4⟩; have B4 := hid (B3.out.trans (b4.mono B3.out.size)); clear b4)) | (go_at_call 16; ((with_reducible refine (KA.out _ B4.out).mono ?_); rintro e w5 ⟨rfl, b5⟩; have B5 := hid (B4.out.trans (b5.mono B4.out.size)); clear b5)))
    go_ret
    exact ⟨rfl, B5.out⟩
  · by_cases h2 : c < a
    · have hv := hid (show cmp2 a b c d = 1 by unfold cmp2; rw [if_neg h1, if_pos h2])
      rw [hv.out] at KC
      have f0 : decide (a < c) = false := by simp; omega
      have f1 : ((a : Int) == (c : Int)) = false := by simp; omega
      have E2 : ∀ M : World, (Op.equalIn 10000 25 (.agg #[.int .u32 (a : Nat), .int .i64 b]) (.agg #[.int .u32 (c : Nat), .int .i64 d])).run Tryd.prog M = .ok false M := fun M => (EQ.out M).trans (by rw [f1]; rfl)
      clear EQ hv h1 h2
      go_wp2_with (first | (go_at_call 15; ((with_reducible refine (KC.out _).mono ?_); rintro e w4 ⟨rfl, b4⟩; have B4 := hid (B3.out.trans (b4.mono B3.out.size)); clear b4)) | (go_at_call 16; ((with_reducible refine (KA.out _ B4.out).mono ?_); rintro e w5 ⟨rfl, b5⟩; have B5 := hid (B4.out.trans (b5.mono B4.out.size)); clear b5)))
      go_ret
      exact ⟨rfl, B5.out⟩
    · obtain rfl : a = c := by omega
      by_cases h3 : b < d
      · have hv := hid (show cmp2 a b a d = -1 by unfold cmp2 cm; rw [if_neg h1, if_neg h1, if_pos h3])
        rw [hv.out] at KC
        have f0 : decide (b < d) = true := by simp [h3]
        clear EQ hv h1 h2 h3
        go_wp2_with (first | (go_at_call 15; ((with_reducible refine (KC.out _).mono ?_); rintro e w4 ⟨rfl, b4⟩; have B4 := hid (B3.out.trans (b4.mono B3.out.size)); clear b4)) | (go_at_call 16; ((with_reducible refine (KA.out _ B4.out).mono ?_); rintro e w5 ⟨rfl, b5⟩; have B5 := hid (B4.out.trans (b5.mono B4.out.size)); clear b5)))
        go_ret
        exact ⟨rfl, B5.out⟩
      · by_cases h4 : d < b
        · have hv := hid (show cmp2 a b a d = 1 by unfold cmp2 cm; rw [if_neg h1, if_neg h1, if_neg h3, if_pos h4])
          rw [hv.out] at KC
          have f0 : decide (b < d) = false := by simp; omega
          have E2 : ∀ M : World, (Op.equalIn 10000 25 (.agg #[.int .u32 (a : Nat), .int .i64 b]) (.agg #[.int .u32 (a : Nat), .int .i64 d])).run Tryd.prog M = .ok false M := fun M => (EQ.out M).trans (by rw [show ((b == d)) = false from (by simp; omega)]; simp)
          clear EQ hv h1 h2 h3 h4
          go_wp2_with (first | (go_at_call 15; ((with_reducible refine (KC.out _).mono ?_); rintro e w4 ⟨rfl, b4⟩; have B4 := hid (B3.out.trans (b4.mono B3.out.size)); clear b4)) | (go_at_call 16; ((with_reducible refine (KA.out _ B4.out).mono ?_); rintro e w5 ⟨rfl, b5⟩; have B5 := hid (B4.out.trans (b5.mono B4.out.size)); clear b5)))
          go_ret
          exact ⟨rfl, B5.out⟩
        · obtain rfl : b = d := by omega
          have hv := hid (show cmp2 a b a b = 0 by unfold cmp2 cm; rw [if_neg h1, if_neg h1, if_neg h3, if_neg h4])
          rw [hv.out] at KC
          have f0 : decide (b < b) = false := by simp
          have E2 : ∀ M : World, (Op.equalIn 10000 25 (.agg #[.int .u32 (a : Nat), .int .i64 b]) (.agg #[.int .u32 (a : Nat), .int .i64 b])).run Tryd.prog M = .ok true M := fun M => (EQ.out M).trans (by simp)
          clear EQ hv h1 h2 h3 h4
          go_wp2_with (first | (go_at_call 15; ((with_reducible refine (KC.out _).mono ?_); rintro e w4 ⟨rfl, b4⟩; have B4 := hid (B3.out.trans (b4.mono B3.out.size)); clear b4)) | (go_at_call 16; ((with_reducible refine (KA.out _ B4.out).mono ?_); rintro e w5 ⟨rfl, b5⟩; have B5 := hid (B4.out.trans (b5.mono B4.out.size)); clear b5)))
          go_ret
          exact ⟨rfl, B5.out⟩
theorem door_met (os : Os) (args : Array Value) : laidMetH Tryd.prog Rows.cidrTellsRow.laid ((World.doorLaid Tryd.prog 400 os).forCall (fun _ _ => 0) ⟨#[], args, []⟩).memory :=
  laidMetH_of_parts3 (fuel := 8) (laidMet_of_run' 8 (by kernel_rfl) (by kernel_rfl)) (by kernel_rfl) (by kernel_rfl)
set_option maxRecDepth 100000 in
theorem lifted (os : Os) (started : os.Started) (H : Type) (enc : TypeId × Value → H) :
    ReturnsInHanded {} Tryd.checked os 3 .any (fun w args => (Rows.cidrTellsSpec.pre enc Tryd.prog Tryd.f3 Rows.cidrTellsRow.domain false w args ∧ laidMetH Tryd.prog Rows.cidrTellsRow.laid w) ∧ sizedMet enc Tryd.prog Tryd.f3 (OpenSpec.ofChange Rows.cidrTellsSpec) false w args) (Rows.cidrTellsSpec.post enc Tryd.prog Tryd.f3 false true false false) := by
  refine returnsInHanded_of_change_and (C := Tryd.checked) (X := fun w _ => laidMetH Tryd.prog Rows.cidrTellsRow.laid w) (fun _ _ _ hh h => h.of_heap hh) own started (by kernel_rfl) Tryd.func3
    (ChangeSpec.witness_shaped (enc := enc) (C := Tryd.checked) (os := os) (X := fun w _ => laidMetH Tryd.prog Rows.cidrTellsRow.laid w) false (World.doorLaid Tryd.prog 400 os) #[.agg #[.int .u32 0, .int .i64 0], .agg #[.int .u32 0, .int .i64 0], .int .u32 0] 8 rfl (World.shaped_of_RefB (by kernel_rfl) (by kernel_rfl)) (by kernel_rfl) (by kernel_rfl) (by kernel_rfl) (door_met os _)) ?_
  intro W base args ds gs before hval0 hW hcnd _ hL _
  have hval : ∀ (j : Nat) t v, Tryd.f3.params[j]? = some t → args[j]? = some v → Value.okWide Tryd.prog W .any base t v := hval0
  have hW' := hW
  obtain ⟨p, q, hA0, hV, rfl, hfz, hnd⟩ := hW
  have hA : DataW.TrodAll enc Tryd.prog W 0 (fun _ => true) true Tryd.f3.params.toList args.toList ds p := hA0
  rw [Tryd.params3] at hA hval
  obtain ⟨v0, vs0, d0, ds0, p0, q0, hargs, rfl, rfl, h0, r0⟩ := trodAll_cons hA
  obtain ⟨v1, vs1, d1, ds1, p1, q1, rfl, rfl, rfl, h1, r1⟩ := trodAll_cons r0
  obtain ⟨v2, vs2, d2, ds2, p2, q2, rfl, rfl, rfl, h2, r2⟩ := trodAll_cons r1
  obtain ⟨rfl, rfl, rfl⟩ := trodAll_nil r2
  obtain rfl : args = #[v0, v1, v2] := by cases args; simp_all
  obtain ⟨rfl, rfl⟩ := trodVars_none hV
  have k0 := h0
  have o0 := hval 0 25 v0 rfl rfl
  have lt0 : ∀ x ∈ p0, x.block < W.heap.size := by obtain ⟨m, hm⟩ := k0; exact DataW.trod_lt m _ _ _ hm
  have k1 := h1
  have o1 := hval 1 25 v1 rfl rfl
  have lt1 : ∀ x ∈ p1, x.block < W.heap.size := by obtain ⟨m, hm⟩ := k1; exact DataW.trod_lt m _ _ _ hm
  obtain ⟨a2, rfl, rfl, rfl, w2⟩ := open_int Tryd.underlying23 (hval 2 23 v2 rfl rfl) h2
  clear hA0 hval0
  refine (walk (H := H) (enc := enc) (base := base) v0 d0 p0 v1 d1 p1 a2 W k0 o0 k1 o1 w2 hL).mono fun e W' ⟨he, bel⟩ => ?_
  subst he
  exact ⟨_, rfl, _, _, _, [], _, [], hW', trodAll_mk1 (shut_bool Tryd.underlying4 _), (trodAll_cons_mk (Below.trod laidOut (by kernel_rfl) (of_decide_eq_true (by kernel_rfl)) k0 bel lt0) (trodAll_cons_mk (Below.trod laidOut (by kernel_rfl) (of_decide_eq_true (by kernel_rfl)) k1 bel lt1) (trodAll_cons_mk (shut_int Tryd.underlying23 w2) trodAll_mk0))), rfl, bel.frame _, fun h => by cases h⟩

theorem over : Rows.cidrTellsRow.holds Tryd.pinned (OpenSpec.ofChange Rows.cidrTellsSpec) :=
  OpenClaim.holds_of_wide 3 Tryd.f3 rfl rfl rfl rfl rfl rfl rfl ⟨rfl, rfl, rfl, rfl, rfl⟩ rfl rfl rfl rfl rfl (by kernel_rfl) Tryd.func3 (by kernel_rfl)
    (of_decide_eq_true (by kernel_rfl)) (by unfold Func.isWrapper; first | (rw [if_pos (by decide +kernel)]; kernel_rfl) | (rw [if_neg (by decide +kernel)]; exact ⟨rfl, rfl⟩))
    (fun os started H enc _ => lifted os started H enc)

/-- the statement: the card -/
theorem proved : Rows.CidrTellsCardSaid :=
  Claim7.holds_tied_plain_at .later [] [.data] true (true, "6d30361f737eb43abe25c6c8673d81e6ee3ec0102be10d81385826ec67d476ec") true
    over (fun _ h => by cases h) (by kernel_rfl) (fun _ h => by cases h) cidrTells_row_tie rfl ⟨rfl, rfl⟩ (by kernel_rfl) rfl
    (fun f fn hf hfn => by
      obtain rfl : f = 3 := Option.some.inj ((show Tryd.prog.funcNamed "catwalk/catwalklaw26.CidrTells" = some 3 by kernel_rfl).symm.trans hf) |>.symm
      obtain rfl : fn = Tryd.f3 := (Option.some.inj (Tryd.func3.symm.trans hfn)).symm
      exact ⟨by kernel_rfl, fun j t ht => by
        rw [Tryd.params3] at ht
        have hm : t ∈ [25, 23] := by simpa using Array.mem_of_getElem? ht
        have hall : ([25, 23].all fun u => !Tryd.prog.wantsStandIn u) = true := by kernel_rfl
        exact (show Tryd.prog.wantsStandIn t = false by simpa using List.all_eq_true.1 hall t hm)⟩)
    (by kernel_rfl)
end Go.Proofs.YtnfklhebcloolabDoor.cidrTells
