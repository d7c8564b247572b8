/- catwalk's catwalklaw06.AddrNext answers true at every input, and leaves its arguments as they were. No condition. -/
import Derived.Test.YtgegejdkehbeeaaDoorRows
import Derived.WalkKit
import Derived.ProofKit
import Derived.OpenShut
import Derived.ShutString
import Derived.ChangeOld
import Derived.Below
import Derived.Test.YtgegejdkehbeeaaDoorTie
import Derived.Test.YtgegejdkehbeeaaDoorCards
import Derived.LaidMore
import Derived.LaidLaws
import Derived.Stop.Joined
import Derived.SevenTiedAt
import Derived.Test.YtgegejdkehbeeaaDoorAddr
import Derived.Deep.DeepCutAuto
import Derived.Lib.LaidTab
namespace Go.Proofs.YtgegejdkehbeeaaDoor.addrNext
open Go.ChangeShapes Go.WideShapes Go.ChangeAt Go.RowKit
open Go.ChangeMaps (open_string shut_string)
set_option linter.unusedVariables false

theorem own : ownKnob Tryd.prog.godebug = none := by kernel_rfl
theorem laidOut : laidOutB Tryd.prog = true := by kernel_rfl

open Go.Proofs.YtgegejdkehbeeaaDoor.kit Go.Proofs.YtgegejdkehbeeaaDoor.nmc Go.Proofs.YtgegejdkehbeeaaDoor.nmm Go.Proofs.YtgegejdkehbeeaaDoor.adc
theorem laid_of {W : World} (h : laidMetH Tryd.prog Rows.addrNextRow.laid W) : Lib.TabIs Tryd.prog W "internal/strconv.uint64pow10" .u64 Lib.pow10Tab := by
  rw [MakeChecks.laidMetH_plain _ _ _ (by kernel_rfl)] at h
  obtain ⟨ps, ⟨g0, t0, cs0, f0, p0, q0, hg0, ht0, hv0, hd0, ⟨g1, t1, cs1, f1, p1, q1, hg1, ht1, hv1, hd1, ⟨g2, t2, cs2, f2, p2, q2, hg2, ht2, hv2, hd2, _, _⟩, _⟩, _⟩, _, _⟩ := h
  have e2 : Tryd.prog.globalNamed "internal/strconv.uint64pow10" = some 9 := by kernel_rfl
  obtain rfl := Option.some.inj (e2.symm.trans hg2)
  have u2 : (Tryd.prog.globals[9]?).map (·.type) = some 202 := by kernel_rfl
  obtain rfl := Option.some.inj (u2.symm.trans ht2)
  have c2 : cs2 = (Lib.pow10Tab.map fun z => Value.int .u64 z).toArray := by
    have hd : DataW.trod _ Tryd.prog W 0 _ false f2 202 cs2.toList = some (Lib.tabData .u64 Lib.pow10Tab, p2) := hd2
    have := Lib.cells_of_tab Tryd.underlying202 Tryd.underlying34 (by kernel_rfl) (by kernel_rfl) hd
    rw [← this]
  unfold Lib.TabIs; rw [← c2]; exact hv2

set_option maxHeartbeats 1000000 in
set_option maxRecDepth 100000 in
/-- the walk: true, and nothing that was there has turned -/
theorem walk {H : Type} {enc : TypeId × Value → H} {base : Nat} (a0 : Int) (a1 : Int) (w : World) (w0 : (Lit.int .u32 a0).wf = true) (w1 : (Lit.int .i64 a1).wf = true) (hL : laidMetH Tryd.prog Rows.addrNextRow.laid w) :
    Calls Tryd.prog 7 #[.int .u32 a0, .int .i64 a1] w fun e w' => e = .returned (.bool true) ∧ Below w.heap.size w w' := by
  have HL := hid (laid_of hL)
  clear hL
  have hn := wf_i64 w1
  obtain ⟨x, rfl⟩ : ∃ x : Nat, a0 = x := ⟨a0.toNat, by have := wf_u32 w0; omega⟩
  have hx : x ≤ 4294967295 := by have := wf_u32 w0; omega
  clear w0 w1
  have HA := hid (fun (W : World) (h : Below w.heap.size w W) => alive_any W (tab_below HL.out h))
  obtain ⟨q, hq⟩ : ∃ q : Bool, q = decide (by_ x 0 ≠ 0 ∧ by_ x 0 ≠ 127 ∧ by_ x 0 < 224) := ⟨_, rfl⟩
  have H1 := hid (show _ from fun (W : World) => hq ▸ host_any x hx W)
  have H2 := hid (show _ from fun (W : World) => hq ▸ ref_host x hx W)
  clear hq HL
  by_cases hno : a1 < 0 ∨ 4294967295 - (x : Int) < a1
  · have H0 := hid (next_no x a1 hx hno hn w)
    by_cases h0 : a1 < 0
    · clear hno
      go_enter Tryd.func7, Tryd.ntmps7
      go_wp2_with (first | (go_at_call 25; (with_reducible refine H0.out.mono ?_); rintro e wa ⟨rfl, rfl⟩) | (go_at_call 26; (with_reducible refine (H1.out _).mono ?_); rintro e wb ⟨rfl, b1⟩) | (go_at_call 27; (with_reducible refine (H2.out _).mono ?_); rintro e wc ⟨rfl, b2⟩; have b3 := b1.trans (b2.mono b1.size)) | (go_at_call 24; (with_reducible refine (HA.out _ b3).mono ?_); rintro e wd ⟨rfl, b4⟩))
      go_ret
      exact ⟨rfl, b3.trans (b4.mono b3.size)⟩
    · have h1 : 4294967295 - (x : Int) < a1 := by omega
      clear hno
      go_enter Tryd.func7, Tryd.ntmps7
      go_wp2_with (first | (go_at_call 25; (with_reducible refine H0.out.mono ?_); rintro e wa ⟨rfl, rfl⟩) | (go_at_call 26; (with_reducible refine (H1.out _).mono ?_); rintro e wb ⟨rfl, b1⟩) | (go_at_call 27; (with_reducible refine (H2.out _).mono ?_); rintro e wc ⟨rfl, b2⟩; have b3 := b1.trans (b2.mono b1.size)) | (go_at_call 24; (with_reducible refine (HA.out _ b3).mono ?_); rintro e wd ⟨rfl, b4⟩))
      go_ret
      exact ⟨rfl, b3.trans (b4.mono b3.size)⟩
  · obtain ⟨m, rfl⟩ : ∃ m : Nat, a1 = m := ⟨a1.toNat, by omega⟩
    have H0 := hid (next_yes x m hx (by omega) w)
    have h1 : (m : Int) ≤ 4294967295 - (x : Int) := by omega
    clear hno
    go_enter Tryd.func7, Tryd.ntmps7
    go_wp2_with (first | (go_at_call 25; (with_reducible refine H0.out.mono ?_); rintro e wa ⟨rfl, rfl⟩) | (go_at_call 26; (with_reducible refine (H1.out _).mono ?_); rintro e wb ⟨rfl, b1⟩) | (go_at_call 27; (with_reducible refine (H2.out _).mono ?_); rintro e wc ⟨rfl, b2⟩; have b3 := b1.trans (b2.mono b1.size)) | (go_at_call 24; (with_reducible refine (HA.out _ b3).mono ?_); rintro e wd ⟨rfl, b4⟩))
    go_ret
    exact ⟨rfl, b3.trans (b4.mono b3.size)⟩
theorem door_met (os : Os) (args : Array Value) : laidMetH Tryd.prog Rows.addrNextRow.laid ((World.doorLaid Tryd.prog 400 os).forCall (fun _ _ => 0) ⟨#[], args, []⟩).memory :=
  laidMetH_of_parts3 (fuel := 8) (laidMet_of_run' 8 (by kernel_rfl) (by kernel_rfl)) (by kernel_rfl) (by kernel_rfl)
set_option maxRecDepth 100000 in
theorem lifted (os : Os) (started : os.Started) (H : Type) (enc : TypeId × Value → H) :
    ReturnsInHanded {} Tryd.checked os 7 .any (fun w args => (Rows.addrNextSpec.pre enc Tryd.prog Tryd.f7 Rows.addrNextRow.domain false w args ∧ laidMetH Tryd.prog Rows.addrNextRow.laid w) ∧ sizedMet enc Tryd.prog Tryd.f7 (OpenSpec.ofChange Rows.addrNextSpec) false w args) (Rows.addrNextSpec.post enc Tryd.prog Tryd.f7 false true false false) := by
  refine returnsInHanded_of_change_and (C := Tryd.checked) (X := fun w _ => laidMetH Tryd.prog Rows.addrNextRow.laid w) (fun _ _ _ hh h => h.of_heap hh) own started (by kernel_rfl) Tryd.func7
    (ChangeSpec.witness_shaped (enc := enc) (C := Tryd.checked) (os := os) (X := fun w _ => laidMetH Tryd.prog Rows.addrNextRow.laid w) false (World.doorLaid Tryd.prog 400 os) #[.int .u32 0, .int .i64 0] 8 rfl (World.shaped_of_RefB (by kernel_rfl) (by kernel_rfl)) (by kernel_rfl) (by kernel_rfl) (by kernel_rfl) (door_met os _)) ?_
  intro W base args ds gs before hval0 hW hcnd _ hL _
  have hval : ∀ (j : Nat) t v, Tryd.f7.params[j]? = some t → args[j]? = some v → Value.okWide Tryd.prog W .any base t v := hval0
  have hW' := hW
  obtain ⟨p, q, hA0, hV, rfl, hfz, hnd⟩ := hW
  have hA : DataW.TrodAll enc Tryd.prog W 0 (fun _ => true) true Tryd.f7.params.toList args.toList ds p := hA0
  rw [Tryd.params7] at hA hval
  obtain ⟨v0, vs0, d0, ds0, p0, q0, hargs, rfl, rfl, h0, r0⟩ := trodAll_cons hA
  obtain ⟨v1, vs1, d1, ds1, p1, q1, rfl, rfl, rfl, h1, r1⟩ := trodAll_cons r0
  obtain ⟨rfl, rfl, rfl⟩ := trodAll_nil r1
  obtain rfl : args = #[v0, v1] := by cases args; simp_all
  obtain ⟨rfl, rfl⟩ := trodVars_none hV
  obtain ⟨a0, rfl, rfl, rfl, w0⟩ := open_int Tryd.underlying41 (hval 0 41 v0 rfl rfl) h0
  obtain ⟨a1, rfl, rfl, rfl, w1⟩ := open_int Tryd.underlying3 (hval 1 3 v1 rfl rfl) h1
  clear hA0 hval0
  refine (walk (H := H) (enc := enc) (base := base) a0 a1 W w0 w1 hL).mono fun e W' ⟨he, bel⟩ => ?_
  subst he
  exact ⟨_, rfl, _, _, _, [], _, [], hW', trodAll_mk1 (shut_bool Tryd.underlying4 _), (trodAll_cons_mk (shut_int Tryd.underlying41 w0) (trodAll_cons_mk (shut_int Tryd.underlying3 w1) trodAll_mk0)), rfl, bel.frame _, fun h => by cases h⟩

theorem over : Rows.addrNextRow.holds Tryd.pinned (OpenSpec.ofChange Rows.addrNextSpec) :=
  OpenClaim.holds_of_wide 7 Tryd.f7 rfl rfl rfl rfl rfl rfl rfl ⟨rfl, rfl, rfl, rfl, rfl⟩ rfl rfl rfl rfl rfl (by kernel_rfl) Tryd.func7 (by kernel_rfl)
    (of_decide_eq_true (by kernel_rfl)) (by unfold Func.isWrapper; first | (rw [if_pos (by decide +kernel)]; kernel_rfl) | (rw [if_neg (by decide +kernel)]; exact ⟨rfl, rfl⟩))
    (fun os started H enc _ => lifted os started H enc)

/-- the statement: the card -/
theorem proved : Rows.AddrNextCardSaid :=
  Claim7.holds_tied_plain_at .later [] [.data, .data, .data] true (true, "b2f13917736b1c5475b2a20532cbda4694c9de82cf87aa8a1671b206e0867a07") true
    over (fun _ h => by cases h) (by kernel_rfl) (fun _ h => by cases h) addrNext_row_tie rfl ⟨rfl, rfl⟩ (by kernel_rfl) rfl
    (fun f fn hf hfn => by
      obtain rfl : f = 7 := Option.some.inj ((show Tryd.prog.funcNamed "catwalk/catwalklaw06.AddrNext" = some 7 by kernel_rfl).symm.trans hf) |>.symm
      obtain rfl : fn = Tryd.f7 := (Option.some.inj (Tryd.func7.symm.trans hfn)).symm
      exact ⟨by kernel_rfl, fun j t ht => by
        rw [Tryd.params7] at ht
        have hm : t ∈ [41, 3] := by simpa using Array.mem_of_getElem? ht
        have hall : ([41, 3].all fun u => !Tryd.prog.wantsStandIn u) = true := by kernel_rfl
        exact (show Tryd.prog.wantsStandIn t = false by simpa using List.all_eq_true.1 hall t hm)⟩)
    (by kernel_rfl)
end Go.Proofs.YtgegejdkehbeeaaDoor.addrNext
