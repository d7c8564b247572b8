/- catwalk's catwalklaw03.HexNums answers true at every input, and leaves its arguments as they were. No condition. -/
import Derived.Test.YtjcmceomhocmpaaDoorRows
import Derived.WalkKit
import Derived.ProofKit
import Derived.OpenShut
import Derived.ShutString
import Derived.ChangeOld
import Derived.Below
import Derived.Test.YtjcmceomhocmpaaDoorTie
import Derived.Test.YtjcmceomhocmpaaDoorCards
import Derived.LaidMore
import Derived.LaidLaws
import Derived.Stop.Joined
import Derived.SevenTiedAt
import Derived.Test.YtjcmceomhocmpaaDoorNumAlive
import Derived.Deep.DeepCutAuto
import Derived.Lib.LaidTab
namespace Go.Proofs.YtjcmceomhocmpaaDoor.hexNums
open Go.ChangeShapes Go.WideShapes Go.ChangeAt Go.RowKit
open Go.ChangeMaps (open_string shut_string)
set_option linter.unusedVariables false

theorem own : ownKnob Tryd.prog.godebug = none := by kernel_rfl
theorem laidOut : laidOutB Tryd.prog = true := by kernel_rfl

open Go.Proofs.YtjcmceomhocmpaaDoor.kit Go.Proofs.YtjcmceomhocmpaaDoor.nmc Go.Proofs.YtjcmceomhocmpaaDoor.nmm
open Go.Lib (decDigits)
theorem laid_of {W : World} (h : laidMetH Tryd.prog Rows.hexNumsRow.laid W) : LaidF W := by
  rw [MakeChecks.laidMetH_plain _ _ _ (by kernel_rfl)] at h
  obtain ⟨ps, ⟨g0, t0, cs0, f0, p0, q0, hg0, ht0, hv0, hd0, ⟨g1, t1, cs1, f1, p1, q1, hg1, ht1, hv1, hd1, ⟨g2, t2, cs2, f2, p2, q2, hg2, ht2, hv2, hd2, ⟨g3, t3, cs3, f3, p3, q3, hg3, ht3, hv3, hd3, ⟨g4, t4, cs4, f4, p4, q4, hg4, ht4, hv4, hd4, _, _⟩, _⟩, _⟩, _⟩, _⟩, _, _⟩ := h
  have e2 : Tryd.prog.globalNamed "internal/strconv.uint64pow10" = some 3 := by kernel_rfl
  have e3 : Tryd.prog.globalNamed "strconv.ErrRange" = some 1 := by kernel_rfl
  have e4 : Tryd.prog.globalNamed "strconv.ErrSyntax" = some 0 := by kernel_rfl
  obtain rfl := Option.some.inj (e2.symm.trans hg2)
  obtain rfl := Option.some.inj (e3.symm.trans hg3)
  obtain rfl := Option.some.inj (e4.symm.trans hg4)
  have u2 : (Tryd.prog.globals[3]?).map (·.type) = some 108 := by kernel_rfl
  have u3 : (Tryd.prog.globals[1]?).map (·.type) = some 52 := by kernel_rfl
  have u4 : (Tryd.prog.globals[0]?).map (·.type) = some 52 := by kernel_rfl
  obtain rfl := Option.some.inj (u2.symm.trans ht2)
  obtain rfl := Option.some.inj (u3.symm.trans ht3)
  obtain rfl := Option.some.inj (u4.symm.trans ht4)
  have c2 : cs2 = (Lib.pow10Tab.map fun z => Value.int .u64 z).toArray := by
    have hd : DataW.trod _ Tryd.prog W 0 _ false f2 108 cs2.toList = some (Lib.tabData .u64 Lib.pow10Tab, p2) := hd2
    have := Lib.cells_of_tab Tryd.underlying108 Tryd.underlying63 (by kernel_rfl) (by kernel_rfl) hd
    rw [← this]
  obtain ⟨_, tp3, v3, c3, _, _⟩ := iface_of_trod Tryd.underlying52 hd3
  obtain ⟨_, tp4, v4, c4, _, _⟩ := iface_of_trod Tryd.underlying52 hd4
  refine ⟨?_, ⟨tp4, v4, ?_⟩, ⟨tp3, v3, ?_⟩⟩
  · unfold Lib.TabIs; rw [← c2]; exact hv2
  · have : cs4 = #[.iface tp4 v4] := by cases cs4; simp at c4; rw [c4]
    rw [← this]; exact hv4
  · have : cs3 = #[.iface tp3 v3] := by cases cs3; simp at c3; rw [c3]
    rw [← this]; exact hv3
theorem is_uniq {l : List UInt8} {n m : Nat} (h : IsNum l n) (k : IsNum l m) : n = m := dec_inj (h.2.symm.trans k.2)
theorem pick_yes {f : Nat} {s : ByteArray} {l : List UInt8} {ok no : Value} {W : World} {n : Nat} (hc : Calls Tryd.prog f #[.string s] W (NumPost l ok no W)) (hn : IsNum l n) : Calls Tryd.prog f #[.string s] W fun e W' => e = .returned (.tuple #[.int .i64 n, ok]) ∧ Below W.heap.size W W' :=
  hc.mono fun e W' ⟨hb, hh⟩ => by
    rcases hh with ⟨m, hm, he⟩ | ⟨hx, _⟩
    · rw [← is_uniq hm hn]; exact ⟨he, hb⟩
    · exact absurd ⟨n, hn⟩ hx
theorem pick_no {f : Nat} {s : ByteArray} {l : List UInt8} {ok no : Value} {W : World} (hc : Calls Tryd.prog f #[.string s] W (NumPost l ok no W)) (hn : ¬ ∃ n, IsNum l n) : Calls Tryd.prog f #[.string s] W fun e W' => e = .returned (.tuple #[.int .i64 0, no]) ∧ Below W.heap.size W W' :=
  hc.mono fun e W' ⟨hb, hh⟩ => by
    rcases hh with ⟨m, hm, he⟩ | ⟨_, he⟩
    · exact absurd ⟨m, hm⟩ hn
    · exact ⟨he, hb⟩
theorem rnum_any (n : Int) (h1 : n ≤ 9223372036854775807) (w : World) : Calls Tryd.prog 16 #[.int .i64 n] w fun e w' => e = .returned (.string (decS n.toNat)) ∧ Below w.heap.size w w' := by
  by_cases h : n < 0
  · rw [show n.toNat = 0 by omega]; exact ref_num_neg n h w
  · obtain ⟨u, rfl⟩ : ∃ u : Nat, n = u := ⟨n.toNat, by omega⟩
    exact ref_num u w (by omega)

set_option maxHeartbeats 1000000 in
set_option maxRecDepth 100000 in
/-- the walk: true, and nothing that was there has turned -/
theorem walk {H : Type} {enc : TypeId × Value → H} {base : Nat} (a0 : Int) (a1 : ByteArray) (w : World) (w0 : (Lit.int .i64 a0).wf = true) (w1 : a1.size ≤ maxLen) (hL : laidMetH Tryd.prog Rows.hexNumsRow.laid w) :
    Calls Tryd.prog 4 #[.int .i64 a0, .string a1] w fun e w' => e = .returned (.bool true) ∧ Below w.heap.size w w' := by
  have HL := hid (laid_of hL)
  clear hL
  have hn := wf_i64 w0
  unfold maxLen at w1
  by_cases hbig : 100 < a1.size
  · have hbi : 100 < (a1.size : Int) := by omega
    go_enter Tryd.func4, Tryd.ntmps4
    go_wp2
    go_ret
    exact ⟨rfl, Below.refl _ _⟩
  · have hbi : ¬ 100 < (a1.size : Int) := by omega
    obtain ⟨v, hv⟩ : ∃ v : Nat, v = a0.toNat := ⟨_, rfl⟩
    have hs : a1.size ≤ 1000 := by omega
    have hsv : (decS v).size ≤ 1000 := Nat.le_trans (decS_size _ (by omega)) (by omega)
    have HNum : Hid (∀ W, LaidF W → Calls Tryd.prog 15 #[.int .i64 a0] W fun e W' => e = .returned (.string (decS v)) ∧ Below W.heap.size W W') := fun W h => by
      rw [hv]; exact num_any a0 hn.1 hn.2 W h
    have HRef : Hid (∀ W, Calls Tryd.prog 16 #[.int .i64 a0] W fun e W' => e = .returned (.string (decS v)) ∧ Below W.heap.size W W') := fun W => by
      rw [hv]; exact rnum_any a0 hn.2 W
    have hT := str_eq_true (rfl : decS v = decS v)
    have hR1 : (∃ n : Nat, (∀ W, LaidF W → Calls Tryd.prog 13 #[.string a1] W fun e W' => e = .returned (.tuple #[.int .i64 n, .int .i64 0]) ∧ Below W.heap.size W W') ∧
          ∀ W, Calls Tryd.prog 14 #[.string a1] W fun e W' => e = .returned (.tuple #[.int .i64 n, .bool true]) ∧ Below W.heap.size W W') ∨
        ((∀ W, LaidF W → Calls Tryd.prog 13 #[.string a1] W fun e W' => e = .returned (.tuple #[.int .i64 0, .int .i64 11]) ∧ Below W.heap.size W W') ∧
          ∀ W, Calls Tryd.prog 14 #[.string a1] W fun e W' => e = .returned (.tuple #[.int .i64 0, .bool false]) ∧ Below W.heap.size W W') := by
      by_cases hg : ∃ n, IsNum a1.data.toList n
      · obtain ⟨n, hg⟩ := hg
        exact .inl ⟨n, fun W h => pick_yes (read_num a1 hs W h) hg, fun W => pick_yes (ref_readnum a1 hs W) hg⟩
      · exact .inr ⟨fun W h => pick_no (read_num a1 hs W h) hg, fun W => pick_no (ref_readnum a1 hs W) hg⟩
    have hR3 : (a0 < 0 ∧ ∀ W, LaidF W → Calls Tryd.prog 13 #[.string (decS v)] W fun e W' => e = .returned (.tuple #[.int .i64 (0 : Nat), .int .i64 0]) ∧ Below W.heap.size W W') ∨
        (¬ a0 < 0 ∧ a0 ≤ 1099511627776 ∧ ∀ W, LaidF W → Calls Tryd.prog 13 #[.string (decS v)] W fun e W' => e = .returned (.tuple #[.int .i64 (v : Nat), .int .i64 0]) ∧ Below W.heap.size W W') ∨
        (1099511627776 < a0 ∧ ∀ W, LaidF W → Calls Tryd.prog 13 #[.string (decS v)] W fun e W' => e = .returned (.tuple #[.int .i64 0, .int .i64 11]) ∧ Below W.heap.size W W') := by
      by_cases h0 : a0 < 0
      · exact .inl ⟨h0, fun W h => pick_yes (read_num _ hsv W h) ⟨by omega, by rw [hv, show a0.toNat = 0 by omega]; rfl⟩⟩
      · by_cases h1 : a0 ≤ 1099511627776
        · exact .inr (.inl ⟨h0, h1, fun W h => pick_yes (read_num _ hsv W h) ⟨by omega, rfl⟩⟩)
        · refine .inr (.inr ⟨by omega, fun W h => pick_no (read_num _ hsv W h) ?_⟩)
          rintro ⟨n, h2, h3⟩
          have h4 : decDigits v = decDigits n := h3
          have := dec_inj h4
          omega
    have hv2 : (a0 < 0) ∨ ((v : Int) != a0) = false := by
      by_cases h0 : a0 < 0
      · exact .inl h0
      · right; simp; omega
    have HV2 := hid hv2
    clear hv hs hsv hn w0 hv2
    rcases hR1 with ⟨n, hA, hB⟩ | ⟨hA, hB⟩
    all_goals
      have HA := hid hA
      have HB := hid hB
      clear hA hB
    all_goals rcases hR3 with ⟨h0, hC⟩ | ⟨h0, h1, hC⟩ | ⟨h0, hC⟩
    all_goals have HC := hid hC
    all_goals clear hC
    all_goals try (have hv3 := HV2.out.resolve_left h0)
    all_goals try (have hz0 : 0 ≤ a0 := by omega)
    all_goals
      go_enter Tryd.func4, Tryd.ntmps4
      go_wp2_with (first | (go_at_call 13; ((with_reducible refine (HA.out _ HL.out).mono ?_); rintro e wa ⟨rfl, b1⟩)) | (go_at_call 14; ((with_reducible refine (HB.out _).mono ?_); rintro e wb ⟨rfl, b2'⟩; have b2 := keep_below b2' b1; clear b2')) | (go_at_call 15; ((with_reducible refine (HNum.out _ (HL.out.next b2)).mono ?_); rintro e wc ⟨rfl, b3'⟩; have b3 := keep_below b3' b2; clear b3')) | (go_at_call 13; ((with_reducible refine (HC.out _ (HL.out.next b3)).mono ?_); rintro e wd ⟨rfl, b4'⟩; have b4 := keep_below b4' b3; clear b4')) | (go_at_call 15; ((with_reducible refine (HNum.out _ (HL.out.next b4)).mono ?_); rintro e we ⟨rfl, b5'⟩; have b5 := keep_below b5' b4; clear b5')) | (go_at_call 16; ((with_reducible refine (HRef.out _).mono ?_); rintro e wf ⟨rfl, b6'⟩; have b6 := keep_below b6' b5; clear b6')) | (go_at_call 17; ((with_reducible refine (alive_any _).mono ?_); rintro e wg ⟨rfl, b7'⟩; have b7 := keep_below b7' b6; clear b7')))
      go_ret
      exact ⟨rfl, b7⟩
theorem door_met (os : Os) (args : Array Value) : laidMetH Tryd.prog Rows.hexNumsRow.laid ((World.doorLaid Tryd.prog 400 os).forCall (fun _ _ => 0) ⟨#[], args, []⟩).memory :=
  laidMetH_of_parts3 (fuel := 8) (laidMet_of_run' 8 (by kernel_rfl) (by kernel_rfl)) (by kernel_rfl) (by kernel_rfl)
set_option maxRecDepth 100000 in
theorem lifted (os : Os) (started : os.Started) (H : Type) (enc : TypeId × Value → H) :
    ReturnsInHanded {} Tryd.checked os 4 .any (fun w args => (Rows.hexNumsSpec.pre enc Tryd.prog Tryd.f4 Rows.hexNumsRow.domain false w args ∧ laidMetH Tryd.prog Rows.hexNumsRow.laid w) ∧ sizedMet enc Tryd.prog Tryd.f4 (OpenSpec.ofChange Rows.hexNumsSpec) false w args) (Rows.hexNumsSpec.post enc Tryd.prog Tryd.f4 false true false false) := by
  refine returnsInHanded_of_change_and (C := Tryd.checked) (X := fun w _ => laidMetH Tryd.prog Rows.hexNumsRow.laid w) (fun _ _ _ hh h => h.of_heap hh) own started (by kernel_rfl) Tryd.func4
    (ChangeSpec.witness_shaped (enc := enc) (C := Tryd.checked) (os := os) (X := fun w _ => laidMetH Tryd.prog Rows.hexNumsRow.laid w) false (World.doorLaid Tryd.prog 400 os) #[.int .i64 0, .string ByteArray.empty] 8 rfl (World.shaped_of_RefB (by kernel_rfl) (by kernel_rfl)) (by kernel_rfl) (by kernel_rfl) (by kernel_rfl) (door_met os _)) ?_
  intro W base args ds gs before hval0 hW hcnd _ hL _
  have hval : ∀ (j : Nat) t v, Tryd.f4.params[j]? = some t → args[j]? = some v → Value.okWide Tryd.prog W .any base t v := hval0
  have hW' := hW
  obtain ⟨p, q, hA0, hV, rfl, hfz, hnd⟩ := hW
  have hA : DataW.TrodAll enc Tryd.prog W 0 (fun _ => true) true Tryd.f4.params.toList args.toList ds p := hA0
  rw [Tryd.params4] at hA hval
  obtain ⟨v0, vs0, d0, ds0, p0, q0, hargs, rfl, rfl, h0, r0⟩ := trodAll_cons hA
  obtain ⟨v1, vs1, d1, ds1, p1, q1, rfl, rfl, rfl, h1, r1⟩ := trodAll_cons r0
  obtain ⟨rfl, rfl, rfl⟩ := trodAll_nil r1
  obtain rfl : args = #[v0, v1] := by cases args; simp_all
  obtain ⟨rfl, rfl⟩ := trodVars_none hV
  obtain ⟨a0, rfl, rfl, rfl, w0⟩ := open_int Tryd.underlying3 (hval 0 3 v0 rfl rfl) h0
  obtain ⟨a1, rfl, rfl, rfl, w1⟩ := open_string Tryd.underlying9 (hval 1 9 v1 rfl rfl) h1
  clear hA0 hval0
  refine (walk (H := H) (enc := enc) (base := base) a0 a1 W w0 w1 hL).mono fun e W' ⟨he, bel⟩ => ?_
  subst he
  exact ⟨_, rfl, _, _, _, [], _, [], hW', trodAll_mk1 (shut_bool Tryd.underlying4 _), (trodAll_cons_mk (shut_int Tryd.underlying3 w0) (trodAll_cons_mk (shut_string Tryd.underlying9 w1) trodAll_mk0)), rfl, bel.frame _, fun h => by cases h⟩

theorem over : Rows.hexNumsRow.holds Tryd.pinned (OpenSpec.ofChange Rows.hexNumsSpec) :=
  OpenClaim.holds_of_wide 4 Tryd.f4 rfl rfl rfl rfl rfl rfl rfl ⟨rfl, rfl, rfl, rfl, rfl⟩ rfl rfl rfl rfl rfl (by kernel_rfl) Tryd.func4 (by kernel_rfl)
    (of_decide_eq_true (by kernel_rfl)) (by unfold Func.isWrapper; first | (rw [if_pos (by decide +kernel)]; kernel_rfl) | (rw [if_neg (by decide +kernel)]; exact ⟨rfl, rfl⟩))
    (fun os started H enc _ => lifted os started H enc)

/-- the statement: the card -/
theorem proved : Rows.HexNumsCardSaid :=
  Claim7.holds_tied_plain_at .later [] [.data, .data, .data, .sentinel, .sentinel] true (true, "6fe1c6155cbb6149b01d4f4e25e4a8a23bc45326a7bed15d49a19d04146d314b") true
    over (fun _ h => by cases h) (by kernel_rfl) (fun _ h => by cases h) hexNums_row_tie rfl ⟨rfl, rfl⟩ (by kernel_rfl) rfl
    (fun f fn hf hfn => by
      obtain rfl : f = 4 := Option.some.inj ((show Tryd.prog.funcNamed "catwalk/catwalklaw03.HexNums" = some 4 by kernel_rfl).symm.trans hf) |>.symm
      obtain rfl : fn = Tryd.f4 := (Option.some.inj (Tryd.func4.symm.trans hfn)).symm
      exact ⟨by kernel_rfl, fun j t ht => by
        rw [Tryd.params4] at ht
        have hm : t ∈ [3, 9] := by simpa using Array.mem_of_getElem? ht
        have hall : ([3, 9].all fun u => !Tryd.prog.wantsStandIn u) = true := by kernel_rfl
        exact (show Tryd.prog.wantsStandIn t = false by simpa using List.all_eq_true.1 hall t hm)⟩)
    (by kernel_rfl)
end Go.Proofs.YtjcmceomhocmpaaDoor.hexNums
