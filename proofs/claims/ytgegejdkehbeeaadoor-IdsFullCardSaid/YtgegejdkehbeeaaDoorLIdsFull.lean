/- catwalk's catwalklaw08.IdsFull answers true at every input, and leaves its arguments as they were. No condition. -/
import Derived.Test.YtgegejdkehbeeaaDoorRows
import Derived.WalkKit
import Derived.ProofKit
import Derived.OpenShut
import Derived.ShutString
import Derived.ChangeOld
import Derived.Below
import Derived.Test.YtgegejdkehbeeaaDoorTie
import Derived.Test.YtgegejdkehbeeaaDoorCards
import Derived.LaidMore
import Derived.LaidLaws
import Derived.Stop.Joined
import Derived.SevenTiedAt
import Derived.Test.YtgegejdkehbeeaaDoorIdsFull
import Derived.Deep.DeepCutAuto
import Derived.LoopTactic
import Derived.StillTailTactics
namespace Go.Proofs.YtgegejdkehbeeaaDoor.idsFull
open Go.ChangeShapes Go.WideShapes Go.ChangeAt Go.RowKit
open Go.ChangeMaps (open_string shut_string)
set_option linter.unusedVariables false

theorem own : ownKnob Tryd.prog.godebug = none := by kernel_rfl
theorem laidOut : laidOutB Tryd.prog = true := by kernel_rfl

open Go.Proofs.YtgegejdkehbeeaaDoor.kit Go.Proofs.YtgegejdkehbeeaaDoor.pop Go.Proofs.YtgegejdkehbeeaaDoor.idc Go.Proofs.YtgegejdkehbeeaaDoor.idx Go.Proofs.YtgegejdkehbeeaaDoor.idf

set_option maxHeartbeats 1000000 in
set_option maxRecDepth 100000 in
/-- the walk: true, and nothing that was there has turned -/
theorem walk {H : Type} {enc : TypeId × Value → H} {base : Nat} (v0 : Value) (d0 : DataW H) (p0 : List MemPlace) (a1 : Int) (w : World) (w0 : DataW.Trod enc Tryd.prog w 0 (fun _ => true) true 64 v0 d0 p0) (o0 : Value.okWide Tryd.prog w .any base 64 v0) (w1 : (Lit.int .u16 a1).wf = true) (hL : laidMetH Tryd.prog Rows.idsFullRow.laid w) :
    Calls Tryd.prog 9 #[v0, .int .u16 a1] w fun e w' => e = .returned (.bool true) ∧ Below w.heap.size w w' := by
  obtain ⟨a0, len0, cap0, rfl⟩ := okWide_slice Tryd.underlying64 o0
  obtain ⟨l, hN, hwf⟩ := open_nums Tryd.underlying64 Tryd.underlying65 (by kernel_rfl) w0
  obtain ⟨hT, hB⟩ := laid_full hL
  clear w0 o0 hL
  have hle := hN.le
  have hmx := hN.max
  unfold maxLen at hmx
  by_cases hbig : 10 < len0
  · clear hN hwf hT
    go_enter Tryd.func9, Tryd.ntmps9
    go_wp2
    go_ret
    exact ⟨rfl, Below.refl _ _⟩
  · have s0 := hid (new_set w)
    have f0 := hid (fun i (_ : i < 1024) => new_free w i)
    have b0 : Below w.heap.size w (w.alloc (.cells Tryd.zeroCells63 63)) := (Below.refl _ _).alloc (Nat.le_refl _) _
    have T0 := hid (tab_keep hT b0 hB)
    have Z0 := hid (show w.heap.size ≤ (w.alloc (.cells Tryd.zeroCells63 63)).heap.size from b0.size)
    have B0 := hid b0
    have HN := hid hN
    have HWF := hid hwf
    have hmu1 := hid (show mu l 1 = 0 from rfl)
    clear hT b0 hN hwf
    go_enter Tryd.func9, Tryd.ntmps9
    go_wp2
    have t0 := hid (show Turned (w.alloc (.cells Tryd.zeroCells63 63)) (w.alloc (.cells Tryd.zeroCells63 63)) w.heap.size (fun _ => 0) from ⟨s0.out, World.grownBy.refl _ _, fun _ => rfl⟩)
    generalize hw0 : w.alloc (.cells Tryd.zeroCells63 63) = wo at *
    clear hw0
    go_loopw [6, 7] (fun mv iv wr => ∃ n : Nat, 1 ≤ n ∧ n ≤ 65536 ∧ iv = .int .i64 n ∧ (∃ q : Nat, q = mu l n ∧ mv = .int .i64 q) ∧ ∃ Wf, Hid (Filled Wf l n) ∧ Hid (Turned wo wr w.heap.size Wf)) (fun _ iv _ => 65536 - (intOf iv).toNat)
    case atStart => exact ⟨1, by omega, by omega, rfl, ⟨0, hmu1.out.symm, rfl⟩, _, hid (filled_none l), t0⟩
    case round =>
      obtain ⟨n, hn1, hn2, rfl, ⟨q, hq, rfl⟩, Wf, HF, HT⟩ := hrel
      have hqle : q ≤ n := by rw [hq]; exact mu_le l n
      by_cases hlt : n ≤ 65535
      · have hw : IntKind.u16.wrap (n : Int) = n := by rw [IntKind.wrap_u16]; omega
        have hb := hid (gb_below B0.out HT.out.only Z0.out (Nat.le_refl _))
        have HC := hid (fun b hb' => contains_any wr (HN.out.below hb.out) (by omega) (n : Int) b hb')
        by_cases hl : (n : Int) ∈ l
        · have HC1 := hid (HC.out true (decide_eq_true hl).symm)
          have HF1 := hid (filled_in HF.out hn1 hl)
          have HM := hid (show q + 1 = mu l (n + 1) by rw [mu_in hn1 hl, hq])
          clear hl HC hq
          go_wp2_with (go_at_call 35; with_reducible refine HC1.out.mono ?_; rintro e w' ⟨rfl, rfl⟩)
          go_roundw
          case rel => exact ⟨n + 1, by omega, by omega, by go_num, ⟨q + 1, HM.out, by go_num⟩, Wf, HF1, HT⟩
          case measure => simp [intOf]; omega
        · have HC1 := hid (HC.out false (decide_eq_false hl).symm)
          have HF1 := hid (filled_out HF.out hn1 hl)
          have HM := hid (show q = mu l (n + 1) by rw [mu_out hl, hq])
          have HK := hid (take_yes n (by omega) wr HT.out.set (HT.out.free0 f0.out) (by omega) (filled_at HF.out (by omega)))
          clear hl HC hq
          go_wp2_with (first | (go_at_call 35; with_reducible refine HC1.out.mono ?_; rintro e w' ⟨rfl, rfl⟩) | (go_at_call 36; with_reducible refine HK.out.mono ?_; rintro e w1 ⟨rfl, t1⟩; have T1 := hid t1; clear t1))
          go_roundw
          case rel => exact ⟨n + 1, by omega, by omega, by go_num, ⟨q, HM.out, rfl⟩, took Wf n, HF1, hid (HT.out.trans T1.out)⟩
          case measure => simp [intOf]; omega
      · have hn : n = 65536 := by omega
        obtain ⟨fr, hfr, hfr2⟩ : ∃ fr : Nat, a1 = fr ∧ fr < 65536 := ⟨a1.toNat, by have := wf_u16 w1; omega, by have := wf_u16 w1; omega⟩
        subst hfr
        have hI := left_start (fr := fr) hn HF.out
        rw [← hq] at hI
        have HI := hid hI
        have hnI : (n : Int) = 65536 := by omega
        clear hlt hI hq HF hn w1
        go_wp2
        clear hnI
        go_loopw [8, 9] (fun lv iv wr => ∃ i c : Nat, i + c = q ∧ iv = .int .i64 i ∧ (∃ la : Int, -1 ≤ la ∧ la ≤ 200000 ∧ lv = .int .i64 la ∧ ∃ Wf, Hid (LeftIds Wf l fr la c) ∧ Hid (Turned wo wr w.heap.size Wf))) (fun _ iv _ => q - (intOf iv).toNat)
        case atStart => exact ⟨0, q, by omega, rfl, -1, by omega, by omega, rfl, Wf, HI, HT⟩
        case round =>
          clear HI HT
          obtain ⟨i, c, hic, rfl, la, hla, hla2, rfl, Wg, HG, HT⟩ := hrel
          have hb := hid (gb_below B0.out HT.out.only Z0.out (Nat.le_refl _))
          have HTab := hid (HT.out.tab T0.out (by omega))
          by_cases hc : i < q
          · obtain ⟨c, rfl⟩ : ∃ c', c = c' + 1 := ⟨c - 1, by omega⟩
            obtain ⟨m, hm1, hm2, hm3, hm4, hor⟩ := left_next HG.out
            have hK := take_yes m hm2 wr HT.out.set (HT.out.free0 f0.out) (by omega) hm3
            have hFr : Calls Tryd.prog 37 #[.pointer (some ⟨w.heap.size, 0, none⟩), .int .u16 fr] wr fun e w' => e = .returned (.tuple #[.int .u16 m, .bool true]) ∧ Turned wr w' w.heap.size (took Wg m) := by
              rcases hor with ⟨h1, h2⟩ | ⟨h1, h2⟩
              · have h3 := free_yes (max fr 1) m h1 hm2 wr HT.out.set HTab.out hm3 h2
                rw [show max fr 1 = (if fr = 0 then 1 else fr) by split <;> omega] at h3
                exact fresh_of fr m hfr2 wr hK h3
              · by_cases hz : fr = 0
                · have h3 := h1 m (by omega) hm2
                  rw [hm3] at h3; cases h3
                · refine fresh_of2 fr m hfr2 wr hK ⟨by omega, free_no fr hfr2 wr HT.out.set (fun x x1 x2 => h1 x (by omega) x2)⟩ (free_yes 1 m hm1 hm2 wr HT.out.set HTab.out hm3 h2)
            have hmem := HG.out.mem m hm1 hm2 hm3
            have HFr := hid hFr
            have HL4 := hid hm4
            have HC := hid (fun wx (hx : Below w.heap.size w wx) => contains_any wx (HN.out.below hx) (by omega) (m : Int) true (decide_eq_true hmem.1).symm)
            have hkey := hmem.2
            clear hor hFr hm4 hmem HG hm3 hK
            by_cases hlt : m < fr
            · have hk : key fr m = m + 65536 := if_pos hlt
              rw [hk] at hkey HL4
              have hltI : (m : Int) < fr := by omega
              go_wp2_with (first | (go_at_call 37; with_reducible refine HFr.out.mono ?_; rintro e w1 ⟨rfl, t1⟩; have T1 := hid t1; have hb1 := hid (gb_below B0.out (HT.out.trans t1).only Z0.out (Nat.le_refl _)); clear t1) | (go_at_call 35; with_reducible refine (HC.out _ hb1.out).mono ?_; rintro e w2 ⟨rfl, rfl⟩))
              go_roundw
              case rel => exact ⟨i + 1, c, by omega, by go_num, ((m + 65536 : Nat) : Int), by omega, by omega, by go_num, took Wg m, HL4, hid (HT.out.trans T1.out)⟩
              case measure => simp [intOf]; omega
            · have hk : key fr m = m := if_neg hlt
              rw [hk] at hkey HL4
              have hltI : ¬ (m : Int) < fr := by omega
              go_wp2_with (first | (go_at_call 37; with_reducible refine HFr.out.mono ?_; rintro e w1 ⟨rfl, t1⟩; have T1 := hid t1; have hb1 := hid (gb_below B0.out (HT.out.trans t1).only Z0.out (Nat.le_refl _)); clear t1) | (go_at_call 35; with_reducible refine (HC.out _ hb1.out).mono ?_; rintro e w2 ⟨rfl, rfl⟩))
              go_roundw
              case rel => exact ⟨i + 1, c, by omega, by go_num, (m : Int), by omega, by omega, by go_num, took Wg m, HL4, hid (HT.out.trans T1.out)⟩
              case measure => simp [intOf]; omega
          · obtain rfl : c = 0 := by omega
            have hall := left_end HG.out
            have hlen : 65535 = upto Wg 1024 := by
              have := HG.out.cnt
              show 65535 = pc (tk Wg) 65536
              omega
            have HF1 := hid (fresh_none fr hfr2 wr HT.out.set hall)
            have HF2 := hid (len_any wr HT.out.set 65535 hlen)
            have HF3 := hid (alive_any wr HTab.out (by have := HT.out.only.size; have := Z0.out; omega))
            clear hall hlen
            go_wp2_with (first | (go_at_call 37; with_reducible refine HF1.out.mono ?_; rintro e w1 ⟨rfl, rfl⟩) | (go_at_call 29; with_reducible refine HF2.out.mono ?_; rintro e w1 ⟨rfl, rfl⟩) | (go_at_call 34; with_reducible refine HF3.out.mono ?_; rintro e w1 ⟨rfl, hb3⟩))
            go_ret
            exact ⟨rfl, hb.out.trans (hb3.mono hb.out.size)⟩
theorem door_met (os : Os) (args : Array Value) : laidMetH Tryd.prog Rows.idsFullRow.laid ((World.doorLaid Tryd.prog 400 os).forCall (fun _ _ => 0) ⟨#[], args, []⟩).memory :=
  laidMetH_of_parts3 (fuel := 8) (laidMet_of_run' 8 (by kernel_rfl) (by kernel_rfl)) (by kernel_rfl) (by kernel_rfl)
set_option maxRecDepth 100000 in
theorem lifted (os : Os) (started : os.Started) (H : Type) (enc : TypeId × Value → H) :
    ReturnsInHanded {} Tryd.checked os 9 .any (fun w args => (Rows.idsFullSpec.pre enc Tryd.prog Tryd.f9 Rows.idsFullRow.domain false w args ∧ laidMetH Tryd.prog Rows.idsFullRow.laid w) ∧ sizedMet enc Tryd.prog Tryd.f9 (OpenSpec.ofChange Rows.idsFullSpec) false w args) (Rows.idsFullSpec.post enc Tryd.prog Tryd.f9 false true false false) := by
  refine returnsInHanded_of_change_and (C := Tryd.checked) (X := fun w _ => laidMetH Tryd.prog Rows.idsFullRow.laid w) (fun _ _ _ hh h => h.of_heap hh) own started (by kernel_rfl) Tryd.func9
    (ChangeSpec.witness_shaped (enc := enc) (C := Tryd.checked) (os := os) (X := fun w _ => laidMetH Tryd.prog Rows.idsFullRow.laid w) false (World.doorLaid Tryd.prog 400 os) #[.slice none 0 0, .int .u16 0] 8 rfl (World.shaped_of_RefB (by kernel_rfl) (by kernel_rfl)) (by kernel_rfl) (by kernel_rfl) (by kernel_rfl) (door_met os _)) ?_
  intro W base args ds gs before hval0 hW hcnd _ hL _
  have hval : ∀ (j : Nat) t v, Tryd.f9.params[j]? = some t → args[j]? = some v → Value.okWide Tryd.prog W .any base t v := hval0
  have hW' := hW
  obtain ⟨p, q, hA0, hV, rfl, hfz, hnd⟩ := hW
  have hA : DataW.TrodAll enc Tryd.prog W 0 (fun _ => true) true Tryd.f9.params.toList args.toList ds p := hA0
  rw [Tryd.params9] at hA hval
  obtain ⟨v0, vs0, d0, ds0, p0, q0, hargs, rfl, rfl, h0, r0⟩ := trodAll_cons hA
  obtain ⟨v1, vs1, d1, ds1, p1, q1, rfl, rfl, rfl, h1, r1⟩ := trodAll_cons r0
  obtain ⟨rfl, rfl, rfl⟩ := trodAll_nil r1
  obtain rfl : args = #[v0, v1] := by cases args; simp_all
  obtain ⟨rfl, rfl⟩ := trodVars_none hV
  have k0 := h0
  have o0 := hval 0 64 v0 rfl rfl
  have lt0 : ∀ x ∈ p0, x.block < W.heap.size := by obtain ⟨m, hm⟩ := k0; exact DataW.trod_lt m _ _ _ hm
  obtain ⟨a1, rfl, rfl, rfl, w1⟩ := open_int Tryd.underlying65 (hval 1 65 v1 rfl rfl) h1
  clear hA0 hval0
  refine (walk (H := H) (enc := enc) (base := base) v0 d0 p0 a1 W k0 o0 w1 hL).mono fun e W' ⟨he, bel⟩ => ?_
  subst he
  exact ⟨_, rfl, _, _, _, [], _, [], hW', trodAll_mk1 (shut_bool Tryd.underlying4 _), (trodAll_cons_mk (Below.trod laidOut (by kernel_rfl) (of_decide_eq_true (by kernel_rfl)) k0 bel lt0) (trodAll_cons_mk (shut_int Tryd.underlying65 w1) trodAll_mk0)), rfl, bel.frame _, fun h => by cases h⟩

theorem over : Rows.idsFullRow.holds Tryd.pinned (OpenSpec.ofChange Rows.idsFullSpec) :=
  OpenClaim.holds_of_wide 9 Tryd.f9 rfl rfl rfl rfl rfl rfl rfl ⟨rfl, rfl, rfl, rfl, rfl⟩ rfl rfl rfl rfl rfl (by kernel_rfl) Tryd.func9 (by kernel_rfl)
    (of_decide_eq_true (by kernel_rfl)) (by unfold Func.isWrapper; first | (rw [if_pos (by decide +kernel)]; kernel_rfl) | (rw [if_neg (by decide +kernel)]; exact ⟨rfl, rfl⟩))
    (fun os started H enc _ => lifted os started H enc)

/-- the statement: the card -/
theorem proved : Rows.IdsFullCardSaid :=
  Claim7.holds_tied_plain_at .later [] [.data] true (true, "b2f13917736b1c5475b2a20532cbda4694c9de82cf87aa8a1671b206e0867a07") true
    over (fun _ h => by cases h) (by kernel_rfl) (fun _ h => by cases h) idsFull_row_tie rfl ⟨rfl, rfl⟩ (by kernel_rfl) rfl
    (fun f fn hf hfn => by
      obtain rfl : f = 9 := Option.some.inj ((show Tryd.prog.funcNamed "catwalk/catwalklaw08.IdsFull" = some 9 by kernel_rfl).symm.trans hf) |>.symm
      obtain rfl : fn = Tryd.f9 := (Option.some.inj (Tryd.func9.symm.trans hfn)).symm
      exact ⟨by kernel_rfl, fun j t ht => by
        rw [Tryd.params9] at ht
        have hm : t ∈ [64, 65] := by simpa using Array.mem_of_getElem? ht
        have hall : ([64, 65].all fun u => !Tryd.prog.wantsStandIn u) = true := by kernel_rfl
        exact (show Tryd.prog.wantsStandIn t = false by simpa using List.all_eq_true.1 hall t hm)⟩)
    (by kernel_rfl)
end Go.Proofs.YtgegejdkehbeeaaDoor.idsFull
