/- catwalk's catwalklaw04.Md5Pieces answers true at every input, and leaves its arguments as they were. No condition. -/
import Derived.Test.YtnfklhebcloolaaDoorRows
import Derived.WalkKit
import Derived.ProofKit
import Derived.OpenShut
import Derived.ShutString
import Derived.ChangeOld
import Derived.Below
import Derived.Test.YtnfklhebcloolaaDoorTie
import Derived.Test.YtnfklhebcloolaaDoorCards
import Derived.LaidMore
import Derived.LaidLaws
import Derived.Stop.Joined
import Derived.SevenTiedAt
import Derived.Test.YtnfklhebcloolaaDoorMdPc
import Derived.Test.YtnfklhebcloolaaDoorMdRO
import Derived.Deep.DeepCutAuto
namespace Go.Proofs.YtnfklhebcloolaaDoor.md5Pieces
open Go.ChangeShapes Go.WideShapes Go.ChangeAt Go.RowKit
open Go.ChangeMaps (open_string shut_string)
set_option linter.unusedVariables false

theorem own : ownKnob Tryd.prog.godebug = none := by kernel_rfl
theorem laidOut : laidOutB Tryd.prog = true := by kernel_rfl

open Go.Proofs.YtnfklhebcloolaaDoor.kit Go.Proofs.YtnfklhebcloolaaDoor.mdm Go.Proofs.YtnfklhebcloolaaDoor.mdc

set_option maxHeartbeats 2000000 in
set_option maxRecDepth 100000 in
/-- the walk: true, and nothing that was there has turned -/
theorem walk {H : Type} {enc : TypeId × Value → H} {base : Nat} (v0 : Value) (d0 : DataW H) (p0 : List MemPlace) (w : World) (w0 : DataW.Trod enc Tryd.prog w 0 (fun _ => true) true 29 v0 d0 p0) (o0 : Value.okWide Tryd.prog w .any base 29 v0) (hL : laidMetH Tryd.prog Rows.md5PiecesRow.laid w) :
    Calls Tryd.prog 4 #[v0] w fun e w' => e = .returned (.bool true) ∧ Below w.heap.size w w' := by
  have HT := hid (laid_pieces hL)
  clear hL
  obtain ⟨a0, len0, cap0, rfl⟩ := okWide_slice Tryd.underlying29 o0
  obtain ⟨L, hR⟩ := open_rows Tryd.underlying29 (by kernel_rfl) Tryd.underlying22 Tryd.underlying5 (by kernel_rfl) w0
  have hcl := slice_cells Tryd.underlying29 (show Tryd.prog.cellsOf 22 = 1 by kernel_rfl) (by decide) w0
  have hle := hcl.1
  have hmx := hcl.2.1
  unfold maxLen at hmx
  have HR := hid hR
  clear w0 o0 hcl hR
  by_cases h20 : 20 < len0
  · go_enter Tryd.func4, Tryd.ntmps4
    go_wp2
    go_ret
    exact ⟨rfl, Below.refl _ _⟩
  · obtain ⟨i0, hi, hi0, hi1, hi2⟩ := info_parts Tryd.info_u8
    have G1 : Tryd.prog.eqGuardType Tryd.prog.depth 23 = false := by kernel_rfl
    have G2 : Tryd.prog.eqGuardType Tryd.prog.depth 24 = false := by kernel_rfl
    have S0 := hid (show Pc w (w.alloc (.cells (hv ⟨0, 0, 0, 0⟩ (List.replicate 64 0) 0).toArray 36)) [] [] (.slice none 0 0) from by
      have b1 := (Below.refl w.heap.size w).alloc (Nat.le_refl _) (.cells (hv ⟨0, 0, 0, 0⟩ (List.replicate 64 0) 0).toArray 36)
      refine ⟨b1, ⟨_, _, zero_hash _ _ ?_⟩, World.ownsRow_nil _ _ _ _, HT.out.next b1, HT.out, fun z hz => by cases hz⟩
      have := Box.made w (hv ⟨0, 0, 0, 0⟩ (List.replicate 64 0) 0).toArray 36
      simpa using this)
    go_enter Tryd.func4, Tryd.ntmps4
    go_upto_region 4 with fail
    change Code.wp _ _ _ _ (w.alloc (.cells (hv ⟨0, 0, 0, 0⟩ (List.replicate 64 0) 0).toArray 36))
    generalize w.alloc (.cells (hv ⟨0, 0, 0, 0⟩ (List.replicate 64 0) 0).toArray 36) = wz at *
    go_upto_region 6 with fail
    go_loopw [4, 5] (fun av iv wr => ∃ (i : Nat) (u : Value), i ≤ len0 ∧ iv = .int .i64 (i : Nat) ∧ u = av ∧ (L.take i).flatten.length ≤ 200 * i ∧ Hid (Pc w wr (L.take i).flatten (L.take i).flatten u)) (fun _ iv _ => len0 - (intOf iv).toNat)
    case atStart => exact ⟨0, _, by omega, rfl, rfl, by simp, S0⟩
    case round =>
      clear S0
      obtain ⟨i, u, hi9, rfl, rfl, hfl, HS⟩ := hrel
      by_cases hlt : i < len0
      · obtain ⟨b, off, ha, hb, hc⟩ := HR.out.cells (by omega)
        subst ha
        obtain ⟨ai, ni, ci, h1, h2, h3⟩ := hc i hlt
        have c1 := (HS.out.b.cell (p := ⟨b, off + i, none⟩) hb).trans h1
        have C1 := hid h1
        have hb := hid hb
        have N0 := hid h2
        have O1 := hid h3
        have HF := hid (flat_take (L := L) (i := i) (by rw [HR.out.len]; exact hlt))
        have hnl := h2.len
        have hnc := h2.le
        have hnm := h2.max
        unfold maxLen at hnm
        clear hc h1 h2 h3
        by_cases hbig : 200 < ni
        · go_wp2_with fail
          go_ret
          exact ⟨rfl, HS.out.b⟩
        · obtain ⟨row, hrow⟩ : ∃ row, row = L.getD i [] := ⟨_, rfl⟩
          rw [← hrow] at N0 O1 HF hnl
          have N1 := hid (N0.out.below HS.out.b)
          obtain ⟨F, hF⟩ : ∃ F, F = (L.take i).flatten := ⟨_, rfl⟩
          rw [← hF] at HS HF hfl
          have KW := hid (HS.out.write N1.out O1.out (Nat.le_refl _) (by omega))
          go_upto_region 11 with (go_at_call 10; ((with_reducible refine KW.out.mono ?_); rintro e w5 ⟨rfl, S5⟩; have S5 := hid S5))
          have c2 := (S5.out.b.cell (p := ⟨b, off + i, none⟩) hb.out).trans C1.out
          have N2 := hid (N0.out.below S5.out.b)
          clear c1 KW HS N1 hF
          go_upto_region 12 with (at_builtin; go_loud (refine wpList_append_nums rfl (.tmp 29) (.tmp 33) 22 rfl (w.heap.size + 1) 5 i0 (.int .u8 0) 1 Tryd.underlying22 hi hi0 hi1 hi2 rfl u F.length F rfl S5.out.o ai ni ci _ row rfl N2.out (by unfold maxLen; omega) (by omega) S5.out.sz ?_); go_loud (intro v6 w6 g1 g2); have S6 := hid (S5.out.added O1.out (by rw [List.length_append, hnl]) g1 g2); clear g1 g2)
          obtain ⟨F2, hF2⟩ : ∃ F2, F2 = F ++ row := ⟨_, rfl⟩
          have hl2 : F2.length ≤ 200 * (i + 1) := by rw [hF2, List.length_append]; omega
          rw [← hF2] at S6 HF
          obtain ⟨a6, c6, rfl, hN6⟩ := S6.out.nums
          have N6 := hid hN6
          have KS := hid (S6.out.sum (by omega))
          have KO := hid (fun (W : World) (hb : Below w6.heap.size w6 W) => rof_any W (N6.out.below hb) S6.out.oct hb.size (by omega))
          have E1 : ∀ W : World, (Op.equalIn 10000 23 (.agg (b16 (md5 F2)).toArray) (.agg (b16 (md5 F2)).toArray)).run Tryd.prog W = .ok true W := fun W => (eq_arr 23 (by kernel_rfl) (md5 F2) (md5 F2) (md5_len _) (md5_len _) W).trans (by rw [decide_eq_true rfl])
          unfold SumOf at KS
          obtain ⟨V, hV⟩ : ∃ V, V = (b16 (md5 F2)).toArray := ⟨_, rfl⟩
          rw [← hV] at KS KO E1
          clear hV hN6 c2 N2 S5 hF2 hnl hnc hnm
          go_wp2_with (first | (go_at_call 11; ((with_reducible refine KS.out.mono ?_); rintro e w7 ⟨rfl, b7⟩; have B7 := hid b7; clear b7)) | (go_at_call 8; ((with_reducible refine (KO.out _ B7.out).mono ?_); rintro e w8 ⟨rfl, b8⟩; have S8 := hid (S6.out.next (B7.out.trans (b8.mono B7.out.size))); clear b8)))
          go_roundw
          case rel => exact ⟨i + 1, _, by omega, by go_num, rfl, by rw [HF.out]; exact hl2, hid (by rw [HF.out]; exact S8.out)⟩
          case measure => simp [intOf]; omega
      · obtain rfl : i = len0 := by omega
        have HFA := hid (show (L.take i).flatten = L.flatten by rw [List.take_of_length_le (by rw [HR.out.len]; omega)])
        rw [HFA.out] at HS hfl
        obtain ⟨F, hF⟩ : ∃ F, F = L.flatten := ⟨_, rfl⟩
        rw [← hF] at HS hfl
        obtain ⟨a6, c6, rfl, hN6⟩ := HS.out.nums
        have KL := hid (fun (W : World) (hb : Below wr.heap.size wr W) => of_any W (HS.out.T.next hb) a0 i cap0 L ((HR.out.next HS.out.b).next hb) (by unfold maxLen; omega) (by rw [← hF]; omega))
        rw [← hF] at KL
        have N6 := hid (fun (W : World) (hb : Below wr.heap.size wr W) => hN6.below hb)
        have KS := hid (fun (W : World) (hb : Below wr.heap.size wr W) => (HS.out.next hb).sum (by omega))
        have RW := hid (fun (W : World) (hb : Below wr.heap.size wr W) => rws_one (N6.out W hb) HS.out.oct hb.size 22)
        have KO := hid (fun (W W2 : World) (hb : Below wr.heap.size wr W) (hb2 : Below (W.heap.size + 1) (W.alloc (.cells #[.slice a6 F.length c6] 22)) W2) =>
          of_any W2 ((HS.out.T.next hb).next (((Below.refl W.heap.size W).alloc (Nat.le_refl _) _).trans (hb2.mono (Nat.le_succ _)))) (some ⟨W.heap.size, 0, none⟩) 1 1 [F] ((RW.out W hb).next (by rw [World.size_alloc]; exact hb2)) (by unfold maxLen; omega) (by simp; omega))
        have K4 := hid (fun (W : World) (b : Below w.heap.size w W) => alive_any W (HT.out.next b))
        have E1 : ∀ W : World, (Op.equalIn 10000 24 (.agg (b16 (md5 F)).toArray) (.agg (b16 (md5 F)).toArray)).run Tryd.prog W = .ok true W := fun W => (eq_arr 24 (by kernel_rfl) (md5 F) (md5 F) (md5_len _) (md5_len _) W).trans (by rw [decide_eq_true rfl])
        have hFF : [F].flatten = F := by simp
        rw [hFF] at KO
        unfold SumOf at KS KL KO
        obtain ⟨V, hV⟩ : ∃ V, V = (b16 (md5 F)).toArray := ⟨_, rfl⟩
        rw [← hV] at KS KL KO E1
        have B0 := hid (Below.refl wr.heap.size wr)
        have HB := hid HS.out.b
        clear hV hN6 N6 RW HFA hF hFF HS
        go_wp2_with (first | (go_at_call 11; ((with_reducible refine (KS.out wr B0.out).mono ?_); rintro e w7 ⟨rfl, b7⟩; have B7 := hid b7; clear b7)) | (go_at_call 7; ((with_reducible refine (KL.out _ B7.out).mono ?_); rintro e w8 ⟨rfl, b8⟩; have B8 := hid (B7.out.trans (b8.mono B7.out.size)); clear b8)) | (go_at_call 11; ((with_reducible refine (KS.out w8 B8.out).mono ?_); rintro e w9 ⟨rfl, b9⟩; have B9 := hid (B8.out.trans (b9.mono B8.out.size)); clear b9)) | (go_at_call 7; ((with_reducible refine (KO.out w9 _ B9.out (Below.refl _ _)).mono ?_); rintro e wa ⟨rfl, ba⟩; have BA := hid ((B9.out.alloc B9.out.size (.cells #[.slice a6 F.length c6] 22)).trans (ba.mono (by have := B9.out.size; simp; omega))); clear ba)) | (go_at_call 9; ((with_reducible refine (K4.out _ (HB.out.trans (BA.out.mono HB.out.size))).mono ?_); rintro e wd ⟨rfl, bd⟩; have BD := hid (BA.out.trans (bd.mono BA.out.size)); clear bd)))
        go_ret
        exact ⟨rfl, HB.out.trans (BD.out.mono HB.out.size)⟩
theorem door_met (os : Os) (args : Array Value) : laidMetH Tryd.prog Rows.md5PiecesRow.laid ((World.doorLaid Tryd.prog 400 os).forCall (fun _ _ => 0) ⟨#[], args, []⟩).memory :=
  laidMetH_of_parts3 (fuel := 8) (laidMet_of_run' 8 (by kernel_rfl) (by kernel_rfl)) (by kernel_rfl) (by kernel_rfl)
set_option maxRecDepth 100000 in
theorem lifted (os : Os) (started : os.Started) (H : Type) (enc : TypeId × Value → H) :
    ReturnsInHanded {} Tryd.checked os 4 .any (fun w args => (Rows.md5PiecesSpec.pre enc Tryd.prog Tryd.f4 Rows.md5PiecesRow.domain false w args ∧ laidMetH Tryd.prog Rows.md5PiecesRow.laid w) ∧ sizedMet enc Tryd.prog Tryd.f4 (OpenSpec.ofChange Rows.md5PiecesSpec) false w args) (Rows.md5PiecesSpec.post enc Tryd.prog Tryd.f4 false true false false) := by
  refine returnsInHanded_of_change_and (C := Tryd.checked) (X := fun w _ => laidMetH Tryd.prog Rows.md5PiecesRow.laid w) (fun _ _ _ hh h => h.of_heap hh) own started (by kernel_rfl) Tryd.func4
    (ChangeSpec.witness_shaped (enc := enc) (C := Tryd.checked) (os := os) (X := fun w _ => laidMetH Tryd.prog Rows.md5PiecesRow.laid w) false (World.doorLaid Tryd.prog 400 os) #[.slice none 0 0] 8 rfl (World.shaped_of_RefB (by kernel_rfl) (by kernel_rfl)) (by kernel_rfl) (by kernel_rfl) (by kernel_rfl) (door_met os _)) ?_
  intro W base args ds gs before hval0 hW hcnd _ hL _
  have hval : ∀ (j : Nat) t v, Tryd.f4.params[j]? = some t → args[j]? = some v → Value.okWide Tryd.prog W .any base t v := hval0
  have hW' := hW
  obtain ⟨p, q, hA0, hV, rfl, hfz, hnd⟩ := hW
  have hA : DataW.TrodAll enc Tryd.prog W 0 (fun _ => true) true Tryd.f4.params.toList args.toList ds p := hA0
  rw [Tryd.params4] at hA hval
  obtain ⟨v0, vs0, d0, ds0, p0, q0, hargs, rfl, rfl, h0, r0⟩ := trodAll_cons hA
  obtain ⟨rfl, rfl, rfl⟩ := trodAll_nil r0
  obtain rfl : args = #[v0] := by cases args; simp_all
  obtain ⟨rfl, rfl⟩ := trodVars_none hV
  have k0 := h0
  have o0 := hval 0 29 v0 rfl rfl
  have lt0 : ∀ x ∈ p0, x.block < W.heap.size := by obtain ⟨m, hm⟩ := k0; exact DataW.trod_lt m _ _ _ hm
  clear hA0 hval0
  refine (walk (H := H) (enc := enc) (base := base) v0 d0 p0 W k0 o0 hL).mono fun e W' ⟨he, bel⟩ => ?_
  subst he
  exact ⟨_, rfl, _, _, _, [], _, [], hW', trodAll_mk1 (shut_bool Tryd.underlying4 _), (trodAll_cons_mk (Below.trod laidOut (by kernel_rfl) (of_decide_eq_true (by kernel_rfl)) k0 bel lt0) trodAll_mk0), rfl, bel.frame _, fun h => by cases h⟩

theorem over : Rows.md5PiecesRow.holds Tryd.pinned (OpenSpec.ofChange Rows.md5PiecesSpec) :=
  OpenClaim.holds_of_wide 4 Tryd.f4 rfl rfl rfl rfl rfl rfl rfl ⟨rfl, rfl, rfl, rfl, rfl⟩ rfl rfl rfl rfl rfl (by kernel_rfl) Tryd.func4 (by kernel_rfl)
    (of_decide_eq_true (by kernel_rfl)) (by unfold Func.isWrapper; first | (rw [if_pos (by decide +kernel)]; kernel_rfl) | (rw [if_neg (by decide +kernel)]; exact ⟨rfl, rfl⟩))
    (fun os started H enc _ => lifted os started H enc)

/-- the statement: the card -/
theorem proved : Rows.Md5PiecesCardSaid :=
  Claim7.holds_tied_plain_at .later [] [.data, .data, .data] true (true, "19782ae484a4ae97c67a642e65a14608304aec11185172171083b1c757746526") false
    over (fun _ h => by cases h) (by kernel_rfl) (fun _ h => by cases h) md5Pieces_row_tie rfl ⟨rfl, rfl⟩ (by kernel_rfl) rfl
    (fun f fn hf hfn => by
      obtain rfl : f = 4 := Option.some.inj ((show Tryd.prog.funcNamed "catwalk/catwalklaw04.Md5Pieces" = some 4 by kernel_rfl).symm.trans hf) |>.symm
      obtain rfl : fn = Tryd.f4 := (Option.some.inj (Tryd.func4.symm.trans hfn)).symm
      exact ⟨by kernel_rfl, fun j t ht => by
        rw [Tryd.params4] at ht
        have hm : t ∈ [29] := by simpa using Array.mem_of_getElem? ht
        have hall : ([29].all fun u => !Tryd.prog.wantsStandIn u) = true := by kernel_rfl
        exact (show Tryd.prog.wantsStandIn t = false by simpa using List.all_eq_true.1 hall t hm)⟩)
    (by kernel_rfl)
end Go.Proofs.YtnfklhebcloolaaDoor.md5Pieces
