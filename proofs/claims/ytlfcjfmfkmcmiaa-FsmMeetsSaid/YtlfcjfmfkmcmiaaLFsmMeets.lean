/- catwalk's catwalklaw21.FsmMeets answers true at every input, and leaves its arguments as they were. No condition. -/
import Derived.Test.YtlfcjfmfkmcmiaaRows
import Derived.WalkKit
import Derived.ProofKit
import Derived.OpenShut
import Derived.ShutString
import Derived.ChangeOld
import Derived.Below
import Derived.Test.YtlfcjfmfkmcmiaaFsmLaw
import Derived.Test.YtlfcjfmfkmcmiaaOpen
import Derived.Test.YtlfcjfmfkmcmiaaNums
import Derived.Deep.RegionWith
import Derived.Deep.DeepCutAuto
namespace Go.Proofs.Ytlfcjfmfkmcmiaa.fsmMeets
open Go.ChangeShapes Go.WideShapes Go.ChangeAt Go.RowKit
open Go.ChangeMaps (open_string shut_string)
set_option linter.unusedVariables false

theorem own : ownKnob Try.prog.godebug = none := by kernel_rfl
theorem laidOut : laidOutB Try.prog = true := by kernel_rfl

open Go.Proofs.Ytlfcjfmfkmcmiaa.kit Go.Proofs.Ytlfcjfmfkmcmiaa.fm Go.Proofs.Ytlfcjfmfkmcmiaa.fc
theorem Try.slE : Try.prog.underlying 54 = some (.slice (Try.prog.elem 54)) := by kernel_rfl
theorem ev_from (a : Option Addr) (n cap : Nat) (h : 1 ≤ n) : ∃ a', (∀ w, (Instr.slice 54 (.slice a n cap) (some (.int .i64 1)) none none).run Try.prog w = .ok (.slice a' (n - 1) (cap - 1)) w) ∧ (cap = 1 → a' = a) ∧ (¬ cap = 1 → a' = a.map (·.add 1)) := by
  refine ⟨if cap = 1 then a else a.map (·.add 1), fun w => ?_, fun h => by simp [h], fun h => by simp [h]⟩
  rw [run_slice_l (ht := Try.slE) (h0 := by omega) (h1 := by omega)]
  simp [go_sem, Result.andThen, sliced]
theorem ev_tail {w : World} {B n cap : Nat} {a : Option Addr} {e : Int} {l : List Int} (h : Nums .i64 w B a n cap (e :: l)) : ∃ a', (∀ w, (Instr.slice 54 (.slice a n cap) (some (.int .i64 1)) none none).run Try.prog w = .ok (.slice a' (n - 1) (cap - 1)) w) ∧ Nums .i64 w B a' (n - 1) (cap - 1) l := by
  have hl := h.len
  have hn : 1 ≤ n := by rw [← hl]; simp
  obtain ⟨a', h1, h2, h3⟩ := ev_from a n cap hn
  exact ⟨a', h1, h.drop (m := 1) hn h2 h3⟩

set_option maxHeartbeats 4000000 in
set_option maxRecDepth 100000 in
/-- the walk: true, and nothing that was there has turned -/
theorem walk {H : Type} {enc : TypeId × Value → H} {base : Nat} (v0 : Value) (d0 : DataW H) (p0 : List MemPlace) (w : World) (w0 : DataW.Trod enc Try.prog w 0 (fun _ => true) true 56 v0 d0 p0) (o0 : Value.okWide Try.prog w .any base 56 v0) :
    Calls Try.prog 9 #[v0] w fun e w' => e = .returned (.bool true) ∧ Below w.heap.size w w' := by
  obtain ⟨a0, len0, cap0, rfl⟩ := okWide_slice Try.underlying56 o0
  obtain ⟨ho1, ho2, _, ho4⟩ := slice_cells Try.underlying56 (C := 1) (by kernel_rfl) (by decide) w0
  have hops : ∀ i, i < len0 → ∃ b off q, a0 = some ⟨b, off, none⟩ ∧ b < w.heap.size ∧ w.cell? ⟨b, off + i, none⟩ = some (.bool q) := by
    intro i hi
    obtain ⟨b, off, ha, hb, hc⟩ := ho4 (by omega)
    obtain ⟨cs, n, y, hl, hcell, hy⟩ := hc i hi
    obtain ⟨q, hv, _⟩ := DataW.trod_bool Try.underlying4 hy
    refine ⟨b, off, q, ha, hb, ?_⟩
    have := hcell 0 (by decide)
    rw [hv] at this
    simpa using this
  unfold maxLen at ho2
  clear w0 o0 ho4
  by_cases hbig : 40 < len0
  · clear hops
    go_enter Try.func9, Try.ntmps9
    go_wp2
    go_ret
    exact ⟨rfl, Below.refl _ _⟩
  · have HO := hid hops
    clear hops
    have KS := hid (fun w => step_any 2 2 w)
    have hcb := act_bd 2 2
    have HM := hid may_start
    obtain ⟨t, ht⟩ : ∃ t, t = toI 2 2 := ⟨_, rfl⟩
    obtain ⟨c, hcc⟩ : ∃ c, c = actI 2 2 := ⟨_, rfl⟩
    rw [← ht, ← hcc] at KS HM
    rw [← hcc] at hcb
    clear ht hcc
    have N0 := hid (fun w : World => (Nums.empty (k := .i64) (w := w) (B := 0) (a := none) (cap := 0) (Nat.zero_le _) (fun _ => rfl)))
    go_enter Try.func9, Try.ntmps9
    go_upto_region 6 with (first | (go_at_call 30; ((with_reducible refine (KS.out w).mono ?_); rintro e wa ⟨rfl, ba⟩)) | (go_at_call 30; ((with_reducible refine (KS.out wa).mono ?_); rintro e wb ⟨rfl, bb⟩)) | (go_at_call 35; ((with_reducible refine (said_any wb (N0.out wb) (by decide) (Nat.zero_le _) c (by omega)).mono ?_); rintro e wc ⟨aA, nA, cA, rfl, NA, bc⟩; have NAH := hid NA; clear NA)) | (go_at_call 35; ((with_reducible refine (said_any wc (N0.out wc) (by decide) (Nat.zero_le _) c (by omega)).mono ?_); rintro e wd ⟨aB, nB, cB, rfl, NB, bd⟩; have NBH := hid NB; clear NB)))
    have B0 := hid (((ba.trans (bb.mono ba.size)).trans (bc.mono (Nat.le_trans ba.size bb.size))).trans (bd.mono (Nat.le_trans (Nat.le_trans ba.size bb.size) bc.size)))
    have NA0 := hid ((NAH.out.below bd).mono bd.size)
    have M0 := hid HM.out
    clear NAH ba bb bc bd KS hcb HM N0
    go_wp2_with fail
    go_loopw [3, 5, 7, 8, 9] (fun av bv xv yv iv wr => ∃ (k : Nat) (a b : Int) (la lb : List Int) (r : Nat) (aA aB : Option Addr) (nA cA nB cB : Nat), k + r ≤ 4 ∧ iv = .int .i64 k ∧ av = .int .i64 a ∧ bv = .int .i64 b ∧ xv = .slice aA nA cA ∧ yv = .slice aB nB cB ∧ Hid (May a b la lb r) ∧ Hid (Nums .i64 wr wr.heap.size aA nA cA la) ∧ Hid (Nums .i64 wr wr.heap.size aB nB cB lb) ∧ Hid (Below w.heap.size w wr)) (fun _ _ _ _ iv _ => 80 - (intOf iv).toNat)
    case atStart => exact ⟨0, t, t, saidI [] c, saidI [] c, 4, aA, aB, nA, cA, nB, cB, Nat.le_refl _, rfl, rfl, rfl, rfl, rfl, M0, NA0, NBH, B0⟩
    case round =>
      clear M0 NA0 NBH B0
      obtain ⟨k, a, b, la, lb, r, aA', aB', nA', cA', nB', cB', hk, rfl, rfl, rfl, rfl, rfl, HM, NA, NB, HB⟩ := hrel
      have hbd := may_bd a b la lb r HM.out
      obtain ⟨d1, d2, d3, d4, d5, d6, d7⟩ := hbd
      go_upto_region 9 with fail
      go_cut [10] (fun v wx => ∃ q, v = .bool q ∧ wx = wr)
      case first =>
        by_cases hkl : k < len0
        · obtain ⟨b0, off0, q, hadr, hlt0, hc0⟩ := HO.out k hkl
          subst hadr
          have hcx : wr.cell? ⟨b0, off0 + k, none⟩ = some (.bool q) := (HB.out.cell (p := ⟨b0, off0 + k, none⟩) hlt0).trans hc0
          have hge : decide (len0 ≤ k) = false := by simp; omega
          clear hc0
          go_wp2_with fail
          go_meet
          exact ⟨q, rfl, rfl⟩
        · have hge : decide (len0 ≤ k) = true := by simp; omega
          go_wp2_with fail
          go_meet
          exact ⟨true, rfl, rfl⟩
      case rest =>
        obtain ⟨q, rfl, hwc⟩ := hcut
        have hwc' := hwc.symm
        clear hwc
        subst hwc'
        have hlA := hid NA.out.len
        have hlB := hid NB.out.len
        cases la with
        | nil =>
          have hnA : nA' = 0 := by have := hlA.out; simpa using this.symm
          subst hnA
          cases lb with
          | nil =>
            have hnB : nB' = 0 := by have := hlB.out; simpa using this.symm
            subst hnB
            obtain ⟨rfl, rfl⟩ := may_end a b r HM.out
            clear HO
            cases q
            all_goals
              go_wp2_with (go_at_call 34; ((with_reducible refine (alive_any _).mono ?_); rintro e wz ⟨rfl, bz⟩))
              go_ret
              exact ⟨rfl, HB.out.trans (bz.mono HB.out.size)⟩
          | cons e l =>
            cases q
            all_goals
              obtain ⟨r', hr1, hm2⟩ := may_b a b e l [] r HM.out
              have HM2 := hid hm2
              have hnz : 0 < nB' := by have := hlB.out; rw [← this]; simp
              have hnz2 : ((nB' : Int) == 0) = false := by rw [beq_eq_false_iff_ne]; omega
              obtain ⟨b0, off0, hadr, z1, z2, z3⟩ := NB.out.cells hnz
              have hcx : wr.cell? ⟨b0, off0, none⟩ = some (.int .i64 e) := by have := z3 0 hnz; rw [Nat.add_zero] at this; exact this
              subst hadr
              obtain ⟨aT, hsl, hNT⟩ := ev_tail NB.out
              have NT := hid hNT
              have KS := hid (fun w => step_any b e w)
              have hcb := act_bd b e
              obtain ⟨t, ht⟩ : ∃ t, t = toI b e := ⟨_, rfl⟩
              obtain ⟨c, hcc⟩ : ∃ c, c = actI b e := ⟨_, rfl⟩
              rw [← ht, ← hcc] at KS HM2
              rw [← hcc] at hcb
              have hn9 : 0 ≤ 1000 := by decide
              clear ht hcc z3 hm2 hNT
              go_upto_region 19 with (go_at_call 30; ((with_reducible refine (KS.out wr).mono ?_); rintro e wa ⟨rfl, ba⟩))
              have NO := hid ((NA.out.below ba).mono ba.size)
              have NT1 := hid ((NT.out.below ba).mono ba.size)
              have HB1 := hid (HB.out.trans (ba.mono HB.out.size))
              go_region_with (go_at_call 35; ((with_reducible refine (said_any _ NO.out.drew hn9 (Nat.le_refl _) c (by omega)).mono ?_); rintro e wz ⟨a9, n9, c9, rfl, h9, bz⟩; have N92 := hid h9; have bz2 := hid ((Below.refl wa.heap.size wa).drew.trans bz); clear h9))
              have NT2 := hid ((NT1.out.below bz2.out).mono bz2.out.size)
              have HB2 := hid (HB1.out.trans (bz2.out.mono HB1.out.size))
              clear NT1 NO NT bz2
              go_wp2_with fail
              go_roundw
              case rel => exact ⟨k + 1, a, t, saidI [] c, l, r', a9, aT, n9, c9, nB' - 1, cB' - 1, by omega, by go_num, rfl, rfl, rfl, rfl, HM2, N92, NT2, HB2⟩
              case measure => simp [intOf]; omega
        | cons e l =>
          cases lb with
          | nil =>
            have hnB : nB' = 0 := by have := hlB.out; simpa using this.symm
            subst hnB
            cases q
            all_goals
              obtain ⟨r', hr1, hm2⟩ := may_a a b e l [] r HM.out
              have HM2 := hid hm2
              have hnz : 0 < nA' := by have := hlA.out; rw [← this]; simp
              have hnz2 : ((nA' : Int) == 0) = false := by rw [beq_eq_false_iff_ne]; omega
              obtain ⟨b0, off0, hadr, z1, z2, z3⟩ := NA.out.cells hnz
              have hcx : wr.cell? ⟨b0, off0, none⟩ = some (.int .i64 e) := by have := z3 0 hnz; rw [Nat.add_zero] at this; exact this
              subst hadr
              obtain ⟨aT, hsl, hNT⟩ := ev_tail NA.out
              have NT := hid hNT
              have KS := hid (fun w => step_any a e w)
              have hcb := act_bd a e
              obtain ⟨t, ht⟩ : ∃ t, t = toI a e := ⟨_, rfl⟩
              obtain ⟨c, hcc⟩ : ∃ c, c = actI a e := ⟨_, rfl⟩
              rw [← ht, ← hcc] at KS HM2
              rw [← hcc] at hcb
              have hn9 : 0 ≤ 1000 := by decide
              clear ht hcc z3 hm2 hNT
              go_upto_region 17 with (go_at_call 30; ((with_reducible refine (KS.out wr).mono ?_); rintro e wa ⟨rfl, ba⟩))
              have NO := hid ((NB.out.below ba).mono ba.size)
              have NT1 := hid ((NT.out.below ba).mono ba.size)
              have HB1 := hid (HB.out.trans (ba.mono HB.out.size))
              go_region_with (go_at_call 35; ((with_reducible refine (said_any _ NO.out.drew hn9 (Nat.le_refl _) c (by omega)).mono ?_); rintro e wz ⟨a9, n9, c9, rfl, h9, bz⟩; have N92 := hid h9; have bz2 := hid ((Below.refl wa.heap.size wa).drew.trans bz); clear h9))
              have NT2 := hid ((NT1.out.below bz2.out).mono bz2.out.size)
              have HB2 := hid (HB1.out.trans (bz2.out.mono HB1.out.size))
              clear NT1 NO NT bz2
              go_wp2_with fail
              go_roundw
              case rel => exact ⟨k + 1, t, b, l, saidI [] c, r', aT, a9, nA' - 1, cA' - 1, n9, c9, by omega, by go_num, rfl, rfl, rfl, rfl, HM2, NT2, N92, HB2⟩
              case measure => simp [intOf]; omega
          | cons e2 l2 =>
            cases q
            · skip
              obtain ⟨r', hr1, hm2⟩ := may_b a b e2 l2 (e :: l) r HM.out
              have HM2 := hid hm2
              have hnz : 0 < nB' := by have := hlB.out; rw [← this]; simp
              have hnz2 : ((nB' : Int) == 0) = false := by rw [beq_eq_false_iff_ne]; omega
              obtain ⟨b0, off0, hadr, z1, z2, z3⟩ := NB.out.cells hnz
              have hcx : wr.cell? ⟨b0, off0, none⟩ = some (.int .i64 e2) := by have := z3 0 hnz; rw [Nat.add_zero] at this; exact this
              subst hadr
              obtain ⟨aT, hsl, hNT⟩ := ev_tail NB.out
              have NT := hid hNT
              have KS := hid (fun w => step_any b e2 w)
              have hcb := act_bd b e2
              obtain ⟨t, ht⟩ : ∃ t, t = toI b e2 := ⟨_, rfl⟩
              obtain ⟨c, hcc⟩ : ∃ c, c = actI b e2 := ⟨_, rfl⟩
              rw [← ht, ← hcc] at KS HM2
              rw [← hcc] at hcb
              have hn9 : nA' ≤ 1000 := by have h9 := hlA.out; simp only [List.length_cons] at h9 d1 d2; omega
              clear ht hcc z3 hm2 hNT
              go_upto_region 19 with (go_at_call 30; ((with_reducible refine (KS.out wr).mono ?_); rintro e wa ⟨rfl, ba⟩))
              have NO := hid ((NA.out.below ba).mono ba.size)
              have NT1 := hid ((NT.out.below ba).mono ba.size)
              have HB1 := hid (HB.out.trans (ba.mono HB.out.size))
              go_region_with (go_at_call 35; ((with_reducible refine (said_any _ NO.out.drew hn9 (Nat.le_refl _) c (by omega)).mono ?_); rintro e wz ⟨a9, n9, c9, rfl, h9, bz⟩; have N92 := hid h9; have bz2 := hid ((Below.refl wa.heap.size wa).drew.trans bz); clear h9))
              have NT2 := hid ((NT1.out.below bz2.out).mono bz2.out.size)
              have HB2 := hid (HB1.out.trans (bz2.out.mono HB1.out.size))
              clear NT1 NO NT bz2
              go_wp2_with fail
              go_roundw
              case rel => exact ⟨k + 1, a, t, saidI (e :: l) c, l2, r', a9, aT, n9, c9, nB' - 1, cB' - 1, by omega, by go_num, rfl, rfl, rfl, rfl, HM2, N92, NT2, HB2⟩
              case measure => simp [intOf]; omega
            · skip
              obtain ⟨r', hr1, hm2⟩ := may_a a b e l (e2 :: l2) r HM.out
              have HM2 := hid hm2
              have hnz : 0 < nA' := by have := hlA.out; rw [← this]; simp
              have hnz2 : ((nA' : Int) == 0) = false := by rw [beq_eq_false_iff_ne]; omega
              obtain ⟨b0, off0, hadr, z1, z2, z3⟩ := NA.out.cells hnz
              have hcx : wr.cell? ⟨b0, off0, none⟩ = some (.int .i64 e) := by have := z3 0 hnz; rw [Nat.add_zero] at this; exact this
              subst hadr
              obtain ⟨aT, hsl, hNT⟩ := ev_tail NA.out
              have NT := hid hNT
              have KS := hid (fun w => step_any a e w)
              have hcb := act_bd a e
              obtain ⟨t, ht⟩ : ∃ t, t = toI a e := ⟨_, rfl⟩
              obtain ⟨c, hcc⟩ : ∃ c, c = actI a e := ⟨_, rfl⟩
              rw [← ht, ← hcc] at KS HM2
              rw [← hcc] at hcb
              have hn9 : nB' ≤ 1000 := by have h9 := hlB.out; simp only [List.length_cons] at h9 d1 d2; omega
              clear ht hcc z3 hm2 hNT
              go_upto_region 17 with (go_at_call 30; ((with_reducible refine (KS.out wr).mono ?_); rintro e wa ⟨rfl, ba⟩))
              have NO := hid ((NB.out.below ba).mono ba.size)
              have NT1 := hid ((NT.out.below ba).mono ba.size)
              have HB1 := hid (HB.out.trans (ba.mono HB.out.size))
              go_region_with (go_at_call 35; ((with_reducible refine (said_any _ NO.out.drew hn9 (Nat.le_refl _) c (by omega)).mono ?_); rintro e wz ⟨a9, n9, c9, rfl, h9, bz⟩; have N92 := hid h9; have bz2 := hid ((Below.refl wa.heap.size wa).drew.trans bz); clear h9))
              have NT2 := hid ((NT1.out.below bz2.out).mono bz2.out.size)
              have HB2 := hid (HB1.out.trans (bz2.out.mono HB1.out.size))
              clear NT1 NO NT bz2
              go_wp2_with fail
              go_roundw
              case rel => exact ⟨k + 1, t, b, l, saidI (e2 :: l2) c, r', aT, a9, nA' - 1, cA' - 1, n9, c9, by omega, by go_num, rfl, rfl, rfl, rfl, HM2, NT2, N92, HB2⟩
              case measure => simp [intOf]; omega
set_option maxRecDepth 100000 in
theorem lifted (os : Os) (started : os.Started) (H : Type) (enc : TypeId × Value → H) :
    ReturnsInHanded {} Try.checked os 9 .any (Rows.fsmMeetsSpec.pre6 enc Try.prog Try.f9 Rows.fsmMeetsRow.domain false) (Rows.fsmMeetsSpec.post enc Try.prog Try.f9 false true false false) := by
  refine returnsInHanded_of_change (C := Try.checked) own started (by kernel_rfl) Try.func9
    (ChangeSpec.witness6 (enc := enc) (C := Try.checked) false ⟨#[], #[.slice none 0 0], []⟩ 8 (by kernel_rfl) (by kernel_rfl) (by kernel_rfl) (by kernel_rfl)) ?_
  intro W base args ds gs before hval0 hW hcnd _
  have hval : ∀ (j : Nat) t v, Try.f9.params[j]? = some t → args[j]? = some v → Value.okWide Try.prog W .any base t v := hval0
  have hW' := hW
  obtain ⟨p, q, hA0, hV, rfl, hfz, hnd⟩ := hW
  have hA : DataW.TrodAll enc Try.prog W 0 (fun _ => true) true Try.f9.params.toList args.toList ds p := hA0
  rw [Try.params9] at hA hval
  obtain ⟨v0, vs0, d0, ds0, p0, q0, hargs, rfl, rfl, h0, r0⟩ := trodAll_cons hA
  obtain ⟨rfl, rfl, rfl⟩ := trodAll_nil r0
  obtain rfl : args = #[v0] := by cases args; simp_all
  obtain ⟨rfl, rfl⟩ := trodVars_none hV
  have k0 := h0
  have o0 := hval 0 56 v0 rfl rfl
  have lt0 : ∀ x ∈ p0, x.block < W.heap.size := by obtain ⟨m, hm⟩ := k0; exact DataW.trod_lt m _ _ _ hm
  clear hA0 hval0
  refine (walk (H := H) (enc := enc) (base := base) v0 d0 p0 W k0 o0).mono fun e W' ⟨he, bel⟩ => ?_
  subst he
  exact ⟨_, rfl, _, _, _, [], _, [], hW', trodAll_mk1 (shut_bool Try.underlying4 _), (trodAll_cons_mk (Below.trod laidOut (by kernel_rfl) (of_decide_eq_true (by kernel_rfl)) k0 bel lt0) trodAll_mk0), rfl, bel.frame _, fun h => by cases h⟩

theorem over : Rows.fsmMeetsRow.holds Try.pinned (OpenSpec.ofChange Rows.fsmMeetsSpec) :=
  OpenClaim.holds_of_wide 9 Try.f9 rfl rfl rfl rfl rfl rfl rfl ⟨rfl, rfl, rfl, rfl, rfl⟩ rfl rfl rfl rfl rfl (by kernel_rfl) Try.func9 (by kernel_rfl)
    (of_decide_eq_true (by kernel_rfl)) (by unfold Func.isWrapper; first | (rw [if_pos (by decide +kernel)]; kernel_rfl) | (rw [if_neg (by decide +kernel)]; exact ⟨rfl, rfl⟩))
    (fun os started H enc _ => lifted os started H enc)

/-- the statement -/
theorem proved : Rows.FsmMeetsSaid := over
end Go.Proofs.Ytlfcjfmfkmcmiaa.fsmMeets
