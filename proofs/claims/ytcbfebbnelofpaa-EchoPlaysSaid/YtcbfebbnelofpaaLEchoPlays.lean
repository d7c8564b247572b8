/- catwalk's catwalklaw23.EchoPlays answers true at every input, and leaves its arguments as they were. No condition. -/
import Derived.Test.YtcbfebbnelofpaaRows
import Derived.WalkKit
import Derived.ProofKit
import Derived.OpenShut
import Derived.ShutString
import Derived.ChangeOld
import Derived.Below
import Derived.Test.YtcbfebbnelofpaaEcho
import Derived.Test.YtcbfebbnelofpaaOpen
import Derived.Deep.DeepCutAuto
import Derived.Deep.CutBlock
namespace Go.Proofs.Ytcbfebbnelofpaa.echoPlays
open Go.ChangeShapes Go.WideShapes Go.ChangeAt Go.RowKit
open Go.ChangeMaps (open_string shut_string)
set_option linter.unusedVariables false

theorem own : ownKnob Try.prog.godebug = none := by kernel_rfl
theorem laidOut : laidOutB Try.prog = true := by kernel_rfl

open Go.Proofs.Ytcbfebbnelofpaa.kit Go.Proofs.Ytcbfebbnelofpaa.ecc
set_option maxHeartbeats 1000000 in
theorem alive_any (w : World) :
    Calls Try.prog 24 #[] w fun e w' => e = .returned (.bool true) ∧ Below w.heap.size w w' := by
  have B1 := hid (show Box (w.alloc (.cells #[.bool false, .int .i64 0, .int .u8 0, .int .i64 0] 47)) w.heap.size (ev false 0 0 0) from Box.made w _ _)
  have B0 := hid ((Below.refl w.heap.size w).alloc (Nat.le_refl _) (.cells #[.bool false, .int .i64 0, .int .u8 0, .int .i64 0] 47))
  have hs : w.heap.size < (w.alloc (.cells #[.bool false, .int .i64 0, .int .u8 0, .int .i64 0] 47)).heap.size := by simp
  go_enter Try.func24, Try.ntmps24
  go_wp2_with (first | (go_at_call 18; ((with_reducible refine (start_any _ _ _ _ _ _ 0 (by omega) (by omega) B1.out).mono ?_); rintro e w1 ⟨rfl, h1⟩; have H1 := hid h1; clear h1)) | (go_at_call 20; ((with_reducible refine (tick_ask _ _ _ _ _ 20 H1.out.box (by omega) (by omega) (by omega) (by omega) (by omega) (by omega)).mono ?_); rintro e w2 ⟨rfl, h2⟩; have H2 := hid h2; clear h2)) | (go_at_call 23; ((with_reducible refine (missed_any _ _ _ _ _ _ H2.out.box).mono ?_); rintro e w3 ⟨rfl, rfl⟩)))
  go_ret
  exact ⟨rfl, gb_below (gb_below B0.out H1.out.only (Nat.le_of_lt hs) (Nat.le_refl _)) H2.out.only (Nat.le_trans (Nat.le_of_lt hs) H1.out.only.size) (Nat.le_refl _)⟩

set_option maxHeartbeats 2000000 in
set_option maxRecDepth 100000 in
/-- the walk: true, and nothing that was there has turned -/
theorem walk {H : Type} {enc : TypeId × Value → H} {base : Nat} (v0 : Value) (d0 : DataW H) (p0 : List MemPlace) (w : World) (w0 : DataW.Trod enc Try.prog w 0 (fun _ => true) true 44 v0 d0 p0) (o0 : Value.okWide Try.prog w .any base 44 v0) :
    Calls Try.prog 5 #[v0] w fun e w' => e = .returned (.bool true) ∧ Below w.heap.size w w' := by
  obtain ⟨a0, len0, cap0, rfl⟩ := okWide_slice Try.underlying44 o0
  obtain ⟨ho1, ho2, _, ho4⟩ := slice_cells Try.underlying44 (C := 2) (by kernel_rfl) (by decide) w0
  have hops : ∀ i, i < len0 → ∃ b off kd n, a0 = some ⟨b, off, none⟩ ∧ b < w.heap.size ∧ w.cell? ⟨b, off + (i * 2 + 0), none⟩ = some (.int .i64 kd) ∧ w.cell? ⟨b, off + (i * 2 + 1), none⟩ = some (.int .i64 n) := by
    intro i hi
    obtain ⟨b, off, ha, hb, hc⟩ := ho4 (by omega)
    obtain ⟨cs, n, y, hl, hcell, hy⟩ := hc i hi
    obtain ⟨kd, h1, _⟩ := field_int Try.underlying52 hy 0 _ rfl Try.underlying3 (by kernel_rfl)
    obtain ⟨nn, h2, _⟩ := field_int Try.underlying52 hy 1 _ rfl Try.underlying3 (by kernel_rfl)
    exact ⟨b, off, kd, nn, ha, hb, (hcell 0 (by decide)).trans h1, (hcell 1 (by decide)).trans h2⟩
  unfold maxLen at ho2
  clear w0 o0 ho4
  by_cases hbig : 200 < len0
  · clear hops
    go_enter Try.func5, Try.ntmps5
    go_wp2
    go_ret
    exact ⟨rfl, Below.refl _ _⟩
  · have HO := hid hops
    clear hops
    have K0 := hid (Two.made w (ev false 0 0 0).toArray (lv false 0 0 0).toArray 47 50)
    go_enter Try.func5, Try.ntmps5
    go_wp2_with fail
    change Code.wp _ _ _ _ ((w.alloc (.cells (ev false 0 0 0).toArray 47)).alloc (.cells (lv false 0 0 0).toArray 50))
    generalize (w.alloc (.cells (ev false 0 0 0).toArray 47)).alloc (.cells (lv false 0 0 0).toArray 50) = W at *
    go_loopw [5, 6] (fun nv iv wr => ∃ (k : Nat) (now : Int) (on : Bool) (next : Int) (last : Nat) (miss : Int), k ≤ len0 ∧ iv = .int .i64 (k : Nat) ∧ nv = .int .i64 now ∧ 0 ≤ now ∧ now ≤ 1000 * k ∧ 0 ≤ miss ∧ miss ≤ 3 ∧ last < 256 ∧ Hid (Two w wr w.heap.size (w.heap.size + 1) (ev on next last miss) (lv on next last miss))) (fun _ iv _ => len0 - (intOf iv).toNat)
    case atStart => exact ⟨0, 0, false, 0, 0, 0, Nat.zero_le _, rfl, rfl, by omega, by omega, by omega, by omega, by omega, K0⟩
    case round =>
      clear K0
      obtain ⟨k, now, on, next, last, miss, hk, rfl, rfl, hn0, hn1, hm0, hm1, hl, HT⟩ := hrel
      by_cases hlt : k < len0
      · obtain ⟨b, off, kd, x, ha, hbw, hc0, hc1⟩ := HO.out k hlt
        subst ha
        have y0 : wr.cell? ⟨b, off + k * 2, none⟩ = some (.int .i64 kd) := (HT.out.b.cell (p := ⟨b, off + (k * 2 + 0), none⟩) hbw).trans hc0
        have y1 : wr.cell? ⟨b, off + k * 2 + 1, none⟩ = some (.int .i64 x) := (HT.out.b.cell (p := ⟨b, off + (k * 2 + 1), none⟩) hbw).trans hc1
        clear hc0 hc1 HO
        by_cases hbad : kd < 0 ∨ x < 0 ∨ 1000 < x
        · have HB := hid HT.out.b
          clear HT
          by_cases hkd : kd < 0
          · go_wp2_with fail
            go_ret
            exact ⟨rfl, HB.out⟩
          · by_cases hx0 : x < 0
            · go_wp2_with fail
              go_ret
              exact ⟨rfl, HB.out⟩
            · have hx1 : 1000 < x := by omega
              go_wp2_with fail
              go_ret
              exact ⟨rfl, HB.out⟩
        · have hkd : ¬ kd < 0 := by omega
          have hx0 : ¬ x < 0 := by omega
          have hx1 : ¬ 1000 < x := by omega
          clear hbad
          go_upto_block 2 with fail
          go_cut [5, 6] (fun nv iv wx => ∃ (now : Int) (on : Bool) (next : Int) (last : Nat) (miss : Int), iv = .int .i64 (k : Nat) ∧ nv = .int .i64 now ∧ 0 ≤ now ∧ now ≤ 1000 * (k + 1) ∧ 0 ≤ miss ∧ miss ≤ 3 ∧ last < 256 ∧ Hid (Two w wx w.heap.size (w.heap.size + 1) (ev on next last miss) (lv on next last miss)))
          case first =>
            have t0 := HT.out.q.at_ 0 _ rfl
            have t1 := HT.out.q.at_ 1 _ rfl
            have t2 := HT.out.q.at_ 2 _ rfl
            have t3 := HT.out.q.at_ 3 _ rfl
            have f0 := HT.out.q.fr 0
            have f1 := HT.out.q.fr 1
            have f2 := HT.out.q.fr 2
            by_cases h3 : kd % 6 = 3
            · have g3 : ((kd % 6) == 3) = true := by simpa using h3
              clear h3
              obtain ⟨m, hm, hm2⟩ : ∃ m : Nat, Int.tmod x 256 = m ∧ m < 256 := ⟨(x % 256).toNat, by rw [Int.tmod_eq_emod_of_nonneg (by omega)]; omega, by omega⟩
              have hc : IntKind.u8.wrap (m : Int) = m := by rw [IntKind.wrap_u8]; omega
              obtain ⟨id, hid1, hid2⟩ : ∃ id : Nat, IntKind.u8.wrap ((last : Int) - m) = id ∧ (id = last ↔ m = 0) := ⟨((last + 256 - m) % 256), by rw [IntKind.wrap_u8]; omega, by omega⟩
              have HID := hid hid2
              clear hid2
              go_upto_region 17 with fail
              go_quiet (fail)
              clear hm hc hid1
              cases on with
              | false =>
                go_wp2_with (go_at_call 17; ((with_reducible refine (heard_no _ _ _ _ _ _ id (HT.out.drewN _).p (.inl rfl)).mono ?_); rintro e w1 ⟨rfl, rfl⟩))
                go_meet
                exact ⟨now, false, next, last, miss, rfl, rfl, hn0, by omega, hm0, hm1, hl, hid (HT.out.drewN _)⟩
              | true =>
                by_cases hz : miss = 0
                · subst hz
                  go_wp2_with (go_at_call 17; ((with_reducible refine (heard_no _ _ _ _ _ _ id (HT.out.drewN _).p (.inr (.inl rfl))).mono ?_); rintro e w1 ⟨rfl, rfl⟩))
                  go_meet
                  exact ⟨now, true, next, last, 0, rfl, rfl, hn0, by omega, hm0, hm1, hl, hid (HT.out.drewN _)⟩
                · have hpos : 0 < miss := by omega
                  clear hz
                  by_cases hl2 : id = last
                  · subst hl2
                    go_wp2_with (go_at_call 17; ((with_reducible refine (heard_yes _ _ _ _ _ (((HT.out.drewN _).setQ 2 (.int .i64 0))).p hpos).mono ?_); rintro e w1 ⟨rfl, h1⟩; have H1 := hid h1; clear h1))
                    go_meet
                    exact ⟨now, true, next, id, 0, rfl, rfl, hn0, by omega, by omega, by omega, hl, hid (((HT.out.drewN _).setQ 2 _).wroteP H1.out)⟩
                  · have he : ((id : Int) == last) = false := by simp; omega
                    have HNE := hid hl2
                    clear hl2
                    go_wp2_with (go_at_call 17; ((with_reducible refine (heard_no _ _ _ _ _ _ id (HT.out.drewN _).p (.inr (.inr HNE.out))).mono ?_); rintro e w1 ⟨rfl, rfl⟩))
                    go_meet
                    exact ⟨now, true, next, last, miss, rfl, rfl, hn0, by omega, hm0, hm1, hl, hid (HT.out.drewN _)⟩
            · by_cases h4 : kd % 6 = 4
              · have g3 : ((kd % 6) == 3) = false := by simpa using h3
                have g4 : ((kd % 6) == 4) = true := by simpa using h4
                clear h3 h4
                go_wp2_with (go_at_call 18; ((with_reducible refine (start_any _ _ _ _ _ _ _ hn0 (by omega) HT.out.p).mono ?_); rintro e w1 ⟨rfl, h1⟩; have k1 := HT.out.wroteP h1; have s0 := k1.q.at_ 0 _ rfl; have s1 := k1.q.at_ 1 _ rfl; have s2 := k1.q.at_ 2 _ rfl; have s3 := k1.q.fr 0; have s4 := k1.q.fr 1; have s5 := k1.q.fr 2; have H1 := hid k1; clear k1 h1))
                go_meet
                exact ⟨now, true, now + 20, last, 0, rfl, rfl, hn0, by omega, by omega, by omega, hl, hid (((H1.out.setQ 0 (.bool true)).setQ 1 (.int .i64 (now + 20))).setQ 2 (.int .i64 0))⟩
              · by_cases h5 : kd % 6 = 5
                · have g3 : ((kd % 6) == 3) = false := by simpa using h3
                  have g4 : ((kd % 6) == 4) = false := by simpa using h4
                  have g5 : ((kd % 6) == 5) = true := by simpa using h5
                  clear h3 h4 h5
                  go_wp2_with (go_at_call 19; ((with_reducible refine (stop_any _ _ _ _ _ _ HT.out.p).mono ?_); rintro e w1 ⟨rfl, h1⟩; have k1 := HT.out.wroteP h1; have s0 := k1.q.at_ 0 _ rfl; have s1 := k1.q.at_ 1 _ rfl; have s2 := k1.q.at_ 2 _ rfl; have s3 := k1.q.fr 0; have s4 := k1.q.fr 1; have s5 := k1.q.fr 2; have H1 := hid k1; clear k1 h1))
                  go_meet
                  exact ⟨now, false, next, last, miss, rfl, rfl, hn0, by omega, hm0, hm1, hl, hid (H1.out.setQ 0 (.bool false))⟩
                · have g3 : ((kd % 6) == 3) = false := by simpa using h3
                  have g4 : ((kd % 6) == 4) = false := by simpa using h4
                  have g5 : ((kd % 6) == 5) = false := by simpa using h5
                  clear h3 h4 h5
                  by_cases hno : on = false ∨ now + x < next
                  · go_wp2_with (first | (go_at_call 20; ((with_reducible refine (tick_no _ _ _ _ _ _ _ HT.out.p hno).mono ?_); rintro e w1 ⟨rfl, rfl⟩)) | (go_at_call 21; ((with_reducible refine (ltick_no _ _ _ _ _ _ _ HT.out.q hno).mono ?_); rintro e w1 ⟨rfl, rfl⟩)))
                    go_meet
                    exact ⟨now + x, on, next, last, miss, rfl, rfl, by omega, by omega, hm0, hm1, hl, HT⟩
                  · obtain ⟨rfl, hnx⟩ : on = true ∧ next ≤ now + x := by
                      constructor
                      · cases on
                        · exact absurd (.inl rfl) hno
                        · rfl
                      · omega
                    clear hno
                    by_cases h3m : miss = 3
                    · subst h3m
                      go_wp2_with (first | (go_at_call 20; ((with_reducible refine (tick_gone _ _ _ _ _ _ HT.out.p hnx (by omega)).mono ?_); rintro e w1 ⟨rfl, rfl⟩)) | (go_at_call 21; ((with_reducible refine (ltick_gone _ _ _ _ _ HT.out.q hnx).mono ?_); rintro e w1 ⟨rfl, rfl⟩)))
                      go_meet
                      exact ⟨now + x, true, next, last, 3, rfl, rfl, by omega, by omega, hm0, hm1, hl, HT⟩
                    · have hlt3 : miss < 3 := by omega
                      clear h3m
                      go_wp2_with (first | (go_at_call 20; ((with_reducible refine (tick_ask _ _ _ _ _ _ HT.out.p hnx hm0 hlt3 (by omega) (by omega) hl).mono ?_); rintro e w1 ⟨rfl, h1⟩; have H1 := hid (HT.out.wroteP h1); clear h1)) | (go_at_call 21; ((with_reducible refine (ltick_ask _ _ _ _ _ _ H1.out.q hnx hm0 hlt3 (by omega) (by omega) hl).mono ?_); rintro e w2 ⟨rfl, h2⟩; have H2 := hid (H1.out.wroteQ h2); clear h2)))
                      go_meet
                      exact ⟨now + x, true, now + x + 20, (last + 1) % 256, miss + 1, rfl, rfl, by omega, by omega, by omega, by omega, by omega, H2⟩
          case rest =>
            obtain ⟨now2, on2, next2, last2, miss2, rfl, rfl, i0, i1, i2, i3, i4, HT2⟩ := hcut
            clear HT
            have t0 := HT2.out.q.at_ 0 _ rfl
            have t2 := HT2.out.q.at_ 2 _ rfl
            go_upto_region 29 with fail
            go_quiet ((first | (go_at_call 22; exact quiet_l (on_any _ _ _ _ _ _ (HT2.out.drewN _).p)) | (go_at_call 23; exact quiet_l (missed_any _ _ _ _ _ _ (HT2.out.drewN _).p))))
            go_wp2_with fail
            go_roundw
            case rel => exact ⟨k + 1, now2, on2, next2, last2, miss2, by omega, by go_num, rfl, i0, by omega, i2, i3, i4, hid (HT2.out.drewN _)⟩
            case measure => simp [intOf]; omega
      · obtain rfl : k = len0 := by omega
        have HB := hid HT.out.b
        clear HT
        go_wp2_with (go_at_call 24; ((with_reducible refine (alive_any _).mono ?_); rintro e wb ⟨rfl, h11⟩))
        go_ret
        exact ⟨rfl, HB.out.trans (h11.mono HB.out.size)⟩
set_option maxRecDepth 100000 in
theorem lifted (os : Os) (started : os.Started) (H : Type) (enc : TypeId × Value → H) :
    ReturnsInHanded {} Try.checked os 5 .any (Rows.echoPlaysSpec.pre6 enc Try.prog Try.f5 Rows.echoPlaysRow.domain false) (Rows.echoPlaysSpec.post enc Try.prog Try.f5 false true false false) := by
  refine returnsInHanded_of_change (C := Try.checked) own started (by kernel_rfl) Try.func5
    (ChangeSpec.witness6 (enc := enc) (C := Try.checked) false ⟨#[], #[.slice none 0 0], []⟩ 8 (by kernel_rfl) (by kernel_rfl) (by kernel_rfl) (by kernel_rfl)) ?_
  intro W base args ds gs before hval0 hW hcnd _
  have hval : ∀ (j : Nat) t v, Try.f5.params[j]? = some t → args[j]? = some v → Value.okWide Try.prog W .any base t v := hval0
  have hW' := hW
  obtain ⟨p, q, hA0, hV, rfl, hfz, hnd⟩ := hW
  have hA : DataW.TrodAll enc Try.prog W 0 (fun _ => true) true Try.f5.params.toList args.toList ds p := hA0
  rw [Try.params5] at hA hval
  obtain ⟨v0, vs0, d0, ds0, p0, q0, hargs, rfl, rfl, h0, r0⟩ := trodAll_cons hA
  obtain ⟨rfl, rfl, rfl⟩ := trodAll_nil r0
  obtain rfl : args = #[v0] := by cases args; simp_all
  obtain ⟨rfl, rfl⟩ := trodVars_none hV
  have k0 := h0
  have o0 := hval 0 44 v0 rfl rfl
  have lt0 : ∀ x ∈ p0, x.block < W.heap.size := by obtain ⟨m, hm⟩ := k0; exact DataW.trod_lt m _ _ _ hm
  clear hA0 hval0
  refine (walk (H := H) (enc := enc) (base := base) v0 d0 p0 W k0 o0).mono fun e W' ⟨he, bel⟩ => ?_
  subst he
  exact ⟨_, rfl, _, _, _, [], _, [], hW', trodAll_mk1 (shut_bool Try.underlying4 _), (trodAll_cons_mk (Below.trod laidOut (by kernel_rfl) (of_decide_eq_true (by kernel_rfl)) k0 bel lt0) trodAll_mk0), rfl, bel.frame _, fun h => by cases h⟩

theorem over : Rows.echoPlaysRow.holds Try.pinned (OpenSpec.ofChange Rows.echoPlaysSpec) :=
  OpenClaim.holds_of_wide 5 Try.f5 rfl rfl rfl rfl rfl rfl rfl ⟨rfl, rfl, rfl, rfl, rfl⟩ rfl rfl rfl rfl rfl (by kernel_rfl) Try.func5 (by kernel_rfl)
    (of_decide_eq_true (by kernel_rfl)) (by unfold Func.isWrapper; first | (rw [if_pos (by decide +kernel)]; kernel_rfl) | (rw [if_neg (by decide +kernel)]; exact ⟨rfl, rfl⟩))
    (fun os started H enc _ => lifted os started H enc)

/-- the statement -/
theorem proved : Rows.EchoPlaysSaid := over
end Go.Proofs.Ytcbfebbnelofpaa.echoPlays
