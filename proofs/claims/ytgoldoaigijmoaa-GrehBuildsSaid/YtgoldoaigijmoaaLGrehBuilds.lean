/- catwalk's catwalklaw11.GrehBuilds answers true at every input, and leaves its arguments as they were. No condition. -/
import Derived.Test.YtgoldoaigijmoaaRows
import Derived.WalkKit
import Derived.ProofKit
import Derived.OpenShut
import Derived.ShutString
import Derived.ChangeOld
import Derived.Below
import Derived.Test.YtgoldoaigijmoaaGrehP
import Derived.Test.YtgoldoaigijmoaaGrehRP
import Derived.Test.YtgoldoaigijmoaaGrehLaw
import Derived.Test.YtgoldoaigijmoaaGrehBack
import Derived.Test.YtgoldoaigijmoaaOpen
import Derived.Deep.DeepCutAuto
import Derived.Deep.RegionWith
namespace Go.Proofs.Ytgoldoaigijmoaa.grehBuilds
open Go.ChangeShapes Go.WideShapes Go.ChangeAt Go.RowKit
open Go.ChangeMaps (open_string shut_string)
set_option linter.unusedVariables false

theorem own : ownKnob Try.prog.godebug = none := by kernel_rfl
theorem laidOut : laidOutB Try.prog = true := by kernel_rfl

open Go.Proofs.Ytgoldoaigijmoaa.kit Go.Proofs.Ytgoldoaigijmoaa.bec Go.Proofs.Ytgoldoaigijmoaa.grc

set_option maxHeartbeats 2000000 in
set_option maxRecDepth 100000 in
/-- the walk: true, and nothing that was there has turned -/
theorem walk {H : Type} {enc : TypeId × Value → H} {base : Nat} (v0 : Value) (d0 : DataW H) (p0 : List MemPlace) (w : World) (w0 : DataW.Trod enc Try.prog w 0 (fun _ => true) true 45 v0 d0 p0) (o0 : Value.okWide Try.prog w .any base 45 v0) :
    Calls Try.prog 6 #[v0] w fun e w' => e = .returned (.bool true) ∧ Below w.heap.size w w' := by
  obtain ⟨cs, n0, y0, rfl, hsz, hy⟩ := open_struct Try.underlying45 o0 w0
  obtain ⟨call, hf0, hcw⟩ := field_int Try.underlying45 hy 0 _ rfl Try.underlying42 (by kernel_rfl)
  obtain ⟨hs, hf1⟩ := field_bool Try.underlying45 hy 1 _ rfl Try.underlying4 (by kernel_rfl)
  obtain ⟨seq, hf2, hqw⟩ := field_int Try.underlying45 hy 2 _ rfl Try.underlying43 (by kernel_rfl)
  obtain ⟨ha, hf3⟩ := field_bool Try.underlying45 hy 3 _ rfl Try.underlying4 (by kernel_rfl)
  obtain ⟨ack, hf4, hkw⟩ := field_int Try.underlying45 hy 4 _ rfl Try.underlying43 (by kernel_rfl)
  obtain ⟨a, n, c, l, hf5, hN, hwf⟩ := field_nums Try.underlying45 hy 5 _ rfl Try.underlying22 Try.underlying5 (by kernel_rfl) (by kernel_rfl)
  obtain rfl := agg6 (hsz.trans (by kernel_rfl)) hf0 hf1 hf2 hf3 hf4 hf5
  have hO : Byt l := fun x hx => wf_u8 (hwf x hx)
  have hc := wf_u16 hcw
  have hq := wf_u32 hqw
  have hk := wf_u32 hkw
  clear w0 o0 hy hf0 hf1 hf2 hf3 hf4 hf5 hsz hwf hcw hqw hkw
  have hle := hN.le
  have hmx := hN.max
  unfold maxLen at hmx
  obtain ⟨W0, hW0⟩ : ∃ W0, W0 = w.alloc (.cells #[.int .u16 call, .bool hs, .int .u32 seq, .bool ha, .int .u32 ack, .slice a n c] 45) := ⟨_, rfl⟩
  have x0 : W0.cell? ⟨w.heap.size, 0, none⟩ = some (.int .u16 call) := by rw [hW0]; simp [go_sem]
  have x1 : W0.cell? ⟨w.heap.size, 1, none⟩ = some (.bool hs) := by rw [hW0]; simp [go_sem]
  have x2 : W0.cell? ⟨w.heap.size, 2, none⟩ = some (.int .u32 seq) := by rw [hW0]; simp [go_sem]
  have x3 : W0.cell? ⟨w.heap.size, 3, none⟩ = some (.bool ha) := by rw [hW0]; simp [go_sem]
  have x4 : W0.cell? ⟨w.heap.size, 4, none⟩ = some (.int .u32 ack) := by rw [hW0]; simp [go_sem]
  have x5 : W0.cell? ⟨w.heap.size, 5, none⟩ = some (.slice a n c) := by rw [hW0]; simp [go_sem]
  have b0 : Below w.heap.size w W0 := by rw [hW0]; exact (Below.refl _ _).alloc (Nat.le_refl _) _
  have s0 : St W0 W0 [(a, n, c, l)] := (St.start W0).push ((hN.below b0).mono b0.size)
  have HW := hid hW0
  clear hN hW0
  go_enter Try.func6, Try.ntmps6
  go_upto_region 1 with fail
  rw [← HW.out]
  by_cases hbig : 2000 < n
  · clear hO
    go_wp2_with fail
    go_ret
    exact ⟨rfl, b0⟩
  · have hln := (s0.get m0).len
    have PB := hid (fun (hr : rightT hs seq ha ack n = true) => parse_built call hc hs seq hq ha ack hk l (by rw [hln]; exact hr))
    have C1 := hid (build_any s0 m0 (by omega) call hc hs seq hq ha ack hk)
    have C2 := hid (fun (W : World) (L : List Sl) (s : St W0 W L) (hm : (a, n, c, l) ∈ L) => rbuild_any s hm (by omega) call hc hs seq hq ha ack hk)
    have R1 := hid (fun (W : World) => right_any call hs seq ha ack a n c W)
    have R2 := hid (fun (W : World) => rright_any call hs seq ha ack a n c W)
    have FB : Hid (rightT hs seq ha ack n = true → Byt (grB call hs seq ha ack l) ∧ (grB call hs seq ha ack l).length ≤ 3000) := fun hr => by
      unfold grB; rw [hln, if_pos hr]
      constructor
      · intro x hx
        rcases List.mem_append.1 hx with hx | hx
        · rcases List.mem_append.1 hx with hx | hx
          · rw [head_list call hc hs ha n (by omega)] at hx
            simp only [List.mem_cons, List.not_mem_nil, or_false] at hx
            have := bits_bd hs ha
            rcases hx with rfl | rfl | rfl | rfl | rfl | rfl | rfl | rfl <;> omega
          · unfold numsT at hx
            rcases List.mem_append.1 hx with hx | hx
            · split at hx
              · rw [be4e seq hq] at hx; simp only [List.mem_cons, List.not_mem_nil, or_false] at hx; rcases hx with rfl | rfl | rfl | rfl <;> omega
              · cases hx
            · split at hx
              · rw [be4e ack hk] at hx; simp only [List.mem_cons, List.not_mem_nil, or_false] at hx; rcases hx with rfl | rfl | rfl | rfl <;> omega
              · cases hx
        · exact hO x hx
      · rw [head_list call hc hs ha n (by omega), List.length_append, List.length_append, nums_len]
        unfold skipT
        simp only [List.length_cons, List.length_nil]
        split <;> split <;> omega
    obtain ⟨F, hF⟩ : ∃ F, F = grB call hs seq ha ack l := ⟨_, rfl⟩
    rw [← hF] at C1 PB FB
    have C2 : Hid (∀ (W : World) (L : List Sl) (s : St W0 W L) (hm : (a, n, c, l) ∈ L), Calls Try.prog 25 #[.agg #[.int .u16 call, .bool hs, .int .u32 seq, .bool ha, .int .u32 ack, .slice a n c]] W fun e W' => ∃ a' n' c', e = .returned (.slice a' n' c') ∧ St W0 W' ((a', n', c', F) :: L)) := by rw [hF]; exact C2.out
    obtain ⟨RT, hRT⟩ : ∃ RT, RT = rightT hs seq ha ack n := ⟨_, rfl⟩
    rw [← hRT] at PB R1 R2 FB
    have HO := hid hO
    have HRT := hid hRT
    clear hF hRT hln hO
    cases RT
    all_goals
      go_upto_region 4 with (go_at_call 24; ((with_reducible refine C1.out.mono ?_); rintro e w1 ⟨a3, n3, c3, rfl, s1⟩))
      have k1 := s1.below
      have p0 := keep_cell k1 x0
      have p1 := keep_cell k1 x1
      have p2 := keep_cell k1 x2
      have p3 := keep_cell k1 x3
      have p4 := keep_cell k1 x4
      have p5 := keep_cell k1 x5
      have HX : Hid (∀ wx : World, Below W0.heap.size W0 wx → wx.cell? ⟨w.heap.size, 0, none⟩ = some (.int .u16 call) ∧ wx.cell? ⟨w.heap.size, 1, none⟩ = some (.bool hs) ∧ wx.cell? ⟨w.heap.size, 2, none⟩ = some (.int .u32 seq) ∧ wx.cell? ⟨w.heap.size, 3, none⟩ = some (.bool ha) ∧ wx.cell? ⟨w.heap.size, 4, none⟩ = some (.int .u32 ack) ∧ wx.cell? ⟨w.heap.size, 5, none⟩ = some (.slice a n c)) := fun wx h => ⟨keep_cell h x0, keep_cell h x1, keep_cell h x2, keep_cell h x3, keep_cell h x4, keep_cell h x5⟩
      clear x0 x1 x2 x3 x4 x5
      go_cut [23] (fun s23 wx => s23 = .bool false ∧ ∃ L2, St W0 wx ((a3, n3, c3, F) :: (a, n, c, l) :: L2))
      case first =>
        go_region_with (first | (go_at_call 25; ((with_reducible refine (C2.out _ _ (s1.next (Below.refl _ _).drew) m1).mono ?_); rintro e w2 ⟨a4, n4, c4, rfl, s2⟩); obtain ⟨q0, q1, q2, q3, q4, q5⟩ := HX.out _ s2.below) | (go_at_call 14; ((with_reducible refine (grc.equal_st s2 (s2.get m1) (s2.get m0) rfl).mono ?_); rintro e w3 ⟨rfl, s3⟩); obtain ⟨r0, r1, r2, r3, r4, r5⟩ := HX.out _ s3.below) | (go_at_call 26; ((with_reducible refine (R1.out _).mono ?_); rintro e w4 ⟨rfl, b4⟩); have s4 := s3.next b4; obtain ⟨t0, t1, t2, t3, t4, t5⟩ := HX.out _ s4.below) | (go_at_call 27; ((with_reducible refine (R2.out _).mono ?_); rintro e w5 ⟨rfl, b5⟩)))
        all_goals
          go_wp2_with fail
          go_meet
          exact ⟨rfl, _, (s4.next b5).tl⟩
      case rest =>
        obtain ⟨rfl, L2, s6⟩ := hcut
        obtain ⟨r0, r1, r2, r3, r4, r5⟩ := HX.out _ s6.below
        first
        | (have hr : rightT hs seq ha ack n = true := HRT.out.symm
           have hfr := PB.out (by first | rfl | trivial)
           have fb := FB.out (by first | rfl | trivial)
           have PA := hid (fun (w W : World) (L : List Sl) (h : St w W L) (hm : (a3, n3, c3, F) ∈ L) => hfr ▸ parse_any h hm fb.1 (by have := (h.get hm).len; have := fb.2; omega))
           clear hr hfr fb PB C1 C2 R1
           go_upto_region 9 with (first | (go_at_call 27; ((with_reducible refine (R2.out _).mono ?_); rintro e w7 ⟨rfl, b7⟩); have s7 := s6.next b7) | (go_at_call 29; ((with_reducible refine (PA.out _ _ _ s7 m0).mono ?_); rintro e w8 ⟨a8, n8, c8, rfl, s8⟩)))
           have s9 := s8.next ((Below.refl _ _).alloc (Nat.le_refl _) (.cells #[.int .u16 call, .bool hs, .int .u32 seq, .bool ha, .int .u32 ack, .slice a8 n8 c8] 45))
           obtain ⟨v0, v1, v2, v3, v4, v5⟩ := HX.out _ s9.below
           clear r0 r1 r2 r3 r4 r5
           go_wp2_with (first | (go_at_call 30; ((with_reducible refine (same_st s9 m0 m2 call hs seq ha ack).mono ?_); rintro e w10 ⟨rfl, s10⟩)) | (go_at_call 28; ((with_reducible refine (grc.alive_st s10).mono ?_); rintro e w11 ⟨rfl, s11⟩)))
           go_ret
           exact ⟨rfl, b0.trans (s11.below.mono b0.size)⟩)
        | (go_wp2_with (first | (go_at_call 27; ((with_reducible refine (R2.out _).mono ?_); rintro e w7 ⟨rfl, b7⟩); have s7 := s6.next b7) | (go_at_call 28; ((with_reducible refine (grc.alive_st s7).mono ?_); rintro e w11 ⟨rfl, s11⟩)))
           go_ret
           exact ⟨rfl, b0.trans (s11.below.mono b0.size)⟩)
set_option maxRecDepth 100000 in
theorem lifted (os : Os) (started : os.Started) (H : Type) (enc : TypeId × Value → H) :
    ReturnsInHanded {} Try.checked os 6 .any (Rows.grehBuildsSpec.pre6 enc Try.prog Try.f6 Rows.grehBuildsRow.domain false) (Rows.grehBuildsSpec.post enc Try.prog Try.f6 false true false false) := by
  refine returnsInHanded_of_change (C := Try.checked) own started (by kernel_rfl) Try.func6
    (ChangeSpec.witness6 (enc := enc) (C := Try.checked) false ⟨#[], #[.agg #[.int .u16 0, .bool false, .int .u32 0, .bool false, .int .u32 0, .slice none 0 0]], []⟩ 8 (by kernel_rfl) (by kernel_rfl) (by kernel_rfl) (by kernel_rfl)) ?_
  intro W base args ds gs before hval0 hW hcnd _
  have hval : ∀ (j : Nat) t v, Try.f6.params[j]? = some t → args[j]? = some v → Value.okWide Try.prog W .any base t v := hval0
  have hW' := hW
  obtain ⟨p, q, hA0, hV, rfl, hfz, hnd⟩ := hW
  have hA : DataW.TrodAll enc Try.prog W 0 (fun _ => true) true Try.f6.params.toList args.toList ds p := hA0
  rw [Try.params6] at hA hval
  obtain ⟨v0, vs0, d0, ds0, p0, q0, hargs, rfl, rfl, h0, r0⟩ := trodAll_cons hA
  obtain ⟨rfl, rfl, rfl⟩ := trodAll_nil r0
  obtain rfl : args = #[v0] := by cases args; simp_all
  obtain ⟨rfl, rfl⟩ := trodVars_none hV
  have k0 := h0
  have o0 := hval 0 45 v0 rfl rfl
  have lt0 : ∀ x ∈ p0, x.block < W.heap.size := by obtain ⟨m, hm⟩ := k0; exact DataW.trod_lt m _ _ _ hm
  clear hA0 hval0
  refine (walk (H := H) (enc := enc) (base := base) v0 d0 p0 W k0 o0).mono fun e W' ⟨he, bel⟩ => ?_
  subst he
  exact ⟨_, rfl, _, _, _, [], _, [], hW', trodAll_mk1 (shut_bool Try.underlying4 _), (trodAll_cons_mk (Below.trod laidOut (by kernel_rfl) (of_decide_eq_true (by kernel_rfl)) k0 bel lt0) trodAll_mk0), rfl, bel.frame _, fun h => by cases h⟩

theorem over : Rows.grehBuildsRow.holds Try.pinned (OpenSpec.ofChange Rows.grehBuildsSpec) :=
  OpenClaim.holds_of_wide 6 Try.f6 rfl rfl rfl rfl rfl rfl rfl ⟨rfl, rfl, rfl, rfl, rfl⟩ rfl rfl rfl rfl rfl (by kernel_rfl) Try.func6 (by kernel_rfl)
    (of_decide_eq_true (by kernel_rfl)) (by unfold Func.isWrapper; first | (rw [if_pos (by decide +kernel)]; kernel_rfl) | (rw [if_neg (by decide +kernel)]; exact ⟨rfl, rfl⟩))
    (fun os started H enc _ => lifted os started H enc)

/-- the statement -/
theorem proved : Rows.GrehBuildsSaid := over
end Go.Proofs.Ytgoldoaigijmoaa.grehBuilds
