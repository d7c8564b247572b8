/- catwalk's catwalklaw12.FrameBuilds answers true at every input, and leaves its arguments as they were. No condition. -/
import Derived.Test.YtgoldoaigijmoaaRows
import Derived.WalkKit
import Derived.ProofKit
import Derived.OpenShut
import Derived.ShutString
import Derived.ChangeOld
import Derived.Below
import Derived.Test.YtgoldoaigijmoaaFrameRef
import Derived.Test.YtgoldoaigijmoaaFrameP
import Derived.Test.YtgoldoaigijmoaaFrameRefP
import Derived.Test.YtgoldoaigijmoaaFrameLaw
import Derived.Test.YtgoldoaigijmoaaOpen
import Derived.Deep.DeepCutAuto
namespace Go.Proofs.Ytgoldoaigijmoaa.frameBuilds
open Go.ChangeShapes Go.WideShapes Go.ChangeAt Go.RowKit
open Go.ChangeMaps (open_string shut_string)
set_option linter.unusedVariables false

theorem own : ownKnob Try.prog.godebug = none := by kernel_rfl
theorem laidOut : laidOutB Try.prog = true := by kernel_rfl

open Go.Proofs.Ytgoldoaigijmoaa.kit Go.Proofs.Ytgoldoaigijmoaa.bec Go.Proofs.Ytgoldoaigijmoaa.frc
theorem frT_proto (p : Int) (hp : 0 ≤ p ∧ p ≤ 65535) (short : Bool) (l : List Int) (hr : rightB p = true) : frT (protoB p short ++ l) = (p, l, 0) := by
  have h1 : p % 2 = 1 := by unfold rightB at hr; simp at hr; exact hr.1
  have h2 : p / 256 % 2 = 0 := by unfold rightB at hr; simp at hr; exact hr.2
  unfold protoB
  split
  · rw [List.singleton_append, frT.eq_def]; simp only [h1]; rfl
  · have e1 : ¬ p / 256 % 2 = 1 := by omega
    have e2 : p % 256 % 2 = 1 := by omega
    rw [List.cons_append, List.singleton_append, frT.eq_def]; simp only [e2]
    rw [if_neg e1, if_pos trivial]
    congr 1; omega
theorem parse_built (p : Int) (hp : 0 ≤ p ∧ p ≤ 65535) (bare short : Bool) (l : List Int) (hb : Byt (frB p bare short l)) (hr : rightB p = true) (hc : ¬ (Go.Proofs.Ytgoldoaigijmoaa.frc.ahead (frB p bare short l) = 2 ∧ bare = true ∧ p ≠ 49185)) : frP (frB p bare short l) = (p, l, 0) := by
  unfold frP
  rw [skip_ahead hb]
  by_cases h : bare = true ∧ p ≠ 49185
  · have h0 : Go.Proofs.Ytgoldoaigijmoaa.frc.ahead (frB p bare short l) = 0 := by rcases (ahead_le (frB p bare short l)).2 with h0 | h0; exact h0; exact absurd ⟨h0, h⟩ hc
    rw [h0, List.drop_zero]
    have e : headB p bare = [] := by unfold headB; rw [if_neg (by simp [h.1, h.2])]
    unfold frB; rw [e, List.nil_append]
    exact frT_proto p hp short l hr
  · have e : headB p bare = [255, 3] := by
      unfold headB; rw [if_pos]
      cases bare
      · simp
      · simp at h; simp [h]
    have h0 : Go.Proofs.Ytgoldoaigijmoaa.frc.ahead (frB p bare short l) = 2 := by
      unfold Go.Proofs.Ytgoldoaigijmoaa.frc.ahead frB; rw [e, if_pos]
      exact ⟨by simp, by simp, by simp⟩
    rw [h0]
    unfold frB; rw [e]
    exact frT_proto p hp short l hr
theorem frB_byt (p : Int) (hp : 0 ≤ p ∧ p ≤ 65535) (bare short : Bool) (l : List Int) (hb : Byt l) : Byt (frB p bare short l) := by
  intro x hx
  unfold frB headB protoB at hx
  rcases List.mem_append.1 hx with hx | hx
  · rcases List.mem_append.1 hx with hx | hx
    · split at hx
      · simp at hx; omega
      · cases hx
    · split at hx
      · rename_i h; simp at h hx; omega
      · simp at hx; omega
  · exact hb x hx
theorem frB_len (p : Int) (bare short : Bool) (l : List Int) : (frB p bare short l).length ≤ l.length + 4 := by
  unfold frB headB protoB
  simp only [List.length_append]
  split <;> split <;> simp <;> omega
theorem at_ahead {F : List Int} {n : Nat} (hn : F.length = n) : decide (Go.Proofs.Ytgoldoaigijmoaa.frc.ahead F = 2) = (decide (1 < n) && (F.getD 0 0 == 255) && (F.getD 1 0 == 3)) := by
  subst hn
  unfold Go.Proofs.Ytgoldoaigijmoaa.frc.ahead
  by_cases h : 2 ≤ F.length ∧ F.getD 0 0 = 255 ∧ F.getD 1 0 = 3
  · rw [if_pos h]
    obtain ⟨h1, h2, h3⟩ := h
    rw [h2, h3]; simp; omega
  · rw [if_neg h]
    symm
    rw [show decide ((0 : Nat) = 2) = false from rfl]
    rw [Bool.eq_false_iff]
    intro hh
    rw [Bool.and_eq_true, Bool.and_eq_true, decide_eq_true_iff, beq_iff_eq, beq_iff_eq] at hh
    exact h ⟨by omega, hh.1.2, hh.2⟩

set_option maxHeartbeats 1000000 in
set_option maxRecDepth 100000 in
/-- the walk: true, and nothing that was there has turned -/
theorem walk {H : Type} {enc : TypeId × Value → H} {base : Nat} (v0 : Value) (d0 : DataW H) (p0 : List MemPlace) (a1 : Bool) (a2 : Bool) (w : World) (w0 : DataW.Trod enc Try.prog w 0 (fun _ => true) true 54 v0 d0 p0) (o0 : Value.okWide Try.prog w .any base 54 v0) :
    Calls Try.prog 9 #[v0, .bool a1, .bool a2] w fun e w' => e = .returned (.bool true) ∧ Below w.heap.size w w' := by
  obtain ⟨cs, n0, y0, rfl, hsz, hy⟩ := open_struct Try.underlying54 o0 w0
  obtain ⟨p, hf0, hp⟩ := field_int Try.underlying54 hy 0 _ rfl Try.underlying42 (by kernel_rfl)
  obtain ⟨a, n, c, l, hf1, hN, hwf⟩ := field_nums Try.underlying54 hy 1 _ rfl Try.underlying22 Try.underlying5 (by kernel_rfl) (by kernel_rfl)
  obtain rfl := agg2 (hsz.trans (by kernel_rfl)) hf0 hf1
  have hO : Byt l := fun x hx => wf_u8 (hwf x hx)
  have hp := wf_u16 hp
  clear w0 o0 hy hf0 hf1 hsz hwf
  have hle := hN.le
  have hmx := hN.max
  unfold maxLen at hmx
  obtain ⟨W0, hW0⟩ : ∃ W0, W0 = w.alloc (.cells #[.int .u16 p, .slice a n c] 54) := ⟨_, rfl⟩
  have c0 : W0.cell? ⟨w.heap.size, 0, none⟩ = some (.int .u16 p) := by rw [hW0]; simp [go_sem]
  have c1 : W0.cell? ⟨w.heap.size, 1, none⟩ = some (.slice a n c) := by rw [hW0]; simp [go_sem]
  have b0 : Below w.heap.size w W0 := by rw [hW0]; exact (Below.refl _ _).alloc (Nat.le_refl _) _
  have s0 : St W0 W0 [(a, n, c, l)] := (St.start W0).push ((hN.below b0).mono b0.size)
  have HW := hid hW0
  clear hN hW0
  go_enter Try.func9, Try.ntmps9
  go_upto_region 1 with fail
  rw [← HW.out]
  by_cases hbig : 2000 < n
  · clear hO
    go_wp2_with fail
    go_ret
    exact ⟨rfl, b0⟩
  · obtain ⟨F, hF⟩ : ∃ F, F = frB p a1 a2 l := ⟨_, rfl⟩
    have HF := hid (hF ▸ frB_byt p hp a1 a2 l hO)
    have hlF : F.length ≤ 2004 := by rw [hF]; have := frB_len p a1 a2 l; have := (s0.get m0).len; omega
    have C1 := hid (hF ▸ build_any s0 m0 (by omega) p hp a1 a2)
    have C2 := hid (fun (W : World) (L : List Sl) (s : St W0 W L) (hm : (a, n, c, l) ∈ L) => hF ▸ rbuild_any s hm (by omega) p hp a1 a2)
    have HP := hid (fun (h1 : rightB p = true) (h2 : ¬ (Go.Proofs.Ytgoldoaigijmoaa.frc.ahead F = 2 ∧ a1 = true ∧ p ≠ 49185)) => hF ▸ parse_built p hp a1 a2 l (hF ▸ HF.out) h1 (hF ▸ h2))
    have RR := hid (fun (w : World) => rright_any w p hp)
    clear hF hO
    go_upto_region 6 with (first | (go_at_call 37; ((with_reducible refine C1.out.mono ?_); rintro e w1 ⟨a3, n3, c3, rfl, s1⟩); have d0 := keep_cell s1.below c0; have d1 := keep_cell s1.below c1) | (go_at_call 38; ((with_reducible refine (C2.out _ _ s1 m1).mono ?_); rintro e w2 ⟨a4, n4, c4, rfl, s2⟩)) | (go_at_call 14; ((with_reducible refine (frc.equal_st s2 (s2.get m1) (s2.get m0) rfl).mono ?_); rintro e w3 ⟨rfl, s3⟩)))
    have e0 := keep_cell s3.below c0
    have e1 := keep_cell s3.below c1
    have g0 := c0
    have g1 := c1
    clear d0 d1 c0 c1 s1 s2 C1 C2
    have N3 := s3.get m1
    have hn3 := N3.len
    have hle3 := N3.le
    have AH := hid (at_ahead hn3)
    obtain ⟨Q, hQ⟩ : ∃ Q, Q = (!rightB p || (decide (Go.Proofs.Ytgoldoaigijmoaa.frc.ahead F = 2) && a1 && decide (p ≠ 49185))) := ⟨_, rfl⟩
    have HQ := hid hQ
    have NC : Hid (∀ j, j < n3 → ∃ b off, a3 = some ⟨b, off, none⟩ ∧ w3.cell? ⟨b, off + j, none⟩ = some (.int .u8 (F.getD j 0))) := fun j hj => by
      obtain ⟨b, off, ha, _, _, hc⟩ := N3.cells (by omega)
      exact ⟨b, off, ha, hc j hj⟩
    have HN3 := hid hn3
    clear hQ N3 hn3
    go_cut [54] (fun s54 wx => s54 = .bool Q ∧ wx = w3)
    case first =>
      cases hr : rightB p
      · rw [hr] at RR
        have HV := hid (show Q = true by rw [HQ.out, hr]; rfl)
        clear hr
        go_wp2_with (go_at_call 35; ((with_reducible refine (RR.out _).mono ?_); rintro e wo ⟨rfl, rfl⟩))
        go_meet
        exact ⟨by rw [HV.out], rfl⟩
      · rw [hr] at RR HQ
        have HQ2 : Hid (Q = (decide (1 < n3) && (F.getD 0 0 == 255) && (F.getD 1 0 == 3) && a1 && decide (p ≠ 49185))) := by rw [HQ.out, AH.out]; rfl
        clear hr
        by_cases h1 : 1 < n3
        · obtain ⟨b, off, ha, x0⟩ := NC.out 0 (by omega)
          obtain ⟨b', off', ha', x1⟩ := NC.out 1 (by omega)
          subst ha
          injection ha' with ha'
          injection ha' with q1 q2 _
          subst q1 q2
          have y0 : w3.cell? ⟨b, off, none⟩ = some (.int .u8 (F.getD 0 0)) := x0
          obtain ⟨u, hu⟩ : ∃ u, u = F.getD 0 0 := ⟨_, rfl⟩
          obtain ⟨v, hv⟩ : ∃ v, v = F.getD 1 0 := ⟨_, rfl⟩
          rw [← hu] at y0 HQ2
          rw [← hv] at x1 HQ2
          have h1' : decide (1 < n3) = true := by simp [h1]
          rw [h1'] at HQ2
          clear x0 hu hv h1'
          cases hu : (u == 255)
          · rw [hu] at HQ2
            go_wp2_with (go_at_call 35; ((with_reducible refine (RR.out _).mono ?_); rintro e wo ⟨rfl, rfl⟩))
            go_meet
            exact ⟨by rw [HQ2.out]; rfl, rfl⟩
          · rw [hu] at HQ2
            cases hv : (v == 3)
            · rw [hv] at HQ2
              go_wp2_with (go_at_call 35; ((with_reducible refine (RR.out _).mono ?_); rintro e wo ⟨rfl, rfl⟩))
              go_meet
              exact ⟨by rw [HQ2.out]; rfl, rfl⟩
            · rw [hv] at HQ2
              cases a1
              · go_wp2_with (go_at_call 35; ((with_reducible refine (RR.out _).mono ?_); rintro e wo ⟨rfl, rfl⟩))
                go_meet
                exact ⟨by rw [HQ2.out]; rfl, rfl⟩
              · cases h4 : (p == 49185)
                · have h5 : (p != 49185) = true := by simp [bne, h4]
                  have HV := hid (show Q = true by rw [HQ2.out]; simp at h4; simp [h4])
                  clear h4
                  go_wp2_with (go_at_call 35; ((with_reducible refine (RR.out _).mono ?_); rintro e wo ⟨rfl, rfl⟩))
                  go_meet
                  exact ⟨by rw [HV.out], rfl⟩
                · have h5 : (p != 49185) = false := by simp [bne, h4]
                  have HV := hid (show Q = false by rw [HQ2.out]; simp at h4; simp [h4])
                  clear h4
                  go_wp2_with (go_at_call 35; ((with_reducible refine (RR.out _).mono ?_); rintro e wo ⟨rfl, rfl⟩))
                  go_meet
                  exact ⟨by rw [HV.out], rfl⟩
        · have h1' : decide (1 < n3) = false := by simp; omega
          rw [h1'] at HQ2
          go_wp2_with (go_at_call 35; ((with_reducible refine (RR.out _).mono ?_); rintro e wo ⟨rfl, rfl⟩))
          go_meet
          exact ⟨by rw [HQ2.out]; rfl, rfl⟩
    case rest =>
      obtain ⟨rfl, rfl⟩ := hcut
      cases Q
      · have hq := HQ.out
        have hr : rightB p = true := by cases h : rightB p; (rw [h] at hq; exact absurd hq (by simp)); rfl
        have hfr := HP.out hr (by rintro ⟨h1, h2, h3⟩; rw [hr, h2] at hq; simp [h1, h3] at hq)
        have PA := hid (fun (w W : World) (L : List Sl) (h : St w W L) (hm : (a3, n3, c3, F) ∈ L) => hfr ▸ parse_any h hm HF.out (by have := HN3.out; omega))
        clear hq hr hfr HP HQ RR
        go_upto_region 9 with (go_at_call 32; ((with_reducible refine (PA.out _ _ _ s3 m1).mono ?_); rintro e w4 ⟨a5, n5, c5, rfl, s4⟩))
        have s5 := s4.next ((Below.refl _ _).alloc (Nat.le_refl _) (.cells #[.int .u16 p, .slice a5 n5 c5] 54))
        have x0 := keep_cell s5.below g0
        have x1 := keep_cell s5.below g1
        clear e0 e1
        go_wp2_with (first | (go_at_call 14; ((with_reducible refine (frc.equal_st s5 (s5.get m0) (s5.get m3) rfl).mono ?_); rintro e w6 ⟨rfl, s6⟩)) | (go_at_call 36; ((with_reducible refine (frc.alive_st s6).mono ?_); rintro e w7 ⟨rfl, s7⟩)))
        go_ret
        exact ⟨rfl, b0.trans (s7.below.mono b0.size)⟩
      · go_wp2_with (go_at_call 36; ((with_reducible refine (frc.alive_st s3).mono ?_); rintro e w7 ⟨rfl, s7⟩))
        go_ret
        exact ⟨rfl, b0.trans (s7.below.mono b0.size)⟩
set_option maxRecDepth 100000 in
theorem lifted (os : Os) (started : os.Started) (H : Type) (enc : TypeId × Value → H) :
    ReturnsInHanded {} Try.checked os 9 .any (Rows.frameBuildsSpec.pre6 enc Try.prog Try.f9 Rows.frameBuildsRow.domain false) (Rows.frameBuildsSpec.post enc Try.prog Try.f9 false true false false) := by
  refine returnsInHanded_of_change (C := Try.checked) own started (by kernel_rfl) Try.func9
    (ChangeSpec.witness6 (enc := enc) (C := Try.checked) false ⟨#[], #[.agg #[.int .u16 0, .slice none 0 0], .bool false, .bool false], []⟩ 8 (by kernel_rfl) (by kernel_rfl) (by kernel_rfl) (by kernel_rfl)) ?_
  intro W base args ds gs before hval0 hW hcnd _
  have hval : ∀ (j : Nat) t v, Try.f9.params[j]? = some t → args[j]? = some v → Value.okWide Try.prog W .any base t v := hval0
  have hW' := hW
  obtain ⟨p, q, hA0, hV, rfl, hfz, hnd⟩ := hW
  have hA : DataW.TrodAll enc Try.prog W 0 (fun _ => true) true Try.f9.params.toList args.toList ds p := hA0
  rw [Try.params9] at hA hval
  obtain ⟨v0, vs0, d0, ds0, p0, q0, hargs, rfl, rfl, h0, r0⟩ := trodAll_cons hA
  obtain ⟨v1, vs1, d1, ds1, p1, q1, rfl, rfl, rfl, h1, r1⟩ := trodAll_cons r0
  obtain ⟨v2, vs2, d2, ds2, p2, q2, rfl, rfl, rfl, h2, r2⟩ := trodAll_cons r1
  obtain ⟨rfl, rfl, rfl⟩ := trodAll_nil r2
  obtain rfl : args = #[v0, v1, v2] := by cases args; simp_all
  obtain ⟨rfl, rfl⟩ := trodVars_none hV
  have k0 := h0
  have o0 := hval 0 54 v0 rfl rfl
  have lt0 : ∀ x ∈ p0, x.block < W.heap.size := by obtain ⟨m, hm⟩ := k0; exact DataW.trod_lt m _ _ _ hm
  obtain ⟨a1, rfl, rfl, rfl⟩ := open_bool Try.underlying4 (hval 1 4 v1 rfl rfl) h1
  obtain ⟨a2, rfl, rfl, rfl⟩ := open_bool Try.underlying4 (hval 2 4 v2 rfl rfl) h2
  clear hA0 hval0
  refine (walk (H := H) (enc := enc) (base := base) v0 d0 p0 a1 a2 W k0 o0).mono fun e W' ⟨he, bel⟩ => ?_
  subst he
  exact ⟨_, rfl, _, _, _, [], _, [], hW', trodAll_mk1 (shut_bool Try.underlying4 _), (trodAll_cons_mk (Below.trod laidOut (by kernel_rfl) (of_decide_eq_true (by kernel_rfl)) k0 bel lt0) (trodAll_cons_mk (shut_bool Try.underlying4 a1) (trodAll_cons_mk (shut_bool Try.underlying4 a2) trodAll_mk0))), rfl, bel.frame _, fun h => by cases h⟩

theorem over : Rows.frameBuildsRow.holds Try.pinned (OpenSpec.ofChange Rows.frameBuildsSpec) :=
  OpenClaim.holds_of_wide 9 Try.f9 rfl rfl rfl rfl rfl rfl rfl ⟨rfl, rfl, rfl, rfl, rfl⟩ rfl rfl rfl rfl rfl (by kernel_rfl) Try.func9 (by kernel_rfl)
    (of_decide_eq_true (by kernel_rfl)) (by unfold Func.isWrapper; first | (rw [if_pos (by decide +kernel)]; kernel_rfl) | (rw [if_neg (by decide +kernel)]; exact ⟨rfl, rfl⟩))
    (fun os started H enc _ => lifted os started H enc)

/-- the statement -/
theorem proved : Rows.FrameBuildsSaid := over
end Go.Proofs.Ytgoldoaigijmoaa.frameBuilds
