/- catwalk's catwalklaw15.CpBuilds answers true at every input, and leaves its arguments as they were. No condition. -/
import Derived.Test.YtidenjinagpphabRows
import Derived.WalkKit
import Derived.ProofKit
import Derived.OpenShut
import Derived.ShutString
import Derived.ChangeOld
import Derived.Below
import Derived.Test.YtidenjinagpphabCp3
import Derived.Test.YtidenjinagpphabClone8
import Derived.Test.YtidenjinagpphabOpen
import Derived.Deep.DeepCutAuto
namespace Go.Proofs.Ytidenjinagpphab.cpBuilds
open Go.ChangeShapes Go.WideShapes Go.ChangeAt Go.RowKit
open Go.ChangeMaps (open_string shut_string)
set_option linter.unusedVariables false

theorem own : ownKnob Try.prog.godebug = none := by kernel_rfl
theorem laidOut : laidOutB Try.prog = true := by kernel_rfl

open Go.Proofs.Ytidenjinagpphab.kit Go.Proofs.Ytidenjinagpphab.bec Go.Proofs.Ytidenjinagpphab.cpc
theorem agg3 {cs : Array Value} {x y z : Value} (hs : cs.size = 3) (h0 : cs.toList[0]? = some x) (h1 : cs.toList[1]? = some y) (h2 : cs.toList[2]? = some z) : cs = #[x, y, z] := by
  apply Array.ext'
  match h : cs.toList, (show cs.toList.length = 3 by simpa using hs) with
  | [u, v, t], _ => rw [h] at h0 h1 h2; simp at h0 h1 h2; simp [h0, h1, h2]

set_option maxHeartbeats 1000000 in
set_option maxRecDepth 100000 in
/-- the walk: true, and nothing that was there has turned -/
theorem walk {H : Type} {enc : TypeId × Value → H} {base : Nat} (v0 : Value) (d0 : DataW H) (p0 : List MemPlace) (v1 : Value) (d1 : DataW H) (p1 : List MemPlace) (w : World) (w0 : DataW.Trod enc Try.prog w 0 (fun _ => true) true 58 v0 d0 p0) (o0 : Value.okWide Try.prog w .any base 58 v0) (w1 : DataW.Trod enc Try.prog w 0 (fun _ => true) true 22 v1 d1 p1) (o1 : Value.okWide Try.prog w .any base 22 v1) :
    Calls Try.prog 7 #[v0, v1] w fun e w' => e = .returned (.bool true) ∧ Below w.heap.size w w' := by
  obtain ⟨cs, n0, yy, rfl, hsz, hy⟩ := open_struct Try.underlying58 o0 w0
  obtain ⟨x, hf0, hx⟩ := field_int Try.underlying58 hy 0 _ rfl Try.underlying5 (by kernel_rfl)
  obtain ⟨y, hf1, hy1⟩ := field_int Try.underlying58 hy 1 _ rfl Try.underlying5 (by kernel_rfl)
  obtain ⟨a, n, c, l, hf2, hN, hwf⟩ := field_nums Try.underlying58 hy 2 _ rfl Try.underlying22 Try.underlying5 (by kernel_rfl) (by kernel_rfl)
  obtain rfl := agg3 (hsz.trans (by kernel_rfl)) hf0 hf1 hf2
  obtain ⟨a2, n2, c2, rfl⟩ := okWide_slice Try.underlying22 o1
  obtain ⟨l2, hN2, hwf2⟩ := open_nums Try.underlying22 Try.underlying5 (by kernel_rfl) w1
  have hx := wf_u8 hx
  have hyb := wf_u8 hy1
  have hO : Byt l := fun x hx => wf_u8 (hwf x hx)
  have hO2 : Byt l2 := fun x hx => wf_u8 (hwf2 x hx)
  clear w0 o0 w1 o1 hy hf0 hf1 hf2 hsz hwf hwf2 hy1
  have hle := hN.le
  have hmx := hN.max
  have hle2 := hN2.le
  have hmx2 := hN2.max
  unfold maxLen at hmx hmx2
  obtain ⟨W0, hW0⟩ : ∃ W0, W0 = w.alloc (.cells #[.int .u8 x, .int .u8 y, .slice a n c] 58) := ⟨_, rfl⟩
  have b0 : Below w.heap.size w W0 := by rw [hW0]; exact (Below.refl _ _).alloc (Nat.le_refl _) _
  have k0 : Box W0 w.heap.size [.int .u8 x, .int .u8 y, .slice a n c] := by rw [hW0]; exact Box.made _ #[.int .u8 x, .int .u8 y, .slice a n c] _
  have s0 : St W0 W0 [(a, n, c, l), (a2, n2, c2, l2)] := ((St.start W0).push ((hN2.below b0).mono b0.size)).push ((hN.below b0).mono b0.size)
  have x0 := k0.at_ 0 _ rfl
  have x1 := k0.at_ 1 _ rfl
  have x2 := k0.at_ 2 _ rfl
  have hn1 := hN.len
  have hn2 := hN2.len
  have HW := hid hW0
  have B0 := hid b0
  clear hN hN2 hW0 b0
  go_enter Try.func7, Try.ntmps7
  go_upto_region 1 with fail
  rw [← HW.out]
  by_cases hbig : 2000 < n
  · clear hO hO2 hn1 hn2
    go_wp2_with fail
    go_ret
    exact ⟨rfl, B0.out⟩
  · by_cases hbig2 : 100 < n2
    · clear hO hO2 hn1 hn2
      go_wp2_with fail
      go_ret
      exact ⟨rfl, B0.out⟩
    · obtain ⟨F, hF⟩ : ∃ F, F = cpB x y l := ⟨_, rfl⟩
      have hlF : F.length ≤ 2004 := by rw [hF]; simp [cpB]; omega
      have C1 := hid (hF ▸ cpc.build_any s0 m0 (by omega) x y)
      have C2 := hid (fun (w' W : World) (L : List Sl) (s : St w' W L) (hm : (a, n, c, l) ∈ L) => hF ▸ rbuild_any s hm (by omega) x y)
      have HP := hid (hF ▸ cpP_built x y l l2 (by omega))
      have HBF : Byt (F ++ l2) := by
        intro q hq
        rcases List.mem_append.1 hq with hq | hq
        · rw [hF] at hq
          unfold cpB at hq
          rcases List.mem_append.1 hq with hq | hq
          · simp only [List.mem_cons, List.not_mem_nil, or_false] at hq
            rcases hq with rfl | rfl | rfl | rfl <;> omega
          · exact hO q hq
        · exact hO2 q hq
      have HBF' := hid HBF
      have HL2 := hid hn2
      clear hF hO hO2 hn1 hn2 HBF
      have S0 := hid s0
      have K0 := hid k0
      clear s0 k0
      obtain ⟨i0, hi, hi0, hi1, hi2⟩ := info_parts Try.info_u8
      go_upto_region 4 with (go_at_call 31; ((with_reducible refine C1.out.mono ?_); rintro e w3 ⟨a3, n3, c3, rfl, s1⟩); have k1 := K0.out.next s1.below; have x0 := k1.at_ 0 _ rfl; have x1 := k1.at_ 1 _ rfl; have x2 := k1.at_ 2 _ rfl)
      have hn3 : n3 ≤ 2004 := by have := (s1.get m0).len; omega
      have hl3 := hid (s1.get m0).len
      have K1 := hid k1
      clear k1 C1
      go_upto_region 5 with (first | (go_at_call 32; ((with_reducible refine (clone_any _ (s1.get m0) (by omega) (Nat.le_refl _)).mono ?_); rintro e w4 ⟨a4, c4, rfl, o4, b4⟩)) | (at_builtin; go_loud (refine wpList_append_nums rfl (.tmp 21) _ 22 rfl w3.heap.size 5 i0 (.int .u8 0) 1 Try.underlying22 hi hi0 hi1 hi2 rfl _ _ _ rfl o4 _ _ _ _ _ rfl ((s1.next b4).get m2) (by unfold maxLen; omega) (by omega) b4.size ?_); go_loud (intro v5 w5 g5 r5; obtain ⟨a5, c5, rfl⟩ := own_slice g5; have b5 := own_below o4 b4 r5 b4.size; have s5 := (s1.next b5).push (own_nums g5))) | (go_at_call 27; ((with_reducible refine (HP.out ▸ cpc.parse_any s5 m0 HBF'.out (by omega)).mono ?_); rintro e w6 ⟨a6, n6, c6, rfl, s6⟩)))
      obtain ⟨W7, hW7⟩ : ∃ W7, W7 = w6.alloc (.cells #[.int .u8 x, .int .u8 y, .slice a6 n6 c6] 58) := ⟨_, rfl⟩
      have b7 : Below w6.heap.size w6 W7 := by rw [hW7]; exact (Below.refl _ _).alloc (Nat.le_refl _) _
      have k7 : Box W7 w6.heap.size [.int .u8 x, .int .u8 y, .slice a6 n6 c6] := by rw [hW7]; exact Box.made _ #[.int .u8 x, .int .u8 y, .slice a6 n6 c6] _
      have s7 := s6.next b7
      have k1 := K0.out.next s7.below
      have x0 := k1.at_ 0 _ rfl
      have x1 := k1.at_ 1 _ rfl
      have x2 := k1.at_ 2 _ rfl
      have HW7 := hid hW7
      have K7 := hid k7
      have K8 := hid k1
      clear hW7 b7 k7 k1 s1 s5 s6 b4 o4 g5 r5 b5
      rw [← HW7.out]
      go_wp2_with (first | (go_at_call 34; ((with_reducible refine (C2.out _ _ _ (st_base s7) m3).mono ?_); rintro e w8 ⟨a8, n8, c8, rfl, s8⟩)) | (go_at_call 33; ((with_reducible refine (cpc.equal_st s8 (s8.get m3) (s8.get m0) rfl).mono ?_); rintro e w9 ⟨rfl, s9⟩); have k9 := K8.out.next s9.below; have x0 := k9.at_ 0 _ rfl; have x1 := k9.at_ 1 _ rfl; have x2 := k9.at_ 2 _ rfl; have k9 := K7.out.next s9.below; have y0 := k9.at_ 0 _ rfl; have y1 := k9.at_ 1 _ rfl; have y2 := k9.at_ 2 _ rfl) | (go_at_call 29; ((with_reducible refine (same_st s9 m4 m1 x y).mono ?_); rintro e wc ⟨rfl, s10⟩)) | (go_at_call 30; ((with_reducible refine (cpc.alive_st s10).mono ?_); rintro e wd ⟨rfl, s11⟩)))
      go_ret
      exact ⟨rfl, B0.out.trans ((st_on s7 s11).below.mono B0.out.size)⟩
set_option maxRecDepth 100000 in
theorem lifted (os : Os) (started : os.Started) (H : Type) (enc : TypeId × Value → H) :
    ReturnsInHanded {} Try.checked os 7 .any (Rows.cpBuildsSpec.pre6 enc Try.prog Try.f7 Rows.cpBuildsRow.domain false) (Rows.cpBuildsSpec.post enc Try.prog Try.f7 false true false false) := by
  refine returnsInHanded_of_change (C := Try.checked) own started (by kernel_rfl) Try.func7
    (ChangeSpec.witness6 (enc := enc) (C := Try.checked) false ⟨#[], #[.agg #[.int .u8 0, .int .u8 0, .slice none 0 0], .slice none 0 0], []⟩ 8 (by kernel_rfl) (by kernel_rfl) (by kernel_rfl) (by kernel_rfl)) ?_
  intro W base args ds gs before hval0 hW hcnd _
  have hval : ∀ (j : Nat) t v, Try.f7.params[j]? = some t → args[j]? = some v → Value.okWide Try.prog W .any base t v := hval0
  have hW' := hW
  obtain ⟨p, q, hA0, hV, rfl, hfz, hnd⟩ := hW
  have hA : DataW.TrodAll enc Try.prog W 0 (fun _ => true) true Try.f7.params.toList args.toList ds p := hA0
  rw [Try.params7] at hA hval
  obtain ⟨v0, vs0, d0, ds0, p0, q0, hargs, rfl, rfl, h0, r0⟩ := trodAll_cons hA
  obtain ⟨v1, vs1, d1, ds1, p1, q1, rfl, rfl, rfl, h1, r1⟩ := trodAll_cons r0
  obtain ⟨rfl, rfl, rfl⟩ := trodAll_nil r1
  obtain rfl : args = #[v0, v1] := by cases args; simp_all
  obtain ⟨rfl, rfl⟩ := trodVars_none hV
  have k0 := h0
  have o0 := hval 0 58 v0 rfl rfl
  have lt0 : ∀ x ∈ p0, x.block < W.heap.size := by obtain ⟨m, hm⟩ := k0; exact DataW.trod_lt m _ _ _ hm
  have k1 := h1
  have o1 := hval 1 22 v1 rfl rfl
  have lt1 : ∀ x ∈ p1, x.block < W.heap.size := by obtain ⟨m, hm⟩ := k1; exact DataW.trod_lt m _ _ _ hm
  clear hA0 hval0
  refine (walk (H := H) (enc := enc) (base := base) v0 d0 p0 v1 d1 p1 W k0 o0 k1 o1).mono fun e W' ⟨he, bel⟩ => ?_
  subst he
  exact ⟨_, rfl, _, _, _, [], _, [], hW', trodAll_mk1 (shut_bool Try.underlying4 _), (trodAll_cons_mk (Below.trod laidOut (by kernel_rfl) (of_decide_eq_true (by kernel_rfl)) k0 bel lt0) (trodAll_cons_mk (Below.trod laidOut (by kernel_rfl) (of_decide_eq_true (by kernel_rfl)) k1 bel lt1) trodAll_mk0)), rfl, bel.frame _, fun h => by cases h⟩

theorem over : Rows.cpBuildsRow.holds Try.pinned (OpenSpec.ofChange Rows.cpBuildsSpec) :=
  OpenClaim.holds_of_wide 7 Try.f7 rfl rfl rfl rfl rfl rfl rfl ⟨rfl, rfl, rfl, rfl, rfl⟩ rfl rfl rfl rfl rfl (by kernel_rfl) Try.func7 (by kernel_rfl)
    (of_decide_eq_true (by kernel_rfl)) (by unfold Func.isWrapper; first | (rw [if_pos (by decide +kernel)]; kernel_rfl) | (rw [if_neg (by decide +kernel)]; exact ⟨rfl, rfl⟩))
    (fun os started H enc _ => lifted os started H enc)

/-- the statement -/
theorem proved : Rows.CpBuildsSaid := over
end Go.Proofs.Ytidenjinagpphab.cpBuilds
