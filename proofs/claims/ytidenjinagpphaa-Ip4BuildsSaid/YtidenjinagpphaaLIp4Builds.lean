/- catwalk's catwalklaw13.Ip4Builds answers true at every input, and leaves its arguments as they were. No condition. -/
import Derived.Test.YtidenjinagpphaaRows
import Derived.WalkKit
import Derived.ProofKit
import Derived.OpenShut
import Derived.ShutString
import Derived.ChangeOld
import Derived.Below
import Derived.Test.YtidenjinagpphaaIp4B
import Derived.Test.YtidenjinagpphaaIp4Back
import Derived.Test.YtidenjinagpphaaIp4S
import Derived.Test.YtidenjinagpphaaClone8
import Derived.Test.YtidenjinagpphaaOpen
import Derived.Deep.DeepCutAuto
namespace Go.Proofs.Ytidenjinagpphaa.ip4Builds
open Go.ChangeShapes Go.WideShapes Go.ChangeAt Go.RowKit
open Go.ChangeMaps (open_string shut_string)
set_option linter.unusedVariables false

theorem own : ownKnob Try.prog.godebug = none := by kernel_rfl
theorem laidOut : laidOutB Try.prog = true := by kernel_rfl

open Go.Proofs.Ytidenjinagpphaa.kit Go.Proofs.Ytidenjinagpphaa.bec Go.Proofs.Ytidenjinagpphaa.ipm Go.Proofs.Ytidenjinagpphaa.ipc Go.Proofs.Ytidenjinagpphaa.sm Go.Proofs.Ytidenjinagpphaa.sc
theorem agg9 {cs : Array Value} {x0 x1 x2 x3 x4 x5 x6 x7 x8 : Value} (hs : cs.size = 9) (h0 : cs.toList[0]? = some x0) (h1 : cs.toList[1]? = some x1) (h2 : cs.toList[2]? = some x2) (h3 : cs.toList[3]? = some x3) (h4 : cs.toList[4]? = some x4) (h5 : cs.toList[5]? = some x5) (h6 : cs.toList[6]? = some x6) (h7 : cs.toList[7]? = some x7) (h8 : cs.toList[8]? = some x8) : cs = #[x0, x1, x2, x3, x4, x5, x6, x7, x8] := by
  apply Array.ext'
  match h : cs.toList, (show cs.toList.length = 9 by simpa using hs) with
  | [u0, u1, u2, u3, u4, u5, u6, u7, u8], _ => rw [h] at h0 h1 h2 h3 h4 h5 h6 h7 h8; simp at h0 h1 h2 h3 h4 h5 h6 h7 h8; simp [h0, h1, h2, h3, h4, h5, h6, h7, h8]
theorem sealL_oct {D : Dg} (h : D.Ok) (ho : D.o.length ≤ 300) (hd : D.d.length ≤ 60000) : Oct (ipB D) := by
  intro z hz
  unfold ipB at hz
  rcases List.mem_append.1 hz with hz | hz
  · have hc := chk_le (head0 D)
    exact word2_oct (head0_oct h ho hd) 5 (x := (chk (head0 D) : Int) / 256) (y := (chk (head0 D) : Int) % 256) (by omega) (by omega) z hz
  · exact h.d z hz
theorem ipB_len (D : Dg) : (ipB D).length = 20 + D.o.length + D.d.length := by unfold ipB sealL; rw [List.length_append, word2_len, head0_len]

set_option maxHeartbeats 2000000 in
set_option maxRecDepth 100000 in
/-- the walk: true, and nothing that was there has turned -/
theorem walk {H : Type} {enc : TypeId × Value → H} {base : Nat} (v0 : Value) (d0 : DataW H) (p0 : List MemPlace) (v1 : Value) (d1 : DataW H) (p1 : List MemPlace) (w : World) (w0 : DataW.Trod enc Try.prog w 0 (fun _ => true) true 42 v0 d0 p0) (o0 : Value.okWide Try.prog w .any base 42 v0) (w1 : DataW.Trod enc Try.prog w 0 (fun _ => true) true 29 v1 d1 p1) (o1 : Value.okWide Try.prog w .any base 29 v1) :
    Calls Try.prog 5 #[v0, v1] w fun e w' => e = .returned (.bool true) ∧ Below w.heap.size w w' := by
  obtain ⟨cs, n0, yy, rfl, hsz, hy⟩ := open_struct Try.underlying42 o0 w0
  obtain ⟨t, hf0, ht⟩ := field_int Try.underlying42 hy 0 _ rfl Try.underlying5 (by kernel_rfl)
  obtain ⟨ttl, hf1, httl⟩ := field_int Try.underlying42 hy 1 _ rfl Try.underlying5 (by kernel_rfl)
  obtain ⟨pr, hf2, hpr⟩ := field_int Try.underlying42 hy 2 _ rfl Try.underlying5 (by kernel_rfl)
  obtain ⟨id, hf3, hidb⟩ := field_int Try.underlying42 hy 3 _ rfl Try.underlying38 (by kernel_rfl)
  obtain ⟨fr, hf4, hfr⟩ := field_int Try.underlying42 hy 4 _ rfl Try.underlying38 (by kernel_rfl)
  obtain ⟨src, hf5, hsrc⟩ := field_int Try.underlying42 hy 5 _ rfl Try.underlying40 (by kernel_rfl)
  obtain ⟨dst, hf6, hdst⟩ := field_int Try.underlying42 hy 6 _ rfl Try.underlying40 (by kernel_rfl)
  obtain ⟨ao, no, co, lo, hf7, hNo, hwo⟩ := field_nums Try.underlying42 hy 7 _ rfl Try.underlying29 Try.underlying5 (by kernel_rfl) (by kernel_rfl)
  obtain ⟨ad, nd, cd, ld, hf8, hNd, hwd⟩ := field_nums Try.underlying42 hy 8 _ rfl Try.underlying29 Try.underlying5 (by kernel_rfl) (by kernel_rfl)
  obtain rfl := agg9 (hsz.trans (by kernel_rfl)) hf0 hf1 hf2 hf3 hf4 hf5 hf6 hf7 hf8
  obtain ⟨ab, nb, cb, rfl⟩ := okWide_slice Try.underlying29 o1
  obtain ⟨lb, hNb, hwb⟩ := open_nums Try.underlying29 Try.underlying5 (by kernel_rfl) w1
  have hok : Dg.Ok ⟨t, ttl, pr, id, fr, src, dst, lo, ld⟩ := ⟨wf_u8 ht, wf_u8 httl, wf_u8 hpr, wf_u16 hidb, wf_u16 hfr, wf_u32 hsrc, wf_u32 hdst, fun x hx => wf_u8 (hwo x hx), fun x hx => wf_u8 (hwd x hx)⟩
  have hOb : Oct lb := fun x hx => wf_u8 (hwb x hx)
  clear w0 o0 w1 o1 hy hf0 hf1 hf2 hf3 hf4 hf5 hf6 hf7 hf8 hsz hwo hwd hwb ht httl hpr hidb hfr hsrc hdst
  have hlo := hNo.len
  have hld := hNd.len
  have hlb := hNb.len
  have hmo := hNo.le
  have hmo2 := hNo.max
  have hmd := hNd.le
  have hmd2 := hNd.max
  have hmb := hNb.le
  have hmb2 := hNb.max
  unfold maxLen at hmo2 hmd2 hmb2
  obtain ⟨W0, hW0⟩ : ∃ W0, W0 = w.alloc (.cells #[.int .u8 t, .int .u8 ttl, .int .u8 pr, .int .u16 id, .int .u16 fr, .int .u32 src, .int .u32 dst, .slice ao no co, .slice ad nd cd] 42) := ⟨_, rfl⟩
  have b0 : Below w.heap.size w W0 := by rw [hW0]; exact (Below.refl _ _).alloc (Nat.le_refl _) _
  have k0 : Box W0 w.heap.size [.int .u8 t, .int .u8 ttl, .int .u8 pr, .int .u16 id, .int .u16 fr, .int .u32 src, .int .u32 dst, .slice ao no co, .slice ad nd cd] := by rw [hW0]; exact Box.made _ _ _
  have s0 : St W0 W0 [(ao, no, co, lo), (ad, nd, cd, ld), (ab, nb, cb, lb)] := (((St.start W0).push ((hNb.below b0).mono b0.size)).push ((hNd.below b0).mono b0.size)).push ((hNo.below b0).mono b0.size)
  have x0 := k0.at_ 0 _ rfl
  have x1 := k0.at_ 1 _ rfl
  have x2 := k0.at_ 2 _ rfl
  have x3 := k0.at_ 3 _ rfl
  have x4 := k0.at_ 4 _ rfl
  have x5 := k0.at_ 5 _ rfl
  have x6 := k0.at_ 6 _ rfl
  have x7 := k0.at_ 7 _ rfl
  have x8 := k0.at_ 8 _ rfl
  have HW := hid hW0
  have B0 := hid b0
  have S0 := hid s0
  have K0 := hid k0
  have HLO := hid hlo
  have HLD := hid hld
  have HLB := hid hlb
  clear hNo hNd hNb hW0 b0 s0 k0 hlo hld hlb
  have HOK := hid hok
  have HOB := hid hOb
  clear hok hOb
  have hnil := fun (w : World) (a : Option Addr) (n c : Nat) => Lib.run_eql_slice_nil (P := Try.prog) w 29 5 a n c 0 0 Try.underlying29
  go_enter Try.func5, Try.ntmps5
  go_upto_region 1 with fail
  rw [← HW.out]
  by_cases h1 : (200 : Int) < no
  · go_wp2_with fail
    go_ret
    exact ⟨rfl, B0.out⟩
  · by_cases h2 : (2000 : Int) < nd
    · go_wp2_with fail
      go_ret
      exact ⟨rfl, B0.out⟩
    · by_cases h3 : (100 : Int) < nb
      · go_wp2_with fail
        go_ret
        exact ⟨rfl, B0.out⟩
      · obtain ⟨D, hD⟩ : ∃ D : Dg, D = ⟨t, ttl, pr, id, fr, src, dst, lo, ld⟩ := ⟨_, rfl⟩
        by_cases hf : Dg.fits ⟨t, ttl, pr, id, fr, src, dst, lo, ld⟩
        · have HB := hid (show Calls Try.prog 20 #[.agg #[.int .u8 t, .int .u8 ttl, .int .u8 pr, .int .u16 id, .int .u16 fr, .int .u32 src, .int .u32 dst, .slice ao no co, .slice ad nd cd]] W0 (fun e W' => ∃ a n c, e = .returned (.tuple #[.slice a n c, .int .i64 0]) ∧ St W0 W' ((a, n, c, ipB ⟨t, ttl, pr, id, fr, src, dst, lo, ld⟩) :: [(ao, no, co, lo), (ad, nd, cd, ld), (ab, nb, cb, lb)])) from build_yes ⟨t, ttl, pr, id, fr, src, dst, lo, ld⟩ S0.out m0 m1 HOK.out (by omega) (by omega) hf)
          have HR := hid (fun (W : World) (L : List Sl) (s : St W0 W L) (m1 : (ao, no, co, lo) ∈ L) (m2 : (ad, nd, cd, ld) ∈ L) => show Calls Try.prog 21 #[.agg #[.int .u8 t, .int .u8 ttl, .int .u8 pr, .int .u16 id, .int .u16 fr, .int .u32 src, .int .u32 dst, .slice ao no co, .slice ad nd cd]] W (fun e W' => ∃ x n c, e = .returned (.slice (some x) n c) ∧ St W0 W' ((some x, n, c, ipB ⟨t, ttl, pr, id, fr, src, dst, lo, ld⟩) :: L)) from rbuild_yes ⟨t, ttl, pr, id, fr, src, dst, lo, ld⟩ s m1 m2 HOK.out (by omega) (by omega) hf)
          have hBK := ip_back HOK.out hf (by show ld.length ≤ 3000; rw [HLD.out]; omega) lb
          have hFO := sealL_oct HOK.out (by show lo.length ≤ 300; rw [HLO.out]; omega) (by show ld.length ≤ 60000; rw [HLD.out]; omega)
          have hFL := ipB_len ⟨t, ttl, pr, id, fr, src, dst, lo, ld⟩
          obtain ⟨F, hF⟩ : ∃ F, F = ipB ⟨t, ttl, pr, id, fr, src, dst, lo, ld⟩ := ⟨_, rfl⟩
          rw [← hF] at HB HR hBK hFO hFL
          have hFL' : F.length = 20 + no + nd := by rw [hFL, HLO.out, HLD.out]
          have hO2 : Oct (F ++ lb) := by intro z hz; rcases List.mem_append.1 hz with hz | hz; exact hFO z hz; exact HOB.out z hz
          have HP := hid (fun (w W : World) (L : List Sl) (a : Option Addr) (n c : Nat) (h : St w W L) (hm : (a, n, c, F ++ lb) ∈ L) (hn : n ≤ 100000) => (hBK ▸ parse_any h hm hO2 hn).mono fun _ _ h => ipost_open h)
          obtain ⟨i0, hi, hi0, hi1, hi2⟩ := info_parts Try.info_u8
          have HFL := hid hFL'
          clear hF hD hf hBK hFO hFL hO2 hFL'
          go_upto_region 4 with (go_at_call 20; ((with_reducible refine HB.out.mono ?_); rintro e w3 ⟨a3, n3, c3, rfl, s1⟩))
          have k1 := K0.out.next s1.below
          clear x0 x1 x2 x3 x4 x5 x6 x7 x8
          have x0 := k1.at_ 0 _ rfl
          have x1 := k1.at_ 1 _ rfl
          have x2 := k1.at_ 2 _ rfl
          have x3 := k1.at_ 3 _ rfl
          have x4 := k1.at_ 4 _ rfl
          have x5 := k1.at_ 5 _ rfl
          have x6 := k1.at_ 6 _ rfl
          have x7 := k1.at_ 7 _ rfl
          have x8 := k1.at_ 8 _ rfl
          have K1 := hid k1
          clear k1
          go_upto_region 5 with (go_at_call 21; ((with_reducible refine (HR.out _ _ s1 m1 m2).mono ?_); rintro e w4 ⟨px, n4, c4, rfl, s2⟩))
          have k2 := K0.out.next s2.below
          clear x0 x1 x2 x3 x4 x5 x6 x7 x8
          have x0 := k2.at_ 0 _ rfl
          have x1 := k2.at_ 1 _ rfl
          have x2 := k2.at_ 2 _ rfl
          have x3 := k2.at_ 3 _ rfl
          have x4 := k2.at_ 4 _ rfl
          have x5 := k2.at_ 5 _ rfl
          have x6 := k2.at_ 6 _ rfl
          have x7 := k2.at_ 7 _ rfl
          have x8 := k2.at_ 8 _ rfl
          have hn4 := (s2.get m0).len
          have hn4' : n4 ≤ 3000 := by rw [HFL.out] at hn4; omega
          have K2 := hid k2
          clear k2 HB HR s1 hn4
          go_upto_region 8 with (first | (go_at_call 24; ((with_reducible refine (clone_any _ (s2.get m0) (by omega) (Nat.le_refl _)).mono ?_); rintro e w5 ⟨a5, c5, rfl, o5, b5⟩))             | (at_builtin; go_loud (refine wpList_append_nums rfl (.tmp 46) _ 29 rfl w4.heap.size 5 i0 (.int .u8 0) 1 Try.underlying29 hi hi0 hi1 hi2 rfl _ _ _ rfl o5 _ _ _ _ _ rfl ((s2.next b5).get m4) (by unfold maxLen; omega) (by omega) b5.size ?_); go_loud (intro v6 w6 g6 r6; obtain ⟨a6, c6, rfl⟩ := own_slice g6; have b6 := own_below o5 b5 r6 b5.size; have s6 := (s2.next b6).push (own_nums g6)))             | (go_at_call 23; ((with_reducible refine (HP.out _ _ _ _ _ _ (st_base s6) m0 (by omega)).mono ?_); rintro e w7 ⟨ao2, no2, co2, ad2, nd2, cd2, rfl, s7⟩)))
          have s7' := st_on s6 s7
          obtain ⟨W8, hW8⟩ : ∃ W8, W8 = w7.alloc (.cells #[.int .u8 t, .int .u8 ttl, .int .u8 pr, .int .u16 id, .int .u16 fr, .int .u32 src, .int .u32 dst, .slice ao2 no2 co2, .slice ad2 nd2 cd2] 42) := ⟨_, rfl⟩
          have b8 : Below w7.heap.size w7 W8 := by rw [hW8]; exact (Below.refl _ _).alloc (Nat.le_refl _) _
          have k8 : Box W8 w7.heap.size [.int .u8 t, .int .u8 ttl, .int .u8 pr, .int .u16 id, .int .u16 fr, .int .u32 src, .int .u32 dst, .slice ao2 no2 co2, .slice ad2 nd2 cd2] := by rw [hW8]; exact Box.made _ _ _
          have s8 := s7'.next b8
          have k3 := K0.out.next s8.below
          clear x0 x1 x2 x3 x4 x5 x6 x7 x8
          have x0 := k3.at_ 0 _ rfl
          have x1 := k3.at_ 1 _ rfl
          have x2 := k3.at_ 2 _ rfl
          have x3 := k3.at_ 3 _ rfl
          have x4 := k3.at_ 4 _ rfl
          have x5 := k3.at_ 5 _ rfl
          have x6 := k3.at_ 6 _ rfl
          have x7 := k3.at_ 7 _ rfl
          have x8 := k3.at_ 8 _ rfl
          have y0 := k8.at_ 0 _ rfl
          have y1 := k8.at_ 1 _ rfl
          have y2 := k8.at_ 2 _ rfl
          have y3 := k8.at_ 3 _ rfl
          have y4 := k8.at_ 4 _ rfl
          have y5 := k8.at_ 5 _ rfl
          have y6 := k8.at_ 6 _ rfl
          have y7 := k8.at_ 7 _ rfl
          have y8 := k8.at_ 8 _ rfl
          have HW8 := hid hW8
          have K8 := hid k8
          have K3 := hid k3
          clear hW8 b8 k8 k3 s2 s6 s7 s7' b6 g6 r6 o5 b5
          rw [← HW8.out]
          go_wp2_with (first | (go_at_call 25; ((with_reducible refine (equal_same _ (s8.get m4) (s8.get m3) rfl).mono ?_); rintro e w9 ⟨rfl, mm, rfl⟩); have s9 := s8.next (below_drewN (Below.refl _ _) mm))             | (go_at_call 26; ((with_reducible refine (same_st s9 m0 m1 (List.mem_cons_of_mem _ (List.mem_cons_of_mem _ m3)) (List.mem_cons_of_mem _ (List.mem_cons_of_mem _ m4)) t ttl pr id fr src dst).mono ?_); rintro e wc ⟨rfl, s10⟩))             | (go_at_call 22; ((with_reducible refine (ipc.alive_st s10).mono ?_); rintro e wd ⟨rfl, s11⟩)))
          go_ret
          exact ⟨rfl, B0.out.trans (s11.below.mono B0.out.size)⟩
        · have HB := hid (show Calls Try.prog 20 #[.agg #[.int .u8 t, .int .u8 ttl, .int .u8 pr, .int .u16 id, .int .u16 fr, .int .u32 src, .int .u32 dst, .slice ao no co, .slice ad nd cd]] W0 (fun e W' => e = .returned (.tuple #[.slice none 0 0, .int .i64 12]) ∧ St W0 W' [(ao, no, co, lo), (ad, nd, cd, ld), (ab, nb, cb, lb)]) from build_no ⟨t, ttl, pr, id, fr, src, dst, lo, ld⟩ S0.out m0 m1 (by omega) (by omega) hf)
          have HR := hid (fun (W : World) (L : List Sl) (s : St W0 W L) (m1 : (ao, no, co, lo) ∈ L) (m2 : (ad, nd, cd, ld) ∈ L) => show Calls Try.prog 21 #[.agg #[.int .u8 t, .int .u8 ttl, .int .u8 pr, .int .u16 id, .int .u16 fr, .int .u32 src, .int .u32 dst, .slice ao no co, .slice ad nd cd]] W (fun e W' => e = .returned (.slice none 0 0) ∧ St W0 W' L) from rbuild_no ⟨t, ttl, pr, id, fr, src, dst, lo, ld⟩ s m1 m2 (by omega) (by omega) hf)
          clear hD hf
          go_upto_region 4 with (go_at_call 20; ((with_reducible refine HB.out.mono ?_); rintro e w3 ⟨rfl, s1⟩))
          have k1 := K0.out.next s1.below
          clear x0 x1 x2 x3 x4 x5 x6 x7 x8
          have x0 := k1.at_ 0 _ rfl
          have x1 := k1.at_ 1 _ rfl
          have x2 := k1.at_ 2 _ rfl
          have x3 := k1.at_ 3 _ rfl
          have x4 := k1.at_ 4 _ rfl
          have x5 := k1.at_ 5 _ rfl
          have x6 := k1.at_ 6 _ rfl
          have x7 := k1.at_ 7 _ rfl
          have x8 := k1.at_ 8 _ rfl
          have K1 := hid k1
          clear k1
          go_wp2_with (first | (go_at_call 21; (go_loud (with_reducible refine (HR.out _ _ s1 m0 m1).mono ?_); rintro e w4 ⟨rfl, s2⟩)) | (go_at_call 22; ((with_reducible refine (ipc.alive_st s2).mono ?_); rintro e wd ⟨rfl, s6⟩)))
          go_ret
          exact ⟨rfl, B0.out.trans (s6.below.mono B0.out.size)⟩
set_option maxRecDepth 100000 in
theorem lifted (os : Os) (started : os.Started) (H : Type) (enc : TypeId × Value → H) :
    ReturnsInHanded {} Try.checked os 5 .any (Rows.ip4BuildsSpec.pre6 enc Try.prog Try.f5 Rows.ip4BuildsRow.domain false) (Rows.ip4BuildsSpec.post enc Try.prog Try.f5 false true false false) := by
  refine returnsInHanded_of_change (C := Try.checked) own started (by kernel_rfl) Try.func5
    (ChangeSpec.witness6 (enc := enc) (C := Try.checked) false ⟨#[], #[.agg #[.int .u8 0, .int .u8 0, .int .u8 0, .int .u16 0, .int .u16 0, .int .u32 0, .int .u32 0, .slice none 0 0, .slice none 0 0], .slice none 0 0], []⟩ 8 (by kernel_rfl) (by kernel_rfl) (by kernel_rfl) (by kernel_rfl)) ?_
  intro W base args ds gs before hval0 hW hcnd _
  have hval : ∀ (j : Nat) t v, Try.f5.params[j]? = some t → args[j]? = some v → Value.okWide Try.prog W .any base t v := hval0
  have hW' := hW
  obtain ⟨p, q, hA0, hV, rfl, hfz, hnd⟩ := hW
  have hA : DataW.TrodAll enc Try.prog W 0 (fun _ => true) true Try.f5.params.toList args.toList ds p := hA0
  rw [Try.params5] at hA hval
  obtain ⟨v0, vs0, d0, ds0, p0, q0, hargs, rfl, rfl, h0, r0⟩ := trodAll_cons hA
  obtain ⟨v1, vs1, d1, ds1, p1, q1, rfl, rfl, rfl, h1, r1⟩ := trodAll_cons r0
  obtain ⟨rfl, rfl, rfl⟩ := trodAll_nil r1
  obtain rfl : args = #[v0, v1] := by cases args; simp_all
  obtain ⟨rfl, rfl⟩ := trodVars_none hV
  have k0 := h0
  have o0 := hval 0 42 v0 rfl rfl
  have lt0 : ∀ x ∈ p0, x.block < W.heap.size := by obtain ⟨m, hm⟩ := k0; exact DataW.trod_lt m _ _ _ hm
  have k1 := h1
  have o1 := hval 1 29 v1 rfl rfl
  have lt1 : ∀ x ∈ p1, x.block < W.heap.size := by obtain ⟨m, hm⟩ := k1; exact DataW.trod_lt m _ _ _ hm
  clear hA0 hval0
  refine (walk (H := H) (enc := enc) (base := base) v0 d0 p0 v1 d1 p1 W k0 o0 k1 o1).mono fun e W' ⟨he, bel⟩ => ?_
  subst he
  exact ⟨_, rfl, _, _, _, [], _, [], hW', trodAll_mk1 (shut_bool Try.underlying4 _), (trodAll_cons_mk (Below.trod laidOut (by kernel_rfl) (of_decide_eq_true (by kernel_rfl)) k0 bel lt0) (trodAll_cons_mk (Below.trod laidOut (by kernel_rfl) (of_decide_eq_true (by kernel_rfl)) k1 bel lt1) trodAll_mk0)), rfl, bel.frame _, fun h => by cases h⟩

theorem over : Rows.ip4BuildsRow.holds Try.pinned (OpenSpec.ofChange Rows.ip4BuildsSpec) :=
  OpenClaim.holds_of_wide 5 Try.f5 rfl rfl rfl rfl rfl rfl rfl ⟨rfl, rfl, rfl, rfl, rfl⟩ rfl rfl rfl rfl rfl (by kernel_rfl) Try.func5 (by kernel_rfl)
    (of_decide_eq_true (by kernel_rfl)) (by unfold Func.isWrapper; first | (rw [if_pos (by decide +kernel)]; kernel_rfl) | (rw [if_neg (by decide +kernel)]; exact ⟨rfl, rfl⟩))
    (fun os started H enc _ => lifted os started H enc)

/-- the statement -/
theorem proved : Rows.Ip4BuildsSaid := over
end Go.Proofs.Ytidenjinagpphaa.ip4Builds
