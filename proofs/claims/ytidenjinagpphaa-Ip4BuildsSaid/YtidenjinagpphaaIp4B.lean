/- ip4: the document's own Build. -/
import Derived.Test.YtidenjinagpphaaIp4Q
import Derived.Test.YtidenjinagpphaaBeRef
import Derived.Test.YtidenjinagpphaaSumRef
import Derived.Test.YtidenjinagpphaaRegion
namespace Go.Proofs.Ytidenjinagpphaa.ipc
open Go.RowKit
open Go.Proofs.Ytidenjinagpphaa.kit Go.Proofs.Ytidenjinagpphaa.bec Go.Proofs.Ytidenjinagpphaa.ipm Go.Proofs.Ytidenjinagpphaa.sm Go.Proofs.Ytidenjinagpphaa.sc
set_option linter.unusedVariables false
set_option maxRecDepth 20000

theorem rput2_row {W0 W : World} {a : Option Addr} {n c : Nat} {l : List Int} (h : Row W0 W a n c l) (hn : n ≤ 100000) (p : Int) (hp : 0 ≤ p ∧ p ≤ 65535) :
    Calls Try.prog 42 #[.slice a n c, .int .u64 p, .int .i64 2] W fun e W' => ∃ a' c', e = .returned (.slice a' (n + 2) c') ∧ Row W0 W' a' (n + 2) c' (l ++ [p / 256, p % 256]) :=
  (ref_put_in W h.nums (by omega) (Nat.le_refl _) p hp.1 (by omega) 2 (by decide) (by decide)).mono fun e W' ⟨a', c', he, ho, hb⟩ => by rw [be2 p hp] at ho; exact ⟨a', c', he, World.ownsRow.mono ho h.bel.size, h.bel.trans (hb.mono h.bel.size)⟩
theorem rput4_row {W0 W : World} {a : Option Addr} {n c : Nat} {l : List Int} (h : Row W0 W a n c l) (hn : n ≤ 100000) (p : Int) (hp : 0 ≤ p ∧ p ≤ 4294967295) :
    Calls Try.prog 42 #[.slice a n c, .int .u64 p, .int .i64 4] W fun e W' => ∃ a' c', e = .returned (.slice a' (n + 4) c') ∧ Row W0 W' a' (n + 4) c' (l ++ [p / 16777216, p / 65536 % 256, p / 256 % 256, p % 256]) :=
  (ref_put_in W h.nums (by omega) (Nat.le_refl _) p hp.1 (by omega) 4 (by decide) (by decide)).mono fun e W' ⟨a', c', he, ho, hb⟩ => by rw [be4 p hp] at ho; exact ⟨a', c', he, World.ownsRow.mono ho h.bel.size, h.bel.trans (hb.mono h.bel.size)⟩
theorem rbuild_no {w W : World} {L : List Sl} {ao ad : Option Addr} {no co nd cd : Nat} (D : Dg) (h : St w W L) (hmo : (ao, no, co, D.o) ∈ L) (hmd : (ad, nd, cd, D.d) ∈ L) (hno : no ≤ 300) (hnd : nd ≤ 3000) (hf : ¬ D.fits) :
    Calls Try.prog 21 #[.agg (valD D ao no co ad nd cd)] W fun e W' => e = .returned (.slice none 0 0) ∧ St w W' L := by
  obtain ⟨W1, hW1⟩ : ∃ W1, W1 = W.alloc (.cells (valD D ao no co ad nd cd) 42) := ⟨_, rfl⟩
  have b1 : Below W.heap.size W W1 := by rw [hW1]; exact (Below.refl _ _).alloc (Nat.le_refl _) _
  have k1 := cells9 (w := W1) (g := W.heap.size) (D := D) (ao := ao) (no := no) (co := co) (ad := ad) (nd := nd) (cd := cd) (by rw [hW1]; exact Box.made _ _ _)
  have S1 := hid (h.next b1)
  have HW := hid hW1
  obtain ⟨x0, x1, x2, x3, x4, x5, x6, x7, x8⟩ := k1
  have hlo := (h.get hmo).len
  unfold Dg.fits at hf
  rw [hlo] at hf
  clear h hmo hmd hW1 b1 x0 x1 x2 x3 x4 x5 x6 hlo
  unfold valD at *
  by_cases h40 : (60 : Int) < 20 + no
  · clear hf
    go_enter Try.func21, Try.ntmps21
    go_upto_region 1 with fail
    rw [← HW.out]
    go_wp2_with fail
    go_ret
    exact ⟨rfl, S1.out⟩
  · have hm4 : ((20 + (no : Int)) % 4 != 0) = true := by simp; intro h; exact hf ⟨by omega, by omega⟩
    clear hf
    go_enter Try.func21, Try.ntmps21
    go_upto_region 1 with fail
    rw [← HW.out]
    go_wp2_with fail
    go_ret
    exact ⟨rfl, S1.out⟩
set_option maxHeartbeats 2000000 in
theorem rbuild_yes {w W : World} {L : List Sl} {ao ad : Option Addr} {no co nd cd : Nat} (D : Dg) (h : St w W L) (hmo : (ao, no, co, D.o) ∈ L) (hmd : (ad, nd, cd, D.d) ∈ L) (hok : D.Ok) (hno : no ≤ 300) (hnd : nd ≤ 3000) (hf : D.fits) :
    Calls Try.prog 21 #[.agg (valD D ao no co ad nd cd)] W fun e W' => ∃ x n c, e = .returned (.slice (some x) n c) ∧ St w W' ((some x, n, c, ipB D) :: L) := by
  obtain ⟨i0, hi, hi0, hi1, hi2⟩ := info_parts Try.info_u8
  obtain ⟨W1, hW1⟩ : ∃ W1, W1 = W.alloc (.cells (valD D ao no co ad nd cd) 42) := ⟨_, rfl⟩
  have b1 : Below W.heap.size W W1 := by rw [hW1]; exact (Below.refl _ _).alloc (Nat.le_refl _) _
  have kb : Box W1 W.heap.size (valD D ao no co ad nd cd).toList := by rw [hW1]; exact Box.made _ _ _
  have KC := hid (fun (wr : World) (hb : Below W1.heap.size W1 wr) => cells9 (kb.next hb))
  have S1 := hid (h.next b1)
  have HW := hid hW1
  obtain ⟨x0, x1, x2, x3, x4, x5, x6, x7, x8⟩ := cells9 kb
  have HLO := hid (h.get hmo).len
  have HLD := hid (h.get hmd).len
  have MO := hid hmo
  have MD := hid hmd
  have HK := hid hok
  have hf1 : no ≤ 40 := by have := hf.1; rw [HLO.out] at this; exact this
  have hf2 : (20 + no) % 4 = 0 := by have := hf.2; rw [HLO.out] at this; exact this
  clear h hmo hmd hW1 b1 kb hok hf
  have h40 : ¬ (60 : Int) < 20 + no := by omega
  have hm4 : ((20 + (no : Int)) % 4 != 0) = false := by simp; omega
  have hd3 : ¬ (65535 - (20 + (no : Int)) < nd) := by omega
  have w8 : IntKind.u8.wrap (64 + (20 + (no : Int)) / 4) = 64 + (20 + (no : Int)) / 4 := by rw [IntKind.wrap_u8']; omega
  have w64 : IntKind.u64.wrap (20 + (no : Int) + nd) = 20 + (no : Int) + nd := IntWalk.u64_in _ (by omega)
  have o1 : 0 ≤ D.id ∧ D.id ≤ 65535 := HK.out.id
  have o2 : 0 ≤ D.fr ∧ D.fr ≤ 65535 := HK.out.fr
  have o3 : 0 ≤ D.src ∧ D.src ≤ 4294967295 := HK.out.src
  have o4 : 0 ≤ D.dst ∧ D.dst ≤ 4294967295 := HK.out.dst
  obtain ⟨W2, hW2⟩ : ∃ W2, W2 = W1.alloc (.cells #[.int .u8 (64 + (20 + (no : Int)) / 4), .int .u8 D.t] 5) := ⟨_, rfl⟩
  have r2 : Row W1 W2 (some ⟨W1.heap.size, 0, none⟩) 2 2 [64 + (20 + (no : Int)) / 4, D.t] := by
    rw [hW2]; exact ⟨World.ownsRow_lit W1 #[.int .u8 (64 + (20 + (no : Int)) / 4), .int .u8 D.t] 2 (Nat.le_refl _) (by decide) rfl, (Below.refl _ _).alloc (Nat.le_refl _) _⟩
  have HW2 := hid hW2
  have z8 := (KC.out _ r2.bel).2.2.2.2.2.2.2.2
  clear hW2
  unfold valD at *
  go_enter Try.func21, Try.ntmps21
  go_upto_region 1 with fail
  rw [← HW.out]
  go_upto_region 5 with fail
  rw [← HW2.out]
  go_upto_region 10 with (first | (go_at_call 42; ((with_reducible refine (rput2_row r2 (by omega) (20 + (no : Int) + nd) (by omega)).mono ?_); rintro e w3 ⟨a3, c3, rfl, r3⟩); obtain ⟨_, _, _, u3, _, _, _, _, _⟩ := KC.out _ r3.bel) | (go_at_call 42; ((with_reducible refine (rput2_row r3 (by omega) D.id o1).mono ?_); rintro e w4 ⟨a4, c4, rfl, r4⟩); obtain ⟨_, _, _, _, u4, _, _, _, _⟩ := KC.out _ r4.bel) | (go_at_call 42; ((with_reducible refine (rput2_row r4 (by omega) D.fr o2).mono ?_); rintro e w5 ⟨a5, c5, rfl, r5⟩); obtain ⟨_, u1, u2, _, _, _, _, _, _⟩ := KC.out _ r5.bel) | (at_builtin; go_loud (refine wpList_append_nums rfl (.tmp 50) _ 29 rfl W1.heap.size 5 i0 (.int .u8 0) 1 Try.underlying29 hi hi0 hi1 hi2 rfl _ _ _ rfl (r5.own.alloc _) _ 4 4 _ _ rfl (nums_lit (k := .u8) (cs := #[.int .u8 D.ttl, .int .u8 D.pr, .int .u8 0, .int .u8 0]) (n := 4) [D.ttl, D.pr, 0, 0] rfl (by decide) rfl) (by unfold maxLen; omega) (by omega) (by have := r5.bel.size; simp; omega) ?_); go_loud (intro v6 w6 g6 h6; obtain ⟨a6, c6, rfl⟩ := own_slice g6; have r6 : Row W1 w6 a6 _ c6 _ := ⟨g6, own_below (r5.own.alloc _) (r5.bel.alloc r5.bel.size _) h6 (by have := r5.bel.size; simp; omega)⟩; obtain ⟨_, _, _, _, _, t5, _, _, _⟩ := KC.out _ r6.bel)) | (go_at_call 42; ((with_reducible refine (rput4_row r6 (by omega) D.src o3).mono ?_); rintro e w7 ⟨a7, c7, rfl, r7⟩)))
  have e : [64 + (20 + (no : Int)) / 4, D.t] ++ [(20 + (no : Int) + nd) / 256, (20 + (no : Int) + nd) % 256] ++ [D.id / 256, D.id % 256] ++ [D.fr / 256, D.fr % 256] ++ [D.ttl, D.pr, 0, 0] ++ [D.src / 16777216, D.src / 65536 % 256, D.src / 256 % 256, D.src % 256] ++ [D.dst / 16777216, D.dst / 65536 % 256, D.dst / 256 % 256, D.dst % 256] ++ D.o = head0 D := by
    unfold head0; rw [HLO.out, HLD.out]; simp
  have HE := hid e
  obtain ⟨_, _, _, _, _, _, t6, t7, _⟩ := KC.out _ r7.bel
  have r7d := hid (r7.next ((Below.refl _ _).drew))
  have hlen7 := r7d.out.bel.size
  have wd64 : IntKind.u64.wrap D.dst = D.dst := IntWalk.u64_in _ (by omega)
  clear e u1 u2 u3 u4 t5 z8 r2 r3 r4 r5 r6 r7 g6 h6 h40 hm4 hd3 w8 w64 hf2 o1 o2 o3 x0 x1 x2 x3 x4 x5 x6 x7 x8
  go_cut [4] (fun v wx => ∃ a n' c, v = .slice a n' c ∧ n' = 20 + no ∧ Row W1 wx a n' c (head0 D))
  case first =>
    go_region_law (first | (refine step_append_nums rfl (.tmp 66) (.tmp 68) 29 rfl W1.heap.size 5 i0 (.int .u8 0) 1 Try.underlying29 hi hi0 hi1 hi2 rfl _ _ _ rfl r10.own _ _ _ _ _ rfl ((S1.out.next r10.bel).get MO.out) (by unfold maxLen; omega) (by omega) r10.bel.size ?_; intro v11 w11 g11 h11; obtain ⟨a11, c11, rfl, r11⟩ := Row.app r10 g11 h11) | (go_simp; go_at_call 42; ((with_reducible refine (rput4_row r7d.out (by omega) D.dst o4).mono ?_)); rintro e w10 ⟨a10, c10, rfl, r10⟩; obtain ⟨_, _, _, _, _, _, _, z7, _⟩ := KC.out _ r10.bel))
    all_goals
      go_wp2_with fail
      go_meet
      exact ⟨a11, _, c11, rfl, by omega, by rw [← HE.out]; exact r11⟩
  case rest =>
    obtain ⟨ah, nh, ch, rfl, hnh, rh⟩ := hcut
    obtain ⟨gh, hah, hgh⟩ := own_some rh.own (by omega)
    subst hah
    have hOct := head0_oct HK.out (by rw [HLO.out]; omega) (by rw [HLD.out]; omega)
    have hck := chk_le (head0 D)
    obtain ⟨ck, hcke⟩ : ∃ ck, ck = chk (head0 D) := ⟨_, rfl⟩
    rw [← hcke] at hck
    have HR := hid (hcke ▸ ref_of wc rh.nums hOct (by omega) (Nat.le_refl _))
    have RH := hid rh
    have HCK := hid hcke
    have HNH := hid hnh
    have hn20 : 20 ≤ nh := by omega
    have hn11 : (11 : Int) < nh := by omega
    have hn10 : (10 : Int) < nh := by omega
    have hnb : nh ≤ 400 := by omega
    have wa8 : IntKind.u8.wrap ((ck : Int) / 256) = (ck : Int) / 256 := by rw [IntKind.wrap_u8']; omega
    have wb8 : IntKind.u8.wrap ((ck : Int) % 256) = (ck : Int) % 256 := by rw [IntKind.wrap_u8']; omega
    clear hOct hcke rh hnh t6 t7 r7d HE
    go_upto_region 12 with (go_at_call 43; ((with_reducible refine HR.out.mono ?_); rintro e w12 ⟨rfl, b12⟩))
    have r12 := RH.out.next b12
    have q10 := own_at r12.own 10 (by omega)
    have q11 := own_at r12.own 11 (by omega)
    have f10 := r12.own.frozenAt 10
    have f11 := r12.own.frozenAt 11
    have R12 := hid r12
    clear r12 b12
    go_upto_region 14 with fail
    have r14 : Row W1 ((w12.setCell ⟨gh, 10, none⟩ (.int .u8 ((ck : Int) / 256))).setCell ⟨gh, 11, none⟩ (.int .u8 ((ck : Int) % 256))) (some ⟨gh, 0, none⟩) nh ch (sealL (head0 D) ck) :=
      ⟨own_word R12.out.own 5 ((ck : Int) / 256) ((ck : Int) % 256), (R12.out.bel.setCell hgh _).setCell hgh _⟩
    obtain ⟨W14, hW14⟩ : ∃ W14, W14 = (w12.setCell ⟨gh, 10, none⟩ (.int .u8 ((ck : Int) / 256))).setCell ⟨gh, 11, none⟩ (.int .u8 ((ck : Int) % 256)) := ⟨_, rfl⟩
    rw [← hW14] at r14
    have HW14 := hid hW14
    clear hW14 q10 q11 f10 f11
    rw [← HW14.out]
    obtain ⟨_, _, _, _, _, _, _, _, z8⟩ := KC.out _ r14.bel
    go_wp2_with (at_builtin; go_loud (refine wpList_append_nums rfl (.tmp 82) _ 29 rfl W1.heap.size 5 i0 (.int .u8 0) 1 Try.underlying29 hi hi0 hi1 hi2 rfl _ _ _ rfl r14.own _ _ _ _ _ rfl ((S1.out.next r14.bel).get MD.out) (by unfold maxLen; omega) (by omega) r14.bel.size ?_); go_loud (intro v15 w15 g15 h15; obtain ⟨a15, c15, rfl, r15⟩ := Row.app r14 g15 h15))
    go_ret
    obtain ⟨g15', ha15, _⟩ := own_some r15.own (by omega)
    subst ha15
    refine ⟨_, _, c15, rfl, ?_⟩
    have e2 : ipB D = sealL (head0 D) ck ++ D.d := by unfold ipB; rw [HCK.out]
    rw [e2]
    exact (S1.out.next r15.bel).push r15.nums
end Go.Proofs.Ytidenjinagpphaa.ipc
