/- The contracts of the document's own answers for frames: the bytes of one. -/
import Derived.Test.YtgoldoaigijmoaaFrame
import Derived.Test.YtgoldoaigijmoaaRegion
import Derived.Deep.RegionLaw
namespace Go.Proofs.Ytgoldoaigijmoaa.frc
open Go.RowKit
open Go.Proofs.Ytgoldoaigijmoaa.kit Go.Proofs.Ytgoldoaigijmoaa.bec
set_option linter.unusedVariables false

def hiB (p : Int) (short : Bool) : List Int := if decide (256 ≤ p) || !short then [p / 256] else []
theorem hi_proto (p : Int) (hp : 0 ≤ p ∧ p ≤ 65535) (short : Bool) : hiB p short ++ [p % 256] = protoB p short := by
  unfold hiB protoB
  by_cases h : p < 256
  · cases short
    · simp
    · rw [if_neg (by simp; omega), if_pos (by simp; omega)]; simp; omega
  · rw [if_pos (by simp; omega), if_neg (by simp; omega)]; rfl
theorem fr_eq (p : Int) (hp : 0 ≤ p ∧ p ≤ 65535) (bare short : Bool) (l : List Int) : headB p bare ++ hiB p short ++ [p % 256] ++ l = frB p bare short l := by unfold frB; rw [← hi_proto p hp short]; simp [List.append_assoc]
theorem div16 (p : Int) (hp : 0 ≤ p ∧ p ≤ 65535) : IntKind.u16.wrap (p.tdiv 256) % 256 = p / 256 := by
  rw [Int.tdiv_eq_ediv_of_nonneg hp.1, IntKind.wrap_u16]; omega
theorem mod16 (p : Int) (hp : 0 ≤ p ∧ p ≤ 65535) : IntKind.u8.wrap (p.tmod 256) = p % 256 := by
  rw [Int.tmod_eq_emod_of_nonneg hp.1, IntKind.wrap_u8']; omega
set_option maxRecDepth 20000 in
set_option maxHeartbeats 1000000 in
theorem rbuild_any {w W : World} {L : List Sl} {a : Option Addr} {n c : Nat} {l : List Int} (h : St w W L) (hm : (a, n, c, l) ∈ L) (hn : n ≤ 2000) (p : Int) (hp : 0 ≤ p ∧ p ≤ 65535) (bare short : Bool) :
    Calls Try.prog 38 #[.agg #[.int .u16 p, .slice a n c], .bool bare, .bool short] W fun e W' => ∃ a' n' c', e = .returned (.slice a' n' c') ∧ St w W' ((a', n', c', frB p bare short l) :: L) := by
  obtain ⟨i0, hi, hi0, hi1, hi2⟩ := info_parts Try.info_u8
  obtain ⟨W1, hW1⟩ : ∃ W1, W1 = W.alloc (.cells #[.int .u16 p, .slice a n c] 54) := ⟨_, rfl⟩
  have hW := hid hW1
  have c1 : W1.cell? ⟨W.heap.size, 1, none⟩ = some (.slice a n c) := by rw [hW1]; simp [go_sem]
  have c0 : W1.cell? ⟨W.heap.size, 0, none⟩ = some (.int .u16 p) := by rw [hW1]; simp [go_sem]
  have s0 := h.next ((Below.refl _ _).alloc (Nat.le_refl _) (.cells #[.int .u16 p, .slice a n c] 54))
  rw [← hW1] at s0
  have N0 := hid (s0.get hm)
  have S0 := hid s0
  have C0 := hid c0
  have C1 := hid c1
  clear h hm c0 c1 s0 hW1
  have V1 := hid (div16 p hp)
  have V2 := hid (mod16 p hp)
  cases hc49 : (p == 49185)
  · have h4 := hid (show p ≠ 49185 by simpa using hc49)
    cases bare
    ·
      have HH := hid (show headB p false = [255, 3] by unfold headB; simp)
      by_cases h2 : 256 ≤ p
      · have HI := hid (show hiB p short = [p / 256] by unfold hiB; simp [h2])
        go_enter Try.func38, Try.ntmps38
        go_upto_region 2 with fail
        rw [← hW.out]
        have c0 := C0.out
        have c1 := C1.out
        go_upto_region 4 with (at_builtin; go_loud (refine wpList_append_nums rfl (.tmp 15) _ 22 rfl W1.heap.size 5 i0 (.int .u8 0) 1 Try.underlying22 hi hi0 hi1 hi2 rfl (.slice none 0 0) 0 [] rfl (World.ownsRow_nil _ _ _ _) _ 2 2 _ [255, 3] rfl nums_two (by unfold maxLen; omega) (by omega) (by simp) ?_); go_loud (intro v1 w2 g1 r1))
        have O1 : Hid (w2.ownsRow W1.heap.size 5 1 v1 2 ((headB p false).map (Value.int .u8))) := by rw [HH.out]; exact g1
        have b1 := own_below (World.ownsRow_nil _ W1.heap.size 5 1) ((Below.refl _ _).alloc (Nat.le_refl _) _) r1 (by simp)
        have d0 := keep_cell b1 c0
        have d1 := keep_cell b1 c1
        have k1 := b1.size
        clear c0 c1 g1 r1
        go_upto_region 6 with (at_builtin; go_loud (refine wpList_append_nums rfl (.tmp 25) _ 22 rfl W1.heap.size 5 i0 (.int .u8 0) 1 Try.underlying22 hi hi0 hi1 hi2 rfl _ 2 (headB p false) rfl (O1.out.alloc _) _ 1 1 _ _ rfl nums_one (by unfold maxLen; omega) (by omega) (by simp <;> omega) ?_); go_loud (intro v2 w3 g2 r2))
        have O2 : Hid (w3.ownsRow W1.heap.size 5 1 v2 (2 + 1) ((headB p false ++ hiB p short).map (Value.int .u8))) := by rw [V1.out] at g2; rw [HI.out]; exact g2
        have b2 := own_below (O1.out.alloc _) (b1.alloc k1 _) r2 (by simp <;> omega)
        have e0 := keep_cell b2 C0.out
        have e1 := keep_cell b2 C1.out
        have k2 := b2.size
        clear d0 d1 g2 r2 O1 b1 k1
        have e2 : (w3.alloc (.cells #[.int .u8 (IntKind.u8.wrap (p.tmod 256))] 5)).cell? ⟨W.heap.size, 1, none⟩ = some (.slice a n c) := keep_cell ((Below.refl _ _).alloc (Nat.le_refl _) _) e1
        go_region_law (first | (refine step_append_nums rfl (.tmp 32) (.tmp 37) 22 rfl W1.heap.size 5 i0 (.int .u8 0) 1 Try.underlying22 hi hi0 hi1 hi2 rfl _ _ _ rfl (O2.out.alloc _).drew _ 1 1 _ _ rfl nums_one.drew (by unfold maxLen; omega) (by omega) (by simp <;> omega) ?_; intro v4 w5 g4 r4; have b4 := own_below ((O2.out.alloc _).drew) ((b2.alloc k2 _).drew) r4 (by simp <;> omega); have f1 := keep_cell b4 C1.out; have k4 := b4.size; clear e1) | (refine step_append_nums rfl (.tmp 38) (.tmp 40) 22 rfl W1.heap.size 5 i0 (.int .u8 0) 1 Try.underlying22 hi hi0 hi1 hi2 rfl _ _ _ rfl g4 _ _ _ _ _ rfl (N0.out.below b4) (by unfold maxLen; omega) (by omega) k4 ?_; intro v6 w7 g6 r6; have b6 := own_below g4 b4 r6 k4; clear r6 r4 b4 f1))
        all_goals
          go_wp2_with fail
          go_ret
          obtain ⟨a7, c7, rfl⟩ := own_slice g6
          rw [V2.out, fr_eq p hp] at g6
          exact ⟨a7, _, c7, rfl, (S0.out.next b6).push (own_nums g6)⟩
      · cases short
        · have HI := hid (show hiB p false = [p / 256] by unfold hiB; simp)
          go_enter Try.func38, Try.ntmps38
          go_upto_region 2 with fail
          rw [← hW.out]
          have c0 := C0.out
          have c1 := C1.out
          go_upto_region 4 with (at_builtin; go_loud (refine wpList_append_nums rfl (.tmp 15) _ 22 rfl W1.heap.size 5 i0 (.int .u8 0) 1 Try.underlying22 hi hi0 hi1 hi2 rfl (.slice none 0 0) 0 [] rfl (World.ownsRow_nil _ _ _ _) _ 2 2 _ [255, 3] rfl nums_two (by unfold maxLen; omega) (by omega) (by simp) ?_); go_loud (intro v1 w2 g1 r1))
          have O1 : Hid (w2.ownsRow W1.heap.size 5 1 v1 2 ((headB p false).map (Value.int .u8))) := by rw [HH.out]; exact g1
          have b1 := own_below (World.ownsRow_nil _ W1.heap.size 5 1) ((Below.refl _ _).alloc (Nat.le_refl _) _) r1 (by simp)
          have d0 := keep_cell b1 c0
          have d1 := keep_cell b1 c1
          have k1 := b1.size
          clear c0 c1 g1 r1
          go_upto_region 6 with (at_builtin; go_loud (refine wpList_append_nums rfl (.tmp 25) _ 22 rfl W1.heap.size 5 i0 (.int .u8 0) 1 Try.underlying22 hi hi0 hi1 hi2 rfl _ 2 (headB p false) rfl (O1.out.alloc _) _ 1 1 _ _ rfl nums_one (by unfold maxLen; omega) (by omega) (by simp <;> omega) ?_); go_loud (intro v2 w3 g2 r2))
          have O2 : Hid (w3.ownsRow W1.heap.size 5 1 v2 (2 + 1) ((headB p false ++ hiB p false).map (Value.int .u8))) := by rw [V1.out] at g2; rw [HI.out]; exact g2
          have b2 := own_below (O1.out.alloc _) (b1.alloc k1 _) r2 (by simp <;> omega)
          have e0 := keep_cell b2 C0.out
          have e1 := keep_cell b2 C1.out
          have k2 := b2.size
          clear d0 d1 g2 r2 O1 b1 k1
          have e2 : (w3.alloc (.cells #[.int .u8 (IntKind.u8.wrap (p.tmod 256))] 5)).cell? ⟨W.heap.size, 1, none⟩ = some (.slice a n c) := keep_cell ((Below.refl _ _).alloc (Nat.le_refl _) _) e1
          go_region_law (first | (refine step_append_nums rfl (.tmp 32) (.tmp 37) 22 rfl W1.heap.size 5 i0 (.int .u8 0) 1 Try.underlying22 hi hi0 hi1 hi2 rfl _ _ _ rfl (O2.out.alloc _).drew _ 1 1 _ _ rfl nums_one.drew (by unfold maxLen; omega) (by omega) (by simp <;> omega) ?_; intro v4 w5 g4 r4; have b4 := own_below ((O2.out.alloc _).drew) ((b2.alloc k2 _).drew) r4 (by simp <;> omega); have f1 := keep_cell b4 C1.out; have k4 := b4.size; clear e1) | (refine step_append_nums rfl (.tmp 38) (.tmp 40) 22 rfl W1.heap.size 5 i0 (.int .u8 0) 1 Try.underlying22 hi hi0 hi1 hi2 rfl _ _ _ rfl g4 _ _ _ _ _ rfl (N0.out.below b4) (by unfold maxLen; omega) (by omega) k4 ?_; intro v6 w7 g6 r6; have b6 := own_below g4 b4 r6 k4; clear r6 r4 b4 f1))
          all_goals
            go_wp2_with fail
            go_ret
            obtain ⟨a7, c7, rfl⟩ := own_slice g6
            rw [V2.out, fr_eq p hp] at g6
            exact ⟨a7, _, c7, rfl, (S0.out.next b6).push (own_nums g6)⟩
        · have HI := hid (show hiB p true = [] by unfold hiB; simp; omega)
          go_enter Try.func38, Try.ntmps38
          go_upto_region 2 with fail
          rw [← hW.out]
          have c0 := C0.out
          have c1 := C1.out
          go_upto_region 4 with (at_builtin; go_loud (refine wpList_append_nums rfl (.tmp 15) _ 22 rfl W1.heap.size 5 i0 (.int .u8 0) 1 Try.underlying22 hi hi0 hi1 hi2 rfl (.slice none 0 0) 0 [] rfl (World.ownsRow_nil _ _ _ _) _ 2 2 _ [255, 3] rfl nums_two (by unfold maxLen; omega) (by omega) (by simp) ?_); go_loud (intro v1 w2 g1 r1))
          have O1 : Hid (w2.ownsRow W1.heap.size 5 1 v1 2 ((headB p false).map (Value.int .u8))) := by rw [HH.out]; exact g1
          have b1 := own_below (World.ownsRow_nil _ W1.heap.size 5 1) ((Below.refl _ _).alloc (Nat.le_refl _) _) r1 (by simp)
          have d0 := keep_cell b1 c0
          have d1 := keep_cell b1 c1
          have k1 := b1.size
          clear c0 c1 g1 r1
          go_upto_region 6 with fail
          have O2 : Hid (w2.ownsRow W1.heap.size 5 1 v1 2 ((headB p false ++ hiB p true).map (Value.int .u8))) := by rw [HI.out, List.append_nil]; exact O1.out
          have b2 := b1
          have e0 := d0
          have e1 := d1
          have k2 := k1
          clear d0 d1 O1 b1 k1
          have e2 : (w2.alloc (.cells #[.int .u8 (IntKind.u8.wrap (p.tmod 256))] 5)).cell? ⟨W.heap.size, 1, none⟩ = some (.slice a n c) := keep_cell ((Below.refl _ _).alloc (Nat.le_refl _) _) e1
          go_region_law (first | (refine step_append_nums rfl (.tmp 32) (.tmp 37) 22 rfl W1.heap.size 5 i0 (.int .u8 0) 1 Try.underlying22 hi hi0 hi1 hi2 rfl _ _ _ rfl (O2.out.alloc _).drew _ 1 1 _ _ rfl nums_one.drew (by unfold maxLen; omega) (by omega) (by simp <;> omega) ?_; intro v4 w5 g4 r4; have b4 := own_below ((O2.out.alloc _).drew) ((b2.alloc k2 _).drew) r4 (by simp <;> omega); have f1 := keep_cell b4 C1.out; have k4 := b4.size; clear e1) | (refine step_append_nums rfl (.tmp 38) (.tmp 40) 22 rfl W1.heap.size 5 i0 (.int .u8 0) 1 Try.underlying22 hi hi0 hi1 hi2 rfl _ _ _ rfl g4 _ _ _ _ _ rfl (N0.out.below b4) (by unfold maxLen; omega) (by omega) k4 ?_; intro v6 w7 g6 r6; have b6 := own_below g4 b4 r6 k4; clear r6 r4 b4 f1))
          all_goals
            go_wp2_with fail
            go_ret
            obtain ⟨a7, c7, rfl⟩ := own_slice g6
            rw [V2.out, fr_eq p hp] at g6
            exact ⟨a7, _, c7, rfl, (S0.out.next b6).push (own_nums g6)⟩
    ·
      have HH := hid (show headB p true = [] by unfold headB; simp; exact h4.out)
      by_cases h2 : 256 ≤ p
      · have HI := hid (show hiB p short = [p / 256] by unfold hiB; simp [h2])
        go_enter Try.func38, Try.ntmps38
        go_upto_region 2 with fail
        rw [← hW.out]
        have c0 := C0.out
        have c1 := C1.out
        go_upto_region 4 with fail
        have O1 : Hid (W1.ownsRow W1.heap.size 5 1 (.slice none 0 0) 0 ((headB p true).map (Value.int .u8))) := by rw [HH.out]; exact World.ownsRow_nil _ _ _ _
        have b1 : Below W1.heap.size W1 W1 := Below.refl _ _
        have d0 := c0
        have d1 := c1
        have k1 := b1.size
        clear c0 c1
        go_upto_region 6 with (at_builtin; go_loud (refine wpList_append_nums rfl (.tmp 25) _ 22 rfl W1.heap.size 5 i0 (.int .u8 0) 1 Try.underlying22 hi hi0 hi1 hi2 rfl _ 0 (headB p true) rfl (O1.out.alloc _) _ 1 1 _ _ rfl nums_one (by unfold maxLen; omega) (by omega) (by simp <;> omega) ?_); go_loud (intro v2 w3 g2 r2))
        have O2 : Hid (w3.ownsRow W1.heap.size 5 1 v2 (0 + 1) ((headB p true ++ hiB p short).map (Value.int .u8))) := by rw [V1.out] at g2; rw [HI.out]; exact g2
        have b2 := own_below (O1.out.alloc _) (b1.alloc k1 _) r2 (by simp <;> omega)
        have e0 := keep_cell b2 C0.out
        have e1 := keep_cell b2 C1.out
        have k2 := b2.size
        clear d0 d1 g2 r2 O1 b1 k1
        have e2 : (w3.alloc (.cells #[.int .u8 (IntKind.u8.wrap (p.tmod 256))] 5)).cell? ⟨W.heap.size, 1, none⟩ = some (.slice a n c) := keep_cell ((Below.refl _ _).alloc (Nat.le_refl _) _) e1
        go_region_law (first | (refine step_append_nums rfl (.tmp 32) (.tmp 37) 22 rfl W1.heap.size 5 i0 (.int .u8 0) 1 Try.underlying22 hi hi0 hi1 hi2 rfl _ _ _ rfl (O2.out.alloc _).drew _ 1 1 _ _ rfl nums_one.drew (by unfold maxLen; omega) (by omega) (by simp <;> omega) ?_; intro v4 w5 g4 r4; have b4 := own_below ((O2.out.alloc _).drew) ((b2.alloc k2 _).drew) r4 (by simp <;> omega); have f1 := keep_cell b4 C1.out; have k4 := b4.size; clear e1) | (refine step_append_nums rfl (.tmp 38) (.tmp 40) 22 rfl W1.heap.size 5 i0 (.int .u8 0) 1 Try.underlying22 hi hi0 hi1 hi2 rfl _ _ _ rfl g4 _ _ _ _ _ rfl (N0.out.below b4) (by unfold maxLen; omega) (by omega) k4 ?_; intro v6 w7 g6 r6; have b6 := own_below g4 b4 r6 k4; clear r6 r4 b4 f1))
        all_goals
          go_wp2_with fail
          go_ret
          obtain ⟨a7, c7, rfl⟩ := own_slice g6
          rw [V2.out, fr_eq p hp] at g6
          exact ⟨a7, _, c7, rfl, (S0.out.next b6).push (own_nums g6)⟩
      · cases short
        · have HI := hid (show hiB p false = [p / 256] by unfold hiB; simp)
          go_enter Try.func38, Try.ntmps38
          go_upto_region 2 with fail
          rw [← hW.out]
          have c0 := C0.out
          have c1 := C1.out
          go_upto_region 4 with fail
          have O1 : Hid (W1.ownsRow W1.heap.size 5 1 (.slice none 0 0) 0 ((headB p true).map (Value.int .u8))) := by rw [HH.out]; exact World.ownsRow_nil _ _ _ _
          have b1 : Below W1.heap.size W1 W1 := Below.refl _ _
          have d0 := c0
          have d1 := c1
          have k1 := b1.size
          clear c0 c1
          go_upto_region 6 with (at_builtin; go_loud (refine wpList_append_nums rfl (.tmp 25) _ 22 rfl W1.heap.size 5 i0 (.int .u8 0) 1 Try.underlying22 hi hi0 hi1 hi2 rfl _ 0 (headB p true) rfl (O1.out.alloc _) _ 1 1 _ _ rfl nums_one (by unfold maxLen; omega) (by omega) (by simp <;> omega) ?_); go_loud (intro v2 w3 g2 r2))
          have O2 : Hid (w3.ownsRow W1.heap.size 5 1 v2 (0 + 1) ((headB p true ++ hiB p false).map (Value.int .u8))) := by rw [V1.out] at g2; rw [HI.out]; exact g2
          have b2 := own_below (O1.out.alloc _) (b1.alloc k1 _) r2 (by simp <;> omega)
          have e0 := keep_cell b2 C0.out
          have e1 := keep_cell b2 C1.out
          have k2 := b2.size
          clear d0 d1 g2 r2 O1 b1 k1
          have e2 : (w3.alloc (.cells #[.int .u8 (IntKind.u8.wrap (p.tmod 256))] 5)).cell? ⟨W.heap.size, 1, none⟩ = some (.slice a n c) := keep_cell ((Below.refl _ _).alloc (Nat.le_refl _) _) e1
          go_region_law (first | (refine step_append_nums rfl (.tmp 32) (.tmp 37) 22 rfl W1.heap.size 5 i0 (.int .u8 0) 1 Try.underlying22 hi hi0 hi1 hi2 rfl _ _ _ rfl (O2.out.alloc _).drew _ 1 1 _ _ rfl nums_one.drew (by unfold maxLen; omega) (by omega) (by simp <;> omega) ?_; intro v4 w5 g4 r4; have b4 := own_below ((O2.out.alloc _).drew) ((b2.alloc k2 _).drew) r4 (by simp <;> omega); have f1 := keep_cell b4 C1.out; have k4 := b4.size; clear e1) | (refine step_append_nums rfl (.tmp 38) (.tmp 40) 22 rfl W1.heap.size 5 i0 (.int .u8 0) 1 Try.underlying22 hi hi0 hi1 hi2 rfl _ _ _ rfl g4 _ _ _ _ _ rfl (N0.out.below b4) (by unfold maxLen; omega) (by omega) k4 ?_; intro v6 w7 g6 r6; have b6 := own_below g4 b4 r6 k4; clear r6 r4 b4 f1))
          all_goals
            go_wp2_with fail
            go_ret
            obtain ⟨a7, c7, rfl⟩ := own_slice g6
            rw [V2.out, fr_eq p hp] at g6
            exact ⟨a7, _, c7, rfl, (S0.out.next b6).push (own_nums g6)⟩
        · have HI := hid (show hiB p true = [] by unfold hiB; simp; omega)
          go_enter Try.func38, Try.ntmps38
          go_upto_region 2 with fail
          rw [← hW.out]
          have c0 := C0.out
          have c1 := C1.out
          go_upto_region 4 with fail
          have O1 : Hid (W1.ownsRow W1.heap.size 5 1 (.slice none 0 0) 0 ((headB p true).map (Value.int .u8))) := by rw [HH.out]; exact World.ownsRow_nil _ _ _ _
          have b1 : Below W1.heap.size W1 W1 := Below.refl _ _
          have d0 := c0
          have d1 := c1
          have k1 := b1.size
          clear c0 c1
          go_upto_region 6 with fail
          have O2 : Hid (W1.ownsRow W1.heap.size 5 1 (.slice none 0 0) 0 ((headB p true ++ hiB p true).map (Value.int .u8))) := by rw [HI.out, List.append_nil]; exact O1.out
          have b2 := b1
          have e0 := d0
          have e1 := d1
          have k2 := k1
          clear d0 d1 O1 b1 k1
          have e2 : (W1.alloc (.cells #[.int .u8 (IntKind.u8.wrap (p.tmod 256))] 5)).cell? ⟨W.heap.size, 1, none⟩ = some (.slice a n c) := keep_cell ((Below.refl _ _).alloc (Nat.le_refl _) _) e1
          go_region_law (first | (refine step_append_nums rfl (.tmp 32) (.tmp 37) 22 rfl W1.heap.size 5 i0 (.int .u8 0) 1 Try.underlying22 hi hi0 hi1 hi2 rfl _ _ _ rfl (O2.out.alloc _).drew _ 1 1 _ _ rfl nums_one.drew (by unfold maxLen; omega) (by omega) (by simp <;> omega) ?_; intro v4 w5 g4 r4; have b4 := own_below ((O2.out.alloc _).drew) ((b2.alloc k2 _).drew) r4 (by simp <;> omega); have f1 := keep_cell b4 C1.out; have k4 := b4.size; clear e1) | (refine step_append_nums rfl (.tmp 38) (.tmp 40) 22 rfl W1.heap.size 5 i0 (.int .u8 0) 1 Try.underlying22 hi hi0 hi1 hi2 rfl _ _ _ rfl g4 _ _ _ _ _ rfl (N0.out.below b4) (by unfold maxLen; omega) (by omega) k4 ?_; intro v6 w7 g6 r6; have b6 := own_below g4 b4 r6 k4; clear r6 r4 b4 f1))
          all_goals
            go_wp2_with fail
            go_ret
            obtain ⟨a7, c7, rfl⟩ := own_slice g6
            rw [V2.out, fr_eq p hp] at g6
            exact ⟨a7, _, c7, rfl, (S0.out.next b6).push (own_nums g6)⟩
  · have h4 := hid (show p = 49185 by simpa using hc49)
    cases bare
    ·
      have HH := hid (show headB p false = [255, 3] by unfold headB; simp)
      by_cases h2 : 256 ≤ p
      · have HI := hid (show hiB p short = [p / 256] by unfold hiB; simp [h2])
        go_enter Try.func38, Try.ntmps38
        go_upto_region 2 with fail
        rw [← hW.out]
        have c0 := C0.out
        have c1 := C1.out
        go_upto_region 4 with (at_builtin; go_loud (refine wpList_append_nums rfl (.tmp 15) _ 22 rfl W1.heap.size 5 i0 (.int .u8 0) 1 Try.underlying22 hi hi0 hi1 hi2 rfl (.slice none 0 0) 0 [] rfl (World.ownsRow_nil _ _ _ _) _ 2 2 _ [255, 3] rfl nums_two (by unfold maxLen; omega) (by omega) (by simp) ?_); go_loud (intro v1 w2 g1 r1))
        have O1 : Hid (w2.ownsRow W1.heap.size 5 1 v1 2 ((headB p false).map (Value.int .u8))) := by rw [HH.out]; exact g1
        have b1 := own_below (World.ownsRow_nil _ W1.heap.size 5 1) ((Below.refl _ _).alloc (Nat.le_refl _) _) r1 (by simp)
        have d0 := keep_cell b1 c0
        have d1 := keep_cell b1 c1
        have k1 := b1.size
        clear c0 c1 g1 r1
        go_upto_region 6 with (at_builtin; go_loud (refine wpList_append_nums rfl (.tmp 25) _ 22 rfl W1.heap.size 5 i0 (.int .u8 0) 1 Try.underlying22 hi hi0 hi1 hi2 rfl _ 2 (headB p false) rfl (O1.out.alloc _) _ 1 1 _ _ rfl nums_one (by unfold maxLen; omega) (by omega) (by simp <;> omega) ?_); go_loud (intro v2 w3 g2 r2))
        have O2 : Hid (w3.ownsRow W1.heap.size 5 1 v2 (2 + 1) ((headB p false ++ hiB p short).map (Value.int .u8))) := by rw [V1.out] at g2; rw [HI.out]; exact g2
        have b2 := own_below (O1.out.alloc _) (b1.alloc k1 _) r2 (by simp <;> omega)
        have e0 := keep_cell b2 C0.out
        have e1 := keep_cell b2 C1.out
        have k2 := b2.size
        clear d0 d1 g2 r2 O1 b1 k1
        have e2 : (w3.alloc (.cells #[.int .u8 (IntKind.u8.wrap (p.tmod 256))] 5)).cell? ⟨W.heap.size, 1, none⟩ = some (.slice a n c) := keep_cell ((Below.refl _ _).alloc (Nat.le_refl _) _) e1
        go_region_law (first | (refine step_append_nums rfl (.tmp 32) (.tmp 37) 22 rfl W1.heap.size 5 i0 (.int .u8 0) 1 Try.underlying22 hi hi0 hi1 hi2 rfl _ _ _ rfl (O2.out.alloc _).drew _ 1 1 _ _ rfl nums_one.drew (by unfold maxLen; omega) (by omega) (by simp <;> omega) ?_; intro v4 w5 g4 r4; have b4 := own_below ((O2.out.alloc _).drew) ((b2.alloc k2 _).drew) r4 (by simp <;> omega); have f1 := keep_cell b4 C1.out; have k4 := b4.size; clear e1) | (refine step_append_nums rfl (.tmp 38) (.tmp 40) 22 rfl W1.heap.size 5 i0 (.int .u8 0) 1 Try.underlying22 hi hi0 hi1 hi2 rfl _ _ _ rfl g4 _ _ _ _ _ rfl (N0.out.below b4) (by unfold maxLen; omega) (by omega) k4 ?_; intro v6 w7 g6 r6; have b6 := own_below g4 b4 r6 k4; clear r6 r4 b4 f1))
        all_goals
          go_wp2_with fail
          go_ret
          obtain ⟨a7, c7, rfl⟩ := own_slice g6
          rw [V2.out, fr_eq p hp] at g6
          exact ⟨a7, _, c7, rfl, (S0.out.next b6).push (own_nums g6)⟩
      · cases short
        · have HI := hid (show hiB p false = [p / 256] by unfold hiB; simp)
          go_enter Try.func38, Try.ntmps38
          go_upto_region 2 with fail
          rw [← hW.out]
          have c0 := C0.out
          have c1 := C1.out
          go_upto_region 4 with (at_builtin; go_loud (refine wpList_append_nums rfl (.tmp 15) _ 22 rfl W1.heap.size 5 i0 (.int .u8 0) 1 Try.underlying22 hi hi0 hi1 hi2 rfl (.slice none 0 0) 0 [] rfl (World.ownsRow_nil _ _ _ _) _ 2 2 _ [255, 3] rfl nums_two (by unfold maxLen; omega) (by omega) (by simp) ?_); go_loud (intro v1 w2 g1 r1))
          have O1 : Hid (w2.ownsRow W1.heap.size 5 1 v1 2 ((headB p false).map (Value.int .u8))) := by rw [HH.out]; exact g1
          have b1 := own_below (World.ownsRow_nil _ W1.heap.size 5 1) ((Below.refl _ _).alloc (Nat.le_refl _) _) r1 (by simp)
          have d0 := keep_cell b1 c0
          have d1 := keep_cell b1 c1
          have k1 := b1.size
          clear c0 c1 g1 r1
          go_upto_region 6 with (at_builtin; go_loud (refine wpList_append_nums rfl (.tmp 25) _ 22 rfl W1.heap.size 5 i0 (.int .u8 0) 1 Try.underlying22 hi hi0 hi1 hi2 rfl _ 2 (headB p false) rfl (O1.out.alloc _) _ 1 1 _ _ rfl nums_one (by unfold maxLen; omega) (by omega) (by simp <;> omega) ?_); go_loud (intro v2 w3 g2 r2))
          have O2 : Hid (w3.ownsRow W1.heap.size 5 1 v2 (2 + 1) ((headB p false ++ hiB p false).map (Value.int .u8))) := by rw [V1.out] at g2; rw [HI.out]; exact g2
          have b2 := own_below (O1.out.alloc _) (b1.alloc k1 _) r2 (by simp <;> omega)
          have e0 := keep_cell b2 C0.out
          have e1 := keep_cell b2 C1.out
          have k2 := b2.size
          clear d0 d1 g2 r2 O1 b1 k1
          have e2 : (w3.alloc (.cells #[.int .u8 (IntKind.u8.wrap (p.tmod 256))] 5)).cell? ⟨W.heap.size, 1, none⟩ = some (.slice a n c) := keep_cell ((Below.refl _ _).alloc (Nat.le_refl _) _) e1
          go_region_law (first | (refine step_append_nums rfl (.tmp 32) (.tmp 37) 22 rfl W1.heap.size 5 i0 (.int .u8 0) 1 Try.underlying22 hi hi0 hi1 hi2 rfl _ _ _ rfl (O2.out.alloc _).drew _ 1 1 _ _ rfl nums_one.drew (by unfold maxLen; omega) (by omega) (by simp <;> omega) ?_; intro v4 w5 g4 r4; have b4 := own_below ((O2.out.alloc _).drew) ((b2.alloc k2 _).drew) r4 (by simp <;> omega); have f1 := keep_cell b4 C1.out; have k4 := b4.size; clear e1) | (refine step_append_nums rfl (.tmp 38) (.tmp 40) 22 rfl W1.heap.size 5 i0 (.int .u8 0) 1 Try.underlying22 hi hi0 hi1 hi2 rfl _ _ _ rfl g4 _ _ _ _ _ rfl (N0.out.below b4) (by unfold maxLen; omega) (by omega) k4 ?_; intro v6 w7 g6 r6; have b6 := own_below g4 b4 r6 k4; clear r6 r4 b4 f1))
          all_goals
            go_wp2_with fail
            go_ret
            obtain ⟨a7, c7, rfl⟩ := own_slice g6
            rw [V2.out, fr_eq p hp] at g6
            exact ⟨a7, _, c7, rfl, (S0.out.next b6).push (own_nums g6)⟩
        · have HI := hid (show hiB p true = [] by unfold hiB; simp; omega)
          go_enter Try.func38, Try.ntmps38
          go_upto_region 2 with fail
          rw [← hW.out]
          have c0 := C0.out
          have c1 := C1.out
          go_upto_region 4 with (at_builtin; go_loud (refine wpList_append_nums rfl (.tmp 15) _ 22 rfl W1.heap.size 5 i0 (.int .u8 0) 1 Try.underlying22 hi hi0 hi1 hi2 rfl (.slice none 0 0) 0 [] rfl (World.ownsRow_nil _ _ _ _) _ 2 2 _ [255, 3] rfl nums_two (by unfold maxLen; omega) (by omega) (by simp) ?_); go_loud (intro v1 w2 g1 r1))
          have O1 : Hid (w2.ownsRow W1.heap.size 5 1 v1 2 ((headB p false).map (Value.int .u8))) := by rw [HH.out]; exact g1
          have b1 := own_below (World.ownsRow_nil _ W1.heap.size 5 1) ((Below.refl _ _).alloc (Nat.le_refl _) _) r1 (by simp)
          have d0 := keep_cell b1 c0
          have d1 := keep_cell b1 c1
          have k1 := b1.size
          clear c0 c1 g1 r1
          go_upto_region 6 with fail
          have O2 : Hid (w2.ownsRow W1.heap.size 5 1 v1 2 ((headB p false ++ hiB p true).map (Value.int .u8))) := by rw [HI.out, List.append_nil]; exact O1.out
          have b2 := b1
          have e0 := d0
          have e1 := d1
          have k2 := k1
          clear d0 d1 O1 b1 k1
          have e2 : (w2.alloc (.cells #[.int .u8 (IntKind.u8.wrap (p.tmod 256))] 5)).cell? ⟨W.heap.size, 1, none⟩ = some (.slice a n c) := keep_cell ((Below.refl _ _).alloc (Nat.le_refl _) _) e1
          go_region_law (first | (refine step_append_nums rfl (.tmp 32) (.tmp 37) 22 rfl W1.heap.size 5 i0 (.int .u8 0) 1 Try.underlying22 hi hi0 hi1 hi2 rfl _ _ _ rfl (O2.out.alloc _).drew _ 1 1 _ _ rfl nums_one.drew (by unfold maxLen; omega) (by omega) (by simp <;> omega) ?_; intro v4 w5 g4 r4; have b4 := own_below ((O2.out.alloc _).drew) ((b2.alloc k2 _).drew) r4 (by simp <;> omega); have f1 := keep_cell b4 C1.out; have k4 := b4.size; clear e1) | (refine step_append_nums rfl (.tmp 38) (.tmp 40) 22 rfl W1.heap.size 5 i0 (.int .u8 0) 1 Try.underlying22 hi hi0 hi1 hi2 rfl _ _ _ rfl g4 _ _ _ _ _ rfl (N0.out.below b4) (by unfold maxLen; omega) (by omega) k4 ?_; intro v6 w7 g6 r6; have b6 := own_below g4 b4 r6 k4; clear r6 r4 b4 f1))
          all_goals
            go_wp2_with fail
            go_ret
            obtain ⟨a7, c7, rfl⟩ := own_slice g6
            rw [V2.out, fr_eq p hp] at g6
            exact ⟨a7, _, c7, rfl, (S0.out.next b6).push (own_nums g6)⟩
    ·
      have HH := hid (show headB p true = [255, 3] by unfold headB; simp; exact h4.out)
      by_cases h2 : 256 ≤ p
      · have HI := hid (show hiB p short = [p / 256] by unfold hiB; simp [h2])
        go_enter Try.func38, Try.ntmps38
        go_upto_region 2 with fail
        rw [← hW.out]
        have c0 := C0.out
        have c1 := C1.out
        go_upto_region 4 with (at_builtin; go_loud (refine wpList_append_nums rfl (.tmp 15) _ 22 rfl W1.heap.size 5 i0 (.int .u8 0) 1 Try.underlying22 hi hi0 hi1 hi2 rfl (.slice none 0 0) 0 [] rfl (World.ownsRow_nil _ _ _ _) _ 2 2 _ [255, 3] rfl nums_two (by unfold maxLen; omega) (by omega) (by simp) ?_); go_loud (intro v1 w2 g1 r1))
        have O1 : Hid (w2.ownsRow W1.heap.size 5 1 v1 2 ((headB p true).map (Value.int .u8))) := by rw [HH.out]; exact g1
        have b1 := own_below (World.ownsRow_nil _ W1.heap.size 5 1) ((Below.refl _ _).alloc (Nat.le_refl _) _) r1 (by simp)
        have d0 := keep_cell b1 c0
        have d1 := keep_cell b1 c1
        have k1 := b1.size
        clear c0 c1 g1 r1
        go_upto_region 6 with (at_builtin; go_loud (refine wpList_append_nums rfl (.tmp 25) _ 22 rfl W1.heap.size 5 i0 (.int .u8 0) 1 Try.underlying22 hi hi0 hi1 hi2 rfl _ 2 (headB p true) rfl (O1.out.alloc _) _ 1 1 _ _ rfl nums_one (by unfold maxLen; omega) (by omega) (by simp <;> omega) ?_); go_loud (intro v2 w3 g2 r2))
        have O2 : Hid (w3.ownsRow W1.heap.size 5 1 v2 (2 + 1) ((headB p true ++ hiB p short).map (Value.int .u8))) := by rw [V1.out] at g2; rw [HI.out]; exact g2
        have b2 := own_below (O1.out.alloc _) (b1.alloc k1 _) r2 (by simp <;> omega)
        have e0 := keep_cell b2 C0.out
        have e1 := keep_cell b2 C1.out
        have k2 := b2.size
        clear d0 d1 g2 r2 O1 b1 k1
        have e2 : (w3.alloc (.cells #[.int .u8 (IntKind.u8.wrap (p.tmod 256))] 5)).cell? ⟨W.heap.size, 1, none⟩ = some (.slice a n c) := keep_cell ((Below.refl _ _).alloc (Nat.le_refl _) _) e1
        go_region_law (first | (refine step_append_nums rfl (.tmp 32) (.tmp 37) 22 rfl W1.heap.size 5 i0 (.int .u8 0) 1 Try.underlying22 hi hi0 hi1 hi2 rfl _ _ _ rfl (O2.out.alloc _).drew _ 1 1 _ _ rfl nums_one.drew (by unfold maxLen; omega) (by omega) (by simp <;> omega) ?_; intro v4 w5 g4 r4; have b4 := own_below ((O2.out.alloc _).drew) ((b2.alloc k2 _).drew) r4 (by simp <;> omega); have f1 := keep_cell b4 C1.out; have k4 := b4.size; clear e1) | (refine step_append_nums rfl (.tmp 38) (.tmp 40) 22 rfl W1.heap.size 5 i0 (.int .u8 0) 1 Try.underlying22 hi hi0 hi1 hi2 rfl _ _ _ rfl g4 _ _ _ _ _ rfl (N0.out.below b4) (by unfold maxLen; omega) (by omega) k4 ?_; intro v6 w7 g6 r6; have b6 := own_below g4 b4 r6 k4; clear r6 r4 b4 f1))
        all_goals
          go_wp2_with fail
          go_ret
          obtain ⟨a7, c7, rfl⟩ := own_slice g6
          rw [V2.out, fr_eq p hp] at g6
          exact ⟨a7, _, c7, rfl, (S0.out.next b6).push (own_nums g6)⟩
      · cases short
        · have HI := hid (show hiB p false = [p / 256] by unfold hiB; simp)
          go_enter Try.func38, Try.ntmps38
          go_upto_region 2 with fail
          rw [← hW.out]
          have c0 := C0.out
          have c1 := C1.out
          go_upto_region 4 with (at_builtin; go_loud (refine wpList_append_nums rfl (.tmp 15) _ 22 rfl W1.heap.size 5 i0 (.int .u8 0) 1 Try.underlying22 hi hi0 hi1 hi2 rfl (.slice none 0 0) 0 [] rfl (World.ownsRow_nil _ _ _ _) _ 2 2 _ [255, 3] rfl nums_two (by unfold maxLen; omega) (by omega) (by simp) ?_); go_loud (intro v1 w2 g1 r1))
          have O1 : Hid (w2.ownsRow W1.heap.size 5 1 v1 2 ((headB p true).map (Value.int .u8))) := by rw [HH.out]; exact g1
          have b1 := own_below (World.ownsRow_nil _ W1.heap.size 5 1) ((Below.refl _ _).alloc (Nat.le_refl _) _) r1 (by simp)
          have d0 := keep_cell b1 c0
          have d1 := keep_cell b1 c1
          have k1 := b1.size
          clear c0 c1 g1 r1
          go_upto_region 6 with (at_builtin; go_loud (refine wpList_append_nums rfl (.tmp 25) _ 22 rfl W1.heap.size 5 i0 (.int .u8 0) 1 Try.underlying22 hi hi0 hi1 hi2 rfl _ 2 (headB p true) rfl (O1.out.alloc _) _ 1 1 _ _ rfl nums_one (by unfold maxLen; omega) (by omega) (by simp <;> omega) ?_); go_loud (intro v2 w3 g2 r2))
          have O2 : Hid (w3.ownsRow W1.heap.size 5 1 v2 (2 + 1) ((headB p true ++ hiB p false).map (Value.int .u8))) := by rw [V1.out] at g2; rw [HI.out]; exact g2
          have b2 := own_below (O1.out.alloc _) (b1.alloc k1 _) r2 (by simp <;> omega)
          have e0 := keep_cell b2 C0.out
          have e1 := keep_cell b2 C1.out
          have k2 := b2.size
          clear d0 d1 g2 r2 O1 b1 k1
          have e2 : (w3.alloc (.cells #[.int .u8 (IntKind.u8.wrap (p.tmod 256))] 5)).cell? ⟨W.heap.size, 1, none⟩ = some (.slice a n c) := keep_cell ((Below.refl _ _).alloc (Nat.le_refl _) _) e1
          go_region_law (first | (refine step_append_nums rfl (.tmp 32) (.tmp 37) 22 rfl W1.heap.size 5 i0 (.int .u8 0) 1 Try.underlying22 hi hi0 hi1 hi2 rfl _ _ _ rfl (O2.out.alloc _).drew _ 1 1 _ _ rfl nums_one.drew (by unfold maxLen; omega) (by omega) (by simp <;> omega) ?_; intro v4 w5 g4 r4; have b4 := own_below ((O2.out.alloc _).drew) ((b2.alloc k2 _).drew) r4 (by simp <;> omega); have f1 := keep_cell b4 C1.out; have k4 := b4.size; clear e1) | (refine step_append_nums rfl (.tmp 38) (.tmp 40) 22 rfl W1.heap.size 5 i0 (.int .u8 0) 1 Try.underlying22 hi hi0 hi1 hi2 rfl _ _ _ rfl g4 _ _ _ _ _ rfl (N0.out.below b4) (by unfold maxLen; omega) (by omega) k4 ?_; intro v6 w7 g6 r6; have b6 := own_below g4 b4 r6 k4; clear r6 r4 b4 f1))
          all_goals
            go_wp2_with fail
            go_ret
            obtain ⟨a7, c7, rfl⟩ := own_slice g6
            rw [V2.out, fr_eq p hp] at g6
            exact ⟨a7, _, c7, rfl, (S0.out.next b6).push (own_nums g6)⟩
        · have HI := hid (show hiB p true = [] by unfold hiB; simp; omega)
          go_enter Try.func38, Try.ntmps38
          go_upto_region 2 with fail
          rw [← hW.out]
          have c0 := C0.out
          have c1 := C1.out
          go_upto_region 4 with (at_builtin; go_loud (refine wpList_append_nums rfl (.tmp 15) _ 22 rfl W1.heap.size 5 i0 (.int .u8 0) 1 Try.underlying22 hi hi0 hi1 hi2 rfl (.slice none 0 0) 0 [] rfl (World.ownsRow_nil _ _ _ _) _ 2 2 _ [255, 3] rfl nums_two (by unfold maxLen; omega) (by omega) (by simp) ?_); go_loud (intro v1 w2 g1 r1))
          have O1 : Hid (w2.ownsRow W1.heap.size 5 1 v1 2 ((headB p true).map (Value.int .u8))) := by rw [HH.out]; exact g1
          have b1 := own_below (World.ownsRow_nil _ W1.heap.size 5 1) ((Below.refl _ _).alloc (Nat.le_refl _) _) r1 (by simp)
          have d0 := keep_cell b1 c0
          have d1 := keep_cell b1 c1
          have k1 := b1.size
          clear c0 c1 g1 r1
          go_upto_region 6 with fail
          have O2 : Hid (w2.ownsRow W1.heap.size 5 1 v1 2 ((headB p true ++ hiB p true).map (Value.int .u8))) := by rw [HI.out, List.append_nil]; exact O1.out
          have b2 := b1
          have e0 := d0
          have e1 := d1
          have k2 := k1
          clear d0 d1 O1 b1 k1
          have e2 : (w2.alloc (.cells #[.int .u8 (IntKind.u8.wrap (p.tmod 256))] 5)).cell? ⟨W.heap.size, 1, none⟩ = some (.slice a n c) := keep_cell ((Below.refl _ _).alloc (Nat.le_refl _) _) e1
          go_region_law (first | (refine step_append_nums rfl (.tmp 32) (.tmp 37) 22 rfl W1.heap.size 5 i0 (.int .u8 0) 1 Try.underlying22 hi hi0 hi1 hi2 rfl _ _ _ rfl (O2.out.alloc _).drew _ 1 1 _ _ rfl nums_one.drew (by unfold maxLen; omega) (by omega) (by simp <;> omega) ?_; intro v4 w5 g4 r4; have b4 := own_below ((O2.out.alloc _).drew) ((b2.alloc k2 _).drew) r4 (by simp <;> omega); have f1 := keep_cell b4 C1.out; have k4 := b4.size; clear e1) | (refine step_append_nums rfl (.tmp 38) (.tmp 40) 22 rfl W1.heap.size 5 i0 (.int .u8 0) 1 Try.underlying22 hi hi0 hi1 hi2 rfl _ _ _ rfl g4 _ _ _ _ _ rfl (N0.out.below b4) (by unfold maxLen; omega) (by omega) k4 ?_; intro v6 w7 g6 r6; have b6 := own_below g4 b4 r6 k4; clear r6 r4 b4 f1))
          all_goals
            go_wp2_with fail
            go_ret
            obtain ⟨a7, c7, rfl⟩ := own_slice g6
            rw [V2.out, fr_eq p hp] at g6
            exact ⟨a7, _, c7, rfl, (S0.out.next b6).push (own_nums g6)⟩
end Go.Proofs.Ytgoldoaigijmoaa.frc
