/- greh: the contract of the document's own packet of bytes. -/
import Derived.Test.YtgoldoaigijmoaaGrehP
import Derived.Test.YtgoldoaigijmoaaBeLaw
namespace Go.Proofs.Ytgoldoaigijmoaa.grc
open Go.RowKit
open Go.Proofs.Ytgoldoaigijmoaa.kit Go.Proofs.Ytgoldoaigijmoaa.bec
set_option linter.unusedVariables false
set_option linter.unusedSimpArgs false
set_option maxRecDepth 20000

theorem num_is (w : World) {B n cap : Nat} {a : Option Addr} {l : List Int} (h : Nums .u8 w B a n cap l) (hn8 : n ≤ 8) (hb : Byt l) (x : Int) (hx : numB l = x) :
    Calls Try.prog 63 #[.slice a n cap] w fun e w' => e = .returned (.int .u64 x) ∧ w = w' := by
  subst hx; exact ref_num w h hn8 hb
theorem two_of (l : List Int) (k : Nat) (h : k + 2 ≤ l.length) : numB ((l.drop k).take 2) = n2 l k := by
  have e2 : l.drop k = l.getD k 0 :: l.getD (k + 1) 0 :: l.drop (k + 2) := by
    rw [List.drop_eq_getElem_cons (by omega), List.drop_eq_getElem_cons (by omega : k + 1 < l.length)]
    rw [List.getD_eq_getElem?_getD, List.getD_eq_getElem?_getD, List.getElem?_eq_getElem (by omega), List.getElem?_eq_getElem (by omega)]; rfl
  rw [e2]; simp [numB, n2]; omega

set_option maxHeartbeats 4000000 in
theorem rparse_any {w W : World} {L : List Sl} {a : Option Addr} {n c : Nat} {l : List Int} (h : St w W L) (hm : (a, n, c, l) ∈ L) (hb : Byt l) (hn : n ≤ 3000) :
    Calls Try.prog 31 #[.slice a n c] W (GPost (grP l) w L) := by
  obtain ⟨i0, hi, hi0, hi1, hi2⟩ := info_parts Try.info_u8
  obtain ⟨W1, hW1⟩ : ∃ W1, W1 = W.alloc (.cells #[.int .u16 0, .bool false, .int .u32 0, .bool false, .int .u32 0, .slice none 0 0] 45) := ⟨_, rfl⟩
  have b0 : Below W.heap.size W W1 := by rw [hW1]; exact (Below.refl _ _).alloc (Nat.le_refl _) _
  have p0 : PAt W1 W.heap.size (.int .u16 0) (.bool false) (.int .u32 0) (.bool false) (.int .u32 0) (.slice none 0 0) := by rw [hW1]; exact PAt.made _ _
  have hlt : W.heap.size < W1.heap.size := by rw [hW1]; simp
  obtain ⟨W2, hW2⟩ : ∃ W2, W2 = W1.alloc (.cells #[.int .u16 0, .bool false, .int .u32 0, .bool false, .int .u32 0, .slice none 0 0] 45) := ⟨_, rfl⟩
  have b1 : Below W1.heap.size W1 W2 := by rw [hW2]; exact (Below.refl _ _).alloc (Nat.le_refl _) _
  have hz1 : W1.heap.size = W.heap.size + 1 := by rw [hW1]; simp
  have p1 : PAt W2 (W.heap.size + 1) (.int .u16 0) (.bool false) (.int .u32 0) (.bool false) (.int .u32 0) (.slice none 0 0) := by rw [← hz1, hW2]; exact PAt.made _ _
  have hlt2 : W1.heap.size < W2.heap.size := by rw [hW2]; simp
  have p2 := p0.below b1
  have hltz : W.heap.size < W2.heap.size := by omega
  have Z : Hid (∀ w3 : World, Below W2.heap.size W2 w3 → w3.cell? ⟨W.heap.size, 0, none⟩ = some (.int .u16 0) ∧ w3.cell? ⟨W.heap.size, 1, none⟩ = some (.bool false) ∧ w3.cell? ⟨W.heap.size, 2, none⟩ = some (.int .u32 0) ∧ w3.cell? ⟨W.heap.size, 3, none⟩ = some (.bool false) ∧ w3.cell? ⟨W.heap.size, 4, none⟩ = some (.int .u32 0) ∧ w3.cell? ⟨W.heap.size, 5, none⟩ = some (.slice none 0 0) ∧ w3.frozen? ⟨W.heap.size, 0, none⟩ = false ∧ w3.frozen? ⟨W.heap.size, 1, none⟩ = false ∧ w3.frozen? ⟨W.heap.size, 2, none⟩ = false ∧ w3.frozen? ⟨W.heap.size, 3, none⟩ = false ∧ w3.frozen? ⟨W.heap.size, 4, none⟩ = false ∧ w3.frozen? ⟨W.heap.size, 5, none⟩ = false) := fun w3 h1 =>
    ⟨keep_cell h1 p2.c0, keep_cell h1 p2.c1, keep_cell h1 p2.c2, keep_cell h1 p2.c3, keep_cell h1 p2.c4, keep_cell h1 p2.c5, (h1.frozen (p := ⟨W.heap.size, 0, none⟩) hltz).trans (p2.f 0), (h1.frozen (p := ⟨W.heap.size, 1, none⟩) hltz).trans (p2.f 1), (h1.frozen (p := ⟨W.heap.size, 2, none⟩) hltz).trans (p2.f 2), (h1.frozen (p := ⟨W.heap.size, 3, none⟩) hltz).trans (p2.f 3), (h1.frozen (p := ⟨W.heap.size, 4, none⟩) hltz).trans (p2.f 4), (h1.frozen (p := ⟨W.heap.size, 5, none⟩) hltz).trans (p2.f 5)⟩
  have X : Hid (∀ w3 : World, Below W2.heap.size W2 w3 → w3.cell? ⟨W.heap.size + 1, 0, none⟩ = some (.int .u16 0) ∧ w3.cell? ⟨W.heap.size + 1, 1, none⟩ = some (.bool false) ∧ w3.cell? ⟨W.heap.size + 1, 2, none⟩ = some (.int .u32 0) ∧ w3.cell? ⟨W.heap.size + 1, 3, none⟩ = some (.bool false) ∧ w3.cell? ⟨W.heap.size + 1, 4, none⟩ = some (.int .u32 0) ∧ w3.cell? ⟨W.heap.size + 1, 5, none⟩ = some (.slice none 0 0)) := fun w3 h1 =>
    ⟨keep_cell h1 p1.c0, keep_cell h1 p1.c1, keep_cell h1 p1.c2, keep_cell h1 p1.c3, keep_cell h1 p1.c4, keep_cell h1 p1.c5⟩
  have HW1 := hid hW1
  have HW2 := hid hW2
  have N := h.get hm
  have hlen := N.len
  have HL := hid hlen
  have b2 : Below W.heap.size W W2 := b0.trans (b1.mono (by omega))
  have N2 := hid ((N.below b2).mono b2.size)
  have hcap := N.le
  have HS := hid h
  have HB0 := hid b2
  have HBy := hid hb
  clear h hm N hW1 hW2 b0 b1 b2 p0 p1 p2 hb hlen hz1
  go_enter Try.func31, Try.ntmps31
  go_upto_region 2 with fail
  rw [← HW1.out]
  rw [← HW2.out]
  by_cases h8 : n < 8
  · have HT := hid (show grP l = zeroT 10 by unfold grP; rw [if_pos (by rw [HL.out]; exact h8)])
    obtain ⟨x0, x1, x2, x3, x4, x5⟩ := X.out _ (Below.refl W2.heap.size W2)
    obtain ⟨z0, z1, z2, z3, z4, z5, y0, y1, y2, y3, y4, y5⟩ := Z.out _ (Below.refl W2.heap.size W2)
    go_wp2_with fail
    obtain ⟨q0, q1, q2, q3, q4, q5⟩ := six_cells (W := W2) (g := W.heap.size) (u0 := .int .u16 0) (u1 := .bool false) (u2 := .int .u32 0) (u3 := .bool false) (u4 := .int .u32 0) (u5 := .slice none 0 0) (fun j hj => by match j, hj with | 0, _ => exact ⟨_, z0⟩ | 1, _ => exact ⟨_, z1⟩ | 2, _ => exact ⟨_, z2⟩ | 3, _ => exact ⟨_, z3⟩ | 4, _ => exact ⟨_, z4⟩ | 5, _ => exact ⟨_, z5⟩)
    refine bodyPost_ret (v := .tuple #[.agg #[.int .u16 0, .bool false, .int .u32 0, .bool false, .int .u32 0, .slice none 0 0], .int .i64 10]) (by simp [results, Try.results31, go_sem, q0, q1, q2, q3, q4, q5]) rfl ?_
    rw [HT.out]
    exact ⟨none, 0, 0, rfl, ret_noneG HS.out (HB0.out.trans (Below.mono (Below.refl W2.heap.size W2) HB0.out.size)) six_grown⟩
  · have h8c : 8 ≤ c := by omega
    have H8 := hid (show 8 ≤ l.length by rw [HL.out]; omega)
    obtain ⟨ba, oa, hba, _⟩ := N2.out.cells (by omega)
    subst hba
    have S0 := hid (N2.out.take (m := 2) (by omega))
    have S1 := hid ((N2.out.drop (m := 2) (a' := some ⟨ba, oa + 2, none⟩) (by omega) (fun h => by omega) (fun _ => by rw [Option.map_some, Addr.add_lit])).take (m := 2) (by omega))
    have S2 := hid ((N2.out.drop (m := 4) (a' := some ⟨ba, oa + 4, none⟩) (by omega) (fun h => by omega) (fun _ => by rw [Option.map_some, Addr.add_lit])).take (m := 2) (by omega))
    have S3 := hid ((N2.out.drop (m := 6) (a' := some ⟨ba, oa + 6, none⟩) (by omega) (fun h => by omega) (fun _ => by rw [Option.map_some, Addr.add_lit])).take (m := 2) (by omega))
    have SB0 := hid (HBy.out.take 2)
    have SB1 := hid ((HBy.out.drop 2).take 2)
    have SB2 := hid ((HBy.out.drop 4).take 2)
    have SB3 := hid ((HBy.out.drop 6).take 2)
    obtain ⟨B0, hB0⟩ : ∃ B0, n2 l 0 = B0 := ⟨_, rfl⟩
    obtain ⟨P0, hP0⟩ : ∃ P0, n2 l 2 = P0 := ⟨_, rfl⟩
    have hmb := n2_bd HBy.out 4
    obtain ⟨m, hM⟩ : ∃ m : Nat, n2 l 4 = (m : Nat) := ⟨(n2 l 4).toNat, by omega⟩
    obtain ⟨C0, hC0⟩ : ∃ C0, n2 l 6 = C0 := ⟨_, rfl⟩
    have hbb : 0 ≤ B0 ∧ B0 ≤ 65535 := hB0 ▸ n2_bd HBy.out 0
    have hcb : 0 ≤ C0 ∧ C0 ≤ 65535 := hC0 ▸ n2_bd HBy.out 6
    have hm65 : m ≤ 65535 := by omega
    have SE0 := hid ((show numB (l.take 2) = n2 l 0 from two_of l 0 (by have := H8.out; omega)).trans hB0)
    have SE1 := hid ((two_of l 2 (by have := H8.out; omega)).trans hP0)
    have SE2 := hid ((two_of l 4 (by have := H8.out; omega)).trans hM)
    have SE3 := hid ((two_of l 6 (by have := H8.out; omega)).trans hC0)
    have GP : Hid (grP l = if P0 = 34827 then (if B0 = 8193 then grT false false C0 m (l.drop 8) else if B0 = 12289 then grT true false C0 m (l.drop 8) else if B0 = 8321 then grT false true C0 m (l.drop 8) else if B0 = 12417 then grT true true C0 m (l.drop 8) else zeroT 11) else zeroT 11) := by
      have := H8.out
      unfold grP; rw [if_neg (by omega), hB0, hP0, hM, hC0, Int.toNat_natCast]; exact hid rfl
    have hw7 : wrap64 (m : Int) = m := IntWalk.wrap64_in _ (by omega)
    have hwc : IntKind.u16.wrap C0 = C0 := by rw [IntKind.wrap_u16]; omega
    clear hB0 hP0 hM hC0 hmb
    go_upto_region 5 with (go_at_call 63; first | ((with_reducible refine (num_is _ S0.out (by omega) SB0.out B0 SE0.out).mono ?_); rintro e wq ⟨rfl, rfl⟩) | ((with_reducible refine (num_is _ S1.out (by omega) SB1.out P0 SE1.out).mono ?_); rintro e wq ⟨rfl, rfl⟩) | ((with_reducible refine (num_is _ S2.out (by omega) SB2.out m SE2.out).mono ?_); rintro e wq ⟨rfl, rfl⟩) | ((with_reducible refine (num_is _ S3.out (by omega) SB3.out C0 SE3.out).mono ?_); rintro e wq ⟨rfl, rfl⟩))
    by_cases hh : B0 = 8193 ∨ B0 = 12289 ∨ B0 = 8321 ∨ B0 = 12417
    · by_cases hp : P0 = 34827
      · rcases hh with rfl | rfl | rfl | rfl
        · have hpn : (P0 != 34827) = false := by simp [bne, hp]
          obtain ⟨r, hr⟩ : ∃ r, r = l.drop 8 := ⟨_, rfl⟩
          have GQ : Hid (grP l = grT false false C0 m r) := by rw [GP.out, if_pos hp, hr]; rfl
          have RBY := hid (show Byt r from hr ▸ HBy.out.drop 8)
          have RL := hid (show r.length = n - 8 by rw [hr, List.length_drop, HL.out])
          have P3 := hid (PAt.made (v0 := .int .u16 C0) (v1 := .bool false) (v2 := .int .u32 0) (v3 := .bool false) (v4 := .int .u32 0) (v5 := .slice none 0 0) W2 45)
          have BB3 := hid ((Below.refl W2.heap.size W2).alloc (Nat.le_refl _) (.cells #[.int .u16 C0, .bool false, .int .u32 0, .bool false, .int .u32 0, .slice none 0 0] 45))
          clear hp GP
          go_upto_region 7 with (go_at_call 63; first | ((with_reducible refine (num_is _ S0.out (by omega) SB0.out B0 SE0.out).mono ?_); rintro e wq ⟨rfl, rfl⟩) | ((with_reducible refine (num_is _ S1.out (by omega) SB1.out P0 SE1.out).mono ?_); rintro e wq ⟨rfl, rfl⟩) | ((with_reducible refine (num_is _ S2.out (by omega) SB2.out m SE2.out).mono ?_); rintro e wq ⟨rfl, rfl⟩) | ((with_reducible refine (num_is _ S3.out (by omega) SB3.out C0 SE3.out).mono ?_); rintro e wq ⟨rfl, rfl⟩))
          have HW7 := hid hw7
          clear hbb hm65 h8 hpn hw7
          go_upto_region 8 with (go_at_call 63; ((with_reducible refine (num_is _ S2.out (by omega) SB2.out (m : Int) SE2.out).mono ?_); rintro e wq ⟨rfl, rfl⟩))
          rw [HW7.out]
          go_upto_region 9 with (go_at_call 63; ((with_reducible refine (num_is _ S3.out (by omega) SB3.out C0 SE3.out).mono ?_); rintro e wq ⟨rfl, rfl⟩))
          generalize W2.alloc (.cells #[.int .u16 C0, .bool false, .int .u32 0, .bool false, .int .u32 0, .slice none 0 0] 45) = W3 at *
          go_cut [0] (fun v wx => ∃ a8 c8, v = .slice a8 (n - 8) c8 ∧ Nums .u8 W2 W2.heap.size a8 (n - 8) c8 r ∧ wx = W3)
          case first =>
            go_wp2_with fail
            all_goals go_meet
            · have hc8 : c = 8 := by assumption
              exact ⟨some ⟨ba, oa, none⟩, 0, rfl, by rw [hr]; have := N2.out.drop (m := 8) (a' := some ⟨ba, oa, none⟩) (by omega) (fun _ => rfl) (fun h => absurd hc8 h); rw [hc8] at this; exact this, rfl⟩
            · have hc8 : ¬ c = 8 := by assumption
              exact ⟨_, c - 8, rfl, by rw [hr]; exact N2.out.drop (m := 8) (by omega) (fun h => absurd h hc8) (fun _ => by rw [Option.map_some, Addr.add_lit]), rfl⟩
          case rest =>
            obtain ⟨a8, c8, rfl, N8, rfl⟩ := hcut
            have HN8 := hid N8
            clear N8 hr S0 S1 S2 S3 SB0 SB1 SB2 SB3 SE0 SE1 SE2 SE3
            have d0 := P3.out.c0
            have d1 := P3.out.c1
            have d2 := P3.out.c2
            have d3 := P3.out.c3
            have d4 := P3.out.c4
            have d5 := P3.out.c5
            have f5 := P3.out.f 5
            obtain ⟨nq, hnq⟩ : ∃ nq, nq = (n - 8) := ⟨_, rfl⟩
            rw [← hnq] at HN8 ⊢
            have HQN := hid hnq
            obtain ⟨q, hqe⟩ : ∃ q, q = r.drop (skipT false false) := ⟨_, rfl⟩
            have hqr : r = q := by rw [hqe]; unfold skipT; simp
            have HNq : Hid (Nums .u8 W2 W2.heap.size a8 nq c8 q) := by have := HN8.out; rw [hqr] at this; exact this
            have hqn := HNq.out.len
            have QE := hid hqe
            have hql : q.length = r.length - skipT false false := by rw [hqe, List.length_drop]
            have hkr : skipT false false ≤ r.length := by have := RL.out;  unfold skipT; simp only [if_true, if_false, Bool.false_eq_true]; omega
            have hle9 := HNq.out.le
            clear hqe hqr hnq
            go_upto_region 20 with fail
            by_cases hshort : nq < m
            · have HT := hid (show grP l = zeroT 10 by rw [GQ.out]; unfold grT; rw [if_pos (by omega)])
              clear hql hqn hkr
              obtain ⟨x0, x1, x2, x3, x4, x5⟩ := X.out _ BB3.out
              obtain ⟨z0, z1, z2, z3, z4, z5, y0, y1, y2, y3, y4, y5⟩ := Z.out _ BB3.out
              go_wp2_with fail
              obtain ⟨q0, q1, q2, q3, q4, q5⟩ := six_cells (W := wc) (g := W.heap.size) (u0 := .int .u16 0) (u1 := .bool false) (u2 := .int .u32 0) (u3 := .bool false) (u4 := .int .u32 0) (u5 := .slice none 0 0) (fun j hj => by match j, hj with | 0, _ => exact ⟨_, z0⟩ | 1, _ => exact ⟨_, z1⟩ | 2, _ => exact ⟨_, z2⟩ | 3, _ => exact ⟨_, z3⟩ | 4, _ => exact ⟨_, z4⟩ | 5, _ => exact ⟨_, z5⟩)
              refine bodyPost_ret (v := .tuple #[.agg #[.int .u16 0, .bool false, .int .u32 0, .bool false, .int .u32 0, .slice none 0 0], .int .i64 10]) (by simp [results, Try.results31, go_sem, q0, q1, q2, q3, q4, q5]) rfl ?_
              rw [HT.out]
              exact ⟨none, 0, 0, rfl, ret_noneG HS.out (HB0.out.trans (Below.mono BB3.out HB0.out.size)) six_grown⟩
            · by_cases hlong : m < nq
              · have HT := hid (show grP l = zeroT 11 by rw [GQ.out]; unfold grT; rw [if_neg (by omega), if_pos (by omega)])
                clear hql hqn hkr
                obtain ⟨x0, x1, x2, x3, x4, x5⟩ := X.out _ BB3.out
                obtain ⟨z0, z1, z2, z3, z4, z5, y0, y1, y2, y3, y4, y5⟩ := Z.out _ BB3.out
                go_wp2_with fail
                obtain ⟨q0, q1, q2, q3, q4, q5⟩ := six_cells (W := wc) (g := W.heap.size) (u0 := .int .u16 0) (u1 := .bool false) (u2 := .int .u32 0) (u3 := .bool false) (u4 := .int .u32 0) (u5 := .slice none 0 0) (fun j hj => by match j, hj with | 0, _ => exact ⟨_, z0⟩ | 1, _ => exact ⟨_, z1⟩ | 2, _ => exact ⟨_, z2⟩ | 3, _ => exact ⟨_, z3⟩ | 4, _ => exact ⟨_, z4⟩ | 5, _ => exact ⟨_, z5⟩)
                refine bodyPost_ret (v := .tuple #[.agg #[.int .u16 0, .bool false, .int .u32 0, .bool false, .int .u32 0, .slice none 0 0], .int .i64 11]) (by simp [results, Try.results31, go_sem, q0, q1, q2, q3, q4, q5]) rfl ?_
                rw [HT.out]
                exact ⟨none, 0, 0, rfl, ret_noneG HS.out (HB0.out.trans (Below.mono BB3.out HB0.out.size)) six_grown⟩
              · by_cases hmm : 0 < m
                · have HT := hid (show grP l = zeroT 11 by rw [GQ.out]; unfold grT; rw [if_neg (by omega), if_neg (by omega), if_neg (by simp; omega)])
                  clear hql hqn hkr
                  obtain ⟨x0, x1, x2, x3, x4, x5⟩ := X.out _ BB3.out
                  obtain ⟨z0, z1, z2, z3, z4, z5, y0, y1, y2, y3, y4, y5⟩ := Z.out _ BB3.out
                  go_wp2_with fail
                  obtain ⟨q0, q1, q2, q3, q4, q5⟩ := six_cells (W := wc) (g := W.heap.size) (u0 := .int .u16 0) (u1 := .bool false) (u2 := .int .u32 0) (u3 := .bool false) (u4 := .int .u32 0) (u5 := .slice none 0 0) (fun j hj => by match j, hj with | 0, _ => exact ⟨_, z0⟩ | 1, _ => exact ⟨_, z1⟩ | 2, _ => exact ⟨_, z2⟩ | 3, _ => exact ⟨_, z3⟩ | 4, _ => exact ⟨_, z4⟩ | 5, _ => exact ⟨_, z5⟩)
                  refine bodyPost_ret (v := .tuple #[.agg #[.int .u16 0, .bool false, .int .u32 0, .bool false, .int .u32 0, .slice none 0 0], .int .i64 11]) (by simp [results, Try.results31, go_sem, q0, q1, q2, q3, q4, q5]) rfl ?_
                  rw [HT.out]
                  exact ⟨none, 0, 0, rfl, ret_noneG HS.out (HB0.out.trans (Below.mono BB3.out HB0.out.size)) six_grown⟩
                · have HT := hid (show grP l = ⟨C0, false, if false then n4 r else 0, false, if false then n4 (r.drop (if false then 4 else 0)) else 0, r.drop (skipT false false), 0⟩ by rw [GQ.out]; unfold grT; rw [if_neg (by omega), if_neg (by omega), if_pos (by simp; omega)])
                  have hnq3 : nq ≤ 3000 := by have := RL.out; omega
                  clear hql hqn hkr
                  go_upto_region 24 with fail
                  have bz := BB3.out.size
                  go_upto_region 25 with (at_builtin; go_loud (refine wpList_append_nums rfl (.tmp 100) _ 22 rfl wc.heap.size 5 i0 (.int .u8 0) 1 Try.underlying22 hi hi0 hi1 hi2 rfl (.slice none 0 0) 0 [] rfl (World.ownsRow_nil _ _ _ _) _ _ _ _ _ rfl (HNq.out.below BB3.out) (by unfold maxLen; omega) (by omega) (Nat.le_refl _) ?_); go_loud (intro v12 w12 g12 r12); have BB12 := hid (below_none BB3.out r12 bz); have PP12 := hid (P3.out.below (below_none (Below.refl _ _) r12 (Nat.le_refl _))); obtain ⟨a12, c12, rfl⟩ := own_slice g12; have e5 := PP12.out.c5; have e6 := PP12.out.f 5)
                  have P13 := hid (PP12.out.set5 (.slice a12 (0 + nq) c12))
                  have BB13 := hid (BB12.out.setCell (p := ⟨W2.heap.size, 5, none⟩) (Nat.le_refl _) (.slice a12 (0 + nq) c12))
                  have O13 : Hid ((w12.setCell ⟨W2.heap.size, 5, none⟩ (.slice a12 (0 + nq) c12)).ownsRow wc.heap.size 5 1 (.slice a12 (0 + nq) c12) (0 + nq) (q.map (Value.int .u8))) := by
                    rw [List.nil_append] at g12
                    refine g12.kept (gb_setCell (World.grownBy.refl w12 (some W2.heap.size)) (p := ⟨W2.heap.size, 5, none⟩) rfl _) ?_
                    cases hv : (Value.slice a12 (0 + nq) c12).ownBlock with
                    | none => exact .inl rfl
                    | some j => exact .inr (by have := (g12.lt j hv).1; have := P3.out.lt; intro e; injection e with e; omega)
                  have hbz : W.heap.size < wc.heap.size := by omega
                  have hzero : 0 + nq = nq := Nat.zero_add _
                  clear d0 d1 d2 d3 d4 d5 e5 e6 f5 r12 g12 hzero
                  simp only [Nat.zero_add] at *
                  generalize w12.setCell ⟨W2.heap.size, 5, none⟩ (.slice a12 nq c12) = w13 at *
                  obtain ⟨z0, z1, z2, z3, z4, z5, y0, y1, y2, y3, y4, y5⟩ := Z.out _ BB13.out
                  have d0 := P13.out.c0
                  have d1 := P13.out.c1
                  have d2 := P13.out.c2
                  have d3 := P13.out.c3
                  have d4 := P13.out.c4
                  have d5 := P13.out.c5
                  go_wp2_with fail
                  obtain ⟨q0, q1, q2, q3, q4, q5⟩ := six_cells (W := w13) (g := W.heap.size) (u0 := .int .u16 C0) (u1 := .bool false) (u2 := .int .u32 0) (u3 := .bool false) (u4 := .int .u32 0) (u5 := .slice a12 nq c12) (fun j hj => by match j, hj with | 0, _ => exact ⟨_, z0⟩ | 1, _ => exact ⟨_, z1⟩ | 2, _ => exact ⟨_, z2⟩ | 3, _ => exact ⟨_, z3⟩ | 4, _ => exact ⟨_, z4⟩ | 5, _ => exact ⟨_, z5⟩)
                  refine bodyPost_ret (v := .tuple #[.agg #[.int .u16 C0, .bool false, .int .u32 0, .bool false, .int .u32 0, .slice a12 nq c12], .int .i64 0]) (by simp [results, Try.results31, go_sem, q0, q1, q2, q3, q4, q5]) rfl ?_
                  rw [HT.out]
                  exact ⟨a12, _, c12, rfl, by rw [← QE.out]; exact ret_ownG HS.out (HB0.out.trans (BB13.out.mono HB0.out.size)) O13.out hbz six_grown⟩
        · have hpn : (P0 != 34827) = false := by simp [bne, hp]
          obtain ⟨r, hr⟩ : ∃ r, r = l.drop 8 := ⟨_, rfl⟩
          have GQ : Hid (grP l = grT true false C0 m r) := by rw [GP.out, if_pos hp, hr]; rfl
          have RBY := hid (show Byt r from hr ▸ HBy.out.drop 8)
          have RL := hid (show r.length = n - 8 by rw [hr, List.length_drop, HL.out])
          have P3 := hid (PAt.made (v0 := .int .u16 C0) (v1 := .bool true) (v2 := .int .u32 0) (v3 := .bool false) (v4 := .int .u32 0) (v5 := .slice none 0 0) W2 45)
          have BB3 := hid ((Below.refl W2.heap.size W2).alloc (Nat.le_refl _) (.cells #[.int .u16 C0, .bool true, .int .u32 0, .bool false, .int .u32 0, .slice none 0 0] 45))
          clear hp GP
          go_upto_region 7 with (go_at_call 63; first | ((with_reducible refine (num_is _ S0.out (by omega) SB0.out B0 SE0.out).mono ?_); rintro e wq ⟨rfl, rfl⟩) | ((with_reducible refine (num_is _ S1.out (by omega) SB1.out P0 SE1.out).mono ?_); rintro e wq ⟨rfl, rfl⟩) | ((with_reducible refine (num_is _ S2.out (by omega) SB2.out m SE2.out).mono ?_); rintro e wq ⟨rfl, rfl⟩) | ((with_reducible refine (num_is _ S3.out (by omega) SB3.out C0 SE3.out).mono ?_); rintro e wq ⟨rfl, rfl⟩))
          have HW7 := hid hw7
          clear hbb hm65 h8 hpn hw7
          go_upto_region 8 with (go_at_call 63; ((with_reducible refine (num_is _ S2.out (by omega) SB2.out (m : Int) SE2.out).mono ?_); rintro e wq ⟨rfl, rfl⟩))
          rw [HW7.out]
          go_upto_region 9 with (go_at_call 63; ((with_reducible refine (num_is _ S3.out (by omega) SB3.out C0 SE3.out).mono ?_); rintro e wq ⟨rfl, rfl⟩))
          generalize W2.alloc (.cells #[.int .u16 C0, .bool true, .int .u32 0, .bool false, .int .u32 0, .slice none 0 0] 45) = W3 at *
          go_cut [0] (fun v wx => ∃ a8 c8, v = .slice a8 (n - 8) c8 ∧ Nums .u8 W2 W2.heap.size a8 (n - 8) c8 r ∧ wx = W3)
          case first =>
            go_wp2_with fail
            all_goals go_meet
            · have hc8 : c = 8 := by assumption
              exact ⟨some ⟨ba, oa, none⟩, 0, rfl, by rw [hr]; have := N2.out.drop (m := 8) (a' := some ⟨ba, oa, none⟩) (by omega) (fun _ => rfl) (fun h => absurd hc8 h); rw [hc8] at this; exact this, rfl⟩
            · have hc8 : ¬ c = 8 := by assumption
              exact ⟨_, c - 8, rfl, by rw [hr]; exact N2.out.drop (m := 8) (by omega) (fun h => absurd h hc8) (fun _ => by rw [Option.map_some, Addr.add_lit]), rfl⟩
          case rest =>
            obtain ⟨a8, c8, rfl, N8, rfl⟩ := hcut
            have HN8 := hid N8
            clear N8 hr S0 S1 S2 S3 SB0 SB1 SB2 SB3 SE0 SE1 SE2 SE3
            have dh := P3.out.c1
            go_upto_region 11 with fail
            clear dh
            have d1 := P3.out.c1
            have d3 := P3.out.c3
            have d2 := P3.out.c2
            have f2 := P3.out.f 2
            obtain ⟨nn1, hnn1⟩ : ∃ nn, nn = (n - 8) := ⟨_, rfl⟩
            rw [← hnn1] at HN8 ⊢
            have HNN1 := hid hnn1
            clear hnn1
            have hle1 := HN8.out.le
            have hln1 := hid HN8.out.len
            by_cases hs1 : nn1 < 4
            · have HT := hid (show grP l = zeroT 10 by have := hln1.out; have := RL.out; rw [GQ.out]; unfold grT skipT; rw [if_pos (by simp only [if_true, if_false, Bool.false_eq_true]; omega)])
              obtain ⟨x0, x1, x2, x3, x4, x5⟩ := X.out _ BB3.out
              obtain ⟨z0, z1, z2, z3, z4, z5, y0, y1, y2, y3, y4, y5⟩ := Z.out _ BB3.out
              go_wp2_with fail
              obtain ⟨q0, q1, q2, q3, q4, q5⟩ := six_cells (W := wc) (g := W.heap.size) (u0 := .int .u16 0) (u1 := .bool false) (u2 := .int .u32 0) (u3 := .bool false) (u4 := .int .u32 0) (u5 := .slice none 0 0) (fun j hj => by match j, hj with | 0, _ => exact ⟨_, z0⟩ | 1, _ => exact ⟨_, z1⟩ | 2, _ => exact ⟨_, z2⟩ | 3, _ => exact ⟨_, z3⟩ | 4, _ => exact ⟨_, z4⟩ | 5, _ => exact ⟨_, z5⟩)
              refine bodyPost_ret (v := .tuple #[.agg #[.int .u16 0, .bool false, .int .u32 0, .bool false, .int .u32 0, .slice none 0 0], .int .i64 10]) (by simp [results, Try.results31, go_sem, q0, q1, q2, q3, q4, q5]) rfl ?_
              rw [HT.out]
              exact ⟨none, 0, 0, rfl, ret_noneG HS.out (HB0.out.trans (Below.mono BB3.out HB0.out.size)) six_grown⟩
            · go_upto_region 13 with fail
              have h41 : 4 ≤ (r).length := by have := hln1.out; omega
              obtain ⟨bk1, ok1, hbk1, _⟩ := HN8.out.cells (by omega)
              subst hbk1
              have SN := hid ((HN8.out.below BB3.out).take (m := 4) (by omega))
              have SBY := hid (RBY.out.take 4)
              obtain ⟨X1, hX1⟩ : ∃ X1, n4 (r) = X1 := ⟨_, rfl⟩
              have HX1 := hid hX1
              have hxb : 0 ≤ X1 ∧ X1 ≤ 4294967295 := hX1 ▸ n4_bd RBY.out
              have SEN := hid (show numB ((r).take 4) = X1 from hX1)
              have hwx : IntKind.u32.wrap X1 = X1 := by rw [IntKind.wrap_u32']; omega
              clear hX1
              have h4c1 : 4 ≤ c8 := by omega
              have H4N1 := hid (show 4 ≤ nn1 by omega)
              have HLEN1 := hid hle1
              clear hs1 hle1 hxb h41
              have PN := hid (P3.out.set2 (.int .u32 X1))
              have BBN := hid (BB3.out.setCell (p := ⟨W2.heap.size, 2, none⟩) (Nat.le_refl _) (.int .u32 X1))
              go_upto_region 14 with (go_at_call 63; ((with_reducible refine (num_is _ SN.out (by omega) SBY.out X1 SEN.out).mono ?_); rintro e wq ⟨rfl, rfl⟩))
              clear d1 d2 d3 f2
              generalize wc.setCell ⟨W2.heap.size, 2, none⟩ (.int .u32 X1) = wn1 at *
              go_cut [0] (fun v wx => ∃ a9 c9, v = .slice a9 (nn1 - 4) c9 ∧ Nums .u8 W2 W2.heap.size a9 (nn1 - 4) c9 ((r).drop 4) ∧ wx = wn1)
              case first =>
                go_wp2_with fail
                all_goals go_meet
                · have hc9 : c8 = 4 := by assumption
                  exact ⟨some ⟨bk1, ok1, none⟩, 0, rfl, by have := HN8.out.drop (m := 4) (a' := some ⟨bk1, ok1, none⟩) H4N1.out (fun _ => rfl) (fun h => absurd hc9 h); rw [hc9] at this; exact this, rfl⟩
                · have hc9 : ¬ c8 = 4 := by assumption
                  exact ⟨_, c8 - 4, rfl, HN8.out.drop (m := 4) H4N1.out (fun h => absurd h hc9) (fun _ => by rw [Option.map_some, Addr.add_lit]), rfl⟩
              case rest =>
                obtain ⟨b91, e91, rfl, N91, rfl⟩ := hcut
                have HN91 := hid N91
                have P91 := PN
                have BB91 := BBN
                have BY91 := hid (RBY.out.drop 4)
                clear N91 PN BBN SN SBY SEN P3 BB3
                have d0 := P91.out.c0
                have d1 := P91.out.c1
                have d2 := P91.out.c2
                have d3 := P91.out.c3
                have d4 := P91.out.c4
                have d5 := P91.out.c5
                have f5 := P91.out.f 5
                obtain ⟨nq, hnq⟩ : ∃ nq, nq = (nn1 - 4) := ⟨_, rfl⟩
                rw [← hnq] at HN91 ⊢
                have HQN := hid hnq
                obtain ⟨q, hqe⟩ : ∃ q, q = r.drop (skipT true false) := ⟨_, rfl⟩
                have hqr : (r).drop 4 = q := by rw [hqe]; unfold skipT; simp [List.drop_drop]
                rw [hqr] at HN91
                have hqn := HN91.out.len
                have QE := hid hqe
                have hql : q.length = r.length - skipT true false := by rw [hqe, List.length_drop]
                have hkr : skipT true false ≤ r.length := by have := RL.out; have := hln1.out; have := H4N1.out;  unfold skipT; simp only [if_true, if_false, Bool.false_eq_true]; omega
                have hle9 := HN91.out.le
                clear hqe hqr hnq
                go_upto_region 20 with fail
                by_cases hshort : nq < m
                · have HT := hid (show grP l = zeroT 10 by rw [GQ.out]; unfold grT; rw [if_pos (by omega)])
                  clear hql hqn hkr
                  obtain ⟨x0, x1, x2, x3, x4, x5⟩ := X.out _ BB91.out
                  obtain ⟨z0, z1, z2, z3, z4, z5, y0, y1, y2, y3, y4, y5⟩ := Z.out _ BB91.out
                  go_wp2_with fail
                  obtain ⟨q0, q1, q2, q3, q4, q5⟩ := six_cells (W := wc) (g := W.heap.size) (u0 := .int .u16 0) (u1 := .bool false) (u2 := .int .u32 0) (u3 := .bool false) (u4 := .int .u32 0) (u5 := .slice none 0 0) (fun j hj => by match j, hj with | 0, _ => exact ⟨_, z0⟩ | 1, _ => exact ⟨_, z1⟩ | 2, _ => exact ⟨_, z2⟩ | 3, _ => exact ⟨_, z3⟩ | 4, _ => exact ⟨_, z4⟩ | 5, _ => exact ⟨_, z5⟩)
                  refine bodyPost_ret (v := .tuple #[.agg #[.int .u16 0, .bool false, .int .u32 0, .bool false, .int .u32 0, .slice none 0 0], .int .i64 10]) (by simp [results, Try.results31, go_sem, q0, q1, q2, q3, q4, q5]) rfl ?_
                  rw [HT.out]
                  exact ⟨none, 0, 0, rfl, ret_noneG HS.out (HB0.out.trans (Below.mono BB91.out HB0.out.size)) six_grown⟩
                · by_cases hlong : m < nq
                  · have HT := hid (show grP l = zeroT 11 by rw [GQ.out]; unfold grT; rw [if_neg (by omega), if_pos (by omega)])
                    clear hql hqn hkr
                    obtain ⟨x0, x1, x2, x3, x4, x5⟩ := X.out _ BB91.out
                    obtain ⟨z0, z1, z2, z3, z4, z5, y0, y1, y2, y3, y4, y5⟩ := Z.out _ BB91.out
                    go_wp2_with fail
                    obtain ⟨q0, q1, q2, q3, q4, q5⟩ := six_cells (W := wc) (g := W.heap.size) (u0 := .int .u16 0) (u1 := .bool false) (u2 := .int .u32 0) (u3 := .bool false) (u4 := .int .u32 0) (u5 := .slice none 0 0) (fun j hj => by match j, hj with | 0, _ => exact ⟨_, z0⟩ | 1, _ => exact ⟨_, z1⟩ | 2, _ => exact ⟨_, z2⟩ | 3, _ => exact ⟨_, z3⟩ | 4, _ => exact ⟨_, z4⟩ | 5, _ => exact ⟨_, z5⟩)
                    refine bodyPost_ret (v := .tuple #[.agg #[.int .u16 0, .bool false, .int .u32 0, .bool false, .int .u32 0, .slice none 0 0], .int .i64 11]) (by simp [results, Try.results31, go_sem, q0, q1, q2, q3, q4, q5]) rfl ?_
                    rw [HT.out]
                    exact ⟨none, 0, 0, rfl, ret_noneG HS.out (HB0.out.trans (Below.mono BB91.out HB0.out.size)) six_grown⟩
                  · by_cases hmm : ¬ 0 < m
                    · have HT := hid (show grP l = zeroT 11 by rw [GQ.out]; unfold grT; rw [if_neg (by omega), if_neg (by omega), if_neg (by simp; omega)])
                      clear hql hqn hkr
                      obtain ⟨x0, x1, x2, x3, x4, x5⟩ := X.out _ BB91.out
                      obtain ⟨z0, z1, z2, z3, z4, z5, y0, y1, y2, y3, y4, y5⟩ := Z.out _ BB91.out
                      go_wp2_with fail
                      obtain ⟨q0, q1, q2, q3, q4, q5⟩ := six_cells (W := wc) (g := W.heap.size) (u0 := .int .u16 0) (u1 := .bool false) (u2 := .int .u32 0) (u3 := .bool false) (u4 := .int .u32 0) (u5 := .slice none 0 0) (fun j hj => by match j, hj with | 0, _ => exact ⟨_, z0⟩ | 1, _ => exact ⟨_, z1⟩ | 2, _ => exact ⟨_, z2⟩ | 3, _ => exact ⟨_, z3⟩ | 4, _ => exact ⟨_, z4⟩ | 5, _ => exact ⟨_, z5⟩)
                      refine bodyPost_ret (v := .tuple #[.agg #[.int .u16 0, .bool false, .int .u32 0, .bool false, .int .u32 0, .slice none 0 0], .int .i64 11]) (by simp [results, Try.results31, go_sem, q0, q1, q2, q3, q4, q5]) rfl ?_
                      rw [HT.out]
                      exact ⟨none, 0, 0, rfl, ret_noneG HS.out (HB0.out.trans (Below.mono BB91.out HB0.out.size)) six_grown⟩
                    · have HT := hid (show grP l = ⟨C0, true, if true then n4 r else 0, false, if false then n4 (r.drop (if true then 4 else 0)) else 0, r.drop (skipT true false), 0⟩ by rw [GQ.out]; unfold grT; rw [if_neg (by omega), if_neg (by omega), if_pos (by simp; omega)])
                      have hnq3 : nq ≤ 3000 := by have := RL.out; omega
                      have hm1 : 0 < m := by omega
                      clear hmm
                      clear hql hqn hkr
                      go_upto_region 24 with fail
                      have bz := BB91.out.size
                      go_upto_region 25 with (at_builtin; go_loud (refine wpList_append_nums rfl (.tmp 100) _ 22 rfl wc.heap.size 5 i0 (.int .u8 0) 1 Try.underlying22 hi hi0 hi1 hi2 rfl (.slice none 0 0) 0 [] rfl (World.ownsRow_nil _ _ _ _) _ _ _ _ _ rfl (HN91.out.below BB91.out) (by unfold maxLen; omega) (by omega) (Nat.le_refl _) ?_); go_loud (intro v12 w12 g12 r12); have BB12 := hid (below_none BB91.out r12 bz); have PP12 := hid (P91.out.below (below_none (Below.refl _ _) r12 (Nat.le_refl _))); obtain ⟨a12, c12, rfl⟩ := own_slice g12; have e5 := PP12.out.c5; have e6 := PP12.out.f 5)
                      have P13 := hid (PP12.out.set5 (.slice a12 (0 + nq) c12))
                      have BB13 := hid (BB12.out.setCell (p := ⟨W2.heap.size, 5, none⟩) (Nat.le_refl _) (.slice a12 (0 + nq) c12))
                      have O13 : Hid ((w12.setCell ⟨W2.heap.size, 5, none⟩ (.slice a12 (0 + nq) c12)).ownsRow wc.heap.size 5 1 (.slice a12 (0 + nq) c12) (0 + nq) (q.map (Value.int .u8))) := by
                        rw [List.nil_append] at g12
                        refine g12.kept (gb_setCell (World.grownBy.refl w12 (some W2.heap.size)) (p := ⟨W2.heap.size, 5, none⟩) rfl _) ?_
                        cases hv : (Value.slice a12 (0 + nq) c12).ownBlock with
                        | none => exact .inl rfl
                        | some j => exact .inr (by have := (g12.lt j hv).1; have := P91.out.lt; intro e; injection e with e; omega)
                      have hbz : W.heap.size < wc.heap.size := by omega
                      have hzero : 0 + nq = nq := Nat.zero_add _
                      clear d0 d1 d2 d3 d4 d5 e5 e6 f5 r12 g12 hzero
                      simp only [Nat.zero_add] at *
                      generalize w12.setCell ⟨W2.heap.size, 5, none⟩ (.slice a12 nq c12) = w13 at *
                      obtain ⟨z0, z1, z2, z3, z4, z5, y0, y1, y2, y3, y4, y5⟩ := Z.out _ BB13.out
                      have d0 := P13.out.c0
                      have d1 := P13.out.c1
                      have d2 := P13.out.c2
                      have d3 := P13.out.c3
                      have d4 := P13.out.c4
                      have d5 := P13.out.c5
                      go_wp2_with fail
                      obtain ⟨q0, q1, q2, q3, q4, q5⟩ := six_cells (W := w13) (g := W.heap.size) (u0 := .int .u16 C0) (u1 := .bool true) (u2 := .int .u32 X1) (u3 := .bool false) (u4 := .int .u32 0) (u5 := .slice a12 nq c12) (fun j hj => by match j, hj with | 0, _ => exact ⟨_, z0⟩ | 1, _ => exact ⟨_, z1⟩ | 2, _ => exact ⟨_, z2⟩ | 3, _ => exact ⟨_, z3⟩ | 4, _ => exact ⟨_, z4⟩ | 5, _ => exact ⟨_, z5⟩)
                      refine bodyPost_ret (v := .tuple #[.agg #[.int .u16 C0, .bool true, .int .u32 X1, .bool false, .int .u32 0, .slice a12 nq c12], .int .i64 0]) (by simp [results, Try.results31, go_sem, q0, q1, q2, q3, q4, q5]) rfl ?_
                      rw [HT.out]
                      rw [← HX1.out]
                      exact ⟨a12, _, c12, rfl, by rw [← QE.out]; exact ret_ownG HS.out (HB0.out.trans (BB13.out.mono HB0.out.size)) O13.out hbz six_grown⟩
        · have hpn : (P0 != 34827) = false := by simp [bne, hp]
          obtain ⟨r, hr⟩ : ∃ r, r = l.drop 8 := ⟨_, rfl⟩
          have GQ : Hid (grP l = grT false true C0 m r) := by rw [GP.out, if_pos hp, hr]; rfl
          have RBY := hid (show Byt r from hr ▸ HBy.out.drop 8)
          have RL := hid (show r.length = n - 8 by rw [hr, List.length_drop, HL.out])
          have P3 := hid (PAt.made (v0 := .int .u16 C0) (v1 := .bool false) (v2 := .int .u32 0) (v3 := .bool true) (v4 := .int .u32 0) (v5 := .slice none 0 0) W2 45)
          have BB3 := hid ((Below.refl W2.heap.size W2).alloc (Nat.le_refl _) (.cells #[.int .u16 C0, .bool false, .int .u32 0, .bool true, .int .u32 0, .slice none 0 0] 45))
          clear hp GP
          go_upto_region 7 with (go_at_call 63; first | ((with_reducible refine (num_is _ S0.out (by omega) SB0.out B0 SE0.out).mono ?_); rintro e wq ⟨rfl, rfl⟩) | ((with_reducible refine (num_is _ S1.out (by omega) SB1.out P0 SE1.out).mono ?_); rintro e wq ⟨rfl, rfl⟩) | ((with_reducible refine (num_is _ S2.out (by omega) SB2.out m SE2.out).mono ?_); rintro e wq ⟨rfl, rfl⟩) | ((with_reducible refine (num_is _ S3.out (by omega) SB3.out C0 SE3.out).mono ?_); rintro e wq ⟨rfl, rfl⟩))
          have HW7 := hid hw7
          clear hbb hm65 h8 hpn hw7
          go_upto_region 8 with (go_at_call 63; ((with_reducible refine (num_is _ S2.out (by omega) SB2.out (m : Int) SE2.out).mono ?_); rintro e wq ⟨rfl, rfl⟩))
          rw [HW7.out]
          go_upto_region 9 with (go_at_call 63; ((with_reducible refine (num_is _ S3.out (by omega) SB3.out C0 SE3.out).mono ?_); rintro e wq ⟨rfl, rfl⟩))
          generalize W2.alloc (.cells #[.int .u16 C0, .bool false, .int .u32 0, .bool true, .int .u32 0, .slice none 0 0] 45) = W3 at *
          go_cut [0] (fun v wx => ∃ a8 c8, v = .slice a8 (n - 8) c8 ∧ Nums .u8 W2 W2.heap.size a8 (n - 8) c8 r ∧ wx = W3)
          case first =>
            go_wp2_with fail
            all_goals go_meet
            · have hc8 : c = 8 := by assumption
              exact ⟨some ⟨ba, oa, none⟩, 0, rfl, by rw [hr]; have := N2.out.drop (m := 8) (a' := some ⟨ba, oa, none⟩) (by omega) (fun _ => rfl) (fun h => absurd hc8 h); rw [hc8] at this; exact this, rfl⟩
            · have hc8 : ¬ c = 8 := by assumption
              exact ⟨_, c - 8, rfl, by rw [hr]; exact N2.out.drop (m := 8) (by omega) (fun h => absurd h hc8) (fun _ => by rw [Option.map_some, Addr.add_lit]), rfl⟩
          case rest =>
            obtain ⟨a8, c8, rfl, N8, rfl⟩ := hcut
            have HN8 := hid N8
            clear N8 hr S0 S1 S2 S3 SB0 SB1 SB2 SB3 SE0 SE1 SE2 SE3
            have dh := P3.out.c1
            have dg := P3.out.c3
            go_upto_region 16 with fail
            clear dh dg
            have d1 := P3.out.c1
            have d3 := P3.out.c3
            have d2 := P3.out.c4
            have f2 := P3.out.f 4
            obtain ⟨nn3, hnn3⟩ : ∃ nn, nn = (n - 8) := ⟨_, rfl⟩
            rw [← hnn3] at HN8 ⊢
            have HNN3 := hid hnn3
            clear hnn3
            have hle3 := HN8.out.le
            have hln3 := hid HN8.out.len
            by_cases hs3 : nn3 < 4
            · have HT := hid (show grP l = zeroT 10 by have := hln3.out; have := RL.out; rw [GQ.out]; unfold grT skipT; rw [if_pos (by simp only [if_true, if_false, Bool.false_eq_true]; omega)])
              obtain ⟨x0, x1, x2, x3, x4, x5⟩ := X.out _ BB3.out
              obtain ⟨z0, z1, z2, z3, z4, z5, y0, y1, y2, y3, y4, y5⟩ := Z.out _ BB3.out
              go_wp2_with fail
              obtain ⟨q0, q1, q2, q3, q4, q5⟩ := six_cells (W := wc) (g := W.heap.size) (u0 := .int .u16 0) (u1 := .bool false) (u2 := .int .u32 0) (u3 := .bool false) (u4 := .int .u32 0) (u5 := .slice none 0 0) (fun j hj => by match j, hj with | 0, _ => exact ⟨_, z0⟩ | 1, _ => exact ⟨_, z1⟩ | 2, _ => exact ⟨_, z2⟩ | 3, _ => exact ⟨_, z3⟩ | 4, _ => exact ⟨_, z4⟩ | 5, _ => exact ⟨_, z5⟩)
              refine bodyPost_ret (v := .tuple #[.agg #[.int .u16 0, .bool false, .int .u32 0, .bool false, .int .u32 0, .slice none 0 0], .int .i64 10]) (by simp [results, Try.results31, go_sem, q0, q1, q2, q3, q4, q5]) rfl ?_
              rw [HT.out]
              exact ⟨none, 0, 0, rfl, ret_noneG HS.out (HB0.out.trans (Below.mono BB3.out HB0.out.size)) six_grown⟩
            · go_upto_region 18 with fail
              have h43 : 4 ≤ (r).length := by have := hln3.out; omega
              obtain ⟨bk3, ok3, hbk3, _⟩ := HN8.out.cells (by omega)
              subst hbk3
              have SN := hid ((HN8.out.below BB3.out).take (m := 4) (by omega))
              have SBY := hid (RBY.out.take 4)
              obtain ⟨X2, hX2⟩ : ∃ X2, n4 (r) = X2 := ⟨_, rfl⟩
              have HX2 := hid hX2
              have hxb : 0 ≤ X2 ∧ X2 ≤ 4294967295 := hX2 ▸ n4_bd RBY.out
              have SEN := hid (show numB ((r).take 4) = X2 from hX2)
              have hwx : IntKind.u32.wrap X2 = X2 := by rw [IntKind.wrap_u32']; omega
              clear hX2
              have h4c3 : 4 ≤ c8 := by omega
              have H4N3 := hid (show 4 ≤ nn3 by omega)
              have HLEN3 := hid hle3
              clear hs3 hle3 hxb h43
              have PN := hid (P3.out.set4 (.int .u32 X2))
              have BBN := hid (BB3.out.setCell (p := ⟨W2.heap.size, 4, none⟩) (Nat.le_refl _) (.int .u32 X2))
              go_upto_region 19 with (go_at_call 63; ((with_reducible refine (num_is _ SN.out (by omega) SBY.out X2 SEN.out).mono ?_); rintro e wq ⟨rfl, rfl⟩))
              clear d1 d2 d3 f2
              generalize wc.setCell ⟨W2.heap.size, 4, none⟩ (.int .u32 X2) = wn3 at *
              go_cut [0] (fun v wx => ∃ a9 c9, v = .slice a9 (nn3 - 4) c9 ∧ Nums .u8 W2 W2.heap.size a9 (nn3 - 4) c9 ((r).drop 4) ∧ wx = wn3)
              case first =>
                go_wp2_with fail
                all_goals go_meet
                · have hc9 : c8 = 4 := by assumption
                  exact ⟨some ⟨bk3, ok3, none⟩, 0, rfl, by have := HN8.out.drop (m := 4) (a' := some ⟨bk3, ok3, none⟩) H4N3.out (fun _ => rfl) (fun h => absurd hc9 h); rw [hc9] at this; exact this, rfl⟩
                · have hc9 : ¬ c8 = 4 := by assumption
                  exact ⟨_, c8 - 4, rfl, HN8.out.drop (m := 4) H4N3.out (fun h => absurd h hc9) (fun _ => by rw [Option.map_some, Addr.add_lit]), rfl⟩
              case rest =>
                obtain ⟨b93, e93, rfl, N93, rfl⟩ := hcut
                have HN93 := hid N93
                have P93 := PN
                have BB93 := BBN
                have BY93 := hid (RBY.out.drop 4)
                clear N93 PN BBN SN SBY SEN P3 BB3
                have d0 := P93.out.c0
                have d1 := P93.out.c1
                have d2 := P93.out.c2
                have d3 := P93.out.c3
                have d4 := P93.out.c4
                have d5 := P93.out.c5
                have f5 := P93.out.f 5
                obtain ⟨nq, hnq⟩ : ∃ nq, nq = (nn3 - 4) := ⟨_, rfl⟩
                rw [← hnq] at HN93 ⊢
                have HQN := hid hnq
                obtain ⟨q, hqe⟩ : ∃ q, q = r.drop (skipT false true) := ⟨_, rfl⟩
                have hqr : (r).drop 4 = q := by rw [hqe]; unfold skipT; simp [List.drop_drop]
                rw [hqr] at HN93
                have hqn := HN93.out.len
                have QE := hid hqe
                have hql : q.length = r.length - skipT false true := by rw [hqe, List.length_drop]
                have hkr : skipT false true ≤ r.length := by have := RL.out; have := hln3.out; have := H4N3.out;  unfold skipT; simp only [if_true, if_false, Bool.false_eq_true]; omega
                have hle9 := HN93.out.le
                clear hqe hqr hnq
                go_upto_region 20 with fail
                by_cases hshort : nq < m
                · have HT := hid (show grP l = zeroT 10 by rw [GQ.out]; unfold grT; rw [if_pos (by omega)])
                  clear hql hqn hkr
                  obtain ⟨x0, x1, x2, x3, x4, x5⟩ := X.out _ BB93.out
                  obtain ⟨z0, z1, z2, z3, z4, z5, y0, y1, y2, y3, y4, y5⟩ := Z.out _ BB93.out
                  go_wp2_with fail
                  obtain ⟨q0, q1, q2, q3, q4, q5⟩ := six_cells (W := wc) (g := W.heap.size) (u0 := .int .u16 0) (u1 := .bool false) (u2 := .int .u32 0) (u3 := .bool false) (u4 := .int .u32 0) (u5 := .slice none 0 0) (fun j hj => by match j, hj with | 0, _ => exact ⟨_, z0⟩ | 1, _ => exact ⟨_, z1⟩ | 2, _ => exact ⟨_, z2⟩ | 3, _ => exact ⟨_, z3⟩ | 4, _ => exact ⟨_, z4⟩ | 5, _ => exact ⟨_, z5⟩)
                  refine bodyPost_ret (v := .tuple #[.agg #[.int .u16 0, .bool false, .int .u32 0, .bool false, .int .u32 0, .slice none 0 0], .int .i64 10]) (by simp [results, Try.results31, go_sem, q0, q1, q2, q3, q4, q5]) rfl ?_
                  rw [HT.out]
                  exact ⟨none, 0, 0, rfl, ret_noneG HS.out (HB0.out.trans (Below.mono BB93.out HB0.out.size)) six_grown⟩
                · by_cases hlong : m < nq
                  · have HT := hid (show grP l = zeroT 11 by rw [GQ.out]; unfold grT; rw [if_neg (by omega), if_pos (by omega)])
                    clear hql hqn hkr
                    obtain ⟨x0, x1, x2, x3, x4, x5⟩ := X.out _ BB93.out
                    obtain ⟨z0, z1, z2, z3, z4, z5, y0, y1, y2, y3, y4, y5⟩ := Z.out _ BB93.out
                    go_wp2_with fail
                    obtain ⟨q0, q1, q2, q3, q4, q5⟩ := six_cells (W := wc) (g := W.heap.size) (u0 := .int .u16 0) (u1 := .bool false) (u2 := .int .u32 0) (u3 := .bool false) (u4 := .int .u32 0) (u5 := .slice none 0 0) (fun j hj => by match j, hj with | 0, _ => exact ⟨_, z0⟩ | 1, _ => exact ⟨_, z1⟩ | 2, _ => exact ⟨_, z2⟩ | 3, _ => exact ⟨_, z3⟩ | 4, _ => exact ⟨_, z4⟩ | 5, _ => exact ⟨_, z5⟩)
                    refine bodyPost_ret (v := .tuple #[.agg #[.int .u16 0, .bool false, .int .u32 0, .bool false, .int .u32 0, .slice none 0 0], .int .i64 11]) (by simp [results, Try.results31, go_sem, q0, q1, q2, q3, q4, q5]) rfl ?_
                    rw [HT.out]
                    exact ⟨none, 0, 0, rfl, ret_noneG HS.out (HB0.out.trans (Below.mono BB93.out HB0.out.size)) six_grown⟩
                  · by_cases hmm : 0 < m
                    · have HT := hid (show grP l = zeroT 11 by rw [GQ.out]; unfold grT; rw [if_neg (by omega), if_neg (by omega), if_neg (by simp; omega)])
                      clear hql hqn hkr
                      obtain ⟨x0, x1, x2, x3, x4, x5⟩ := X.out _ BB93.out
                      obtain ⟨z0, z1, z2, z3, z4, z5, y0, y1, y2, y3, y4, y5⟩ := Z.out _ BB93.out
                      go_wp2_with fail
                      obtain ⟨q0, q1, q2, q3, q4, q5⟩ := six_cells (W := wc) (g := W.heap.size) (u0 := .int .u16 0) (u1 := .bool false) (u2 := .int .u32 0) (u3 := .bool false) (u4 := .int .u32 0) (u5 := .slice none 0 0) (fun j hj => by match j, hj with | 0, _ => exact ⟨_, z0⟩ | 1, _ => exact ⟨_, z1⟩ | 2, _ => exact ⟨_, z2⟩ | 3, _ => exact ⟨_, z3⟩ | 4, _ => exact ⟨_, z4⟩ | 5, _ => exact ⟨_, z5⟩)
                      refine bodyPost_ret (v := .tuple #[.agg #[.int .u16 0, .bool false, .int .u32 0, .bool false, .int .u32 0, .slice none 0 0], .int .i64 11]) (by simp [results, Try.results31, go_sem, q0, q1, q2, q3, q4, q5]) rfl ?_
                      rw [HT.out]
                      exact ⟨none, 0, 0, rfl, ret_noneG HS.out (HB0.out.trans (Below.mono BB93.out HB0.out.size)) six_grown⟩
                    · have HT := hid (show grP l = ⟨C0, false, if false then n4 r else 0, true, if true then n4 (r.drop (if false then 4 else 0)) else 0, r.drop (skipT false true), 0⟩ by rw [GQ.out]; unfold grT; rw [if_neg (by omega), if_neg (by omega), if_pos (by simp; omega)])
                      have hnq3 : nq ≤ 3000 := by have := RL.out; omega
                      clear hql hqn hkr
                      go_upto_region 24 with fail
                      have bz := BB93.out.size
                      go_upto_region 25 with (at_builtin; go_loud (refine wpList_append_nums rfl (.tmp 100) _ 22 rfl wc.heap.size 5 i0 (.int .u8 0) 1 Try.underlying22 hi hi0 hi1 hi2 rfl (.slice none 0 0) 0 [] rfl (World.ownsRow_nil _ _ _ _) _ _ _ _ _ rfl (HN93.out.below BB93.out) (by unfold maxLen; omega) (by omega) (Nat.le_refl _) ?_); go_loud (intro v12 w12 g12 r12); have BB12 := hid (below_none BB93.out r12 bz); have PP12 := hid (P93.out.below (below_none (Below.refl _ _) r12 (Nat.le_refl _))); obtain ⟨a12, c12, rfl⟩ := own_slice g12; have e5 := PP12.out.c5; have e6 := PP12.out.f 5)
                      have P13 := hid (PP12.out.set5 (.slice a12 (0 + nq) c12))
                      have BB13 := hid (BB12.out.setCell (p := ⟨W2.heap.size, 5, none⟩) (Nat.le_refl _) (.slice a12 (0 + nq) c12))
                      have O13 : Hid ((w12.setCell ⟨W2.heap.size, 5, none⟩ (.slice a12 (0 + nq) c12)).ownsRow wc.heap.size 5 1 (.slice a12 (0 + nq) c12) (0 + nq) (q.map (Value.int .u8))) := by
                        rw [List.nil_append] at g12
                        refine g12.kept (gb_setCell (World.grownBy.refl w12 (some W2.heap.size)) (p := ⟨W2.heap.size, 5, none⟩) rfl _) ?_
                        cases hv : (Value.slice a12 (0 + nq) c12).ownBlock with
                        | none => exact .inl rfl
                        | some j => exact .inr (by have := (g12.lt j hv).1; have := P93.out.lt; intro e; injection e with e; omega)
                      have hbz : W.heap.size < wc.heap.size := by omega
                      have hzero : 0 + nq = nq := Nat.zero_add _
                      clear d0 d1 d2 d3 d4 d5 e5 e6 f5 r12 g12 hzero
                      simp only [Nat.zero_add] at *
                      generalize w12.setCell ⟨W2.heap.size, 5, none⟩ (.slice a12 nq c12) = w13 at *
                      obtain ⟨z0, z1, z2, z3, z4, z5, y0, y1, y2, y3, y4, y5⟩ := Z.out _ BB13.out
                      have d0 := P13.out.c0
                      have d1 := P13.out.c1
                      have d2 := P13.out.c2
                      have d3 := P13.out.c3
                      have d4 := P13.out.c4
                      have d5 := P13.out.c5
                      go_wp2_with fail
                      obtain ⟨q0, q1, q2, q3, q4, q5⟩ := six_cells (W := w13) (g := W.heap.size) (u0 := .int .u16 C0) (u1 := .bool false) (u2 := .int .u32 0) (u3 := .bool true) (u4 := .int .u32 X2) (u5 := .slice a12 nq c12) (fun j hj => by match j, hj with | 0, _ => exact ⟨_, z0⟩ | 1, _ => exact ⟨_, z1⟩ | 2, _ => exact ⟨_, z2⟩ | 3, _ => exact ⟨_, z3⟩ | 4, _ => exact ⟨_, z4⟩ | 5, _ => exact ⟨_, z5⟩)
                      refine bodyPost_ret (v := .tuple #[.agg #[.int .u16 C0, .bool false, .int .u32 0, .bool true, .int .u32 X2, .slice a12 nq c12], .int .i64 0]) (by simp [results, Try.results31, go_sem, q0, q1, q2, q3, q4, q5]) rfl ?_
                      rw [HT.out]
                      rw [← HX2.out]
                      exact ⟨a12, _, c12, rfl, by rw [← QE.out]; exact ret_ownG HS.out (HB0.out.trans (BB13.out.mono HB0.out.size)) O13.out hbz six_grown⟩
        · have hpn : (P0 != 34827) = false := by simp [bne, hp]
          obtain ⟨r, hr⟩ : ∃ r, r = l.drop 8 := ⟨_, rfl⟩
          have GQ : Hid (grP l = grT true true C0 m r) := by rw [GP.out, if_pos hp, hr]; rfl
          have RBY := hid (show Byt r from hr ▸ HBy.out.drop 8)
          have RL := hid (show r.length = n - 8 by rw [hr, List.length_drop, HL.out])
          have P3 := hid (PAt.made (v0 := .int .u16 C0) (v1 := .bool true) (v2 := .int .u32 0) (v3 := .bool true) (v4 := .int .u32 0) (v5 := .slice none 0 0) W2 45)
          have BB3 := hid ((Below.refl W2.heap.size W2).alloc (Nat.le_refl _) (.cells #[.int .u16 C0, .bool true, .int .u32 0, .bool true, .int .u32 0, .slice none 0 0] 45))
          clear hp GP
          go_upto_region 7 with (go_at_call 63; first | ((with_reducible refine (num_is _ S0.out (by omega) SB0.out B0 SE0.out).mono ?_); rintro e wq ⟨rfl, rfl⟩) | ((with_reducible refine (num_is _ S1.out (by omega) SB1.out P0 SE1.out).mono ?_); rintro e wq ⟨rfl, rfl⟩) | ((with_reducible refine (num_is _ S2.out (by omega) SB2.out m SE2.out).mono ?_); rintro e wq ⟨rfl, rfl⟩) | ((with_reducible refine (num_is _ S3.out (by omega) SB3.out C0 SE3.out).mono ?_); rintro e wq ⟨rfl, rfl⟩))
          have HW7 := hid hw7
          clear hbb hm65 h8 hpn hw7
          go_upto_region 8 with (go_at_call 63; ((with_reducible refine (num_is _ S2.out (by omega) SB2.out (m : Int) SE2.out).mono ?_); rintro e wq ⟨rfl, rfl⟩))
          rw [HW7.out]
          go_upto_region 9 with (go_at_call 63; ((with_reducible refine (num_is _ S3.out (by omega) SB3.out C0 SE3.out).mono ?_); rintro e wq ⟨rfl, rfl⟩))
          generalize W2.alloc (.cells #[.int .u16 C0, .bool true, .int .u32 0, .bool true, .int .u32 0, .slice none 0 0] 45) = W3 at *
          go_cut [0] (fun v wx => ∃ a8 c8, v = .slice a8 (n - 8) c8 ∧ Nums .u8 W2 W2.heap.size a8 (n - 8) c8 r ∧ wx = W3)
          case first =>
            go_wp2_with fail
            all_goals go_meet
            · have hc8 : c = 8 := by assumption
              exact ⟨some ⟨ba, oa, none⟩, 0, rfl, by rw [hr]; have := N2.out.drop (m := 8) (a' := some ⟨ba, oa, none⟩) (by omega) (fun _ => rfl) (fun h => absurd hc8 h); rw [hc8] at this; exact this, rfl⟩
            · have hc8 : ¬ c = 8 := by assumption
              exact ⟨_, c - 8, rfl, by rw [hr]; exact N2.out.drop (m := 8) (by omega) (fun h => absurd h hc8) (fun _ => by rw [Option.map_some, Addr.add_lit]), rfl⟩
          case rest =>
            obtain ⟨a8, c8, rfl, N8, rfl⟩ := hcut
            have HN8 := hid N8
            clear N8 hr S0 S1 S2 S3 SB0 SB1 SB2 SB3 SE0 SE1 SE2 SE3
            have dh := P3.out.c1
            go_upto_region 11 with fail
            clear dh
            have d1 := P3.out.c1
            have d3 := P3.out.c3
            have d2 := P3.out.c2
            have f2 := P3.out.f 2
            obtain ⟨nn1, hnn1⟩ : ∃ nn, nn = (n - 8) := ⟨_, rfl⟩
            rw [← hnn1] at HN8 ⊢
            have HNN1 := hid hnn1
            clear hnn1
            have hle1 := HN8.out.le
            have hln1 := hid HN8.out.len
            by_cases hs1 : nn1 < 4
            · have HT := hid (show grP l = zeroT 10 by have := hln1.out; have := RL.out; rw [GQ.out]; unfold grT skipT; rw [if_pos (by simp only [if_true, if_false, Bool.false_eq_true]; omega)])
              obtain ⟨x0, x1, x2, x3, x4, x5⟩ := X.out _ BB3.out
              obtain ⟨z0, z1, z2, z3, z4, z5, y0, y1, y2, y3, y4, y5⟩ := Z.out _ BB3.out
              go_wp2_with fail
              obtain ⟨q0, q1, q2, q3, q4, q5⟩ := six_cells (W := wc) (g := W.heap.size) (u0 := .int .u16 0) (u1 := .bool false) (u2 := .int .u32 0) (u3 := .bool false) (u4 := .int .u32 0) (u5 := .slice none 0 0) (fun j hj => by match j, hj with | 0, _ => exact ⟨_, z0⟩ | 1, _ => exact ⟨_, z1⟩ | 2, _ => exact ⟨_, z2⟩ | 3, _ => exact ⟨_, z3⟩ | 4, _ => exact ⟨_, z4⟩ | 5, _ => exact ⟨_, z5⟩)
              refine bodyPost_ret (v := .tuple #[.agg #[.int .u16 0, .bool false, .int .u32 0, .bool false, .int .u32 0, .slice none 0 0], .int .i64 10]) (by simp [results, Try.results31, go_sem, q0, q1, q2, q3, q4, q5]) rfl ?_
              rw [HT.out]
              exact ⟨none, 0, 0, rfl, ret_noneG HS.out (HB0.out.trans (Below.mono BB3.out HB0.out.size)) six_grown⟩
            · go_upto_region 13 with fail
              have h41 : 4 ≤ (r).length := by have := hln1.out; omega
              obtain ⟨bk1, ok1, hbk1, _⟩ := HN8.out.cells (by omega)
              subst hbk1
              have SN := hid ((HN8.out.below BB3.out).take (m := 4) (by omega))
              have SBY := hid (RBY.out.take 4)
              obtain ⟨X1, hX1⟩ : ∃ X1, n4 (r) = X1 := ⟨_, rfl⟩
              have HX1 := hid hX1
              have hxb : 0 ≤ X1 ∧ X1 ≤ 4294967295 := hX1 ▸ n4_bd RBY.out
              have SEN := hid (show numB ((r).take 4) = X1 from hX1)
              have hwx : IntKind.u32.wrap X1 = X1 := by rw [IntKind.wrap_u32']; omega
              clear hX1
              have h4c1 : 4 ≤ c8 := by omega
              have H4N1 := hid (show 4 ≤ nn1 by omega)
              have HLEN1 := hid hle1
              clear hs1 hle1 hxb h41
              have PN := hid (P3.out.set2 (.int .u32 X1))
              have BBN := hid (BB3.out.setCell (p := ⟨W2.heap.size, 2, none⟩) (Nat.le_refl _) (.int .u32 X1))
              go_upto_region 14 with (go_at_call 63; ((with_reducible refine (num_is _ SN.out (by omega) SBY.out X1 SEN.out).mono ?_); rintro e wq ⟨rfl, rfl⟩))
              clear d1 d2 d3 f2
              generalize wc.setCell ⟨W2.heap.size, 2, none⟩ (.int .u32 X1) = wn1 at *
              go_cut [0] (fun v wx => ∃ a9 c9, v = .slice a9 (nn1 - 4) c9 ∧ Nums .u8 W2 W2.heap.size a9 (nn1 - 4) c9 ((r).drop 4) ∧ wx = wn1)
              case first =>
                go_wp2_with fail
                all_goals go_meet
                · have hc9 : c8 = 4 := by assumption
                  exact ⟨some ⟨bk1, ok1, none⟩, 0, rfl, by have := HN8.out.drop (m := 4) (a' := some ⟨bk1, ok1, none⟩) H4N1.out (fun _ => rfl) (fun h => absurd hc9 h); rw [hc9] at this; exact this, rfl⟩
                · have hc9 : ¬ c8 = 4 := by assumption
                  exact ⟨_, c8 - 4, rfl, HN8.out.drop (m := 4) H4N1.out (fun h => absurd h hc9) (fun _ => by rw [Option.map_some, Addr.add_lit]), rfl⟩
              case rest =>
                obtain ⟨b91, e91, rfl, N91, rfl⟩ := hcut
                have HN91 := hid N91
                have P91 := PN
                have BB91 := BBN
                have BY91 := hid (RBY.out.drop 4)
                clear N91 PN BBN SN SBY SEN P3 BB3
                have dh := P91.out.c1
                have dg := P91.out.c3
                go_upto_region 16 with fail
                clear dh dg
                have d1 := P91.out.c1
                have d3 := P91.out.c3
                have d2 := P91.out.c4
                have f2 := P91.out.f 4
                obtain ⟨nn2, hnn2⟩ : ∃ nn, nn = (nn1 - 4) := ⟨_, rfl⟩
                rw [← hnn2] at HN91 ⊢
                have HNN2 := hid hnn2
                clear hnn2
                have hle2 := HN91.out.le
                have hln2 := hid HN91.out.len
                by_cases hs2 : nn2 < 4
                · have HT := hid (show grP l = zeroT 10 by have := hln2.out; have := RL.out; rw [GQ.out]; unfold grT skipT; rw [if_pos (by simp only [if_true, if_false, Bool.false_eq_true]; rw [List.length_drop] at *; omega)])
                  obtain ⟨x0, x1, x2, x3, x4, x5⟩ := X.out _ BB91.out
                  obtain ⟨z0, z1, z2, z3, z4, z5, y0, y1, y2, y3, y4, y5⟩ := Z.out _ BB91.out
                  go_wp2_with fail
                  obtain ⟨q0, q1, q2, q3, q4, q5⟩ := six_cells (W := wc) (g := W.heap.size) (u0 := .int .u16 0) (u1 := .bool false) (u2 := .int .u32 0) (u3 := .bool false) (u4 := .int .u32 0) (u5 := .slice none 0 0) (fun j hj => by match j, hj with | 0, _ => exact ⟨_, z0⟩ | 1, _ => exact ⟨_, z1⟩ | 2, _ => exact ⟨_, z2⟩ | 3, _ => exact ⟨_, z3⟩ | 4, _ => exact ⟨_, z4⟩ | 5, _ => exact ⟨_, z5⟩)
                  refine bodyPost_ret (v := .tuple #[.agg #[.int .u16 0, .bool false, .int .u32 0, .bool false, .int .u32 0, .slice none 0 0], .int .i64 10]) (by simp [results, Try.results31, go_sem, q0, q1, q2, q3, q4, q5]) rfl ?_
                  rw [HT.out]
                  exact ⟨none, 0, 0, rfl, ret_noneG HS.out (HB0.out.trans (Below.mono BB91.out HB0.out.size)) six_grown⟩
                · go_upto_region 18 with fail
                  have h42 : 4 ≤ ((r).drop 4).length := by have := hln2.out; omega
                  obtain ⟨bk2, ok2, hbk2, _⟩ := HN91.out.cells (by omega)
                  subst hbk2
                  have SN := hid ((HN91.out.below BB91.out).take (m := 4) (by omega))
                  have SBY := hid (BY91.out.take 4)
                  obtain ⟨X2, hX2⟩ : ∃ X2, n4 ((r).drop 4) = X2 := ⟨_, rfl⟩
                  have HX2 := hid hX2
                  have hxb : 0 ≤ X2 ∧ X2 ≤ 4294967295 := hX2 ▸ n4_bd BY91.out
                  have SEN := hid (show numB (((r).drop 4).take 4) = X2 from hX2)
                  have hwx : IntKind.u32.wrap X2 = X2 := by rw [IntKind.wrap_u32']; omega
                  clear hX2
                  have h4c2 : 4 ≤ e91 := by omega
                  have H4N2 := hid (show 4 ≤ nn2 by omega)
                  have HLEN2 := hid hle2
                  clear hs2 hle2 hxb h42
                  have PN := hid (P91.out.set4 (.int .u32 X2))
                  have BBN := hid (BB91.out.setCell (p := ⟨W2.heap.size, 4, none⟩) (Nat.le_refl _) (.int .u32 X2))
                  go_upto_region 19 with (go_at_call 63; ((with_reducible refine (num_is _ SN.out (by omega) SBY.out X2 SEN.out).mono ?_); rintro e wq ⟨rfl, rfl⟩))
                  clear d1 d2 d3 f2
                  generalize wc.setCell ⟨W2.heap.size, 4, none⟩ (.int .u32 X2) = wn2 at *
                  go_cut [0] (fun v wx => ∃ a9 c9, v = .slice a9 (nn2 - 4) c9 ∧ Nums .u8 W2 W2.heap.size a9 (nn2 - 4) c9 (((r).drop 4).drop 4) ∧ wx = wn2)
                  case first =>
                    go_wp2_with fail
                    all_goals go_meet
                    · have hc9 : e91 = 4 := by assumption
                      exact ⟨some ⟨bk2, ok2, none⟩, 0, rfl, by have := HN91.out.drop (m := 4) (a' := some ⟨bk2, ok2, none⟩) H4N2.out (fun _ => rfl) (fun h => absurd hc9 h); rw [hc9] at this; exact this, rfl⟩
                    · have hc9 : ¬ e91 = 4 := by assumption
                      exact ⟨_, e91 - 4, rfl, HN91.out.drop (m := 4) H4N2.out (fun h => absurd h hc9) (fun _ => by rw [Option.map_some, Addr.add_lit]), rfl⟩
                  case rest =>
                    obtain ⟨b92, e92, rfl, N92, rfl⟩ := hcut
                    have HN92 := hid N92
                    have P92 := PN
                    have BB92 := BBN
                    have BY92 := hid (BY91.out.drop 4)
                    clear N92 PN BBN SN SBY SEN P91 BB91
                    have d0 := P92.out.c0
                    have d1 := P92.out.c1
                    have d2 := P92.out.c2
                    have d3 := P92.out.c3
                    have d4 := P92.out.c4
                    have d5 := P92.out.c5
                    have f5 := P92.out.f 5
                    obtain ⟨nq, hnq⟩ : ∃ nq, nq = (nn2 - 4) := ⟨_, rfl⟩
                    rw [← hnq] at HN92 ⊢
                    have HQN := hid hnq
                    obtain ⟨q, hqe⟩ : ∃ q, q = r.drop (skipT true true) := ⟨_, rfl⟩
                    have hqr : ((r).drop 4).drop 4 = q := by rw [hqe]; unfold skipT; simp [List.drop_drop]
                    rw [hqr] at HN92
                    have hqn := HN92.out.len
                    have QE := hid hqe
                    have hql : q.length = r.length - skipT true true := by rw [hqe, List.length_drop]
                    have hkr : skipT true true ≤ r.length := by have := RL.out; have := hln1.out; have := H4N1.out; have := hln2.out; have := H4N2.out; rw [List.length_drop] at *;  unfold skipT; simp only [if_true, if_false, Bool.false_eq_true]; omega
                    have hle9 := HN92.out.le
                    clear hqe hqr hnq
                    go_upto_region 20 with fail
                    by_cases hshort : nq < m
                    · have HT := hid (show grP l = zeroT 10 by rw [GQ.out]; unfold grT; rw [if_pos (by omega)])
                      clear hql hqn hkr
                      obtain ⟨x0, x1, x2, x3, x4, x5⟩ := X.out _ BB92.out
                      obtain ⟨z0, z1, z2, z3, z4, z5, y0, y1, y2, y3, y4, y5⟩ := Z.out _ BB92.out
                      go_wp2_with fail
                      obtain ⟨q0, q1, q2, q3, q4, q5⟩ := six_cells (W := wc) (g := W.heap.size) (u0 := .int .u16 0) (u1 := .bool false) (u2 := .int .u32 0) (u3 := .bool false) (u4 := .int .u32 0) (u5 := .slice none 0 0) (fun j hj => by match j, hj with | 0, _ => exact ⟨_, z0⟩ | 1, _ => exact ⟨_, z1⟩ | 2, _ => exact ⟨_, z2⟩ | 3, _ => exact ⟨_, z3⟩ | 4, _ => exact ⟨_, z4⟩ | 5, _ => exact ⟨_, z5⟩)
                      refine bodyPost_ret (v := .tuple #[.agg #[.int .u16 0, .bool false, .int .u32 0, .bool false, .int .u32 0, .slice none 0 0], .int .i64 10]) (by simp [results, Try.results31, go_sem, q0, q1, q2, q3, q4, q5]) rfl ?_
                      rw [HT.out]
                      exact ⟨none, 0, 0, rfl, ret_noneG HS.out (HB0.out.trans (Below.mono BB92.out HB0.out.size)) six_grown⟩
                    · by_cases hlong : m < nq
                      · have HT := hid (show grP l = zeroT 11 by rw [GQ.out]; unfold grT; rw [if_neg (by omega), if_pos (by omega)])
                        clear hql hqn hkr
                        obtain ⟨x0, x1, x2, x3, x4, x5⟩ := X.out _ BB92.out
                        obtain ⟨z0, z1, z2, z3, z4, z5, y0, y1, y2, y3, y4, y5⟩ := Z.out _ BB92.out
                        go_wp2_with fail
                        obtain ⟨q0, q1, q2, q3, q4, q5⟩ := six_cells (W := wc) (g := W.heap.size) (u0 := .int .u16 0) (u1 := .bool false) (u2 := .int .u32 0) (u3 := .bool false) (u4 := .int .u32 0) (u5 := .slice none 0 0) (fun j hj => by match j, hj with | 0, _ => exact ⟨_, z0⟩ | 1, _ => exact ⟨_, z1⟩ | 2, _ => exact ⟨_, z2⟩ | 3, _ => exact ⟨_, z3⟩ | 4, _ => exact ⟨_, z4⟩ | 5, _ => exact ⟨_, z5⟩)
                        refine bodyPost_ret (v := .tuple #[.agg #[.int .u16 0, .bool false, .int .u32 0, .bool false, .int .u32 0, .slice none 0 0], .int .i64 11]) (by simp [results, Try.results31, go_sem, q0, q1, q2, q3, q4, q5]) rfl ?_
                        rw [HT.out]
                        exact ⟨none, 0, 0, rfl, ret_noneG HS.out (HB0.out.trans (Below.mono BB92.out HB0.out.size)) six_grown⟩
                      · by_cases hmm : ¬ 0 < m
                        · have HT := hid (show grP l = zeroT 11 by rw [GQ.out]; unfold grT; rw [if_neg (by omega), if_neg (by omega), if_neg (by simp; omega)])
                          clear hql hqn hkr
                          obtain ⟨x0, x1, x2, x3, x4, x5⟩ := X.out _ BB92.out
                          obtain ⟨z0, z1, z2, z3, z4, z5, y0, y1, y2, y3, y4, y5⟩ := Z.out _ BB92.out
                          go_wp2_with fail
                          obtain ⟨q0, q1, q2, q3, q4, q5⟩ := six_cells (W := wc) (g := W.heap.size) (u0 := .int .u16 0) (u1 := .bool false) (u2 := .int .u32 0) (u3 := .bool false) (u4 := .int .u32 0) (u5 := .slice none 0 0) (fun j hj => by match j, hj with | 0, _ => exact ⟨_, z0⟩ | 1, _ => exact ⟨_, z1⟩ | 2, _ => exact ⟨_, z2⟩ | 3, _ => exact ⟨_, z3⟩ | 4, _ => exact ⟨_, z4⟩ | 5, _ => exact ⟨_, z5⟩)
                          refine bodyPost_ret (v := .tuple #[.agg #[.int .u16 0, .bool false, .int .u32 0, .bool false, .int .u32 0, .slice none 0 0], .int .i64 11]) (by simp [results, Try.results31, go_sem, q0, q1, q2, q3, q4, q5]) rfl ?_
                          rw [HT.out]
                          exact ⟨none, 0, 0, rfl, ret_noneG HS.out (HB0.out.trans (Below.mono BB92.out HB0.out.size)) six_grown⟩
                        · have HT := hid (show grP l = ⟨C0, true, if true then n4 r else 0, true, if true then n4 (r.drop (if true then 4 else 0)) else 0, r.drop (skipT true true), 0⟩ by rw [GQ.out]; unfold grT; rw [if_neg (by omega), if_neg (by omega), if_pos (by simp; omega)])
                          have hnq3 : nq ≤ 3000 := by have := RL.out; omega
                          have hm1 : 0 < m := by omega
                          clear hmm
                          clear hql hqn hkr
                          go_upto_region 24 with fail
                          have bz := BB92.out.size
                          go_upto_region 25 with (at_builtin; go_loud (refine wpList_append_nums rfl (.tmp 100) _ 22 rfl wc.heap.size 5 i0 (.int .u8 0) 1 Try.underlying22 hi hi0 hi1 hi2 rfl (.slice none 0 0) 0 [] rfl (World.ownsRow_nil _ _ _ _) _ _ _ _ _ rfl (HN92.out.below BB92.out) (by unfold maxLen; omega) (by omega) (Nat.le_refl _) ?_); go_loud (intro v12 w12 g12 r12); have BB12 := hid (below_none BB92.out r12 bz); have PP12 := hid (P92.out.below (below_none (Below.refl _ _) r12 (Nat.le_refl _))); obtain ⟨a12, c12, rfl⟩ := own_slice g12; have e5 := PP12.out.c5; have e6 := PP12.out.f 5)
                          have P13 := hid (PP12.out.set5 (.slice a12 (0 + nq) c12))
                          have BB13 := hid (BB12.out.setCell (p := ⟨W2.heap.size, 5, none⟩) (Nat.le_refl _) (.slice a12 (0 + nq) c12))
                          have O13 : Hid ((w12.setCell ⟨W2.heap.size, 5, none⟩ (.slice a12 (0 + nq) c12)).ownsRow wc.heap.size 5 1 (.slice a12 (0 + nq) c12) (0 + nq) (q.map (Value.int .u8))) := by
                            rw [List.nil_append] at g12
                            refine g12.kept (gb_setCell (World.grownBy.refl w12 (some W2.heap.size)) (p := ⟨W2.heap.size, 5, none⟩) rfl _) ?_
                            cases hv : (Value.slice a12 (0 + nq) c12).ownBlock with
                            | none => exact .inl rfl
                            | some j => exact .inr (by have := (g12.lt j hv).1; have := P92.out.lt; intro e; injection e with e; omega)
                          have hbz : W.heap.size < wc.heap.size := by omega
                          have hzero : 0 + nq = nq := Nat.zero_add _
                          clear d0 d1 d2 d3 d4 d5 e5 e6 f5 r12 g12 hzero
                          simp only [Nat.zero_add] at *
                          generalize w12.setCell ⟨W2.heap.size, 5, none⟩ (.slice a12 nq c12) = w13 at *
                          obtain ⟨z0, z1, z2, z3, z4, z5, y0, y1, y2, y3, y4, y5⟩ := Z.out _ BB13.out
                          have d0 := P13.out.c0
                          have d1 := P13.out.c1
                          have d2 := P13.out.c2
                          have d3 := P13.out.c3
                          have d4 := P13.out.c4
                          have d5 := P13.out.c5
                          go_wp2_with fail
                          obtain ⟨q0, q1, q2, q3, q4, q5⟩ := six_cells (W := w13) (g := W.heap.size) (u0 := .int .u16 C0) (u1 := .bool true) (u2 := .int .u32 X1) (u3 := .bool true) (u4 := .int .u32 X2) (u5 := .slice a12 nq c12) (fun j hj => by match j, hj with | 0, _ => exact ⟨_, z0⟩ | 1, _ => exact ⟨_, z1⟩ | 2, _ => exact ⟨_, z2⟩ | 3, _ => exact ⟨_, z3⟩ | 4, _ => exact ⟨_, z4⟩ | 5, _ => exact ⟨_, z5⟩)
                          refine bodyPost_ret (v := .tuple #[.agg #[.int .u16 C0, .bool true, .int .u32 X1, .bool true, .int .u32 X2, .slice a12 nq c12], .int .i64 0]) (by simp [results, Try.results31, go_sem, q0, q1, q2, q3, q4, q5]) rfl ?_
                          rw [HT.out]
                          rw [← HX1.out]
                          rw [← HX2.out]
                          exact ⟨a12, _, c12, rfl, by rw [← QE.out]; exact ret_ownG HS.out (HB0.out.trans (BB13.out.mono HB0.out.size)) O13.out hbz six_grown⟩
      · have hpn : (P0 != 34827) = true := by simp [bne, hp]
        have HT := hid (show grP l = zeroT 11 by rw [GP.out, if_neg hp])
        rcases hh with rfl | rfl | rfl | rfl
        all_goals
          go_upto_region 6 with (go_at_call 63; first | ((with_reducible refine (num_is _ S0.out (by omega) SB0.out B0 SE0.out).mono ?_); rintro e wq ⟨rfl, rfl⟩) | ((with_reducible refine (num_is _ S1.out (by omega) SB1.out P0 SE1.out).mono ?_); rintro e wq ⟨rfl, rfl⟩) | ((with_reducible refine (num_is _ S2.out (by omega) SB2.out m SE2.out).mono ?_); rintro e wq ⟨rfl, rfl⟩) | ((with_reducible refine (num_is _ S3.out (by omega) SB3.out C0 SE3.out).mono ?_); rintro e wq ⟨rfl, rfl⟩))
          obtain ⟨x0, x1, x2, x3, x4, x5⟩ := X.out _ (Below.refl W2.heap.size W2)
          obtain ⟨z0, z1, z2, z3, z4, z5, y0, y1, y2, y3, y4, y5⟩ := Z.out _ (Below.refl W2.heap.size W2)
          go_wp2_with fail
          obtain ⟨q0, q1, q2, q3, q4, q5⟩ := six_cells (W := W2) (g := W.heap.size) (u0 := .int .u16 0) (u1 := .bool false) (u2 := .int .u32 0) (u3 := .bool false) (u4 := .int .u32 0) (u5 := .slice none 0 0) (fun j hj => by match j, hj with | 0, _ => exact ⟨_, z0⟩ | 1, _ => exact ⟨_, z1⟩ | 2, _ => exact ⟨_, z2⟩ | 3, _ => exact ⟨_, z3⟩ | 4, _ => exact ⟨_, z4⟩ | 5, _ => exact ⟨_, z5⟩)
          refine bodyPost_ret (v := .tuple #[.agg #[.int .u16 0, .bool false, .int .u32 0, .bool false, .int .u32 0, .slice none 0 0], .int .i64 11]) (by simp [results, Try.results31, go_sem, q0, q1, q2, q3, q4, q5]) rfl ?_
          rw [HT.out]
          exact ⟨none, 0, 0, rfl, ret_noneG HS.out (HB0.out.trans (Below.mono (Below.refl W2.heap.size W2) HB0.out.size)) six_grown⟩
    · have q1 : (B0 != 8193) = true := by simp only [bne_iff_ne, ne_eq]; exact fun h => hh (.inl h)
      have q2 : (B0 != 12289) = true := by simp only [bne_iff_ne, ne_eq]; exact fun h => hh (.inr (.inl h))
      have q3 : (B0 != 8321) = true := by simp only [bne_iff_ne, ne_eq]; exact fun h => hh (.inr (.inr (.inl h)))
      have q4 : (B0 != 12417) = true := by simp only [bne_iff_ne, ne_eq]; exact fun h => hh (.inr (.inr (.inr h)))
      have HT := hid (show grP l = zeroT 11 by rw [GP.out]; split; (rw [if_neg (fun h => hh (.inl h)), if_neg (fun h => hh (.inr (.inl h))), if_neg (fun h => hh (.inr (.inr (.inl h)))), if_neg (fun h => hh (.inr (.inr (.inr h))))]); rfl)
      clear hh
      go_upto_region 6 with (go_at_call 63; first | ((with_reducible refine (num_is _ S0.out (by omega) SB0.out B0 SE0.out).mono ?_); rintro e wq ⟨rfl, rfl⟩) | ((with_reducible refine (num_is _ S1.out (by omega) SB1.out P0 SE1.out).mono ?_); rintro e wq ⟨rfl, rfl⟩) | ((with_reducible refine (num_is _ S2.out (by omega) SB2.out m SE2.out).mono ?_); rintro e wq ⟨rfl, rfl⟩) | ((with_reducible refine (num_is _ S3.out (by omega) SB3.out C0 SE3.out).mono ?_); rintro e wq ⟨rfl, rfl⟩))
      obtain ⟨x0, x1, x2, x3, x4, x5⟩ := X.out _ (Below.refl W2.heap.size W2)
      obtain ⟨z0, z1, z2, z3, z4, z5, y0, y1, y2, y3, y4, y5⟩ := Z.out _ (Below.refl W2.heap.size W2)
      go_wp2_with fail
      obtain ⟨q0, q1, q2, q3, q4, q5⟩ := six_cells (W := W2) (g := W.heap.size) (u0 := .int .u16 0) (u1 := .bool false) (u2 := .int .u32 0) (u3 := .bool false) (u4 := .int .u32 0) (u5 := .slice none 0 0) (fun j hj => by match j, hj with | 0, _ => exact ⟨_, z0⟩ | 1, _ => exact ⟨_, z1⟩ | 2, _ => exact ⟨_, z2⟩ | 3, _ => exact ⟨_, z3⟩ | 4, _ => exact ⟨_, z4⟩ | 5, _ => exact ⟨_, z5⟩)
      refine bodyPost_ret (v := .tuple #[.agg #[.int .u16 0, .bool false, .int .u32 0, .bool false, .int .u32 0, .slice none 0 0], .int .i64 11]) (by simp [results, Try.results31, go_sem, q0, q1, q2, q3, q4, q5]) rfl ?_
      rw [HT.out]
      exact ⟨none, 0, 0, rfl, ret_noneG HS.out (HB0.out.trans (Below.mono (Below.refl W2.heap.size W2) HB0.out.size)) six_grown⟩
end Go.Proofs.Ytgoldoaigijmoaa.grc
