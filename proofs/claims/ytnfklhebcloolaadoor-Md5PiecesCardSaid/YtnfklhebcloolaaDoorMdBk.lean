/- The program's block: what it makes of the numbers. -/
import Derived.Test.YtnfklhebcloolaaDoorMdWd
import Derived.Test.YtnfklhebcloolaaDoorMdDg
import Derived.BigQuiet
import Derived.Deep.QuietTactic
namespace Go.Proofs.YtnfklhebcloolaaDoor.mdc
open Go.RowKit
open Go.Proofs.YtnfklhebcloolaaDoor.kit Go.Proofs.YtnfklhebcloolaaDoor.mdm
set_option linter.unusedVariables false
set_option linter.unusedSimpArgs false
set_option maxRecDepth 20000
theorem hv_part (x : Q4) (P : List Int) (t k : Nat) (hk : k < P.length) : (hv x P t)[4 + k]? = some (.int .u8 (P.getD k 0)) := by
  unfold hv
  rw [List.append_assoc, List.getElem?_append_right (by simp [q4])]
  rw [show 4 + k - (q4 .u32 x).length = k by simp [q4], List.getElem?_append_left (by simp [b16]; omega)]
  exact b16_at P k hk
theorem hv_taken (x : Q4) (P : List Int) (hP : P.length = 64) (t : Nat) : (hv x P t)[68]? = some (.int .u64 (t : Nat)) := by
  unfold hv
  rw [List.getElem?_append_right (by simp [q4, b16, hP])]
  simp [q4, b16, hP]
/-- the numbers, i of them with what was added -/
def pa (x y : Q4) (i : Nat) : Q4 := ⟨if 0 < i then (x.a + y.a) % 4294967296 else x.a, if 1 < i then (x.b + y.b) % 4294967296 else x.b, if 2 < i then (x.c + y.c) % 4294967296 else x.c, if 3 < i then (x.d + y.d) % 4294967296 else x.d⟩
theorem pa_0 (x y : Q4) : pa x y 0 = x := by simp [pa]
theorem pa_4 (x y : Q4) : pa x y 4 = add4 x y := by simp [pa, add4]
theorem pa_succ (x y : Q4) (P : List Int) (t i : Nat) (hi : i < 4) : (hv (pa x y i) P t).set i (.int .u32 (((qv x i + qv y i) % 4294967296 : Nat) : Int)) = hv (pa x y (i + 1)) P t := by
  have hc : i = 0 ∨ i = 1 ∨ i = 2 ∨ i = 3 := by omega
  rcases hc with rfl | rfl | rfl | rfl <;> simp [hv, pa, q4, qv]
theorem pa_at (x y : Q4) (i : Nat) (hi : i < 4) : qv (pa x y i) i = qv x i := by
  have hc : i = 0 ∨ i = 1 ∨ i = 2 ∨ i = 3 := by omega
  rcases hc with rfl | rfl | rfl | rfl <;> simp [pa, qv]
theorem add_blk (s x : Q4) (P : List Int) : add4 s (add4 x (rnds P (add4 s x) 64)) = blk (add4 s x) P := by
  unfold blk
  generalize rnds P (add4 s x) 64 = y
  simp only [add4, Q4.mk.injEq]
  refine ⟨?_, ?_, ?_, ?_⟩ <;> omega
theorem idxq (y : Q4) (k : Nat) (hk : k < 4) (w : World) : (Instr.index 32 (.agg #[.int .u32 (y.a : Nat), .int .u32 (y.b : Nat), .int .u32 (y.c : Nat), .int .u32 (y.d : Nat)]) (.int .i64 (k : Nat))).run Tryd.prog w = .ok (.int .u32 (qv y k : Nat)) w := by
  have h : k = 0 ∨ k = 1 ∨ k = 2 ∨ k = 3 := by omega
  rcases h with rfl | rfl | rfl | rfl
  all_goals first | rfl | (simp [go_sem, qv]; done)
/-- the words of a block -/
def w16 (P : List Int) : List Value := (List.range 16).map fun j => Value.int .u32 (word P j : Nat)
theorem w16_is (P : List Int) : wl P 64 = w16 P := by
  unfold wl w16
  exact List.map_congr_left (fun j hj => by rw [pw_all P j (List.mem_range.1 hj)])
theorem w16_at (P : List Int) (j : Nat) (hj : j < 16) : (w16 P)[j]? = some (.int .u32 (word P j : Nat)) := by unfold w16; simp [hj]
theorem w16_arr (P : List Int) : (w16 P).toArray = #[.int .u32 (word P 0 : Nat), .int .u32 (word P 1 : Nat), .int .u32 (word P 2 : Nat), .int .u32 (word P 3 : Nat), .int .u32 (word P 4 : Nat), .int .u32 (word P 5 : Nat), .int .u32 (word P 6 : Nat), .int .u32 (word P 7 : Nat), .int .u32 (word P 8 : Nat), .int .u32 (word P 9 : Nat), .int .u32 (word P 10 : Nat), .int .u32 (word P 11 : Nat), .int .u32 (word P 12 : Nat), .int .u32 (word P 13 : Nat), .int .u32 (word P 14 : Nat), .int .u32 (word P 15 : Nat)] := rfl
/-- what the rounds of a block keep -/
structure Bkp (w wr : World) (g g2 : Nat) (x : Q4) (P : List Int) (t : Nat) : Prop where
  b : Below w.heap.size w wr
  h : Box wr g (hv x P t)
  n : Box wr g2 (w16 P)
  T : Tab wr
theorem Bkp.next {w wr w' : World} {g g2 : Nat} {x : Q4} {P : List Int} {t : Nat} (h : Bkp w wr g g2 x P t) (hb : Below wr.heap.size wr w') : Bkp w w' g g2 x P t :=
  ⟨h.b.trans (hb.mono h.b.size), h.h.next hb, h.n.next hb, h.T.next hb⟩
set_option maxHeartbeats 2000000 in
theorem block_any (w : World) (T : Tab w) (g : Nat) (x : Q4) (P : List Int) (t : Nat) (hx : x.ok) (hP : Oct P) (hl : P.length = 64) (HB : Box w g (hv x P t)) :
    Calls Tryd.prog 23 #[.pointer (some ⟨g, 0, none⟩)] w fun e w' => e = .returned (.tuple #[]) ∧ Box w' g (hv (add4 x (rnds P (add4 mdm.start x) 64)) P t) ∧ w.grownBy w' (some g) := by
  have hgl := HB.lt
  have HW := hid (fun w V hV => words_any w P hP hl V hV)
  have HNm := hid (fun w' (b : Below w.heap.size w w') => numbers_any w' (T.next b) g x P t hx (HB.next b))
  have hsok := hid (add_ok mdm.start x)
  obtain ⟨s, hs⟩ : ∃ s, s = add4 mdm.start x := ⟨_, rfl⟩
  rw [← hs] at HNm hsok ⊢
  rw [w16_is, w16_arr] at HW
  unfold q4 at HNm
  have hra := hid (show w.rangeAt g 4 (b16 P) from fun j v hv => by
    have hj : j < P.length := by have := (List.getElem?_eq_some_iff.1 hv).1; simpa [b16] using this
    rw [b16_at P j hj] at hv; injection hv with hv; subst hv
    exact HB.at_ (4 + j) _ (hv_part x P t j hj))
  have hz2 := hid (show (Tryd.prog.info? 33).map (·.size) = some (b16 P).length by rw [show (b16 P).length = 64 by simp [b16, hl]]; kernel_rfl)
  have HBX := hid HB
  have HT := hid T
  have HX := hid hx
  have HP := hid hP
  clear hs T HB hx hP
  go_enter Tryd.func23, Tryd.ntmps23
  go_upto_region 2 with (first | (refine wpList_load_mid rfl 33 (.tmp 16) rfl g 4 rfl (b16 P) (.array 64 5) hra.out (by kernel_rfl) rfl hz2.out ?_) | (go_at_call 43; ((with_reducible refine (HW.out _ _ rfl).mono ?_); rintro e w1 ⟨rfl, b1⟩; have B1 := hid b1; clear b1)) | (go_at_call 44; ((with_reducible refine (HNm.out _ (B1.out.alloc B1.out.size _)).mono ?_); rintro e w2 ⟨rfl, b2⟩; have B2 := hid b2; clear b2)))
  have b4 := B1.out.trans ((((Below.refl w1.heap.size w1).alloc (Nat.le_refl _) (.cells (w16 P).toArray 82)).trans (B2.out.mono (by simp))).mono B1.out.size)
  have K0 := hid (show Bkp w (w2.alloc (.cells #[.int .u32 (s.a : Nat), .int .u32 (s.b : Nat), .int .u32 (s.c : Nat), .int .u32 (s.d : Nat)] 32)) g w1.heap.size x P t from by
    have b5 := b4.alloc b4.size (.cells #[.int .u32 (s.a : Nat), .int .u32 (s.b : Nat), .int .u32 (s.c : Nat), .int .u32 (s.d : Nat)] 32)
    refine ⟨b5, HBX.out.next b5, ?_, HT.out.next b5⟩
    have := Box.made w1 (w16 P).toArray 82
    exact (this.next B2.out).next ((Below.refl _ _).alloc (Nat.le_refl _) _))
  have q0 := Box.made w2 #[.int .u32 (s.a : Nat), .int .u32 (s.b : Nat), .int .u32 (s.c : Nat), .int .u32 (s.d : Nat)] 32
  generalize w2.alloc (.cells #[.int .u32 (s.a : Nat), .int .u32 (s.b : Nat), .int .u32 (s.c : Nat), .int .u32 (s.d : Nat)] 32) = W at *
  generalize w1.heap.size = g2 at *
  generalize w2.heap.size = g3 at *
  have c0 := q0.at_ 0 _ rfl
  have c1 := q0.at_ 1 _ rfl
  have c2 := q0.at_ 2 _ rfl
  have c3 := q0.at_ 3 _ rfl
  clear q0 b4 B2 B1 HW HNm hra hz2
  go_quiet (fail)
  have K1 := hid (K0.out.next (below_drewN (Below.refl _ _) nq))
  generalize W.drewN nq = W2 at *
  clear K0 c0 c1 c2 c3
  go_wp2_with fail
  go_loopw [4, 5, 6, 7, 29] (fun av bv cv dv iv wr => ∃ (i : Nat) (y : Q4), i ≤ 64 ∧ iv = .int .i64 (i : Nat) ∧ av = .int .u32 (y.a : Nat) ∧ bv = .int .u32 (y.b : Nat) ∧ cv = .int .u32 (y.c : Nat) ∧ dv = .int .u32 (y.d : Nat) ∧ Hid (y = rnds P s i) ∧ Hid (Bkp w wr g g2 x P t)) (fun _ _ _ _ iv _ => 64 - (intOf iv).toNat)
  case atStart => exact ⟨0, s, by omega, rfl, rfl, rfl, rfl, rfl, rfl, K1⟩
  case round =>
    clear K1
    obtain ⟨i, y, hi, rfl, rfl, rfl, rfl, rfl, HY, HK⟩ := hrel
    by_cases hlt : i < 64
    · have hyo : y.ok := by rw [HY.out]; exact rnds_ok hsok.out i
      obtain ⟨ya, yb, yc, yd⟩ := hyo
      have HS := hid (fun w => step_any i y.b y.c y.d hlt yb yc yd w)
      have hFl := F_lt i y.b y.c y.d yb yc yd
      have hGl := G_lt i hlt
      have hKl := K_bd i hlt
      obtain ⟨r0, r1⟩ := rolls_bd i hlt
      have hWl := word_lt P HP.out (G i)
      have HST := hid (show rnds P s (i + 1) = ⟨y.d, (y.b + rol (mix P i y) (rolls i)) % 4294967296, y.b, y.c⟩ by show stp P i (rnds P s i) = _; rw [← HY.out]; rfl)
      have hmx : mix P i y = (F i y.b y.c y.d + y.a + K.getD i 0 + word P (G i)) % 4294967296 := rfl
      have tk := HK.out.T.k i hlt
      have tr := HK.out.T.r (4 * (i / 16) + i % 4) (by omega)
      have tw := HK.out.n.at_ (G i) _ (w16_at P (G i) hGl)
      rw [show R.getD (4 * (i / 16) + i % 4) 0 = rolls i from rfl] at tr
      obtain ⟨f, hf⟩ : ∃ f, f = F i y.b y.c y.d := ⟨_, rfl⟩
      obtain ⟨G', hG'⟩ : ∃ G', G' = G i := ⟨_, rfl⟩
      obtain ⟨k, hk⟩ : ∃ k, k = K.getD i 0 := ⟨_, rfl⟩
      obtain ⟨r, hr⟩ : ∃ r, r = rolls i := ⟨_, rfl⟩
      obtain ⟨v, hv⟩ : ∃ v, v = word P G' := ⟨_, rfl⟩
      rw [← hG'] at HS hGl hWl hmx tw
      rw [← hf] at HS hFl hmx
      rw [← hk] at hKl hmx tk
      rw [← hr] at r0 r1 HST tr
      rw [← hv] at hWl hmx tw
      obtain ⟨m, hm⟩ : ∃ m, m = mix P i y := ⟨_, rfl⟩
      rw [← hm] at hmx HST
      clear hf hG' hk hr hv hm
      have e1 : IntKind.u32.wrap ((f : Int) + y.a) = (((f + y.a) % 4294967296 : Nat) : Int) := by rw [IntKind.wrap_u32]; omega
      have e2 : IntKind.u32.wrap ((((f + y.a) % 4294967296 : Nat) : Int) + k) = (((f + y.a + k) % 4294967296 : Nat) : Int) := by rw [IntKind.wrap_u32]; omega
      have e3 : IntKind.u32.wrap ((((f + y.a + k) % 4294967296 : Nat) : Int) + v) = (m : Nat) := by rw [IntKind.wrap_u32, hmx]; omega
      have hml : m < 4294967296 := by omega
      obtain ⟨m1, hm1⟩ : ∃ m1, m1 = (f + y.a) % 4294967296 := ⟨_, rfl⟩
      obtain ⟨m2, hm2⟩ : ∃ m2, m2 = (f + y.a + k) % 4294967296 := ⟨_, rfl⟩
      rw [← hm1] at e1 e2
      rw [← hm2] at e2 e3
      have hrl := rol_lt m r hml (by omega)
      have HR := hid (fun w => rot_any m r hml r0 r1 w)
      obtain ⟨q, hq⟩ : ∃ q, q = rol m r := ⟨_, rfl⟩
      rw [← hq] at HR hrl HST
      have e4 : IntKind.u32.wrap ((y.b : Int) + q) = (((y.b + q) % 4294967296 : Nat) : Int) := by rw [IntKind.wrap_u32]; omega
      obtain ⟨z, hz⟩ : ∃ z, z = (y.b + q) % 4294967296 := ⟨_, rfl⟩
      rw [← hz] at e4 HST
      obtain ⟨i16, hi16⟩ : ∃ j, j = i / 16 := ⟨_, rfl⟩
      obtain ⟨i4, hi4⟩ : ∃ j, j = i % 4 := ⟨_, rfl⟩
      rw [← hi16, ← hi4, Nat.mul_comm 4] at tr
      have d1 : Int.tdiv (i : Int) 16 = (i16 : Nat) := by rw [Int.tdiv_eq_ediv_of_nonneg (by omega)]; omega
      have d2 : Int.tmod (i : Int) 4 = (i4 : Nat) := by rw [Int.tmod_eq_emod_of_nonneg (by omega)]; omega
      have hGi : (G' : Int) < 16 := by omega
      have l1 : i16 < 4 := by omega
      have l2 : i4 < 4 := by omega
      clear hm1 hm2 hq hz hi16 hi4 hmx
      go_upto_region 7 with (go_at_call 45; ((with_reducible refine (HS.out _).mono ?_); rintro e w3 ⟨rfl, rfl⟩))
      refine wp_region_quiet_lit (by kernel_rfl) (by kernel_rfl) ?_
      repeat (go_big_quiet_step ((go_at_call 46; with_reducible exact quiet_l (HR.out _))))
      refine wpQuiet_nil ?_
      intro w3 hw'
      obtain ⟨nr, hw''⟩ := hw'
      subst hw''
      clear e1 e2 e3 tk tr tw d1 d2
      go_wp2_with fail
      go_roundw
      case rel => exact ⟨i + 1, ⟨y.d, z, y.b, y.c⟩, by omega, by go_num, rfl, rfl, rfl, rfl, hid HST.out.symm, hid (HK.out.next (below_drewN (Below.refl _ _) nr))⟩
      case measure => simp [intOf]; omega
    · obtain rfl : i = 64 := by omega
      have hyo : y.ok := by rw [HY.out]; exact rnds_ok hsok.out 64
      have HYO := hid hyo
      have HB0 := hid (show Box wr g (hv (pa x y 0) P t) by rw [pa_0]; exact HK.out.h)
      have HG := hid (gb_of_below (show Below w.heap.size w wr from HK.out.b) (some g))
      have IX := hid (fun k hk w => idxq y k hk w)
      clear hyo hlt HK
      go_wp2_with fail
      go_loopw [71] (fun iv wq => ∃ (k : Nat), k ≤ 4 ∧ iv = .int .i64 (k : Nat) ∧ Hid (Box wq g (hv (pa x y k) P t)) ∧ Hid (w.grownBy wq (some g))) (fun iv _ => 4 - (intOf iv).toNat)
      case atStart => exact ⟨0, by omega, rfl, HB0, HG⟩
      case round =>
        clear HB0 HG
        obtain ⟨k, hk, rfl, HB, HG⟩ := hrel
        by_cases hlt : k < 4
        · have hix := IX.out k hlt wr
          have c0 := HB.out.at_ k _ (hv_add (pa x y k) P t k hlt)
          rw [pa_at x y k hlt] at c0
          have HPS := hid (pa_succ x y P t k hlt)
          have hq1 := qv_lt HX.out k
          have hq2 := qv_lt HYO.out k
          obtain ⟨u, hu⟩ : ∃ u, u = qv x k := ⟨_, rfl⟩
          obtain ⟨v, hv⟩ : ∃ v, v = qv y k := ⟨_, rfl⟩
          rw [← hu] at c0 HPS hq1
          rw [← hv] at hix HPS hq2
          clear hu hv
          have e1 : IntKind.u32.wrap ((u : Int) + v) = (((u + v) % 4294967296 : Nat) : Int) := by rw [IntKind.wrap_u32]; omega
          obtain ⟨z, hz⟩ : ∃ z, z = (u + v) % 4294967296 := ⟨_, rfl⟩
          rw [← hz] at e1 HPS
          clear hz
          have z0 := After.cell c0
          go_upto_region 13 with fail
          refine wp_region_after_tail wr 11 (by kernel_rfl) (by kernel_rfl) ((Below.refl _ _).drew) ?_
          simp only [List.take_succ_cons, List.take_zero, List.drop_succ_cons, List.drop_zero]
          repeat (go_big_quiet_step (fail))
          refine wpQuiet_nil ?_
          intro w5 hw'
          obtain ⟨N3, e3⟩ := hw'
          have b3 : Below wr.heap.size wr w5 := by rw [e3]; exact N3.h
          clear e3 N3 z0 e1
          have x0 := keep_cell b3 c0
          have k3 := HB.out.next b3
          have f0 := k3.fr k
          have K3 := hid k3
          have G3 := hid (gb_trans HG.out (gb_of_below b3 (some g)))
          clear k3 b3 c0 hix HB HG
          go_wp2_with fail
          go_roundw
          case rel => exact ⟨k + 1, by omega, by go_num, hid (by rw [← HPS.out]; exact K3.out.set k _), hid (gb_setCell G3.out (p := ⟨g, k, none⟩) rfl _)⟩
          case measure => simp [intOf]; omega
        · obtain rfl : k = 4 := by omega
          have HE := hid (pa_4 x y)
          go_wp2_with fail
          go_end0
          exact ⟨rfl, by rw [← HY.out, ← HE.out]; exact HB.out, HG.out⟩
end Go.Proofs.YtnfklhebcloolaaDoor.mdc
