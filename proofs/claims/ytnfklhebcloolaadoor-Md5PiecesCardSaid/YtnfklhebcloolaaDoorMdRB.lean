/- The document's own block of a digest. -/
import Derived.Test.YtnfklhebcloolaaDoorMdK
import Derived.Test.YtnfklhebcloolaaDoorTailC
import Derived.Test.YtnfklhebcloolaaDoorSlice8
namespace Go.Proofs.YtnfklhebcloolaaDoor.mdc
open Go.RowKit
open Go.Proofs.YtnfklhebcloolaaDoor.kit Go.Proofs.YtnfklhebcloolaaDoor.mdm
set_option linter.unusedVariables false
set_option linter.unusedSimpArgs false
set_option maxRecDepth 20000
def q4 (k : IntKind) (s : Q4) : List Value := [.int k (s.a : Nat), .int k (s.b : Nat), .int k (s.c : Nat), .int k (s.d : Nat)]
theorem word_drop (l : List Int) (g : Nat) : word (l.drop (4 * g)) 0 = word l g := by
  unfold word
  simp only [List.getD_eq_getElem?_getD, List.getElem?_drop]
  rfl
theorem oct_drop {l : List Int} (h : Oct l) (m : Nat) : Oct (l.drop m) := fun x hx => h x (List.mem_of_mem_drop hx)
/-- what the block's loop keeps: the numbers that came, the result's block, the numbers so far -/
structure Bk (w wr : World) (s x : Q4) : Prop where
  b : Below w.heap.size w wr
  p : Box wr w.heap.size (q4 .u64 s)
  r : Box wr (w.heap.size + 1) [.int .u64 0, .int .u64 0, .int .u64 0, .int .u64 0]
  q : Box wr (w.heap.size + 1 + 1) (q4 .u64 x)
theorem Bk.next {w wr w' : World} {s x : Q4} (h : Bk w wr s x) (hb : Below wr.heap.size wr w') : Bk w w' s x := ⟨h.b.trans (hb.mono h.b.size), h.p.next hb, h.r.next hb, h.q.next hb⟩
theorem Bk.put {w wr : World} {s x : Q4} (h : Bk w wr s x) (y : Q4) : Bk w ((((wr.setCell ⟨w.heap.size + 1 + 1, 0, none⟩ (.int .u64 (y.a : Nat))).setCell ⟨w.heap.size + 1 + 1, 1, none⟩ (.int .u64 (y.b : Nat))).setCell ⟨w.heap.size + 1 + 1, 2, none⟩ (.int .u64 (y.c : Nat))).setCell ⟨w.heap.size + 1 + 1, 3, none⟩ (.int .u64 (y.d : Nat))) s y :=
  ⟨(((h.b.setCell (p := ⟨w.heap.size + 1 + 1, 0, none⟩) (show w.heap.size ≤ w.heap.size + 1 + 1 by omega) _).setCell (p := ⟨w.heap.size + 1 + 1, 1, none⟩) (show w.heap.size ≤ w.heap.size + 1 + 1 by omega) _).setCell (p := ⟨w.heap.size + 1 + 1, 2, none⟩) (show w.heap.size ≤ w.heap.size + 1 + 1 by omega) _).setCell (p := ⟨w.heap.size + 1 + 1, 3, none⟩) (show w.heap.size ≤ w.heap.size + 1 + 1 by omega) _,
    (((h.p.other (by omega) _).other (by omega) _).other (by omega) _).other (by omega) _, (((h.r.other (by omega) _).other (by omega) _).other (by omega) _).other (by omega) _, (((h.q.set 0 _).set 1 _).set 2 _).set 3 _⟩
theorem Bk.set {w wr : World} {s x : Q4} (h : Bk w wr s x) (j : Nat) (v : Nat) (y : Q4) (hy : (q4 .u64 x).set j (.int .u64 (v : Nat)) = q4 .u64 y) : Bk w (wr.setCell ⟨w.heap.size + 1 + 1, j, none⟩ (.int .u64 (v : Nat))) s y :=
  ⟨h.b.setCell (p := ⟨w.heap.size + 1 + 1, j, none⟩) (show w.heap.size ≤ w.heap.size + 1 + 1 by omega) _, h.p.other (by omega) _, h.r.other (by omega) _, by rw [← hy]; exact h.q.set j _⟩
/-- the numbers, the first j of them with those that came -/
def addp (x s : Q4) (j : Nat) : Q4 := ⟨if 0 < j then (x.a + s.a) % 4294967296 else x.a, if 1 < j then (x.b + s.b) % 4294967296 else x.b, if 2 < j then (x.c + s.c) % 4294967296 else x.c, if 3 < j then (x.d + s.d) % 4294967296 else x.d⟩
theorem addp_0 (x s : Q4) : addp x s 0 = x := by simp [addp]
theorem addp_4 (x s : Q4) : addp x s 4 = add4 x s := by simp [addp, add4]
theorem addp_set0 (x s : Q4) : (q4 .u64 (addp x s 0)).set 0 (.int .u64 (((x.a + s.a) % 4294967296 : Nat) : Int)) = q4 .u64 (addp x s 1) := by simp [addp, q4]
theorem addp_set1 (x s : Q4) : (q4 .u64 (addp x s 1)).set 1 (.int .u64 (((x.b + s.b) % 4294967296 : Nat) : Int)) = q4 .u64 (addp x s 2) := by simp [addp, q4]
theorem addp_set2 (x s : Q4) : (q4 .u64 (addp x s 2)).set 2 (.int .u64 (((x.c + s.c) % 4294967296 : Nat) : Int)) = q4 .u64 (addp x s 3) := by simp [addp, q4]
theorem addp_set3 (x s : Q4) : (q4 .u64 (addp x s 3)).set 3 (.int .u64 (((x.d + s.d) % 4294967296 : Nat) : Int)) = q4 .u64 (addp x s 4) := by simp [addp, q4]
theorem addp_at0 (x s : Q4) : (addp x s 0).a = x.a := by simp [addp]
theorem addp_at1 (x s : Q4) : (addp x s 1).b = x.b := by simp [addp]
theorem addp_at2 (x s : Q4) : (addp x s 2).c = x.c := by simp [addp]
theorem addp_at3 (x s : Q4) : (addp x s 3).d = x.d := by simp [addp]
theorem ret4 {w : World} {g : Nat} {vs : List Value} (h : Box w g vs) (hv : vs.length = 4) (u v x y : Value) :
    ((((w.setCell ⟨g, 0, none⟩ u).setCell ⟨g, 1, none⟩ v).setCell ⟨g, 2, none⟩ x).setCell ⟨g, 3, none⟩ y).cell? ⟨g, 0, none⟩ = some u ∧ ((((w.setCell ⟨g, 0, none⟩ u).setCell ⟨g, 1, none⟩ v).setCell ⟨g, 2, none⟩ x).setCell ⟨g, 3, none⟩ y).cell? ⟨g, 1, none⟩ = some v ∧ ((((w.setCell ⟨g, 0, none⟩ u).setCell ⟨g, 1, none⟩ v).setCell ⟨g, 2, none⟩ x).setCell ⟨g, 3, none⟩ y).cell? ⟨g, 2, none⟩ = some x ∧ ((((w.setCell ⟨g, 0, none⟩ u).setCell ⟨g, 1, none⟩ v).setCell ⟨g, 2, none⟩ x).setCell ⟨g, 3, none⟩ y).cell? ⟨g, 3, none⟩ = some y := by
  have hb := (((h.set 0 u).set 1 v).set 2 x).set 3 y
  match vs, hv with
  | [a, b, c, d], _ => exact ⟨hb.at_ 0 _ rfl, hb.at_ 1 _ rfl, hb.at_ 2 _ rfl, hb.at_ 3 _ rfl⟩
set_option maxHeartbeats 4000000 in
theorem rblock_any {B n cap : Nat} {a : Option Addr} {l : List Int} (w : World) (h : Nums .u8 w B a n cap l) (hB : B ≤ w.heap.size) (hO : Oct l) (hn : 64 ≤ n) (s : Q4) (hs : s.ok) :
    Calls Tryd.prog 22 #[.agg (q4 .u64 s).toArray, .slice a n cap] w fun e w' => e = .returned (.agg (q4 .u64 (blk s l)).toArray) ∧ Below w.heap.size w w' := by
  have HN := hid h
  have HO := hid hO
  have HS := hid hs
  have HR := hid (fun i => rnds_ok (l := l) hs i)
  have hcap := h.le
  have hcm := h.max
  unfold maxLen at hcm
  obtain ⟨W, hW⟩ : ∃ W, W = ((w.alloc (.cells (q4 .u64 s).toArray 58)).alloc (.cells #[.int .u64 0, .int .u64 0, .int .u64 0, .int .u64 0] 58)).alloc (.cells (q4 .u64 s).toArray 58) := ⟨_, rfl⟩
  have K0 : Hid (Bk w W s (rnds l s 0)) := hid (by
    rw [hW]
    have b1 := (Below.refl w.heap.size w).alloc (Nat.le_refl _) (.cells (q4 .u64 s).toArray 58)
    have b2 := b1.alloc b1.size (.cells #[.int .u64 0, .int .u64 0, .int .u64 0, .int .u64 0] 58)
    refine ⟨b2.alloc b2.size _, ?_, ?_, ?_⟩
    · exact ((Box.made w _ _).next ((Below.refl _ _).alloc (Nat.le_refl _) _)).next ((Below.refl _ _).alloc (Nat.le_refl _) _)
    · have := (Box.made (w.alloc (.cells (q4 .u64 s).toArray 58)) #[.int .u64 0, .int .u64 0, .int .u64 0, .int .u64 0] 58).next ((Below.refl _ _).alloc (Nat.le_refl _) (.cells (q4 .u64 s).toArray 58)); simpa using this
    · have := Box.made ((w.alloc (.cells (q4 .u64 s).toArray 58)).alloc (.cells #[.int .u64 0, .int .u64 0, .int .u64 0, .int .u64 0] 58)) (q4 .u64 s).toArray 58; simp only [World.size_alloc] at this; exact this)
  have HW := hid hW
  clear h hO hs hW
  unfold q4
  go_enter Tryd.func22, Tryd.ntmps22
  go_upto_region 2 with fail
  change Code.wp _ _ _ _ (((w.alloc (.cells (q4 .u64 s).toArray 58)).alloc (.cells #[.int .u64 0, .int .u64 0, .int .u64 0, .int .u64 0] 58)).alloc (.cells (q4 .u64 s).toArray 58))
  rw [← HW.out]
  go_wp2_with fail
  go_loopw [6, 7] (fun iv _ wr => ∃ i : Nat, i ≤ 64 ∧ iv = .int .i64 i ∧ Hid (Bk w wr s (rnds l s i))) (fun iv _ _ => 64 - (intOf iv).toNat)
  case atStart => exact ⟨0, Nat.zero_le _, rfl, K0⟩
  case round =>
    clear K0
    obtain ⟨i, hi, rfl, HK⟩ := hrel
    have hok := HR.out i
    by_cases hlt : i < 64
    · have HNX : Hid (rnds l s (i + 1) = stp l i (rnds l s i)) := rfl
      obtain ⟨x, hx⟩ : ∃ x, x = rnds l s i := ⟨_, rfl⟩
      rw [← hx] at HK HNX hok
      clear hx
      obtain ⟨o1, o2, o3, o4⟩ := hok
      have hG := G_lt i hlt
      have x0 := HK.out.q.at_ 0 (.int .u64 (x.a : Nat)) rfl
      have x1 := HK.out.q.at_ 1 (.int .u64 (x.b : Nat)) rfl
      have x2 := HK.out.q.at_ 2 (.int .u64 (x.c : Nat)) rfl
      have x3 := HK.out.q.at_ 3 (.int .u64 (x.d : Nat)) rfl
      have z0 := After.cell x0
      have z1 := After.cell x1
      have z2 := After.cell x2
      have z3 := After.cell x3
      obtain ⟨a', hsl, hz1, hz2⟩ := slice_from a n cap (4 * G i) (by omega)
      have ND := hid ((HN.out.below (HK.out.b.mono hB)).drop (m := 4 * G i) (by omega) hz1 hz2)
      clear hz1 hz2
      have C1 := hid (fun M : After wr => after_call ((rf_any i x.b x.c x.d hlt o2 o3 o4 M.w).mono fun e w' ⟨he, hw⟩ => ⟨he, by subst hw; exact Below.refl _ _⟩))
      have C2 := hid (fun M : After wr => after_call (k_any i hlt M.w))
      have C3 := hid (fun M : After wr => after_call (g_any i hlt M.w))
      have C4 := hid (fun M : After wr => after_call ((low_any M.w (ND.out.below (M.h.mono (Nat.le_trans hB HK.out.b.size))) (oct_drop HO.out _) (by omega)).mono fun e w' ⟨he, m, hw⟩ => ⟨by rw [word_drop] at he; exact he, by subst hw; exact below_drewN (Below.refl _ _) m⟩))
      have hFb := F_bd i x.b x.c x.d o2 o3 o4
      have hKb := K_bd i hlt
      have hWb := word_lt l HO.out (G i)
      have HM : Hid (mix l i x = (F i x.b x.c x.d + x.a + K.getD i 0 + word l (G i)) % 4294967296) := rfl
      obtain ⟨fv, hfv⟩ : ∃ v, v = F i x.b x.c x.d := ⟨_, rfl⟩
      obtain ⟨kv, hkv⟩ : ∃ v, v = K.getD i 0 := ⟨_, rfl⟩
      obtain ⟨gv, hgv⟩ : ∃ v, v = G i := ⟨_, rfl⟩
      obtain ⟨wv, hwv⟩ : ∃ v, v = word l (G i) := ⟨_, rfl⟩
      rw [← hfv] at C1 hFb HM
      rw [← hkv] at C2 hKb HM
      rw [← hwv] at C4 hWb HM
      rw [← hgv] at C3 C4 hsl hG
      have C5 := hid (fun M : After wr => after_call ((cut_any (fv + x.a + kv + wv) (by omega) M.w).mono fun e w' ⟨he, hw⟩ => ⟨he, by subst hw; exact Below.refl _ _⟩))
      rw [← HM.out] at C5
      have hcs : ((fv + x.a + kv + wv : Nat) : Int) = (fv : Int) + x.a + kv + wv := by omega
      rw [hcs] at C5
      clear hcs
      have hu1 : IntKind.u64.wrap ((fv : Int) + x.a) = (fv : Int) + x.a := by rw [IntKind.wrap_u64]; omega
      have hu2 : IntKind.u64.wrap ((fv : Int) + x.a + kv) = (fv : Int) + x.a + kv := by rw [IntKind.wrap_u64]; omega
      have hu3 : IntKind.u64.wrap ((fv : Int) + x.a + kv + wv) = (fv : Int) + x.a + kv + wv := by rw [IntKind.wrap_u64]; omega
      clear hfv hkv hgv hwv
      have hsl2 : ∀ w, (Instr.slice 22 (.slice a n cap) (some (.int .i64 (4 * (gv : Int)))) none none).run Tryd.prog w = .ok (.slice a' (n - 4 * gv) (cap - 4 * gv)) w := fun w => by have := hsl w; rw [Int.natCast_mul] at this; exact this
      clear hsl
      go_upto_region 5 with fail
      refine wp_region_after wr (by kernel_rfl) (by kernel_rfl) ((Below.refl _ _).drew) ?_
      repeat (go_big_quiet_step (first | (with_reducible exact C1.out _) | (with_reducible exact C2.out _) | (with_reducible exact C3.out _) | (with_reducible exact C4.out _) | (with_reducible exact C5.out _)))
      refine wpQuiet_nil ?_
      intro w3 hw'
      obtain ⟨N3, e3⟩ := hw'
      have b3 : Below wr.heap.size wr w3 := by rw [e3]; exact N3.h
      clear e3 N3 C1 C2 C3 C4 C5 z0 z1 z2 z3 x0 x1 x2 x3 hu1 hu2 hu3 hsl2
      have K3 := hid (HK.out.next b3)
      clear HK b3 ND HM hG hFb hKb hWb
      have x0 := K3.out.q.at_ 0 (.int .u64 (x.a : Nat)) rfl
      have x1 := K3.out.q.at_ 1 (.int .u64 (x.b : Nat)) rfl
      have x2 := K3.out.q.at_ 2 (.int .u64 (x.c : Nat)) rfl
      have x3 := K3.out.q.at_ 3 (.int .u64 (x.d : Nat)) rfl
      have z0 := After.cell x0
      have z1 := After.cell x1
      have z2 := After.cell x2
      have z3 := After.cell x3
      have hmx : mix l i x < 4294967296 := Nat.mod_lt _ (by decide)
      obtain ⟨r1, r2⟩ := rolls_bd i hlt
      have hrl := rol_lt (mix l i x) (rolls i) hmx (by omega)
      have HST : Hid (stp l i x = ⟨x.d, (x.b + rol (mix l i x) (rolls i)) % 4294967296, x.b, x.c⟩) := rfl
      obtain ⟨mv, hmv⟩ : ∃ v, v = mix l i x := ⟨_, rfl⟩
      rw [← hmv] at hmx hrl HST ⊢
      have D1 := hid (fun M : After w3 => after_call (bits_any i hlt M.w))
      have D2 := hid (fun M : After w3 => after_call ((roll_any mv (rolls i) hmx (by omega) M.w).mono fun e w' ⟨he, hw⟩ => ⟨he, by subst hw; exact Below.refl _ _⟩))
      obtain ⟨bv, hbv⟩ : ∃ v, v = rolls i := ⟨_, rfl⟩
      rw [← hbv] at D1 D2 hrl HST r1 r2
      obtain ⟨rv, hrv⟩ : ∃ v, v = rol mv bv := ⟨_, rfl⟩
      rw [← hrv] at D2 hrl HST
      have D3 := hid (fun M : After w3 => after_call ((cut_any (x.b + rv) (by omega) M.w).mono fun e w' ⟨he, hw⟩ => ⟨he, by subst hw; exact Below.refl _ _⟩))
      obtain ⟨cv, hcv⟩ : ∃ v, v = (x.b + rv) % 4294967296 := ⟨_, rfl⟩
      rw [← hcv] at D3 HST
      have hcs : ((x.b + rv : Nat) : Int) = (x.b : Int) + rv := by omega
      rw [hcs] at D3
      have hu1 : IntKind.u64.wrap ((x.b : Int) + rv) = (x.b : Int) + rv := by rw [IntKind.wrap_u64]; omega
      clear hcs hmv hbv hrv hcv
      go_upto_region 6 with fail
      refine wp_region_after_tail w3 15 (by kernel_rfl) (by kernel_rfl) ((Below.refl _ _).drew) ?_
      simp only [List.take_succ_cons, List.take_zero, List.drop_succ_cons, List.drop_zero]
      repeat (go_big_quiet_step (first | (with_reducible exact D1.out _) | (with_reducible exact D2.out _) | (with_reducible exact D3.out _)))
      refine wpQuiet_nil ?_
      intro w4 hw'
      obtain ⟨N4, e4⟩ := hw'
      have b4 : Below w3.heap.size w3 w4 := by rw [e4]; exact N4.h
      clear e4 N4 D1 D2 D3 z0 z1 z2 z3 x0 x1 x2 x3 hu1
      have k4 := K3.out.next b4
      have y0 := k4.q.at_ 0 (.int .u64 (x.a : Nat)) rfl
      have y1 := k4.q.at_ 1 (.int .u64 (x.b : Nat)) rfl
      have y2 := k4.q.at_ 2 (.int .u64 (x.c : Nat)) rfl
      have y3 := k4.q.at_ 3 (.int .u64 (x.d : Nat)) rfl
      have f0 := k4.q.fr 0
      have f1 := k4.q.fr 1
      have f2 := k4.q.fr 2
      have f3 := k4.q.fr 3
      have K4 := hid k4
      clear k4 b4
      go_wp2_with fail
      go_roundw
      case rel => exact ⟨i + 1, by omega, by go_num, by rw [HNX.out, HST.out]; exact hid (K4.out.put ⟨x.d, cv, x.b, x.c⟩)⟩
      case measure => simp [intOf]; omega
    · obtain rfl : i = 64 := by omega
      have HBL : Hid (blk s l = addp (rnds l s 64) s 4) := hid (addp_4 (rnds l s 64) s).symm
      have hok := HR.out 64
      obtain ⟨x, hx⟩ : ∃ x, x = rnds l s 64 := ⟨_, rfl⟩
      rw [← hx] at HK HBL hok
      clear hx HR HN HO
      obtain ⟨o1, o2, o3, o4⟩ := hok
      obtain ⟨t1, t2, t3, t4⟩ := HS.out
      have K0 : Hid (Bk w wr s (addp x s 0)) := hid (by rw [addp_0]; exact HK.out)
      clear HK
      go_wp2_with fail
      go_loopw [8] (fun iv wq => ∃ j : Nat, j ≤ 4 ∧ iv = .int .i64 j ∧ Hid (Bk w wq s (addp x s j))) (fun iv _ => 4 - (intOf iv).toNat)
      case atStart => exact ⟨0, Nat.zero_le _, rfl, K0⟩
      case round =>
        clear K0
        obtain ⟨j, hj, rfl, HK2⟩ := hrel
        have hc : j = 0 ∨ j = 1 ∨ j = 2 ∨ j = 3 ∨ j = 4 := by omega
        rcases hc with rfl | rfl | rfl | rfl | rfl
        · have y0 := HK2.out.q.at_ 0 (.int .u64 ((addp x s 0).a : Nat)) rfl
          rw [addp_at0] at y0
          have y1 := HK2.out.p.at_ 0 (.int .u64 (s.a : Nat)) rfl
          have z0 := After.cell y0
          have z1 := After.cell y1
          have D3 := hid (fun M : After wr => after_call ((cut_any (x.a + s.a) (by omega) M.w).mono fun e w' ⟨he, hw⟩ => ⟨he, by subst hw; exact Below.refl _ _⟩))
          have hcs : ((x.a + s.a : Nat) : Int) = (x.a : Int) + s.a := by omega
          rw [hcs] at D3
          have hu1 : IntKind.u64.wrap ((x.a : Int) + s.a) = (x.a : Int) + s.a := by rw [IntKind.wrap_u64]; omega
          clear hcs
          go_upto_region 10 with fail
          refine wp_region_after_tail wr 10 (by kernel_rfl) (by kernel_rfl) ((Below.refl _ _).drew) ?_
          simp only [List.take_succ_cons, List.take_zero, List.drop_succ_cons, List.drop_zero]
          repeat (go_big_quiet_step (with_reducible exact D3.out _))
          refine wpQuiet_nil ?_
          intro w4 hw'
          obtain ⟨N4, e4⟩ := hw'
          have b4 : Below wr.heap.size wr w4 := by rw [e4]; exact N4.h
          clear e4 N4 D3 z0 z1 y0 y1 hu1
          have k4 := HK2.out.next b4
          have y0 := k4.q.at_ 0 (.int .u64 ((addp x s 0).a : Nat)) rfl
          rw [addp_at0] at y0
          have f0 := k4.q.fr 0
          have K4 := hid k4
          clear k4 b4
          go_wp2_with fail
          go_roundw
          case rel => exact ⟨1, by omega, by go_num, hid (K4.out.set 0 ((x.a + s.a) % 4294967296) (addp x s 1) (addp_set0 x s))⟩
          case measure => simp [intOf]
        · have y0 := HK2.out.q.at_ 1 (.int .u64 ((addp x s 1).b : Nat)) rfl
          rw [addp_at1] at y0
          have y1 := HK2.out.p.at_ 1 (.int .u64 (s.b : Nat)) rfl
          have z0 := After.cell y0
          have z1 := After.cell y1
          have D3 := hid (fun M : After wr => after_call ((cut_any (x.b + s.b) (by omega) M.w).mono fun e w' ⟨he, hw⟩ => ⟨he, by subst hw; exact Below.refl _ _⟩))
          have hcs : ((x.b + s.b : Nat) : Int) = (x.b : Int) + s.b := by omega
          rw [hcs] at D3
          have hu1 : IntKind.u64.wrap ((x.b : Int) + s.b) = (x.b : Int) + s.b := by rw [IntKind.wrap_u64]; omega
          clear hcs
          go_upto_region 10 with fail
          refine wp_region_after_tail wr 10 (by kernel_rfl) (by kernel_rfl) ((Below.refl _ _).drew) ?_
          simp only [List.take_succ_cons, List.take_zero, List.drop_succ_cons, List.drop_zero]
          repeat (go_big_quiet_step (with_reducible exact D3.out _))
          refine wpQuiet_nil ?_
          intro w4 hw'
          obtain ⟨N4, e4⟩ := hw'
          have b4 : Below wr.heap.size wr w4 := by rw [e4]; exact N4.h
          clear e4 N4 D3 z0 z1 y0 y1 hu1
          have k4 := HK2.out.next b4
          have y0 := k4.q.at_ 1 (.int .u64 ((addp x s 1).b : Nat)) rfl
          rw [addp_at1] at y0
          have f0 := k4.q.fr 1
          have K4 := hid k4
          clear k4 b4
          go_wp2_with fail
          go_roundw
          case rel => exact ⟨2, by omega, by go_num, hid (K4.out.set 1 ((x.b + s.b) % 4294967296) (addp x s 2) (addp_set1 x s))⟩
          case measure => simp [intOf]
        · have y0 := HK2.out.q.at_ 2 (.int .u64 ((addp x s 2).c : Nat)) rfl
          rw [addp_at2] at y0
          have y1 := HK2.out.p.at_ 2 (.int .u64 (s.c : Nat)) rfl
          have z0 := After.cell y0
          have z1 := After.cell y1
          have D3 := hid (fun M : After wr => after_call ((cut_any (x.c + s.c) (by omega) M.w).mono fun e w' ⟨he, hw⟩ => ⟨he, by subst hw; exact Below.refl _ _⟩))
          have hcs : ((x.c + s.c : Nat) : Int) = (x.c : Int) + s.c := by omega
          rw [hcs] at D3
          have hu1 : IntKind.u64.wrap ((x.c : Int) + s.c) = (x.c : Int) + s.c := by rw [IntKind.wrap_u64]; omega
          clear hcs
          go_upto_region 10 with fail
          refine wp_region_after_tail wr 10 (by kernel_rfl) (by kernel_rfl) ((Below.refl _ _).drew) ?_
          simp only [List.take_succ_cons, List.take_zero, List.drop_succ_cons, List.drop_zero]
          repeat (go_big_quiet_step (with_reducible exact D3.out _))
          refine wpQuiet_nil ?_
          intro w4 hw'
          obtain ⟨N4, e4⟩ := hw'
          have b4 : Below wr.heap.size wr w4 := by rw [e4]; exact N4.h
          clear e4 N4 D3 z0 z1 y0 y1 hu1
          have k4 := HK2.out.next b4
          have y0 := k4.q.at_ 2 (.int .u64 ((addp x s 2).c : Nat)) rfl
          rw [addp_at2] at y0
          have f0 := k4.q.fr 2
          have K4 := hid k4
          clear k4 b4
          go_wp2_with fail
          go_roundw
          case rel => exact ⟨3, by omega, by go_num, hid (K4.out.set 2 ((x.c + s.c) % 4294967296) (addp x s 3) (addp_set2 x s))⟩
          case measure => simp [intOf]
        · have y0 := HK2.out.q.at_ 3 (.int .u64 ((addp x s 3).d : Nat)) rfl
          rw [addp_at3] at y0
          have y1 := HK2.out.p.at_ 3 (.int .u64 (s.d : Nat)) rfl
          have z0 := After.cell y0
          have z1 := After.cell y1
          have D3 := hid (fun M : After wr => after_call ((cut_any (x.d + s.d) (by omega) M.w).mono fun e w' ⟨he, hw⟩ => ⟨he, by subst hw; exact Below.refl _ _⟩))
          have hcs : ((x.d + s.d : Nat) : Int) = (x.d : Int) + s.d := by omega
          rw [hcs] at D3
          have hu1 : IntKind.u64.wrap ((x.d : Int) + s.d) = (x.d : Int) + s.d := by rw [IntKind.wrap_u64]; omega
          clear hcs
          go_upto_region 10 with fail
          refine wp_region_after_tail wr 10 (by kernel_rfl) (by kernel_rfl) ((Below.refl _ _).drew) ?_
          simp only [List.take_succ_cons, List.take_zero, List.drop_succ_cons, List.drop_zero]
          repeat (go_big_quiet_step (with_reducible exact D3.out _))
          refine wpQuiet_nil ?_
          intro w4 hw'
          obtain ⟨N4, e4⟩ := hw'
          have b4 : Below wr.heap.size wr w4 := by rw [e4]; exact N4.h
          clear e4 N4 D3 z0 z1 y0 y1 hu1
          have k4 := HK2.out.next b4
          have y0 := k4.q.at_ 3 (.int .u64 ((addp x s 3).d : Nat)) rfl
          rw [addp_at3] at y0
          have f0 := k4.q.fr 3
          have K4 := hid k4
          clear k4 b4
          go_wp2_with fail
          go_roundw
          case rel => exact ⟨4, by omega, by go_num, hid (K4.out.set 3 ((x.d + s.d) % 4294967296) (addp x s 4) (addp_set3 x s))⟩
          case measure => simp [intOf]
        · have y0 := HK2.out.q.at_ 0 (.int .u64 ((addp x s 4).a : Nat)) rfl
          have y1 := HK2.out.q.at_ 1 (.int .u64 ((addp x s 4).b : Nat)) rfl
          have y2 := HK2.out.q.at_ 2 (.int .u64 ((addp x s 4).c : Nat)) rfl
          have y3 := HK2.out.q.at_ 3 (.int .u64 ((addp x s 4).d : Nat)) rfl
          have u0 := HK2.out.r.at_ 0 _ rfl
          have u1 := HK2.out.r.at_ 1 _ rfl
          have u2 := HK2.out.r.at_ 2 _ rfl
          have u3 := HK2.out.r.at_ 3 _ rfl
          have f0 := HK2.out.r.fr 0
          have f1 := HK2.out.r.fr 1
          have f2 := HK2.out.r.fr 2
          have f3 := HK2.out.r.fr 3
          have HB2 := HBL.out
          rw [← HB2] at y0 y1 y2 y3
          have HBB := hid HB2
          clear HBL HB2
          go_wp2_with fail
          obtain ⟨q0, q1, q2, q3⟩ := ret4 HK2.out.r rfl (.int .u64 ((blk s l).a : Nat)) (.int .u64 ((blk s l).b : Nat)) (.int .u64 ((blk s l).c : Nat)) (.int .u64 ((blk s l).d : Nat))
          refine bodyPost_ret (v := .agg #[.int .u64 ((blk s l).a : Nat), .int .u64 ((blk s l).b : Nat), .int .u64 ((blk s l).c : Nat), .int .u64 ((blk s l).d : Nat)]) (by simp [results, Tryd.results22, go_sem, q0, q1, q2, q3]) rfl ⟨rfl, ?_⟩
          exact (((HK2.out.b.setCell (p := ⟨w.heap.size + 1, 0, none⟩) (Nat.le_succ _) _).setCell (p := ⟨w.heap.size + 1, 1, none⟩) (Nat.le_succ _) _).setCell (p := ⟨w.heap.size + 1, 2, none⟩) (Nat.le_succ _) _).setCell (p := ⟨w.heap.size + 1, 3, none⟩) (Nat.le_succ _) _
end Go.Proofs.YtnfklhebcloolaaDoor.mdc
