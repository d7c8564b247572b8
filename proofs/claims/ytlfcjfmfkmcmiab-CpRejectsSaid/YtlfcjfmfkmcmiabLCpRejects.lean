/- catwalk's catwalklaw15.CpRejects answers true at every input, and leaves its arguments as they were. No condition. -/
import Derived.Test.YtlfcjfmfkmcmiabRows
import Derived.WalkKit
import Derived.ProofKit
import Derived.OpenShut
import Derived.ShutString
import Derived.ChangeOld
import Derived.Below
import Derived.Test.YtlfcjfmfkmcmiabCp4
import Derived.Test.YtlfcjfmfkmcmiabOpen
import Derived.Deep.DeepCutAuto
import Derived.Deep.RegionHeld3
namespace Go.Proofs.Ytlfcjfmfkmcmiab.cpRejects
open Go.ChangeShapes Go.WideShapes Go.ChangeAt Go.RowKit
open Go.ChangeMaps (open_string shut_string)
set_option linter.unusedVariables false

theorem own : ownKnob Try.prog.godebug = none := by kernel_rfl
theorem laidOut : laidOutB Try.prog = true := by kernel_rfl

open Go.Proofs.Ytlfcjfmfkmcmiab.kit Go.Proofs.Ytlfcjfmfkmcmiab.bec Go.Proofs.Ytlfcjfmfkmcmiab.cpc
section
open Go.ChangeShapes Go.WideShapes Go.Deep
/-- a field that is a struct -/
theorem field_sub {H : Type} {enc : TypeId × Value → H} {P : Program} {w : World} {e : TypeId} {fs : Array Field} {cs : List Value} {n : Nat} {y : DataW H × List MemPlace} (he : P.underlying e = some (.struct fs)) (h : DataW.trod enc P w 0 (fun _ => true) true n e cs = some y)
    (i : Nat) (f : Field) (hf : fs[i]? = some f) : ∃ n' y', DataW.trod enc P w 0 (fun _ => true) true n' f.type ((cs.drop f.offset).take (P.cellsOf f.type)) = some y' := by
  obtain ⟨xs, n', _, _, _, hlen, hfd⟩ := DataW.trod_struct he h
  have hi : i < fs.size := (Array.getElem?_eq_some_iff.1 hf).1
  have hx := hfd i f hf
  rw [List.getElem?_eq_getElem (by omega)] at hx
  exact ⟨_, _, hx⟩
end
/-- what a region of this law knows of each world in it -/
abbrev Knows (W0 w' : World) (g : Nat) (id x y : Int) (v : Value) (p most : Int) : Prop :=
  w'.cell? ⟨g, 0, none⟩ = some (.int .u8 id) ∧ w'.cell? ⟨g, 1, none⟩ = some (.int .u8 x) ∧ w'.cell? ⟨g, 2, none⟩ = some (.int .u8 y) ∧ w'.cell? ⟨g, 3, none⟩ = some v ∧ w'.cell? ⟨g, 4, none⟩ = some (.int .u16 p) ∧ w'.cell? ⟨g, 5, none⟩ = some (.int .i64 most) ∧ Below W0.heap.size W0 w'
theorem Knows.bel {W0 w' : World} {g : Nat} {id x y : Int} {v : Value} {p most : Int} (h : Knows W0 w' g id x y v p most) : Below W0.heap.size W0 w' := h.2.2.2.2.2.2
theorem Knows.next {W0 w' w'' : World} {g : Nat} {id x y : Int} {v : Value} {p most : Int} (h : Knows W0 w' g id x y v p most) (hb : Below w'.heap.size w' w'') : Knows W0 w'' g id x y v p most :=
  ⟨keep_cell hb h.1, keep_cell hb h.2.1, keep_cell hb h.2.2.1, keep_cell hb h.2.2.2.1, keep_cell hb h.2.2.2.2.1, keep_cell hb h.2.2.2.2.2.1, h.bel.trans (hb.mono h.bel.size)⟩
/-- another block than the one that turned, if one did -/
theorem box_own {w w' : World} {g : Nat} {vs : List Value} {o : Option Nat} (h : Box w g vs) (hb : w.grownBy w' o) (hne : o ≠ some g) : Box w' g vs :=
  ⟨fun j v hv => hb.cell (h.at_ j v hv) (fun e => hne e.symm), fun j => (World.frozen?_of_block (w := w) (w' := w') (a := ⟨g, j, none⟩) (hb.block _ h.lt (fun e => hne e.symm))).trans (h.fr j), Nat.lt_of_lt_of_le h.lt hb.size⟩
theorem known_is (W : World) (x y : Int) (q : Bool) (h : knownB x y = q) : Calls Try.prog 18 #[.int .u8 x, .int .u8 y] W fun e W' => e = .returned (.bool q) ∧ W = W' := by rw [← h]; exact known_any W x y

set_option maxHeartbeats 2000000 in
set_option maxRecDepth 100000 in
/-- the walk: true, and nothing that was there has turned -/
theorem walk {H : Type} {enc : TypeId × Value → H} {base : Nat} (v0 : Value) (d0 : DataW H) (p0 : List MemPlace) (a1 : Int) (a2 : Int) (w : World) (w0 : DataW.Trod enc Try.prog w 0 (fun _ => true) true 43 v0 d0 p0) (o0 : Value.okWide Try.prog w .any base 43 v0) (w1 : (Lit.int .u8 a1).wf = true) (w2 : (Lit.int .u8 a2).wf = true) :
    Calls Try.prog 4 #[v0, .int .u8 a1, .int .u8 a2] w fun e w' => e = .returned (.bool true) ∧ Below w.heap.size w w' := by
  obtain ⟨cs, n0, yy, rfl, hsz, hy⟩ := open_struct Try.underlying43 o0 w0
  obtain ⟨id, hf0, hidb⟩ := field_int Try.underlying43 hy 0 _ rfl Try.underlying5 (by kernel_rfl)
  obtain ⟨n1, y1, hy1⟩ := field_sub Try.underlying43 hy 1 _ rfl
  obtain ⟨x, hf1, hx⟩ := field_int Try.underlying40 hy1 0 _ rfl Try.underlying5 (by kernel_rfl)
  obtain ⟨y, hf2, hyb⟩ := field_int Try.underlying40 hy1 1 _ rfl Try.underlying5 (by kernel_rfl)
  obtain ⟨a, n, c, l, hf3, hN, hwf⟩ := field_nums Try.underlying40 hy1 2 _ rfl Try.underlying34 Try.underlying5 (by kernel_rfl) (by kernel_rfl)
  obtain ⟨p, hf4, hp⟩ := field_int Try.underlying43 hy 2 _ rfl Try.underlying41 (by kernel_rfl)
  obtain ⟨most, hf5, hm⟩ := field_int Try.underlying43 hy 3 _ rfl Try.underlying3 (by kernel_rfl)
  have e3 : Try.prog.cellsOf 40 = 3 := by kernel_rfl
  have g1 : cs.toList[1]? = some (.int .u8 x) := by
    have h : ((cs.toList.drop 1).take (Try.prog.cellsOf 40))[0]? = some (.int .u8 x) := hf1
    rw [show ((cs.toList.drop 1).take (Try.prog.cellsOf 40))[0]? = cs.toList[1]? by rw [e3]; simp] at h
    exact h
  have g2 : cs.toList[2]? = some (.int .u8 y) := by
    have h : ((cs.toList.drop 1).take (Try.prog.cellsOf 40))[1]? = some (.int .u8 y) := hf2
    rw [show ((cs.toList.drop 1).take (Try.prog.cellsOf 40))[1]? = cs.toList[2]? by rw [e3]; simp] at h
    exact h
  have g3 : cs.toList[3]? = some (.slice a n c) := by
    have h : ((cs.toList.drop 1).take (Try.prog.cellsOf 40))[2]? = some (.slice a n c) := hf3
    rw [show ((cs.toList.drop 1).take (Try.prog.cellsOf 40))[2]? = cs.toList[3]? by rw [e3]; simp] at h
    exact h
  obtain rfl := agg6 (hsz.trans (by kernel_rfl)) hf0 g1 g2 g3 hf4 hf5
  have hx := wf_u8 hx
  have hyb := wf_u8 hyb
  have hp := wf_u16 hp
  have hm := wf_i64 hm
  clear w0 o0 hy hy1 hf0 hf1 hf2 hf3 hf4 hf5 g1 g2 g3 hsz hwf e3
  have hle := hN.le
  have hmx := hN.max
  have hnl := hN.len
  unfold maxLen at hmx
  obtain ⟨W0, hW0⟩ : ∃ W0, W0 = w.alloc (.cells #[.int .u8 id, .int .u8 x, .int .u8 y, .slice a n c, .int .u16 p, .int .i64 most] 43) := ⟨_, rfl⟩
  have b0 : Below w.heap.size w W0 := by rw [hW0]; exact (Below.refl _ _).alloc (Nat.le_refl _) _
  have k0 : Box W0 w.heap.size [.int .u8 id, .int .u8 x, .int .u8 y, .slice a n c, .int .u16 p, .int .i64 most] := by rw [hW0]; exact Box.made _ #[.int .u8 id, .int .u8 x, .int .u8 y, .slice a n c, .int .u16 p, .int .i64 most] _
  have s0 : St W0 W0 [(a, n, c, l)] := (St.start W0).push ((hN.below b0).mono b0.size)
  have x0 := k0.at_ 0 _ rfl
  have x1 := k0.at_ 1 _ rfl
  have x2 := k0.at_ 2 _ rfl
  have x3 := k0.at_ 3 _ rfl
  have x4 := k0.at_ 4 _ rfl
  have x5 := k0.at_ 5 _ rfl
  have HW := hid hW0
  have B0 := hid b0
  have S0 := hid s0
  clear hN hW0 b0 s0 k0
  go_enter Try.func4, Try.ntmps4
  go_upto_region 1 with fail
  rw [← HW.out]
  by_cases hbig : 2000 < n
  · go_wp2_with fail
    go_ret
    exact ⟨rfl, B0.out⟩
  · have HNL := hid hnl
    clear hnl
    go_upto_if 18 with fail
    go_cut [7] (fun v wx => v = .int .i64 ((roomOf most + 4 : Nat) : Int) ∧ wx = W0)
    case first =>
      by_cases h4 : most < 4
      · have e := hid (show roomOf most = 0 by unfold roomOf; rw [if_pos h4])
        go_wp2_with fail
        go_meet
        exact ⟨by rw [e.out]; rfl, rfl⟩
      · have e := hid (show ((roomOf most : Nat) : Int) = most - 4 by rw [roomOf_eq, if_neg h4])
        go_wp2_with fail
        go_meet
        exact ⟨by have := e.out; exact congrArg (Value.int .i64) (by omega), rfl⟩
    case rest =>
      obtain ⟨rfl, hwc⟩ := hcut
      have hwc' := hwc.symm
      clear hwc
      subst hwc'
      have K0 : Hid (Knows W0 W0.drew w.heap.size id x y (.slice a n c) p most) := ⟨x0, x1, x2, x3, x4, x5, (Below.refl _ _).drew⟩
      have hsub : IntKind.i64.wrap ((roomOf most : Nat) : Int) = (roomOf most : Nat) := IntWalk.i64_in _ (by unfold roomOf; split <;> omega)
      obtain ⟨m, hm'⟩ : ∃ m, m = roomOf most := ⟨_, rfl⟩
      rw [← hm'] at hsub
      rw [← hm']
      have HM := hid hm'
      have RB := hid (fun (W : World) (hb : Below W0.heap.size W0 W) => rbuild_any (st_base (S0.out.next hb)) m0 (by omega) x y)
      clear hm'
      go_upto_region 6 with fail
      go_cut [8] (fun v wx => ∃ g a' n' c', v = .pointer (some ⟨g, 0, none⟩) ∧ Box wx g [.int .u8 7, .int .u8 id, .slice a' n' c'] ∧ St W0 wx ((a', n', c', (cpB x y l).take m) :: [(a, n, c, l)]))
      case first =>
        have SM : Hid (∀ W : World, Below W0.heap.size W0 W → Knows W0 W w.heap.size id x y (.slice a n c) p most) := fun W hb => ⟨keep_cell hb x0, keep_cell hb x1, keep_cell hb x2, keep_cell hb x3, keep_cell hb x4, keep_cell hb x5, hb⟩
        have d0 : Below W0.heap.size W0 W0.drew := (Below.refl _ _).drew
        have d1 : Below W0.heap.size W0 (W0.alloc (.cells #[.int .u8 0, .int .u8 0, .slice none 0 0] 40)).drew := ((Below.refl _ _).alloc (Nat.le_refl _) _).drew
        go_region_held3 (fun w' => w'.cell? ⟨w.heap.size, 0, none⟩ = some (.int .u8 id) ∧ w'.cell? ⟨w.heap.size, 1, none⟩ = some (.int .u8 x) ∧ w'.cell? ⟨w.heap.size, 2, none⟩ = some (.int .u8 y) ∧ w'.cell? ⟨w.heap.size, 3, none⟩ = some (.slice a n c) ∧ w'.cell? ⟨w.heap.size, 4, none⟩ = some (.int .u16 p) ∧ w'.cell? ⟨w.heap.size, 5, none⟩ = some (.int .i64 most) ∧ Below W0.heap.size W0 w') (first | exact K0.out | exact SM.out _ b3 | exact SM.out _ b4 | exact SM.out _ d1 | exact SM.out _ (b3.alloc b3.size _) | exact SM.out _ (b4.alloc b4.size _) | exact SM.out _ (((b4.setCell hg3 _).setCell hg3 _).setCell hg3 _) | go_keep) ((first | (go_at_call 14; ((with_reducible refine (RB.out W0.drew d0).mono ?_); rintro e w3 ⟨a3, n3, c3, rfl, s3⟩; have b3 := d0.trans (s3.below.mono d0.size))) | (go_at_call 14; ((with_reducible refine (RB.out (W0.alloc (.cells #[.int .u8 0, .int .u8 0, .slice none 0 0] 40)).drew d1).mono ?_); rintro e w3 ⟨a3, n3, c3, rfl, s3⟩; have b3 := d1.trans (s3.below.mono d1.size); have bx3 := ((Box.made W0 #[.int .u8 0, .int .u8 0, .slice none 0 0] 40).next ((Below.refl _ _).drew)).next s3.below; have hg3 : W0.heap.size ≤ W0.heap.size := Nat.le_refl _)) | (go_at_call 13; ((with_reducible refine (rfirst_any (st_base s3) m0 (by have := (s3.get m0).len; simp [cpB] at this; have := HNL.out; omega) (m : Int) m rfl).mono ?_); rintro e w4 ⟨a4, n4, c4, rfl, o4, b4'⟩; have b4 := b3.trans (b4'.mono b3.size); try (have bx := bx3.next b4'; have z0 := bx.at_ 0 _ rfl; have z1 := bx.at_ 1 _ rfl; have z2 := bx.at_ 2 _ rfl; have y0 := bx.fr 0; have y1 := bx.fr 1; have y2 := bx.fr 2))) | (go_at_call 13; ((with_reducible refine (rfirst_any (st_base (s3.next ((Below.refl w3.heap.size w3).alloc (Nat.le_refl _) (.cells #[.int .u8 0, .int .u8 0, .slice none 0 0] 40)))) m0 (by have := (s3.get m0).len; simp [cpB] at this; have := HNL.out; omega) (m : Int) m rfl).mono ?_); rintro e w4 ⟨a4, n4, c4, rfl, o4, b4'⟩; have b4 := (b3.alloc b3.size (.cells #[.int .u8 0, .int .u8 0, .slice none 0 0] 40)).trans (b4'.mono (b3.alloc b3.size (.cells #[.int .u8 0, .int .u8 0, .slice none 0 0] 40)).size); have bx := (Box.made w3 #[.int .u8 0, .int .u8 0, .slice none 0 0] 40).next b4'; have hg3 : W0.heap.size ≤ w3.heap.size := b3.size; have z0 := bx.at_ 0 _ rfl; have z1 := bx.at_ 1 _ rfl; have z2 := bx.at_ 2 _ rfl; have y0 := bx.fr 0; have y1 := bx.fr 1; have y2 := bx.fr 2))))
        all_goals
          go_wp2_with fail
          go_meet
        · exact ⟨_, a4, n4, c4, rfl, Box.made w4 #[.int .u8 7, .int .u8 id, .slice a4 n4 c4] _, ((S0.out.next b4).push (own_nums o4)).next ((Below.refl _ _).alloc (Nat.le_refl _) _)⟩
        · exact ⟨_, a4, n4, c4, rfl, ((bx.set 0 _).set 1 _).set 2 _, S0.out.retN b4 (own_nums o4) (fun b o s hb => by have := own_from o4 b o s hb; simp at this; omega) hg3 (set3 _ _ _ _ _)⟩
        · exact ⟨_, a4, n4, c4, rfl, ((bx.set 0 _).set 1 _).set 2 _, S0.out.retN b4 (own_nums o4) (fun b o s hb => by have := own_from o4 b o s hb; have := bx3.lt; omega) hg3 (set3 _ _ _ _ _)⟩
      case rest =>
        obtain ⟨g1, aa, na, ca, rfl, KX, SX⟩ := hcut
        obtain ⟨i0, hi, hi0, hi1, hi2⟩ := info_parts Try.info_u8
        have bw := SX.below
        have y0 := keep_cell bw x0
        have y1 := keep_cell bw x1
        have y2 := keep_cell bw x2
        have y3 := keep_cell bw x3
        have y4 := keep_cell bw x4
        have y5 := keep_cell bw x5
        have HKX := hid KX
        have HSX := hid SX
        have BW := hid bw
        clear KX SX K0 RB x0 x1 x2 x3 x4 x5 bw
        obtain ⟨W1, hW1⟩ : ∃ W1 : World, W1 = wc := ⟨_, rfl⟩
        rw [← hW1] at y0 y1 y2 y3 y4 y5 HKX HSX BW
        have HW1 := hid hW1
        go_upto_region 7 with fail
        rw [← hW1]
        clear hW1
        have hwp : IntKind.u64.wrap p = p := by rw [IntKind.wrap_u64]; omega
        have RP := hid (fun (W : World) => rput16_st (st_base ((St.start W).nil)) m0 (by decide) p hp)
        have HNL2 := hid (show ([p / 256, p % 256] ++ l).length ≤ 100000 by simp; have := HNL.out; omega)
        go_cut [9] (fun v wx => ∃ g a' n' c', v = .pointer (some ⟨g, 0, none⟩) ∧ Box wx g [.int .u8 8, .int .u8 id, .slice a' n' c'] ∧ Below W1.heap.size W1 wx ∧ St W0 wx ((a', n', c', protoD p l m) :: (aa, na, ca, (cpB x y l).take m) :: [(a, n, c, l)]))
        case first =>
          have SM : Hid (∀ W : World, Below W1.heap.size W1 W → Knows W1 W w.heap.size id x y (.slice a n c) p most) := fun W hb => ⟨keep_cell hb y0, keep_cell hb y1, keep_cell hb y2, keep_cell hb y3, keep_cell hb y4, keep_cell hb y5, hb⟩
          have d0 : Below W1.heap.size W1 W1.drew := (Below.refl _ _).drew
          have d1 : Below W1.heap.size W1 (W1.alloc (.cells #[.int .u8 0, .int .u8 0, .slice none 0 0] 40)).drew := ((Below.refl _ _).alloc (Nat.le_refl _) _).drew
          go_region_held3 (fun w' => w'.cell? ⟨w.heap.size, 0, none⟩ = some (.int .u8 id) ∧ w'.cell? ⟨w.heap.size, 1, none⟩ = some (.int .u8 x) ∧ w'.cell? ⟨w.heap.size, 2, none⟩ = some (.int .u8 y) ∧ w'.cell? ⟨w.heap.size, 3, none⟩ = some (.slice a n c) ∧ w'.cell? ⟨w.heap.size, 4, none⟩ = some (.int .u16 p) ∧ w'.cell? ⟨w.heap.size, 5, none⟩ = some (.int .i64 most) ∧ Below W1.heap.size W1 w') (first | exact SM.out _ d0 | exact SM.out _ d1 | exact SM.out _ b3 | exact SM.out _ (b3.alloc b3.size _) | exact SM.out _ b5 | exact SM.out _ (b5.alloc b5.size _) | exact SM.out _ b6 | exact SM.out _ (b6.alloc b6.size _) | exact SM.out _ (((b6.setCell hg3 _).setCell hg3 _).setCell hg3 _) | go_keep) ((first | (go_at_call 10; ((with_reducible refine (RP.out W1.drew).mono ?_); rintro e w3 ⟨a3, c3, rfl, o3, b3', s3⟩; have b3 : Below W1.heap.size W1 w3 := d0.trans (b3'.mono d0.size))) | (go_at_call 10; ((with_reducible refine (RP.out (W1.alloc (.cells #[.int .u8 0, .int .u8 0, .slice none 0 0] 40)).drew).mono ?_); rintro e w3 ⟨a3, c3, rfl, o3, b3', s3⟩; have b3 : Below W1.heap.size W1 w3 := d1.trans (b3'.mono d1.size); have bx0 := (Box.made W1 #[.int .u8 0, .int .u8 0, .slice none 0 0] 40).next ((Below.refl _ _).drew); have hg3 : W1.heap.size ≤ W1.heap.size := Nat.le_refl _)) | ((refine step_append_nums rfl (.tmp 33) (.tmp 36) 34 rfl _ 5 i0 (.int .u8 0) 1 Try.underlying34 hi hi0 hi1 hi2 rfl _ 2 [p / 256, p % 256] rfl (o3) _ n c _ l rfl ((HSX.out.get m1).below b3) (by unfold maxLen; omega) (by omega) (b3'.size) ?_); intro v5 w5 g5 r5; obtain ⟨a5, c5, rfl⟩ := own_slice g5; go_loud (have b5' := own_below o3 b3' r5 b3'.size); go_loud (have b5 : Below W1.heap.size W1 w5 := (by first | exact d0.trans (b5'.mono d0.size) | exact d1.trans (b5'.mono d1.size))); try (have bx5 := bx0.next b5')) | ((refine step_append_nums rfl (.tmp 33) (.tmp 36) 34 rfl _ 5 i0 (.int .u8 0) 1 Try.underlying34 hi hi0 hi1 hi2 rfl _ 2 [p / 256, p % 256] rfl (o3.alloc (.cells #[.int .u8 0, .int .u8 0, .slice none 0 0] 40)) _ n c _ l rfl (((HSX.out.get m1).below b3).below ((Below.refl _ _).alloc b3.size (.cells #[.int .u8 0, .int .u8 0, .slice none 0 0] 40))) (by unfold maxLen; omega) (by omega) (Nat.le_trans b3'.size (by rw [World.size_alloc]; exact Nat.le_succ _)) ?_); intro v5 w5 g5 r5; obtain ⟨a5, c5, rfl⟩ := own_slice g5; go_loud (have b5' := own_below (o3.alloc (.cells #[.int .u8 0, .int .u8 0, .slice none 0 0] 40)) (b3'.alloc b3'.size (.cells #[.int .u8 0, .int .u8 0, .slice none 0 0] 40)) r5 (Nat.le_trans b3'.size (by rw [World.size_alloc]; exact Nat.le_succ _))); go_loud (have b5 : Below W1.heap.size W1 w5 := d0.trans (b5'.mono d0.size)); go_loud (have bx5 := box_own (Box.made w3 #[.int .u8 0, .int .u8 0, .slice none 0 0] 40) r5 (by intro e; have := (o3.lt _ e).2; omega)); have hg3 : W1.heap.size ≤ w3.heap.size := b3.size) | (go_at_call 13; ((with_reducible refine (rfirst_any ((St.start w5).push (own_nums g5)) m0 (by omega) (m : Int) m rfl).mono ?_); rintro e w6 ⟨a6, n6, c6, rfl, o6, b6'⟩; have b6 : Below W1.heap.size W1 w6 := b5.trans (b6'.mono b5.size); try (have bx6 := bx5.next b6'; have z0 := bx6.at_ 0 _ rfl; have z1 := bx6.at_ 1 _ rfl; have z2 := bx6.at_ 2 _ rfl; have f0 := bx6.fr 0; have f1 := bx6.fr 1; have f2 := bx6.fr 2))) | (go_at_call 13; ((with_reducible refine (rfirst_any (((St.start w5).push (own_nums g5)).next ((Below.refl w5.heap.size w5).alloc (Nat.le_refl _) (.cells #[.int .u8 0, .int .u8 0, .slice none 0 0] 40))) m0 (by omega) (m : Int) m rfl).mono ?_); rintro e w6 ⟨a6, n6, c6, rfl, o6, b6'⟩; have b6 : Below W1.heap.size W1 w6 := (b5.alloc b5.size (.cells #[.int .u8 0, .int .u8 0, .slice none 0 0] 40)).trans (b6'.mono (b5.alloc b5.size (.cells #[.int .u8 0, .int .u8 0, .slice none 0 0] 40)).size); have bx6 := (Box.made w5 #[.int .u8 0, .int .u8 0, .slice none 0 0] 40).next b6'; have hg3 : W1.heap.size ≤ w5.heap.size := b5.size; have z0 := bx6.at_ 0 _ rfl; have z1 := bx6.at_ 1 _ rfl; have z2 := bx6.at_ 2 _ rfl; have f0 := bx6.fr 0; have f1 := bx6.fr 1; have f2 := bx6.fr 2))))
          all_goals
            go_wp2_with fail
            go_meet
          all_goals first | exact ⟨_, a6, n6, c6, rfl, Box.made w6 #[.int .u8 8, .int .u8 id, .slice a6 n6 c6] _, b6.alloc b6.size _, ((HSX.out.next b6).push (own_nums o6)).next ((Below.refl _ _).alloc (Nat.le_refl _) _)⟩ | exact ⟨_, a6, n6, c6, rfl, ((bx6.set 0 _).set 1 _).set 2 _, ((b6.setCell hg3 _).setCell hg3 _).setCell hg3 _, HSX.out.retN b6 (own_nums o6) (fun b o s hb => by first | (have h1 := own_from o6 b o s hb; have h2 := bx5.lt; omega) | (have h1 := own_from o6 b o s hb; rw [World.size_alloc] at h1; omega)) hg3 (set3 _ _ _ _ _)⟩
        case rest =>
          obtain ⟨g2, ab, nb, cb, rfl, KY, BY, SY⟩ := hcut
          obtain ⟨W2, hW2⟩ : ∃ W2 : World, W2 = wc := ⟨_, rfl⟩
          rw [← hW2] at KY BY SY
          have kx := HKX.out.next BY
          have z0 := keep_cell BY y0
          have z1 := keep_cell BY y1
          have z2 := keep_cell BY y2
          have z3 := keep_cell BY y3
          have z4 := keep_cell BY y4
          have z5 := keep_cell BY y5
          have z6 := kx.at_ 0 _ rfl
          have z7 := kx.at_ 1 _ rfl
          have z8 := kx.at_ 2 _ rfl
          have z9 := KY.at_ 0 _ rfl
          have z10 := KY.at_ 1 _ rfl
          have z11 := KY.at_ 2 _ rfl
          have S2 := hid (st_base SY)
          have BF := hid ((B0.out.trans (BW.out.mono B0.out.size)).trans (BY.mono (Nat.le_trans B0.out.size BW.out.size)))
          have hroom := HM.out
          subst hroom
          clear KY BY SY kx y0 y1 y2 y3 y4 y5 HKX HSX RP HNL2 HW1
          go_upto_region 8 with fail
          rw [← hW2]
          clear hW2
          go_cut [66] (fun v wx => v = .bool false ∧ Hid (Below W2.heap.size W2 wx))
          case first =>
            have SM : Hid (∀ w' : World, Below W2.heap.size W2 w' → w'.cell? ⟨w.heap.size, 0, none⟩ = some (.int .u8 id) ∧ w'.cell? ⟨w.heap.size, 1, none⟩ = some (.int .u8 x) ∧ w'.cell? ⟨w.heap.size, 2, none⟩ = some (.int .u8 y) ∧ w'.cell? ⟨w.heap.size, 3, none⟩ = some (.slice a n c) ∧ w'.cell? ⟨w.heap.size, 4, none⟩ = some (.int .u16 p) ∧ w'.cell? ⟨w.heap.size, 5, none⟩ = some (.int .i64 most) ∧ w'.cell? ⟨g1, 0, none⟩ = some (.int .u8 7) ∧ w'.cell? ⟨g1, 1, none⟩ = some (.int .u8 id) ∧ w'.cell? ⟨g1, 2, none⟩ = some (.slice aa na ca) ∧ w'.cell? ⟨g2, 0, none⟩ = some (.int .u8 8) ∧ w'.cell? ⟨g2, 1, none⟩ = some (.int .u8 id) ∧ w'.cell? ⟨g2, 2, none⟩ = some (.slice ab nb cb)) := fun W hb => ⟨keep_cell hb z0, keep_cell hb z1, keep_cell hb z2, keep_cell hb z3, keep_cell hb z4, keep_cell hb z5, keep_cell hb z6, keep_cell hb z7, keep_cell hb z8, keep_cell hb z9, keep_cell hb z10, keep_cell hb z11⟩
            have d0 : Below W2.heap.size W2 W2.drew := (Below.refl _ _).drew
            have hn6 : n ≤ 60000 := by omega
            go_region_held3 (fun w' => w'.cell? ⟨w.heap.size, 0, none⟩ = some (.int .u8 id) ∧ w'.cell? ⟨w.heap.size, 1, none⟩ = some (.int .u8 x) ∧ w'.cell? ⟨w.heap.size, 2, none⟩ = some (.int .u8 y) ∧ w'.cell? ⟨w.heap.size, 3, none⟩ = some (.slice a n c) ∧ w'.cell? ⟨w.heap.size, 4, none⟩ = some (.int .u16 p) ∧ w'.cell? ⟨w.heap.size, 5, none⟩ = some (.int .i64 most) ∧ w'.cell? ⟨g1, 0, none⟩ = some (.int .u8 7) ∧ w'.cell? ⟨g1, 1, none⟩ = some (.int .u8 id) ∧ w'.cell? ⟨g1, 2, none⟩ = some (.slice aa na ca) ∧ w'.cell? ⟨g2, 0, none⟩ = some (.int .u8 8) ∧ w'.cell? ⟨g2, 1, none⟩ = some (.int .u8 id) ∧ w'.cell? ⟨g2, 2, none⟩ = some (.slice ab nb cb)) (first | exact SM.out _ d0 | exact SM.out _ s7.below | exact SM.out _ s6.below | exact SM.out _ s5.below | exact SM.out _ s4.below) ((first | (go_at_call 16; ((with_reducible refine (reject_any (S2.out.next d0) m2 hn6 id x y most hm.2).mono ?_); rintro e w4 ⟨a4, n4, c4, rfl, s4⟩)) | (go_at_call 15; ((with_reducible refine (same_st s4 m0 m2 7 id).mono ?_); rintro e w5 ⟨rfl, s5⟩)) | (go_at_call 17; ((with_reducible refine (rejproto_any s5 m3 hn6 id p most hp hm.2).mono ?_); rintro e w6 ⟨a6, n6, c6, rfl, s6⟩)) | (go_at_call 15; ((with_reducible refine (same_st s6 m0 m2 8 id).mono ?_); rintro e w7 ⟨rfl, s7⟩))))
            all_goals
              go_wp2_with fail
              go_meet
              exact ⟨rfl, hid s7.below⟩
          case rest =>
            obtain ⟨rfl, HC⟩ := hcut
            have BF2 := hid (BF.out.trans (HC.out.mono (BF.out.size)))
            clear S2 z0 z1 z2 z3 z4 z5 z6 z7 z8 z9 z10 z11 HC
            have AL := hid (alive_st (St.start wc))
            rcases (show (0 < a1 ∧ a1 ≤ a2) ∨ (0 < a1 ∧ ¬ a1 ≤ a2) ∨ ¬ 0 < a1 by omega) with ⟨h1, h2⟩ | ⟨h1, h2⟩ | h1
            · have KN := hid (fun W => known_is W a1 a2 true (by unfold knownB; simp; omega))
              go_wp2_with (first | (go_at_call 18; ((with_reducible refine (KN.out _).mono ?_); rintro e w8 ⟨rfl, rfl⟩)) | (go_at_call 19; ((with_reducible refine AL.out.mono ?_); rintro e w9 ⟨rfl, s9⟩)))
              go_ret
              exact ⟨(by first | rfl | exact ret_bool (by simpa using h2)), BF2.out.trans (s9.below.mono BF2.out.size)⟩
            · have KN := hid (fun W => known_is W a1 a2 false (by unfold knownB; simp; omega))
              go_wp2_with (first | (go_at_call 18; ((with_reducible refine (KN.out _).mono ?_); rintro e w8 ⟨rfl, rfl⟩)) | (go_at_call 19; ((with_reducible refine AL.out.mono ?_); rintro e w9 ⟨rfl, s9⟩)))
              go_ret
              exact ⟨(by first | rfl | exact ret_bool (by simpa using h2)), BF2.out.trans (s9.below.mono BF2.out.size)⟩
            · have KN := hid (fun W => known_is W a1 a2 false (by unfold knownB; simp; omega))
              go_wp2_with (first | (go_at_call 18; ((with_reducible refine (KN.out _).mono ?_); rintro e w8 ⟨rfl, rfl⟩)) | (go_at_call 19; ((with_reducible refine AL.out.mono ?_); rintro e w9 ⟨rfl, s9⟩)))
              go_ret
              exact ⟨(by first | rfl | exact ret_bool (by simpa using h2)), BF2.out.trans (s9.below.mono BF2.out.size)⟩
set_option maxRecDepth 100000 in
theorem lifted (os : Os) (started : os.Started) (H : Type) (enc : TypeId × Value → H) :
    ReturnsInHanded {} Try.checked os 4 .any (Rows.cpRejectsSpec.pre6 enc Try.prog Try.f4 Rows.cpRejectsRow.domain false) (Rows.cpRejectsSpec.post enc Try.prog Try.f4 false true false false) := by
  refine returnsInHanded_of_change (C := Try.checked) own started (by kernel_rfl) Try.func4
    (ChangeSpec.witness6 (enc := enc) (C := Try.checked) false ⟨#[], #[.agg #[.int .u8 0, .int .u8 0, .int .u8 0, .slice none 0 0, .int .u16 0, .int .i64 0], .int .u8 0, .int .u8 0], []⟩ 8 (by kernel_rfl) (by kernel_rfl) (by kernel_rfl) (by kernel_rfl)) ?_
  intro W base args ds gs before hval0 hW hcnd _
  have hval : ∀ (j : Nat) t v, Try.f4.params[j]? = some t → args[j]? = some v → Value.okWide Try.prog W .any base t v := hval0
  have hW' := hW
  obtain ⟨p, q, hA0, hV, rfl, hfz, hnd⟩ := hW
  have hA : DataW.TrodAll enc Try.prog W 0 (fun _ => true) true Try.f4.params.toList args.toList ds p := hA0
  rw [Try.params4] at hA hval
  obtain ⟨v0, vs0, d0, ds0, p0, q0, hargs, rfl, rfl, h0, r0⟩ := trodAll_cons hA
  obtain ⟨v1, vs1, d1, ds1, p1, q1, rfl, rfl, rfl, h1, r1⟩ := trodAll_cons r0
  obtain ⟨v2, vs2, d2, ds2, p2, q2, rfl, rfl, rfl, h2, r2⟩ := trodAll_cons r1
  obtain ⟨rfl, rfl, rfl⟩ := trodAll_nil r2
  obtain rfl : args = #[v0, v1, v2] := by cases args; simp_all
  obtain ⟨rfl, rfl⟩ := trodVars_none hV
  have k0 := h0
  have o0 := hval 0 43 v0 rfl rfl
  have lt0 : ∀ x ∈ p0, x.block < W.heap.size := by obtain ⟨m, hm⟩ := k0; exact DataW.trod_lt m _ _ _ hm
  obtain ⟨a1, rfl, rfl, rfl, w1⟩ := open_int Try.underlying5 (hval 1 5 v1 rfl rfl) h1
  obtain ⟨a2, rfl, rfl, rfl, w2⟩ := open_int Try.underlying5 (hval 2 5 v2 rfl rfl) h2
  clear hA0 hval0
  refine (walk (H := H) (enc := enc) (base := base) v0 d0 p0 a1 a2 W k0 o0 w1 w2).mono fun e W' ⟨he, bel⟩ => ?_
  subst he
  exact ⟨_, rfl, _, _, _, [], _, [], hW', trodAll_mk1 (shut_bool Try.underlying4 _), (trodAll_cons_mk (Below.trod laidOut (by kernel_rfl) (of_decide_eq_true (by kernel_rfl)) k0 bel lt0) (trodAll_cons_mk (shut_int Try.underlying5 w1) (trodAll_cons_mk (shut_int Try.underlying5 w2) trodAll_mk0))), rfl, bel.frame _, fun h => by cases h⟩

theorem over : Rows.cpRejectsRow.holds Try.pinned (OpenSpec.ofChange Rows.cpRejectsSpec) :=
  OpenClaim.holds_of_wide 4 Try.f4 rfl rfl rfl rfl rfl rfl rfl ⟨rfl, rfl, rfl, rfl, rfl⟩ rfl rfl rfl rfl rfl (by kernel_rfl) Try.func4 (by kernel_rfl)
    (of_decide_eq_true (by kernel_rfl)) (by unfold Func.isWrapper; first | (rw [if_pos (by decide +kernel)]; kernel_rfl) | (rw [if_neg (by decide +kernel)]; exact ⟨rfl, rfl⟩))
    (fun os started H enc _ => lifted os started H enc)

/-- the statement -/
theorem proved : Rows.CpRejectsSaid := over
end Go.Proofs.Ytlfcjfmfkmcmiab.cpRejects
