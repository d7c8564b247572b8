/- catwalk's catwalklaw01.BeReads answers true at every input, and leaves its arguments as they were. No condition. -/
import Derived.Test.YtecppfdfdabflaaRows
import Derived.WalkKit
import Derived.ProofKit
import Derived.OpenShut
import Derived.ShutString
import Derived.ChangeOld
import Derived.Below
import Derived.Test.YtecppfdfdabflaaBeStep
import Derived.Test.YtecppfdfdabflaaOpen
import Derived.Test.YtecppfdfdabflaaRegion
import Derived.Deep.DeepCutAuto
namespace Go.Proofs.Ytecppfdfdabflaa.beReads
open Go.ChangeShapes Go.WideShapes Go.ChangeAt Go.RowKit
open Go.ChangeMaps (open_string shut_string)
set_option linter.unusedVariables false

theorem own : ownKnob Try.prog.godebug = none := by kernel_rfl
theorem laidOut : laidOutB Try.prog = true := by kernel_rfl

open Go.Proofs.Ytecppfdfdabflaa.kit Go.Proofs.Ytecppfdfdabflaa.bec

/-- both readers stand alike -/
structure Both (W : World) (g1 D1 g2 D2 B : Nat) (bad : Bool) (l : List Int) : Prop where
  r : RdrAt W g1 D1 bad l
  d : RdrAt W g2 D2 bad l
  ne : g1 ≠ g2
  e1 : D1 ≤ g2
  e2 : D2 ≤ g1
  b1 : B ≤ g1
  b2 : B ≤ g2
  byt : Byt l
  len : l.length ≤ 1000
theorem Both.below {W W' : World} {g1 D1 g2 D2 B : Nat} {bad : Bool} {l : List Int} (h : Both W g1 D1 g2 D2 B bad l) (hb : Below W.heap.size W W') : Both W' g1 D1 g2 D2 B bad l :=
  ⟨h.r.below hb h.r.lt, h.d.below hb h.d.lt, h.ne, h.e1, h.e2, h.b1, h.b2, h.byt, h.len⟩
theorem leftN_byt {bad : Bool} {l : List Int} {m : Int} (h : Byt l) (hl : l.length ≤ 1000) : Byt (leftN bad l m) ∧ (leftN bad l m).length ≤ 1000 := by
  unfold leftN; split
  · exact ⟨h.drop _, by rw [List.length_drop]; omega⟩
  · exact ⟨h, hl⟩
theorem leftR_byt {bad : Bool} {l : List Int} {m : Int} (h : Byt l) (hl : l.length ≤ 1000) : Byt (leftR bad l m) ∧ (leftR bad l m).length ≤ 1000 := by
  unfold leftR; split
  · exact ⟨h.drop _, by rw [List.length_drop]; omega⟩
  · exact ⟨h, hl⟩
/-- both have turned alike -/
theorem Both.turn {W W1 W2 : World} {g1 D1 g2 D2 B : Nat} {bad bad' : Bool} {l l' : List Int} (h : Both W g1 D1 g2 D2 B bad l) (r1 : RdrAt W1 g1 D1 bad' l') (t1 : W.grownBy W1 (some g1)) (r2 : RdrAt W2 g2 D2 bad' l') (t2 : W1.grownBy W2 (some g2))
    (hb : Byt l' ∧ l'.length ≤ 1000) : Both W2 g1 D1 g2 D2 B bad' l' ∧ Below B W W2 := by
  have k1 := h.r.lt
  have k2 := h.d.lt
  have k3 := h.b1
  have k4 := h.b2
  refine ⟨⟨r1.other t2 (fun e => h.ne e.symm) h.e1, r2, h.ne, h.e1, h.e2, h.b1, h.b2, hb.1, hb.2⟩, gb_below (gb_below (Below.refl _ _) t1 (by omega) (by omega)) t2 (by have := t1.size; omega) (by omega)⟩
theorem Both.turn' {W W1 W2 : World} {g1 D1 g2 D2 B : Nat} {bad bad' : Bool} {l l' : List Int} (h : Both W g1 D1 g2 D2 B bad l) (r2 : RdrAt W1 g2 D2 bad' l') (t2 : W.grownBy W1 (some g2)) (r1 : RdrAt W2 g1 D1 bad' l') (t1 : W1.grownBy W2 (some g1))
    (hb : Byt l' ∧ l'.length ≤ 1000) : Both W2 g1 D1 g2 D2 B bad' l' ∧ Below B W W2 := by
  have k1 := h.r.lt
  have k2 := h.d.lt
  have k3 := h.b1
  have k4 := h.b2
  refine ⟨⟨r1, r2.other t1 h.ne h.e2, h.ne, h.e1, h.e2, h.b1, h.b2, hb.1, hb.2⟩, gb_below (gb_below (Below.refl _ _) t2 (by omega) (by omega)) t1 (by have := t2.size; omega) (by omega)⟩

def StepPost (g1 D1 g2 D2 B : Nat) (W : World) (e : Ending) (W' : World) : Prop := e = .returned (.bool true) ∧ ∃ bad' l', Both W' g1 D1 g2 D2 B bad' l' ∧ Below B W W'
theorem step_end {g1 D1 g2 D2 B : Nat} {W W1 W2 : World} {bad' : Bool} {l' : List Int} (hB : B ≤ W.heap.size) {o : Obj} (h1 : W1 = W.alloc o) (h : Both W2 g1 D1 g2 D2 B bad' l' ∧ Below B W1 W2) : StepPost g1 D1 g2 D2 B W (.returned (.bool true)) W2 := by
  subst h1
  exact ⟨rfl, bad', l', h.1, ((Below.refl _ _).alloc hB _).trans h.2⟩

theorem Both.drew {W : World} {g1 D1 g2 D2 B : Nat} {bad : Bool} {l : List Int} (h : Both W g1 D1 g2 D2 B bad l) : Both W.drew g1 D1 g2 D2 B bad l := h.below (Below.refl _ _).drew
theorem vb1 {bad : Bool} {l : List Int} (h : Byt l) : 0 ≤ valN bad l 1 ∧ valN bad l 1 ≤ 255 := by
  have hv : 0 ≤ valN bad l 1 ∧ valN bad l 1 < 256 ^ 1 := valN_bd bad l h 1
  simp only [Int.reducePow] at hv; omega
theorem vb2 {bad : Bool} {l : List Int} (h : Byt l) : 0 ≤ valN bad l 2 ∧ valN bad l 2 ≤ 65535 := by
  have hv : 0 ≤ valN bad l 2 ∧ valN bad l 2 < 256 ^ 2 := valN_bd bad l h 2
  simp only [Int.reducePow] at hv; omega
theorem vb4 {bad : Bool} {l : List Int} (h : Byt l) : 0 ≤ valN bad l 4 ∧ valN bad l 4 ≤ 4294967295 := by
  have hv : 0 ≤ valN bad l 4 ∧ valN bad l 4 < 256 ^ 4 := valN_bd bad l h 4
  simp only [Int.reducePow] at hv; omega

abbrev bx (W : World) (kd n : Int) : World := W.alloc (.cells #[.int .i64 kd, .int .i64 n] 45)

set_option maxHeartbeats 2000000 in
theorem step_0 (W : World) (g1 D1 g2 D2 B : Nat) (bad : Bool) (l : List Int) (kd n : Int) (hB : B ≤ W.heap.size) (h : Both (bx W kd n) g1 D1 g2 D2 B bad l) (hg1 : W.heap.size ≠ g1) (hg2 : W.heap.size ≠ g2) (c0 : (kd.tmod 6 == 0) = true) :
    Calls Try.prog 22 #[.pointer (some ⟨g1, 0, none⟩), .pointer (some ⟨g2, 0, none⟩), .agg #[.int .i64 kd, .int .i64 n]] W (StepPost g1 D1 g2 D2 B W) := by
  have H := hid h
  clear h
  go_enter Try.func22, Try.ntmps22
  go_wp2_with fail
  have hbx : (bx W kd n).cell? ⟨W.heap.size, 1, none⟩ = some (.int .i64 n) := by simp [go_sem]
  go_region_held3 (fun w' => w'.cell? ⟨W.heap.size, 1, none⟩ = some (.int .i64 n)) (first | exact hbx | exact s2 | exact s1 | go_keep) (first | (go_at_call 25; go_loud (refine (num_any _ g1 D1 bad l n H.out.drew.r H.out.byt).mono ?_); go_loud (rintro e w1 ⟨x, rfl, rfl, r1, t1⟩; have s1 : w1.cell? ⟨W.heap.size, 1, none⟩ = some (.int .i64 n) := gb_cell t1 hbx (by simpa using hg1); have d1 := H.out.drew.d.other t1 H.out.ne H.out.e2)) | (go_at_call 41; go_loud (refine (rnum_any _ g2 D2 bad l n d1 H.out.byt).mono ?_); go_loud (rintro e w2 ⟨y, rfl, rfl, r2, t2⟩; have s2 : w2.cell? ⟨W.heap.size, 1, none⟩ = some (.int .i64 n) := gb_cell t2 s1 (by simpa using hg2))))
  go_wp2_with fail
  go_ret
  have hh := H.out.drew.turn r1 t1 r2 t2 (leftN_byt H.out.byt H.out.len)
  exact ⟨rfl, _, _, hh.1, ((Below.refl _ _).alloc hB _).drew.trans hh.2⟩

set_option maxHeartbeats 2000000 in
theorem step_1 (W : World) (g1 D1 g2 D2 B : Nat) (bad : Bool) (l : List Int) (kd n : Int) (hB : B ≤ W.heap.size) (h : Both (bx W kd n) g1 D1 g2 D2 B bad l) (c0 : (kd.tmod 6 == 0) = false) (c1 : (kd.tmod 6 == 1) = true) :
    Calls Try.prog 22 #[.pointer (some ⟨g1, 0, none⟩), .pointer (some ⟨g2, 0, none⟩), .agg #[.int .i64 kd, .int .i64 n]] W (StepPost g1 D1 g2 D2 B W) := by
  have H := hid h
  have hv := vb1 (bad := bad) h.byt
  clear h
  go_enter Try.func22, Try.ntmps22
  go_wp2_with (first | (go_at_call 42; go_loud (refine (u8_any _ g1 D1 bad l H.out.r H.out.byt).mono ?_); go_loud (rintro e w1 ⟨x, rfl, rfl, r1, t1⟩; have d1 := H.out.d.other t1 H.out.ne H.out.e2)) | (go_at_call 41; go_loud (refine (rnum_any _ g2 D2 bad l 1 d1 H.out.byt).mono ?_); go_loud (rintro e w2 ⟨y, rfl, rfl, r2, t2⟩)))
  go_ret
  have hh := H.out.turn r1 t1 r2 t2 (leftN_byt H.out.byt H.out.len)
  exact ⟨rfl, _, _, hh.1, ((Below.refl _ _).alloc hB _).trans hh.2⟩

set_option maxHeartbeats 2000000 in
theorem step_2 (W : World) (g1 D1 g2 D2 B : Nat) (bad : Bool) (l : List Int) (kd n : Int) (hB : B ≤ W.heap.size) (h : Both (bx W kd n) g1 D1 g2 D2 B bad l) (c0 : (kd.tmod 6 == 0) = false) (c1 : (kd.tmod 6 == 1) = false) (c2 : (kd.tmod 6 == 2) = true) :
    Calls Try.prog 22 #[.pointer (some ⟨g1, 0, none⟩), .pointer (some ⟨g2, 0, none⟩), .agg #[.int .i64 kd, .int .i64 n]] W (StepPost g1 D1 g2 D2 B W) := by
  have H := hid h
  have hv := vb2 (bad := bad) h.byt
  have hw : IntKind.u64.wrap (valN bad l 2) = valN bad l 2 := IntWalk.u64_in _ (by omega)
  clear h
  go_enter Try.func22, Try.ntmps22
  go_wp2_with (first | (go_at_call 39; go_loud (refine (u16_any _ g1 D1 bad l H.out.r H.out.byt).mono ?_); go_loud (rintro e w1 ⟨x, rfl, rfl, r1, t1⟩; have d1 := H.out.d.other t1 H.out.ne H.out.e2)) | (go_at_call 41; go_loud (refine (rnum_any _ g2 D2 bad l 2 d1 H.out.byt).mono ?_); go_loud (rintro e w2 ⟨y, rfl, rfl, r2, t2⟩)))
  go_ret
  have hh := H.out.turn r1 t1 r2 t2 (leftN_byt H.out.byt H.out.len)
  exact ⟨rfl, _, _, hh.1, ((Below.refl _ _).alloc hB _).trans hh.2⟩

set_option maxHeartbeats 2000000 in
theorem step_3 (W : World) (g1 D1 g2 D2 B : Nat) (bad : Bool) (l : List Int) (kd n : Int) (hB : B ≤ W.heap.size) (h : Both (bx W kd n) g1 D1 g2 D2 B bad l) (c0 : (kd.tmod 6 == 0) = false) (c1 : (kd.tmod 6 == 1) = false) (c2 : (kd.tmod 6 == 2) = false) (c3 : (kd.tmod 6 == 3) = true) :
    Calls Try.prog 22 #[.pointer (some ⟨g1, 0, none⟩), .pointer (some ⟨g2, 0, none⟩), .agg #[.int .i64 kd, .int .i64 n]] W (StepPost g1 D1 g2 D2 B W) := by
  have H := hid h
  have hv := vb4 (bad := bad) h.byt
  clear h
  go_enter Try.func22, Try.ntmps22
  go_wp2_with (first | (go_at_call 40; go_loud (refine (u32_any _ g1 D1 bad l H.out.r H.out.byt).mono ?_); go_loud (rintro e w1 ⟨x, rfl, rfl, r1, t1⟩; have d1 := H.out.d.other t1 H.out.ne H.out.e2)) | (go_at_call 41; go_loud (refine (rnum_any _ g2 D2 bad l 4 d1 H.out.byt).mono ?_); go_loud (rintro e w2 ⟨y, rfl, rfl, r2, t2⟩)))
  go_ret
  have hh := H.out.turn r1 t1 r2 t2 (leftN_byt H.out.byt H.out.len)
  exact ⟨rfl, _, _, hh.1, ((Below.refl _ _).alloc hB _).trans hh.2⟩

/-- what both took is alike -/
theorem took {w1 w2 : World} {g1 D1 g2 D2 : Nat} {a n c} {L : List Int} (hN : Nums .u8 w1 D2 a n c L) (t : w1.grownBy w2 (some g1)) (hD : D2 ≤ g1) (hg : g1 < w1.heap.size) : Nums .u8 w2 D2 a n c L :=
  hN.below (gb_below (Below.refl _ _) t (by omega) hD)

set_option maxHeartbeats 2000000 in
theorem step_4 (W : World) (g1 D1 g2 D2 B : Nat) (bad : Bool) (l : List Int) (kd n : Int) (hB : B ≤ W.heap.size) (h : Both (bx W kd n) g1 D1 g2 D2 B bad l) (hg1 : W.heap.size ≠ g1) (hg2 : W.heap.size ≠ g2) (c0 : (kd.tmod 6 == 0) = false) (c1 : (kd.tmod 6 == 1) = false) (c2 : (kd.tmod 6 == 2) = false) (c3 : (kd.tmod 6 == 3) = false) (c4 : (kd.tmod 6 == 4) = true) :
    Calls Try.prog 22 #[.pointer (some ⟨g1, 0, none⟩), .pointer (some ⟨g2, 0, none⟩), .agg #[.int .i64 kd, .int .i64 n]] W (StepPost g1 D1 g2 D2 B W) := by
  have H := hid h
  clear h
  have hbx : (bx W kd n).cell? ⟨W.heap.size, 1, none⟩ = some (.int .i64 n) := by simp [go_sem]
  have HX := hid hbx
  clear hbx
  go_enter Try.func22, Try.ntmps22
  go_wp2_with (first | (go_at_call 43; go_loud (refine (rtake_any _ g2 D2 bad l n H.out.d).mono ?_); go_loud (rintro e w1 ⟨v, rfl, a2, n2, k2, rfl, b2, r2, t2⟩; have s1 : w1.cell? ⟨W.heap.size, 1, none⟩ = some (.int .i64 n) := gb_cell t2 HX.out (by simpa using hg2); have d1 := H.out.r.other t2 (fun e => H.out.ne e.symm) H.out.e1)) | (go_at_call 44; go_loud (refine (take_any _ g1 D1 bad l n d1 (by have := H.out.len; omega)).mono ?_); go_loud (rintro e w2 ⟨v, rfl, a1, n1, k1, rfl, b1, r1, t1⟩; have b3 := took (D1 := D1) (g2 := g2) b2 t1 H.out.e2 d1.lt; have b4 := own_nums b1)) | (go_at_call 10; go_loud (refine (equal_same _ b4 b3 rfl).mono ?_); go_loud (rintro e w3 ⟨rfl, m, rfl⟩)))
  go_ret
  have hh := H.out.turn' r2 t2 r1 t1 (leftR_byt H.out.byt H.out.len)
  have hd : Below w2.heap.size w2 (w2.drewN m) := below_drewN (Below.refl _ _) m
  exact ⟨rfl, _, _, hh.1.below hd, (((Below.refl _ _).alloc hB _).trans hh.2).trans (hd.mono (by have := hh.1.b1; have := hh.1.r.lt; omega))⟩

set_option maxHeartbeats 2000000 in
theorem step_5 (W : World) (g1 D1 g2 D2 B : Nat) (bad : Bool) (l : List Int) (kd n : Int) (hB : B ≤ W.heap.size) (h : Both (bx W kd n) g1 D1 g2 D2 B bad l) (c0 : (kd.tmod 6 == 0) = false) (c1 : (kd.tmod 6 == 1) = false) (c2 : (kd.tmod 6 == 2) = false) (c3 : (kd.tmod 6 == 3) = false) (c4 : (kd.tmod 6 == 4) = false) :
    Calls Try.prog 22 #[.pointer (some ⟨g1, 0, none⟩), .pointer (some ⟨g2, 0, none⟩), .agg #[.int .i64 kd, .int .i64 n]] W (StepPost g1 D1 g2 D2 B W) := by
  obtain ⟨a, nn, cap, hc, hN⟩ := h.d.left
  obtain rfl := hN.len
  have H := hid h
  clear h hN
  go_enter Try.func22, Try.ntmps22
  go_wp2_with (first | (go_at_call 43; go_loud (refine (rtake_any _ g2 D2 bad l l.length H.out.d).mono ?_); go_loud (rintro e w1 ⟨v, rfl, a2, n2, k2, rfl, b2, r2, t2⟩; have d1 := H.out.r.other t2 (fun e => H.out.ne e.symm) H.out.e1)) | (go_at_call 45; go_loud (refine (rest_any _ g1 D1 bad l d1 (by have := H.out.len; omega)).mono ?_); go_loud (rintro e w2 ⟨v, rfl, a1, n1, k1, rfl, b1, r1, t1⟩; have b3 := took (D1 := D1) (g2 := g2) b2 t1 H.out.e2 d1.lt; have b4 := own_nums b1)) | (go_at_call 10; go_loud (refine (equal_same _ b4 b3 rfl).mono ?_); go_loud (rintro e w3 ⟨rfl, m, rfl⟩)))
  go_ret
  have hh := H.out.turn' r2 t2 r1 t1 (leftR_byt H.out.byt H.out.len)
  have hd : Below w2.heap.size w2 (w2.drewN m) := below_drewN (Below.refl _ _) m
  exact ⟨rfl, _, _, hh.1.below hd, (((Below.refl _ _).alloc hB _).trans hh.2).trans (hd.mono (by have := hh.1.b1; have := hh.1.r.lt; omega))⟩

theorem step_any (W : World) (g1 D1 g2 D2 B : Nat) (bad : Bool) (l : List Int) (kd n : Int) (h : Both W g1 D1 g2 D2 B bad l) :
    Calls Try.prog 22 #[.pointer (some ⟨g1, 0, none⟩), .pointer (some ⟨g2, 0, none⟩), .agg #[.int .i64 kd, .int .i64 n]] W (StepPost g1 D1 g2 D2 B W) := by
  have hB : B ≤ W.heap.size := by have := h.b1; have := h.r.lt; omega
  have h1 : Both (bx W kd n) g1 D1 g2 D2 B bad l := h.below ((Below.refl _ _).alloc (Nat.le_refl _) _)
  have hg1 : W.heap.size ≠ g1 := by have := h.r.lt; omega
  have hg2 : W.heap.size ≠ g2 := by have := h.d.lt; omega
  cases c0 : (kd.tmod 6 == 0)
  · cases c1 : (kd.tmod 6 == 1)
    · cases c2 : (kd.tmod 6 == 2)
      · cases c3 : (kd.tmod 6 == 3)
        · cases c4 : (kd.tmod 6 == 4)
          · exact step_5 W g1 D1 g2 D2 B bad l kd n hB h1 c0 c1 c2 c3 c4
          · exact step_4 W g1 D1 g2 D2 B bad l kd n hB h1 hg1 hg2 c0 c1 c2 c3 c4
        · exact step_3 W g1 D1 g2 D2 B bad l kd n hB h1 c0 c1 c2 c3
      · exact step_2 W g1 D1 g2 D2 B bad l kd n hB h1 c0 c1 c2
    · exact step_1 W g1 D1 g2 D2 B bad l kd n hB h1 c0 c1
  · exact step_0 W g1 D1 g2 D2 B bad l kd n hB h1 hg1 hg2 c0
theorem made_at {w : World} {D : Nat} {a : Option Addr} {n cap : Nat} {e : TypeId} {l : List Int} (h : Nums .u8 w D a n cap l) (hD : D ≤ w.heap.size) :
    RdrAt (w.alloc (.cells #[.slice a n cap, .bool false] e)) w.heap.size D false l :=
  ⟨⟨a, n, cap, by simp [go_sem], h.below ((Below.refl _ _).alloc hD _)⟩, by simp [go_sem], by simp [go_sem], by simp [go_sem], by simp, hD⟩
theorem both_start {w w1 : World} {a a1 : Option Addr} {n c n1 c1 : Nat} {e e1 : TypeId} {l : List Int} (hN : Nums .u8 w w.heap.size a n c l) (hb : Below w.heap.size w w1) (h1 : Nums .u8 w1 w1.heap.size a1 n1 c1 l) (hB : Byt l) (hl : l.length ≤ 1000) :
    Both ((w1.alloc (.cells #[.slice a1 n1 c1, .bool false] e1)).alloc (.cells #[.slice a n c, .bool false] e)) w1.heap.size w1.heap.size (w1.heap.size + 1) w.heap.size w.heap.size false l := by
  have hs := hb.size
  have r := made_at (e := e1) h1 (Nat.le_refl _)
  have hb2 : Below w.heap.size w (w1.alloc (.cells #[.slice a1 n1 c1, .bool false] e1)) := hb.alloc hs _
  have d := made_at (e := e) (hN.below hb2) (by simp; omega)
  have e2 : (w1.alloc (.cells #[.slice a1 n1 c1, .bool false] e1)).heap.size = w1.heap.size + 1 := by simp
  rw [e2] at d
  exact ⟨r.below (B := w1.heap.size + 1) ((Below.refl _ _).alloc (by simp) _) (by omega), d, by omega, by omega, by omega, by omega, by omega, hB, hl⟩
theorem left_n (w : World) (g D : Nat) (bad : Bool) (l : List Int) (n : Nat) (h : RdrAt w g D bad l) (hn : l.length = n) :
    Calls Try.prog 23 #[.pointer (some ⟨g, 0, none⟩)] w fun e w' => e = .returned (.int .i64 n) ∧ w = w' := by
  subst hn; exact left_any w g D bad l h

set_option maxHeartbeats 1000000 in
/-- the walk: true, and nothing that was there has turned -/
theorem walk {H : Type} {enc : TypeId × Value → H} {base : Nat} (v0 : Value) (d0 : DataW H) (p0 : List MemPlace) (v1 : Value) (d1 : DataW H) (p1 : List MemPlace) (w : World) (w0 : DataW.Trod enc Try.prog w 0 (fun _ => true) true 22 v0 d0 p0) (o0 : Value.okWide Try.prog w .any base 22 v0) (w1 : DataW.Trod enc Try.prog w 0 (fun _ => true) true 37 v1 d1 p1) (o1 : Value.okWide Try.prog w .any base 37 v1) :
    Calls Try.prog 4 #[v0, v1] w fun e w' => e = .returned (.bool true) ∧ Below w.heap.size w w' := by
  obtain ⟨a0, len0, cap0, rfl⟩ := okWide_slice Try.underlying22 o0
  obtain ⟨a1, len1, cap1, rfl⟩ := okWide_slice Try.underlying37 o1
  obtain ⟨l, hN, hwf⟩ := open_nums Try.underlying22 Try.underlying5 (by kernel_rfl) w0
  obtain ⟨ho1, ho2, _, ho4⟩ := slice_cells Try.underlying37 (C := 2) (by kernel_rfl) (by decide) w1
  have hops : ∀ i, i < len1 → ∃ b off kd n, a1 = some ⟨b, off, none⟩ ∧ b < w.heap.size ∧ w.cell? ⟨b, off + (i * 2 + 0), none⟩ = some (.int .i64 kd) ∧ w.cell? ⟨b, off + (i * 2 + 1), none⟩ = some (.int .i64 n) := by
    intro i hi
    obtain ⟨b, off, ha, hb, hc⟩ := ho4 (by omega)
    obtain ⟨cs, n, y, hl, hcell, hy⟩ := hc i hi
    obtain ⟨kd, h1, _⟩ := field_int Try.underlying45 hy 0 _ rfl Try.underlying3 (by kernel_rfl)
    obtain ⟨nn, h2, _⟩ := field_int Try.underlying45 hy 1 _ rfl Try.underlying3 (by kernel_rfl)
    exact ⟨b, off, kd, nn, ha, hb, (hcell 0 (by decide)).trans h1, (hcell 1 (by decide)).trans h2⟩
  have hB : Byt l := fun x hx => wf_u8 (hwf x hx)
  have hle := hN.le
  have hmx := hN.max
  unfold maxLen at hmx ho2
  clear w0 w1 o0 o1 hwf ho4
  by_cases hbig : 1000 < len0 ∨ 50 < len1
  · clear hN hB hops
    rcases hbig with hbig | hbig
    · go_enter Try.func4, Try.ntmps4
      go_wp2
      go_ret
      exact ⟨rfl, Below.refl _ _⟩
    · by_cases h0 : 1000 < len0
      all_goals
        go_enter Try.func4, Try.ntmps4
        go_wp2
        go_ret
        exact ⟨rfl, Below.refl _ _⟩
  · have hs0 : ¬ 1000 < len0 := fun h => hbig (.inl h)
    have hs1 : ¬ 50 < len1 := fun h => hbig (.inr h)
    have hlen : l.length ≤ 1000 := by have := hN.len; omega
    have HN := hid hN
    have HB := hid hB
    have HO := hid hops
    have HL := hid hlen
    clear hN hB hops hbig hlen
    go_enter Try.func4, Try.ntmps4
    go_wp2_with (first | (go_at_call 12; go_loud (refine (clone_any (B := w.heap.size) (l := l) _ HN.out (by omega) (Nat.le_refl _)).mono ?_); go_loud (rintro e wa ⟨aa, ca, rfl, h1, hb1⟩)) | (go_at_call 21; refine (new_any _ _ _ _).mono ?_; rintro e w1 ⟨rfl, rfl⟩))
    have hR := both_start (e := 42) (e1 := 75) HN.out hb1 (own_nums h1) HB.out HL.out
    have hb2 : Below w.heap.size w ((wa.alloc (.cells #[.slice aa len0 ca, .bool false] 75)).alloc (.cells #[.slice a0 len0 cap0, .bool false] 42)) := (hb1.alloc hb1.size _).alloc (by have := hb1.size; simp; omega) _
    clear h1 HN HB HL
    go_loopw [7] (fun iv wr => ∃ k : Nat, k ≤ len1 ∧ iv = .int .i64 k ∧ ∃ bad L, Both wr wa.heap.size wa.heap.size (wa.heap.size + 1) w.heap.size w.heap.size bad L ∧ Below w.heap.size w wr) (fun iv _ => len1 - (intOf iv).toNat)
    case atStart => exact ⟨0, Nat.zero_le _, rfl, false, l, hR, hb2⟩
    case round =>
      clear hR hb2
      obtain ⟨k, hk, rfl, bad, L, hR, hb⟩ := hrel
      have HR := hid hR
      clear hR
      by_cases hlt : k < len1
      · obtain ⟨b, off, kd, n, ha, hbw, hc0, hc1⟩ := HO.out k hlt
        subst ha
        have hx0 := (hb.cell (p := ⟨b, off + (k * 2 + 0), none⟩) hbw).trans hc0
        have hx1 := (hb.cell (p := ⟨b, off + (k * 2 + 1), none⟩) hbw).trans hc1
        have y0 : wr.cell? ⟨b, off + k * 2, none⟩ = some (.int .i64 kd) := hx0
        have y1 : wr.cell? ⟨b, off + k * 2 + 1, none⟩ = some (.int .i64 n) := hx1
        clear hc0 hc1 HO hx0 hx1
        go_upto_region 9 with fail
        go_cut [56] (fun s wx => s = .bool false ∧ ∃ bad L, Both wx wa.heap.size wa.heap.size (wa.heap.size + 1) w.heap.size w.heap.size bad L ∧ Below w.heap.size w wx)
        case first =>
          refine wp_region_any (by kernel_rfl) ?_
          change wpAny _ _ _ _ _ _ _ (World.drew _)
          refine wpAny_take (i := 0) (v := ?_) rfl (by kernel_rfl) (by kernel_rfl) (by kernel_rfl) (fun _ _ _ h => h) (Or.inl ⟨by rfl, by intro w; go_simp; with_reducible rfl⟩) ?_
          refine wpAny_take (i := 1) (v := ?_) rfl (by kernel_rfl) (by kernel_rfl) (by kernel_rfl) (fun _ _ _ h => h) (Or.inl ⟨by rfl, by intro w; go_simp; with_reducible rfl⟩) ?_
          refine wpAny_take (i := 2) (v := ?_) rfl (by kernel_rfl) (by kernel_rfl) (by kernel_rfl) (fun _ _ _ h => h) (Or.inl ⟨by rfl, by intro w; go_simp; with_reducible rfl⟩) ?_
          refine wpAny_take (i := 3) (v := ?_) rfl (by kernel_rfl) (by kernel_rfl) (by kernel_rfl) (fun _ _ _ h => h) (Or.inl ⟨by rfl, by intro w; go_simp; with_reducible rfl⟩) ?_
          refine wpAny_take (i := 4) (v := ?_) rfl (by kernel_rfl) (by kernel_rfl) (by kernel_rfl) (fun _ _ _ h => h) (Or.inl ⟨by rfl, by intro w; go_simp; with_reducible rfl⟩) ?_
          refine wpAny_one (k := 5) (by kernel_rfl) rfl (fun K hK => ?_)
          go_simp
          refine hK _ _ ?_
          clear hK K
          refine wpAny_one (k := 6) (by kernel_rfl) rfl (fun K hK => ?_)
          go_simp
          go_wp2_with (go_at_call 22; go_loud (refine (step_any _ _ _ _ _ _ bad L kd n HR.out.drew).mono ?_); go_loud (rintro e wc ⟨rfl, bad2, L2, hR2, hb3⟩; obtain ⟨ax, nx, cx, hcx, hNx⟩ := hR2.d.left; have HLn := hid hNx.len; have hbx := hR2.d.isBad; have HR2 := hid hR2; clear hR2 hNx))
          refine wpAny_rest ?restL 7 20 (by kernel_rfl) ?restE ?restF (by kernel_rfl) ?restW
          case restE => simp only [List.drop_succ_cons, List.drop_zero]; rfl
          case restF => rfl
          case restW =>
            repeat (go_big_quiet_step ((first | (go_at_call 23; exact quiet_l (left_n _ _ _ _ _ _ (HR2.out.r.drewN _) HLn.out)) | (go_at_call 24; exact quiet_l (bad_any _ _ _ _ _ (HR2.out.r.drewN _))))))
            refine wpQuiet_nil ?_
            intro _ hw'
            obtain ⟨nq, hw''⟩ := hw'
            subst hw''
            go_wp2_with fail
            go_meet
            exact ⟨rfl, bad2, L2, HR2.out.below (below_drewN (Below.refl _ _) nq), hb.drew.trans (below_drewN hb3 nq)⟩
        case rest =>
          obtain ⟨rfl, bad2, L2, hR2, hb2⟩ := hcut
          have HR2 := hid hR2
          clear hR2
          go_wp2_with fail
          go_roundw
          case rel => exact ⟨k + 1, by omega, by go_num, bad2, L2, HR2.out, hb2⟩
          case measure => simp [intOf]; omega
      · go_wp2_with (go_at_call 20; go_loud (refine (alive_any _).mono ?_); go_loud (rintro e wc ⟨rfl, h11⟩))
        go_ret
        exact ⟨rfl, hb.trans (h11.mono hb.size)⟩
set_option maxRecDepth 100000 in
theorem lifted (os : Os) (started : os.Started) (H : Type) (enc : TypeId × Value → H) :
    ReturnsInHanded {} Try.checked os 4 .any (Rows.beReadsSpec.pre6 enc Try.prog Try.f4 Rows.beReadsRow.domain false) (Rows.beReadsSpec.post enc Try.prog Try.f4 false true false false) := by
  refine returnsInHanded_of_change (C := Try.checked) own started (by kernel_rfl) Try.func4
    (ChangeSpec.witness6 (enc := enc) (C := Try.checked) false ⟨#[], #[.slice none 0 0, .slice none 0 0], []⟩ 8 (by kernel_rfl) (by kernel_rfl) (by kernel_rfl) (by kernel_rfl)) ?_
  intro W base args ds gs before hval0 hW hcnd _
  have hval : ∀ (j : Nat) t v, Try.f4.params[j]? = some t → args[j]? = some v → Value.okWide Try.prog W .any base t v := hval0
  have hW' := hW
  obtain ⟨p, q, hA0, hV, rfl, hfz, hnd⟩ := hW
  have hA : DataW.TrodAll enc Try.prog W 0 (fun _ => true) true Try.f4.params.toList args.toList ds p := hA0
  rw [Try.params4] at hA hval
  obtain ⟨v0, vs0, d0, ds0, p0, q0, hargs, rfl, rfl, h0, r0⟩ := trodAll_cons hA
  obtain ⟨v1, vs1, d1, ds1, p1, q1, rfl, rfl, rfl, h1, r1⟩ := trodAll_cons r0
  obtain ⟨rfl, rfl, rfl⟩ := trodAll_nil r1
  obtain rfl : args = #[v0, v1] := by cases args; simp_all
  obtain ⟨rfl, rfl⟩ := trodVars_none hV
  have k0 := h0
  have o0 := hval 0 22 v0 rfl rfl
  have lt0 : ∀ x ∈ p0, x.block < W.heap.size := by obtain ⟨m, hm⟩ := k0; exact DataW.trod_lt m _ _ _ hm
  have k1 := h1
  have o1 := hval 1 37 v1 rfl rfl
  have lt1 : ∀ x ∈ p1, x.block < W.heap.size := by obtain ⟨m, hm⟩ := k1; exact DataW.trod_lt m _ _ _ hm
  clear hA0 hval0
  refine (walk v0 d0 p0 v1 d1 p1 W k0 o0 k1 o1).mono fun e W' ⟨he, bel⟩ => ?_
  subst he
  exact ⟨_, rfl, _, _, _, [], _, [], hW', trodAll_mk1 (shut_bool Try.underlying4 _), (trodAll_cons_mk (Below.trod laidOut (by kernel_rfl) (of_decide_eq_true (by kernel_rfl)) k0 bel lt0) (trodAll_cons_mk (Below.trod laidOut (by kernel_rfl) (of_decide_eq_true (by kernel_rfl)) k1 bel lt1) trodAll_mk0)), rfl, bel.frame _, fun h => by cases h⟩

theorem over : Rows.beReadsRow.holds Try.pinned (OpenSpec.ofChange Rows.beReadsSpec) :=
  OpenClaim.holds_of_wide 4 Try.f4 rfl rfl rfl rfl rfl rfl rfl ⟨rfl, rfl, rfl, rfl, rfl⟩ rfl rfl rfl rfl rfl (by kernel_rfl) Try.func4 (by kernel_rfl)
    (of_decide_eq_true (by kernel_rfl)) (by unfold Func.isWrapper; first | (rw [if_pos (by decide +kernel)]; kernel_rfl) | (rw [if_neg (by decide +kernel)]; exact ⟨rfl, rfl⟩))
    (fun os started H enc _ => lifted os started H enc)

/-- the statement -/
theorem proved : Rows.BeReadsSaid := over
end Go.Proofs.Ytecppfdfdabflaa.beReads
