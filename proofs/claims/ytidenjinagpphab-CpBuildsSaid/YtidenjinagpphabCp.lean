/- cp: packets as lists of numbers; the contracts of Build and of Parse. -/
import Derived.Test.YtidenjinagpphabBeLaw
import Derived.Test.YtidenjinagpphabBeBad
import Derived.Test.YtidenjinagpphabRdrList
import Derived.Test.YtidenjinagpphabSlice8
import Derived.Test.YtidenjinagpphabBox
import Derived.Deep.DeepCutAuto
namespace Go.Proofs.Ytidenjinagpphab.cpc
open Go.RowKit
open Go.Proofs.Ytidenjinagpphab.kit Go.Proofs.Ytidenjinagpphab.bec
set_option linter.unusedVariables false
set_option maxRecDepth 20000

/-- a packet's bytes -/
def cpB (x y : Int) (d : List Int) : List Int := [x, y, ((4 + d.length : Nat) : Int) / 256, ((4 + d.length : Nat) : Int) % 256] ++ d
/-- the packet that bytes begin with; an error -/
def cpT (x y s : Int) (r : List Int) : Int × Int × List Int × Int := if s < 4 then (0, 0, [], 11) else if (r.length : Int) + 4 < s then (0, 0, [], 10) else (x, y, r.take (s - 4).toNat, 0)
def cpP : List Int → Int × Int × List Int × Int
  | x :: y :: z :: u :: r => cpT x y (256 * z + u) r
  | _ => (0, 0, [], 10)
theorem cpP_short {l : List Int} (h : l.length < 4) : cpP l = (0, 0, [], 10) := by
  match l, h with
  | [], _ => rfl
  | [_], _ => rfl
  | [_, _], _ => rfl
  | [_, _, _], _ => rfl
/-- what was built is parsed as it was -/
theorem cpP_built (x y : Int) (d r : List Int) (hd : d.length ≤ 60000) : cpP (cpB x y d ++ r) = (x, y, d, 0) := by
  show cpT x y (256 * (((4 + d.length : Nat) : Int) / 256) + ((4 + d.length : Nat) : Int) % 256) (d ++ r) = _
  have e : 256 * (((4 + d.length : Nat) : Int) / 256) + ((4 + d.length : Nat) : Int) % 256 = d.length + 4 := by omega
  unfold cpT
  rw [e, if_neg (by omega), if_neg (by rw [List.length_append]; omega), show ((d.length : Int) + 4 - 4).toNat = d.length by omega, List.take_left']
  rfl
theorem short_bad {l : List Int} (h : l.length < 4) : okN (!okN (!okN false l 1) (leftN false l 1) 1) (leftN (!okN false l 1) (leftN false l 1) 1) 2 = false := by
  match l, h with
  | [], _ => decide
  | [x], _ => obtain ⟨_, h2, h3⟩ := nx_cons x []; rw [h2, h3]; obtain ⟨_, h2, h3⟩ := nx_nil (!true); rw [h2, h3]; decide
  | [x, y], _ => obtain ⟨_, h2, h3⟩ := nx_cons x [y]; rw [h2, h3]; obtain ⟨_, h2, h3⟩ := nx_cons y []; rw [Bool.not_true, h2, h3]; decide
  | [x, y, z], _ => obtain ⟨_, h2, h3⟩ := nx_cons x [y, z]; rw [h2, h3]; obtain ⟨_, h2, h3⟩ := nx_cons y [z]; rw [Bool.not_true, h2, h3]; simp [okN, okR]
theorem u16_cons (w : World) (g D : Nat) (x y : Int) (r : List Int) (h : RdrAt w g D false (x :: y :: r)) (hb : Byt (x :: y :: r)) :
    Calls Try.prog 60 #[.pointer (some ⟨g, 0, none⟩)] w fun e w' => e = .returned (.int .u16 (256 * x + y)) ∧ RdrAt w' g D false r ∧ w.grownBy w' (some g) :=
  (u16_any w g D false _ h hb).mono fun e w' ⟨q, he, hq, hr, hg⟩ => by
    have h1 : okN false (x :: y :: r) 2 = true := by simp [okN, okR]; omega
    have h2 : valN false (x :: y :: r) 2 = 256 * x + y := by unfold valN; rw [h1]; simp [numB]; omega
    have h3 : leftN false (x :: y :: r) 2 = r := by unfold leftN; rw [h1]; rfl
    rw [h2] at hq; rw [h1, h3] at hr; subst hq; exact ⟨he, hr, hg⟩
theorem byt_leftN {b : Bool} {l : List Int} (h : Byt l) (m : Int) : Byt (leftN b l m) := by unfold leftN; split; exact h.drop _; exact h
theorem four {l : List Int} (h : 4 ≤ l.length) : ∃ x y z u r, l = x :: y :: z :: u :: r := by
  match l, h with
  | x :: y :: z :: u :: r, _ => exact ⟨x, y, z, u, r, rfl⟩
def CPost (T : Int × Int × List Int × Int) (w : World) (L : List Sl) (e : Ending) (W' : World) : Prop :=
  ∃ a n c, e = .returned (.tuple #[.agg #[.int .u8 T.1, .int .u8 T.2.1, .slice a n c], .int .i64 T.2.2.2]) ∧ St w W' ((a, n, c, T.2.2.1) :: L)
theorem ret_cells {w : World} {g : Nat} {vs : List Value} (h : Box w g vs) (hv : vs.length = 3) (u v x : Value) :
    (((w.setCell ⟨g, 0, none⟩ u).setCell ⟨g, 1, none⟩ v).setCell ⟨g, 2, none⟩ x).cell? ⟨g, 0, none⟩ = some u ∧ (((w.setCell ⟨g, 0, none⟩ u).setCell ⟨g, 1, none⟩ v).setCell ⟨g, 2, none⟩ x).cell? ⟨g, 1, none⟩ = some v ∧ (((w.setCell ⟨g, 0, none⟩ u).setCell ⟨g, 1, none⟩ v).setCell ⟨g, 2, none⟩ x).cell? ⟨g, 2, none⟩ = some x := by
  have hb := ((h.set 0 u).set 1 v).set 2 x
  match vs, hv with
  | [a, b, c], _ => exact ⟨hb.at_ 0 _ rfl, hb.at_ 1 _ rfl, hb.at_ 2 _ rfl⟩

set_option maxHeartbeats 1000000 in
theorem parse_any {w W : World} {L : List Sl} {a : Option Addr} {n c : Nat} {l : List Int} (h : St w W L) (hm : (a, n, c, l) ∈ L) (hb : Byt l) (hn : n ≤ 100000) :
    Calls Try.prog 27 #[.slice a n c] W (CPost (cpP l) w L) := by
  obtain ⟨W1, hW1⟩ : ∃ W1, W1 = W.alloc (.cells #[.int .u8 0, .int .u8 0, .slice none 0 0] 58) := ⟨_, rfl⟩
  have b0 : Below W.heap.size W W1 := by rw [hW1]; exact (Below.refl _ _).alloc (Nat.le_refl _) _
  have p0 : Box W1 W.heap.size [.int .u8 0, .int .u8 0, .slice none 0 0] := by rw [hW1]; exact Box.made _ #[.int .u8 0, .int .u8 0, .slice none 0 0] _
  obtain ⟨W2, hW2⟩ : ∃ W2, W2 = W1.alloc (.cells #[.slice a n c, .bool false] 173) := ⟨_, rfl⟩
  have N := h.get hm
  have hlen := N.len
  have R0 : RdrAt W2 W1.heap.size W1.heap.size false l := by rw [hW2]; exact RdrAt.made ((N.below b0).mono b0.size)
  have b2 : Below W1.heap.size W1 W2 := by rw [hW2]; exact (Below.refl _ _).alloc (Nat.le_refl _) _
  have HW1 := hid hW1
  have HW2 := hid hW2
  have HR := hid R0
  have HB0 := hid b0
  have HB2 := hid b2
  have HP := hid p0
  have HS := hid h
  have hs0 := p0.lt
  clear h hm N hW1 hW2 R0 b0 b2 p0
  by_cases h4 : l.length < 4
  · rw [cpP_short h4]
    have SB := hid (short_bad h4)
    have HBy := hid hb
    clear hlen h4 hb
    go_enter Try.func27, Try.ntmps27
    go_upto_region 1 with fail
    rw [← HW1.out]
    go_upto_region 2 with (go_at_call 58; ((with_reducible refine (new_any _ _ _ _).mono ?_); rintro e w2 ⟨rfl, hw2⟩; rw [← HW2.out] at hw2; subst hw2))
    go_upto_region 3 with (first | (go_at_call 59; ((with_reducible refine (u8_any _ _ _ _ _ HR.out HBy.out).mono ?_); rintro e w3 ⟨x1, rfl, hx1, r1, g1⟩); have X1 := hid hx1; clear hx1) | (go_at_call 59; ((with_reducible refine (u8_any _ _ _ _ _ r1 (byt_leftN HBy.out _)).mono ?_); rintro e w4 ⟨x2, rfl, hx2, r2, g2⟩); have X2 := hid hx2; clear hx2))
    have hx1 := valN_bd false l HBy.out 1
    have hx2 := valN_bd (!okN false l 1) (leftN false l 1) (byt_leftN HBy.out _) 1
    have g12 := gb_trans g1 g2
    have b4 : Below W1.heap.size W1 w4 := gb_below HB2.out g12 HB2.out.size (Nat.le_refl _)
    obtain ⟨W5, hW5⟩ : ∃ W5, W5 = w4.alloc (.cells #[.int .u8 x1, .int .u8 x2, .slice none 0 0] 58) := ⟨_, rfl⟩
    have b5 : Below w4.heap.size w4 W5 := by rw [hW5]; exact (Below.refl _ _).alloc (Nat.le_refl _) _
    have r5 := r2.below b5 r2.lt
    have B5 := hid (b4.trans (b5.mono b4.size))
    have R5 := hid r5
    have HW5 := hid hW5
    clear r1 r2 g1 g2 g12 b4 b5 r5 hx1 hx2 hW5
    rw [← HW5.out]
    go_upto_if 18 with (first | (go_at_call 60; ((with_reducible refine (u16_any _ _ _ _ _ R5.out (byt_leftN (byt_leftN HBy.out _) _)).mono ?_); rintro e w6 ⟨x3, rfl, hx3, r6, g6⟩); rw [SB.out] at r6) | (go_at_call 74; ((with_reducible refine (bad_any _ _ _ _ _ r6).mono ?_); rintro e w7 ⟨rfl, rfl⟩)))
    have b6 : Below W1.heap.size W1 w6 := gb_below B5.out g6 B5.out.size (Nat.le_refl _)
    have p6 := HP.out.below b6 hs0
    have c0 := p6.at_ 0 _ rfl
    have c1 := p6.at_ 1 _ rfl
    have c2 := p6.at_ 2 _ rfl
    have f0 := p6.fr 0
    have f1 := p6.fr 1
    have f2 := p6.fr 2
    have P6 := hid p6
    have B6 := hid (HB0.out.trans (b6.mono (Nat.le_of_lt hs0)))
    clear p6 b6
    go_wp2_with fail
    obtain ⟨q0, q1, q2⟩ := ret_cells P6.out rfl (.int .u8 0) (.int .u8 0) (.slice none 0 0)
    refine bodyPost_ret (v := .tuple #[.agg #[.int .u8 0, .int .u8 0, .slice none 0 0], .int .i64 10]) (by simp [results, Try.results27, go_sem, q0, q1, q2]) rfl ?_
    exact ⟨none, 0, 0, rfl, HS.out.ret0 B6.out (Nat.le_refl _) (set3 _ _ _ _ _)⟩
  · obtain ⟨x, y, z, u, r, rfl⟩ := four (Nat.le_of_not_lt h4)
    have HBy := hid hb
    have hz1 := hb z (by simp)
    have hu1 := hb u (by simp)
    have hby2 : Byt (y :: z :: u :: r) := fun q hq => hb q (.tail _ hq)
    have hby3 : Byt (z :: u :: r) := fun q hq => hb q (.tail _ (.tail _ hq))
    have HB2' := hid hby2
    have HB3 := hid hby3
    have hrn : r.length ≤ n := by simp only [List.length_cons] at hlen; omega
    obtain ⟨s, hs⟩ : ∃ s, s = 256 * z + u := ⟨_, rfl⟩
    have hs1 : 0 ≤ s ∧ s ≤ 65535 := by omega
    have HSS := hid hs
    rw [show cpP (x :: y :: z :: u :: r) = cpT x y s r by rw [hs]; rfl]
    clear hlen hb h4 hby2 hby3 hz1 hu1 hs
    go_enter Try.func27, Try.ntmps27
    go_upto_region 1 with fail
    rw [← HW1.out]
    go_upto_region 2 with (go_at_call 58; ((with_reducible refine (new_any _ _ _ _).mono ?_); rintro e w2 ⟨rfl, hw2⟩; rw [← HW2.out] at hw2; subst hw2))
    go_upto_region 3 with (first | (go_at_call 59; ((with_reducible refine (u8_cons _ _ _ _ _ HR.out HBy.out).mono ?_); rintro e w3 ⟨rfl, r1, g1⟩)) | (go_at_call 59; ((with_reducible refine (u8_cons _ _ _ _ _ r1 HB2'.out).mono ?_); rintro e w4 ⟨rfl, r2, g2⟩)))
    have g12 := gb_trans g1 g2
    have b4 : Below W1.heap.size W1 w4 := gb_below HB2.out g12 HB2.out.size (Nat.le_refl _)
    obtain ⟨W5, hW5⟩ : ∃ W5, W5 = w4.alloc (.cells #[.int .u8 x, .int .u8 y, .slice none 0 0] 58) := ⟨_, rfl⟩
    have b5 : Below w4.heap.size w4 W5 := by rw [hW5]; exact (Below.refl _ _).alloc (Nat.le_refl _) _
    have r5 := r2.below b5 r2.lt
    have k5 : Box W5 w4.heap.size [.int .u8 x, .int .u8 y, .slice none 0 0] := by rw [hW5]; exact Box.made _ #[.int .u8 x, .int .u8 y, .slice none 0 0] _
    have hlt4 := r2.lt
    have B5 := hid (b4.trans (b5.mono b4.size))
    have R5 := hid r5
    have K5 := hid k5
    have HW5 := hid hW5
    clear r1 r2 g1 g2 g12 b4 b5 r5 k5 hW5
    rw [← HW5.out]
    have hw4 : w4.heap.size ≠ W1.heap.size := by omega
    go_upto_if 18 with (first | (go_at_call 60; ((with_reducible refine (u16_cons _ _ _ _ _ _ R5.out HB3.out).mono ?_); rintro e w6 ⟨rfl, r6, g6⟩); rw [← HSS.out]) | (go_at_call 74; ((with_reducible refine (bad_any _ _ _ _ _ r6).mono ?_); rintro e w7 ⟨rfl, rfl⟩)))
    have R6 := hid r6
    have B6' := hid (gb_below B5.out g6 B5.out.size (Nat.le_refl _))
    have K6 := hid (K5.out.grown g6 hw4)
    clear r6 g6
    by_cases hsm : s < 4
    · have HT := hid (show cpT x y s r = (0, 0, [], 11) by unfold cpT; rw [if_pos hsm])
      have b6 : Below W1.heap.size W1 w6 := B6'.out
      have p6 := HP.out.below b6 hs0
      have c0 := p6.at_ 0 _ rfl
      have c1 := p6.at_ 1 _ rfl
      have c2 := p6.at_ 2 _ rfl
      have f0 := p6.fr 0
      have f1 := p6.fr 1
      have f2 := p6.fr 2
      have P6 := hid p6
      have B6 := hid (HB0.out.trans (b6.mono (Nat.le_of_lt hs0)))
      clear p6 b6
      go_wp2_with fail
      obtain ⟨q0, q1, q2⟩ := ret_cells P6.out rfl (.int .u8 0) (.int .u8 0) (.slice none 0 0)
      refine bodyPost_ret (v := .tuple #[.agg #[.int .u8 0, .int .u8 0, .slice none 0 0], .int .i64 11]) (by simp [results, Try.results27, go_sem, q0, q1, q2]) rfl ?_
      exact ⟨none, 0, 0, by rw [HT.out], by rw [HT.out]; exact HS.out.ret0 B6.out (Nat.le_refl _) (set3 _ _ _ _ _)⟩
    · have hsub : IntKind.i64.wrap (s - 4) = s - 4 := IntWalk.i64_in _ (by omega)
      obtain ⟨c0, c1, c2, f2⟩ : w6.cell? ⟨w4.heap.size, 0, none⟩ = some (.int .u8 x) ∧ w6.cell? ⟨w4.heap.size, 1, none⟩ = some (.int .u8 y) ∧ w6.cell? ⟨w4.heap.size, 2, none⟩ = some (.slice none 0 0) ∧ w6.frozen? ⟨w4.heap.size, 2, none⟩ = false := ⟨K6.out.at_ 0 _ rfl, K6.out.at_ 1 _ rfl, K6.out.at_ 2 _ rfl, K6.out.fr 2⟩
      have hrl : r.length ≤ 70368744177664 := by omega
      have hb6 := B6'.out.size
      have K6l := K6.out.lt
      go_upto_region 9 with (go_at_call 62; ((with_reducible refine (take_any _ _ _ _ _ (s - 4) R6.out hrl).mono ?_); rintro e w7 ⟨v7, rfl, a7, n7, c7, rfl, o7, r7, g7⟩); obtain ⟨k0, k1, k2, k3⟩ : w7.cell? ⟨w4.heap.size, 0, none⟩ = some (.int .u8 x) ∧ w7.cell? ⟨w4.heap.size, 1, none⟩ = some (.int .u8 y) ∧ w7.cell? ⟨w4.heap.size, 2, none⟩ = some (.slice none 0 0) ∧ w7.frozen? ⟨w4.heap.size, 2, none⟩ = false := ⟨gb_cell g7 c0 hw4, gb_cell g7 c1 hw4, gb_cell g7 c2 hw4, (gb_frozen g7 (p := ⟨w4.heap.size, 2, none⟩) K6l hw4).trans f2⟩)
      have b7 : Below W1.heap.size W1 w7 := gb_below B6'.out g7 hb6 (Nat.le_refl _)
      have gs := gb_setCell (World.grownBy.refl w7 (some w4.heap.size)) (p := ⟨w4.heap.size, 2, none⟩) rfl (.slice a7 n7 c7)
      have m0 : (w7.setCell ⟨w4.heap.size, 2, none⟩ (.slice a7 n7 c7)).cell? ⟨w4.heap.size, 0, none⟩ = some (.int .u8 x) := cell_other k0 (by decide)
      have m1 : (w7.setCell ⟨w4.heap.size, 2, none⟩ (.slice a7 n7 c7)).cell? ⟨w4.heap.size, 1, none⟩ = some (.int .u8 y) := cell_other k1 (by decide)
      have m2 : (w7.setCell ⟨w4.heap.size, 2, none⟩ (.slice a7 n7 c7)).cell? ⟨w4.heap.size, 2, none⟩ = some (.slice a7 n7 c7) := cell_same k2
      have r8 := hid (r7.other gs hw4 (Nat.le_of_lt hlt4))
      have o8 := hid (o7.kept gs (by
        cases hv : (Value.slice a7 n7 c7).ownBlock with
        | none => exact .inl rfl
        | some j => exact .inr (by have := (o7.lt j hv).1; intro e; injection e with e; omega)))
      have b8 := hid (b7.setCell (Nat.le_of_lt hlt4) (p := ⟨w4.heap.size, 2, none⟩) (.slice a7 n7 c7))
      obtain ⟨W8, hW8⟩ : ∃ W8, W8 = w7.setCell ⟨w4.heap.size, 2, none⟩ (.slice a7 n7 c7) := ⟨_, rfl⟩
      rw [← hW8] at m0 m1 m2 r8 o8 b8
      have HW8 := hid hW8
      clear o7 r7 g7 k0 k1 k2 k3 c0 c1 c2 f2 b7 gs hW8
      rw [← HW8.out]
      by_cases hok : (r.length : Int) + 4 < s
      · have HT := hid (show cpT x y s r = (0, 0, [], 10) by unfold cpT; rw [if_neg (by omega), if_pos hok])
        have HO : okR false r (s - 4) = false := by simp [okR]; omega
        rw [HO] at r8
        clear HO hok
        go_upto_if 29 with (go_at_call 74; ((with_reducible refine (bad_any _ _ _ _ _ r8.out).mono ?_); rintro e w9 ⟨rfl, rfl⟩))
        have b6 : Below W1.heap.size W1 W8 := b8.out
        have p6 := HP.out.below b6 hs0
        have c0 := p6.at_ 0 _ rfl
        have c1 := p6.at_ 1 _ rfl
        have c2 := p6.at_ 2 _ rfl
        have f0 := p6.fr 0
        have f1 := p6.fr 1
        have f2 := p6.fr 2
        have P6 := hid p6
        have B6 := hid (HB0.out.trans (b6.mono (Nat.le_of_lt hs0)))
        clear p6 b6
        go_wp2_with fail
        obtain ⟨q0, q1, q2⟩ := ret_cells P6.out rfl (.int .u8 0) (.int .u8 0) (.slice none 0 0)
        refine bodyPost_ret (v := .tuple #[.agg #[.int .u8 0, .int .u8 0, .slice none 0 0], .int .i64 10]) (by simp [results, Try.results27, go_sem, q0, q1, q2]) rfl ?_
        exact ⟨none, 0, 0, by rw [HT.out], by rw [HT.out]; exact HS.out.ret0 B6.out (Nat.le_refl _) (set3 _ _ _ _ _)⟩
      · have HT := hid (show cpT x y s r = (x, y, r.take (s - 4).toNat, 0) by unfold cpT; rw [if_neg (by omega), if_neg (by omega)])
        have HO : okR false r (s - 4) = true := by simp [okR]; omega
        have HG : gotR false r (s - 4) = r.take (s - 4).toNat := by unfold gotR; rw [HO]; rfl
        rw [HO] at r8
        rw [HG] at o8
        have hn7 := hid (show n7 = (r.take (s - 4).toNat).length by have := o8.out.1; simpa using this.symm)
        clear HO HG hok
        go_upto_if 29 with (go_at_call 74; ((with_reducible refine (bad_any _ _ _ _ _ r8.out).mono ?_); rintro e w9 ⟨rfl, rfl⟩))
        have b6 : Below W1.heap.size W1 W8 := b8.out
        have p6 := HP.out.below b6 hs0
        have c0 := p6.at_ 0 _ rfl
        have c1 := p6.at_ 1 _ rfl
        have c2 := p6.at_ 2 _ rfl
        have f0 := p6.fr 0
        have f1 := p6.fr 1
        have f2 := p6.fr 2
        have P6 := hid p6
        have B6 := hid (HB0.out.trans (b6.mono (Nat.le_of_lt hs0)))
        clear p6 b6
        go_wp2_with fail
        obtain ⟨q0, q1, q2⟩ := ret_cells P6.out rfl (.int .u8 x) (.int .u8 y) (.slice a7 n7 c7)
        refine bodyPost_ret (v := .tuple #[.agg #[.int .u8 x, .int .u8 y, .slice a7 n7 c7], .int .i64 0]) (by simp [results, Try.results27, go_sem, q0, q1, q2]) rfl ?_
        exact ⟨a7, n7, c7, by rw [HT.out], by rw [HT.out]; exact HS.out.ret B6.out o8.out (by have := B6'.out.size; omega) (Nat.le_refl _) (set3 _ _ _ _ _)⟩
end Go.Proofs.Ytidenjinagpphab.cpc
