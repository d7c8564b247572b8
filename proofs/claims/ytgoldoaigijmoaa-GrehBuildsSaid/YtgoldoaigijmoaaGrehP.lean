/- greh: the contract of Parse. -/
import Derived.Test.YtgoldoaigijmoaaGrehM
import Derived.Deep.DeepCutAuto
namespace Go.Proofs.Ytgoldoaigijmoaa.grc
open Go.RowKit
open Go.Proofs.Ytgoldoaigijmoaa.kit Go.Proofs.Ytgoldoaigijmoaa.bec
set_option linter.unusedVariables false
set_option maxRecDepth 20000

/-- a packet that is being put together in a block -/
structure PAt (w : World) (g : Nat) (v0 v1 v2 v3 v4 v5 : Value) : Prop where
  c0 : w.cell? ⟨g, 0, none⟩ = some v0
  c1 : w.cell? ⟨g, 1, none⟩ = some v1
  c2 : w.cell? ⟨g, 2, none⟩ = some v2
  c3 : w.cell? ⟨g, 3, none⟩ = some v3
  c4 : w.cell? ⟨g, 4, none⟩ = some v4
  c5 : w.cell? ⟨g, 5, none⟩ = some v5
  f : ∀ j, w.frozen? ⟨g, j, none⟩ = false
  lt : g < w.heap.size
section
variable {w w' : World} {g : Nat} {v0 v1 v2 v3 v4 v5 : Value}
theorem PAt.grown {o : Nat} (h : PAt w g v0 v1 v2 v3 v4 v5) (hb : w.grownBy w' (some o)) (hne : g ≠ o) : PAt w' g v0 v1 v2 v3 v4 v5 :=
  ⟨gb_cell hb h.c0 hne, gb_cell hb h.c1 hne, gb_cell hb h.c2 hne, gb_cell hb h.c3 hne, gb_cell hb h.c4 hne, gb_cell hb h.c5 hne, fun j => (gb_frozen hb (p := ⟨g, j, none⟩) h.lt hne).trans (h.f j), Nat.lt_of_lt_of_le h.lt hb.size⟩
theorem PAt.below (h : PAt w g v0 v1 v2 v3 v4 v5) (hb : Below w.heap.size w w') : PAt w' g v0 v1 v2 v3 v4 v5 :=
  ⟨keep_cell hb h.c0, keep_cell hb h.c1, keep_cell hb h.c2, keep_cell hb h.c3, keep_cell hb h.c4, keep_cell hb h.c5, fun j => (hb.frozen (p := ⟨g, j, none⟩) h.lt).trans (h.f j), Nat.lt_of_lt_of_le h.lt hb.size⟩
theorem PAt.set2 (h : PAt w g v0 v1 v2 v3 v4 v5) (u : Value) : PAt (w.setCell ⟨g, 2, none⟩ u) g v0 v1 u v3 v4 v5 :=
  ⟨cell_other h.c0 (by decide), cell_other h.c1 (by decide), cell_same h.c2, cell_other h.c3 (by decide), cell_other h.c4 (by decide), cell_other h.c5 (by decide), fun j => frozen_set (h.f j), by simpa [World.setCell] using h.lt⟩
theorem PAt.set4 (h : PAt w g v0 v1 v2 v3 v4 v5) (u : Value) : PAt (w.setCell ⟨g, 4, none⟩ u) g v0 v1 v2 v3 u v5 :=
  ⟨cell_other h.c0 (by decide), cell_other h.c1 (by decide), cell_other h.c2 (by decide), cell_other h.c3 (by decide), cell_same h.c4, cell_other h.c5 (by decide), fun j => frozen_set (h.f j), by simpa [World.setCell] using h.lt⟩
theorem PAt.set5 (h : PAt w g v0 v1 v2 v3 v4 v5) (u : Value) : PAt (w.setCell ⟨g, 5, none⟩ u) g v0 v1 v2 v3 v4 u :=
  ⟨cell_other h.c0 (by decide), cell_other h.c1 (by decide), cell_other h.c2 (by decide), cell_other h.c3 (by decide), cell_other h.c4 (by decide), cell_same h.c5, fun j => frozen_set (h.f j), by simpa [World.setCell] using h.lt⟩
theorem PAt.made (w : World) (e : TypeId) : PAt (w.alloc (.cells #[v0, v1, v2, v3, v4, v5] e)) w.heap.size v0 v1 v2 v3 v4 v5 :=
  ⟨by simp [go_sem], by simp [go_sem], by simp [go_sem], by simp [go_sem], by simp [go_sem], by simp [go_sem], fun j => by simp [go_sem], by simp⟩
end
theorem rdr_set {w : World} {g D g' : Nat} {bad : Bool} {l : List Int} (h : RdrAt w g D bad l) (hg : g' ≠ g) (hD : D ≤ g') (j : Nat) (u : Value) : RdrAt (w.setCell ⟨g', j, none⟩ u) g D bad l :=
  h.other (gb_setCell (World.grownBy.refl w (some g')) (p := ⟨g', j, none⟩) rfl u) hg hD

theorem u16_is (w : World) (g D : Nat) (l : List Int) (k : Nat) (x : Int) (hk : k + 2 ≤ l.length) (h : RdrAt w g D false (l.drop k)) (hb : Byt l) (hx : n2 l k = x) :
    Calls Try.prog 58 #[.pointer (some ⟨g, 0, none⟩)] w fun e w' => e = .returned (.int .u16 x) ∧ RdrAt w' g D false (l.drop (k + 2)) ∧ w.grownBy w' (some g) := by
  subst hx; exact u16_at w g D l k hk h hb
theorem u32_on (w : World) (g D : Nat) (bad : Bool) (l : List Int) (h : RdrAt w g D bad l) (hb : Byt l) :
    Calls Try.prog 59 #[.pointer (some ⟨g, 0, none⟩)] w fun e w' => e = .returned (.int .u32 (valN bad l 4)) ∧ RdrAt w' g D (!okN bad l 4) (leftN bad l 4) ∧ w.grownBy w' (some g) :=
  (u32_any w g D bad l h hb).mono fun e w' ⟨x, he, hx, hr, hg⟩ => ⟨by rw [he, hx], hr, hg⟩
theorem left_n (w : World) (g D : Nat) (bad : Bool) (l : List Int) (n : Nat) (h : RdrAt w g D bad l) (hn : l.length = n) :
    Calls Try.prog 62 #[.pointer (some ⟨g, 0, none⟩)] w fun e w' => e = .returned (.int .i64 n) ∧ w = w' := by
  subst hn; exact left_any w g D bad l h
/-- what is left behind the numbers, and whether there was enough -/
def b1 (hs : Bool) (r : List Int) : Bool := if hs then !okN false r 4 else false
def r1 (hs : Bool) (r : List Int) : List Int := if hs then leftN false r 4 else r
def b2 (hs ha : Bool) (r : List Int) : Bool := if ha then !okN (b1 hs r) (r1 hs r) 4 else b1 hs r
def r2 (hs ha : Bool) (r : List Int) : List Int := if ha then leftN (b1 hs r) (r1 hs r) 4 else r1 hs r
theorem num_yes {r : List Int} (h : 4 ≤ r.length) : okN false r 4 = true ∧ leftN false r 4 = r.drop 4 ∧ valN false r 4 = n4 r := by
  have h1 : okN false r 4 = true := by simp [okN, okR]; omega
  exact ⟨h1, by unfold leftN; rw [h1]; rfl, by unfold valN; rw [h1]; rfl⟩
theorem num_no {r : List Int} (h : r.length < 4) : okN false r 4 = false ∧ leftN false r 4 = r := by
  have h1 : okN false r 4 = false := by simp [okN, okR]; omega
  exact ⟨h1, by unfold leftN; rw [h1]; rfl⟩
theorem num_bad (r : List Int) : okN true r 4 = false ∧ leftN true r 4 = r := by
  have h1 : okN true r 4 = false := by simp [okN, okR]
  exact ⟨h1, by unfold leftN; rw [h1]; rfl⟩
theorem enough (hs ha : Bool) (r : List Int) (m : Nat) : okR (b2 hs ha r) (r2 hs ha r) (m : Int) = decide (skipT hs ha + m ≤ r.length) := by
  have key : ∀ (q : List Int), okR false q (m : Int) = decide (m ≤ q.length) := fun q => by simp [okR]
  have key2 : ∀ (q : List Int), okR true q (m : Int) = false := fun q => by simp [okR]
  unfold b2 r2 b1 r1 skipT
  cases hs <;> cases ha <;> simp only [if_true, if_false, Bool.false_eq_true]
  · rw [key]; simp
  · by_cases h : 4 ≤ r.length
    · rw [(num_yes h).1, (num_yes h).2.1, Bool.not_true, key, List.length_drop]; congr 1; exact propext ⟨fun _ => by omega, fun _ => by omega⟩
    · rw [(num_no (by omega)).1, Bool.not_false, key2]; symm; simp; omega
  · by_cases h : 4 ≤ r.length
    · rw [(num_yes h).1, (num_yes h).2.1, Bool.not_true, key, List.length_drop]; congr 1; exact propext ⟨fun _ => by omega, fun _ => by omega⟩
    · rw [(num_no (by omega)).1, Bool.not_false, key2]; symm; simp; omega
  · by_cases h : 4 ≤ r.length
    · rw [(num_yes h).1, (num_yes h).2.1, Bool.not_true]
      by_cases h' : 4 ≤ (r.drop 4).length
      · rw [(num_yes h').1, (num_yes h').2.1, Bool.not_true, key, List.length_drop, List.length_drop]; rw [List.length_drop] at h'; congr 1; exact propext ⟨fun _ => by omega, fun _ => by omega⟩
      · rw [(num_no (by omega)).1, Bool.not_false, key2]; rw [List.length_drop] at h'; symm; simp; omega
    · rw [(num_no (by omega)).1, (num_no (by omega)).2, Bool.not_false, (num_bad r).1, Bool.not_false, key2]; symm; simp; omega
theorem all_good {hs ha : Bool} {r : List Int} {m : Nat} (h : skipT hs ha + m ≤ r.length) : b2 hs ha r = false ∧ r2 hs ha r = r.drop (skipT hs ha) ∧ b1 hs r = false ∧ r1 hs r = r.drop (if hs then 4 else 0) := by
  unfold skipT at h
  unfold b2 r2 b1 r1 skipT
  cases hs <;> cases ha <;> simp only [if_true, if_false, Bool.false_eq_true] at h ⊢
  · simp
  · have := num_yes (show 4 ≤ r.length by omega); rw [this.1, this.2.1]; simp
  · have := num_yes (show 4 ≤ r.length by omega); rw [this.1, this.2.1]; simp
  · have h1 := num_yes (show 4 ≤ r.length by omega)
    have h2 := num_yes (show 4 ≤ (r.drop 4).length by rw [List.length_drop]; omega)
    rw [h1.1, h1.2.1, Bool.not_true, h2.1, h2.2.1, List.drop_drop]; simp
theorem r_byt {r : List Int} (h : Byt r) (hs ha : Bool) : Byt (r1 hs r) ∧ Byt (r2 hs ha r) ∧ (r1 hs r).length ≤ r.length ∧ (r2 hs ha r).length ≤ r.length := by
  have key : ∀ b q, Byt q → Byt (leftN b q 4) ∧ (leftN b q 4).length ≤ q.length := fun b q hq => by
    unfold leftN; split
    · exact ⟨hq.drop _, by rw [List.length_drop]; omega⟩
    · exact ⟨hq, Nat.le_refl _⟩
  have h1 : Byt (r1 hs r) ∧ (r1 hs r).length ≤ r.length := by unfold r1; split; exact key _ _ h; exact ⟨h, Nat.le_refl _⟩
  have h2 : Byt (r2 hs ha r) ∧ (r2 hs ha r).length ≤ r.length := by
    unfold r2; split
    · exact ⟨(key _ _ h1.1).1, Nat.le_trans (key _ _ h1.1).2 h1.2⟩
    · exact h1
  exact ⟨h1.1, h2.1, h1.2, h2.2⟩

set_option maxHeartbeats 4000000 in
theorem parse_any {w W : World} {L : List Sl} {a : Option Addr} {n c : Nat} {l : List Int} (h : St w W L) (hm : (a, n, c, l) ∈ L) (hb : Byt l) (hn : n ≤ 3000) :
    Calls Try.prog 29 #[.slice a n c] W (GPost (grP l) w L) := by
  obtain ⟨W1, hW1⟩ : ∃ W1, W1 = W.alloc (.cells #[.int .u16 0, .bool false, .int .u32 0, .bool false, .int .u32 0, .slice none 0 0] 45) := ⟨_, rfl⟩
  have b0 : Below W.heap.size W W1 := by rw [hW1]; exact (Below.refl _ _).alloc (Nat.le_refl _) _
  have p0 : PAt W1 W.heap.size (.int .u16 0) (.bool false) (.int .u32 0) (.bool false) (.int .u32 0) (.slice none 0 0) := by rw [hW1]; exact PAt.made _ _
  have hlt : W.heap.size < W1.heap.size := by rw [hW1]; simp
  have Z : Hid (∀ w3 : World, Below W1.heap.size W1 w3 → w3.cell? ⟨W.heap.size, 0, none⟩ = some (.int .u16 0) ∧ w3.cell? ⟨W.heap.size, 1, none⟩ = some (.bool false) ∧ w3.cell? ⟨W.heap.size, 2, none⟩ = some (.int .u32 0) ∧ w3.cell? ⟨W.heap.size, 3, none⟩ = some (.bool false) ∧ w3.cell? ⟨W.heap.size, 4, none⟩ = some (.int .u32 0) ∧ w3.cell? ⟨W.heap.size, 5, none⟩ = some (.slice none 0 0) ∧ w3.frozen? ⟨W.heap.size, 0, none⟩ = false ∧ w3.frozen? ⟨W.heap.size, 1, none⟩ = false ∧ w3.frozen? ⟨W.heap.size, 2, none⟩ = false ∧ w3.frozen? ⟨W.heap.size, 3, none⟩ = false ∧ w3.frozen? ⟨W.heap.size, 4, none⟩ = false ∧ w3.frozen? ⟨W.heap.size, 5, none⟩ = false) := fun w3 h1 =>
    ⟨keep_cell h1 p0.c0, keep_cell h1 p0.c1, keep_cell h1 p0.c2, keep_cell h1 p0.c3, keep_cell h1 p0.c4, keep_cell h1 p0.c5, (h1.frozen (p := ⟨W.heap.size, 0, none⟩) hlt).trans (p0.f 0), (h1.frozen (p := ⟨W.heap.size, 1, none⟩) hlt).trans (p0.f 1), (h1.frozen (p := ⟨W.heap.size, 2, none⟩) hlt).trans (p0.f 2), (h1.frozen (p := ⟨W.heap.size, 3, none⟩) hlt).trans (p0.f 3), (h1.frozen (p := ⟨W.heap.size, 4, none⟩) hlt).trans (p0.f 4), (h1.frozen (p := ⟨W.heap.size, 5, none⟩) hlt).trans (p0.f 5)⟩
  have hW := hid hW1
  have N := h.get hm
  have HL := hid N.len
  have N1 := hid ((N.below b0).mono b0.size)
  have HS := hid h
  have HB0 := hid b0
  have HBy := hid hb
  clear h hm N hW1 b0 p0 hb
  go_enter Try.func29, Try.ntmps29
  go_upto_region 1 with fail
  rw [← hW.out]
  by_cases h8 : n < 8
  · have HT := hid (show grP l = zeroT 10 by unfold grP; rw [if_pos (by rw [HL.out]; exact h8)])
    obtain ⟨z0, z1, z2, z3, z4, z5, y0, y1, y2, y3, y4, y5⟩ := Z.out _ (Below.refl W1.heap.size W1)
    go_wp2_with fail
    obtain ⟨q0, q1, q2, q3, q4, q5⟩ := six_cells (W := W1) (g := W.heap.size) (u0 := .int .u16 0) (u1 := .bool false) (u2 := .int .u32 0) (u3 := .bool false) (u4 := .int .u32 0) (u5 := .slice none 0 0) (fun j hj => by match j, hj with | 0, _ => exact ⟨_, z0⟩ | 1, _ => exact ⟨_, z1⟩ | 2, _ => exact ⟨_, z2⟩ | 3, _ => exact ⟨_, z3⟩ | 4, _ => exact ⟨_, z4⟩ | 5, _ => exact ⟨_, z5⟩)
    refine bodyPost_ret (v := .tuple #[.agg #[.int .u16 0, .bool false, .int .u32 0, .bool false, .int .u32 0, .slice none 0 0], .int .i64 10]) (by simp [results, Try.results29, go_sem, q0, q1, q2, q3, q4, q5]) rfl ?_
    rw [HT.out]
    exact ⟨none, 0, 0, rfl, ret_noneG HS.out (HB0.out.trans (Below.mono (Below.refl W1.heap.size W1) HB0.out.size)) six_grown⟩
  · obtain ⟨W2, hW2⟩ : ∃ W2, W2 = W1.alloc (.cells #[.slice a n c, .bool false] 108) := ⟨_, rfl⟩
    have R2 : Hid (RdrAt W2 W1.heap.size W1.heap.size false (l.drop 0)) := by rw [hW2]; exact RdrAt.made N1.out
    have B2 : Hid (Below W1.heap.size W1 W2) := by rw [hW2]; exact (Below.refl _ _).alloc (Nat.le_refl _) _
    have HW2 := hid hW2
    have h8' : 8 ≤ l.length := by have := HL.out; omega
    have H8 := hid h8'
    have NX : Hid (∀ w3 w4 : World, Below W1.heap.size W1 w3 → w3.grownBy w4 (some W1.heap.size) → Below W1.heap.size W1 w4) := fun w3 w4 h1 h2 => gb_below h1 h2 h1.size (Nat.le_refl _)
    clear hW2 N1
    go_upto_region 4 with (go_at_call 57; refine (new_any _ _ _ _).mono ?_; rintro e w1' ⟨rfl, rfl⟩)
    rw [← HW2.out]
    obtain ⟨B0, hB0⟩ : ∃ B0, n2 l 0 = B0 := ⟨_, rfl⟩
    obtain ⟨P0, hP0⟩ : ∃ P0, n2 l 2 = P0 := ⟨_, rfl⟩
    have hmb := n2_bd HBy.out 4
    obtain ⟨m, hM⟩ : ∃ m : Nat, n2 l 4 = (m : Nat) := ⟨(n2 l 4).toNat, by omega⟩
    obtain ⟨C0, hC0⟩ : ∃ C0, n2 l 6 = C0 := ⟨_, rfl⟩
    have hbb : 0 ≤ B0 ∧ B0 ≤ 65535 := hB0 ▸ n2_bd HBy.out 0
    have hcb : 0 ≤ C0 ∧ C0 ≤ 65535 := hC0 ▸ n2_bd HBy.out 6
    have hm65 : m ≤ 65535 := by omega
    have GP : Hid (grP l = if P0 = 34827 then (if B0 = 8193 then grT false false C0 m (l.drop 8) else if B0 = 12289 then grT true false C0 m (l.drop 8) else if B0 = 8321 then grT false true C0 m (l.drop 8) else if B0 = 12417 then grT true true C0 m (l.drop 8) else zeroT 11) else zeroT 11) := by
      unfold grP; rw [if_neg (by omega), hB0, hP0, hM, hC0, Int.toNat_natCast]; exact hid rfl
    have HB_0 := hid hB0
    have HP_0 := hid hP0
    have HM := hid hM
    have HC_0 := hid hC0
    have hw7 : wrap64 (m : Int) = m := IntWalk.wrap64_in _ (by omega)
    clear hB0 hP0 hM hC0 hmb
    go_upto_region 5 with (go_at_call 58; first | ((with_reducible refine (u16_is _ _ _ l 0 B0 (by omega) R2.out HBy.out HB_0.out).mono ?_); rintro e w3 ⟨rfl, r3, g3⟩; have R3 := hid r3; have B3 := hid (NX.out _ _ B2.out g3); clear r3 g3) | ((with_reducible refine (u16_is _ _ _ l (0 + 2) P0 (by omega) R3.out HBy.out HP_0.out).mono ?_); rintro e w4 ⟨rfl, r4, g4⟩; have R4 := hid r4; have B4 := hid (NX.out _ _ B3.out g4); clear r4 g4) | ((with_reducible refine (u16_is _ _ _ l (0 + 2 + 2) m (by omega) R4.out HBy.out HM.out).mono ?_); rintro e w5 ⟨rfl, r5, g5⟩; have R5 := hid r5; have B5 := hid (NX.out _ _ B4.out g5); clear r5 g5))
    clear R2 R3 R4
    by_cases hh : bits .andNot .u16 B0 4224 = 8193
    · by_cases hp : P0 = 34827
      · rcases (bits_head B0 hbb).1 hh with rfl | rfl | rfl | rfl
        · have a1 : bits .andNot .u16 8193 4224 = 8193 := by decide
          have a2 : bits .and .u16 8193 4096 = 0 := by decide
          have a3 : bits .and .u16 8193 128 = 0 := by decide
          have hpn : (P0 != 34827) = false := by simp [bne, hp]
          obtain ⟨r, hr⟩ : ∃ r, r = l.drop 8 := ⟨_, rfl⟩
          have GQ : Hid (grP l = grT false false C0 m r) := by rw [GP.out, if_pos hp, hr]; rfl
          have hrb : Byt r := hr ▸ HBy.out.drop 8
          have hrl : r.length ≤ 3000 := by rw [hr, List.length_drop]; have := HL.out; omega
          have RB := hid (r_byt hrb false false)
          have RE := hid hr
          have RBY := hid hrb
          clear hh hp GP hr hrb
          go_upto_region 8 with (go_at_call 58; ((with_reducible refine (u16_is _ _ _ l (0 + 2 + 2 + 2) C0 (by have := H8.out; omega) R5.out HBy.out HC_0.out).mono ?_); rintro e w6 ⟨rfl, r6, g6⟩; have B6 := hid (NX.out _ _ B5.out g6); rw [← RE.out] at r6; have R6 := hid r6; clear r6 g6))
          have P6 := hid (PAt.made (v0 := .int .u16 C0) (v1 := .bool false) (v2 := .int .u32 0) (v3 := .bool false) (v4 := .int .u32 0) (v5 := .slice none 0 0) w6 45)
          obtain ⟨pb, hpb⟩ : ∃ pb, pb = w6.heap.size := ⟨_, rfl⟩
          have z6 := B6.out.size
          obtain ⟨W7, hW7⟩ : ∃ W7, W7 = w6.alloc (.cells #[.int .u16 C0, .bool false, .int .u32 0, .bool false, .int .u32 0, .slice none 0 0] 45) := ⟨_, rfl⟩
          have R7 : Hid (RdrAt W7 W1.heap.size W1.heap.size false r) := by rw [hW7]; exact R6.out.below ((Below.refl _ _).alloc (Nat.le_refl _) _) R6.out.lt
          have B7 : Hid (Below W1.heap.size W1 W7) := by rw [hW7]; exact B6.out.alloc z6 _
          have P7 : Hid (PAt W7 pb (.int .u16 C0) (.bool false) (.int .u32 0) (.bool false) (.int .u32 0) (.slice none 0 0)) := by rw [hW7, hpb]; exact P6.out
          have hgp : W1.heap.size < pb := by rw [hpb]; exact R6.out.lt
          rw [← hW7, ← hpb]
          clear hW7 hpb P6 R6 z6 B6 R5 B5 B4 B3 B2
          have hne : pb ≠ W1.heap.size := by omega
          have hle : W1.heap.size ≤ pb := by omega
          have NS : Hid (∀ (w3 : World) (j : Nat) (u : Value), Below W1.heap.size W1 w3 → Below W1.heap.size W1 (w3.setCell ⟨pb, j, none⟩ u)) := fun w3 j u h => h.setCell hle u
          have k1 := P7.out.c1
          have k3 := P7.out.c3
          have k2 := P7.out.c2
          have k4 := P7.out.c4
          have f2 := P7.out.f 2
          have f4 := P7.out.f 4
          go_upto_region 12 with fail
          have RT : Hid (RdrAt W7 W1.heap.size W1.heap.size (b2 false false r) (r2 false false r)) := R7.out
          have EN := hid (enough false false r m)
          have c5 := P7.out.c5
          have f5 := P7.out.f 5
          go_upto_region 13 with (go_at_call 60; ((with_reducible refine (take_any _ _ _ _ _ m RT.out (by have := RB.out.2.2.2; omega)).mono ?_); rintro e w12 ⟨v12, rfl, a12, n12, c12, rfl, o12, r12, g12⟩; have B12 := hid (NX.out _ _ B7.out g12); have R12 := hid r12; have P12 := hid (P7.out.grown g12 hne); have O12 := hid o12; clear r12 g12 o12 c5 f5; have c5 := P12.out.c5; have f5 := P12.out.f 5))
          have P13 := hid (P12.out.set5 (.slice a12 n12 c12))
          have R13 := hid (rdr_set R12.out hne hle 5 (.slice a12 n12 c12))
          have B13 := hid (NS.out _ 5 (.slice a12 n12 c12) B12.out)
          have hbase : pb < W7.heap.size := P7.out.lt
          have O13 : Hid ((w12.setCell ⟨pb, 5, none⟩ (.slice a12 n12 c12)).ownsRow W7.heap.size 5 1 (.slice a12 n12 c12) n12 ((gotR (b2 false false r) (r2 false false r) m).map (Value.int .u8))) := O12.out.kept (gb_setCell (World.grownBy.refl w12 (some pb)) (p := ⟨pb, 5, none⟩) rfl _) (by
            cases hv : (Value.slice a12 n12 c12).ownBlock with
            | none => exact .inl rfl
            | some j => exact .inr (by have := (O12.out.lt j hv).1; intro e; injection e with e; omega))
          clear c5 f5 P12 R12 B12 P7 R7 B7 RT O12
          generalize w12.setCell ⟨pb, 5, none⟩ (.slice a12 n12 c12) = w13 at *
          have hbz : W.heap.size < W7.heap.size := by omega
          by_cases hsh : skipT false false + m ≤ r.length
          · have G := hid (all_good hsh)
            rw [enough, decide_eq_true hsh, Bool.not_true] at R13
            obtain ⟨q, hq⟩ : ∃ q, q = leftR (b2 false false r) (r2 false false r) m := ⟨_, rfl⟩
            rw [← hq] at R13
            have hgot : gotR (b2 false false r) (r2 false false r) m = (r.drop (skipT false false)).take m := by unfold gotR; rw [enough, decide_eq_true hsh, G.out.2.1]; simp
            have hql : q.length = r.length - skipT false false - m := by rw [hq]; unfold leftR; rw [enough, decide_eq_true hsh, G.out.2.1]; rw [Int.toNat_natCast, if_pos rfl, List.length_drop, List.length_drop]
            obtain ⟨ql, hqe⟩ : ∃ ql, q.length = ql := ⟨_, rfl⟩
            have QL := hid hqe
            rw [hqe] at hql
            clear hqe
            rw [hgot] at O13
            have hn12 : n12 = m := by have := O13.out.1; rw [List.length_map, List.length_take, List.length_drop] at this; omega
            clear hgot hq
            by_cases hleft : 0 < ql
            · have HT := hid (show grP l = zeroT 11 by rw [GQ.out]; unfold grT; rw [if_neg (by omega), if_pos (by omega)])
              clear hql hsh hn12
              go_upto_region 16 with (first | (go_at_call 61; ((with_reducible refine (bad_any _ _ _ _ _ R13.out).mono ?_); rintro e wq ⟨rfl, rfl⟩)) | (go_at_call 62; ((with_reducible refine (left_n _ _ _ _ _ ql R13.out QL.out).mono ?_); rintro e wq ⟨rfl, rfl⟩)))
              obtain ⟨z0, z1, z2, z3, z4, z5, y0, y1, y2, y3, y4, y5⟩ := Z.out _ B13.out
              go_wp2_with fail
              obtain ⟨q0, q1, q2, q3, q4, q5⟩ := six_cells (W := w13) (g := W.heap.size) (u0 := .int .u16 0) (u1 := .bool false) (u2 := .int .u32 0) (u3 := .bool false) (u4 := .int .u32 0) (u5 := .slice none 0 0) (fun j hj => by match j, hj with | 0, _ => exact ⟨_, z0⟩ | 1, _ => exact ⟨_, z1⟩ | 2, _ => exact ⟨_, z2⟩ | 3, _ => exact ⟨_, z3⟩ | 4, _ => exact ⟨_, z4⟩ | 5, _ => exact ⟨_, z5⟩)
              refine bodyPost_ret (v := .tuple #[.agg #[.int .u16 0, .bool false, .int .u32 0, .bool false, .int .u32 0, .slice none 0 0], .int .i64 11]) (by simp [results, Try.results29, go_sem, q0, q1, q2, q3, q4, q5]) rfl ?_
              rw [HT.out]
              exact ⟨none, 0, 0, rfl, ret_noneG HS.out (HB0.out.trans (Below.mono B13.out HB0.out.size)) six_grown⟩
            · have hfull : r.length = skipT false false + m := by omega
              have d0 := P13.out.c0
              have d1 := P13.out.c1
              have d2 := P13.out.c2
              have d3 := P13.out.c3
              have d4 := P13.out.c4
              have d5 := P13.out.c5
              cases hmt : (false == decide (0 < n12))
              · have HT := hid (show grP l = zeroT 11 by rw [GQ.out]; unfold grT; rw [if_neg (by omega), if_neg (by omega), if_neg (by rw [← hn12]; intro e; rw [← e] at hmt; exact absurd hmt (by decide))])
                clear hql hsh hfull hn12
                go_upto_region 16 with (first | (go_at_call 61; ((with_reducible refine (bad_any _ _ _ _ _ R13.out).mono ?_); rintro e wq ⟨rfl, rfl⟩)) | (go_at_call 62; ((with_reducible refine (left_n _ _ _ _ _ ql R13.out QL.out).mono ?_); rintro e wq ⟨rfl, rfl⟩)) | (go_at_call 56; ((with_reducible refine (matched_any C0 false 0 false 0 a12 n12 c12 _).mono ?_); rintro e w14 ⟨rfl, b14⟩); have B14 := hid (B13.out.trans (b14.mono B13.out.size)); have P14 := hid (P13.out.below b14)))
                obtain ⟨z0, z1, z2, z3, z4, z5, y0, y1, y2, y3, y4, y5⟩ := Z.out _ B14.out
                go_wp2_with fail
                obtain ⟨q0, q1, q2, q3, q4, q5⟩ := six_cells (W := w14) (g := W.heap.size) (u0 := .int .u16 0) (u1 := .bool false) (u2 := .int .u32 0) (u3 := .bool false) (u4 := .int .u32 0) (u5 := .slice none 0 0) (fun j hj => by match j, hj with | 0, _ => exact ⟨_, z0⟩ | 1, _ => exact ⟨_, z1⟩ | 2, _ => exact ⟨_, z2⟩ | 3, _ => exact ⟨_, z3⟩ | 4, _ => exact ⟨_, z4⟩ | 5, _ => exact ⟨_, z5⟩)
                refine bodyPost_ret (v := .tuple #[.agg #[.int .u16 0, .bool false, .int .u32 0, .bool false, .int .u32 0, .slice none 0 0], .int .i64 11]) (by simp [results, Try.results29, go_sem, q0, q1, q2, q3, q4, q5]) rfl ?_
                rw [HT.out]
                exact ⟨none, 0, 0, rfl, ret_noneG HS.out (HB0.out.trans (Below.mono B14.out HB0.out.size)) six_grown⟩
              · have HT := hid (show grP l = ⟨C0, false, if false then n4 r else 0, false, if false then n4 (r.drop (if false then 4 else 0)) else 0, r.drop (skipT false false), 0⟩ by rw [GQ.out]; unfold grT; rw [if_neg (by omega), if_neg (by omega), if_pos (by rw [← hn12]; exact eq_of_beq hmt)])
                have O15 : Hid (w13.ownsRow W7.heap.size 5 1 (.slice a12 n12 c12) n12 ((r.drop (skipT false false)).map (Value.int .u8))) := by have := O13.out; rw [List.take_of_length_le (by rw [List.length_drop]; omega)] at this; exact this
                clear hql hsh hfull hn12
                go_upto_region 17 with (first | (go_at_call 61; ((with_reducible refine (bad_any _ _ _ _ _ R13.out).mono ?_); rintro e wq ⟨rfl, rfl⟩)) | (go_at_call 62; ((with_reducible refine (left_n _ _ _ _ _ ql R13.out QL.out).mono ?_); rintro e wq ⟨rfl, rfl⟩)) | (go_at_call 56; ((with_reducible refine (matched_any C0 false 0 false 0 a12 n12 c12 _).mono ?_); rintro e w14 ⟨rfl, b14⟩); have B14 := hid (B13.out.trans (b14.mono B13.out.size)); have P14 := hid (P13.out.below b14)))
                obtain ⟨z0, z1, z2, z3, z4, z5, y0, y1, y2, y3, y4, y5⟩ := Z.out _ B14.out
                clear d0 d1 d2 d3 d4 d5
                have d0 := P14.out.c0
                have d1 := P14.out.c1
                have d2 := P14.out.c2
                have d3 := P14.out.c3
                have d4 := P14.out.c4
                have d5 := P14.out.c5
                have O16 : Hid (w14.ownsRow W7.heap.size 5 1 (.slice a12 n12 c12) n12 ((r.drop (skipT false false)).map (Value.int .u8))) := O15.out.kept (gb_of_below b14 none) (by cases (Value.slice a12 n12 c12).ownBlock <;> simp)
                go_wp2_with fail
                obtain ⟨q0, q1, q2, q3, q4, q5⟩ := six_cells (W := w14) (g := W.heap.size) (u0 := .int .u16 C0) (u1 := .bool false) (u2 := .int .u32 0) (u3 := .bool false) (u4 := .int .u32 0) (u5 := .slice a12 n12 c12) (fun j hj => by match j, hj with | 0, _ => exact ⟨_, z0⟩ | 1, _ => exact ⟨_, z1⟩ | 2, _ => exact ⟨_, z2⟩ | 3, _ => exact ⟨_, z3⟩ | 4, _ => exact ⟨_, z4⟩ | 5, _ => exact ⟨_, z5⟩)
                refine bodyPost_ret (v := .tuple #[.agg #[.int .u16 C0, .bool false, .int .u32 0, .bool false, .int .u32 0, .slice a12 n12 c12], .int .i64 0]) (by simp [results, Try.results29, go_sem, q0, q1, q2, q3, q4, q5]) rfl ?_
                rw [HT.out]
                exact ⟨a12, _, c12, rfl, ret_ownG HS.out (HB0.out.trans (B14.out.mono HB0.out.size)) O16.out hbz six_grown⟩
          · have HT := hid (show grP l = zeroT 10 by rw [GQ.out]; unfold grT; rw [if_pos (by omega)])
            rw [enough, decide_eq_false hsh, Bool.not_false] at R13
            clear hsh
            go_upto_region 14 with (go_at_call 61; ((with_reducible refine (bad_any _ _ _ _ _ R13.out).mono ?_); rintro e wq ⟨rfl, rfl⟩))
            obtain ⟨z0, z1, z2, z3, z4, z5, y0, y1, y2, y3, y4, y5⟩ := Z.out _ B13.out
            go_wp2_with fail
            obtain ⟨q0, q1, q2, q3, q4, q5⟩ := six_cells (W := w13) (g := W.heap.size) (u0 := .int .u16 0) (u1 := .bool false) (u2 := .int .u32 0) (u3 := .bool false) (u4 := .int .u32 0) (u5 := .slice none 0 0) (fun j hj => by match j, hj with | 0, _ => exact ⟨_, z0⟩ | 1, _ => exact ⟨_, z1⟩ | 2, _ => exact ⟨_, z2⟩ | 3, _ => exact ⟨_, z3⟩ | 4, _ => exact ⟨_, z4⟩ | 5, _ => exact ⟨_, z5⟩)
            refine bodyPost_ret (v := .tuple #[.agg #[.int .u16 0, .bool false, .int .u32 0, .bool false, .int .u32 0, .slice none 0 0], .int .i64 10]) (by simp [results, Try.results29, go_sem, q0, q1, q2, q3, q4, q5]) rfl ?_
            rw [HT.out]
            exact ⟨none, 0, 0, rfl, ret_noneG HS.out (HB0.out.trans (Below.mono B13.out HB0.out.size)) six_grown⟩
        · have a1 : bits .andNot .u16 12289 4224 = 8193 := by decide
          have a2 : bits .and .u16 12289 4096 = 4096 := by decide
          have a3 : bits .and .u16 12289 128 = 0 := by decide
          have hpn : (P0 != 34827) = false := by simp [bne, hp]
          obtain ⟨r, hr⟩ : ∃ r, r = l.drop 8 := ⟨_, rfl⟩
          have GQ : Hid (grP l = grT true false C0 m r) := by rw [GP.out, if_pos hp, hr]; rfl
          have hrb : Byt r := hr ▸ HBy.out.drop 8
          have hrl : r.length ≤ 3000 := by rw [hr, List.length_drop]; have := HL.out; omega
          have RB := hid (r_byt hrb true false)
          have RE := hid hr
          have RBY := hid hrb
          clear hh hp GP hr hrb
          go_upto_region 8 with (go_at_call 58; ((with_reducible refine (u16_is _ _ _ l (0 + 2 + 2 + 2) C0 (by have := H8.out; omega) R5.out HBy.out HC_0.out).mono ?_); rintro e w6 ⟨rfl, r6, g6⟩; have B6 := hid (NX.out _ _ B5.out g6); rw [← RE.out] at r6; have R6 := hid r6; clear r6 g6))
          have P6 := hid (PAt.made (v0 := .int .u16 C0) (v1 := .bool true) (v2 := .int .u32 0) (v3 := .bool false) (v4 := .int .u32 0) (v5 := .slice none 0 0) w6 45)
          obtain ⟨pb, hpb⟩ : ∃ pb, pb = w6.heap.size := ⟨_, rfl⟩
          have z6 := B6.out.size
          obtain ⟨W7, hW7⟩ : ∃ W7, W7 = w6.alloc (.cells #[.int .u16 C0, .bool true, .int .u32 0, .bool false, .int .u32 0, .slice none 0 0] 45) := ⟨_, rfl⟩
          have R7 : Hid (RdrAt W7 W1.heap.size W1.heap.size false r) := by rw [hW7]; exact R6.out.below ((Below.refl _ _).alloc (Nat.le_refl _) _) R6.out.lt
          have B7 : Hid (Below W1.heap.size W1 W7) := by rw [hW7]; exact B6.out.alloc z6 _
          have P7 : Hid (PAt W7 pb (.int .u16 C0) (.bool true) (.int .u32 0) (.bool false) (.int .u32 0) (.slice none 0 0)) := by rw [hW7, hpb]; exact P6.out
          have hgp : W1.heap.size < pb := by rw [hpb]; exact R6.out.lt
          rw [← hW7, ← hpb]
          clear hW7 hpb P6 R6 z6 B6 R5 B5 B4 B3 B2
          have hne : pb ≠ W1.heap.size := by omega
          have hle : W1.heap.size ≤ pb := by omega
          have NS : Hid (∀ (w3 : World) (j : Nat) (u : Value), Below W1.heap.size W1 w3 → Below W1.heap.size W1 (w3.setCell ⟨pb, j, none⟩ u)) := fun w3 j u h => h.setCell hle u
          have k1 := P7.out.c1
          have k3 := P7.out.c3
          have k2 := P7.out.c2
          have k4 := P7.out.c4
          have f2 := P7.out.f 2
          have f4 := P7.out.f 4
          go_upto_region 10 with (go_at_call 59; ((with_reducible refine (u32_on _ _ _ _ _ R7.out RBY.out).mono ?_); rintro e w8 ⟨rfl, r8, g8⟩; have B8 := hid (NX.out _ _ B7.out g8); have R8 := hid r8; have P8 := hid (P7.out.grown g8 hne); clear r8 g8 k1 k2 k3 k4 f2 f4; have k1 := P8.out.c1; have k2 := P8.out.c2; have k3 := P8.out.c3; have k4 := P8.out.c4; have f2 := P8.out.f 2; have f4 := P8.out.f 4))
          obtain ⟨X1, hX1⟩ : ∃ X1, X1 = valN false r 4 := ⟨_, rfl⟩
          have HX1 := hid hX1
          have P9 := hid (P8.out.set2 (.int .u32 (valN false r 4)))
          have R9 := hid (rdr_set R8.out hne hle 2 (.int .u32 (valN false r 4)))
          have B9 := hid (NS.out _ 2 (.int .u32 (valN false r 4)) B8.out)
          rw [← hX1] at P9 R9 B9 ⊢
          clear k1 k2 k3 k4 f2 f4 P8 R8 B8 P7 R7 B7 hX1
          generalize w8.setCell ⟨pb, 2, none⟩ (.int .u32 X1) = w9 at *
          have k3 := P9.out.c3
          have k4 := P9.out.c4
          have f4 := P9.out.f 4
          have RBL : Hid (Byt (leftN false r 4)) := RB.out.1
          go_upto_region 12 with fail
          have RT : Hid (RdrAt w9 W1.heap.size W1.heap.size (b2 true false r) (r2 true false r)) := R9.out
          have EN := hid (enough true false r m)
          have c5 := P9.out.c5
          have f5 := P9.out.f 5
          go_upto_region 13 with (go_at_call 60; ((with_reducible refine (take_any _ _ _ _ _ m RT.out (by have := RB.out.2.2.2; omega)).mono ?_); rintro e w12 ⟨v12, rfl, a12, n12, c12, rfl, o12, r12, g12⟩; have B12 := hid (NX.out _ _ B9.out g12); have R12 := hid r12; have P12 := hid (P9.out.grown g12 hne); have O12 := hid o12; clear r12 g12 o12 c5 f5; have c5 := P12.out.c5; have f5 := P12.out.f 5))
          have P13 := hid (P12.out.set5 (.slice a12 n12 c12))
          have R13 := hid (rdr_set R12.out hne hle 5 (.slice a12 n12 c12))
          have B13 := hid (NS.out _ 5 (.slice a12 n12 c12) B12.out)
          have hbase : pb < w9.heap.size := P9.out.lt
          have O13 : Hid ((w12.setCell ⟨pb, 5, none⟩ (.slice a12 n12 c12)).ownsRow w9.heap.size 5 1 (.slice a12 n12 c12) n12 ((gotR (b2 true false r) (r2 true false r) m).map (Value.int .u8))) := O12.out.kept (gb_setCell (World.grownBy.refl w12 (some pb)) (p := ⟨pb, 5, none⟩) rfl _) (by
            cases hv : (Value.slice a12 n12 c12).ownBlock with
            | none => exact .inl rfl
            | some j => exact .inr (by have := (O12.out.lt j hv).1; intro e; injection e with e; omega))
          clear c5 f5 P12 R12 B12 P9 R9 B9 RT O12
          generalize w12.setCell ⟨pb, 5, none⟩ (.slice a12 n12 c12) = w13 at *
          have hbz : W.heap.size < w9.heap.size := by omega
          by_cases hsh : skipT true false + m ≤ r.length
          · have G := hid (all_good hsh)
            rw [enough, decide_eq_true hsh, Bool.not_true] at R13
            obtain ⟨q, hq⟩ : ∃ q, q = leftR (b2 true false r) (r2 true false r) m := ⟨_, rfl⟩
            rw [← hq] at R13
            have hgot : gotR (b2 true false r) (r2 true false r) m = (r.drop (skipT true false)).take m := by unfold gotR; rw [enough, decide_eq_true hsh, G.out.2.1]; simp
            have hql : q.length = r.length - skipT true false - m := by rw [hq]; unfold leftR; rw [enough, decide_eq_true hsh, G.out.2.1]; rw [Int.toNat_natCast, if_pos rfl, List.length_drop, List.length_drop]
            obtain ⟨ql, hqe⟩ : ∃ ql, q.length = ql := ⟨_, rfl⟩
            have QL := hid hqe
            rw [hqe] at hql
            clear hqe
            rw [hgot] at O13
            have hn12 : n12 = m := by have := O13.out.1; rw [List.length_map, List.length_take, List.length_drop] at this; omega
            clear hgot hq
            by_cases hleft : 0 < ql
            · have HT := hid (show grP l = zeroT 11 by rw [GQ.out]; unfold grT; rw [if_neg (by omega), if_pos (by omega)])
              clear hql hsh hn12
              go_upto_region 16 with (first | (go_at_call 61; ((with_reducible refine (bad_any _ _ _ _ _ R13.out).mono ?_); rintro e wq ⟨rfl, rfl⟩)) | (go_at_call 62; ((with_reducible refine (left_n _ _ _ _ _ ql R13.out QL.out).mono ?_); rintro e wq ⟨rfl, rfl⟩)))
              obtain ⟨z0, z1, z2, z3, z4, z5, y0, y1, y2, y3, y4, y5⟩ := Z.out _ B13.out
              go_wp2_with fail
              obtain ⟨q0, q1, q2, q3, q4, q5⟩ := six_cells (W := w13) (g := W.heap.size) (u0 := .int .u16 0) (u1 := .bool false) (u2 := .int .u32 0) (u3 := .bool false) (u4 := .int .u32 0) (u5 := .slice none 0 0) (fun j hj => by match j, hj with | 0, _ => exact ⟨_, z0⟩ | 1, _ => exact ⟨_, z1⟩ | 2, _ => exact ⟨_, z2⟩ | 3, _ => exact ⟨_, z3⟩ | 4, _ => exact ⟨_, z4⟩ | 5, _ => exact ⟨_, z5⟩)
              refine bodyPost_ret (v := .tuple #[.agg #[.int .u16 0, .bool false, .int .u32 0, .bool false, .int .u32 0, .slice none 0 0], .int .i64 11]) (by simp [results, Try.results29, go_sem, q0, q1, q2, q3, q4, q5]) rfl ?_
              rw [HT.out]
              exact ⟨none, 0, 0, rfl, ret_noneG HS.out (HB0.out.trans (Below.mono B13.out HB0.out.size)) six_grown⟩
            · have hfull : r.length = skipT true false + m := by omega
              have d0 := P13.out.c0
              have d1 := P13.out.c1
              have d2 := P13.out.c2
              have d3 := P13.out.c3
              have d4 := P13.out.c4
              have d5 := P13.out.c5
              cases hmt : (true == decide (0 < n12))
              · have HT := hid (show grP l = zeroT 11 by rw [GQ.out]; unfold grT; rw [if_neg (by omega), if_neg (by omega), if_neg (by rw [← hn12]; intro e; rw [← e] at hmt; exact absurd hmt (by decide))])
                clear hql hsh hfull hn12
                go_upto_region 16 with (first | (go_at_call 61; ((with_reducible refine (bad_any _ _ _ _ _ R13.out).mono ?_); rintro e wq ⟨rfl, rfl⟩)) | (go_at_call 62; ((with_reducible refine (left_n _ _ _ _ _ ql R13.out QL.out).mono ?_); rintro e wq ⟨rfl, rfl⟩)) | (go_at_call 56; ((with_reducible refine (matched_any C0 true X1 false 0 a12 n12 c12 _).mono ?_); rintro e w14 ⟨rfl, b14⟩); have B14 := hid (B13.out.trans (b14.mono B13.out.size)); have P14 := hid (P13.out.below b14)))
                obtain ⟨z0, z1, z2, z3, z4, z5, y0, y1, y2, y3, y4, y5⟩ := Z.out _ B14.out
                go_wp2_with fail
                obtain ⟨q0, q1, q2, q3, q4, q5⟩ := six_cells (W := w14) (g := W.heap.size) (u0 := .int .u16 0) (u1 := .bool false) (u2 := .int .u32 0) (u3 := .bool false) (u4 := .int .u32 0) (u5 := .slice none 0 0) (fun j hj => by match j, hj with | 0, _ => exact ⟨_, z0⟩ | 1, _ => exact ⟨_, z1⟩ | 2, _ => exact ⟨_, z2⟩ | 3, _ => exact ⟨_, z3⟩ | 4, _ => exact ⟨_, z4⟩ | 5, _ => exact ⟨_, z5⟩)
                refine bodyPost_ret (v := .tuple #[.agg #[.int .u16 0, .bool false, .int .u32 0, .bool false, .int .u32 0, .slice none 0 0], .int .i64 11]) (by simp [results, Try.results29, go_sem, q0, q1, q2, q3, q4, q5]) rfl ?_
                rw [HT.out]
                exact ⟨none, 0, 0, rfl, ret_noneG HS.out (HB0.out.trans (Below.mono B14.out HB0.out.size)) six_grown⟩
              · have HT := hid (show grP l = ⟨C0, true, if true then n4 r else 0, false, if false then n4 (r.drop (if true then 4 else 0)) else 0, r.drop (skipT true false), 0⟩ by rw [GQ.out]; unfold grT; rw [if_neg (by omega), if_neg (by omega), if_pos (by rw [← hn12]; exact eq_of_beq hmt)])
                have O15 : Hid (w13.ownsRow w9.heap.size 5 1 (.slice a12 n12 c12) n12 ((r.drop (skipT true false)).map (Value.int .u8))) := by have := O13.out; rw [List.take_of_length_le (by rw [List.length_drop]; omega)] at this; exact this
                have X1e := hid (show X1 = n4 r by rw [HX1.out]; exact (num_yes (show 4 ≤ r.length by unfold skipT at hfull; simp only [if_true] at hfull; omega)).2.2)
                clear hql hsh hfull hn12
                go_upto_region 17 with (first | (go_at_call 61; ((with_reducible refine (bad_any _ _ _ _ _ R13.out).mono ?_); rintro e wq ⟨rfl, rfl⟩)) | (go_at_call 62; ((with_reducible refine (left_n _ _ _ _ _ ql R13.out QL.out).mono ?_); rintro e wq ⟨rfl, rfl⟩)) | (go_at_call 56; ((with_reducible refine (matched_any C0 true X1 false 0 a12 n12 c12 _).mono ?_); rintro e w14 ⟨rfl, b14⟩); have B14 := hid (B13.out.trans (b14.mono B13.out.size)); have P14 := hid (P13.out.below b14)))
                obtain ⟨z0, z1, z2, z3, z4, z5, y0, y1, y2, y3, y4, y5⟩ := Z.out _ B14.out
                clear d0 d1 d2 d3 d4 d5
                have d0 := P14.out.c0
                have d1 := P14.out.c1
                have d2 := P14.out.c2
                have d3 := P14.out.c3
                have d4 := P14.out.c4
                have d5 := P14.out.c5
                have O16 : Hid (w14.ownsRow w9.heap.size 5 1 (.slice a12 n12 c12) n12 ((r.drop (skipT true false)).map (Value.int .u8))) := O15.out.kept (gb_of_below b14 none) (by cases (Value.slice a12 n12 c12).ownBlock <;> simp)
                go_wp2_with fail
                obtain ⟨q0, q1, q2, q3, q4, q5⟩ := six_cells (W := w14) (g := W.heap.size) (u0 := .int .u16 C0) (u1 := .bool true) (u2 := .int .u32 X1) (u3 := .bool false) (u4 := .int .u32 0) (u5 := .slice a12 n12 c12) (fun j hj => by match j, hj with | 0, _ => exact ⟨_, z0⟩ | 1, _ => exact ⟨_, z1⟩ | 2, _ => exact ⟨_, z2⟩ | 3, _ => exact ⟨_, z3⟩ | 4, _ => exact ⟨_, z4⟩ | 5, _ => exact ⟨_, z5⟩)
                refine bodyPost_ret (v := .tuple #[.agg #[.int .u16 C0, .bool true, .int .u32 X1, .bool false, .int .u32 0, .slice a12 n12 c12], .int .i64 0]) (by simp [results, Try.results29, go_sem, q0, q1, q2, q3, q4, q5]) rfl ?_
                rw [HT.out]
                rw [X1e.out]
                exact ⟨a12, _, c12, rfl, ret_ownG HS.out (HB0.out.trans (B14.out.mono HB0.out.size)) O16.out hbz six_grown⟩
          · have HT := hid (show grP l = zeroT 10 by rw [GQ.out]; unfold grT; rw [if_pos (by omega)])
            rw [enough, decide_eq_false hsh, Bool.not_false] at R13
            clear hsh
            go_upto_region 14 with (go_at_call 61; ((with_reducible refine (bad_any _ _ _ _ _ R13.out).mono ?_); rintro e wq ⟨rfl, rfl⟩))
            obtain ⟨z0, z1, z2, z3, z4, z5, y0, y1, y2, y3, y4, y5⟩ := Z.out _ B13.out
            go_wp2_with fail
            obtain ⟨q0, q1, q2, q3, q4, q5⟩ := six_cells (W := w13) (g := W.heap.size) (u0 := .int .u16 0) (u1 := .bool false) (u2 := .int .u32 0) (u3 := .bool false) (u4 := .int .u32 0) (u5 := .slice none 0 0) (fun j hj => by match j, hj with | 0, _ => exact ⟨_, z0⟩ | 1, _ => exact ⟨_, z1⟩ | 2, _ => exact ⟨_, z2⟩ | 3, _ => exact ⟨_, z3⟩ | 4, _ => exact ⟨_, z4⟩ | 5, _ => exact ⟨_, z5⟩)
            refine bodyPost_ret (v := .tuple #[.agg #[.int .u16 0, .bool false, .int .u32 0, .bool false, .int .u32 0, .slice none 0 0], .int .i64 10]) (by simp [results, Try.results29, go_sem, q0, q1, q2, q3, q4, q5]) rfl ?_
            rw [HT.out]
            exact ⟨none, 0, 0, rfl, ret_noneG HS.out (HB0.out.trans (Below.mono B13.out HB0.out.size)) six_grown⟩
        · have a1 : bits .andNot .u16 8321 4224 = 8193 := by decide
          have a2 : bits .and .u16 8321 4096 = 0 := by decide
          have a3 : bits .and .u16 8321 128 = 128 := by decide
          have hpn : (P0 != 34827) = false := by simp [bne, hp]
          obtain ⟨r, hr⟩ : ∃ r, r = l.drop 8 := ⟨_, rfl⟩
          have GQ : Hid (grP l = grT false true C0 m r) := by rw [GP.out, if_pos hp, hr]; rfl
          have hrb : Byt r := hr ▸ HBy.out.drop 8
          have hrl : r.length ≤ 3000 := by rw [hr, List.length_drop]; have := HL.out; omega
          have RB := hid (r_byt hrb false true)
          have RE := hid hr
          have RBY := hid hrb
          clear hh hp GP hr hrb
          go_upto_region 8 with (go_at_call 58; ((with_reducible refine (u16_is _ _ _ l (0 + 2 + 2 + 2) C0 (by have := H8.out; omega) R5.out HBy.out HC_0.out).mono ?_); rintro e w6 ⟨rfl, r6, g6⟩; have B6 := hid (NX.out _ _ B5.out g6); rw [← RE.out] at r6; have R6 := hid r6; clear r6 g6))
          have P6 := hid (PAt.made (v0 := .int .u16 C0) (v1 := .bool false) (v2 := .int .u32 0) (v3 := .bool true) (v4 := .int .u32 0) (v5 := .slice none 0 0) w6 45)
          obtain ⟨pb, hpb⟩ : ∃ pb, pb = w6.heap.size := ⟨_, rfl⟩
          have z6 := B6.out.size
          obtain ⟨W7, hW7⟩ : ∃ W7, W7 = w6.alloc (.cells #[.int .u16 C0, .bool false, .int .u32 0, .bool true, .int .u32 0, .slice none 0 0] 45) := ⟨_, rfl⟩
          have R7 : Hid (RdrAt W7 W1.heap.size W1.heap.size false r) := by rw [hW7]; exact R6.out.below ((Below.refl _ _).alloc (Nat.le_refl _) _) R6.out.lt
          have B7 : Hid (Below W1.heap.size W1 W7) := by rw [hW7]; exact B6.out.alloc z6 _
          have P7 : Hid (PAt W7 pb (.int .u16 C0) (.bool false) (.int .u32 0) (.bool true) (.int .u32 0) (.slice none 0 0)) := by rw [hW7, hpb]; exact P6.out
          have hgp : W1.heap.size < pb := by rw [hpb]; exact R6.out.lt
          rw [← hW7, ← hpb]
          clear hW7 hpb P6 R6 z6 B6 R5 B5 B4 B3 B2
          have hne : pb ≠ W1.heap.size := by omega
          have hle : W1.heap.size ≤ pb := by omega
          have NS : Hid (∀ (w3 : World) (j : Nat) (u : Value), Below W1.heap.size W1 w3 → Below W1.heap.size W1 (w3.setCell ⟨pb, j, none⟩ u)) := fun w3 j u h => h.setCell hle u
          have k1 := P7.out.c1
          have k3 := P7.out.c3
          have k2 := P7.out.c2
          have k4 := P7.out.c4
          have f2 := P7.out.f 2
          have f4 := P7.out.f 4
          go_upto_region 12 with (go_at_call 59; ((with_reducible refine (u32_on _ _ _ _ _ R7.out RBY.out).mono ?_); rintro e w10 ⟨rfl, r10, g10⟩; have B10 := hid (NX.out _ _ B7.out g10); have R10 := hid r10; have P10 := hid (P7.out.grown g10 hne); clear r10 g10 k3 k4 f4; have k3 := P10.out.c3; have k4 := P10.out.c4; have f4 := P10.out.f 4))
          obtain ⟨X2, hX2⟩ : ∃ X2, X2 = valN false r 4 := ⟨_, rfl⟩
          have HX2 := hid hX2
          have P11 := hid (P10.out.set4 (.int .u32 (valN false r 4)))
          have R11 := hid (rdr_set R10.out hne hle 4 (.int .u32 (valN false r 4)))
          have B11 := hid (NS.out _ 4 (.int .u32 (valN false r 4)) B10.out)
          rw [← hX2] at P11 R11 B11 ⊢
          clear k3 k4 f4 P10 R10 B10 P7 R7 B7 hX2
          generalize w10.setCell ⟨pb, 4, none⟩ (.int .u32 X2) = w11 at *
          have RT : Hid (RdrAt w11 W1.heap.size W1.heap.size (b2 false true r) (r2 false true r)) := R11.out
          have EN := hid (enough false true r m)
          have c5 := P11.out.c5
          have f5 := P11.out.f 5
          go_upto_region 13 with (go_at_call 60; ((with_reducible refine (take_any _ _ _ _ _ m RT.out (by have := RB.out.2.2.2; omega)).mono ?_); rintro e w12 ⟨v12, rfl, a12, n12, c12, rfl, o12, r12, g12⟩; have B12 := hid (NX.out _ _ B11.out g12); have R12 := hid r12; have P12 := hid (P11.out.grown g12 hne); have O12 := hid o12; clear r12 g12 o12 c5 f5; have c5 := P12.out.c5; have f5 := P12.out.f 5))
          have P13 := hid (P12.out.set5 (.slice a12 n12 c12))
          have R13 := hid (rdr_set R12.out hne hle 5 (.slice a12 n12 c12))
          have B13 := hid (NS.out _ 5 (.slice a12 n12 c12) B12.out)
          have hbase : pb < w11.heap.size := P11.out.lt
          have O13 : Hid ((w12.setCell ⟨pb, 5, none⟩ (.slice a12 n12 c12)).ownsRow w11.heap.size 5 1 (.slice a12 n12 c12) n12 ((gotR (b2 false true r) (r2 false true r) m).map (Value.int .u8))) := O12.out.kept (gb_setCell (World.grownBy.refl w12 (some pb)) (p := ⟨pb, 5, none⟩) rfl _) (by
            cases hv : (Value.slice a12 n12 c12).ownBlock with
            | none => exact .inl rfl
            | some j => exact .inr (by have := (O12.out.lt j hv).1; intro e; injection e with e; omega))
          clear c5 f5 P12 R12 B12 P11 R11 B11 RT O12
          generalize w12.setCell ⟨pb, 5, none⟩ (.slice a12 n12 c12) = w13 at *
          have hbz : W.heap.size < w11.heap.size := by omega
          by_cases hsh : skipT false true + m ≤ r.length
          · have G := hid (all_good hsh)
            rw [enough, decide_eq_true hsh, Bool.not_true] at R13
            obtain ⟨q, hq⟩ : ∃ q, q = leftR (b2 false true r) (r2 false true r) m := ⟨_, rfl⟩
            rw [← hq] at R13
            have hgot : gotR (b2 false true r) (r2 false true r) m = (r.drop (skipT false true)).take m := by unfold gotR; rw [enough, decide_eq_true hsh, G.out.2.1]; simp
            have hql : q.length = r.length - skipT false true - m := by rw [hq]; unfold leftR; rw [enough, decide_eq_true hsh, G.out.2.1]; rw [Int.toNat_natCast, if_pos rfl, List.length_drop, List.length_drop]
            obtain ⟨ql, hqe⟩ : ∃ ql, q.length = ql := ⟨_, rfl⟩
            have QL := hid hqe
            rw [hqe] at hql
            clear hqe
            rw [hgot] at O13
            have hn12 : n12 = m := by have := O13.out.1; rw [List.length_map, List.length_take, List.length_drop] at this; omega
            clear hgot hq
            by_cases hleft : 0 < ql
            · have HT := hid (show grP l = zeroT 11 by rw [GQ.out]; unfold grT; rw [if_neg (by omega), if_pos (by omega)])
              clear hql hsh hn12
              go_upto_region 16 with (first | (go_at_call 61; ((with_reducible refine (bad_any _ _ _ _ _ R13.out).mono ?_); rintro e wq ⟨rfl, rfl⟩)) | (go_at_call 62; ((with_reducible refine (left_n _ _ _ _ _ ql R13.out QL.out).mono ?_); rintro e wq ⟨rfl, rfl⟩)))
              obtain ⟨z0, z1, z2, z3, z4, z5, y0, y1, y2, y3, y4, y5⟩ := Z.out _ B13.out
              go_wp2_with fail
              obtain ⟨q0, q1, q2, q3, q4, q5⟩ := six_cells (W := w13) (g := W.heap.size) (u0 := .int .u16 0) (u1 := .bool false) (u2 := .int .u32 0) (u3 := .bool false) (u4 := .int .u32 0) (u5 := .slice none 0 0) (fun j hj => by match j, hj with | 0, _ => exact ⟨_, z0⟩ | 1, _ => exact ⟨_, z1⟩ | 2, _ => exact ⟨_, z2⟩ | 3, _ => exact ⟨_, z3⟩ | 4, _ => exact ⟨_, z4⟩ | 5, _ => exact ⟨_, z5⟩)
              refine bodyPost_ret (v := .tuple #[.agg #[.int .u16 0, .bool false, .int .u32 0, .bool false, .int .u32 0, .slice none 0 0], .int .i64 11]) (by simp [results, Try.results29, go_sem, q0, q1, q2, q3, q4, q5]) rfl ?_
              rw [HT.out]
              exact ⟨none, 0, 0, rfl, ret_noneG HS.out (HB0.out.trans (Below.mono B13.out HB0.out.size)) six_grown⟩
            · have hfull : r.length = skipT false true + m := by omega
              have d0 := P13.out.c0
              have d1 := P13.out.c1
              have d2 := P13.out.c2
              have d3 := P13.out.c3
              have d4 := P13.out.c4
              have d5 := P13.out.c5
              cases hmt : (false == decide (0 < n12))
              · have HT := hid (show grP l = zeroT 11 by rw [GQ.out]; unfold grT; rw [if_neg (by omega), if_neg (by omega), if_neg (by rw [← hn12]; intro e; rw [← e] at hmt; exact absurd hmt (by decide))])
                clear hql hsh hfull hn12
                go_upto_region 16 with (first | (go_at_call 61; ((with_reducible refine (bad_any _ _ _ _ _ R13.out).mono ?_); rintro e wq ⟨rfl, rfl⟩)) | (go_at_call 62; ((with_reducible refine (left_n _ _ _ _ _ ql R13.out QL.out).mono ?_); rintro e wq ⟨rfl, rfl⟩)) | (go_at_call 56; ((with_reducible refine (matched_any C0 false 0 true X2 a12 n12 c12 _).mono ?_); rintro e w14 ⟨rfl, b14⟩); have B14 := hid (B13.out.trans (b14.mono B13.out.size)); have P14 := hid (P13.out.below b14)))
                obtain ⟨z0, z1, z2, z3, z4, z5, y0, y1, y2, y3, y4, y5⟩ := Z.out _ B14.out
                go_wp2_with fail
                obtain ⟨q0, q1, q2, q3, q4, q5⟩ := six_cells (W := w14) (g := W.heap.size) (u0 := .int .u16 0) (u1 := .bool false) (u2 := .int .u32 0) (u3 := .bool false) (u4 := .int .u32 0) (u5 := .slice none 0 0) (fun j hj => by match j, hj with | 0, _ => exact ⟨_, z0⟩ | 1, _ => exact ⟨_, z1⟩ | 2, _ => exact ⟨_, z2⟩ | 3, _ => exact ⟨_, z3⟩ | 4, _ => exact ⟨_, z4⟩ | 5, _ => exact ⟨_, z5⟩)
                refine bodyPost_ret (v := .tuple #[.agg #[.int .u16 0, .bool false, .int .u32 0, .bool false, .int .u32 0, .slice none 0 0], .int .i64 11]) (by simp [results, Try.results29, go_sem, q0, q1, q2, q3, q4, q5]) rfl ?_
                rw [HT.out]
                exact ⟨none, 0, 0, rfl, ret_noneG HS.out (HB0.out.trans (Below.mono B14.out HB0.out.size)) six_grown⟩
              · have HT := hid (show grP l = ⟨C0, false, if false then n4 r else 0, true, if true then n4 (r.drop (if false then 4 else 0)) else 0, r.drop (skipT false true), 0⟩ by rw [GQ.out]; unfold grT; rw [if_neg (by omega), if_neg (by omega), if_pos (by rw [← hn12]; exact eq_of_beq hmt)])
                have O15 : Hid (w13.ownsRow w11.heap.size 5 1 (.slice a12 n12 c12) n12 ((r.drop (skipT false true)).map (Value.int .u8))) := by have := O13.out; rw [List.take_of_length_le (by rw [List.length_drop]; omega)] at this; exact this
                have X2e := hid (show X2 = n4 (r.drop 0) by rw [HX2.out, List.drop_zero]; exact (num_yes (show 4 ≤ r.length by unfold skipT at hfull; simp only [if_true] at hfull; omega)).2.2)
                clear hql hsh hfull hn12
                go_upto_region 17 with (first | (go_at_call 61; ((with_reducible refine (bad_any _ _ _ _ _ R13.out).mono ?_); rintro e wq ⟨rfl, rfl⟩)) | (go_at_call 62; ((with_reducible refine (left_n _ _ _ _ _ ql R13.out QL.out).mono ?_); rintro e wq ⟨rfl, rfl⟩)) | (go_at_call 56; ((with_reducible refine (matched_any C0 false 0 true X2 a12 n12 c12 _).mono ?_); rintro e w14 ⟨rfl, b14⟩); have B14 := hid (B13.out.trans (b14.mono B13.out.size)); have P14 := hid (P13.out.below b14)))
                obtain ⟨z0, z1, z2, z3, z4, z5, y0, y1, y2, y3, y4, y5⟩ := Z.out _ B14.out
                clear d0 d1 d2 d3 d4 d5
                have d0 := P14.out.c0
                have d1 := P14.out.c1
                have d2 := P14.out.c2
                have d3 := P14.out.c3
                have d4 := P14.out.c4
                have d5 := P14.out.c5
                have O16 : Hid (w14.ownsRow w11.heap.size 5 1 (.slice a12 n12 c12) n12 ((r.drop (skipT false true)).map (Value.int .u8))) := O15.out.kept (gb_of_below b14 none) (by cases (Value.slice a12 n12 c12).ownBlock <;> simp)
                go_wp2_with fail
                obtain ⟨q0, q1, q2, q3, q4, q5⟩ := six_cells (W := w14) (g := W.heap.size) (u0 := .int .u16 C0) (u1 := .bool false) (u2 := .int .u32 0) (u3 := .bool true) (u4 := .int .u32 X2) (u5 := .slice a12 n12 c12) (fun j hj => by match j, hj with | 0, _ => exact ⟨_, z0⟩ | 1, _ => exact ⟨_, z1⟩ | 2, _ => exact ⟨_, z2⟩ | 3, _ => exact ⟨_, z3⟩ | 4, _ => exact ⟨_, z4⟩ | 5, _ => exact ⟨_, z5⟩)
                refine bodyPost_ret (v := .tuple #[.agg #[.int .u16 C0, .bool false, .int .u32 0, .bool true, .int .u32 X2, .slice a12 n12 c12], .int .i64 0]) (by simp [results, Try.results29, go_sem, q0, q1, q2, q3, q4, q5]) rfl ?_
                rw [HT.out]
                rw [X2e.out]
                exact ⟨a12, _, c12, rfl, ret_ownG HS.out (HB0.out.trans (B14.out.mono HB0.out.size)) O16.out hbz six_grown⟩
          · have HT := hid (show grP l = zeroT 10 by rw [GQ.out]; unfold grT; rw [if_pos (by omega)])
            rw [enough, decide_eq_false hsh, Bool.not_false] at R13
            clear hsh
            go_upto_region 14 with (go_at_call 61; ((with_reducible refine (bad_any _ _ _ _ _ R13.out).mono ?_); rintro e wq ⟨rfl, rfl⟩))
            obtain ⟨z0, z1, z2, z3, z4, z5, y0, y1, y2, y3, y4, y5⟩ := Z.out _ B13.out
            go_wp2_with fail
            obtain ⟨q0, q1, q2, q3, q4, q5⟩ := six_cells (W := w13) (g := W.heap.size) (u0 := .int .u16 0) (u1 := .bool false) (u2 := .int .u32 0) (u3 := .bool false) (u4 := .int .u32 0) (u5 := .slice none 0 0) (fun j hj => by match j, hj with | 0, _ => exact ⟨_, z0⟩ | 1, _ => exact ⟨_, z1⟩ | 2, _ => exact ⟨_, z2⟩ | 3, _ => exact ⟨_, z3⟩ | 4, _ => exact ⟨_, z4⟩ | 5, _ => exact ⟨_, z5⟩)
            refine bodyPost_ret (v := .tuple #[.agg #[.int .u16 0, .bool false, .int .u32 0, .bool false, .int .u32 0, .slice none 0 0], .int .i64 10]) (by simp [results, Try.results29, go_sem, q0, q1, q2, q3, q4, q5]) rfl ?_
            rw [HT.out]
            exact ⟨none, 0, 0, rfl, ret_noneG HS.out (HB0.out.trans (Below.mono B13.out HB0.out.size)) six_grown⟩
        · have a1 : bits .andNot .u16 12417 4224 = 8193 := by decide
          have a2 : bits .and .u16 12417 4096 = 4096 := by decide
          have a3 : bits .and .u16 12417 128 = 128 := by decide
          have hpn : (P0 != 34827) = false := by simp [bne, hp]
          obtain ⟨r, hr⟩ : ∃ r, r = l.drop 8 := ⟨_, rfl⟩
          have GQ : Hid (grP l = grT true true C0 m r) := by rw [GP.out, if_pos hp, hr]; rfl
          have hrb : Byt r := hr ▸ HBy.out.drop 8
          have hrl : r.length ≤ 3000 := by rw [hr, List.length_drop]; have := HL.out; omega
          have RB := hid (r_byt hrb true true)
          have RE := hid hr
          have RBY := hid hrb
          clear hh hp GP hr hrb
          go_upto_region 8 with (go_at_call 58; ((with_reducible refine (u16_is _ _ _ l (0 + 2 + 2 + 2) C0 (by have := H8.out; omega) R5.out HBy.out HC_0.out).mono ?_); rintro e w6 ⟨rfl, r6, g6⟩; have B6 := hid (NX.out _ _ B5.out g6); rw [← RE.out] at r6; have R6 := hid r6; clear r6 g6))
          have P6 := hid (PAt.made (v0 := .int .u16 C0) (v1 := .bool true) (v2 := .int .u32 0) (v3 := .bool true) (v4 := .int .u32 0) (v5 := .slice none 0 0) w6 45)
          obtain ⟨pb, hpb⟩ : ∃ pb, pb = w6.heap.size := ⟨_, rfl⟩
          have z6 := B6.out.size
          obtain ⟨W7, hW7⟩ : ∃ W7, W7 = w6.alloc (.cells #[.int .u16 C0, .bool true, .int .u32 0, .bool true, .int .u32 0, .slice none 0 0] 45) := ⟨_, rfl⟩
          have R7 : Hid (RdrAt W7 W1.heap.size W1.heap.size false r) := by rw [hW7]; exact R6.out.below ((Below.refl _ _).alloc (Nat.le_refl _) _) R6.out.lt
          have B7 : Hid (Below W1.heap.size W1 W7) := by rw [hW7]; exact B6.out.alloc z6 _
          have P7 : Hid (PAt W7 pb (.int .u16 C0) (.bool true) (.int .u32 0) (.bool true) (.int .u32 0) (.slice none 0 0)) := by rw [hW7, hpb]; exact P6.out
          have hgp : W1.heap.size < pb := by rw [hpb]; exact R6.out.lt
          rw [← hW7, ← hpb]
          clear hW7 hpb P6 R6 z6 B6 R5 B5 B4 B3 B2
          have hne : pb ≠ W1.heap.size := by omega
          have hle : W1.heap.size ≤ pb := by omega
          have NS : Hid (∀ (w3 : World) (j : Nat) (u : Value), Below W1.heap.size W1 w3 → Below W1.heap.size W1 (w3.setCell ⟨pb, j, none⟩ u)) := fun w3 j u h => h.setCell hle u
          have k1 := P7.out.c1
          have k3 := P7.out.c3
          have k2 := P7.out.c2
          have k4 := P7.out.c4
          have f2 := P7.out.f 2
          have f4 := P7.out.f 4
          go_upto_region 10 with (go_at_call 59; ((with_reducible refine (u32_on _ _ _ _ _ R7.out RBY.out).mono ?_); rintro e w8 ⟨rfl, r8, g8⟩; have B8 := hid (NX.out _ _ B7.out g8); have R8 := hid r8; have P8 := hid (P7.out.grown g8 hne); clear r8 g8 k1 k2 k3 k4 f2 f4; have k1 := P8.out.c1; have k2 := P8.out.c2; have k3 := P8.out.c3; have k4 := P8.out.c4; have f2 := P8.out.f 2; have f4 := P8.out.f 4))
          obtain ⟨X1, hX1⟩ : ∃ X1, X1 = valN false r 4 := ⟨_, rfl⟩
          have HX1 := hid hX1
          have P9 := hid (P8.out.set2 (.int .u32 (valN false r 4)))
          have R9 := hid (rdr_set R8.out hne hle 2 (.int .u32 (valN false r 4)))
          have B9 := hid (NS.out _ 2 (.int .u32 (valN false r 4)) B8.out)
          rw [← hX1] at P9 R9 B9 ⊢
          clear k1 k2 k3 k4 f2 f4 P8 R8 B8 P7 R7 B7 hX1
          generalize w8.setCell ⟨pb, 2, none⟩ (.int .u32 X1) = w9 at *
          have k3 := P9.out.c3
          have k4 := P9.out.c4
          have f4 := P9.out.f 4
          have RBL : Hid (Byt (leftN false r 4)) := RB.out.1
          go_upto_region 12 with (go_at_call 59; ((with_reducible refine (u32_on _ _ _ _ _ R9.out RBL.out).mono ?_); rintro e w10 ⟨rfl, r10, g10⟩; have B10 := hid (NX.out _ _ B9.out g10); have R10 := hid r10; have P10 := hid (P9.out.grown g10 hne); clear r10 g10 k3 k4 f4; have k3 := P10.out.c3; have k4 := P10.out.c4; have f4 := P10.out.f 4))
          obtain ⟨X2, hX2⟩ : ∃ X2, X2 = valN (!okN false r 4) (leftN false r 4) 4 := ⟨_, rfl⟩
          have HX2 := hid hX2
          have P11 := hid (P10.out.set4 (.int .u32 (valN (!okN false r 4) (leftN false r 4) 4)))
          have R11 := hid (rdr_set R10.out hne hle 4 (.int .u32 (valN (!okN false r 4) (leftN false r 4) 4)))
          have B11 := hid (NS.out _ 4 (.int .u32 (valN (!okN false r 4) (leftN false r 4) 4)) B10.out)
          rw [← hX2] at P11 R11 B11 ⊢
          clear k3 k4 f4 P10 R10 B10 P9 R9 B9 hX2
          generalize w10.setCell ⟨pb, 4, none⟩ (.int .u32 X2) = w11 at *
          have RT : Hid (RdrAt w11 W1.heap.size W1.heap.size (b2 true true r) (r2 true true r)) := R11.out
          have EN := hid (enough true true r m)
          have c5 := P11.out.c5
          have f5 := P11.out.f 5
          go_upto_region 13 with (go_at_call 60; ((with_reducible refine (take_any _ _ _ _ _ m RT.out (by have := RB.out.2.2.2; omega)).mono ?_); rintro e w12 ⟨v12, rfl, a12, n12, c12, rfl, o12, r12, g12⟩; have B12 := hid (NX.out _ _ B11.out g12); have R12 := hid r12; have P12 := hid (P11.out.grown g12 hne); have O12 := hid o12; clear r12 g12 o12 c5 f5; have c5 := P12.out.c5; have f5 := P12.out.f 5))
          have P13 := hid (P12.out.set5 (.slice a12 n12 c12))
          have R13 := hid (rdr_set R12.out hne hle 5 (.slice a12 n12 c12))
          have B13 := hid (NS.out _ 5 (.slice a12 n12 c12) B12.out)
          have hbase : pb < w11.heap.size := P11.out.lt
          have O13 : Hid ((w12.setCell ⟨pb, 5, none⟩ (.slice a12 n12 c12)).ownsRow w11.heap.size 5 1 (.slice a12 n12 c12) n12 ((gotR (b2 true true r) (r2 true true r) m).map (Value.int .u8))) := O12.out.kept (gb_setCell (World.grownBy.refl w12 (some pb)) (p := ⟨pb, 5, none⟩) rfl _) (by
            cases hv : (Value.slice a12 n12 c12).ownBlock with
            | none => exact .inl rfl
            | some j => exact .inr (by have := (O12.out.lt j hv).1; intro e; injection e with e; omega))
          clear c5 f5 P12 R12 B12 P11 R11 B11 RT O12
          generalize w12.setCell ⟨pb, 5, none⟩ (.slice a12 n12 c12) = w13 at *
          have hbz : W.heap.size < w11.heap.size := by omega
          by_cases hsh : skipT true true + m ≤ r.length
          · have G := hid (all_good hsh)
            rw [enough, decide_eq_true hsh, Bool.not_true] at R13
            obtain ⟨q, hq⟩ : ∃ q, q = leftR (b2 true true r) (r2 true true r) m := ⟨_, rfl⟩
            rw [← hq] at R13
            have hgot : gotR (b2 true true r) (r2 true true r) m = (r.drop (skipT true true)).take m := by unfold gotR; rw [enough, decide_eq_true hsh, G.out.2.1]; simp
            have hql : q.length = r.length - skipT true true - m := by rw [hq]; unfold leftR; rw [enough, decide_eq_true hsh, G.out.2.1]; rw [Int.toNat_natCast, if_pos rfl, List.length_drop, List.length_drop]
            obtain ⟨ql, hqe⟩ : ∃ ql, q.length = ql := ⟨_, rfl⟩
            have QL := hid hqe
            rw [hqe] at hql
            clear hqe
            rw [hgot] at O13
            have hn12 : n12 = m := by have := O13.out.1; rw [List.length_map, List.length_take, List.length_drop] at this; omega
            clear hgot hq
            by_cases hleft : 0 < ql
            · have HT := hid (show grP l = zeroT 11 by rw [GQ.out]; unfold grT; rw [if_neg (by omega), if_pos (by omega)])
              clear hql hsh hn12
              go_upto_region 16 with (first | (go_at_call 61; ((with_reducible refine (bad_any _ _ _ _ _ R13.out).mono ?_); rintro e wq ⟨rfl, rfl⟩)) | (go_at_call 62; ((with_reducible refine (left_n _ _ _ _ _ ql R13.out QL.out).mono ?_); rintro e wq ⟨rfl, rfl⟩)))
              obtain ⟨z0, z1, z2, z3, z4, z5, y0, y1, y2, y3, y4, y5⟩ := Z.out _ B13.out
              go_wp2_with fail
              obtain ⟨q0, q1, q2, q3, q4, q5⟩ := six_cells (W := w13) (g := W.heap.size) (u0 := .int .u16 0) (u1 := .bool false) (u2 := .int .u32 0) (u3 := .bool false) (u4 := .int .u32 0) (u5 := .slice none 0 0) (fun j hj => by match j, hj with | 0, _ => exact ⟨_, z0⟩ | 1, _ => exact ⟨_, z1⟩ | 2, _ => exact ⟨_, z2⟩ | 3, _ => exact ⟨_, z3⟩ | 4, _ => exact ⟨_, z4⟩ | 5, _ => exact ⟨_, z5⟩)
              refine bodyPost_ret (v := .tuple #[.agg #[.int .u16 0, .bool false, .int .u32 0, .bool false, .int .u32 0, .slice none 0 0], .int .i64 11]) (by simp [results, Try.results29, go_sem, q0, q1, q2, q3, q4, q5]) rfl ?_
              rw [HT.out]
              exact ⟨none, 0, 0, rfl, ret_noneG HS.out (HB0.out.trans (Below.mono B13.out HB0.out.size)) six_grown⟩
            · have hfull : r.length = skipT true true + m := by omega
              have d0 := P13.out.c0
              have d1 := P13.out.c1
              have d2 := P13.out.c2
              have d3 := P13.out.c3
              have d4 := P13.out.c4
              have d5 := P13.out.c5
              cases hmt : (true == decide (0 < n12))
              · have HT := hid (show grP l = zeroT 11 by rw [GQ.out]; unfold grT; rw [if_neg (by omega), if_neg (by omega), if_neg (by rw [← hn12]; intro e; rw [← e] at hmt; exact absurd hmt (by decide))])
                clear hql hsh hfull hn12
                go_upto_region 16 with (first | (go_at_call 61; ((with_reducible refine (bad_any _ _ _ _ _ R13.out).mono ?_); rintro e wq ⟨rfl, rfl⟩)) | (go_at_call 62; ((with_reducible refine (left_n _ _ _ _ _ ql R13.out QL.out).mono ?_); rintro e wq ⟨rfl, rfl⟩)) | (go_at_call 56; ((with_reducible refine (matched_any C0 true X1 true X2 a12 n12 c12 _).mono ?_); rintro e w14 ⟨rfl, b14⟩); have B14 := hid (B13.out.trans (b14.mono B13.out.size)); have P14 := hid (P13.out.below b14)))
                obtain ⟨z0, z1, z2, z3, z4, z5, y0, y1, y2, y3, y4, y5⟩ := Z.out _ B14.out
                go_wp2_with fail
                obtain ⟨q0, q1, q2, q3, q4, q5⟩ := six_cells (W := w14) (g := W.heap.size) (u0 := .int .u16 0) (u1 := .bool false) (u2 := .int .u32 0) (u3 := .bool false) (u4 := .int .u32 0) (u5 := .slice none 0 0) (fun j hj => by match j, hj with | 0, _ => exact ⟨_, z0⟩ | 1, _ => exact ⟨_, z1⟩ | 2, _ => exact ⟨_, z2⟩ | 3, _ => exact ⟨_, z3⟩ | 4, _ => exact ⟨_, z4⟩ | 5, _ => exact ⟨_, z5⟩)
                refine bodyPost_ret (v := .tuple #[.agg #[.int .u16 0, .bool false, .int .u32 0, .bool false, .int .u32 0, .slice none 0 0], .int .i64 11]) (by simp [results, Try.results29, go_sem, q0, q1, q2, q3, q4, q5]) rfl ?_
                rw [HT.out]
                exact ⟨none, 0, 0, rfl, ret_noneG HS.out (HB0.out.trans (Below.mono B14.out HB0.out.size)) six_grown⟩
              · have HT := hid (show grP l = ⟨C0, true, if true then n4 r else 0, true, if true then n4 (r.drop (if true then 4 else 0)) else 0, r.drop (skipT true true), 0⟩ by rw [GQ.out]; unfold grT; rw [if_neg (by omega), if_neg (by omega), if_pos (by rw [← hn12]; exact eq_of_beq hmt)])
                have O15 : Hid (w13.ownsRow w11.heap.size 5 1 (.slice a12 n12 c12) n12 ((r.drop (skipT true true)).map (Value.int .u8))) := by have := O13.out; rw [List.take_of_length_le (by rw [List.length_drop]; omega)] at this; exact this
                have X1e := hid (show X1 = n4 r by rw [HX1.out]; exact (num_yes (show 4 ≤ r.length by unfold skipT at hfull; simp only [if_true] at hfull; omega)).2.2)
                have X2e := hid (show X2 = n4 (r.drop 4) by rw [HX2.out, (num_yes (show 4 ≤ r.length by unfold skipT at hfull; simp only [if_true] at hfull; omega)).1, (num_yes (show 4 ≤ r.length by unfold skipT at hfull; simp only [if_true] at hfull; omega)).2.1]; exact (num_yes (show 4 ≤ (r.drop 4).length by rw [List.length_drop]; unfold skipT at hfull; simp only [if_true] at hfull; omega)).2.2)
                clear hql hsh hfull hn12
                go_upto_region 17 with (first | (go_at_call 61; ((with_reducible refine (bad_any _ _ _ _ _ R13.out).mono ?_); rintro e wq ⟨rfl, rfl⟩)) | (go_at_call 62; ((with_reducible refine (left_n _ _ _ _ _ ql R13.out QL.out).mono ?_); rintro e wq ⟨rfl, rfl⟩)) | (go_at_call 56; ((with_reducible refine (matched_any C0 true X1 true X2 a12 n12 c12 _).mono ?_); rintro e w14 ⟨rfl, b14⟩); have B14 := hid (B13.out.trans (b14.mono B13.out.size)); have P14 := hid (P13.out.below b14)))
                obtain ⟨z0, z1, z2, z3, z4, z5, y0, y1, y2, y3, y4, y5⟩ := Z.out _ B14.out
                clear d0 d1 d2 d3 d4 d5
                have d0 := P14.out.c0
                have d1 := P14.out.c1
                have d2 := P14.out.c2
                have d3 := P14.out.c3
                have d4 := P14.out.c4
                have d5 := P14.out.c5
                have O16 : Hid (w14.ownsRow w11.heap.size 5 1 (.slice a12 n12 c12) n12 ((r.drop (skipT true true)).map (Value.int .u8))) := O15.out.kept (gb_of_below b14 none) (by cases (Value.slice a12 n12 c12).ownBlock <;> simp)
                go_wp2_with fail
                obtain ⟨q0, q1, q2, q3, q4, q5⟩ := six_cells (W := w14) (g := W.heap.size) (u0 := .int .u16 C0) (u1 := .bool true) (u2 := .int .u32 X1) (u3 := .bool true) (u4 := .int .u32 X2) (u5 := .slice a12 n12 c12) (fun j hj => by match j, hj with | 0, _ => exact ⟨_, z0⟩ | 1, _ => exact ⟨_, z1⟩ | 2, _ => exact ⟨_, z2⟩ | 3, _ => exact ⟨_, z3⟩ | 4, _ => exact ⟨_, z4⟩ | 5, _ => exact ⟨_, z5⟩)
                refine bodyPost_ret (v := .tuple #[.agg #[.int .u16 C0, .bool true, .int .u32 X1, .bool true, .int .u32 X2, .slice a12 n12 c12], .int .i64 0]) (by simp [results, Try.results29, go_sem, q0, q1, q2, q3, q4, q5]) rfl ?_
                rw [HT.out]
                rw [X1e.out]
                rw [X2e.out]
                exact ⟨a12, _, c12, rfl, ret_ownG HS.out (HB0.out.trans (B14.out.mono HB0.out.size)) O16.out hbz six_grown⟩
          · have HT := hid (show grP l = zeroT 10 by rw [GQ.out]; unfold grT; rw [if_pos (by omega)])
            rw [enough, decide_eq_false hsh, Bool.not_false] at R13
            clear hsh
            go_upto_region 14 with (go_at_call 61; ((with_reducible refine (bad_any _ _ _ _ _ R13.out).mono ?_); rintro e wq ⟨rfl, rfl⟩))
            obtain ⟨z0, z1, z2, z3, z4, z5, y0, y1, y2, y3, y4, y5⟩ := Z.out _ B13.out
            go_wp2_with fail
            obtain ⟨q0, q1, q2, q3, q4, q5⟩ := six_cells (W := w13) (g := W.heap.size) (u0 := .int .u16 0) (u1 := .bool false) (u2 := .int .u32 0) (u3 := .bool false) (u4 := .int .u32 0) (u5 := .slice none 0 0) (fun j hj => by match j, hj with | 0, _ => exact ⟨_, z0⟩ | 1, _ => exact ⟨_, z1⟩ | 2, _ => exact ⟨_, z2⟩ | 3, _ => exact ⟨_, z3⟩ | 4, _ => exact ⟨_, z4⟩ | 5, _ => exact ⟨_, z5⟩)
            refine bodyPost_ret (v := .tuple #[.agg #[.int .u16 0, .bool false, .int .u32 0, .bool false, .int .u32 0, .slice none 0 0], .int .i64 10]) (by simp [results, Try.results29, go_sem, q0, q1, q2, q3, q4, q5]) rfl ?_
            rw [HT.out]
            exact ⟨none, 0, 0, rfl, ret_noneG HS.out (HB0.out.trans (Below.mono B13.out HB0.out.size)) six_grown⟩
      · have hbn : (bits .andNot .u16 B0 4224 != 8193) = false := by simp [bne, hh]
        have hpn : (P0 != 34827) = true := by simp [bne, hp]
        have HT := hid (show grP l = zeroT 11 by rw [GP.out, if_neg hp])
        clear hh hp
        obtain ⟨z0, z1, z2, z3, z4, z5, y0, y1, y2, y3, y4, y5⟩ := Z.out _ B5.out
        go_wp2_with fail
        obtain ⟨q0, q1, q2, q3, q4, q5⟩ := six_cells (W := w5) (g := W.heap.size) (u0 := .int .u16 0) (u1 := .bool false) (u2 := .int .u32 0) (u3 := .bool false) (u4 := .int .u32 0) (u5 := .slice none 0 0) (fun j hj => by match j, hj with | 0, _ => exact ⟨_, z0⟩ | 1, _ => exact ⟨_, z1⟩ | 2, _ => exact ⟨_, z2⟩ | 3, _ => exact ⟨_, z3⟩ | 4, _ => exact ⟨_, z4⟩ | 5, _ => exact ⟨_, z5⟩)
        refine bodyPost_ret (v := .tuple #[.agg #[.int .u16 0, .bool false, .int .u32 0, .bool false, .int .u32 0, .slice none 0 0], .int .i64 11]) (by simp [results, Try.results29, go_sem, q0, q1, q2, q3, q4, q5]) rfl ?_
        rw [HT.out]
        exact ⟨none, 0, 0, rfl, ret_noneG HS.out (HB0.out.trans (Below.mono B5.out HB0.out.size)) six_grown⟩
    · have hbn : (bits .andNot .u16 B0 4224 != 8193) = true := by simp [bne, hh]
      have hq := fun h => hh ((bits_head B0 hbb).2 h)
      have HT := hid (show grP l = zeroT 11 by rw [GP.out]; split; (rw [if_neg (fun h => hq (.inl h)), if_neg (fun h => hq (.inr (.inl h))), if_neg (fun h => hq (.inr (.inr (.inl h)))), if_neg (fun h => hq (.inr (.inr (.inr h))))]); rfl)
      clear hh hq
      obtain ⟨z0, z1, z2, z3, z4, z5, y0, y1, y2, y3, y4, y5⟩ := Z.out _ B5.out
      go_wp2_with fail
      obtain ⟨q0, q1, q2, q3, q4, q5⟩ := six_cells (W := w5) (g := W.heap.size) (u0 := .int .u16 0) (u1 := .bool false) (u2 := .int .u32 0) (u3 := .bool false) (u4 := .int .u32 0) (u5 := .slice none 0 0) (fun j hj => by match j, hj with | 0, _ => exact ⟨_, z0⟩ | 1, _ => exact ⟨_, z1⟩ | 2, _ => exact ⟨_, z2⟩ | 3, _ => exact ⟨_, z3⟩ | 4, _ => exact ⟨_, z4⟩ | 5, _ => exact ⟨_, z5⟩)
      refine bodyPost_ret (v := .tuple #[.agg #[.int .u16 0, .bool false, .int .u32 0, .bool false, .int .u32 0, .slice none 0 0], .int .i64 11]) (by simp [results, Try.results29, go_sem, q0, q1, q2, q3, q4, q5]) rfl ?_
      rw [HT.out]
      exact ⟨none, 0, 0, rfl, ret_noneG HS.out (HB0.out.trans (Below.mono B5.out HB0.out.size)) six_grown⟩
end Go.Proofs.Ytgoldoaigijmoaa.grc
