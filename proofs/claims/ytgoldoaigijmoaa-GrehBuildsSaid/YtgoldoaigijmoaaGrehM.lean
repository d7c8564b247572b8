/- greh: the packet of bytes. -/
import Derived.Test.YtgoldoaigijmoaaGreh
import Derived.Test.YtgoldoaigijmoaaRdrList
namespace Go.Proofs.Ytgoldoaigijmoaa.grc
open Go.RowKit
open Go.Proofs.Ytgoldoaigijmoaa.kit Go.Proofs.Ytgoldoaigijmoaa.bec
set_option linter.unusedVariables false
set_option maxRecDepth 20000

structure GT where
  call : Int
  hs : Bool
  seq : Int
  ha : Bool
  ack : Int
  d : List Int
  err : Int
def zeroT (e : Int) : GT := ⟨0, false, 0, false, 0, [], e⟩
def n2 (l : List Int) (i : Nat) : Int := 256 * l.getD i 0 + l.getD (i + 1) 0
def n4 (l : List Int) : Int := numB (l.take 4)
def skipT (hs ha : Bool) : Nat := (if hs then 4 else 0) + (if ha then 4 else 0)
def grT (hs ha : Bool) (call : Int) (many : Nat) (r : List Int) : GT :=
  if r.length < skipT hs ha + many then zeroT 10
  else if skipT hs ha + many < r.length then zeroT 11
  else if hs = decide (0 < many) then ⟨call, hs, if hs then n4 r else 0, ha, if ha then n4 (r.drop (if hs then 4 else 0)) else 0, r.drop (skipT hs ha), 0⟩
  else zeroT 11
/-- the packet of bytes -/
def grP (l : List Int) : GT :=
  if l.length < 8 then zeroT 10
  else if n2 l 2 = 34827 then
    if n2 l 0 = 8193 then grT false false (n2 l 6) (n2 l 4).toNat (l.drop 8)
    else if n2 l 0 = 12289 then grT true false (n2 l 6) (n2 l 4).toNat (l.drop 8)
    else if n2 l 0 = 8321 then grT false true (n2 l 6) (n2 l 4).toNat (l.drop 8)
    else if n2 l 0 = 12417 then grT true true (n2 l 6) (n2 l 4).toNat (l.drop 8)
    else zeroT 11
  else zeroT 11
def GPost (T : GT) (w : World) (L : List Sl) (e : Ending) (W' : World) : Prop :=
  ∃ a m c, e = .returned (.tuple #[.agg #[.int .u16 T.call, .bool T.hs, .int .u32 T.seq, .bool T.ha, .int .u32 T.ack, .slice a m c], .int .i64 T.err]) ∧ St w W' ((a, m, c, T.d) :: L)
theorem ret_ownG {w W wz wz' : World} {L : List Sl} {base m c : Nat} {a : Option Addr} {l : List Int} (h : St w W L) (hb : Below W.heap.size W wz) (ho : wz.ownsRow base 5 1 (.slice a m c) m (l.map (Value.int .u8))) (hB : W.heap.size < base) (g : wz.grownBy wz' (some W.heap.size)) :
    St w wz' ((a, m, c, l) :: L) := by
  refine (h.next (gb_below hb g hb.size (Nat.le_refl _))).push (own_nums (ho.kept g ?_))
  cases hv : (Value.slice a m c).ownBlock with
  | none => exact .inl rfl
  | some j => exact .inr (by have := (ho.lt j hv).1; intro e; injection e with e; omega)
theorem ret_noneG {w W wz wz' : World} {L : List Sl} (h : St w W L) (hb : Below W.heap.size W wz) (g : wz.grownBy wz' (some W.heap.size)) : St w wz' ((none, 0, 0, []) :: L) :=
  (h.next (gb_below hb g hb.size (Nat.le_refl _))).nil
/-- six cells written: what is in them -/
theorem six_cells {W : World} {g : Nat} {u0 u1 u2 u3 u4 u5 : Value} (h : ∀ j, j < 6 → ∃ v, W.cell? ⟨g, j, none⟩ = some v) : (((((((W).setCell ⟨g, 0, none⟩ (u0)).setCell ⟨g, 1, none⟩ (u1)).setCell ⟨g, 2, none⟩ (u2)).setCell ⟨g, 3, none⟩ (u3)).setCell ⟨g, 4, none⟩ (u4)).setCell ⟨g, 5, none⟩ (u5)).cell? ⟨g, 0, none⟩ = some u0 ∧ (((((((W).setCell ⟨g, 0, none⟩ (u0)).setCell ⟨g, 1, none⟩ (u1)).setCell ⟨g, 2, none⟩ (u2)).setCell ⟨g, 3, none⟩ (u3)).setCell ⟨g, 4, none⟩ (u4)).setCell ⟨g, 5, none⟩ (u5)).cell? ⟨g, 1, none⟩ = some u1 ∧ (((((((W).setCell ⟨g, 0, none⟩ (u0)).setCell ⟨g, 1, none⟩ (u1)).setCell ⟨g, 2, none⟩ (u2)).setCell ⟨g, 3, none⟩ (u3)).setCell ⟨g, 4, none⟩ (u4)).setCell ⟨g, 5, none⟩ (u5)).cell? ⟨g, 2, none⟩ = some u2 ∧ (((((((W).setCell ⟨g, 0, none⟩ (u0)).setCell ⟨g, 1, none⟩ (u1)).setCell ⟨g, 2, none⟩ (u2)).setCell ⟨g, 3, none⟩ (u3)).setCell ⟨g, 4, none⟩ (u4)).setCell ⟨g, 5, none⟩ (u5)).cell? ⟨g, 3, none⟩ = some u3 ∧ (((((((W).setCell ⟨g, 0, none⟩ (u0)).setCell ⟨g, 1, none⟩ (u1)).setCell ⟨g, 2, none⟩ (u2)).setCell ⟨g, 3, none⟩ (u3)).setCell ⟨g, 4, none⟩ (u4)).setCell ⟨g, 5, none⟩ (u5)).cell? ⟨g, 4, none⟩ = some u4 ∧ (((((((W).setCell ⟨g, 0, none⟩ (u0)).setCell ⟨g, 1, none⟩ (u1)).setCell ⟨g, 2, none⟩ (u2)).setCell ⟨g, 3, none⟩ (u3)).setCell ⟨g, 4, none⟩ (u4)).setCell ⟨g, 5, none⟩ (u5)).cell? ⟨g, 5, none⟩ = some u5 := by
  obtain ⟨_, h0⟩ := h 0 (by decide)
  obtain ⟨_, h1⟩ := h 1 (by decide)
  obtain ⟨_, h2⟩ := h 2 (by decide)
  obtain ⟨_, h3⟩ := h 3 (by decide)
  obtain ⟨_, h4⟩ := h 4 (by decide)
  obtain ⟨_, h5⟩ := h 5 (by decide)
  exact ⟨(cell_other (cell_other (cell_other (cell_other (cell_other (cell_same h0) (by decide)) (by decide)) (by decide)) (by decide)) (by decide)), (cell_other (cell_other (cell_other (cell_other (cell_same (cell_other h1 (by decide))) (by decide)) (by decide)) (by decide)) (by decide)), (cell_other (cell_other (cell_other (cell_same (cell_other (cell_other h2 (by decide)) (by decide))) (by decide)) (by decide)) (by decide)), (cell_other (cell_other (cell_same (cell_other (cell_other (cell_other h3 (by decide)) (by decide)) (by decide))) (by decide)) (by decide)), (cell_other (cell_same (cell_other (cell_other (cell_other (cell_other h4 (by decide)) (by decide)) (by decide)) (by decide))) (by decide)), (cell_same (cell_other (cell_other (cell_other (cell_other (cell_other h5 (by decide)) (by decide)) (by decide)) (by decide)) (by decide)))⟩
theorem six_grown {W : World} {g : Nat} {u0 u1 u2 u3 u4 u5 : Value} : W.grownBy (((((((W).setCell ⟨g, 0, none⟩ (u0)).setCell ⟨g, 1, none⟩ (u1)).setCell ⟨g, 2, none⟩ (u2)).setCell ⟨g, 3, none⟩ (u3)).setCell ⟨g, 4, none⟩ (u4)).setCell ⟨g, 5, none⟩ (u5)) (some g) := (gb_setCell (gb_setCell (gb_setCell (gb_setCell (gb_setCell (gb_setCell (World.grownBy.refl W (some g)) (p := ⟨g, 0, none⟩) rfl u0) (p := ⟨g, 1, none⟩) rfl u1) (p := ⟨g, 2, none⟩) rfl u2) (p := ⟨g, 3, none⟩) rfl u3) (p := ⟨g, 4, none⟩) rfl u4) (p := ⟨g, 5, none⟩) rfl u5)

theorem u16_at (w : World) (g D : Nat) (l : List Int) (k : Nat) (hk : k + 2 ≤ l.length) (h : RdrAt w g D false (l.drop k)) (hb : Byt l) :
    Calls Try.prog 58 #[.pointer (some ⟨g, 0, none⟩)] w fun e w' => e = .returned (.int .u16 (n2 l k)) ∧ RdrAt w' g D false (l.drop (k + 2)) ∧ w.grownBy w' (some g) :=
  (u16_any w g D false _ h (hb.drop k)).mono fun e w' ⟨y, he, hy, hr, hg⟩ => by
    have hok : okN false (l.drop k) 2 = true := by simp [okN, okR]; omega
    have e2 : l.drop k = l.getD k 0 :: l.getD (k + 1) 0 :: l.drop (k + 2) := by
      rw [List.drop_eq_getElem_cons (by omega), List.drop_eq_getElem_cons (by omega : k + 1 < l.length)]
      rw [List.getD_eq_getElem?_getD, List.getD_eq_getElem?_getD, List.getElem?_eq_getElem (by omega), List.getElem?_eq_getElem (by omega)]; rfl
    have h1 : valN false (l.drop k) 2 = n2 l k := by
      unfold valN; rw [hok, if_pos rfl, e2]; simp [numB, n2]; omega
    have h2 : leftN false (l.drop k) 2 = l.drop (k + 2) := by unfold leftN; rw [hok, if_pos rfl, List.drop_drop]; rfl
    rw [h1] at hy; rw [hok, h2] at hr; subst hy
    exact ⟨he, hr, hg⟩
theorem n2_bd {l : List Int} (h : Byt l) (i : Nat) : 0 ≤ n2 l i ∧ n2 l i ≤ 65535 := by
  have h1 := h.getD i
  have h2 := h.getD (i + 1)
  unfold n2; omega
theorem n4_bd {l : List Int} (h : Byt l) : 0 ≤ n4 l ∧ n4 l ≤ 4294967295 := by
  by_cases h4 : 4 ≤ l.length
  · have := numB_bd l h 4 h4
    unfold n4; simp only [Int.reducePow] at this; omega
  · have := numB_bd l h l.length (Nat.le_refl _)
    unfold n4; rw [List.take_of_length_le (by omega)]; rw [List.take_of_length_le (Nat.le_refl _)] at this
    have h5 : l.length = 0 ∨ l.length = 1 ∨ l.length = 2 ∨ l.length = 3 := by omega
    rcases h5 with h5 | h5 | h5 | h5 <;> rw [h5] at this <;> simp only [Int.reducePow] at this <;> omega
/-- the bits that each packet has -/
theorem bits_head (b : Int) (h : 0 ≤ b ∧ b ≤ 65535) : (bits .andNot .u16 b 4224 = 8193) ↔ (b = 8193 ∨ b = 12289 ∨ b = 8321 ∨ b = 12417) := by
  obtain ⟨x, rfl⟩ : ∃ x : Nat, b = x := ⟨b.toNat, by omega⟩
  have e := u16_andNot_nat x 4224 (by omega) (by decide)
  rw [show ((4224 : Nat) : Int) = 4224 from rfl] at e
  rw [e]
  have e1 : x = (x &&& (65535 - 4224)) ||| ((x &&& 4096) ||| (x &&& 128)) := by
    rw [← Nat.and_or_distrib_left, ← Nat.and_or_distrib_left]
    show x = x &&& 65535
    have := Nat.and_two_pow_sub_one_eq_mod x 16
    rw [show 2 ^ 16 - 1 = 65535 from rfl] at this
    rw [this]; omega
  have e2 : x &&& 4096 = 0 ∨ x &&& 4096 = 4096 := by
    have := nat_bit 12 x
    rw [show 2 ^ 12 = 4096 from rfl] at this
    have h2 : x / 4096 % 2 = 0 ∨ x / 4096 % 2 = 1 := by omega
    rcases h2 with h2 | h2 <;> rw [h2] at this <;> omega
  have e3 : x &&& 128 = 0 ∨ x &&& 128 = 128 := by
    have := nat_bit 7 x
    rw [show 2 ^ 7 = 128 from rfl] at this
    have h2 : x / 128 % 2 = 0 ∨ x / 128 % 2 = 1 := by omega
    rcases h2 with h2 | h2 <;> rw [h2] at this <;> omega
  constructor
  · intro hh
    have hh : x &&& (65535 - 4224) = 8193 := by omega
    rw [hh] at e1
    rcases e2 with e2 | e2 <;> rcases e3 with e3 | e3 <;> rw [e2, e3] at e1 <;> simp at e1 <;> omega
  · intro hh
    have hx : x = 8193 ∨ x = 12289 ∨ x = 8321 ∨ x = 12417 := by omega
    rcases hx with rfl | rfl | rfl | rfl <;> decide
end Go.Proofs.Ytgoldoaigijmoaa.grc
