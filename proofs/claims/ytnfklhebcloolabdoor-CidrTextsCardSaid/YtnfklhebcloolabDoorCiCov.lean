/- The fewest prefixes from an address up to another one: arithmetic. -/
import Derived.Test.YtnfklhebcloolabDoorCiLen
namespace Go.Proofs.YtnfklhebcloolabDoor.cic
open Go.RowKit
open Go.Proofs.YtnfklhebcloolabDoor.kit Go.Proofs.YtnfklhebcloolabDoor.cim
set_option linter.unusedVariables false
set_option linter.unusedSimpArgs false
/-- one of 2^f addresses may begin at a, and ends ahead of e -/
def Ok (a e f : Nat) : Prop := 2 ^ f ∣ a ∧ a + 2 ^ f ≤ e
instance (a e f : Nat) : Decidable (Ok a e f) := by unfold Ok; infer_instance
def Best (a e f : Nat) : Prop := f ≤ 32 ∧ Ok a e f ∧ ∀ g, f < g → g ≤ 32 → ¬ Ok a e g
theorem Best.eq {a e f g : Nat} (h : Best a e f) (k : Best a e g) : f = g := by
  rcases Nat.lt_trichotomy f g with h1 | h1 | h1
  · exact absurd k.2.1 (h.2.2 g h1 k.1)
  · exact h1
  · exact absurd h.2.1 (k.2.2 f h1 h.1)
def pk (a e : Nat) : Nat → Nat
  | 0 => 0
  | f + 1 => if Ok a e (f + 1) then f + 1 else pk a e f
theorem pk_best (a e : Nat) (h : a < e) : ∀ n, pk a e n ≤ n ∧ Ok a e (pk a e n) ∧ ∀ g, pk a e n < g → g ≤ n → ¬ Ok a e g := by
  intro n
  induction n with
  | zero => exact ⟨Nat.le_refl _, ⟨by simp [pk], by simp [pk]; omega⟩, fun g h1 h2 => by omega⟩
  | succ n ih =>
    unfold pk
    by_cases hk : Ok a e (n + 1)
    · rw [if_pos hk]; exact ⟨Nat.le_refl _, hk, fun g h1 h2 => by omega⟩
    · rw [if_neg hk]
      refine ⟨by omega, ih.2.1, fun g h1 h2 => ?_⟩
      by_cases hg : g = n + 1
      · rw [hg]; exact hk
      · exact ih.2.2 g h1 (by omega)
def pick (a e : Nat) : Nat := pk a e 32
theorem pick_best (a e : Nat) (h : a < e) : Best a e (pick a e) := pk_best a e h 32
/-- what has come after k of them, and where the next one begins -/
def st (a e : Nat) : Nat → Nat × List (Nat × Nat)
  | 0 => (a, [])
  | k + 1 => if (st a e k).1 < e then ((st a e k).1 + 2 ^ pick (st a e k).1 e, (st a e k).2 ++ [((st a e k).1, 32 - pick (st a e k).1 e)]) else st a e k
theorem st_on {a e k : Nat} (h : (st a e k).1 < e) : st a e (k + 1) = ((st a e k).1 + 2 ^ pick (st a e k).1 e, (st a e k).2 ++ [((st a e k).1, 32 - pick (st a e k).1 e)]) := by
  show (if _ then _ else _) = _
  rw [if_pos h]
theorem st_off {a e k : Nat} (h : e ≤ (st a e k).1) (j : Nat) : st a e (k + j) = st a e k := by
  induction j with
  | zero => rfl
  | succ j ih =>
    have hs : st a e (k + j + 1) = if (st a e (k + j)).1 < e then ((st a e (k + j)).1 + 2 ^ pick (st a e (k + j)).1 e, (st a e (k + j)).2 ++ [((st a e (k + j)).1, 32 - pick (st a e (k + j)).1 e)]) else st a e (k + j) := rfl
    rw [← Nat.add_assoc, hs, ih, if_neg (by omega)]
theorem st_le {a e : Nat} (h : a ≤ e) (k : Nat) : a ≤ (st a e k).1 ∧ (st a e k).1 ≤ e ∧ (st a e k).2.length + a ≤ (st a e k).1 := by
  induction k with
  | zero => exact ⟨Nat.le_refl _, h, by simp [st]⟩
  | succ k ih =>
    by_cases hk : (st a e k).1 < e
    · rw [st_on hk]
      have hb := (pick_best _ _ hk).2.1.2
      have hp : 0 < 2 ^ pick (st a e k).1 e := Nat.pow_pos (by decide)
      simp only [List.length_append, List.length_cons, List.length_nil]
      omega
    · have := st_off (a := a) (e := e) (k := k) (by omega) 1
      rw [this]; exact ih
/-- L are the fewest prefixes from a up to ahead of e -/
def CovIs (a e : Nat) (L : List (Nat × Nat)) : Prop := ∃ k, e ≤ (st a e k).1 ∧ (st a e k).2 = L
theorem CovIs.eq {a e : Nat} {L M : List (Nat × Nat)} (h : CovIs a e L) (k : CovIs a e M) : L = M := by
  obtain ⟨i, h1, rfl⟩ := h
  obtain ⟨j, k1, rfl⟩ := k
  rcases Nat.le_total i j with hij | hij
  · have := st_off h1 (j - i); rw [show i + (j - i) = j by omega] at this; rw [this]
  · have := st_off k1 (i - j); rw [show j + (i - j) = i by omega] at this; rw [this]
theorem dvd_low (a : Nat) (ha : a < 4294967296) (g : Nat) (hg : g ≤ 32) : 2 ^ g ∣ a + 4294967296 ↔ 2 ^ g ∣ a := by
  have : 2 ^ g ∣ 4294967296 := Nat.pow_dvd_pow 2 (show g ≤ 32 from hg)
  exact (Nat.dvd_add_left this)
theorem or_add (a : Nat) (ha : a < 4294967296) : a ||| 4294967296 = a + 4294967296 := by
  have := Nat.two_pow_add_eq_or_of_lt (i := 32) (b := a) ha 1
  rw [Nat.or_comm]
  simp at this
  omega
theorem ctz_dvd (x : Nat) (h0 : 0 < x) (h : x < 2 ^ 64) (g : Nat) : 2 ^ g ∣ x ↔ g ≤ Lib.ctz 64 x := by
  obtain ⟨m, hm, hc⟩ := Lib.ctzFrom_spec 64 x h0 h
  have e : Lib.ctz 64 x = Lib.ctzFrom 64 x := by unfold Lib.ctz; rw [if_neg (by omega)]
  rw [e]
  generalize Lib.ctzFrom 64 x = c at *
  constructor
  · intro hd
    rcases Nat.lt_or_ge c g with hlt | hge
    · exfalso
      have h1 : 2 ^ (c + 1) ∣ x := Nat.dvd_trans (Nat.pow_dvd_pow 2 hlt) hd
      obtain ⟨q, hq⟩ := h1
      rw [hm, Nat.pow_succ, Nat.mul_assoc] at hq
      have := Nat.eq_of_mul_eq_mul_left (Nat.pow_pos (by decide)) hq
      omega
    · exact hge
  · intro hle
    rw [hm]
    exact Nat.dvd_trans (Nat.pow_dvd_pow 2 hle) (Nat.dvd_mul_right _ _)
theorem bl_le (x : Nat) (h0 : 0 < x) (h : x < 2 ^ 64) (g : Nat) : 2 ^ g ≤ x ↔ g ≤ Lib.bitLen x - 1 := by
  obtain ⟨h1, h2⟩ := bl_spec 64 x h
  obtain ⟨h3, h4⟩ := h2 (by omega)
  unfold Lib.bitLen
  generalize Lib.bitLenAux 64 x = b at *
  constructor
  · intro hg
    rcases Nat.lt_or_ge (b - 1) g with hlt | hge
    · exfalso
      have := Nat.pow_le_pow_right (n := 2) (by decide) (show b ≤ g by omega)
      omega
    · exact hge
  · intro hg
    exact Nat.le_trans (Nat.pow_le_pow_right (n := 2) (by decide) hg) h4
/-- what the program takes -/
theorem prog_best (a e c b : Nat) (ha : a < e) (he : e ≤ 4294967296) (hc : c = Lib.ctz 64 (a + 4294967296)) (hb : b = Lib.bitLen (e - a)) : c ≤ 32 ∧ 1 ≤ b ∧ b ≤ 33 ∧ (∀ f, (f = c ∧ f ≤ b - 1) ∨ (f = b - 1 ∧ f ≤ c) → f = pick a e) := by
  have hc32 : c ≤ 32 := by
    rcases Nat.lt_or_ge 32 c with h | h
    · exfalso
      have h1 := (ctz_dvd (a + 4294967296) (by omega) (by omega) 33).2 (by omega)
      obtain ⟨q, hq⟩ := h1
      omega
    · exact h
  have hb1 : 1 ≤ b := by
    have := (bl_spec 64 (e - a) (by omega)).2 (by omega)
    rw [hb]; unfold Lib.bitLen; omega
  have hb33 : b ≤ 33 := by rw [hb]; exact Lib.bitLen_le _ 33 (by omega) (by omega)
  refine ⟨hc32, hb1, hb33, fun f hf => ?_⟩
  have key : ∀ g, g ≤ 32 → (Ok a e g ↔ (g ≤ c ∧ g ≤ b - 1)) := by
    intro g hg
    unfold Ok
    rw [← dvd_low a (by omega) g hg, ctz_dvd _ (by omega) (by omega) g, ← hc]
    have := bl_le (e - a) (by omega) (by omega) g
    rw [← hb] at this
    rw [← this]
    constructor
    · rintro ⟨h1, h2⟩; exact ⟨h1, by omega⟩
    · rintro ⟨h1, h2⟩; exact ⟨h1, by omega⟩
  refine Best.eq ⟨by omega, (key f (by omega)).2 (by omega), fun g h1 h2 hk => ?_⟩ (pick_best a e ha)
  have := (key g h2).1 hk
  omega
end Go.Proofs.YtnfklhebcloolabDoor.cic
