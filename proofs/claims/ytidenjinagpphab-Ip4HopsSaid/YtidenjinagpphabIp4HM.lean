/- ip4: one hop on: the same datagram with one TTL less, its checksum right. -/
import Derived.Test.YtidenjinagpphabIp4Math
namespace Go.Proofs.Ytidenjinagpphab.ipm
open Go.Proofs.Ytidenjinagpphab.kit Go.Proofs.Ytidenjinagpphab.sm
set_option linter.unusedVariables false
set_option linter.unusedSimpArgs false

/-- what the checksum becomes -/
def turnL (l : List Int) : Nat := 65535 - fd ((65535 - (w2 l 10).toNat) + (65535 - (w2 l 8).toNat) + (w2 l 8 - 256).toNat)
def hopL (l : List Int) : List Int := sealL (l.set 8 (l.getD 8 0 - 1)) (turnL l)
theorem set_word (l : List Int) (h : 9 < l.length) : l.set 8 (l.getD 8 0 - 1) = word2 l 4 (l.getD 8 0 - 1) (l.getD 9 0) := by
  unfold word2
  show _ = (l.set 8 _).set 9 _
  match l, h with
  | a0 :: a1 :: a2 :: a3 :: a4 :: a5 :: a6 :: a7 :: a8 :: a9 :: r, _ => simp
theorem tot_first (l : List Int) (p k : Nat) : bit p (l.getD 0 0) ≤ tot l p (k + 1) := by
  induction k with
  | zero => simp [tot]
  | succ k ih => show _ ≤ tot l p (k + 1) + _; omega
theorem sum_first {l : List Int} (h : 0 < l.length) : 256 * (l.getD 0 0).toNat ≤ sumOf l := by
  unfold sumOf
  obtain ⟨k, hk⟩ : ∃ k, l.length = k + 1 := ⟨l.length - 1, by omega⟩
  rw [hk]
  exact tot_first l 0 k
theorem hop_len (l : List Int) : (hopL l).length = l.length := by unfold hopL sealL; rw [word2_len, List.length_set]
theorem hop_at {l : List Int} (h : 20 ≤ l.length) (i : Nat) : (hopL l).getD i 0 = if i = 10 then (turnL l : Int) / 256 else if i = 11 then (turnL l : Int) % 256 else if i = 8 then l.getD 8 0 - 1 else l.getD i 0 := by
  unfold hopL sealL
  rw [word2_at _ 5 _ _ (by rw [List.length_set]; omega)]
  show (if i = 10 then _ else if i = 11 then _ else _) = _
  by_cases h1 : i = 10
  · rw [if_pos h1, if_pos h1]
  · rw [if_neg h1, if_neg h1]
    by_cases h2 : i = 11
    · rw [if_pos h2, if_pos h2]
    · rw [if_neg h2, if_neg h2]
      by_cases h3 : i = 8
      · subst h3; rw [if_pos rfl, List.getD_eq_getElem?_getD, List.getElem?_set_self (by omega)]; rfl
      · rw [if_neg h3, List.getD_eq_getElem?_getD, List.getElem?_set_ne (fun e => h3 e.symm), ← List.getD_eq_getElem?_getD]
theorem hop_take {l : List Int} (k : Nat) (h : 20 ≤ k) (hk : k ≤ l.length) : (hopL l).take k = hopL (l.take k) := by
  have g : ∀ i, i < 20 → (l.take k).getD i 0 = l.getD i 0 := fun i hi => by rw [List.getD_eq_getElem?_getD, List.getD_eq_getElem?_getD, List.getElem?_take_of_lt (by omega)]
  have ht : turnL (l.take k) = turnL l := by unfold turnL w2; rw [g 10 (by decide), g (10 + 1) (by decide), g 8 (by decide), g (8 + 1) (by decide)]
  unfold hopL sealL word2
  rw [ht, g 8 (by decide), List.take_set, List.take_set, List.take_set]
theorem hop_drop {l : List Int} (k : Nat) (h : 12 ≤ k) : (hopL l).drop k = l.drop k := by
  unfold hopL sealL word2
  rw [List.drop_set_of_lt (by omega), List.drop_set_of_lt (by omega), List.drop_set_of_lt (by omega)]
theorem hop_right {l : List Int} (hb : Oct l) (h : 20 ≤ l.length) (h4 : l.getD 0 0 / 16 = 4) (h8 : 2 ≤ l.getD 8 0) (hr : chk l = 0) : chk (hopL l) = 0 := by
  have b8 := hb.at 8
  have b9 := hb.at 9
  have b10 := hb.at 10
  have b11 := hb.at 11
  have s1 := word2_sum l 4 (l.getD 8 0 - 1) (l.getD 9 0) (by omega)
  have s2 := word2_sum (word2 l 4 (l.getD 8 0 - 1) (l.getD 9 0)) 5 ((turnL l : Int) / 256) ((turnL l : Int) % 256) (by rw [word2_len]; omega)
  have e10 : (word2 l 4 (l.getD 8 0 - 1) (l.getD 9 0)).getD (2 * 5) 0 = l.getD 10 0 := by rw [word2_at l 4 _ _ (by omega)]; rfl
  have e11 : (word2 l 4 (l.getD 8 0 - 1) (l.getD 9 0)).getD (2 * 5 + 1) 0 = l.getD 11 0 := by rw [word2_at l 4 _ _ (by omega)]; rfl
  rw [e10, e11] at s2
  have e : hopL l = word2 (word2 l 4 (l.getD 8 0 - 1) (l.getD 9 0)) 5 ((turnL l : Int) / 256) ((turnL l : Int) % 256) := by unfold hopL sealL; rw [set_word l (by omega)]
  rw [← e] at s2
  have hf := sum_first (l := hopL l) (by rw [hop_len]; omega)
  have ha := hop_at h 0
  rw [if_neg (by decide), if_neg (by decide), if_neg (by decide)] at ha
  rw [ha] at hf
  have ht : turnL l = 65535 - fd ((65535 - (256 * (l.getD 10 0).toNat + (l.getD 11 0).toNat)) + (65535 - (256 * (l.getD 8 0).toNat + (l.getD 9 0).toNat)) + (256 * (l.getD 8 0).toNat + (l.getD 9 0).toNat - 256)) := by
    unfold turnL w2
    show 65535 - fd ((65535 - (256 * l.getD 10 0 + l.getD 11 0).toNat) + (65535 - (256 * l.getD 8 0 + l.getD 9 0).toNat) + (256 * l.getD 8 0 + l.getD 9 0 - 256).toNat) = _
    have q1 : (256 * l.getD 10 0 + l.getD 11 0).toNat = 256 * (l.getD 10 0).toNat + (l.getD 11 0).toNat := by omega
    have q2 : (256 * l.getD 8 0 + l.getD 9 0).toNat = 256 * (l.getD 8 0).toNat + (l.getD 9 0).toNat := by omega
    have q3 : (256 * l.getD 8 0 + l.getD 9 0 - 256).toNat = 256 * (l.getD 8 0).toNat + (l.getD 9 0).toNat - 256 := by omega
    rw [q1, q2, q3]
  have hrr : 65535 - fd (sumOf l) = 0 := hr
  have s1' : sumOf (word2 l 4 (l.getD 8 0 - 1) (l.getD 9 0)) + 256 * (l.getD 8 0).toNat + (l.getD 9 0).toNat = sumOf l + 256 * (l.getD 8 0 - 1).toNat + (l.getD 9 0).toNat := s1
  show 65535 - fd (sumOf (hopL l)) = 0
  obtain ⟨x8, hx8⟩ : ∃ x8 : Nat, l.getD 8 0 = x8 := ⟨(l.getD 8 0).toNat, by omega⟩
  obtain ⟨x9, hx9⟩ : ∃ x9 : Nat, l.getD 9 0 = x9 := ⟨(l.getD 9 0).toNat, by omega⟩
  obtain ⟨x10, hx10⟩ : ∃ x10 : Nat, l.getD 10 0 = x10 := ⟨(l.getD 10 0).toNat, by omega⟩
  obtain ⟨x11, hx11⟩ : ∃ x11 : Nat, l.getD 11 0 = x11 := ⟨(l.getD 11 0).toNat, by omega⟩
  obtain ⟨x0, hx0⟩ : ∃ x0 : Nat, l.getD 0 0 = x0 := ⟨(l.getD 0 0).toNat, by omega⟩
  rw [hx8, hx9] at s1' ht
  rw [hx10, hx11] at s2 ht
  rw [hx0] at hf h4
  rw [hx8, hx9] at s2
  rw [hx8] at h8
  simp only [Int.toNat_natCast] at s1' s2 ht hf
  generalize sumOf l = S at *
  generalize sumOf (word2 l 4 ((x8 : Int) - 1) (x9 : Int)) = S1 at *
  generalize sumOf (hopL l) = S2 at *
  generalize turnL l = T at *
  have ht8 : ((x8 : Int) - 1).toNat = x8 - 1 := by omega
  rw [ht8] at s1'
  unfold fd at *
  split at hrr <;> split at ht <;> split <;> omega
/-- the same datagram with one TTL less -/
theorem hop_back {l : List Int} (hb : Oct l) (hy : whyL l = 0) (h8 : 2 ≤ l.getD 8 0) : ipP (hopL l) = ({ dgL l with ttl := (dgL l).ttl - 1 }, 0) := by
  have hwc : 20 ≤ l.length ∧ l.getD 0 0 / 16 = 4 ∧ 20 ≤ hdL l ∧ hdL l ≤ alL l ∧ alL l ≤ l.length ∧ chk (l.take (hdL l)) = 0 := by
    rcases why_cases l with ⟨_, h⟩ | ⟨_, _, h⟩ | ⟨_, _, _, _, _, h⟩ | ⟨_, _, _, _, _, _, h⟩ | ⟨h0, h1, h2, h3, h4, h5, _⟩ <;> first | omega | exact ⟨by omega, h1, h2, h3, h4, h5⟩
  obtain ⟨h20, h4, hh, ha, hal, hc⟩ := hwc
  have g : ∀ i, i ≠ 8 → i ≠ 10 → i ≠ 11 → (hopL l).getD i 0 = l.getD i 0 := fun i h1 h2 h3 => by rw [hop_at h20 i, if_neg h2, if_neg h3, if_neg h1]
  have eh : hdL (hopL l) = hdL l := by unfold hdL; rw [g 0 (by decide) (by decide) (by decide)]
  have ea : alL (hopL l) = alL l := by unfold alL w2; rw [g 2 (by decide) (by decide) (by decide), g (2 + 1) (by decide) (by decide) (by decide)]
  have hck : chk ((hopL l).take (hdL l)) = 0 := by
    rw [hop_take _ hh (by omega)]
    have gk : ∀ i, i < 20 → (l.take (hdL l)).getD i 0 = l.getD i 0 := fun i hi => by rw [List.getD_eq_getElem?_getD, List.getD_eq_getElem?_getD, List.getElem?_take_of_lt (by omega)]
    exact hop_right (fun x hx => hb x (List.mem_of_mem_take hx)) (by rw [List.length_take]; omega) (by rw [gk 0 (by decide)]; exact h4) (by rw [gk 8 (by decide)]; exact h8) hc
  have hy2 : whyL (hopL l) = 0 := by
    unfold whyL
    rw [eh, ea, hop_len, g 0 (by decide) (by decide) (by decide), if_neg (by omega), if_neg (by rintro (h | h | h) <;> omega), if_neg (by omega), hck]
    rfl
  have e8 : (hopL l).getD 8 0 = l.getD 8 0 - 1 := by rw [hop_at h20 8, if_neg (by decide), if_neg (by decide), if_pos rfl]
  unfold ipP
  rw [if_pos hy2]
  unfold dgL
  rw [eh, ea, e8, hop_take _ hh (by omega), hop_take _ (by omega) hal, hop_drop _ (by decide), hop_drop _ (by omega)]
  unfold w2 w4
  rw [g 1 (by decide) (by decide) (by decide), g 9 (by decide) (by decide) (by decide), g 4 (by decide) (by decide) (by decide), g (4 + 1) (by decide) (by decide) (by decide), g 6 (by decide) (by decide) (by decide), g (6 + 1) (by decide) (by decide) (by decide),
    g 12 (by decide) (by decide) (by decide), g (12 + 1) (by decide) (by decide) (by decide), g (12 + 2) (by decide) (by decide) (by decide), g (12 + 3) (by decide) (by decide) (by decide),
    g 16 (by decide) (by decide) (by decide), g (16 + 1) (by decide) (by decide) (by decide), g (16 + 2) (by decide) (by decide) (by decide), g (16 + 3) (by decide) (by decide) (by decide)]
end Go.Proofs.Ytidenjinagpphab.ipm
