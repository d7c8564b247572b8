/- Options as lists of numbers: what is built of them, what is parsed of bytes; that one is the other's way back. -/
import Derived.WalkKit
namespace Go.Proofs.Ytidenjinagpphaa.opm

/-- an option: its type, its data -/
abbrev Opt := Int × List Int
def enc1 (o : Opt) : List Int := o.1 :: ((2 + min o.2.length 253 : Nat) : Int) :: o.2.take 253
def optB (L : List Opt) : List Int := L.flatMap enc1
def cutO (o : Opt) : Opt := (o.1, o.2.take 253)
/-- what is parsed behind what was -/
def goP : Nat → List Opt → List Int → List Opt × Int
  | 0, acc, _ => (acc, 0)
  | f + 1, acc, l =>
    if l.length = 0 then (acc, 0) else if l.length < 2 then ([], 10) else if l.getD 1 0 < 2 then ([], 11)
    else if (l.length : Int) < l.getD 1 0 then ([], 10) else goP f (acc ++ [(l.getD 0 0, (l.take (l.getD 1 0).toNat).drop 2)]) (l.drop (l.getD 1 0).toNat)
def fin (acc : List Opt) (l : List Int) : List Opt × Int := goP l.length acc l
theorem goP_fuel (f : Nat) : ∀ (f' : Nat) (acc : List Opt) (l : List Int), l.length ≤ f → l.length ≤ f' → goP f acc l = goP f' acc l := by
  induction f with
  | zero =>
    intro f' acc l h h'
    cases f' with
    | zero => rfl
    | succ f' => simp only [goP]; rw [if_pos (by omega)]
  | succ f ih =>
    intro f' acc l h h'
    cases f' with
    | zero => simp only [goP]; rw [if_pos (by omega)]
    | succ f' =>
      simp only [goP]
      by_cases h0 : l.length = 0
      · rw [if_pos h0, if_pos h0]
      · rw [if_neg h0, if_neg h0]
        by_cases h1 : l.length < 2
        · rw [if_pos h1, if_pos h1]
        · rw [if_neg h1, if_neg h1]
          by_cases h2 : l.getD 1 0 < 2
          · rw [if_pos h2, if_pos h2]
          · rw [if_neg h2, if_neg h2]
            by_cases h3 : (l.length : Int) < l.getD 1 0
            · rw [if_pos h3, if_pos h3]
            · rw [if_neg h3, if_neg h3]
              exact ih f' _ _ (by rw [List.length_drop]; omega) (by rw [List.length_drop]; omega)
theorem fin_nil (acc : List Opt) : fin acc [] = (acc, 0) := rfl
theorem fin_one {acc : List Opt} {l : List Int} (h : l.length = 1) : fin acc l = ([], 10) := by
  unfold fin; rw [h]; simp only [goP]; rw [if_neg (by omega), if_pos (by omega)]
theorem fin_form {acc : List Opt} {l : List Int} (h : 2 ≤ l.length) (h2 : l.getD 1 0 < 2) : fin acc l = ([], 11) := by
  unfold fin
  obtain ⟨f, hf⟩ : ∃ f, l.length = f + 1 := ⟨l.length - 1, by omega⟩
  rw [hf]; simp only [goP]; rw [if_neg (by omega), if_neg (by omega), if_pos h2]
theorem fin_short {acc : List Opt} {l : List Int} (h : 2 ≤ l.length) (h2 : ¬ l.getD 1 0 < 2) (h3 : (l.length : Int) < l.getD 1 0) : fin acc l = ([], 10) := by
  unfold fin
  obtain ⟨f, hf⟩ : ∃ f, l.length = f + 1 := ⟨l.length - 1, by omega⟩
  rw [hf]; simp only [goP]; rw [if_neg (by omega), if_neg (by omega), if_neg h2, if_pos (by omega)]
theorem fin_step {acc : List Opt} {l : List Int} {x : Nat} (h : 2 ≤ l.length) (hx : l.getD 1 0 = x) (h2 : 2 ≤ x) (h3 : x ≤ l.length) : fin acc l = fin (acc ++ [(l.getD 0 0, (l.take x).drop 2)]) (l.drop x) := by
  unfold fin
  obtain ⟨f, hf⟩ : ∃ f, l.length = f + 1 := ⟨l.length - 1, by omega⟩
  rw [hf]; simp only [goP]; rw [if_neg (by omega), if_neg (by omega), if_neg (by omega), if_neg (by omega), hx, Int.toNat_natCast]
  exact goP_fuel _ _ _ _ (by rw [List.length_drop]; omega) (Nat.le_refl _)

theorem optB_append (L M : List Opt) : optB (L ++ M) = optB L ++ optB M := by simp [optB]
theorem optB_one (o : Opt) : optB [o] = enc1 o := by simp [optB]
/-- bytes, cut where an option ends -/
theorem enc_head {l : List Int} {x : Nat} (h : 2 ≤ l.length) (hx : l.getD 1 0 = x) (h2 : 2 ≤ x) (h3 : x ≤ l.length) (h4 : x ≤ 255) : enc1 (l.getD 0 0, (l.take x).drop 2) ++ l.drop x = l := by
  match l, h with
  | a :: b :: r, _ =>
    obtain ⟨y, rfl⟩ : ∃ y, x = y + 2 := ⟨x - 2, by omega⟩
    simp only [List.getD_cons_succ, List.getD_cons_zero] at hx
    simp only [List.length_cons] at h3
    have e : List.drop 2 (List.take (y + 2) (a :: b :: r)) = r.take y := by simp
    rw [e]
    simp only [enc1, List.getD_cons_zero, List.length_take, List.drop_succ_cons, List.cons_append, List.take_take]
    rw [show min 253 y = y by omega, show min (min y r.length) 253 = y by omega, hx, List.take_append_drop]
    congr 2
    omega
theorem fin_back (n : Nat) : ∀ (acc : List Opt) (l : List Int) (L : List Opt), l.length ≤ n → (∀ x ∈ l, 0 ≤ x ∧ x ≤ 255) → (∀ o ∈ acc, o.2.length ≤ 253) → fin acc l = (L, 0) → optB L = optB acc ++ l ∧ ∀ o ∈ L, o.2.length ≤ 253 := by
  induction n with
  | zero =>
    intro acc l L h hb ha he
    obtain rfl : l = [] := List.eq_nil_of_length_eq_zero (by omega)
    rw [fin_nil] at he
    obtain rfl : acc = L := congrArg Prod.fst he
    exact ⟨by simp, ha⟩
  | succ n ih =>
    intro acc l L h hb ha he
    by_cases h0 : l.length = 0
    · obtain rfl : l = [] := List.eq_nil_of_length_eq_zero h0
      rw [fin_nil] at he
      obtain rfl : acc = L := congrArg Prod.fst he
      exact ⟨by simp, ha⟩
    · by_cases h1 : l.length = 1
      · rw [fin_one h1] at he
        exact absurd (congrArg Prod.snd he) (by simp)
      · by_cases h2 : l.getD 1 0 < 2
        · rw [fin_form (by omega) h2] at he
          exact absurd (congrArg Prod.snd he) (by simp)
        · by_cases h3 : (l.length : Int) < l.getD 1 0
          · rw [fin_short (by omega) h2 h3] at he
            exact absurd (congrArg Prod.snd he) (by simp)
          · obtain ⟨x, hx⟩ : ∃ x : Nat, l.getD 1 0 = x := ⟨(l.getD 1 0).toNat, by omega⟩
            have h4 : x ≤ 255 := by
              have : l.getD 1 0 ∈ l := by rw [List.getD_eq_getElem?_getD, List.getElem?_eq_getElem (by omega)]; exact List.getElem_mem _
              have := (hb _ this).2
              omega
            rw [fin_step (by omega) hx (by omega) (by omega)] at he
            have := ih _ _ L (by rw [List.length_drop]; omega) (fun y hy => hb y (List.mem_of_mem_drop hy)) (by
              intro o ho
              rcases List.mem_append.1 ho with ho | ho
              · exact ha o ho
              · obtain rfl := List.mem_singleton.1 ho
                simp only [List.length_drop, List.length_take]; omega) he
            refine ⟨?_, this.2⟩
            rw [this.1, optB_append, optB_one, List.append_assoc, enc_head (by omega) hx (by omega) (by omega) h4]
/-- bytes that are options are what is built of them -/
theorem built_back {l : List Int} {L : List Opt} (hb : ∀ x ∈ l, 0 ≤ x ∧ x ≤ 255) (h : fin [] l = (L, 0)) : optB L = l := by
  have := (fin_back l.length [] l L (Nat.le_refl _) hb (by simp) h).1
  simpa [optB] using this
theorem fin_built (L : List Opt) : ∀ acc, fin acc (optB L) = (acc ++ L.map cutO, 0) := by
  induction L with
  | nil => intro acc; rw [show optB [] = [] from rfl, fin_nil]; simp
  | cons o L ih =>
    intro acc
    have e : optB (o :: L) = enc1 o ++ optB L := by simp [optB]
    have hl : (enc1 o).length = 2 + min o.2.length 253 := by simp [enc1]; omega
    rw [e, fin_step (x := 2 + min o.2.length 253) (by rw [List.length_append, hl]; omega) (by simp [enc1]) (by omega) (by rw [List.length_append, hl]; omega)]
    have e1 : (enc1 o ++ optB L).drop (2 + min o.2.length 253) = optB L := by rw [← hl]; exact List.drop_left' rfl
    have e2 : (enc1 o ++ optB L).take (2 + min o.2.length 253) = enc1 o := by rw [← hl]; exact List.take_left' rfl
    rw [e1, e2, ih]
    have e3 : (enc1 o).drop 2 = o.2.take 253 := by simp [enc1]
    have e4 : (enc1 o ++ optB L).getD 0 0 = o.1 := by simp [enc1]
    rw [e3, e4]
    simp [cutO]
theorem fits_iff (L : List Opt) : (L.map cutO = L) ↔ ∀ o ∈ L, o.2.length ≤ 253 := by
  constructor
  · intro h o ho
    rw [← h] at ho
    obtain ⟨p, _, rfl⟩ := List.mem_map.1 ho
    simp only [cutO, List.length_take]; omega
  · intro h
    conv => rhs; rw [← List.map_id L]
    apply List.map_congr_left
    intro o ho
    have := h o ho
    show (o.1, o.2.take 253) = o
    rw [List.take_of_length_le this]
theorem optB_len (L : List Opt) : (optB L).length ≤ 255 * L.length := by
  induction L with
  | nil => simp [optB]
  | cons o L ih =>
    have e : optB (o :: L) = enc1 o ++ optB L := by simp [optB]
    have hl : (enc1 o).length = 2 + min o.2.length 253 := by simp [enc1]; omega
    rw [e, List.length_append, hl, List.length_cons]; omega
theorem enc_oct {o : Opt} (h1 : 0 ≤ o.1 ∧ o.1 ≤ 255) (h2 : ∀ x ∈ o.2, 0 ≤ x ∧ x ≤ 255) : ∀ x ∈ enc1 o, 0 ≤ x ∧ x ≤ 255 := by
  intro x hx
  simp only [enc1, List.mem_cons] at hx
  rcases hx with rfl | rfl | hx
  · exact h1
  · omega
  · exact h2 x (List.mem_of_mem_take hx)
theorem optB_oct {L : List Opt} (h : ∀ o ∈ L, (0 ≤ o.1 ∧ o.1 ≤ 255) ∧ ∀ x ∈ o.2, 0 ≤ x ∧ x ≤ 255) : ∀ x ∈ optB L, 0 ≤ x ∧ x ≤ 255 := by
  intro x hx
  obtain ⟨o, ho, hx⟩ := List.mem_flatMap.1 hx
  exact enc_oct (h o ho).1 (h o ho).2 x hx
end Go.Proofs.Ytidenjinagpphaa.opm
