/- A text cut at a byte: what the library's Split and Cut give, and what the document's does. -/
import Derived.Test.YtnokfpojgmndmaaSplit
import Derived.Test.YtnokfpojgmndmaaStrNums
import Derived.Lib.Split
import Derived.Lib.SplitLaws
namespace Go.Proofs.Ytnokfpojgmndmaa.spc
open Go.RowKit
open Go.Proofs.Ytnokfpojgmndmaa.kit Go.Proofs.Ytnokfpojgmndmaa.spm Go.Proofs.Ytnokfpojgmndmaa.hxm Go.Proofs.Ytnokfpojgmndmaa.hxt
set_option linter.unusedVariables false
set_option linter.unusedSimpArgs false
/-- what stands between bytes c -/
def spU (c : UInt8) : List UInt8 → List UInt8 → List (List UInt8)
  | [], one => [one]
  | x :: r, one => if x = c then one :: spU c r [] else spU c r (one ++ [x])
theorem spU_ne (c : UInt8) (l one : List UInt8) : spU c l one ≠ [] := by
  induction l generalizing one with
  | nil => simp [spU]
  | cons x r ih => unfold spU; split <;> simp [ih]
/-- the first piece bears what one has -/
theorem spU_one (c : UInt8) (l : List UInt8) : ∃ h t, ∀ one, spU c l one = (one ++ h) :: t := by
  induction l with
  | nil => exact ⟨[], [], fun one => by simp [spU]⟩
  | cons x r ih =>
    obtain ⟨h, t, hh⟩ := ih
    by_cases hx : x = c
    · exact ⟨[], spU c r [], fun one => by rw [spU, if_pos hx, List.append_nil]⟩
    · exact ⟨x :: h, t, fun one => by rw [spU, if_neg hx, hh, List.append_assoc]; rfl⟩
theorem index_nil (c : UInt8) : Lib.index [] [c] = -1 := by rfl
theorem index_one (c x : UInt8) (r : List UInt8) : Lib.index (x :: r) [c] = if x = c then 0 else if Lib.index r [c] = -1 then -1 else Lib.index r [c] + 1 := by
  have hp : List.isPrefixOf [c] (x :: r) = (c == x) := by simp [List.isPrefixOf]
  have e : Lib.index (x :: r) [c] = if [c].isPrefixOf (x :: r) = true then 0 else if (Lib.index r [c] == -1) = true then -1 else Lib.index r [c] + 1 := rfl
  rw [e, hp]
  generalize Lib.index r [c] = k
  by_cases h : x = c
  · rw [if_pos h, h]; simp
  · have hc : (c == x) = false := by rw [beq_eq_false_iff_ne]; exact fun e => h e.symm
    rw [hc, if_neg h]
    by_cases h2 : k = -1
    · rw [h2]; simp
    · have : (k == -1) = false := by rw [beq_eq_false_iff_ne]; exact h2
      simp [this, h2]
/-- the library's pieces -/
theorem split_is (c : UInt8) (l : List UInt8) : Lib.splitK [c] 0 (Lib.count l [c]) l = spU c l [] := by
  induction l with
  | nil => rw [Lib.count_miss (index_nil c)]; rfl
  | cons x r ih =>
    have hi := index_one c x r
    by_cases h : x = c
    · rw [if_pos h] at hi
      rw [Lib.count_hit (by simp) (i := 0) hi, Nat.add_comm 1]
      unfold Lib.splitK
      rw [hi, spU, if_pos h]
      simp only [List.length_cons, List.length_nil]
      simpa using ih
    · rw [if_neg h] at hi
      have hs : spU c (x :: r) [] = spU c r [x] := by rw [spU, if_neg h]; rfl
      obtain ⟨hd, tl, hh⟩ := spU_one c r
      rw [hs, hh]
      rw [hh, List.nil_append] at ih
      by_cases h2 : Lib.index r [c] = -1
      · rw [if_pos h2] at hi
        rw [Lib.count_miss hi]
        have : Lib.splitK [c] 0 (Lib.count r [c]) r = [r] := by rw [Lib.count_miss h2]; rfl
        rw [this] at ih
        injection ih with i1 i2
        rw [← i1, ← i2]; rfl
      · rw [if_neg h2] at hi
        obtain ⟨i, hi1⟩ : ∃ i : Nat, Lib.index r [c] = (i : Int) := by
          rcases Lib.index_spec r [c] with ⟨h3, _⟩ | ⟨i, h3, _⟩
          · exact absurd h3 h2
          · exact ⟨i, h3⟩
        have hi2 : Lib.index (x :: r) [c] = ((i + 1 : Nat) : Int) := by rw [hi, hi1]; rfl
        have e1 : Lib.splitK [c] 0 (Lib.count r [c]) r = r.take i :: Lib.splitK [c] 0 (Lib.count (r.drop (i + 1)) [c]) (r.drop (i + 1)) := by
          rw [Lib.count_hit (by simp) hi1, Nat.add_comm 1]
          show (if _ then _ else _) = _
          rw [hi1]
          have : ((i : Int) == -1) = false := by rw [beq_eq_false_iff_ne]; omega
          simp [this]
        have e2 : Lib.splitK [c] 0 (Lib.count (x :: r) [c]) (x :: r) = (x :: r.take i) :: Lib.splitK [c] 0 (Lib.count (r.drop (i + 1)) [c]) (r.drop (i + 1)) := by
          rw [Lib.count_hit (by simp) hi2, Nat.add_comm 1]
          show (if _ then _ else _) = _
          rw [hi2]
          have h5 : ¬ ((i : Int) + 1 = -1) := by omega
          simp [h5]
        rw [e1] at ih
        injection ih with i1 i2
        rw [e2, ← i1, ← i2]; rfl
def bas (L : List (List UInt8)) : List ByteArray := L.map fun x => ⟨x.toArray⟩
theorem bas_inj {L M : List ByteArray} (h : L.map (·.data.toList) = M.map (·.data.toList)) : L = M := by
  induction L generalizing M with
  | nil => cases M with
    | nil => rfl
    | cons y M => simp at h
  | cons x L ih =>
    cases M with
    | nil => simp at h
    | cons y M =>
      simp only [List.map_cons, List.cons.injEq] at h
      rw [ih h.2]
      have : x = y := ByteArray.ext (Array.toList_inj.1 h.1)
      rw [this]
theorem splitB_is (c : UInt8) (s : ByteArray) : Lib.splitB ⟨#[c]⟩ 0 (Lib.countB s ⟨#[c]⟩) s = bas (spU c s.data.toList []) := by
  apply bas_inj
  rw [Lib.splitB_data, show Lib.countB s ⟨#[c]⟩ = Lib.count s.data.toList [c] from rfl]
  have := split_is c s.data.toList
  have e : (bas (spU c s.data.toList [])).map (·.data.toList) = spU c s.data.toList [] := by
    unfold bas
    rw [List.map_map]
    conv => rhs; rw [← List.map_id (spU c s.data.toList [])]
    apply List.map_congr_left
    intro a _
    simp
  rw [e]
  exact this
/-! the document's pieces -/
theorem nums_of (x : List UInt8) : strOfNums (x.map fun c => (c.toNat : Int)) = ⟨x.toArray⟩ := by
  have := str_nums ⟨x.toArray⟩
  unfold nums at this
  simpa using this
theorem sp_of (c : UInt8) (l : List UInt8) : ∀ one, sp (c.toNat : Int) (l.map fun c => (c.toNat : Int)) (one.map fun c => (c.toNat : Int)) = (spU c l one).map fun x => x.map fun c => (c.toNat : Int) := by
  induction l with
  | nil => intro one; simp [sp, spU]
  | cons x r ih =>
    intro one
    by_cases h : x = c
    · have e : ((x.toNat : Nat) : Int) = (c.toNat : Int) := by rw [h]
      rw [List.map_cons, sp, if_pos e, spU, if_pos h, List.map_cons]
      have := ih []
      rw [List.map_nil] at this
      rw [this]
    · have e : ¬ ((x.toNat : Nat) : Int) = (c.toNat : Int) := fun e => h (UInt8.toNat_inj.1 (by omega))
      rw [List.map_cons, sp, if_neg e, spU, if_neg h, ← ih]
      simp
theorem strs_is (c : UInt8) (s : ByteArray) : strs (sp (c.toNat : Int) (nums s) []) = bas (spU c s.data.toList []) := by
  have := sp_of c s.data.toList []
  rw [List.map_nil] at this
  unfold strs nums bas
  rw [this, List.map_map]
  apply List.map_congr_left
  intro x _
  exact nums_of x
/-! where the byte is not -/
theorem spU_free (c : UInt8) (l : List UInt8) (h : c ∉ l) : ∀ one, spU c l one = [one ++ l] := by
  induction l with
  | nil => intro one; simp [spU]
  | cons x r ih =>
    intro one
    have hx : ¬ x = c := fun e => h (by rw [e]; exact List.mem_cons_self)
    rw [spU, if_neg hx, ih (fun e => h (List.mem_cons_of_mem _ e))]
    simp
theorem spU_at (c : UInt8) (x y : List UInt8) (h : c ∉ x) : ∀ one, spU c (x ++ c :: y) one = (one ++ x) :: spU c y [] := by
  induction x with
  | nil => intro one; simp [spU]
  | cons a r ih =>
    intro one
    have hx : ¬ a = c := fun e => h (by rw [e]; exact List.mem_cons_self)
    rw [List.cons_append, spU, if_neg hx, ih (fun e => h (List.mem_cons_of_mem _ e))]
    simp
theorem spU_piece (c : UInt8) (l : List UInt8) : ∀ one, c ∉ one → ∀ p ∈ spU c l one, c ∉ p := by
  induction l with
  | nil => intro one h p hp; simp [spU] at hp; rw [hp]; exact h
  | cons x r ih =>
    intro one h p hp
    by_cases hx : x = c
    · rw [spU, if_pos hx] at hp
      rcases List.mem_cons.1 hp with rfl | hp
      · exact h
      · exact ih [] (by simp) p hp
    · rw [spU, if_neg hx] at hp
      refine ih (one ++ [x]) ?_ p hp
      simp only [List.mem_append, List.mem_singleton, not_or]
      exact ⟨h, fun e => hx e.symm⟩
theorem cut_is (c : UInt8) (l : List UInt8) : (c ∉ l ∧ Lib.cut l [c] = (l, [], false)) ∨ (∃ x y, c ∉ x ∧ l = x ++ c :: y ∧ Lib.cut l [c] = (x, y, true)) := by
  induction l with
  | nil => left; exact ⟨by simp, by rfl⟩
  | cons a r ih =>
    have hi := index_one c a r
    by_cases h : a = c
    · right
      rw [if_pos h] at hi
      refine ⟨[], r, by simp, by rw [h]; rfl, ?_⟩
      unfold Lib.cut
      rw [hi]; rfl
    · rw [if_neg h] at hi
      rcases ih with ⟨h1, h2⟩ | ⟨x, y, h1, h2, h3⟩
      · left
        refine ⟨by simp only [List.mem_cons, not_or]; exact ⟨fun e => h e.symm, h1⟩, ?_⟩
        have : ¬ 0 ≤ Lib.index r [c] := fun hk => by unfold Lib.cut at h2; rw [if_pos hk] at h2; injection h2 with _ h2; injection h2 with _ h2; cases h2
        have hk : ¬ 0 ≤ Lib.index (a :: r) [c] := by rw [hi]; split <;> omega
        unfold Lib.cut
        rw [if_neg hk]
      · right
        refine ⟨a :: x, y, by simp only [List.mem_cons, not_or]; exact ⟨fun e => h e.symm, h1⟩, by rw [h2]; rfl, ?_⟩
        have hk : 0 ≤ Lib.index r [c] := Classical.byContradiction fun hk => by unfold Lib.cut at h3; rw [if_neg hk] at h3; injection h3 with _ h3; injection h3 with _ h3; cases h3
        have hi2 : Lib.index (a :: r) [c] = Lib.index r [c] + 1 := by rw [hi, if_neg (by omega)]
        unfold Lib.cut at h3 ⊢
        rw [if_pos hk] at h3
        injection h3 with e1 h3
        injection h3 with e2 _
        rw [hi2, if_pos (by omega), show (Lib.index r [c] + 1).toNat = (Lib.index r [c]).toNat + 1 by omega]
        simp only [List.length_cons, List.length_nil] at e2 ⊢
        rw [List.take_succ_cons, e1, show (Lib.index r [c]).toNat + 1 + (0 + 1) = ((Lib.index r [c]).toNat + (0 + 1)) + 1 by omega, List.drop_succ_cons, e2]
end Go.Proofs.Ytnokfpojgmndmaa.spc
