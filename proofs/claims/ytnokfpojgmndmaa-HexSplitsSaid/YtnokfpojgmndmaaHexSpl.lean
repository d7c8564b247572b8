/- Words and lines, the program's and the document's: both the same pieces. -/
import Derived.Test.YtnokfpojgmndmaaHexLines
import Derived.Test.YtnokfpojgmndmaaWordU
import Derived.Test.YtnokfpojgmndmaaHexText
namespace Go.Proofs.Ytnokfpojgmndmaa.hsp
open Go.RowKit Go.Shelf
open Go.Proofs.Ytnokfpojgmndmaa.kit Go.Proofs.Ytnokfpojgmndmaa.spc Go.Proofs.Ytnokfpojgmndmaa.spm Go.Proofs.Ytnokfpojgmndmaa.hxm Go.Proofs.Ytnokfpojgmndmaa.hxt Go.Proofs.Ytnokfpojgmndmaa.lnu Go.Proofs.Ytnokfpojgmndmaa.wdu
set_option linter.unusedVariables false
set_option linter.unusedSimpArgs false
theorem trim_end (x : List UInt8) : Lib.trimSuffix (x ++ [10]) [10] = x := by
  have h : Lib.hasSuffix (x ++ [10]) [10] = true := by unfold Lib.hasSuffix; rw [List.isSuffixOf_iff_suffix]; exact List.suffix_append _ _
  unfold Lib.trimSuffix
  rw [if_pos h]
  simp
theorem trim_free (x : List UInt8) (hx : 10 ∉ x) : Lib.trimSuffix x [10] = x := by
  have h : ¬ Lib.hasSuffix x [10] = true := by
    unfold Lib.hasSuffix
    rw [List.isSuffixOf_iff_suffix]
    rintro ⟨y, rfl⟩
    exact hx (by simp)
  unfold Lib.trimSuffix
  rw [if_neg h]
/-- the last one alone, if it isn't empty -/
def cutL (M : List (List UInt8)) : List (List UInt8) := if (M.getD (M.length - 1) []).isEmpty then M.take (M.length - 1) else M
theorem cut_cons (x : List UInt8) (t : List (List UInt8)) (h : t ≠ []) : cutL (x :: t) = x :: cutL t := by
  obtain ⟨y, r, rfl⟩ : ∃ y r, t = y :: r := by cases t with
    | nil => exact absurd rfl h
    | cons y r => exact ⟨y, r, rfl⟩
  unfold cutL
  have e1 : (x :: y :: r).length - 1 = ((y :: r).length - 1) + 1 := by simp
  rw [e1, List.getD_cons_succ, List.take_succ_cons]
  split <;> rfl
theorem trim_lines (l : List UInt8) : ∀ one, 10 ∉ one → (lnU l one).map (fun x => Lib.trimSuffix x [10]) = cutL (spU 10 l one) := by
  induction l with
  | nil =>
    intro one h
    rw [lnU, spU]
    cases one with
    | nil => rfl
    | cons a r => simp [cutL, trim_free (a :: r) h]
  | cons x r ih =>
    intro one h
    by_cases hx : x = 10
    · rw [lnU, if_pos hx, spU, if_pos hx, cut_cons _ _ (spU_ne _ _ _), List.map_cons, trim_end, ih [] (by simp)]
    · rw [lnU, if_neg hx, spU, if_neg hx]
      exact ih _ (by simp [h]; exact fun e => hx e.symm)
def linesB (s : ByteArray) : List ByteArray := bas (cutL (spU 10 s.data.toList []))
def wordsB (s : ByteArray) : List ByteArray := bas (wordsU s.data.toList [])
theorem trim_bas (s : ByteArray) : (bas (lnU s.data.toList [])).map trim = linesB s := by
  unfold linesB
  rw [← trim_lines _ [] (by simp)]
  unfold bas
  rw [List.map_map, List.map_map]
  apply List.map_congr_left
  intro x _
  simp [trim]
def RowPost (w : World) (L : List ByteArray) (e : Ending) (w' : World) : Prop := ∃ a cap, e = .returned (.slice a L.length cap) ∧ Strs w' w'.heap.size a L.length cap L ∧ Below w.heap.size w w'
theorem row_post {w w' : World} {v : Value} {L : List ByteArray} {n : Nat} (hn : n = L.length) (h : w'.ownsRow w.heap.size 9 1 v n (L.map Value.string)) (hb : Below w.heap.size w w') : RowPost w L (.returned v) w' := by
  subst hn
  obtain ⟨a, c, rfl⟩ := own_slice h
  exact ⟨a, c, rfl, own_strs h, hb⟩
theorem hex_lines (s : ByteArray) (hs : s.size ≤ 1000) (w : World) : Calls Try.prog 7 #[.string s] w (RowPost w (linesB s)) :=
  (callsIn_wide.1 (hexlines_in s hs w)).mono fun e w' ⟨v, he, h, hb⟩ => by
    rw [he]
    rw [trim_bas] at h
    exact row_post (by unfold linesB; rw [← trim_lines _ [] (by simp)]; simp [bas]) h hb
theorem ref_words (s : ByteArray) (hs : s.size ≤ 1000) (w : World) : Calls Try.prog 6 #[.string s] w (RowPost w (wordsB s)) :=
  (words_any s (by omega) w).mono fun e w' ⟨a, cap, he, h, hb⟩ => by
    have e1 : strs (wordsI (nums s)) = wordsB s := by
      have := sp_of 32 s.data.toList []
      rw [List.map_nil] at this
      unfold wordsB wordsU wordsI
      rw [show sp 32 (nums s) [] = (spU 32 s.data.toList []).map fun x => x.map fun c => (c.toNat : Int) from this]
      unfold strs bas
      rw [List.filter_map, List.map_map]
      have e2 : ((fun x : List Int => !x.isEmpty) ∘ fun x : List UInt8 => x.map fun c => (c.toNat : Int)) = fun x => !x.isEmpty := by funext x; cases x <;> rfl
      rw [e2]
      apply List.map_congr_left
      intro x _
      exact nums_of x
    rw [he]
    rw [e1] at h
    exact row_post (by rw [← e1, strs_len]) h hb
theorem blank_in (z : Int) (W : World) : Calls Try.prog 11 #[.int .i32 z] W fun e w' => e = .returned (.bool (decide (z = 32))) ∧ w' = W := by
  go_enter Try.func11, Try.ntmps11
  go_wp2
  go_ret
  exact ⟨rfl, rfl⟩
theorem pred_blank (w : World) : PredAtRunes Try.prog 11 #[] (fun r => r == 32) w := by
  intro W x hx hb
  unfold FnGives
  rw [show (#[encR x] ++ #[] : Array Value) = #[.int .i32 (x : Int)] from by simp [encR]]
  refine (blank_in x W).mono ?_
  rintro e w' ⟨rfl, rfl⟩
  refine ⟨?_, 0, rfl⟩
  have : decide ((x : Int) = 32) = (x == 32) := by
    rw [Bool.eq_iff_iff]; simp; omega
  rw [this]
theorem hex_words (s : ByteArray) (hs : s.size ≤ 1000) (w : World) : Calls Try.prog 5 #[.string s] w (RowPost w (wordsB s)) := by
  have HF := hid (fun (W : World) => (Try.strings_FieldsFunc_runes 11 #[] (enters_of Try.func11 (by kernel_rfl) rfl) (fun r => r == 32) s W (by omega) (pred_blank W)))
  have HE := hid (fields_is s)
  go_enter Try.func5, Try.ntmps5
  go_wp2_with (go_at_call 10; ((with_reducible refine (HF.out _).mono ?_); rintro e w2 ⟨A, rfl, h1, h2, h3⟩))
  go_ret
  exact row_post (by unfold wordsB; rw [← HE.out]) (by rw [show wordsB s = Lib.goFieldsP (fun r => r == 32) s from HE.out.symm]; exact h2) h3
theorem cut_at (M : List (List UInt8)) (k : Nat) (hk : M.length = k + 1) : (M.getD k [] = [] ∧ cutL M = M.take k) ∨ (M.getD k [] ≠ [] ∧ cutL M = M) := by
  unfold cutL
  rw [hk, Nat.add_sub_cancel]
  by_cases h : M.getD k [] = []
  · left; rw [h]; exact ⟨rfl, rfl⟩
  · right
    refine ⟨h, if_neg ?_⟩
    rw [List.isEmpty_iff]; exact h
theorem bas_take (M : List (List UInt8)) (k : Nat) : bas (M.take k) = (bas M).take k := by simp [bas]
theorem bas_at (M : List (List UInt8)) (k : Nat) (h : k < M.length) : (bas M).getD k ByteArray.empty = ⟨(M.getD k []).toArray⟩ := by
  rw [List.getD_eq_getElem?_getD, List.getD_eq_getElem?_getD, List.getElem?_eq_getElem h]
  simp [bas, h]
set_option maxHeartbeats 1000000 in
theorem ref_lines (s : ByteArray) (hs : s.size ≤ 1000) (w : World) : Calls Try.prog 8 #[.string s] w (RowPost w (linesB s)) := by
  obtain ⟨M, hM⟩ : ∃ M, M = spU 10 s.data.toList [] := ⟨_, rfl⟩
  have e1 : strs (sp 10 (nums s) []) = bas M := by rw [hM]; exact strs_is 10 s
  have hl := sp_len 10 (nums s) []
  have hsz := nums_len s
  obtain ⟨k, hk⟩ : ∃ k, M.length = k + 1 := by
    have : M ≠ [] := by rw [hM]; exact spU_ne _ _ _
    exact ⟨M.length - 1, by have := List.length_pos_iff.2 this; omega⟩
  have hkl : (sp 10 (nums s) []).length = k + 1 := by rw [← strs_len, e1]; simp [bas, hk]
  have hk2 : k ≤ 1001 := by omega
  have HSP := hid (fun (W : World) => (split_any s 10 (by omega) W).mono (R' := fun e w' => ∃ a cap, e = .returned (.slice a (k + 1) cap) ∧ Strs w' w'.heap.size a (k + 1) cap (bas M) ∧ Below W.heap.size W w') fun e w' ⟨a, cap, he, ho, hb⟩ => by
    rw [hkl] at he ho
    rw [e1] at ho
    exact ⟨a, cap, he, own_strs ho, hb⟩)
  have hy := bas_at M k (by omega)
  have hc := cut_at M k hk
  have HLB : Hid (linesB s = bas (cutL M)) := by exact hid (by unfold linesB; rw [← hM])
  have HBT := hid (bas_take M k)
  have HBL : Hid ((bas M).length = k + 1) := hid (by simp [bas, hk])
  clear hM e1 hl hsz hk hkl
  obtain ⟨y, hy0⟩ : ∃ y : ByteArray, y = ⟨(M.getD k []).toArray⟩ := ⟨_, rfl⟩
  rw [← hy0] at hy
  have HY := hid hy
  rcases hc with ⟨c1, c2⟩ | ⟨c1, c2⟩
  · have g1 : y.toList = [] := by rw [hy0, c1, ByteArray.toList_eq]
    have HC := hid c2
    clear hy hy0 c1 c2
    go_enter Try.func8, Try.ntmps8
    go_wp2_with (go_at_call 12; ((with_reducible refine (HSP.out _).mono ?_); rintro e w2 ⟨a, cap, rfl, ho, hb⟩; obtain ⟨b, off, rfl, h1, h2, h3⟩ := ho.cells (by omega); have hkc : k ≤ cap := by { have := ho.le; omega }; have HO := hid ho; have HB := hid hb; have hcell := h3 k (by omega); rw [HY.out] at hcell; clear ho hb h3))
    go_ret
    have hS := HO.out.take (m := k) (by omega)
    have e2 : linesB s = (bas M).take k := by rw [HLB.out, HC.out, HBT.out]
    have e3 : (linesB s).length = k := by rw [e2, List.length_take, HBL.out]; omega
    refine ⟨some ⟨b, off, none⟩, cap, ?_, ?_, HB.out⟩
    · rw [e3]; rfl
    · rw [e3, e2]; exact hS
  · have g1 : y.toList.isEmpty = false := by
      rw [hy0, ByteArray.toList_eq, List.isEmpty_eq_false_iff]
      simpa using c1
    have HC := hid c2
    clear hy hy0 c1 c2
    go_enter Try.func8, Try.ntmps8
    go_wp2_with (go_at_call 12; ((with_reducible refine (HSP.out _).mono ?_); rintro e w2 ⟨a, cap, rfl, ho, hb⟩; obtain ⟨b, off, rfl, h1, h2, h3⟩ := ho.cells (by omega); have hkc : k ≤ cap := by { have := ho.le; omega }; have HO := hid ho; have HB := hid hb; have hcell := h3 k (by omega); rw [HY.out] at hcell; clear ho hb h3))
    go_ret
    have e2 : linesB s = bas M := by rw [HLB.out, HC.out]
    have e3 : (linesB s).length = k + 1 := by rw [e2, HBL.out]
    refine ⟨some ⟨b, off, none⟩, cap, ?_, ?_, HB.out⟩
    · rw [e3]; rfl
    · rw [e3, e2]; exact HO.out
theorem alive_any (w : World) : Calls Try.prog 9 #[] w fun e w' => e = .returned (.bool true) ∧ Below w.heap.size w w' := by
  have hN : Nums .u8 (w.alloc (.cells #[.int .u8 1, .int .u8 171] 5)) (w.heap.size + 1) (some ⟨w.heap.size, 0, none⟩) 2 2 [1, 171] := nums_two
  have HN := hid hN
  have hE := hid (show ((strOfNums (textI [1, 171])).toList == [48, 49, 97, 98]) = true by decide +kernel)
  clear hN
  go_enter Try.func9, Try.ntmps9
  go_wp2_with (go_at_call 15; go_loud (refine (text_any _ HN.out (by intro x hx; simp only [List.mem_cons, List.not_mem_nil, or_false] at hx; rcases hx with rfl | rfl <;> decide) (by omega) (by simp)).mono ?_); go_loud (rintro e w1 ⟨rfl, hb⟩))
  rw [hE.out]
  go_ret
  exact ⟨rfl, ((Below.refl _ _).alloc (Nat.le_refl _) _).trans (hb.mono (by simp))⟩
theorem equal_row {w : World} {B1 B2 c1 c2 : Nat} {a1 a2 : Option Addr} {L : List ByteArray} (hL : L.length ≤ 100000) (h1 : Strs w B1 a1 L.length c1 L) (h2 : Strs w B2 a2 L.length c2 L) :
    Calls Try.prog 4 #[.slice a1 L.length c1, .slice a2 L.length c2] w fun e w' => e = .returned (.bool true) ∧ Below w.heap.size w w' := by
  by_cases hz : L.length = 0
  · rw [hz]
    refine (Try.slices_Equal_string_empty a1 a2 c1 0 c2 w (by omega)).mono ?_
    rintro e w' ⟨rfl, rfl⟩
    exact ⟨by simp, Below.refl _ _⟩
  · obtain ⟨b1, o1, rfl, _, _, k1⟩ := h1.cells (by omega)
    obtain ⟨b2, o2, rfl, _, _, k2⟩ := h2.cells (by omega)
    refine (Try.slices_Equal_string b1 o1 L.length c1 b2 o2 L.length c2 L L w (Nat.le_refl _) (Nat.le_refl _) (by omega) (by omega) k1 k2).mono ?_
    rintro e w' ⟨rfl, q, rfl⟩
    exact ⟨by simp, below_drewN (Below.refl _ _) q⟩
theorem spU_len (c : UInt8) (l : List UInt8) : ∀ one, (spU c l one).length ≤ l.length + 1 := by
  induction l with
  | nil => intro one; simp [spU]
  | cons x r ih =>
    intro one
    rw [spU]
    split
    · have := ih []; simp; omega
    · have := ih (one ++ [x]); simp; omega
theorem words_len (s : ByteArray) (hs : s.size ≤ 1000) : (wordsB s).length ≤ 100000 := by
  have h1 := spU_len 32 s.data.toList []
  have h2 := List.length_filter_le (fun x : List UInt8 => !x.isEmpty) (spU 32 s.data.toList [])
  have h3 : s.data.toList.length = s.size := rfl
  unfold wordsB wordsU bas
  rw [List.length_map]
  omega
theorem lines_len (s : ByteArray) (hs : s.size ≤ 1000) : (linesB s).length ≤ 100000 := by
  have h1 := spU_len 10 s.data.toList []
  have h3 : s.data.toList.length = s.size := rfl
  have h2 : (cutL (spU 10 s.data.toList [])).length ≤ (spU 10 s.data.toList []).length := by
    unfold cutL; split
    · rw [List.length_take]; omega
    · exact Nat.le_refl _
  unfold linesB bas
  rw [List.length_map]
  omega
end Go.Proofs.Ytnokfpojgmndmaa.hsp
