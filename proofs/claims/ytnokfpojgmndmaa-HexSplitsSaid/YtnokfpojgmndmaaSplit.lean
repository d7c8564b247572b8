/- The contracts of the document's own Split and Words. -/
import Derived.Test.YtnokfpojgmndmaaStrs
import Derived.Test.YtnokfpojgmndmaaSplitMath
import Derived.Test.YtnokfpojgmndmaaStrNums
import Derived.LoopTactic
import Derived.Deep.DeepCutAuto
import Derived.Laws.Concat
namespace Go.Proofs.Ytnokfpojgmndmaa.spc
open Go.RowKit
open Go.Proofs.Ytnokfpojgmndmaa.kit Go.Proofs.Ytnokfpojgmndmaa.hxm Go.Proofs.Ytnokfpojgmndmaa.spm Go.Proofs.Ytnokfpojgmndmaa.hxt
set_option linter.unusedVariables false
set_option linter.unusedSimpArgs false
/-- texts of lists of bytes -/
def strs (L : List (List Int)) : List ByteArray := L.map strOfNums
theorem strs_len (L : List (List Int)) : (strs L).length = L.length := by simp [strs]
theorem strs_snoc (L : List (List Int)) (x : List Int) : strs (L ++ [x]) = strs L ++ [strOfNums x] := by simp [strs]
def SplitPost (w : World) (L : List (List Int)) (e : Ending) (w' : World) : Prop := ∃ a cap, e = .returned (.slice a L.length cap) ∧ w'.ownsRow w.heap.size 9 1 (.slice a L.length cap) L.length ((strs L).map Value.string) ∧ Below w.heap.size w w'
set_option maxHeartbeats 1000000 in
theorem split_any (s : ByteArray) (c : Int) (hs : s.size ≤ 100000) (w : World) :
    Calls Try.prog 12 #[.string s, .int .u8 c] w (SplitPost w (sp c (nums s) [])) := by
  have HL := hid (nums_len s)
  go_enter Try.func12, Try.ntmps12
  go_wp2_with fail
  go_loopw [5, 6, 7] (fun ov sv iv wr => ∃ (k n : Nat) (D : List (List Int)) (one : List Int), k ≤ s.size ∧ n ≤ k ∧ iv = .int .i64 k ∧ sv = .string (strOfNums one) ∧ Hid (D.length = n) ∧ Hid (one.length ≤ k) ∧ Hid (D ++ sp c ((nums s).drop k) one = sp c (nums s) []) ∧ Hid (wr.ownsRow w.heap.size 9 1 ov n ((strs D).map Value.string)) ∧ Hid (Below w.heap.size w wr)) (fun _ _ iv _ => s.size - (intOf iv).toNat)
  case atStart => exact ⟨0, 0, [], [], Nat.zero_le _, Nat.zero_le _, rfl, rfl, hid rfl, hid (Nat.le_refl _), hid rfl, hid (World.ownsRow_nil _ _ _ _), hid (Below.refl _ _)⟩
  case round =>
    obtain ⟨k, n, D, one, hk, hnk, rfl, rfl, HD, HO1, HE, HO, HB⟩ := hrel
    have hbs := HB.out.size
    by_cases hlt : k < s.size
    · have HX := hid (nums_at s k hlt)
      have hlt2 : (k : Int) < s.size := by omega
      by_cases he : ((s[k]'hlt).toNat : Int) = c
      · have hbq : (((s[k]'hlt).toNat : Int) == c) = true := by simpa using he
        have HE2 := hid (show (D ++ [one]) ++ sp c ((nums s).drop (k + 1)) [] = sp c (nums s) [] by
          rw [← HE.out, sp_cut c (nums s) one k (by rw [HL.out]; exact hlt) (by rw [← HX.out]; exact he)]; simp)
        clear he HE HX
        go_wp2_with (at_builtin; (refine wpList_append_str rfl (.tmp 19) (.tmp 21) rfl w.heap.size _ n (strs D) rfl (HO.out.alloc _) ⟨wr.heap.size, 0, none⟩ 1 (strOfNums one) rfl (by simp [go_sem]) (by omega) (by simp; omega) ?_); intro v1 w3 g1 r1)
        have B3 := hid (own_below (HO.out.alloc _) (HB.out.alloc hbs _) r1 (by simp; omega))
        have O3 := hid g1
        clear g1 r1
        go_roundw
        case rel => exact ⟨k + 1, n + 1, D ++ [one], [], by omega, by omega, by go_num, rfl, hid (by rw [List.length_append, HD.out]; rfl), hid (Nat.zero_le _), HE2, by rw [strs_snoc]; exact O3, B3⟩
        case measure => simp [intOf]; omega
      · have hbq : (((s[k]'hlt).toNat : Int) == c) = false := by simpa using he
        have HE2 := hid (show D ++ sp c ((nums s).drop (k + 1)) (one ++ [((s[k]'hlt).toNat : Int)]) = sp c (nums s) [] by
          rw [← HE.out, sp_on c (nums s) one k (by rw [HL.out]; exact hlt) (by rw [← HX.out]; exact he), HX.out])
        have hcv : (convert 35 9 (.slice (some ⟨wr.heap.size, 0, none⟩) 1 1)).run Try.prog (wr.alloc (.cells #[.int .u8 ((s[k]'hlt).toNat : Int)] 5)) = .ok (.string (strOfNums [((s[k]'hlt).toNat : Int)])) (wr.alloc (.cells #[.int .u8 ((s[k]'hlt).toNat : Int)] 5)) := conv_nums nums_one
        have hsz : ¬ 9223372036854775807 < (strOfNums one).size + (strOfNums [((s[k]'hlt).toNat : Int)]).size := by
          rw [strOfNums_size, strOfNums_size]; have := HO1.out; simp; omega
        have HA := hid (str_add one [((s[k]'hlt).toNat : Int)])
        clear he HE HX
        go_wp2_with fail
        go_roundw
        case rel => exact ⟨k + 1, n, D, one ++ [((s[k]'hlt).toNat : Int)], by omega, by omega, by go_num, by rw [← HA.out], HD, hid (by have := HO1.out; simp; omega), HE2, hid (HO.out.alloc _), hid (HB.out.alloc hbs _)⟩
        case measure => simp [intOf]; omega
    · obtain rfl : k = s.size := by omega
      have HE2 := hid (show D ++ [one] = sp c (nums s) [] by rw [← HE.out, ← HL.out, sp_end])
      have hlt2 : ¬ (s.size : Int) < s.size := by omega
      clear HE
      go_wp2_with (at_builtin; (refine wpList_append_str rfl (.tmp 30) (.tmp 32) rfl w.heap.size _ n (strs D) rfl (HO.out.alloc _) ⟨wr.heap.size, 0, none⟩ 1 (strOfNums one) rfl (by simp [go_sem]) (by omega) (by simp; omega) ?_); intro v1 w3 g1 r1)
      have B3 := hid (own_below (HO.out.alloc _) (HB.out.alloc hbs _) r1 (by simp; omega))
      go_ret
      obtain ⟨a', c', rfl⟩ := own_slice g1
      have hlen : (sp c (nums s) []).length = n + 1 := by rw [← HE2.out, List.length_append, HD.out]; rfl
      refine ⟨a', c', by rw [hlen]; rfl, ?_, B3.out⟩
      rw [hlen, ← HE2.out, strs_snoc]
      exact g1
theorem own_weak {w : World} {base base' : Nat} {e : TypeId} {size : Nat} {v : Value} {n : Nat} {xs : List Value} (h : w.ownsRow base e size v n xs) (hb : base' ≤ base) : w.ownsRow base' e size v n xs :=
  ⟨h.1, h.2.imp id fun ⟨g, c, cur, a, b, r⟩ => ⟨g, c, cur, a, Nat.le_trans hb b, r⟩⟩
theorem empty_str (x : List Int) : (strOfNums x).toList.isEmpty = x.isEmpty := by
  rw [ByteArray.toList_eq, strOfNums_data]; cases x <;> rfl
set_option maxHeartbeats 1000000 in
theorem words_any (s : ByteArray) (hs : s.size ≤ 100000) (w : World) :
    Calls Try.prog 6 #[.string s] w (SplitPost w (wordsI (nums s))) := by
  have HSP := hid (fun w => split_any s 32 hs w)
  have HK := hid (keep_all (sp 32 (nums s) []))
  have HLn := hid (sp_len 32 (nums s) [])
  have HW : Hid (wordsI (nums s) = (sp 32 (nums s) []).filter fun x => !x.isEmpty) := rfl
  have hl := nums_len s
  obtain ⟨L, hL⟩ : ∃ L, L = sp 32 (nums s) [] := ⟨_, rfl⟩
  rw [← hL] at HSP HK HLn HW
  have hLl : L.length ≤ 100001 := by have := HLn.out.2; omega
  clear hL hl HLn
  go_enter Try.func6, Try.ntmps6
  go_wp2_with (go_at_call 12; ((with_reducible refine (HSP.out _).mono ?_); rintro e w2 ⟨a, cap, rfl, ho, hb⟩; have HO := hid (own_strs ho); have HB2 := hid hb; clear ho hb))
  go_loopw [3, 5] (fun ov iv wr => ∃ (k n : Nat), k ≤ L.length ∧ n ≤ k ∧ iv = .int .i64 k ∧ Hid ((keepI L k).length = n) ∧ Hid (wr.ownsRow w2.heap.size 9 1 ov n ((strs (keepI L k)).map Value.string)) ∧ Hid (Below w2.heap.size w2 wr)) (fun _ iv _ => L.length - (intOf iv).toNat)
  case atStart => exact ⟨0, 0, Nat.zero_le _, Nat.zero_le _, rfl, hid rfl, hid (World.ownsRow_nil _ _ _ _), hid (Below.refl _ _)⟩
  case round =>
    obtain ⟨k, n, hk, hnk, rfl, HN, HO2, HB⟩ := hrel
    have hbs := HB.out.size
    by_cases hlt : k < L.length
    · obtain ⟨b, off, ha, h1, h2, h3⟩ := (HO.out.below HB.out).cells (by omega)
      subst ha
      have hc : wr.cell? ⟨b, off + k, none⟩ = some (.string (strOfNums (L.getD k []))) := by
        have := h3 k hlt
        rw [show (strs L).getD k ByteArray.empty = strOfNums (L.getD k []) by unfold strs; rw [List.getD_eq_getElem?_getD, List.getD_eq_getElem?_getD, List.getElem?_map, List.getElem?_eq_getElem hlt]; rfl] at this
        exact this
      have HS := hid (keep_succ L k hlt)
      obtain ⟨x, hx⟩ : ∃ x, x = L.getD k [] := ⟨_, rfl⟩
      rw [← hx] at hc HS
      clear h3 hx
      have HEM := hid (empty_str x)
      cases hq : x.isEmpty with
      | true =>
        have g1 : (strOfNums x).toList = [] := by have := HEM.out; rw [hq] at this; simpa using this
        have HS2 := hid (show keepI L (k + 1) = keepI L k by rw [HS.out, if_pos hq])
        have g2 : (!(strOfNums x).toList.isEmpty) = false := by rw [HEM.out, hq]; rfl
        clear HS hq
        go_wp2_with fail
        go_roundw
        case rel => exact ⟨k + 1, n, by omega, by omega, by go_num, by rw [HS2.out]; exact HN, by rw [HS2.out]; exact HO2, HB⟩
        case measure => simp [intOf]; omega
      | false =>
        have g1 : ¬ (strOfNums x).toList = [] := by have := HEM.out; rw [hq] at this; simpa using this
        have HS2 := hid (show keepI L (k + 1) = keepI L k ++ [x] by rw [HS.out, hq]; rfl)
        have g2 : (!(strOfNums x).toList.isEmpty) = true := by rw [HEM.out, hq]; rfl
        clear HS hq
        go_wp2_with (at_builtin; (refine wpList_append_str rfl (.tmp 19) (.tmp 24) rfl w2.heap.size _ n (strs (keepI L k)) rfl (HO2.out.alloc _) ⟨wr.heap.size, 0, none⟩ 1 (strOfNums x) rfl (by simp [go_sem]) (by omega) (by simp; omega) ?_); intro v1 w3 q1 r1)
        have B3 := hid (own_below (HO2.out.alloc _) (HB.out.alloc hbs _) r1 (by simp; omega))
        have O3 := hid q1
        clear q1 r1
        go_roundw
        case rel => exact ⟨k + 1, n + 1, by omega, by omega, by go_num, hid (by rw [HS2.out, List.length_append, HN.out]; rfl), by rw [HS2.out, strs_snoc]; exact O3, B3⟩
        case measure => simp [intOf]; omega
    · obtain rfl : k = L.length := by omega
      have hlt2 : ¬ (L.length : Int) < L.length := by omega
      go_wp2_with fail
      go_ret
      obtain ⟨a', c', rfl⟩ := own_slice HO2.out
      have hlen : (wordsI (nums s)).length = n := by rw [HW.out, ← HK.out]; exact HN.out
      refine ⟨a', c', by rw [hlen]; rfl, ?_, HB2.out.trans (HB.out.mono HB2.out.size)⟩
      rw [hlen, HW.out, ← HK.out]
      exact own_weak HO2.out HB2.out.size
end Go.Proofs.Ytnokfpojgmndmaa.spc
