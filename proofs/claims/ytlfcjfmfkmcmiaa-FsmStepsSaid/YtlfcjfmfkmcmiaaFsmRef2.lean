/- The contract of the document's own Step. -/
import Derived.Test.YtlfcjfmfkmcmiaaFsmRef
namespace Go.Proofs.Ytlfcjfmfkmcmiaa.fc
open Go.RowKit
open Go.Proofs.Ytlfcjfmfkmcmiaa.kit Go.Proofs.Ytlfcjfmfkmcmiaa.fm Go.Proofs.Ytlfcjfmfkmcmiaa.hxm Go.Proofs.Ytlfcjfmfkmcmiaa.spm Go.Proofs.Ytlfcjfmfkmcmiaa.spc
set_option linter.unusedVariables false
set_option maxRecDepth 20000
theorem rstep_out (s x : Int) (h : s < 0 ∨ 9 < s ∨ x < 0 ∨ 15 < x) (w : World) :
    Calls Try.prog 31 #[.int .i64 s, .int .i64 x] w fun e w' => e = .returned (.tuple #[.int .i64 (toI s x), .int .i64 (actI s x)]) ∧ Below w.heap.size w w' := by
  have e1 : toI s x = s := by unfold toI; rw [if_neg (by omega)]
  have e2 : actI s x = 0 := by unfold actI; rw [if_neg (by omega)]
  rw [e1, e2]
  clear e1 e2
  rcases (show s < 0 ∨ (¬ s < 0 ∧ 9 < s) ∨ (¬ s < 0 ∧ ¬ 9 < s ∧ x < 0) ∨ (¬ s < 0 ∧ ¬ 9 < s ∧ ¬ x < 0 ∧ 15 < x) by omega) with h1 | ⟨h1, h2⟩ | ⟨h1, h2, h3⟩ | ⟨h1, h2, h3, h4⟩
  all_goals
    clear h
    go_enter Try.func31, Try.ntmps31
    go_wp2
    go_ret2
    exact ⟨rfl, Below.refl _ _⟩
theorem getD_str (L : List (List Int)) (k : Nat) (h : k < L.length) : (strs L).getD k ByteArray.empty = strOfNums (L.getD k []) := by
  unfold strs; rw [List.getD_eq_getElem?_getD, List.getD_eq_getElem?_getD, List.getElem?_map, List.getElem?_eq_getElem h]; rfl
theorem pow_bd (P : Int) (h0 : 0 ≤ P) (h : P ≤ 13) : (0 : Int) ≤ 2 ^ P.toNat ∧ (2 : Int) ^ P.toNat ≤ 8192 := by
  have : P = 0 ∨ P = 1 ∨ P = 2 ∨ P = 3 ∨ P = 4 ∨ P = 5 ∨ P = 6 ∨ P = 7 ∨ P = 8 ∨ P = 9 ∨ P = 10 ∨ P = 11 ∨ P = 12 ∨ P = 13 := by omega
  rcases this with rfl | rfl | rfl | rfl | rfl | rfl | rfl | rfl | rfl | rfl | rfl | rfl | rfl | rfl <;> decide
theorem dot_iff (W : List Int) (h : ∀ y ∈ W, 0 ≤ y ∧ y ≤ 255) : ((strOfNums W).toList == [46]) = decide (W = [46]) := by
  rw [Bool.eq_iff_iff, beq_iff_eq, decide_eq_true_iff]
  constructor
  · intro e
    have := nums_str W h
    unfold nums at this
    rw [← ByteArray.toList_eq, e] at this
    simpa using this.symm
  · rintro rfl; rw [ByteArray.toList_eq]; rfl
theorem str_at (W : List Int) (h : ∀ y ∈ W, 0 ≤ y ∧ y ≤ 255) (k : Nat) (hk : k < (strOfNums W).size) : (((strOfNums W)[k]'hk).toNat : Int) = W.getD k 0 := by
  rw [nums_at, nums_str W h]
set_option maxHeartbeats 2000000 in
theorem rstep_in (s x : Nat) (h1 : s < 10) (h2 : x < 16) (w : World) :
    Calls Try.prog 31 #[.int .i64 (s : Nat), .int .i64 (x : Nat)] w fun e w' => e = .returned (.tuple #[.int .i64 (toI s x), .int .i64 (actI s x)]) ∧ Below w.heap.size w w' := by
  obtain ⟨hrb, hrl⟩ := row_ok x h2
  have hten := words_ten x h2
  have hfit := fit x s h2 h1
  have KR := hid (fun w => rrow_any x h2 w)
  have KW := hid (fun w => by have := words_any (strOfNums (rowB.getD x [])) (by rw [strOfNums_size]; omega) w; rw [nums_str _ hrb] at this; exact this)
  have HWI : Hid (wordI x s = (wordsI (rowB.getD x [])).getD s []) := rfl
  generalize wordsI (rowB.getD x []) = L at *
  generalize rowB.getD x [] = R at *
  unfold fits at hfit
  simp only [Bool.and_eq_true] at hfit
  obtain ⟨⟨⟨f1, f2⟩, f3⟩, f4⟩ := hfit
  have F1 := hid (fun y hy => by have := List.all_eq_true.1 f1 y hy; simpa using this : ∀ y ∈ wordI x s, 0 ≤ y ∧ y ≤ 255)
  have F4 := hid f4
  obtain ⟨W, hW⟩ : ∃ W, W = wordI x s := ⟨_, rfl⟩
  rw [← hW] at F1 F4 f2 f3 HWI
  have n1 : 1 ≤ W.length := by simpa using f2
  have n2 : W.length ≤ 5 := by simpa using f3
  clear f1 f2 f3 f4 hW hrb hrl
  have HT := hid hten
  clear hten
  go_enter Try.func31, Try.ntmps31
  go_upto_region 3 with fail
  go_upto_if 31 with (first | (go_at_call 43; ((with_reducible refine (KR.out _).mono ?_); rintro e w1 ⟨rfl, b1⟩)) | (go_at_call 42; ((with_reducible refine (KW.out _).mono ?_); rintro e w2 ⟨a, cap, rfl, ho, b2⟩; obtain ⟨bb, off, hadr, q1, q2, q3⟩ := (own_strs ho).cells (by rw [HT.out]; decide); subst hadr; have hc : w2.cell? ⟨bb, off + s, none⟩ = some (.string (strOfNums W)) := (by rw [q3 s (by rw [HT.out]; exact h1), getD_str L s (by rw [HT.out]; exact h1), ← HWI.out]); have hs10 : s < L.length := (by rw [HT.out]; exact h1); clear q3 ho)))
  have HD := hid (dot_iff W F1.out)
  have B2 := hid (b1.trans (b2.mono b1.size))
  clear b1 b2 KR KW HT HWI
  by_cases he : W = [46]
  · subst he
    have g1 : ((strOfNums [46]).toList == [46]) = true := by rw [HD.out]; rfl
    have G := F4.out
    rw [if_pos rfl] at G
    have G1 := hid (show toI s x = s by simp at G; exact G.1)
    have G2 := hid (show actI s x = 0 by simp at G; exact G.2)
    clear F4 G HD
    rw [g1]
    clear g1
    go_wp2_with fail
    go_ret2
    exact ⟨by rw [G1.out, G2.out]; rfl, B2.out⟩
  · have g1 : ((strOfNums W).toList == [46]) = false := by rw [HD.out]; simpa using he
    have g2 : ¬ (strOfNums W).toList = [46] := by intro e; rw [e] at g1; cases g1
    have G := F4.out
    rw [if_neg he] at G
    simp only [Bool.and_eq_true, decide_eq_true_iff] at G
    obtain ⟨⟨⟨G1', G2'⟩, G3⟩, G4⟩ := G
    have G1 := hid G1'
    have G2 := hid G2'
    clear G1' G2'
    have hsz : (strOfNums W).size = W.length := strOfNums_size W
    have HSZ := hid hsz
    have HAT := hid (str_at W F1.out)
    have HAB := hid (fun k => actOf_bd W k)
    have HPB := hid place_bd
    obtain ⟨m, hm⟩ : ∃ m, m = (strOfNums W).size := ⟨_, rfl⟩
    have hm1 : 1 ≤ m := by omega
    have hm5 : m ≤ 5 := by omega
    have HM := hid hm
    clear hsz F4 he HD n1 n2
    rw [g1]
    clear g1 g2
    go_wp2_with fail
    go_loopw [7, 8] (fun av iv wr => ∃ j : Nat, j + 1 ≤ m ∧ iv = .int .i64 ((j + 1 : Nat) : Int) ∧ av = .int .i64 (actOf W j) ∧ w2 = wr) (fun _ iv _ => m - (intOf iv).toNat)
    case atStart => exact ⟨0, hm1, rfl, rfl, rfl⟩
    case round =>
      obtain ⟨j, hj, rfl, rfl, rfl⟩ := hrel
      have hab := HAB.out j
      by_cases hlt : j + 1 < m
      · have hz : j + 1 < (strOfNums W).size := by rw [← HM.out]; exact hlt
        have hz2 : (j : Int) + 1 < ((strOfNums W).size : Int) := by omega
        have hx := HAT.out (j + 1) hz
        have hpb := HPB.out (W.getD (j + 1) 0)
        have KP := hid (fun w => by have h := place_any (((strOfNums W)[j + 1]'hz).toNat : Int) w; rw [show place (((strOfNums W)[j + 1]'hz).toNat : Int) = place (W.getD (j + 1) 0) by rw [hx]] at h; exact h)
        have HAS : Hid (actOf W (j + 1) = actOf W j + 2 ^ (place (W.getD (j + 1) 0)).toNat) := rfl
        obtain ⟨P, hP⟩ : ∃ P, P = place (W.getD (j + 1) 0) := ⟨_, rfl⟩
        rw [← hP] at KP HAS hpb
        clear hx hP
        have hpw := pow_bd P hpb.1 hpb.2
        have hj4 : (j : Int) ≤ 4 := by omega
        go_upto_region 9 with (go_at_call 44; ((with_reducible refine (KP.out _).mono ?_); rintro e w3 ⟨rfl, rfl⟩))
        rw [← HAS.out]
        clear hpw HAS
        go_wp2_with fail
        go_roundw
        case rel => exact ⟨j + 1, by omega, by go_num, rfl, trivial⟩
        case measure => simp [intOf]; omega
      · obtain rfl : m = j + 1 := by omega
        have hz2 : ¬ (j : Int) + 1 < ((strOfNums W).size : Int) := by omega
        have hz0 : 0 < (strOfNums W).size := by omega
        have hx := HAT.out 0 hz0
        have E1 := hid (show ((((strOfNums W)[0]'hz0).toNat : Int)) - 48 = toI s x by rw [hx, G1.out])
        have E2 := hid (show actOf W j = actI s x by rw [G2.out, ← HSZ.out, ← HM.out]; rfl)
        rw [← hx] at G3 G4
        clear hx
        go_wp2_with fail
        go_ret2
        exact ⟨by rw [← E1.out, ← E2.out]; rfl, B2.out⟩
theorem rstep_any (s x : Int) (w : World) :
    Calls Try.prog 31 #[.int .i64 s, .int .i64 x] w fun e w' => e = .returned (.tuple #[.int .i64 (toI s x), .int .i64 (actI s x)]) ∧ Below w.heap.size w w' := by
  by_cases h : 0 ≤ s ∧ s ≤ 9 ∧ 0 ≤ x ∧ x ≤ 15
  · have := rstep_in s.toNat x.toNat (by omega) (by omega) w
    rw [show ((s.toNat : Nat) : Int) = s by omega, show ((x.toNat : Nat) : Int) = x by omega] at this
    exact this
  · exact rstep_out s x (by omega) w
end Go.Proofs.Ytlfcjfmfkmcmiaa.fc
