/- greh: what was built is parsed as it was; what is parsed is built as it was. -/
import Derived.Test.YtgoldoaigijmoaaGrehM
namespace Go.Proofs.Ytgoldoaigijmoaa.grc
open Go.RowKit
open Go.Proofs.Ytgoldoaigijmoaa.kit Go.Proofs.Ytgoldoaigijmoaa.bec
set_option linter.unusedVariables false
set_option linter.unusedSimpArgs false

theorem be2e (p : Int) (h : 0 ≤ p ∧ p ≤ 65535) : beB 2 p = [p / 256, p % 256] := by
  simp only [beB, Int.reducePow]
  congr 1
  · omega
  · congr 1; omega
theorem be4e (p : Int) (h : 0 ≤ p ∧ p ≤ 4294967295) : beB 4 p = [p / 16777216, p / 65536 % 256, p / 256 % 256, p % 256] := by
  simp only [beB, Int.reducePow]
  congr 1
  · omega
  · congr 2; congr 1; congr 1; omega
theorem n4_be (p : Int) (h : 0 ≤ p ∧ p ≤ 4294967295) (r : List Int) : n4 (beB 4 p ++ r) = p := by
  rw [be4e p h]
  simp only [n4, List.cons_append, List.nil_append, List.take_succ_cons, List.take_zero, numB, List.foldl]
  omega
theorem be_n4 (r : List Int) (h : 4 ≤ r.length) (hb : Byt r) : beB 4 (n4 r) = r.take 4 := by
  match r, h with
  | x :: y :: z :: u :: q, _ =>
    have h1 := hb x (by simp)
    have h2 := hb y (by simp)
    have h3 := hb z (by simp)
    have h4 := hb u (by simp)
    have e : n4 (x :: y :: z :: u :: q) = 16777216 * x + 65536 * y + 256 * z + u := by
      simp only [n4, List.take_succ_cons, List.take_zero, numB, List.foldl]; omega
    rw [e, be4e _ (by omega)]
    simp only [List.take_succ_cons, List.take_zero]
    congr 1
    · omega
    · congr 1
      · omega
      · congr 1
        · omega
        · congr 1; omega
theorem bits_bd (hs ha : Bool) : 0 ≤ bitsT hs ha ∧ bitsT hs ha ≤ 65535 := by cases hs <;> cases ha <;> decide
theorem head_list (call : Int) (hc : 0 ≤ call ∧ call ≤ 65535) (hs ha : Bool) (n : Nat) (hn : n ≤ 65535) : headT call hs ha n = [bitsT hs ha / 256, bitsT hs ha % 256, 136, 11, (n : Int) / 256, (n : Int) % 256, call / 256, call % 256] := by
  unfold headT
  rw [be2e _ (bits_bd hs ha), be2e 34827 (by decide), be2e (n : Int) (by omega), be2e call hc]
  rfl
theorem nums_len (hs : Bool) (seq : Int) (ha : Bool) (ack : Int) : (numsT hs seq ha ack).length = skipT hs ha := by
  unfold numsT skipT; cases hs <;> cases ha <;> simp [beB_len]
/-- what was built is parsed as it was -/
theorem parse_built (call : Int) (hc : 0 ≤ call ∧ call ≤ 65535) (hs : Bool) (seq : Int) (hq : 0 ≤ seq ∧ seq ≤ 4294967295) (ha : Bool) (ack : Int) (hk : 0 ≤ ack ∧ ack ≤ 4294967295) (d : List Int) (hr : rightT hs seq ha ack d.length = true) :
    grP (grB call hs seq ha ack d) = ⟨call, hs, seq, ha, ack, d, 0⟩ := by
  unfold rightT at hr
  simp only [Bool.and_eq_true, beq_iff_eq, decide_eq_true_eq, Bool.or_eq_true] at hr
  obtain ⟨⟨⟨h1, h2⟩, h3⟩, h4⟩ := hr
  have e : grB call hs seq ha ack d = [bitsT hs ha / 256, bitsT hs ha % 256, 136, 11, (d.length : Int) / 256, (d.length : Int) % 256, call / 256, call % 256] ++ (numsT hs seq ha ack ++ d) := by
    unfold grB
    rw [if_pos (by unfold rightT; simp only [Bool.and_eq_true, beq_iff_eq, decide_eq_true_eq, Bool.or_eq_true]; exact ⟨⟨⟨h1, h2⟩, h3⟩, h4⟩), head_list call hc hs ha _ (by omega), List.append_assoc]
  rw [e]
  generalize hr : numsT hs seq ha ack ++ d = r
  have hl : r.length = skipT hs ha + d.length := by rw [← hr, List.length_append, nums_len]
  have q0 : n2 ([bitsT hs ha / 256, bitsT hs ha % 256, 136, 11, (d.length : Int) / 256, (d.length : Int) % 256, call / 256, call % 256] ++ r) 0 = bitsT hs ha := by simp [n2]; omega
  have q2 : n2 ([bitsT hs ha / 256, bitsT hs ha % 256, 136, 11, (d.length : Int) / 256, (d.length : Int) % 256, call / 256, call % 256] ++ r) 2 = 34827 := by simp [n2]
  have q4 : n2 ([bitsT hs ha / 256, bitsT hs ha % 256, 136, 11, (d.length : Int) / 256, (d.length : Int) % 256, call / 256, call % 256] ++ r) 4 = d.length := by simp [n2]; omega
  have q6 : n2 ([bitsT hs ha / 256, bitsT hs ha % 256, 136, 11, (d.length : Int) / 256, (d.length : Int) % 256, call / 256, call % 256] ++ r) 6 = call := by simp [n2]; omega
  have q8 : ([bitsT hs ha / 256, bitsT hs ha % 256, 136, 11, (d.length : Int) / 256, (d.length : Int) % 256, call / 256, call % 256] ++ r).drop 8 = r := by simp
  have key : grT hs ha call d.length r = ⟨call, hs, seq, ha, ack, d, 0⟩ := by
    unfold grT
    rw [if_neg (by omega), if_neg (by omega), if_pos h1]
    have e1 : r.drop (skipT hs ha) = d := by rw [← hr, ← nums_len hs seq ha ack]; exact List.drop_left' rfl
    rw [e1]
    cases hs <;> cases ha <;> simp only [if_true, if_false, Bool.false_eq_true, List.drop_zero, false_or] at *
    · rw [h3, h4]
    · rw [h3, ← hr]; simp only [numsT, if_true, if_false, Bool.false_eq_true, List.nil_append]; rw [n4_be ack hk]
    · rw [h4, ← hr]; simp only [numsT, if_true, if_false, Bool.false_eq_true, List.append_nil]; rw [n4_be seq hq]
    · have e2 : r.drop 4 = beB 4 ack ++ d := by rw [← hr]; simp only [numsT, if_true, List.append_assoc]; exact List.drop_left' (beB_len 4 seq)
      rw [e2, n4_be ack hk, ← hr]; simp only [numsT, if_true, List.append_assoc]; rw [n4_be seq hq]
  unfold grP
  rw [if_neg (by first | (simp; done) | (simp; omega)), q2, q0, q4, q6, q8, Int.toNat_natCast, if_pos rfl]
  cases hs <;> cases ha <;> exact key
theorem eight (l : List Int) (h : 8 ≤ l.length) : l = [l.getD 0 0, l.getD 1 0, l.getD 2 0, l.getD 3 0, l.getD 4 0, l.getD 5 0, l.getD 6 0, l.getD 7 0] ++ l.drop 8 := by
  match l, h with
  | a :: b :: c :: d :: e :: f :: g :: i :: q, _ => simp
/-- what is parsed is built as it was -/
theorem built_parsed (l : List Int) (hb : Byt l) (he : (grP l).err = 0) (hd : (grP l).d.length ≤ 1600) :
    grB (grP l).call (grP l).hs (grP l).seq (grP l).ha (grP l).ack (grP l).d = l := by
  by_cases h8 : l.length < 8
  · unfold grP at he; rw [if_pos h8] at he; exact absurd he (by decide)
  · by_cases hp : n2 l 2 = 34827
    · have main : ∀ hs ha, n2 l 0 = bitsT hs ha → grP l = grT hs ha (n2 l 6) (n2 l 4).toNat (l.drop 8) → grB (grP l).call (grP l).hs (grP l).seq (grP l).ha (grP l).ack (grP l).d = l := by
        intro hs ha h0 hg
        rw [hg] at he hd ⊢
        have hm := n2_bd hb 4
        obtain ⟨m, hm4⟩ : ∃ m : Nat, n2 l 4 = m := ⟨(n2 l 4).toNat, by omega⟩
        rw [hm4, Int.toNat_natCast] at he hd ⊢
        by_cases h1 : (l.drop 8).length < skipT hs ha + m
        · unfold grT at he; rw [if_pos h1] at he; exact absurd he (by decide)
        · by_cases h2 : skipT hs ha + m < (l.drop 8).length
          · unfold grT at he; rw [if_neg h1, if_pos h2] at he; exact absurd he (by decide)
          · by_cases h3 : hs = decide (0 < m)
            · have eT : grT hs ha (n2 l 6) m (l.drop 8) = ⟨n2 l 6, hs, if hs then n4 (l.drop 8) else 0, ha, if ha then n4 ((l.drop 8).drop (if hs then 4 else 0)) else 0, (l.drop 8).drop (skipT hs ha), 0⟩ := by unfold grT; rw [if_neg h1, if_neg h2, if_pos h3]
              rw [eT] at hd ⊢
              have hdl : ((l.drop 8).drop (skipT hs ha)).length = m := by rw [List.length_drop]; omega
              simp only at hd ⊢
              rw [hdl] at hd
              unfold grB
              rw [hdl, if_pos (by
                unfold rightT
                simp only [Bool.and_eq_true, beq_iff_eq, decide_eq_true_eq, Bool.or_eq_true]
                refine ⟨⟨⟨h3, hd⟩, ?_⟩, ?_⟩
                · cases hs <;> simp
                · cases ha <;> simp)]
              have hc := n2_bd hb 6
              rw [head_list _ hc hs ha m (by omega)]
              have hy := hb.drop 8
              have hn : numsT hs (if hs then n4 (l.drop 8) else 0) ha (if ha then n4 ((l.drop 8).drop (if hs then 4 else 0)) else 0) = (l.drop 8).take (skipT hs ha) := by
                unfold numsT
                unfold skipT at h1 ⊢
                cases hs <;> cases ha <;> simp only [if_true, if_false, Bool.false_eq_true] at h1 ⊢
                · simp
                · rw [List.drop_zero, be_n4 _ (by omega) hy]; simp
                · rw [be_n4 _ (by omega) hy]; simp
                · rw [be_n4 _ (by omega) hy, be_n4 _ (by rw [List.length_drop]; omega) (hy.drop 4)]
                  rw [show 4 + 4 = 8 from rfl, show (8 : Nat) = 4 + 4 from rfl, List.take_add]
              rw [hn, List.append_assoc, List.take_append_drop]
              have g0 := hb.getD 0
              have g1 := hb.getD 1
              have g2 := hb.getD 2
              have g3 := hb.getD 3
              have g4 := hb.getD 4
              have g5 := hb.getD 5
              have g6 := hb.getD 6
              have g7 := hb.getD 7
              conv => rhs; rw [eight l (by omega)]
              congr 1
              unfold n2 at h0 hp hm4 ⊢
              simp only [Nat.zero_add, Nat.reduceAdd] at h0 hp hm4 ⊢
              rw [← h0]
              simp only [List.cons.injEq, and_true]
              refine ⟨?_, ?_, ?_, ?_, ?_, ?_, ?_, ?_⟩ <;> omega
            · unfold grT at he; rw [if_neg h1, if_neg h2, if_neg h3] at he; exact absurd he (by decide)
      have hg : grP l = if n2 l 0 = 8193 then grT false false (n2 l 6) (n2 l 4).toNat (l.drop 8) else if n2 l 0 = 12289 then grT true false (n2 l 6) (n2 l 4).toNat (l.drop 8) else if n2 l 0 = 8321 then grT false true (n2 l 6) (n2 l 4).toNat (l.drop 8) else if n2 l 0 = 12417 then grT true true (n2 l 6) (n2 l 4).toNat (l.drop 8) else zeroT 11 := by
        unfold grP; rw [if_neg h8, if_pos hp]
      by_cases k1 : n2 l 0 = 8193
      · rw [if_pos k1] at hg; exact main false false k1 hg
      · rw [if_neg k1] at hg
        by_cases k2 : n2 l 0 = 12289
        · rw [if_pos k2] at hg; exact main true false k2 hg
        · rw [if_neg k2] at hg
          by_cases k3 : n2 l 0 = 8321
          · rw [if_pos k3] at hg; exact main false true k3 hg
          · rw [if_neg k3] at hg
            by_cases k4 : n2 l 0 = 12417
            · rw [if_pos k4] at hg; exact main true true k4 hg
            · rw [if_neg k4] at hg; rw [hg] at he; exact absurd he (by decide)
    · unfold grP at he; rw [if_neg h8, if_neg hp] at he; exact absurd he (by decide)
/-- the numbers of what is parsed -/
theorem parsed_bd (l : List Int) (hb : Byt l) : (0 ≤ (grP l).call ∧ (grP l).call ≤ 65535) ∧ (0 ≤ (grP l).seq ∧ (grP l).seq ≤ 4294967295) ∧ (0 ≤ (grP l).ack ∧ (grP l).ack ≤ 4294967295) := by
  have hz : ∀ e, (0 ≤ (zeroT e).call ∧ (zeroT e).call ≤ 65535) ∧ (0 ≤ (zeroT e).seq ∧ (zeroT e).seq ≤ 4294967295) ∧ (0 ≤ (zeroT e).ack ∧ (zeroT e).ack ≤ 4294967295) := fun e => by simp [zeroT]
  have hg : ∀ hs ha m, (0 ≤ (grT hs ha (n2 l 6) m (l.drop 8)).call ∧ (grT hs ha (n2 l 6) m (l.drop 8)).call ≤ 65535) ∧ (0 ≤ (grT hs ha (n2 l 6) m (l.drop 8)).seq ∧ (grT hs ha (n2 l 6) m (l.drop 8)).seq ≤ 4294967295) ∧ (0 ≤ (grT hs ha (n2 l 6) m (l.drop 8)).ack ∧ (grT hs ha (n2 l 6) m (l.drop 8)).ack ≤ 4294967295) := by
    intro hs ha m
    unfold grT
    split
    · exact hz _
    · split
      · exact hz _
      · split
        · refine ⟨n2_bd hb 6, ?_, ?_⟩
          · show 0 ≤ (if hs = true then n4 (l.drop 8) else 0) ∧ _
            cases hs
            · simp
            · exact n4_bd (hb.drop 8)
          · cases ha
            · simp
            · exact n4_bd ((hb.drop 8).drop _)
        · exact hz _
  unfold grP
  split
  · exact hz _
  · split
    · split
      · exact hg _ _ _
      · split
        · exact hg _ _ _
        · split
          · exact hg _ _ _
          · split
            · exact hg _ _ _
            · exact hz _
    · exact hz _
end Go.Proofs.Ytgoldoaigijmoaa.grc
