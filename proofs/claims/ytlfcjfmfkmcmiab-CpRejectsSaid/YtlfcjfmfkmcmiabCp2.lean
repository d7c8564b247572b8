/- cp: the contracts of Build, Reject, RejectProto, Known; of the document's own First, Build, Same; that the package lives. -/
import Derived.Test.YtlfcjfmfkmcmiabCp
import Derived.Test.YtlfcjfmfkmcmiabBeRef
import Derived.Test.YtlfcjfmfkmcmiabStrNums
import Derived.Test.YtlfcjfmfkmcmiabRegion
namespace Go.Proofs.Ytlfcjfmfkmcmiab.cpc
open Go.RowKit
open Go.Proofs.Ytlfcjfmfkmcmiab.kit Go.Proofs.Ytlfcjfmfkmcmiab.bec Go.Proofs.Ytlfcjfmfkmcmiab.hxt Go.Proofs.Ytlfcjfmfkmcmiab.hxm
set_option linter.unusedVariables false
set_option maxRecDepth 20000

theorem first_any {W : World} {B n c : Nat} {a : Option Addr} {l : List Int} (h : Nums .u8 W B a n c l) (x : Int) (m : Nat) (hx : x = m) :
    Calls Try.prog 56 #[.slice a n c, .int .i64 x] W fun e W' => ∃ k, e = .returned (.slice a k c) ∧ k ≤ n ∧ Nums .u8 W B a k c (l.take m) ∧ W = W' := by
  subst hx
  have hle := h.le
  have hmx := h.max
  unfold maxLen at hmx
  by_cases hm : m < n
  · have HN := hid (h.take (Nat.le_of_lt hm))
    have hs := slice_to a n c m (by omega)
    clear h
    go_enter Try.func56, Try.ntmps56
    go_wp2
    go_ret
    exact ⟨m, rfl, by omega, HN.out, rfl⟩
  · have e : l.take m = l := List.take_of_length_le (by rw [h.len]; omega)
    rw [e]
    have HN := hid h
    have hs := slice_to a n c n hle
    clear h e
    go_enter Try.func56, Try.ntmps56
    go_wp2
    go_ret
    exact ⟨n, rfl, Nat.le_refl _, HN.out, rfl⟩
theorem room_any (W : World) (x : Int) (m : Nat) (hm : (m : Int) = if x < 4 then 0 else x - 4) (hx : x ≤ 9223372036854775807) :
    Calls Try.prog 58 #[.int .i64 x] W fun e W' => e = .returned (.int .i64 m) ∧ W = W' := by
  by_cases h4 : x < 4
  · have HM := hid (show m = 0 by rw [if_pos h4] at hm; omega)
    clear hm
    go_enter Try.func58, Try.ntmps58
    go_wp2
    go_ret
    exact ⟨ret_int (by rw [HM.out]; rfl), rfl⟩
  · have HM := hid (show (m : Int) = x - 4 by rw [if_neg h4] at hm; exact hm)
    have hsub : IntKind.i64.wrap (x - 4) = x - 4 := IntWalk.i64_in _ (by omega)
    clear hm
    go_enter Try.func58, Try.ntmps58
    go_wp2
    go_ret
    exact ⟨ret_int (by rw [HM.out]), rfl⟩
def knownB (x y : Int) : Bool := decide (0 < x) && decide (x ≤ y)
theorem known_any (W : World) (x y : Int) :
    Calls Try.prog 18 #[.int .u8 x, .int .u8 y] W fun e W' => e = .returned (.bool (knownB x y)) ∧ W = W' := by
  by_cases h : 1 ≤ x
  · have hd : knownB x y = decide (x ≤ y) := by unfold knownB; rw [decide_eq_true (by omega), Bool.true_and]
    have HD := hid hd
    clear hd
    go_enter Try.func18, Try.ntmps18
    go_wp2
    go_ret
    exact ⟨ret_bool HD.out.symm, rfl⟩
  · have HD := hid (show knownB x y = false by unfold knownB; rw [decide_eq_false (by omega)]; rfl)
    go_enter Try.func18, Try.ntmps18
    go_wp2
    go_ret
    exact ⟨ret_bool HD.out.symm, rfl⟩
theorem len_take (l : List Int) (h : l.length ≤ 60000) : l.take 65531 = l := List.take_of_length_le (by omega)
set_option maxHeartbeats 1000000 in
theorem build_own {w W : World} {L : List Sl} {a : Option Addr} {n c : Nat} {l : List Int} (h : St w W L) (hm : (a, n, c, l) ∈ L) (hn : n ≤ 60000) (x y : Int) :
    Calls Try.prog 57 #[.agg #[.int .u8 x, .int .u8 y, .slice a n c]] W fun e W' => ∃ a' n' c', e = .returned (.slice a' n' c') ∧ (∀ b o s, a' = some ⟨b, o, s⟩ → W.heap.size ≤ b) ∧ St w W' ((a', n', c', cpB x y l) :: L) := by
  obtain ⟨i0, hi, hi0, hi1, hi2⟩ := info_parts Try.info_u8
  have hl := (h.get hm).len
  obtain ⟨W1, hW1⟩ : ∃ W1, W1 = W.alloc (.cells #[.int .u8 x, .int .u8 y, .slice a n c] 40) := ⟨_, rfl⟩
  have b1 : Below W.heap.size W W1 := by rw [hW1]; exact (Below.refl _ _).alloc (Nat.le_refl _) _
  have k1 : Box W1 W.heap.size [.int .u8 x, .int .u8 y, .slice a n c] := by rw [hW1]; exact Box.made _ #[.int .u8 x, .int .u8 y, .slice a n c] _
  have c0 := k1.at_ 0 _ rfl
  have c1 := k1.at_ 1 _ rfl
  have c2 := k1.at_ 2 _ rfl
  have S1 := hid (h.next b1)
  have HL := hid (len_take l (by omega))
  have M := hid hm
  have HN := hid hl
  have HW := hid hW1
  have hz1 := b1.size
  have hw : IntKind.u16.wrap (4 + (n : Int)) = 4 + n := by rw [IntKind.wrap_u16]; omega
  clear h hm k1 hW1 b1 hl
  go_enter Try.func57, Try.ntmps57
  go_upto_region 1 with fail
  rw [← HW.out]
  go_upto_region 2 with (go_at_call 56; ((with_reducible refine (first_any (S1.out.get M.out) 65531 65531 rfl).mono ?_); rintro e w' ⟨k, rfl, hk, n1, rfl⟩))
  rw [HL.out] at n1
  obtain rfl : n = k := HN.out.symm.trans n1.len
  obtain ⟨W2, hW2⟩ : ∃ W2, W2 = W1.alloc (.cells #[.int .u8 x, .int .u8 y] 5) := ⟨_, rfl⟩
  have b2 : Below W1.heap.size W1 W2 := by rw [hW2]; exact (Below.refl _ _).alloc (Nat.le_refl _) _
  have S2 := hid ((S1.out.next b2).push (a := some ⟨W1.heap.size, 0, none⟩) (n := 2) (c := 2) (l := [x, y]) (by rw [hW2]; exact nums_two.mono (by simp)))
  have HW2 := hid hW2
  have hn4 : 0 ≤ 4 + (n : Int) ∧ 4 + (n : Int) ≤ 65535 := by omega
  have HZ := hid (Nat.le_trans hz1 b2.size)
  clear hW2 b2 hz1
  go_wp2_with (first | (go_at_call 59; rw [← HW2.out]; ((with_reducible refine (put16_st S2.out m0 (by omega) (4 + (n : Int)) hn4).mono ?_); rintro e w3 ⟨a3, c3, rfl, o3, b3, s3⟩)) | (at_builtin; go_loud (refine wpList_append_nums rfl (.tmp 18) _ 34 rfl W2.heap.size 5 i0 (.int .u8 0) 1 Try.underlying34 hi hi0 hi1 hi2 rfl _ _ _ rfl o3 _ _ _ _ _ rfl (s3.get (.tail _ (.tail _ M.out))) (by unfold maxLen; omega) (by omega) b3.size ?_); go_loud (intro v4 w4 g4 r4)))
  go_ret
  obtain ⟨a4, c4, rfl⟩ := own_slice g4
  have sF := St.app S2.out.tl o3 b3 g4 r4
  refine ⟨a4, _, c4, rfl, fun b o s hb => Nat.le_trans HZ.out (own_from g4 b o s hb), ?_⟩
  have e : cpB x y l = [x, y] ++ [(4 + (n : Int)) / 256, (4 + (n : Int)) % 256] ++ l := by unfold cpB; rw [HN.out]; simp
  rw [e]
  exact sF
theorem build_any {w W : World} {L : List Sl} {a : Option Addr} {n c : Nat} {l : List Int} (h : St w W L) (hm : (a, n, c, l) ∈ L) (hn : n ≤ 60000) (x y : Int) :
    Calls Try.prog 57 #[.agg #[.int .u8 x, .int .u8 y, .slice a n c]] W fun e W' => ∃ a' n' c', e = .returned (.slice a' n' c') ∧ St w W' ((a', n', c', cpB x y l) :: L) :=
  (build_own h hm hn x y).mono fun e W' ⟨a', n', c', he, _, hs⟩ => ⟨a', n', c', he, hs⟩
theorem rfirst_any {w W : World} {L : List Sl} {a : Option Addr} {n c : Nat} {l : List Int} (h : St w W L) (hm : (a, n, c, l) ∈ L) (hn : n ≤ 100000) (x : Int) (m : Nat) (hx : x = m) :
    Calls Try.prog 13 #[.slice a n c, .int .i64 x] W fun e W' => ∃ a' n' c', e = .returned (.slice a' n' c') ∧ W'.ownsRow W.heap.size 5 1 (.slice a' n' c') n' ((l.take m).map (Value.int .u8)) ∧ Below W.heap.size W W' := by
  subst hx
  obtain ⟨i0, hi, hi0, hi1, hi2⟩ := info_parts Try.info_u8
  have HH := hid (h.get hm)
  have HL := hid (h.get hm).len
  have hle := (h.get hm).le
  clear h hm
  go_enter Try.func13, Try.ntmps13
  go_wp2_with fail
  go_loopw [5, 6] (fun o i wr => ∃ k : Nat, k ≤ n ∧ k ≤ m ∧ i = .int .i64 (k : Nat) ∧ wr.ownsRow W.heap.size 5 1 o k ((l.take k).map (Value.int .u8)) ∧ Below W.heap.size W wr) (fun _ i _ => n - (intOf i).toNat)
  case atStart => exact ⟨0, Nat.zero_le _, Nat.zero_le _, rfl, World.ownsRow_nil _ _ _ _, Below.refl _ _⟩
  case round =>
    obtain ⟨k, hk, hkm, rfl, hO, hb⟩ := hrel
    have HO := hid hO
    have HBE := hid hb
    have hbs := hb.size
    have hww : IntKind.i64.wrap ((k : Int) + 1) = (k : Int) + 1 := IntWalk.i64_in _ (by omega)
    clear hO hb
    have fin : k = n ∨ k = m → l.take k = l.take m := by
      rintro (rfl | rfl)
      · rw [List.take_of_length_le (by rw [HL.out]; omega), List.take_of_length_le (by rw [HL.out]; omega)]
      · rfl
    have FIN := hid fin
    clear fin
    by_cases hlt : k < n
    · by_cases hlm : k < m
      · obtain ⟨b, off, ha, h1, h2, h3⟩ := (HH.out.below HBE.out).cells (by omega)
        subst ha
        have h3k := h3 k hlt
        have HE := hid (take_getD (l := l) (k := k) (by rw [HL.out]; exact hlt))
        obtain ⟨y, hy⟩ : ∃ y, y = l.getD k 0 := ⟨_, rfl⟩
        rw [← hy] at h3k HE
        clear h3 hy
        go_wp2_with (at_builtin; go_loud (refine wpList_append_nums rfl (.tmp 18) _ 34 rfl W.heap.size 5 i0 (.int .u8 0) 1 Try.underlying34 hi hi0 hi1 hi2 rfl _ k _ rfl (HO.out.alloc _) _ 1 1 _ _ rfl nums_one (by unfold maxLen; omega) (by omega) (by simp; omega) ?_); go_loud (intro v1 w3 g1 r1))
        have b1 := hid (own_below (HO.out.alloc _) (HBE.out.alloc hbs _) r1 (by simp; omega))
        have G1 := hid (show w3.ownsRow W.heap.size 5 1 v1 (k + 1) ((l.take (k + 1)).map (Value.int .u8)) by rw [HE.out]; exact g1)
        clear g1 r1
        go_roundw
        case rel => exact ⟨k + 1, by omega, by omega, by go_num, G1.out, b1.out⟩
        case measure => simp [intOf]; omega
      · have HF := hid (FIN.out (.inr (by omega)))
        clear FIN
        go_wp2_with fail
        go_ret
        obtain ⟨a', c', rfl⟩ := own_slice HO.out
        exact ⟨a', k, c', rfl, by rw [← HF.out]; exact HO.out, HBE.out⟩
    · have HF := hid (FIN.out (.inl (by omega)))
      clear FIN
      go_wp2_with fail
      go_ret
      obtain ⟨a', c', rfl⟩ := own_slice HO.out
      exact ⟨a', k, c', rfl, by rw [← HF.out]; exact HO.out, HBE.out⟩
theorem rput16_st {w W : World} {L : List Sl} {a : Option Addr} {n c : Nat} {l : List Int} (h : St w W L) (hm : (a, n, c, l) ∈ L) (hn : n ≤ 100000) (p : Int) (hp : 0 ≤ p ∧ p ≤ 65535) :
    Calls Try.prog 10 #[.slice a n c, .int .u64 p, .int .i64 2] W fun e W' => ∃ a' c', e = .returned (.slice a' (n + 2) c') ∧ W'.ownsRow W.heap.size 5 1 (.slice a' (n + 2) c') (n + 2) ((l ++ [p / 256, p % 256]).map (Value.int .u8)) ∧ Below W.heap.size W W' ∧ St w W' ((a', n + 2, c', l ++ [p / 256, p % 256]) :: L) :=
  (ref_put_in W (h.get hm) (by omega) (Nat.le_refl _) p hp.1 (by omega) 2 (by decide) (by decide)).mono fun e W' ⟨a', c', he, ho, hb⟩ => by rw [be2 p hp] at ho; exact ⟨a', c', he, ho, hb, h.own ho hb⟩
set_option maxHeartbeats 1000000 in
theorem rbuild_any {w W : World} {L : List Sl} {a : Option Addr} {n c : Nat} {l : List Int} (h : St w W L) (hm : (a, n, c, l) ∈ L) (hn : n ≤ 60000) (x y : Int) :
    Calls Try.prog 14 #[.agg #[.int .u8 x, .int .u8 y, .slice a n c]] W fun e W' => ∃ a' n' c', e = .returned (.slice a' n' c') ∧ St w W' ((a', n', c', cpB x y l) :: L) := by
  obtain ⟨i0, hi, hi0, hi1, hi2⟩ := info_parts Try.info_u8
  have hl := (h.get hm).len
  obtain ⟨W1, hW1⟩ : ∃ W1, W1 = W.alloc (.cells #[.int .u8 x, .int .u8 y, .slice a n c] 40) := ⟨_, rfl⟩
  have b1 : Below W.heap.size W W1 := by rw [hW1]; exact (Below.refl _ _).alloc (Nat.le_refl _) _
  have k1 : Box W1 W.heap.size [.int .u8 x, .int .u8 y, .slice a n c] := by rw [hW1]; exact Box.made _ #[.int .u8 x, .int .u8 y, .slice a n c] _
  have c0 := k1.at_ 0 _ rfl
  have c1 := k1.at_ 1 _ rfl
  have c2 := k1.at_ 2 _ rfl
  have S1 := hid (h.next b1)
  have HL := hid (len_take l (by omega))
  have M := hid hm
  have HN := hid hl
  have HW := hid hW1
  have K1 := hid k1
  clear h hm k1 hW1 b1 hl
  go_enter Try.func14, Try.ntmps14
  go_upto_region 1 with fail
  rw [← HW.out]
  go_upto_region 2 with (go_at_call 13; ((with_reducible refine (rfirst_any S1.out M.out (by omega) 65531 65531 rfl).mono ?_); rintro e w2 ⟨a2, n2, c2', rfl, o2, b2⟩))
  rw [HL.out] at o2
  obtain rfl : n = n2 := by have := o2.1; rw [List.length_map, HN.out] at this; omega
  have k2 := K1.out.next b2
  have d0 := k2.at_ 0 _ rfl
  have d1 := k2.at_ 1 _ rfl
  have S2 := hid (S1.out.own o2 b2)
  obtain ⟨W3, hW3⟩ : ∃ W3, W3 = w2.alloc (.cells #[.int .u8 x, .int .u8 y] 5) := ⟨_, rfl⟩
  have b3 : Below w2.heap.size w2 W3 := by rw [hW3]; exact (Below.refl _ _).alloc (Nat.le_refl _) _
  have S3 := hid ((S2.out.next b3).push (a := some ⟨w2.heap.size, 0, none⟩) (n := 2) (c := 2) (l := [x, y]) (by rw [hW3]; exact nums_two.mono (by simp)))
  have HW3 := hid hW3
  have hn4 : 0 ≤ 4 + (n : Int) ∧ 4 + (n : Int) ≤ 65535 := by omega
  clear hW3 b3 b2 o2 k2
  go_wp2_with (first | (go_at_call 10; rw [← HW3.out]; ((with_reducible refine (rput16_st S3.out m0 (by omega) (4 + (n : Int)) hn4).mono ?_); rintro e w3 ⟨a3, c3, rfl, o3, b3, s3⟩)) | (at_builtin; go_loud (refine wpList_append_nums rfl (.tmp 16) _ 34 rfl W3.heap.size 5 i0 (.int .u8 0) 1 Try.underlying34 hi hi0 hi1 hi2 rfl _ _ _ rfl o3 _ _ _ _ _ rfl (s3.get (.tail _ (.tail _ m0))) (by unfold maxLen; omega) (by omega) b3.size ?_); go_loud (intro v4 w4 g4 r4)))
  go_ret
  obtain ⟨a4, c4, rfl⟩ := own_slice g4
  have sF := St.app S3.out.tl.tl o3 b3 g4 r4
  refine ⟨a4, _, c4, rfl, ?_⟩
  have e : cpB x y l = [x, y] ++ [(4 + (n : Int)) / 256, (4 + (n : Int)) % 256] ++ l := by unfold cpB; rw [HN.out]; simp
  rw [e]
  exact sF
/-- are two the same? -/
theorem same_st {w W : World} {L : List Sl} {a a2 : Option Addr} {n c n2 c2 : Nat} {l : List Int} (h : St w W L) (hm : (a, n, c, l) ∈ L) (hm2 : (a2, n2, c2, l) ∈ L) (x y : Int) :
    Calls Try.prog 15 #[.agg #[.int .u8 x, .int .u8 y, .slice a n c], .agg #[.int .u8 x, .int .u8 y, .slice a2 n2 c2]] W fun e W' => e = .returned (.bool true) ∧ St w W' L := by
  have b1 := (Below.refl W.heap.size W).alloc (Nat.le_refl _) (.cells #[.int .u8 x, .int .u8 y, .slice a n c] 40)
  have b2 := b1.alloc b1.size (.cells #[.int .u8 x, .int .u8 y, .slice a2 n2 c2] 40)
  have s2 := hid (h.next b2)
  have k1 := conv_nums ((h.next b2).get hm)
  have k2 := conv_nums ((h.next b2).get hm2)
  clear h hm hm2 b1 b2
  go_enter Try.func15, Try.ntmps15
  go_wp2
  go_ret
  exact ⟨rfl, s2.out⟩
theorem equal_st {w W : World} {L : List Sl} {B1 B2 n1 n2 c1 c2 : Nat} {a1 a2 : Option Addr} {l1 l2 : List Int} (h : St w W L) (h1 : Nums .u8 W B1 a1 n1 c1 l1) (h2 : Nums .u8 W B2 a2 n2 c2 l2) (he : l1 = l2) :
    Calls Try.prog 53 #[.slice a1 n1 c1, .slice a2 n2 c2] W fun e W' => e = .returned (.bool true) ∧ St w W' L :=
  (equal_same W h1 h2 he).mono fun e W' ⟨he, m, hm⟩ => ⟨he, by subst hm; exact h.next (below_drewN (Below.refl _ _) m)⟩
theorem alive_st {w W : World} {L : List Sl} (h : St w W L) : Calls Try.prog 19 #[] W fun e W' => e = .returned (.bool true) ∧ St w W' L := by
  have s0 := hid h.nil
  have NL := hid (fun w1 : World => nums_lit (w := w1) (k := .u8) (e := 5) (cs := #[.int .u8 5, .int .u8 9, .int .u8 0, .int .u8 4]) (n := 4) [5, 9, 0, 4] rfl (by decide) rfl)
  clear h
  go_enter Try.func19, Try.ntmps19
  go_wp2_with (first | (go_at_call 57; ((with_reducible refine (build_any s0.out m0 (by decide) 5 9).mono ?_); rintro e w1 ⟨a1, n1, c1, rfl, s1⟩)) | (go_at_call 53; go_loud (with_reducible refine (equal_st (s1.tl.tl.next ((Below.refl _ _).alloc (Nat.le_refl _) _)) ((s1.get m0).below ((Below.refl _ _).alloc (Nat.le_refl _) _)) (NL.out _) (by decide)).mono ?_); rintro e w2 ⟨rfl, s2⟩))
  go_ret
  exact ⟨rfl, s2⟩
end Go.Proofs.Ytlfcjfmfkmcmiab.cpc
