/- cp: the contracts of Reject and RejectProto. -/
import Derived.Test.YtlfcjfmfkmcmiabCp2
namespace Go.Proofs.Ytlfcjfmfkmcmiab.cpc
open Go.RowKit
open Go.Proofs.Ytlfcjfmfkmcmiab.kit Go.Proofs.Ytlfcjfmfkmcmiab.bec
set_option linter.unusedVariables false
set_option maxRecDepth 20000

def roomOf (x : Int) : Nat := if x < 4 then 0 else (x - 4).toNat
theorem roomOf_eq (x : Int) : ((roomOf x : Nat) : Int) = if x < 4 then 0 else x - 4 := by unfold roomOf; split <;> omega
def protoD (p : Int) (l : List Int) (m : Nat) : List Int := ([p / 256, p % 256] ++ l).take m
theorem protoD_cut (p : Int) (l : List Int) (m : Nat) : ([p / 256, p % 256] ++ l.take m).take m = protoD p l m := by
  unfold protoD
  match m with
  | 0 => rfl
  | 1 => rfl
  | m + 2 => simp [List.take_take]
set_option maxHeartbeats 1000000 in
theorem reject_any {w W : World} {L : List Sl} {a : Option Addr} {n c : Nat} {l : List Int} (h : St w W L) (hm : (a, n, c, l) ∈ L) (hn : n ≤ 60000) (id x y most : Int) (hx : most ≤ 9223372036854775807) :
    Calls Try.prog 16 #[.int .u8 id, .agg #[.int .u8 x, .int .u8 y, .slice a n c], .int .i64 most] W fun e W' => ∃ a' n' c', e = .returned (.agg #[.int .u8 7, .int .u8 id, .slice a' n' c']) ∧ St w W' ((a', n', c', (cpB x y l).take (roomOf most)) :: L) := by
  obtain ⟨W1, hW1⟩ : ∃ W1, W1 = W.alloc (.cells #[.int .u8 x, .int .u8 y, .slice a n c] 40) := ⟨_, rfl⟩
  have b1 : Below W.heap.size W W1 := by rw [hW1]; exact (Below.refl _ _).alloc (Nat.le_refl _) _
  have k1 : Box W1 W.heap.size [.int .u8 x, .int .u8 y, .slice a n c] := by rw [hW1]; exact Box.made _ #[.int .u8 x, .int .u8 y, .slice a n c] _
  obtain ⟨W2, hW2⟩ : ∃ W2, W2 = W1.alloc (.cells #[.int .u8 0, .int .u8 0, .slice none 0 0] 40) := ⟨_, rfl⟩
  have b2 : Below W1.heap.size W1 W2 := by rw [hW2]; exact (Below.refl _ _).alloc (Nat.le_refl _) _
  have p2 : Box W2 W1.heap.size [.int .u8 0, .int .u8 0, .slice none 0 0] := by rw [hW2]; exact Box.made _ #[.int .u8 0, .int .u8 0, .slice none 0 0] _
  have hz : W1.heap.size = W.heap.size + 1 := by rw [hW1]; simp
  rw [hz] at p2
  have k2 := k1.next b2
  have c0 := k2.at_ 0 _ rfl
  have c1 := k2.at_ 1 _ rfl
  have c2 := k2.at_ 2 _ rfl
  have S2 := hid ((h.next b1).next b2)
  have B2 := hid (b1.trans (b2.mono b1.size))
  have P2 := hid p2
  have M := hid hm
  have HS := hid h
  have hs1 := b1.size
  have HW1 := hid hW1
  have HW2 := hid hW2
  have RM := hid (fun W => room_any W most (roomOf most) (roomOf_eq most) hx)
  obtain ⟨m, hmm⟩ : ∃ m, m = roomOf most := ⟨_, rfl⟩
  rw [← hmm] at RM
  rw [← hmm]
  clear h hm k1 k2 b1 b2 p2 hW1 hW2 hmm hz
  go_enter Try.func16, Try.ntmps16
  go_upto_region 1 with fail
  rw [← HW1.out, ← HW2.out]
  go_wp2_with (first | (go_at_call 57; ((with_reducible refine (build_own (st_base S2.out) M.out hn x y).mono ?_); rintro e w3 ⟨a3, n3, c3, rfl, ho3, s3⟩); have HO3 := hid ho3; clear ho3; have p3 := P2.out.next s3.below; have d0 := p3.at_ 0 _ rfl; have d1 := p3.at_ 1 _ rfl; have d2 := p3.at_ 2 _ rfl; have f0 := p3.fr 0; have f1 := p3.fr 1; have f2 := p3.fr 2; have P3 := hid p3; clear p3) | (go_at_call 58; ((with_reducible refine (RM.out _).mono ?_); rintro e w4 ⟨rfl, rfl⟩)) | (go_at_call 56; (go_loud (with_reducible refine (first_any (s3.get m0) (m : Int) m rfl).mono ?_); rintro e w4 ⟨k, rfl, hk, n4, rfl⟩)))
  obtain ⟨q0, q1, q2⟩ := ret_cells P3.out rfl (.int .u8 7) (.int .u8 id) (.slice a3 k c3)
  refine bodyPost_ret (v := .agg #[.int .u8 7, .int .u8 id, .slice a3 k c3]) (by simp [results, Try.results16, go_sem, q0, q1, q2]) rfl ?_
  exact ⟨a3, k, c3, rfl, HS.out.retN (B2.out.trans (s3.below.mono B2.out.size)) n4 (fun b o s hb => by have := HO3.out b o s hb; have := P2.out.lt; omega) (Nat.le_succ _) (set3 _ _ _ _ _)⟩
set_option maxHeartbeats 1000000 in
theorem rejproto_any {w W : World} {L : List Sl} {a : Option Addr} {n c : Nat} {l : List Int} (h : St w W L) (hm : (a, n, c, l) ∈ L) (hn : n ≤ 60000) (id p most : Int) (hp : 0 ≤ p ∧ p ≤ 65535) (hx : most ≤ 9223372036854775807) :
    Calls Try.prog 17 #[.int .u8 id, .int .u16 p, .slice a n c, .int .i64 most] W fun e W' => ∃ a' n' c', e = .returned (.agg #[.int .u8 8, .int .u8 id, .slice a' n' c']) ∧ St w W' ((a', n', c', protoD p l (roomOf most)) :: L) := by
  obtain ⟨i0, hi, hi0, hi1, hi2⟩ := info_parts Try.info_u8
  obtain ⟨W2, hW2⟩ : ∃ W2, W2 = W.alloc (.cells #[.int .u8 0, .int .u8 0, .slice none 0 0] 40) := ⟨_, rfl⟩
  have b2 : Below W.heap.size W W2 := by rw [hW2]; exact (Below.refl _ _).alloc (Nat.le_refl _) _
  have p2 : Box W2 W.heap.size [.int .u8 0, .int .u8 0, .slice none 0 0] := by rw [hW2]; exact Box.made _ #[.int .u8 0, .int .u8 0, .slice none 0 0] _
  have S2 := hid (h.next b2).nil
  have B2 := hid b2
  have P2 := hid p2
  have M := hid hm
  have HS := hid h
  have HW2 := hid hW2
  have hs2 := b2.size
  have RM := hid (fun W => room_any W most (roomOf most) (roomOf_eq most) hx)
  have PC := hid (protoD_cut p l)
  obtain ⟨m, hmm⟩ : ∃ m, m = roomOf most := ⟨_, rfl⟩
  rw [← hmm] at RM
  rw [← hmm]
  have hnl := hid (h.get hm).len
  clear h hm b2 p2 hW2 hmm
  go_enter Try.func17, Try.ntmps17
  go_upto_region 1 with fail
  rw [← HW2.out]
  go_upto_region 2 with (first | (go_at_call 59; ((with_reducible refine (put16_st (st_base S2.out) m0 (by omega) p hp).mono ?_); rintro e w3 ⟨a3, c3, rfl, o3, b3, s3⟩)) | (go_at_call 58; ((with_reducible refine (RM.out _).mono ?_); rintro e w4 ⟨rfl, rfl⟩)) | (go_at_call 56; (go_loud (with_reducible refine (first_any (s3.get (List.mem_cons_of_mem _ (List.mem_cons_of_mem _ M.out))) (m : Int) m rfl).mono ?_); rintro e w4 ⟨k, rfl, hk, n4, rfl⟩)) | (at_builtin; go_loud (refine wpList_append_nums rfl (.tmp 11) _ 34 rfl W2.heap.size 5 i0 (.int .u8 0) 1 Try.underlying34 hi hi0 hi1 hi2 rfl _ _ _ rfl o3 _ _ _ _ _ rfl n4 (by unfold maxLen; omega) (by omega) b3.size ?_); go_loud (intro v5 w5 g5 r5; obtain ⟨a5, c5, rfl⟩ := own_slice g5; have b5 := own_below o3 b3 r5 b3.size)))
  have N5 := hid (own_nums g5)
  have HO5 := hid (own_from g5)
  have p3 := P2.out.next b5
  have d0 := p3.at_ 0 _ rfl
  have d1 := p3.at_ 1 _ rfl
  have d2 := p3.at_ 2 _ rfl
  have f0 := p3.fr 0
  have f1 := p3.fr 1
  have f2 := p3.fr 2
  have P3 := hid p3
  have B5 := hid (B2.out.trans (b5.mono hs2))
  clear g5 r5 o3 s3 b3 b5 n4 p3
  go_wp2_with (first | (go_at_call 58; ((with_reducible refine (RM.out _).mono ?_); rintro e w4 ⟨rfl, rfl⟩)) | (go_at_call 56; ((with_reducible refine (first_any N5.out (m : Int) m rfl).mono ?_); rintro e w4 ⟨k, rfl, hk, n6, rfl⟩)))
  obtain ⟨q0, q1, q2⟩ := ret_cells P3.out rfl (.int .u8 8) (.int .u8 id) (.slice a5 k c5)
  refine bodyPost_ret (v := .agg #[.int .u8 8, .int .u8 id, .slice a5 k c5]) (by simp [results, Try.results17, go_sem, q0, q1, q2]) rfl ?_
  refine ⟨a5, k, c5, rfl, ?_⟩
  rw [← PC.out m]
  exact HS.out.retN B5.out (by simpa using n6) (fun b o s hb => by have := HO5.out b o s hb; have := P2.out.lt; omega) (Nat.le_refl _) (set3 _ _ _ _ _)
end Go.Proofs.Ytlfcjfmfkmcmiab.cpc
