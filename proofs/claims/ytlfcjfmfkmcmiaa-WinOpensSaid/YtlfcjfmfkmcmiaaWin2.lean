/- The document's own windows: Acked; that the package lives. -/
import Derived.Test.YtlfcjfmfkmcmiaaWin
namespace Go.Proofs.Ytlfcjfmfkmcmiaa.wc
open Go.RowKit
open Go.Proofs.Ytlfcjfmfkmcmiaa.kit Go.Proofs.Ytlfcjfmfkmcmiaa.wm
set_option linter.unusedVariables false

set_option maxHeartbeats 2000000 in
theorem racked_any (n s c x : Int) (h : In n s c) (w : World) :
    Calls Try.prog 26 #[.agg #[.int .i64 s, .int .i64 c, .int .i64 n], .int .i64 x] w fun e w' => e = .returned (.agg #[.int .i64 (sR n (kOf x) s c), .int .i64 (cR n (kOf x) s c), .int .i64 n]) ∧ Below w.heap.size w w' := by
  have HI := hid (fun k => in_acks n s c h k)
  obtain ⟨hK1, hK2⟩ := kOf_le x
  obtain ⟨K, hK⟩ : ∃ K, K = kOf x := ⟨_, rfl⟩
  rw [← hK] at hK1 hK2 ⊢
  have KC := hid (fun w => hK2 ▸ rcut_any x 0 16 (by omega) w)
  obtain ⟨W, hW⟩ : ∃ W, W = (w.alloc (.cells #[.int .i64 s, .int .i64 c, .int .i64 n] 39)).alloc (.cells #[.int .i64 0, .int .i64 0, .int .i64 0] 39) := ⟨_, rfl⟩
  have T : Hid (Three w W (sR n 0 s c) (cR n 0 s c) n) := hid (show Three w W s c n by rw [hW]; exact Three.start w s c n _)
  have HW := hid hW
  clear hW hK hK2 h
  go_enter Try.func26, Try.ntmps26
  go_upto_region 1 with fail
  rw [← HW.out]
  go_wp2_with fail
  go_loopw [5] (fun iv wr => ∃ j : Nat, j ≤ K ∧ iv = .int .i64 j ∧ Hid (Three w wr (sR n j s c) (cR n j s c) n)) (fun iv _ => K - (intOf iv).toNat)
  case atStart => exact ⟨0, Nat.zero_le _, rfl, T⟩
  case round =>
    clear T
    obtain ⟨j, hj, rfl, HT⟩ := hrel
    by_cases hlt : j < K
    · obtain ⟨h1, h2, h3, h4, h5, h6⟩ := HI.out j
      have ES := hid (sR_succ n j s c)
      have EC := hid (cR_succ n j s c)
      obtain ⟨S, hS⟩ : ∃ S, S = sR n j s c := ⟨_, rfl⟩
      obtain ⟨C, hC⟩ : ∃ C, C = cR n j s c := ⟨_, rfl⟩
      rw [← hS, ← hC] at ES EC
      rw [← hS] at h3 h4 h6 HT
      rw [← hC] at h5 h6 HT
      clear hS hC
      have x0 := HT.out.p.at_ 0 _ rfl
      have x1 := HT.out.p.at_ 1 _ rfl
      have x2 := HT.out.p.at_ 2 _ rfl
      have f0 := HT.out.p.fr 0
      have f1 := HT.out.p.fr 1
      have f2 := HT.out.p.fr 2
      by_cases hge : C + 1 = S
      · subst hge
        by_cases hm : C + 1 < n
        · have e1 := hid (show sR n (j + 1) s c = C + 1 + 1 by rw [ES.out]; unfold s1; rw [if_pos (by omega), if_pos hm])
          have e2 := hid (show cR n (j + 1) s c = 0 by rw [EC.out]; unfold c1; rw [if_pos (by omega)])
          go_wp2_with (go_at_call 40; ((with_reducible refine (KC.out _).mono ?_); rintro e w1 ⟨rfl, rfl⟩))
          go_roundw
          case rel => exact ⟨j + 1, by omega, by go_num, by rw [e1.out, e2.out]; exact hid (((HT.out.set1 _).set1 _).set0 _)⟩
          case measure => simp [intOf]; omega
        · have e1 := hid (show sR n (j + 1) s c = C + 1 by rw [ES.out]; unfold s1; rw [if_pos (by omega), if_neg hm])
          have e2 := hid (show cR n (j + 1) s c = 0 by rw [EC.out]; unfold c1; rw [if_pos (by omega)])
          go_wp2_with (go_at_call 40; ((with_reducible refine (KC.out _).mono ?_); rintro e w1 ⟨rfl, rfl⟩))
          go_roundw
          case rel => exact ⟨j + 1, by omega, by go_num, by rw [e1.out, e2.out]; exact hid ((HT.out.set1 _).set1 _)⟩
          case measure => simp [intOf]; omega
      · have e1 := hid (show sR n (j + 1) s c = S by rw [ES.out]; unfold s1; rw [if_neg (by omega)])
        have e2 := hid (show cR n (j + 1) s c = C + 1 by rw [EC.out]; unfold c1; rw [if_neg (by omega)])
        have hge2 : ((C + 1) == S) = false := by simpa using hge
        go_wp2_with (go_at_call 40; ((with_reducible refine (KC.out _).mono ?_); rintro e w1 ⟨rfl, rfl⟩))
        go_roundw
        case rel => exact ⟨j + 1, by omega, by go_num, by rw [e1.out, e2.out]; exact hid (HT.out.set1 _)⟩
        case measure => simp [intOf]; omega
    · obtain rfl : j = K := by omega
      have x0 := HT.out.p.at_ 0 _ rfl
      have x1 := HT.out.p.at_ 1 _ rfl
      have x2 := HT.out.p.at_ 2 _ rfl
      have v0 := HT.out.r.at_ 0 _ rfl
      have v1 := HT.out.r.at_ 1 _ rfl
      have v2 := HT.out.r.at_ 2 _ rfl
      have f0 := HT.out.r.fr 0
      have f1 := HT.out.r.fr 1
      have f2 := HT.out.r.fr 2
      clear HI HW
      go_wp2_with (go_at_call 40; ((with_reducible refine (KC.out _).mono ?_); rintro e w1 ⟨rfl, rfl⟩))
      obtain ⟨q0, q1, q2⟩ := ret3 HT.out.r rfl (.int .i64 (sR n j s c)) (.int .i64 (cR n j s c)) (.int .i64 n)
      exact bodyPost_ret (v := .agg #[.int .i64 (sR n j s c), .int .i64 (cR n j s c), .int .i64 n]) (by simp [results, Try.results26, go_sem, q0, q1, q2]) rfl ⟨rfl, HT.out.end_ _ _ _⟩
set_option maxHeartbeats 1000000 in
theorem alive_any (w : World) :
    Calls Try.prog 29 #[] w fun e w' => e = .returned (.bool true) ∧ Below w.heap.size w w' := by
  have i1 : In 8 4 0 := by unfold In; decide
  have i2 : In 8 5 0 := by unfold In; decide
  have h1 : (cutI 8 1 16 + 1) / 2 = 4 := by decide
  have h2 : cutI 8 1 16 = 8 := by decide
  have h3 : sR 8 (kOf 4) 4 0 = 5 := by decide
  have h4 : cR 8 (kOf 4) 4 0 = 0 := by decide
  have h5 : ((5 : Int) + 1) / 2 = 3 := by decide
  have K1 : Hid (∀ w, Calls Try.prog 21 #[.int .i64 8] w fun e w' => e = .returned (.agg #[.int .i64 4, .int .i64 8, .int .i64 0]) ∧ Below w.heap.size w w') := hid (fun w => by have := new_any 8 w; rw [h1, h2] at this; exact this)
  have K2 : Hid (∀ w, Calls Try.prog 25 #[.agg #[.int .i64 4, .int .i64 8, .int .i64 0], .int .i64 4] w fun e w' => e = .returned (.agg #[.int .i64 5, .int .i64 8, .int .i64 0]) ∧ Below w.heap.size w w') := hid (fun w => by have := acked_any 8 4 0 4 i1 w; rw [h3, h4] at this; exact this)
  have K3 : Hid (∀ w, Calls Try.prog 23 #[.agg #[.int .i64 5, .int .i64 8, .int .i64 0]] w fun e w' => e = .returned (.agg #[.int .i64 3, .int .i64 8, .int .i64 0]) ∧ Below w.heap.size w w') := hid (fun w => by have := late_any 8 5 0 i2 w; rw [h5] at this; exact this)
  clear h1 h2 h3 h4 h5 i1 i2
  go_enter Try.func29, Try.ntmps29
  go_upto_region 2 with (go_at_call 21; ((with_reducible refine (K1.out _).mono ?_); rintro e w1 ⟨rfl, b1⟩))
  obtain ⟨W1, hW1⟩ : ∃ W1, W1 = w1.alloc (.cells #[.int .i64 4, .int .i64 8, .int .i64 0] 36) := ⟨_, rfl⟩
  have B1 := hid (show Below w.heap.size w W1 by rw [hW1]; exact b1.alloc b1.size _)
  have p1 : Box W1 w1.heap.size [.int .i64 4, .int .i64 8, .int .i64 0] := by rw [hW1]; exact Box.made _ #[.int .i64 4, .int .i64 8, .int .i64 0] _
  rw [← hW1]
  have hz1 : w1.heap.size < W1.heap.size := p1.lt
  have x0 := p1.at_ 0 _ rfl
  have x1 := p1.at_ 1 _ rfl
  have x2 := p1.at_ 2 _ rfl
  have P1 := hid p1
  clear hW1 b1 p1 hz1
  go_upto_region 3 with (go_at_call 25; ((with_reducible refine (K2.out _).mono ?_); rintro e w2 ⟨rfl, b2⟩))
  obtain ⟨W2, hW2⟩ : ∃ W2, W2 = w2.alloc (.cells #[.int .i64 5, .int .i64 8, .int .i64 0] 36) := ⟨_, rfl⟩
  have b3 : Below W1.heap.size W1 W2 := by rw [hW2]; exact b2.alloc b2.size _
  have p2 : Box W2 w2.heap.size [.int .i64 5, .int .i64 8, .int .i64 0] := by rw [hW2]; exact Box.made _ #[.int .i64 5, .int .i64 8, .int .i64 0] _
  rw [← hW2]
  have k1 := P1.out.next b3
  have y0 := k1.at_ 0 _ rfl
  have y1 := k1.at_ 1 _ rfl
  have y2 := k1.at_ 2 _ rfl
  have y3 := p2.at_ 0 _ rfl
  have y4 := p2.at_ 1 _ rfl
  have y5 := p2.at_ 2 _ rfl
  have Q1 := hid k1
  have Q2 := hid p2
  have B3 := hid (B1.out.trans (b3.mono B1.out.size))
  clear hW2 b2 b3 k1 p2 x0 x1 x2 P1 B1
  have P2 := Q1
  have R2 := Q2
  have C2 := B3
  clear Q1 Q2 B3
  go_wp2_with (first | (go_at_call 27; ((with_reducible refine (size_any 4 8 0 _).mono ?_); rintro e w3 ⟨rfl, b3⟩; have r1 := P2.out.next b3; have r2 := R2.out.next b3; have s0 := r1.at_ 0 _ rfl; have s1 := r1.at_ 1 _ rfl; have s2 := r1.at_ 2 _ rfl; have s3 := r2.at_ 0 _ rfl; have s4 := r2.at_ 1 _ rfl; have s5 := r2.at_ 2 _ rfl; have P3 := hid r1; have R3 := hid r2; have C3 := hid (C2.out.trans (b3.mono C2.out.size)); clear r1 r2)) | (go_at_call 27; ((with_reducible refine (size_any 5 8 0 _).mono ?_); rintro e w4 ⟨rfl, b4⟩; have r1 := P3.out.next b4; have r2 := R3.out.next b4; have s0 := r1.at_ 0 _ rfl; have s1 := r1.at_ 1 _ rfl; have s2 := r1.at_ 2 _ rfl; have s3 := r2.at_ 0 _ rfl; have s4 := r2.at_ 1 _ rfl; have s5 := r2.at_ 2 _ rfl; have P4 := hid r1; have R4 := hid r2; have C4 := hid (C3.out.trans (b4.mono C3.out.size)); clear r1 r2)) | (go_at_call 23; ((with_reducible refine (K3.out _).mono ?_); rintro e w5 ⟨rfl, b5⟩; have r1 := P4.out.next b5; have r2 := R4.out.next b5; have s0 := r1.at_ 0 _ rfl; have s1 := r1.at_ 1 _ rfl; have s2 := r1.at_ 2 _ rfl; have s3 := r2.at_ 0 _ rfl; have s4 := r2.at_ 1 _ rfl; have s5 := r2.at_ 2 _ rfl; have P5 := hid r1; have R5 := hid r2; have C5 := hid (C4.out.trans (b5.mono C4.out.size)); clear r1 r2)) | (go_at_call 27; ((with_reducible refine (size_any 3 8 0 _).mono ?_); rintro e w6 ⟨rfl, b6⟩; have r1 := P5.out.next b6; have r2 := R5.out.next b6; have s0 := r1.at_ 0 _ rfl; have s1 := r1.at_ 1 _ rfl; have s2 := r1.at_ 2 _ rfl; have s3 := r2.at_ 0 _ rfl; have s4 := r2.at_ 1 _ rfl; have s5 := r2.at_ 2 _ rfl; have P6 := hid r1; have R6 := hid r2; have C6 := hid (C5.out.trans (b6.mono C5.out.size)); clear r1 r2)) | (go_at_call 28; ((with_reducible refine (most_any 4 8 0 _).mono ?_); rintro e w7 ⟨rfl, b7⟩)))
  go_ret
  exact ⟨rfl, C6.out.trans (b7.mono C6.out.size)⟩
end Go.Proofs.Ytlfcjfmfkmcmiaa.wc
