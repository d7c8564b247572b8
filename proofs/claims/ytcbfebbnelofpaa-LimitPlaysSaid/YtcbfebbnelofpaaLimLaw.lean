/- The law's own numbers; its alive. -/
import Derived.Test.YtcbfebbnelofpaaLim
namespace Go.Proofs.Ytcbfebbnelofpaa.lmc
open Go.RowKit
open Go.Proofs.Ytcbfebbnelofpaa.kit Go.Proofs.Ytcbfebbnelofpaa.lmm
set_option linter.unusedVariables false
theorem filled_any (h r d t : Int) (r0 : 0 ≤ r) (r1 : r ≤ 1048576) (h0 : 0 ≤ h) (hd : h ≤ d) (d1 : d ≤ 1048576) (t0 : 0 ≤ t) (t1 : t ≤ 2199023255552) (w : World) :
    Calls Try.prog 28 #[.int .i64 h, .int .i64 r, .int .i64 d, .int .u64 t] w fun e w' => e = .returned (.int .i64 (fl h r d t)) ∧ w = w' := by
  by_cases hr : r = 0
  · subst hr
    have H := hid (fl_zero h d t hd)
    go_enter Try.func28, Try.ntmps28
    go_wp2
    go_ret
    exact ⟨ret_int (by rw [H.out]), rfl⟩
  · have hr1 : 1 ≤ r := by omega
    have hb : (r == 0) = false := by simpa using hr
    clear hr
    by_cases hbig : 2097152 < t
    · have H := hid (fl_far h r d t h0 d1 hr1 (by omega))
      go_enter Try.func28, Try.ntmps28
      go_wp2
      go_ret
      exact ⟨ret_int (by rw [H.out]), rfl⟩
    · have H := hid (fl_near h r d t h0 d1 hr1 t0)
      have hc : IntKind.i64.wrap t = t := IntWalk.i64_in _ (by omega)
      have p0 : 0 ≤ r * t := mul_nn r0 t0
      have p1 : r * t ≤ 1048576 * 2097152 := mul_bd r0 r1 t0 (by omega)
      by_cases hle : h + r * t ≤ d
      · have HF := hid (show fl h r d t = h + r * t by rw [← H.out]; unfold mn; rw [if_pos hle])
        go_enter Try.func28, Try.ntmps28
        go_wp2
        all_goals go_ret
        all_goals exact ⟨ret_int (by rw [HF.out] <;> omega), rfl⟩
      · have HF := hid (show fl h r d t = d by rw [← H.out]; unfold mn; rw [if_neg hle])
        go_enter Try.func28, Try.ntmps28
        go_wp2
        all_goals go_ret
        all_goals exact ⟨ret_int (by rw [HF.out] <;> omega), rfl⟩
theorem lready_any (h r d n : Int) (r0 : 0 ≤ r) (r1 : r ≤ 1048576) (h0 : 0 ≤ h) (hd : h ≤ d) (d1 : d ≤ 1048576) (w : World) :
    Calls Try.prog 33 #[.int .i64 h, .int .i64 r, .int .i64 d, .int .i64 n] w fun e w' => e = .returned (.int .i64 (rd h r d n)) ∧ w = w' := by
  by_cases h1 : n ≤ h
  · have H := hid (rd_now (r := r) (d := d) h1)
    go_enter Try.func33, Try.ntmps33
    go_wp2
    go_ret
    exact ⟨ret_int (by rw [H.out]), rfl⟩
  · by_cases h2 : d < n
    · have H := hid (rd_no (r := r) h1 (.inl h2))
      go_enter Try.func33, Try.ntmps33
      go_wp2
      go_ret
      exact ⟨ret_int (by rw [H.out]), rfl⟩
    · by_cases h3 : r = 0
      · have H := hid (rd_no (d := d) h1 (.inr h3))
        have b3 : (r == 0) = true := by simpa using h3
        clear h3
        go_enter Try.func33, Try.ntmps33
        go_wp2
        go_ret
        exact ⟨ret_int (by rw [H.out]), rfl⟩
      · have r2 : 1 ≤ r := by omega
        have b3 : (r == 0) = false := by simpa using h3
        clear h3
        obtain ⟨K, hK⟩ : ∃ K : Nat, (n - h + r - 1) / r = K := ⟨((n - h + r - 1) / r).toNat, by have := (q_bd (n - h) r r2 (by omega)).1; omega⟩
        have hbd := (q_bd (n - h) r r2 (by omega)).2
        have HS := hid (fun k : Nat => q_spec (n - h) r k r2)
        have H := hid (show rd h r d n = K by rw [rd_yes (d := d) h1 (by omega) r2, hK])
        rw [hK] at HS hbd
        have hKb : (K : Int) ≤ 1048576 := by omega
        clear hK
        go_enter Try.func33, Try.ntmps33
        go_wp2
        go_loop [9] (fun kv => ∃ k : Nat, k ≤ K ∧ kv = .int .i64 (k : Nat)) (fun kv => K - (intOf kv).toNat)
        case atStart => exact ⟨0, Nat.zero_le _, rfl⟩
        case round =>
          obtain ⟨k, hk, rfl⟩ := hrel
          have hs := HS.out k
          have p0 : 0 ≤ (k : Int) * r := mul_nn (by omega) r0
          have p1 : (k : Int) * r ≤ 1048576 * 1048576 := mul_bd (by omega) (by omega) r0 r1
          by_cases hlt : k < K
          · have hlt2 : h + (k : Int) * r < n := by have := hs.2 (by omega); omega
            clear hs
            go_wp2
            go_round
            case rel => exact ⟨k + 1, by omega, by go_num⟩
            case measure => simp [intOf]; omega
          · have hge2 : ¬ h + (k : Int) * r < n := by
              intro hx
              have := hs.1 (by omega); omega
            obtain rfl : k = K := by omega
            clear hs
            go_wp2
            go_ret
            exact ⟨ret_int (by rw [H.out]), rfl⟩
set_option maxHeartbeats 1000000 in
theorem alive_any (w : World) :
    Calls Try.prog 34 #[] w fun e w' => e = .returned (.bool true) ∧ Below w.heap.size w w' := by
  have o1 : Ok 2 10 10 0 := ⟨by omega, by omega, by omega, by omega, by omega, by omega, by omega⟩
  have o2 : Ok 2 10 0 0 := ⟨by omega, by omega, by omega, by omega, by omega, by omega, by omega⟩
  have K1 : Hid (∀ w, Calls Try.prog 26 #[.int .i64 2, .int .i64 10, .int .i64 0] w fun e w' => e = .returned (.agg #[.int .i64 2, .int .i64 10, .int .i64 10, .int .i64 0]) ∧ Below w.heap.size w w') := hid (fun w => new_any 2 10 0 w)
  have K2 : Hid (∀ w, Calls Try.prog 31 #[.agg #[.int .i64 2, .int .i64 10, .int .i64 10, .int .i64 0], .int .i64 10, .int .i64 0] w fun e w' => e = .returned (.tuple #[.agg #[.int .i64 2, .int .i64 10, .int .i64 0, .int .i64 0], .bool true]) ∧ Below w.heap.size w w') := hid (fun w => take_yes 2 10 10 0 10 0 o1 (by omega) (by decide) w)
  have K3 : Hid (∀ w, Calls Try.prog 32 #[.agg #[.int .i64 2, .int .i64 10, .int .i64 0, .int .i64 0], .int .i64 3] w fun e w' => e = .returned (.int .i64 2) ∧ Below w.heap.size w w') := hid (fun w => ready_any 2 10 0 0 3 o2 w)
  clear o1 o2
  go_enter Try.func34, Try.ntmps34
  go_wp2_with (first | (go_at_call 26; ((with_reducible refine (K1.out _).mono ?_); rintro e w1 ⟨rfl, b1⟩; have B1 := hid b1; clear b1)) | (go_at_call 31; ((with_reducible refine (K2.out _).mono ?_); rintro e w2 ⟨rfl, b2⟩; have B2 := hid (B1.out.trans (b2.mono B1.out.size)); clear b2)) | (go_at_call 32; ((with_reducible refine (K3.out _).mono ?_); rintro e w3 ⟨rfl, b3⟩)))
  go_ret
  refine ⟨rfl, (B2.out.alloc B2.out.size _).trans (b3.mono ?_)⟩
  have := B2.out.size; simp; omega
end Go.Proofs.Ytcbfebbnelofpaa.lmc
