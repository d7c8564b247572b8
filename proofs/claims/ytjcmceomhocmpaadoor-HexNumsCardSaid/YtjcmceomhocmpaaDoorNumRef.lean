/- The contract of the document's own reading of a number. -/
import Derived.Test.YtjcmceomhocmpaaDoorNumW
namespace Go.Proofs.YtjcmceomhocmpaaDoor.nmc
open Go.RowKit
open Go.Proofs.YtjcmceomhocmpaaDoor.kit Go.Proofs.YtjcmceomhocmpaaDoor.hxm Go.Proofs.YtjcmceomhocmpaaDoor.hxt Go.Proofs.YtjcmceomhocmpaaDoor.nmm
open Go.Lib (decDigits)
set_option linter.unusedVariables false
set_option linter.unusedSimpArgs false

theorem val_lt (l : List UInt8) (h : ∀ c ∈ l, 48 ≤ c.toNat ∧ c.toNat ≤ 57) : val l < 10 ^ l.length := by
  obtain ⟨n, hn⟩ : ∃ n, l.length = n := ⟨_, rfl⟩
  induction n generalizing l with
  | zero => rw [List.eq_nil_of_length_eq_zero hn]; simp [val]
  | succ n ih =>
    have hne : l ≠ [] := by rintro rfl; simp at hn
    have e := List.dropLast_concat_getLast hne
    have h1 := ih l.dropLast (fun c hc => h c ((List.dropLast_sublist l).subset hc)) (by rw [List.length_dropLast]; omega)
    have h2 := h (l.getLast hne) (List.getLast_mem hne)
    rw [← e, val_snoc, List.length_append]
    rw [List.length_dropLast] at h1 ⊢
    simp only [List.length_cons, List.length_nil]
    rw [hn, show n + 1 - 1 + (0 + 1) = n + 1 by omega, Nat.pow_succ]
    rw [hn, show n + 1 - 1 = n by omega] at h1
    omega
theorem take_snoc (s : ByteArray) (k : Nat) (h : k < s.size) : s.data.toList.take (k + 1) = s.data.toList.take k ++ [s[k]] := by
  rw [List.take_succ_eq_append_getElem (by rw [Array.length_toList]; exact h)]; rfl
theorem no_long {s : ByteArray} (h : 13 < s.size) : ¬ ∃ n, IsNum s.data.toList n := by
  rintro ⟨n, h1, h2⟩
  have := dec_len n 13 (by decide) (by omega)
  rw [← h2, Array.length_toList] at this
  have e : s.size = s.data.size := rfl
  omega
theorem no_digit {s : ByteArray} {k : Nat} (hk : k < s.size) (h : ¬ (48 ≤ (s[k]).toNat ∧ (s[k]).toNat ≤ 57)) : ¬ ∃ n, IsNum s.data.toList n := by
  rintro ⟨n, h1, h2⟩
  exact h (dec_digit n _ (by rw [← h2]; exact List.getElem_mem (l := s.data.toList) (n := k) (by rw [Array.length_toList]; exact hk)))

set_option maxRecDepth 100000 in
set_option maxHeartbeats 1000000 in
theorem ref_readnum (s : ByteArray) (hs : s.size ≤ 1000) (w : World) :
    Calls Tryd.prog 14 #[.string s] w (NumPost s.data.toList (.bool true) (.bool false) w) := by
  by_cases h13 : 13 < s.size
  · have HNo := hid (no_long h13)
    have hlt : 13 < (s.size : Int) := by omega
    go_enter Tryd.func14, Tryd.ntmps14
    go_wp2
    go_ret2
    exact ⟨Below.refl _ _, .inr ⟨HNo.out, rfl⟩⟩
  · have hlt : ¬ 13 < (s.size : Int) := by omega
    go_enter Tryd.func14, Tryd.ntmps14
    go_wp2
    go_loop [4, 5] (fun nv iv => ∃ k N : Nat, k ≤ s.size ∧ iv = .int .i64 k ∧ nv = .int .i64 N ∧ N = val (s.data.toList.take k) ∧ ∀ c ∈ s.data.toList.take k, 48 ≤ c.toNat ∧ c.toNat ≤ 57) (fun _ iv => s.size - (intOf iv).toNat)
    case atStart => exact ⟨0, 0, Nat.zero_le _, rfl, rfl, by simp [val], fun c hc => by simp at hc⟩
    case round =>
      obtain ⟨k, N, hk, rfl, rfl, hN, hdig⟩ := hrel
      have hNb : N < 10000000000000 := by
        have h1 := val_lt _ hdig
        rw [← hN] at h1
        have h2 : (s.data.toList.take k).length ≤ 13 := by have := List.length_take_le k s.data.toList; omega
        exact Nat.lt_of_lt_of_le h1 (Nat.le_trans (Nat.pow_le_pow_right (by decide) h2) (by decide))
      have HN := hid hN
      have HD := hid hdig
      clear hN hdig
      by_cases hkl : k < s.size
      · have hkk : (k : Int) < s.size := by omega
        have h255 := (s[k]).toNat_lt
        by_cases hd : 48 ≤ (s[k]).toNat ∧ (s[k]).toNat ≤ 57
        · obtain ⟨hd1, hd2⟩ := hd
          have hd3 : ¬ ((s[k]).toNat : Int) < 48 := by omega
          have hd4 : ¬ 57 < ((s[k]).toNat : Int) := by omega
          go_wp2_with fail
          go_round
          case rel =>
            refine ⟨k + 1, 10 * N + ((s[k]).toNat - 48), by omega, by go_num, ?_, ?_, ?_⟩
            · congr 1; omega
            · rw [take_snoc s k hkl, val_snoc, ← HN.out]
            · rw [take_snoc s k hkl]
              intro c hc
              rcases List.mem_append.1 hc with h1 | h1
              · exact HD.out c h1
              · simp only [List.mem_cons, List.not_mem_nil, or_false] at h1
                rw [h1]; exact ⟨hd1, hd2⟩
          case measure => simp [intOf]; omega
        · have HNo := hid (no_digit hkl hd)
          by_cases hd1 : (s[k]).toNat < 48
          · have hd3 : ((s[k]).toNat : Int) < 48 := by omega
            clear hd
            go_wp2_with fail
            go_ret2
            exact ⟨Below.refl _ _, .inr ⟨HNo.out, rfl⟩⟩
          · have hd3 : ¬ ((s[k]).toNat : Int) < 48 := by omega
            have hd4 : 57 < ((s[k]).toNat : Int) := by omega
            clear hd
            go_wp2_with fail
            go_ret2
            exact ⟨Below.refl _ _, .inr ⟨HNo.out, rfl⟩⟩
      · obtain rfl : k = s.size := by omega
        have hN2 : N = val s.data.toList := by rw [HN.out, List.take_of_length_le (by rw [Array.length_toList]; exact Nat.le_refl _)]
        have huniq : Hid (∀ n, IsNum s.data.toList n → n = N) := fun n ⟨_, h2⟩ => by rw [hN2, h2, val_dec]
        by_cases hE : decS N = s
        · have hT := str_eq_true hE
          have hE2 := decS_eq.1 hE
          have HE2 := hid hE2
          clear hE hE2 hN2
          by_cases hbig : N ≤ 1099511627776
          · have hb1 : ¬ 1099511627776 < (N : Int) := by omega
            go_wp2_with (go_at_call 16; refine (ref_num N _ (by omega)).mono ?_; rintro e wb ⟨rfl, hb⟩)
            go_ret2
            exact ⟨hb, .inl ⟨N, ⟨hbig, HE2.out⟩, rfl⟩⟩
          · have hb1 : 1099511627776 < (N : Int) := by omega
            have HNo : Hid (¬ ∃ n, IsNum s.data.toList n) := by rintro ⟨n, hn⟩; have := huniq.out n hn; have := hn.1; omega
            go_wp2_with (go_at_call 16; refine (ref_num N _ (by omega)).mono ?_; rintro e wb ⟨rfl, hb⟩)
            go_ret2
            exact ⟨hb, .inr ⟨HNo.out, rfl⟩⟩
        · have hT := str_eq_false hE
          have HNo : Hid (¬ ∃ n, IsNum s.data.toList n) := by
            rintro ⟨n, hn⟩
            have h1 := huniq.out n hn
            apply hE
            rw [decS_eq, ← h1]; exact hn.2
          clear hE hN2
          go_wp2_with (go_at_call 16; refine (ref_num N _ (by omega)).mono ?_; rintro e wb ⟨rfl, hb⟩)
          go_ret2
          exact ⟨hb, .inr ⟨HNo.out, rfl⟩⟩

theorem ref_num_neg (n : Int) (hn : n < 0) (w : World) : Calls Tryd.prog 16 #[.int .i64 n] w fun e w' => e = .returned (.string (decS 0)) ∧ Below w.heap.size w w' := by
  have hcv := conv_nums (nums_lit (w := w) (k := .u8) (e := 5) (cs := #[.int .u8 48]) [48] (n := 1) rfl (by decide) rfl)
  have hd := hid (show strOfNums [48] = decS 0 by have := dec_str (u := 0) (by omega); simpa using this)
  have h10 : n < 10 := by omega
  go_enter Tryd.func16, Tryd.ntmps16
  go_wp2
  rw [hd.out]
  go_ret
  exact ⟨rfl, (Below.refl _ _).alloc (Nat.le_refl _) _⟩
end Go.Proofs.YtjcmceomhocmpaaDoor.nmc
