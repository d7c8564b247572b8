/- cp: the contract of the document's own Parse. -/
import Derived.Test.YtidenjinagpphabCp2
import Derived.Deep.RegionWith
namespace Go.Proofs.Ytidenjinagpphab.cpc
open Go.RowKit
open Go.Proofs.Ytidenjinagpphab.kit Go.Proofs.Ytidenjinagpphab.bec
set_option linter.unusedVariables false
set_option maxRecDepth 20000

theorem ref_num2 (w : World) {B cap : Nat} {a : Option Addr} {x y s : Int} (h : Nums .u8 w B a 2 cap [x, y]) (hb : Byt [x, y]) (hs : s = 256 * x + y) :
    Calls Try.prog 64 #[.slice a 2 cap] w fun e w' => e = .returned (.int .u64 s) ∧ w = w' :=
  (ref_num w h (by decide) hb).mono fun e w' ⟨he, hw⟩ => ⟨by rw [he]; exact ret_int (by rw [hs]; simp [numB]; omega), hw⟩
set_option maxHeartbeats 2000000 in
theorem rparse_any {w W : World} {L : List Sl} {a : Option Addr} {n c : Nat} {l : List Int} (h : St w W L) (hm : (a, n, c, l) ∈ L) (hb : Byt l) (hn : n ≤ 60000) :
    Calls Try.prog 28 #[.slice a n c] W (CPost (cpP l) w L) := by
  obtain ⟨W1, hW1⟩ : ∃ W1, W1 = W.alloc (.cells #[.int .u8 0, .int .u8 0, .slice none 0 0] 58) := ⟨_, rfl⟩
  have b0 : Below W.heap.size W W1 := by rw [hW1]; exact (Below.refl _ _).alloc (Nat.le_refl _) _
  have p0 : Box W1 W.heap.size [.int .u8 0, .int .u8 0, .slice none 0 0] := by rw [hW1]; exact Box.made _ #[.int .u8 0, .int .u8 0, .slice none 0 0] _
  have N := h.get hm
  have hlen := N.len
  have hle := N.le
  have hmx := N.max
  unfold maxLen at hmx
  have N1 := hid ((N.below b0).mono b0.size)
  have HS1 := hid (h.next b0)
  have HW1 := hid hW1
  have HB0 := hid b0
  have HP := hid p0
  have HS := hid h
  have hs0 := p0.lt
  have M := hid hm
  have c0 := p0.at_ 0 _ rfl
  have c1 := p0.at_ 1 _ rfl
  have c2 := p0.at_ 2 _ rfl
  have f0 := p0.fr 0
  have f1 := p0.fr 1
  have f2 := p0.fr 2
  clear h hm N hW1 b0 p0
  by_cases h4 : l.length < 4
  · rw [cpP_short h4]
    have hn4 : n < 4 := by omega
    clear hlen h4 hb
    go_enter Try.func28, Try.ntmps28
    go_upto_region 1 with fail
    rw [← HW1.out]
    go_wp2_with fail
    obtain ⟨q0, q1, q2⟩ := ret_cells HP.out rfl (.int .u8 0) (.int .u8 0) (.slice none 0 0)
    refine bodyPost_ret (v := .tuple #[.agg #[.int .u8 0, .int .u8 0, .slice none 0 0], .int .i64 10]) (by simp [results, Try.results28, go_sem, q0, q1, q2]) rfl ?_
    exact ⟨none, 0, 0, rfl, HS.out.ret0 HB0.out (Nat.le_refl _) (set3 _ _ _ _ _)⟩
  · obtain ⟨x, y, z, u, r, rfl⟩ := four (Nat.le_of_not_lt h4)
    have hn4 : ¬ n < 4 := by omega
    have hn0 : 0 < n := by omega
    have hn1 : 1 < (n : Int) := by omega
    have hrn : r.length + 4 = n := by simp only [List.length_cons] at hlen; omega
    have hz1 := hb z (by simp)
    have hu1 := hb u (by simp)
    obtain ⟨s, hs⟩ : ∃ s, s = 256 * z + u := ⟨_, rfl⟩
    have hs1 : 0 ≤ s ∧ s ≤ 65535 := by omega
    have hzu : Byt [z, u] := by intro q hq; rcases List.mem_cons.1 hq with rfl | hq; exact hz1; rcases List.mem_cons.1 hq with rfl | hq; exact hu1; cases hq
    obtain ⟨b, off, ha, hb1, hb2, hc⟩ := N1.out.cells (by omega)
    subst ha
    have k0 : W1.cell? ⟨b, off, none⟩ = some (.int .u8 x) := hc 0 (by omega)
    have k1 : W1.cell? ⟨b, off + 1, none⟩ = some (.int .u8 y) := hc 1 (by omega)
    have n2 : Nums .u8 W1 W1.heap.size (some ⟨b, off + 2, none⟩) 2 (c - 2) [z, u] := by
      refine ⟨rfl, by omega, by unfold maxLen; omega, (by intro h; cases h), fun _ => ⟨b, off + 2, rfl, hb1, hb2, fun j hj => ?_⟩⟩
      have := hc (2 + j) (by omega)
      rw [Nat.add_assoc, this]
      match j, hj with
      | 0, _ => rfl
      | 1, _ => rfl
    have HC := hid (ref_num2 W1 n2 hzu hs)
    have N4 : ∃ a4, (c = 4 → a4 = some ⟨b, off, none⟩) ∧ (¬ c = 4 → a4 = some ⟨b, off + 4, none⟩) ∧ St w W1 ((a4, n - 4, c - 4, r) :: L) := ⟨if c = 4 then some ⟨b, off, none⟩ else some ⟨b, off + 4, none⟩, fun h => by rw [if_pos h], fun h => by rw [if_neg h], HS1.out.push (N1.out.drop (by omega) (fun h => by rw [if_pos h]) (fun h => by rw [if_neg h]; simp [Addr.add]))⟩
    obtain ⟨a4, hz4, hz5, S4'⟩ := N4
    have S4 := hid S4'
    have Z4 := hid hz4
    have Z5 := hid hz5
    rw [show cpP (x :: y :: z :: u :: r) = cpT x y s r by rw [hs]; rfl]
    have HSS := hid hs
    clear hlen hb h4 hc hz1 hu1 hzu n2 hs hz4 hz5 S4'
    by_cases hsm : s < 4
    · have HT := hid (show cpT x y s r = (0, 0, [], 11) by unfold cpT; rw [if_pos hsm])
      go_enter Try.func28, Try.ntmps28
      go_upto_region 1 with fail
      rw [← HW1.out]
      go_wp2_with (go_at_call 64; ((with_reducible refine HC.out.mono ?_); rintro e w2 ⟨rfl, rfl⟩))
      obtain ⟨q0, q1, q2⟩ := ret_cells HP.out rfl (.int .u8 0) (.int .u8 0) (.slice none 0 0)
      refine bodyPost_ret (v := .tuple #[.agg #[.int .u8 0, .int .u8 0, .slice none 0 0], .int .i64 11]) (by simp [results, Try.results28, go_sem, q0, q1, q2]) rfl ?_
      exact ⟨none, 0, 0, by rw [HT.out], by rw [HT.out]; exact HS.out.ret0 HB0.out (Nat.le_refl _) (set3 _ _ _ _ _)⟩
    · by_cases hok : (r.length : Int) + 4 < s
      · have HT := hid (show cpT x y s r = (0, 0, [], 10) by unfold cpT; rw [if_neg (by omega), if_pos hok])
        have hns : (n : Int) < s := by omega
        clear hok
        go_enter Try.func28, Try.ntmps28
        go_upto_region 1 with fail
        rw [← HW1.out]
        go_wp2_with (go_at_call 64; ((with_reducible refine HC.out.mono ?_); rintro e w2 ⟨rfl, rfl⟩))
        obtain ⟨q0, q1, q2⟩ := ret_cells HP.out rfl (.int .u8 0) (.int .u8 0) (.slice none 0 0)
        refine bodyPost_ret (v := .tuple #[.agg #[.int .u8 0, .int .u8 0, .slice none 0 0], .int .i64 10]) (by simp [results, Try.results28, go_sem, q0, q1, q2]) rfl ?_
        exact ⟨none, 0, 0, by rw [HT.out], by rw [HT.out]; exact HS.out.ret0 HB0.out (Nat.le_refl _) (set3 _ _ _ _ _)⟩
      · have HT := hid (show cpT x y s r = (x, y, r.take (s - 4).toNat, 0) by unfold cpT; rw [if_neg (by omega), if_neg hok])
        have hns : ¬ (n : Int) < s := by omega
        obtain ⟨m, hm⟩ : ∃ m : Nat, s - 4 = m := ⟨(s - 4).toNat, by omega⟩
        have hsub : IntKind.i64.wrap (s - 4) = s - 4 := IntWalk.i64_in _ (by omega)
        have HM := hid hm
        by_cases hc4 : c = 4
        · obtain rfl := Z4.out hc4
          subst hc4
          obtain rfl : n = 4 := by omega
          have HF := hid (rfirst_any (n := 0) (c := 0) (st_base (S4.out.next ((Below.refl _ _).drew))) m0 (by omega) (s - 4) m hm)
          clear hok hm
          go_enter Try.func28, Try.ntmps28
          go_upto_region 1 with fail
          rw [← HW1.out]
          go_upto_region 8 with (go_at_call 64; ((with_reducible refine HC.out.mono ?_); rintro e w2 ⟨rfl, rfl⟩))
          go_region_with (go_at_call 35; (go_loud (with_reducible refine HF.out.mono ?_); rintro e w3 ⟨a3, n3, c3, rfl, o3, b3⟩; have b3' := (Below.refl W1.heap.size W1).drew.trans b3; have k0' := keep_cell b3' k0; have k1' := keep_cell b3' k1; have p3 := HP.out.next b3'; have c0' := p3.at_ 0 _ rfl; have c1' := p3.at_ 1 _ rfl; have c2' := p3.at_ 2 _ rfl; have f0' := p3.fr 0; have f1' := p3.fr 1; have f2' := p3.fr 2; have P3 := hid p3; have O3 := hid o3; have B3 := hid b3'; clear p3 o3 b3 b3'))
          all_goals
            go_wp2_with fail
            obtain ⟨q0, q1, q2⟩ := ret_cells P3.out rfl (.int .u8 x) (.int .u8 y) (.slice a3 n3 c3)
            refine bodyPost_ret (v := .tuple #[.agg #[.int .u8 x, .int .u8 y, .slice a3 n3 c3], .int .i64 0]) (by simp [results, Try.results28, go_sem, q0, q1, q2]) rfl ?_
            have hm := HM.out
            refine ⟨a3, n3, c3, by rw [HT.out], ?_⟩
            rw [HT.out]
            have e : (s - 4).toNat = m := by omega
            show St w _ ((a3, n3, c3, r.take (s - 4).toNat) :: L)
            rw [e]
            exact HS.out.ret (HB0.out.trans (B3.out.mono (Nat.le_of_lt hs0))) O3.out (by simp; omega) (Nat.le_refl _) (set3 _ _ _ _ _)
        · obtain rfl := Z5.out hc4
          have HF := hid (rfirst_any (st_base (S4.out.next ((Below.refl _ _).drew))) m0 (by omega) (s - 4) m hm)
          clear hok hm
          go_enter Try.func28, Try.ntmps28
          go_upto_region 1 with fail
          rw [← HW1.out]
          go_upto_region 8 with (go_at_call 64; ((with_reducible refine HC.out.mono ?_); rintro e w2 ⟨rfl, rfl⟩))
          go_region_with (go_at_call 35; (go_loud (with_reducible refine HF.out.mono ?_); rintro e w3 ⟨a3, n3, c3, rfl, o3, b3⟩; have b3' := (Below.refl W1.heap.size W1).drew.trans b3; have k0' := keep_cell b3' k0; have k1' := keep_cell b3' k1; have p3 := HP.out.next b3'; have c0' := p3.at_ 0 _ rfl; have c1' := p3.at_ 1 _ rfl; have c2' := p3.at_ 2 _ rfl; have f0' := p3.fr 0; have f1' := p3.fr 1; have f2' := p3.fr 2; have P3 := hid p3; have O3 := hid o3; have B3 := hid b3'; clear p3 o3 b3 b3'))
          all_goals
            go_wp2_with fail
            obtain ⟨q0, q1, q2⟩ := ret_cells P3.out rfl (.int .u8 x) (.int .u8 y) (.slice a3 n3 c3)
            refine bodyPost_ret (v := .tuple #[.agg #[.int .u8 x, .int .u8 y, .slice a3 n3 c3], .int .i64 0]) (by simp [results, Try.results28, go_sem, q0, q1, q2]) rfl ?_
            have hm := HM.out
            refine ⟨a3, n3, c3, by rw [HT.out], ?_⟩
            rw [HT.out]
            have e : (s - 4).toNat = m := by omega
            show St w _ ((a3, n3, c3, r.take (s - 4).toNat) :: L)
            rw [e]
            exact HS.out.ret (HB0.out.trans (B3.out.mono (Nat.le_of_lt hs0))) O3.out (by simp; omega) (Nat.le_refl _) (set3 _ _ _ _ _)
end Go.Proofs.Ytidenjinagpphab.cpc
