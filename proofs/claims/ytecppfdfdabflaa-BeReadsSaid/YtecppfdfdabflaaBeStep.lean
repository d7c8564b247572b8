/- The contracts of the document's own Reader, and of one call of both. -/
import Derived.Test.YtecppfdfdabflaaBeLaw
import Derived.Deep.RegionHeld3
namespace Go.Proofs.Ytecppfdfdabflaa.bec
open Go.RowKit
open Go.Proofs.Ytecppfdfdabflaa.kit
set_option linter.unusedVariables false

theorem ret_vb {v : Value} {a b : Bool} (h : a = b) : Ending.returned (.tuple #[v, .bool a]) = .returned (.tuple #[v, .bool b]) := by rw [h]
theorem rtake_any (w : World) (g D : Nat) (bad : Bool) (l : List Int) (m : Int) (h : RdrAt w g D bad l) :
    Calls Try.prog 43 #[.pointer (some ⟨g, 0, none⟩), .int .i64 m] w fun e w' => ∃ v, e = .returned (.tuple #[v, .bool (okR bad l m)]) ∧ NextPost g D bad l m w v w' := by
  obtain ⟨⟨a, n, cap, hc, hn⟩, hb, hf0, hf1, hlt, hD⟩ := id h
  have hlen := hn.len
  have hle := hn.le
  have hmx := hn.max
  unfold maxLen at hmx
  have HN := hid hn
  have HL := hid hlen
  clear hn hlen
  cases bad with
  | true =>
    have hok : okR true l m = false := by simp [okR]
    have HO := hid (next_end_no h hok)
    have HK := hid hok
    clear hok h
    go_enter Try.func43, Try.ntmps43
    go_wp2
    go_ret2
    exact ⟨_, ret_vb HK.out.symm, HO.out⟩
  | false =>
    by_cases hm0 : m < 0
    · have hok : okR false l m = false := by simp [okR]; omega
      have HO := hid (next_end_no h hok)
      have HK := hid hok
      clear hok h
      go_enter Try.func43, Try.ntmps43
      go_wp2
      go_ret2
      exact ⟨_, ret_vb HK.out.symm, HO.out⟩
    · by_cases hm1 : (n : Int) < m
      · have hok : okR false l m = false := by simp [okR]; intro _; rw [HL.out]; exact hm1
        have HO := hid (next_end_no h hok)
        have HK := hid hok
        clear hok h
        go_enter Try.func43, Try.ntmps43
        go_wp2
        go_ret2
        exact ⟨_, ret_vb HK.out.symm, HO.out⟩
      · obtain ⟨k, rfl⟩ : ∃ k : Nat, m = k := ⟨m.toNat, by omega⟩
        have hok : okR false l k = true := by unfold okR; simp; rw [HL.out]; omega
        have HH := hid h
        have HK := hid hok
        clear h hok
        go_enter Try.func43, Try.ntmps43
        go_wp2
        all_goals go_ret2
        · have h : cap = k := by assumption
          subst h
          have := next_end_yes HH.out HN.out (m := cap) (by omega) rfl rfl (fun _ => rfl) (fun h => absurd rfl h)
          rw [Nat.sub_self] at this
          exact ⟨_, ret_vb HK.out.symm, this⟩
        · have h : ¬ cap = k := by assumption
          exact ⟨_, ret_vb HK.out.symm, next_end_yes HH.out HN.out (by omega) rfl rfl (fun h' => absurd h' h) (fun _ => rfl)⟩

theorem got_le {L l : List Int} {n : Nat} {m : Int} (h : L.length = n) (hg : L = l.take m.toNat) (hm : m ≤ 8) : n ≤ 8 := by
  rw [hg, List.length_take] at h; omega
theorem rnum_any (w : World) (g D : Nat) (bad : Bool) (l : List Int) (m : Int) (h : RdrAt w g D bad l) (hb : Byt l) :
    Calls Try.prog 41 #[.pointer (some ⟨g, 0, none⟩), .int .i64 m] w fun e w' => ∃ x, e = .returned (.int .u64 x) ∧ NumPost g D bad l m w x w' := by
  by_cases hm : 1 ≤ m ∧ m ≤ 8
  · have hd : decide (1 ≤ m ∧ m ≤ 8) = true := by simp; omega
    have hOK : okN bad l m = okR bad l m := by unfold okN; rw [hd]; simp
    have hLF : leftN bad l m = leftR bad l m := by unfold leftN leftR; rw [hOK]
    have HOK := hid hOK
    have HLF := hid hLF
    have hG : okR bad l m = true → (gotR bad l m = l.take m.toNat ∧ valN bad l m = numB (gotR bad l m)) := by
      intro h; unfold valN gotR; rw [hOK, h]; simp
    have hG0 : okR bad l m = false → valN bad l m = 0 := by intro h; unfold valN; rw [hOK, h]; simp
    have HG := hid hG
    have HG0 := hid hG0
    have HH := hid h
    clear h hOK hLF hG hG0 hd
    obtain ⟨ok, hok⟩ : ∃ ok, ok = okR bad l m := ⟨_, rfl⟩
    have HT : Hid (Calls Try.prog 43 #[.pointer (some ⟨g, 0, none⟩), .int .i64 m] w fun e w' => ∃ v, e = .returned (.tuple #[v, .bool ok]) ∧ NextPost g D bad l m w v w') := by
      rw [hok]; exact rtake_any w g D bad l m HH.out
    have HK := hid hok
    clear hok
    obtain ⟨hm1, hm8⟩ := hm
    cases ok with
    | true =>
      go_enter Try.func41, Try.ntmps41
      go_wp2_with (first | (go_at_call 43; go_loud (refine HT.out.mono ?_); go_loud (rintro e w1 ⟨v, rfl, a, n, c, rfl, h1, h2, h3⟩); go_loud (obtain ⟨hg1, hg2⟩ := HG.out HK.out.symm; have hn8 : n ≤ 8 := got_le h1.len hg1 hm8; have hBy : Byt (gotR bad l m) := hg1 ▸ hb.take _; rw [← HOK.out, ← HLF.out] at h2; have G2 := hid hg2; clear hg1 hg2)) | (go_at_call 17; go_loud (refine (ref_num _ h1 hn8 hBy).mono ?_); go_loud (rintro e w' ⟨rfl, rfl⟩)))
      go_ret
      exact ⟨_, rfl, G2.out.symm, h2, h3⟩
    | false =>
      go_enter Try.func41, Try.ntmps41
      go_wp2_with (first | (go_at_call 43; go_loud (refine HT.out.mono ?_); go_loud (rintro e w1 ⟨v, rfl, a, n, c, rfl, h1, h2, h3⟩); rw [← HOK.out, ← HLF.out] at h2))
      go_ret
      exact ⟨0, rfl, (HG0.out HK.out.symm).symm, h2, h3⟩
  · have hb1 := h.isBad
    have hf1 := h.f1
    have hR := hid (h.setBad true)
    have hok : okN bad l m = false := by unfold okN; simp; omega
    have hG := hid (gb_setCell (World.grownBy.refl w (some g)) (p := ⟨g, 1, none⟩) rfl (.bool true))
    have HOK := hid hok
    have hT := rtake_any _ g D true l m hR.out
    have e0 : okR true l m = false := by simp [okR]
    rw [e0] at hT
    have HT := hid hT
    clear hok h hT e0
    by_cases hm1 : m < 1
    all_goals
      go_enter Try.func41, Try.ntmps41
      go_wp2_with (go_at_call 43; go_loud (refine HT.out.mono ?_); go_loud (rintro e w1 ⟨v, rfl, a, n, c, rfl, h1, h2, h3⟩); have H2 := hid h2; clear h2)
      go_ret
      have e2 : leftR true l m = l := by simp [leftR, okR]
      have e3 : (!okR true l m) = (!okN bad l m) := by rw [HOK.out]; simp [okR]
      have e4 : leftN bad l m = l := by unfold leftN; rw [HOK.out]; simp
      have e5 : valN bad l m = 0 := by unfold valN; rw [HOK.out]; simp
      have h2 := H2.out
      rw [e2, e3] at h2
      exact ⟨0, rfl, e5.symm, by rw [e4]; exact h2, gb_trans hG.out h3⟩
end Go.Proofs.Ytecppfdfdabflaa.bec
