/- The contracts of the document's own checksum. -/
import Derived.Test.YtidenjinagpphabSum
namespace Go.Proofs.Ytidenjinagpphab.sc
open Go.RowKit
open Go.Proofs.Ytidenjinagpphab.kit Go.Proofs.Ytidenjinagpphab.sm
set_option linter.unusedVariables false
set_option linter.unusedSimpArgs false

theorem Try.info_int : (Try.prog.info? 3).map (fun i => (i.zero, i.size, i.bytes)) = some (some (.int .i64 0), 1, 8) := by kernel_rfl
def wd (l : List Int) (j : Nat) : Int := (256 * (l.getD (2 * j) 0).toNat + (l.getD (2 * j + 1) 0).toNat : Nat)
def wds (l : List Int) (k : Nat) : List Int := (List.range k).map (wd l)
theorem wds_succ (l : List Int) (k : Nat) : wds l (k + 1) = wds l k ++ [wd l k] := by simp [wds, List.range_succ]
theorem wds_len (l : List Int) (k : Nat) : (wds l k).length = k := by simp [wds]
theorem wds_at (l : List Int) (k j : Nat) (h : j < k) : (wds l k).getD j 0 = wd l j := by
  rw [List.getD_eq_getElem?_getD]; simp [wds, h]
theorem tot_wd (l : List Int) (k : Nat) : ((tot l 0 (2 * (k + 1)) : Nat) : Int) = (tot l 0 (2 * k) : Nat) + wd l k := by
  show ((tot l 0 (2 * k + 2) : Nat) : Int) = _
  rw [tot_two]; unfold wd; omega
theorem tot_end {l : List Int} {n k : Nat} (hl : l.length = n) (h : n ≤ 2 * k) (h2 : 2 * k ≤ n + 1) : tot l 0 (2 * k) = tot l 0 n := by
  by_cases e : 2 * k = n
  · rw [e]
  · rw [show 2 * k = n + 1 by omega]
    simp only [tot]
    have : l.getD n 0 = 0 := by rw [List.getD_eq_getElem?_getD, List.getElem?_eq_none (by omega)]; rfl
    rw [this]; unfold bit; split <;> rfl
theorem wd_bd {l : List Int} (h : Oct l) (j : Nat) : 0 ≤ wd l j ∧ wd l j ≤ 65535 := by
  have h1 := h.at (2 * j); have h2 := h.at (2 * j + 1); unfold wd; omega
theorem ref_words {B n cap : Nat} {a : Option Addr} {l : List Int} (w : World) (h : Nums .u8 w B a n cap l) (hO : Oct l) (hn : n ≤ 2000) (hB : B ≤ w.heap.size) :
    Calls Try.prog 101 #[.slice a n cap] w fun e w' => ∃ a' c' k, n ≤ 2 * k ∧ 2 * k ≤ n + 1 ∧ e = .returned (.slice a' k c') ∧
      w'.ownsRow w.heap.size 3 1 (.slice a' k c') k ((wds l k).map (Value.int .i64)) ∧ Below w.heap.size w w' := by
  obtain ⟨i0, hi, hi0, hi1, hi2⟩ := info_parts Try.info_int
  have HN := hid (h.below (Below.refl _ _))
  have HO := hid hO
  have HL := hid h.len
  clear h hO
  go_enter Try.func101, Try.ntmps101
  go_wp2
  go_loopw [3, 4] (fun rv iv wr => ∃ k t : Nat, t = 2 * k ∧ t ≤ n + 1 ∧ iv = .int .i64 t ∧ Hid (wr.ownsRow w.heap.size 3 1 rv k ((wds l k).map (Value.int .i64))) ∧ Hid (Below w.heap.size w wr)) (fun _ iv _ => n + 1 - (intOf iv).toNat)
  case atStart => exact ⟨0, 0, rfl, Nat.zero_le _, rfl, hid (World.ownsRow_nil _ _ _ _), hid (Below.refl _ _)⟩
  case round =>
    obtain ⟨k, t, ht, htn, rfl, HR, HB⟩ := hrel
    have HT := hid ht
    have hkb : k ≤ 1001 := by omega
    clear ht
    by_cases hlt : t < n
    · have hx := HO.out.at t
      have hy := HO.out.at (t + 1)
      obtain ⟨b, off, ha, hb1, hb2, hc⟩ := (HN.out.below (HB.out.mono hB)).cells (by omega)
      have hcx := hc t hlt
      have hcy : t + 1 < n → wr.cell? ⟨b, off + (t + 1), none⟩ = some (.int .u8 (l.getD (t + 1) 0)) := fun h => hc (t + 1) h
      clear hc
      subst ha
      obtain ⟨c, hc0⟩ : ∃ c : Nat, l.getD t 0 = c := ⟨(l.getD t 0).toNat, by omega⟩
      obtain ⟨d, hd0⟩ : ∃ d : Nat, l.getD (t + 1) 0 = d := ⟨(l.getD (t + 1) 0).toNat, by omega⟩
      have HW := hid (show wd l k = ((256 * c + d : Nat) : Int) by unfold wd; rw [← HT.out, hc0, hd0]; rfl)
      have HZ := hid (fun (h : ¬ t + 1 < n) => show d = 0 by
        have : l.getD (t + 1) 0 = 0 := by rw [List.getD_eq_getElem?_getD, List.getElem?_eq_none (by rw [HL.out]; omega)]; rfl
        omega)
      rw [hc0] at hcx hx
      rw [hd0] at hcy hy
      clear hc0 hd0
      by_cases h2 : t + 1 < n
      · have hcy := hcy h2
        have h2I : (t : Int) + 1 < n := by omega
        go_wp2_with (at_builtin; go_loud (refine wpList_append_nums rfl (.tmp 31) _ 175 rfl w.heap.size 3 i0 (.int .i64 0) 8 Try.underlying175 hi hi0 hi1 hi2 rfl _ k _ rfl (HR.out.alloc _) _ 1 1 _ _ rfl nums_one (by unfold maxLen; omega) (by omega) (by have := HB.out.size; simp; omega) ?_); go_loud (intro v1 w3 g1 g2))
        have hb5 := own_below (HR.out.alloc _) (HB.out.alloc HB.out.size _) g2 (by have := HB.out.size; simp; omega)
        have G1 := hid g1
        have HB5 := hid hb5
        clear g1 g2 hb5
        go_roundw
        case rel => exact ⟨k + 1, t + 2, by have := HT.out; omega, by omega, by go_num, hid (by have := G1.out; rw [wds_succ, HW.out]; exact this), HB5⟩
        case measure => simp [intOf]; omega
      · have hd := HZ.out h2
        subst hd
        have h2I : ¬ (t : Int) + 1 < n := by omega
        go_wp2_with (at_builtin; go_loud (refine wpList_append_nums rfl (.tmp 31) _ 175 rfl w.heap.size 3 i0 (.int .i64 0) 8 Try.underlying175 hi hi0 hi1 hi2 rfl _ k _ rfl (HR.out.alloc _) _ 1 1 _ _ rfl nums_one (by unfold maxLen; omega) (by omega) (by have := HB.out.size; simp; omega) ?_); go_loud (intro v1 w3 g1 g2))
        have hb5 := own_below (HR.out.alloc _) (HB.out.alloc HB.out.size _) g2 (by have := HB.out.size; simp; omega)
        have G1 := hid g1
        have HB5 := hid hb5
        clear g1 g2 hb5
        go_roundw
        case rel => exact ⟨k + 1, t + 2, by have := HT.out; omega, by omega, by go_num, hid (by have := G1.out; rw [wds_succ, HW.out]; exact this), HB5⟩
        case measure => simp [intOf]; omega
    · obtain hkI : ¬ (t : Int) < n := by omega
      clear hlt
      go_wp2
      go_ret
      obtain ⟨a', c', rfl⟩ := own_slice HR.out
      exact ⟨a', c', k, by have := HT.out; omega, by have := HT.out; omega, rfl, HR.out, HB.out⟩
theorem ref_of {B n cap : Nat} {a : Option Addr} {l : List Int} (w : World) (h : Nums .u8 w B a n cap l) (hO : Oct l) (hn : n ≤ 2000) (hB : B ≤ w.heap.size) :
    Calls Try.prog 65 #[.slice a n cap] w fun e w' => e = .returned (.int .i64 (chk l : Nat)) ∧ Below w.heap.size w w' := by
  have HN := hid (h.below (Below.refl _ _))
  have HO := hid hO
  have HL := hid h.len
  clear h hO
  go_enter Try.func65, Try.ntmps65
  go_wp2_with (go_at_call 101; refine (ref_words w HN.out HO.out hn hB).mono ?_; rintro e w1 ⟨a', c', k, hk1, hk2, rfl, hown, hb⟩; have HOwn := hid hown; have HB := hid hb; clear hown hb)
  have HQ := hid (own_nums HOwn.out)
  go_loopw [3, 5] (fun sv iv wr => ∃ j s : Nat, j ≤ k ∧ iv = .int .i64 j ∧ s = tot l 0 (2 * j) ∧ sv = .int .i64 s ∧ wr = w1) (fun _ iv _ => k - (intOf iv).toNat)
  case atStart => exact ⟨0, 0, Nat.zero_le _, rfl, rfl, rfl, rfl⟩
  case round =>
    obtain ⟨j, s, hj, rfl, hs, rfl, rfl⟩ := hrel
    have hle := tot_le HO.out 0 (2 * j)
    rw [← hs] at hle
    have HS := hid hs
    clear hs
    by_cases hlt : j < k
    · obtain ⟨b, off, ha, hb1, hb2, hc⟩ := HQ.out.cells (by omega)
      have hcx := hc j hlt
      rw [wds_at l k j hlt] at hcx
      clear hc
      subst ha
      obtain ⟨x, hx⟩ : ∃ x : Nat, wd l j = x := ⟨(wd l j).toNat, by have := (wd_bd HO.out j).1; omega⟩
      have hxb := (wd_bd HO.out j).2
      have HX := hid (show s + x = tot l 0 (2 * (j + 1)) by have := tot_wd l j; have := HS.out; omega)
      rw [hx] at hcx hxb
      clear hx
      go_wp2
      go_roundw
      case rel => exact ⟨j + 1, s + x, by omega, by go_num, HX.out, by go_num, by first | rfl | trivial⟩
      case measure => simp [intOf]; omega
    · have hS1 := hid (show s = tot l 0 n by rw [HS.out, show j = k by omega]; exact tot_end HL.out hk1 hk2)
      have hltI : ¬ (j : Int) < k := by omega
      clear hlt
      go_wp2
      go_loopw [3] (fun sv wq => ∃ m : Nat, m ≤ s ∧ sv = .int .i64 m ∧ fd m = fd s ∧ wq = wr) (fun sv _ => (intOf sv).toNat)
      case atStart => exact ⟨s, Nat.le_refl _, rfl, rfl, rfl⟩
      case round =>
        obtain ⟨m, hm, rfl, hf, hw⟩ := hrel
        subst hw
        have HF := hid hf
        clear hf
        by_cases hlt : 65535 < m
        · have e1 : (m : Int).tdiv 65536 = (m : Int) / 65536 := Int.tdiv_eq_ediv_of_nonneg (by omega)
          have e2 : (m : Int).tmod 65536 = (m : Int) % 65536 := Int.tmod_eq_emod_of_nonneg (by omega)
          go_wp2
          go_roundw
          case rel => exact ⟨m / 65536 + m % 65536, by omega, by go_num, by rw [fd_step]; exact HF.out, trivial⟩
          case measure => simp [intOf]; omega
        · have E1 := hid (show (65535 : Int) - m = ((chk l : Nat) : Int) by unfold chk sumOf; rw [HL.out, ← hS1.out, ← HF.out, fd_small (by omega)]; omega)
          go_wp2
          go_ret
          exact ⟨ret_int E1.out, HB.out⟩
end Go.Proofs.Ytidenjinagpphab.sc
