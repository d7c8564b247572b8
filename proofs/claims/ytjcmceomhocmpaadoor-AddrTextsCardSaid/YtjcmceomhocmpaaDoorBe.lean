/- The contracts of package be: a number as bytes behind others. -/
import Derived.Test.YtjcmceomhocmpaaDoorBytes
namespace Go.Proofs.YtjcmceomhocmpaaDoor.bec
open Go.RowKit
open Go.Proofs.YtjcmceomhocmpaaDoor.kit
set_option linter.unusedVariables false

/-- a number as so many bytes, the greatest first -/
def beB : Nat → Int → List Int
  | 0, _ => []
  | s + 1, n => (n / 256 ^ s % 256) :: beB s n
def putLen (z : Int) : Nat := if 1 ≤ z ∧ z ≤ 8 then z.toNat else 0
theorem beB_len (s : Nat) (n : Int) : (beB s n).length = s := by induction s with
  | zero => rfl
  | succ s ih => simp [beB, ih]
theorem beB_getD (s j : Nat) (n : Int) (h : j < s) : (beB s n).getD j 0 = n / 256 ^ (s - 1 - j) % 256 := by
  induction s generalizing j with
  | zero => omega
  | succ s ih =>
    cases j with
    | zero => simp [beB]
    | succ j =>
      have := ih j (by omega)
      simp only [beB, List.getD_cons_succ]
      rw [this]
      congr 3
      omega
theorem pow8 (x : Int) (m : Nat) : x / 2 ^ (8 * m) % 256 = x / 256 ^ m % 256 := by
  rw [Int.pow_mul]; rfl
theorem put_round {z j : Nat} {x : Int} {l : List Int} (h : j < z) : l ++ (beB z x).take j ++ [x / 2 ^ (8 * (z - 1 - j)) % 256] = l ++ (beB z x).take (j + 1) := by
  rw [take_getD (by rw [beB_len]; exact h), beB_getD z j x h, pow8, List.append_assoc]
theorem fits_any (z : Int) (w : World) : Calls Tryd.prog 41 #[.int .i64 z] w fun e w' => e = .returned (.bool (decide (1 ≤ z ∧ z ≤ 8))) ∧ w = w' := by
  by_cases h1 : 1 ≤ z
  all_goals
    go_enter Tryd.func41, Tryd.ntmps41
    go_wp2
    go_ret
    exact ⟨ret_bool (by simp [h1] <;> omega), rfl⟩

/-- a number behind bytes, in any size: bytes of the call's own -/
def PutPost (n : Nat) (l : List Int) (x : Int) (z : Nat) (w : World) (e : Ending) (w' : World) : Prop :=
  ∃ a' c', e = .returned (.slice a' (n + z) c') ∧ w'.ownsRow w.heap.size 5 1 (.slice a' (n + z) c') (n + z) ((l ++ beB z x).map (Value.int .u8)) ∧ Below w.heap.size w w'

set_option maxRecDepth 20000 in
theorem put_in {B n cap : Nat} {a : Option Addr} {l : List Int} (w : World) (h : Nums .u8 w B a n cap l) (hn : n ≤ 70368744177664) (hB : B ≤ w.heap.size) (x : Int) (hx0 : 0 ≤ x) (hx1 : x ≤ 18446744073709551615) (z : Nat) (hz0 : 1 ≤ z) (hz1 : z ≤ 8) :
    Calls Tryd.prog 30 #[.slice a n cap, .int .u64 x, .int .i64 z] w (PutPost n l x z w) := by
  obtain ⟨i0, hi, hi0, hi1, hi2⟩ := info_parts Tryd.info_u8
  have hd : decide (1 ≤ (z : Int) ∧ (z : Int) ≤ 8) = true := by simp; omega
  have HN := hid (h.below (Below.refl _ _))
  clear h
  go_enter Tryd.func30, Tryd.ntmps30
  go_wp2_with (first | (go_at_call 41; refine (fits_any _ _).mono ?_; rintro e w' ⟨rfl, rfl⟩) | (at_make; go_loud (refine wpList_make_own _ rfl _ _ _ rfl w.heap.size 5 i0 (.int .u8 0) 1 Tryd.underlying48 hi hi0 hi1 .i64 .i64 _ (n + z) rfl rfl (by omega) (by rw [hi2]; omega) (by unfold maxLen; omega) (Nat.le_refl _) ?_); go_loud (intro w1 h1 h2)) | (at_builtin; go_loud (refine wpList_append_nums rfl (.tmp 16) _ 48 rfl w.heap.size 5 i0 (.int .u8 0) 1 Tryd.underlying48 hi hi0 hi1 hi2 rfl _ 0 [] rfl h1 a n cap B l rfl (HN.out.below (below_none (Below.refl _ _) h2 hB)) (by unfold maxLen; omega) (by omega) h2.size ?_); go_loud (intro v' w2 h3 h4)))
  simp only [Nat.zero_add, List.nil_append] at h3
  have hb1 := below_none (Below.refl w.heap.size w) h2 (Nat.le_refl _)
  have hb2 := own_below h1 hb1 h4 h2.size
  have h5 : w2.ownsRow w.heap.size 5 1 v' (n + 0) ((l ++ (beB z x).take 0).map (Value.int .u8)) := by simpa using h3
  clear h1 h2 h3 h4 hb1 HN
  go_loopw [7, 8] (fun o i wr => ∃ j : Nat, j ≤ z ∧ i = .int .i64 ((z : Int) - 1 - j) ∧ wr.ownsRow w.heap.size 5 1 o (n + j) ((l ++ (beB z x).take j).map (Value.int .u8)) ∧ Below w.heap.size w wr) (fun _ i _ => (intOf i + 1).toNat)
  case atStart => exact ⟨0, Nat.zero_le _, congrArg (Value.int .i64) (by omega), h5, hb2⟩
  case round =>
    clear h5 hb2
    obtain ⟨j, hj, rfl, hown, hb⟩ := hrel
    have hsz := hb.size
    by_cases hlt : j < z
    · go_wp2_with (at_builtin; go_loud (refine wpList_append_nums rfl (.tmp 25) _ 48 rfl w.heap.size 5 i0 (.int .u8 0) 1 Tryd.underlying48 hi hi0 hi1 hi2 rfl u7 (n + j) _ rfl (hown.alloc _) _ 1 1 _ _ rfl nums_one (by unfold maxLen; omega) (by omega) (by simp; omega) ?_); go_loud (intro v1 w3 g1 g2))
      rw [put_round hlt] at g1
      have hb3 := own_below (hown.alloc _) (hb.alloc hsz _) g2 (by simp; omega)
      clear g2
      go_roundw
      case rel => exact ⟨j + 1, by omega, congrArg (Value.int .i64) (by push_cast; omega), g1, hb3⟩
      case measure => simp [intOf]; omega
    · obtain rfl : j = z := by omega
      go_wp2
      go_ret
      rw [List.take_of_length_le (by rw [beB_len]; omega)] at hown
      obtain ⟨a', c', rfl⟩ := own_slice hown
      exact ⟨a', c', rfl, hown, hb⟩

set_option maxRecDepth 20000 in
theorem put_no {B n cap : Nat} {a : Option Addr} {l : List Int} (w : World) (h : Nums .u8 w B a n cap l) (hn : n ≤ 70368744177664) (hB : B ≤ w.heap.size) (x : Int) (z : Int) (hz : ¬ (1 ≤ z ∧ z ≤ 8)) :
    Calls Tryd.prog 30 #[.slice a n cap, .int .u64 x, .int .i64 z] w (PutPost n l x 0 w) := by
  obtain ⟨i0, hi, hi0, hi1, hi2⟩ := info_parts Tryd.info_u8
  have hd : decide (1 ≤ z ∧ z ≤ 8) = false := by simp; omega
  have HN := hid (h.below (Below.refl _ _))
  clear h hz
  go_enter Tryd.func30, Tryd.ntmps30
  go_wp2_with (first | (go_at_call 41; refine (fits_any _ _).mono ?_; rintro e w' ⟨rfl, rfl⟩) | (at_make; go_loud (refine wpList_make_own _ rfl _ _ _ rfl w.heap.size 5 i0 (.int .u8 0) 1 Tryd.underlying48 hi hi0 hi1 .i64 .i64 _ n rfl rfl (by omega) (by rw [hi2]; omega) (by unfold maxLen; omega) (Nat.le_refl _) ?_); go_loud (intro w1 h1 h2)) | (at_builtin; go_loud (refine wpList_append_nums rfl (.tmp 16) _ 48 rfl w.heap.size 5 i0 (.int .u8 0) 1 Tryd.underlying48 hi hi0 hi1 hi2 rfl _ 0 [] rfl h1 a n cap B l rfl (HN.out.below (below_none (Below.refl _ _) h2 hB)) (by unfold maxLen; omega) (by omega) h2.size ?_); go_loud (intro v' w2 h3 h4)))
  simp only [Nat.zero_add, List.nil_append] at h3
  have hb1 := below_none (Below.refl w.heap.size w) h2 (Nat.le_refl _)
  have hb2 := own_below h1 hb1 h4 h2.size
  have h5 : w2.ownsRow w.heap.size 5 1 v' (n + 0) ((l ++ beB 0 x).map (Value.int .u8)) := by simpa [beB] using h3
  clear h1 h2 h3 h4 hb1 HN
  go_loopw [7, 8] (fun o i wr => i = .int .i64 (-1) ∧ wr.ownsRow w.heap.size 5 1 o (n + 0) ((l ++ beB 0 x).map (Value.int .u8)) ∧ Below w.heap.size w wr) (fun _ i _ => (intOf i + 1).toNat)
  case atStart => exact ⟨rfl, h5, hb2⟩
  case round =>
    clear h5 hb2
    obtain ⟨rfl, hown, hb⟩ := hrel
    go_wp2
    go_ret
    obtain ⟨a', c', rfl⟩ := own_slice hown
    exact ⟨a', c', rfl, hown, hb⟩

theorem put_any {B n cap : Nat} {a : Option Addr} {l : List Int} (w : World) (h : Nums .u8 w B a n cap l) (hn : n ≤ 70368744177664) (hB : B ≤ w.heap.size) (x : Int) (hx0 : 0 ≤ x) (hx1 : x ≤ 18446744073709551615) (z : Int) :
    Calls Tryd.prog 30 #[.slice a n cap, .int .u64 x, .int .i64 z] w (PutPost n l x (putLen z) w) := by
  by_cases hz : 1 ≤ z ∧ z ≤ 8
  · obtain ⟨m, rfl⟩ : ∃ m : Nat, z = m := ⟨z.toNat, by omega⟩
    have e : putLen (m : Int) = m := by unfold putLen; rw [if_pos hz]; omega
    rw [e]
    exact put_in w h hn hB x hx0 hx1 m (by omega) (by omega)
  · have e : putLen z = 0 := by unfold putLen; rw [if_neg hz]
    rw [e]
    exact put_no w h hn hB x z hz



theorem put32_any {B n cap : Nat} {a : Option Addr} {l : List Int} (w : World) (h : Nums .u8 w B a n cap l) (hn : n ≤ 70368744177664) (hB : B ≤ w.heap.size) (x : Int) (hx0 : 0 ≤ x) (hx1 : x ≤ 4294967295) :
    Calls Tryd.prog 21 #[.slice a n cap, .int .u32 x] w (PutPost n l x 4 w) := by
  have HN := hid h
  clear h
  go_enter Tryd.func21, Tryd.ntmps21
  go_wp2_with (go_at_call 30; go_loud (refine (put_in w HN.out hn hB x (by omega) (by omega) 4 (by omega) (by omega)).mono ?_); go_loud (rintro e w' ⟨a', c', rfl, h1, h2⟩))
  go_ret
  exact ⟨a', c', rfl, h1, h2⟩
end Go.Proofs.YtjcmceomhocmpaaDoor.bec
