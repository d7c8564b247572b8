/- The contracts of the document's own automaton: its table as texts, a letter's number, Step. -/
import Derived.Test.YtlfcjfmfkmcmiaaFsmRefMath
import Derived.Test.YtlfcjfmfkmcmiaaSplit
namespace Go.Proofs.Ytlfcjfmfkmcmiaa.fc
open Go.RowKit
open Go.Proofs.Ytlfcjfmfkmcmiaa.kit Go.Proofs.Ytlfcjfmfkmcmiaa.fm Go.Proofs.Ytlfcjfmfkmcmiaa.hxm Go.Proofs.Ytlfcjfmfkmcmiaa.spm Go.Proofs.Ytlfcjfmfkmcmiaa.spc
set_option linter.unusedVariables false
set_option maxRecDepth 20000
set_option maxHeartbeats 4000000 in
theorem rrow_any (e : Nat) (he : e < 16) (w : World) : Calls Try.prog 43 #[.int .i64 (e : Nat)] w fun x w' => x = .returned (.string (strOfNums (rowB.getD e []))) ∧ Below w.heap.size w w' := by
  have hc : e = 0 ∨ e = 1 ∨ e = 2 ∨ e = 3 ∨ e = 4 ∨ e = 5 ∨ e = 6 ∨ e = 7 ∨ e = 8 ∨ e = 9 ∨ e = 10 ∨ e = 11 ∨ e = 12 ∨ e = 13 ∨ e = 14 ∨ e = 15 := by omega
  rcases hc with rfl | rfl | rfl | rfl | rfl | rfl | rfl | rfl | rfl | rfl | rfl | rfl | rfl | rfl | rfl | rfl
  all_goals
    go_enter Try.func43, Try.ntmps43
    go_wp2
    go_ret
    exact ⟨rfl, (Below.refl _ _).alloc (Nat.le_refl _) _⟩
theorem letter_at (k : Nat) (hk : k < 13) (h : k < ByteArray.size ⟨#[117, 100, 115, 102, 105, 122, 114, 97, 110, 116, 107, 106, 101]⟩) : (((⟨#[117, 100, 115, 102, 105, 122, 114, 97, 110, 116, 107, 106, 101]⟩ : ByteArray)[k]'h).toNat : Int) = letters.getD k 0 := by
  have hc : k = 0 ∨ k = 1 ∨ k = 2 ∨ k = 3 ∨ k = 4 ∨ k = 5 ∨ k = 6 ∨ k = 7 ∨ k = 8 ∨ k = 9 ∨ k = 10 ∨ k = 11 ∨ k = 12 := by omega
  rcases hc with rfl | rfl | rfl | rfl | rfl | rfl | rfl | rfl | rfl | rfl | rfl | rfl | rfl <;> rfl
set_option maxHeartbeats 2000000 in
theorem place_any (c : Int) (w : World) : Calls Try.prog 44 #[.int .u8 c] w fun x w' => x = .returned (.int .i64 (place c)) ∧ w = w' := by
  go_enter Try.func44, Try.ntmps44
  go_wp2
  go_loopw [4] (fun iv wr => ∃ k : Nat, k ≤ 13 ∧ iv = .int .i64 k ∧ Hid (∀ j, j < k → letters.getD j 0 ≠ c) ∧ w = wr) (fun iv _ => 13 - (intOf iv).toNat)
  case atStart => exact ⟨0, by omega, rfl, hid (fun j hj => by omega), rfl⟩
  case round =>
    obtain ⟨k, hk, rfl, HK, rfl⟩ := hrel
    by_cases hlt : k < 13
    · have hz : k < ByteArray.size ⟨#[117, 100, 115, 102, 105, 122, 114, 97, 110, 116, 107, 106, 101]⟩ := hlt
      have HX := hid (letter_at k hlt hz)
      by_cases he : letters.getD k 0 = c
      · have HP := hid (show place c = 0 + ((k : Nat) : Int) from pl_at letters c k 0 hlt HK.out he)
        have hq : ((((⟨#[117, 100, 115, 102, 105, 122, 114, 97, 110, 116, 107, 106, 101]⟩ : ByteArray)[k]'hz).toNat : Int) == c) = true := by rw [HX.out]; simpa using he
        clear he HK
        go_wp2
        go_ret
        exact ⟨ret_int (by rw [HP.out]; omega), rfl⟩
      · have HK2 : Hid (∀ j, j < k + 1 → letters.getD j 0 ≠ c) := hid (fun j hj => by
          by_cases e : j = k
          · subst e; exact he
          · exact HK.out j (by omega))
        have hq : ((((⟨#[117, 100, 115, 102, 105, 122, 114, 97, 110, 116, 107, 106, 101]⟩ : ByteArray)[k]'hz).toNat : Int) == c) = false := by rw [HX.out]; simpa using he
        clear he HK
        go_wp2
        go_roundw
        case rel => exact ⟨k + 1, by omega, by go_num, HK2, trivial⟩
        case measure => simp [intOf]; omega
    · obtain rfl : k = 13 := by omega
      have HP := hid (show place c = 0 from pl_none letters c 0 HK.out)
      clear HK
      go_wp2
      go_ret
      exact ⟨ret_int HP.out.symm, rfl⟩
end Go.Proofs.Ytlfcjfmfkmcmiaa.fc
