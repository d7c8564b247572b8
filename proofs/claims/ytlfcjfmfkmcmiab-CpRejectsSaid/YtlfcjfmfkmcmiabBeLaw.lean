/- The contracts that layer 1's statements share: the document's own number, and that the package lives. -/
import Derived.Test.YtlfcjfmfkmcmiabBeRdr2
import Derived.Test.YtlfcjfmfkmcmiabEqual8
namespace Go.Proofs.Ytlfcjfmfkmcmiab.bec
open Go.RowKit
open Go.Proofs.Ytlfcjfmfkmcmiab.kit
set_option linter.unusedVariables false

theorem equal_same {B1 B2 n1 n2 c1 c2 : Nat} {a1 a2 : Option Addr} {l1 l2 : List Int} (w : World) (h1 : Nums .u8 w B1 a1 n1 c1 l1) (h2 : Nums .u8 w B2 a2 n2 c2 l2) (h : l1 = l2) :
    Calls Try.prog 53 #[.slice a1 n1 c1, .slice a2 n2 c2] w fun e w' => e = .returned (.bool true) ∧ ∃ m, w' = w.drewN m :=
  (equal_any w h1 h2).mono fun e w' hh => ⟨by rw [hh.1]; simp [h], hh.2⟩

theorem beB_mod (s : Nat) : ∀ x : Int, beB s (x % 256 ^ s) = beB s x := by
  induction s with
  | zero => intro x; rfl
  | succ s ih =>
    intro x
    have hp : (0 : Int) < 256 ^ s := Int.pow_pos (by decide)
    have e1 : x % 256 ^ (s + 1) / 256 ^ s % 256 = x / 256 ^ s % 256 := by
      have e : x % 256 ^ (s + 1) = x + 256 ^ s * (-(256 * (x / (256 ^ s * 256)))) := by
        rw [Int.emod_def, Int.pow_succ, Int.mul_neg, Int.mul_assoc]; omega
      rw [e, Int.add_mul_ediv_left _ _ (by omega)]
      omega
    have e2 : x % 256 ^ (s + 1) % 256 ^ s = x % 256 ^ s := Int.emod_emod_of_dvd _ ⟨256, by rw [Int.pow_succ]⟩
    simp only [beB]
    rw [e1, ← ih (x % 256 ^ (s + 1)), e2, ih x]

/-- the document's own number of bytes -/
theorem ref_num (w : World) {B n cap : Nat} {a : Option Addr} {l : List Int} (h : Nums .u8 w B a n cap l) (hn8 : n ≤ 8) (hb : Byt l) :
    Calls Try.prog 9 #[.slice a n cap] w fun e w' => e = .returned (.int .u64 (numB l)) ∧ w = w' := by
  have HC := hid h.cells
  have HB := hid (numB_bd l hb)
  have HG := hid hb.getD
  have HLn := hid h.len
  clear h hb
  go_enter Try.func9, Try.ntmps9
  go_wp2
  go_loop [3, 4] (fun nv iv => ∃ k : Nat, k ≤ n ∧ iv = .int .i64 k ∧ nv = .int .u64 (numB (l.take k))) (fun _ iv => n - (intOf iv).toNat)
  case atStart => exact ⟨0, Nat.zero_le _, rfl, by simp [numB]⟩
  case round =>
    obtain ⟨k, hk, rfl, rfl⟩ := hrel
    by_cases hlt : k < n
    · obtain ⟨b, off, ha, hb1, hb2, hc⟩ := HC.out (by omega)
      subst ha
      have hcx := hc k hlt
      have hbd := HB.out k (by rw [HLn.out]; omega)
      have hg := HG.out k
      obtain ⟨y, hy⟩ : ∃ y, y = l.getD k 0 := ⟨_, rfl⟩
      rw [← hy] at hcx hg
      have HY := hid hy
      obtain ⟨N, hN⟩ : ∃ N, N = numB (l.take k) := ⟨_, rfl⟩
      rw [← hN] at hbd
      rw [← hN]
      have HNN := hid hN
      have hN56 := pow_le56 hbd.2 (by omega)
      have hN0 := hbd.1
      clear hy hN hc HC HB hbd
      go_wp2
      go_round
      case rel => exact ⟨k + 1, by omega, by go_num, by rw [take_getD (by rw [HLn.out]; omega), numB_snoc, ← HY.out, ← HNN.out]; congr 1; first | rfl | omega⟩
      case measure => simp [intOf]; omega
    · obtain rfl : k = n := by omega
      go_wp2
      go_ret
      exact ⟨ret_int (by rw [List.take_of_length_le (by rw [HLn.out]; omega)]), rfl⟩

end Go.Proofs.Ytlfcjfmfkmcmiab.bec
