/- The library's Max over bytes: is all of it 0? -/
import Derived.Test.YtgegejdkehbeeaaSumLaw
namespace Go.Proofs.Ytgegejdkehbeeaa.sc
open Go.RowKit
open Go.Proofs.Ytgegejdkehbeeaa.kit Go.Proofs.Ytgegejdkehbeeaa.sm
set_option linter.unusedVariables false
set_option linter.unusedSimpArgs false
theorem tot_succ_zero {l : List Int} {k M c : Nat} (h : M = 0 ↔ tot l 0 k = 0) (hc : l.getD k 0 = c) : max M c = 0 ↔ tot l 0 (k + 1) = 0 := by
  simp only [tot]
  rw [hc]
  have hb : bit (0 + k) (c : Int) = 0 ↔ c = 0 := by unfold bit; split <;> omega
  omega
theorem max_any {B n cap : Nat} {a : Option Addr} {l : List Int} (w : World) (h : Nums .u8 w B a n cap l) (hO : Oct l) (hn : 0 < n) :
    Calls Try.prog 22 #[.slice a n cap] w fun e w' => (∃ M : Nat, (M = 0 ↔ sumOf l = 0) ∧ e = .returned (.int .u8 M)) ∧ w' = w := by
  have hm : n ≤ 9223372036854775807 := by have := h.le; have := h.max; unfold maxLen at this; omega
  obtain ⟨b, off, ha, hb1, hb2, hc⟩ := h.cells hn
  have HC := hid hc
  have HO := hid hO
  have HL := hid h.len
  subst ha
  have hx0 := hO.at 0
  obtain ⟨c0, hc0⟩ : ∃ c : Nat, l.getD 0 0 = c := ⟨(l.getD 0 0).toNat, by omega⟩
  have hcx := hc 0 hn
  rw [hc0, Nat.add_zero] at hcx
  have H0 := hid (show c0 = 0 ↔ tot l 0 1 = 0 by have := tot_succ_zero (l := l) (k := 0) (M := 0) (by simp [tot]) hc0; simpa using this)
  clear h hO hc hc0 hx0
  go_enter Try.func22, Try.ntmps22
  go_wp2
  go_loopw [3, 4] (fun mv iv wr => ∃ k M : Nat, k ≤ n ∧ iv = .int .i64 k ∧ Hid (M = 0 ↔ tot l 0 k = 0) ∧ mv = .int .u8 M ∧ wr = w) (fun _ iv _ => n - (intOf iv).toNat)
  case atStart => exact ⟨1, c0, by omega, rfl, H0, rfl, rfl⟩
  case round =>
    obtain ⟨k, M, hk, rfl, HM, rfl, rfl⟩ := hrel
    by_cases hlt : k < n
    · have hx := HO.out.at k
      obtain ⟨c, hc0⟩ : ∃ c : Nat, l.getD k 0 = c := ⟨(l.getD k 0).toNat, by omega⟩
      have hcx := HC.out k hlt
      rw [hc0] at hcx
      have HN := hid (tot_succ_zero HM.out hc0)
      clear hc0 hx
      go_wp2
      go_roundw
      case rel => exact ⟨k + 1, max M c, by omega, by go_num, HN, (by congr 1; split <;> omega), trivial⟩
      case measure => simp [intOf]; omega
    · obtain rfl : k = n := by omega
      go_wp2
      go_ret
      exact ⟨⟨M, by unfold sumOf; rw [HL.out]; exact HM.out, rfl⟩, rfl⟩
end Go.Proofs.Ytgegejdkehbeeaa.sc
