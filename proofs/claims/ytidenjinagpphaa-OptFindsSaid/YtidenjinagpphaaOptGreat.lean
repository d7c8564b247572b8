/- opt: when a row of options is too great. -/
import Derived.Test.YtidenjinagpphaaOpts
import Derived.Deep.DeepCutAuto
namespace Go.Proofs.Ytidenjinagpphaa.opc
open Go.RowKit
open Go.Proofs.Ytidenjinagpphaa.kit Go.Proofs.Ytidenjinagpphaa.opm
set_option linter.unusedVariables false
set_option maxRecDepth 20000

set_option maxHeartbeats 2000000 in
theorem great2_any {w : World} {B n cap : Nat} {a : Option Addr} {L : List Opt} (h : Opts w B a n cap L) (hn : n ≤ 9223372036854775807) :
    Calls Try.prog 12 #[.slice a n cap] w fun e w' => ∃ g, e = .returned (.bool g) ∧ (g = false → n ≤ 1000 ∧ ∀ o ∈ L, o.2.length ≤ 2000) ∧ w = w' := by
  have HL := hid h.len
  have hle := h.le
  have HH := hid h
  clear h
  go_enter Try.func12, Try.ntmps12
  go_wp2_with fail
  go_loopw [3, 4] (fun nv iv wr => ∃ k N : Nat, k ≤ n ∧ iv = .int .i64 (k : Nat) ∧ nv = .int .i64 (N : Nat) ∧ 2 * k ≤ N ∧ N ≤ 4010 ∧ (∀ j, j < k → 2 + min (L.getD j (0, [])).2.length 2000 ≤ N) ∧ wr = w) (fun _ iv _ => n - (intOf iv).toNat)
  case atStart => exact ⟨0, 0, Nat.zero_le _, rfl, rfl, Nat.le_refl _, Nat.zero_le _, (fun j hj => by omega), rfl⟩
  case round =>
    obtain ⟨k, N, hk, rfl, rfl, h2k, hN, hB, rfl⟩ := hrel
    have HB := hid hB
    have H2K := hid h2k
    clear hB h2k
    by_cases hbig : N ≤ 2000
    · by_cases hlt : k < n
      · obtain ⟨b, off, aj, nj, cj, ha, h1, h2, h3, h4, h5⟩ := HH.out.cells k hlt
        subst ha
        have HE := hid h5.len
        clear h3 h5
        by_cases hs : (nj : Int) ≤ 2000
        · go_wp2_with fail
          go_roundw
          case rel => exact ⟨k + 1, N + (2 + nj), by omega, by go_num, by go_num, by have := H2K.out; omega, by omega, (fun j hj => by
            by_cases e : j < k
            · have := HB.out j e; omega
            · obtain rfl : j = k := by omega
              rw [HE.out]; omega), by first | trivial | rfl⟩
          case measure => simp [intOf]; omega
        · go_wp2_with fail
          go_roundw
          case rel => exact ⟨k + 1, N + (2 + 2000), by omega, by go_num, by go_num, by have := H2K.out; omega, by omega, (fun j hj => by
            by_cases e : j < k
            · have := HB.out j e; omega
            · obtain rfl : j = k := by omega
              rw [HE.out]; omega), by first | trivial | rfl⟩
          case measure => simp [intOf]; omega
      · obtain rfl : k = n := by omega
        go_wp2_with fail
        go_ret
        refine ⟨_, rfl, fun _ => ⟨by have := H2K.out; omega, ?_⟩, rfl⟩
        intro o ho
        obtain ⟨i, hi, he⟩ := List.mem_iff_getElem.1 ho
        have := HB.out i (by rw [← HL.out]; exact hi)
        rw [List.getD_eq_getElem?_getD, List.getElem?_eq_getElem hi, Option.getD_some, he] at this
        omega
    · by_cases hlt : k < n
      all_goals
        have hgt : (2000 : Int) < (N : Int) := by omega
        go_wp2_with fail
        go_ret
        exact ⟨true, rfl, (fun h => absurd h (by decide)), rfl⟩
end Go.Proofs.Ytidenjinagpphaa.opc
