/- Bytes of numbers as a string. -/
import Derived.Test.YtnokfpojgmndmaaOct
import Derived.Test.YtnokfpojgmndmaaHexMath
import Derived.Laws.Concat
namespace Go.Proofs.Ytnokfpojgmndmaa.hxt
open Go.RowKit
open Go.Proofs.Ytnokfpojgmndmaa.kit Go.Proofs.Ytnokfpojgmndmaa.hxm
set_option linter.unusedVariables false
set_option linter.unusedSimpArgs false

/-- bytes as a string -/
theorem conv_nums {w : World} {B n cap : Nat} {a : Option Addr} {l : List Int} (h : Nums .u8 w B a n cap l) :
    (convert 35 9 (.slice a n cap)).run Try.prog w = .ok (.string (strOfNums l)) w := by
  cases a with
  | none =>
    have hc := h.nil rfl
    have hm : n = 0 := by have := h.le; omega
    subst hc hm
    have hl : l = [] := List.eq_nil_of_length_eq_zero h.len
    subst hl
    exact run_convert_bytes_nil w 35 5 Try.underlying35 Try.underlying5 0 0 9 Try.underlying9
  | some ad =>
    by_cases hn : 0 < n
    · obtain ⟨b, off, ha, _, _, hc⟩ := h.cells hn
      obtain rfl := Option.some.inj ha
      exact run_convert_bytes_arg w 35 5 Try.underlying35 Try.underlying5 b off n cap l h.len hc 9 Try.underlying9
    · obtain rfl : n = 0 := by omega
      have hl : l = [] := List.eq_nil_of_length_eq_zero h.len
      subst hl
      rw [run_convert_bytes_string w 35 9 5 (some ad) 0 cap Try.underlying35 Try.underlying5 Try.underlying9]
      rw [run_bytesToString w ad 0 cap [] (run_loadCells_list (P := Try.prog) w ad [] (fun j v hj => by simp at hj))]
      rfl

theorem str_add (a b : List Int) : strOfNums a ++ strOfNums b = strOfNums (a ++ b) := by
  unfold strOfNums; rw [ByteArray.mk_append_mk, List.map_append]

end Go.Proofs.Ytnokfpojgmndmaa.hxt
