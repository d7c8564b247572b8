/- Slices of bytes: what a byte is in memory; lists of them, up to a place. -/
import Derived.Test.YtnokfpojgmndmaaNums
import Derived.Deep.QuietTactic
import Derived.BigQuiet
import Derived.WalkSpells
namespace Go.Proofs.Ytnokfpojgmndmaa.kit
open Go.RowKit

theorem Try.info_u8 : (Try.prog.info? 5).map (fun i => (i.zero, i.size, i.bytes)) = some (some (.int .u8 0), 1, 1) := by kernel_rfl

theorem take_getD {l : List Int} {k : Nat} (h : k < l.length) : l.take (k + 1) = l.take k ++ [l.getD k 0] := by
  rw [List.take_succ_eq_append_getElem h, List.getD_eq_getElem?_getD, List.getElem?_eq_getElem h]; rfl
theorem take_eq_succ {l1 l2 : List Int} {n k : Nat} (e1 : l1.length = n) (e2 : l2.length = n) (hk : k < n) (h : l1.take k = l2.take k) (hx : l1.getD k 0 = l2.getD k 0) : l1.take (k + 1) = l2.take (k + 1) := by
  rw [take_getD (by omega), take_getD (by omega), h, hx]

end Go.Proofs.Ytnokfpojgmndmaa.kit
