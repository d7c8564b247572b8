/- An array of bytes is equal to itself. -/
import Derived.Test.YtjcmceomhocmpaaDoorKit
import Derived.ChangeKeysEq
namespace Go.Proofs.YtjcmceomhocmpaaDoor.kit
open Go.RowKit
set_option linter.unusedVariables false
theorem items_same {P : Program} (d : Nat) (e : TypeId) (he : P.underlying e = some (.int .u8)) (hp : P.plainKey e = true) (l : List Int) (r : Nat) : ∀ (k : Nat) (w : World), k + r = l.length →
    (Op.eqItems (d + 1) e 1 (l.map (Value.int .u8)).toArray (l.map (Value.int .u8)).toArray (List.range' k r)).run P w = .ok true w := by
  induction r with
  | zero => intro k w h; simp [Op.eqItems]
  | succ r ih =>
    intro k w h
    have h1 : k < l.length := by omega
    have c1 : (l.map (Value.int .u8)).toArray[k * 1]? = some (.int .u8 l[k]) := by simp [h1]
    simp only [List.range'_succ, Op.eqItems, Sem.run_bind, run_part_plain w hp c1, Result.andThen_ok, run_equalIn_int w d e .u8 .u8 _ _ he]
    simp [ih (k + 1) w (by omega)]
theorem arr_same (n : Nat) (t : TypeId) (hu : Tryd.prog.underlying t = some (.array n 5)) (l : List Int) (hl : l.length = n) (w : World) :
    (Op.equalIn 10000 t (.agg (l.map (Value.int .u8)).toArray) (.agg (l.map (Value.int .u8)).toArray)).run Tryd.prog w = .ok true w := by
  cases hq : Tryd.prog.info? 5 with
  | none => exact absurd hq (by have : (Tryd.prog.info? 5).isSome = true := by kernel_rfl
                                intro h; rw [h] at this; cases this)
  | some i =>
    have hc : Tryd.prog.cellsOf 5 = 1 := by kernel_rfl
    rw [show (10000 : Nat) = 9998 + 1 + 1 from rfl, run_equalIn_array w _ _ _ hu hq, hc, List.range_eq_range']
    exact items_same (P := Tryd.prog) 9998 5 Tryd.underlying5 (by kernel_rfl) l n 0 w (by omega)
end Go.Proofs.YtjcmceomhocmpaaDoor.kit
