/- The contract of serial's Wide: the number that doesn't go round, and the greatest so far. -/
import Derived.Test.YtecppfdfdabflaaSerial
import Derived.Deep.QuietTactic
import Derived.BigQuiet
namespace Go.Proofs.Ytecppfdfdabflaa.serialc
open Go.RowKit
open Go.Proofs.Ytecppfdfdabflaa.kit

/-- the number that doesn't go round, beside the greatest so far -/
def wideRaw (top n : Int) : Int := top + dist (top % 4294967296) n
def wideOf (top n : Int) : Int := if wideRaw top n < 0 then wideRaw top n + 4294967296 else wideRaw top n

theorem dist_bd (a b : Int) : -2147483648 ≤ dist a b ∧ dist a b ≤ 2147483647 := by unfold dist; omega
theorem wideRaw_bd (top n : Int) : top - 2147483648 ≤ wideRaw top n ∧ wideRaw top n ≤ top + 2147483647 := by
  have := dist_bd (top % 4294967296) n; unfold wideRaw; omega
theorem wideOf_bd (top n : Int) (h : 0 ≤ top) : 0 ≤ wideOf top n ∧ wideOf top n ≤ max (top + 2147483647) 4294967295 := by
  have := wideRaw_bd top n; unfold wideOf; split <;> omega

theorem of_end {b o nq : Nat} {top n x t : Int} {w : World} (hx : x = wideOf top n) (ht : t = max top (wideOf top n)) :
    Ending.returned (.int .i64 x) = .returned (.int .i64 (wideOf top n)) ∧
      ∃ k, (w.drewN nq).setCell ⟨b, o, none⟩ (.int .i64 t) = (w.setCell ⟨b, o, none⟩ (.int .i64 (max top (wideOf top n)))).drewN k := by
  subst hx ht; exact ⟨rfl, nq, rfl⟩

theorem of_any (b o : Nat) (top n : Int) (w : World) (h0 : 0 ≤ top) (h1 : top ≤ 1099511627776000)
    (hc : w.cell? ⟨b, o, none⟩ = some (.int .i64 top)) (hf : w.frozen? ⟨b, o, none⟩ = false) :
    Calls Try.prog 35 #[.pointer (some ⟨b, o, none⟩), .int .u32 n] w fun e w' =>
      e = .returned (.int .i64 (wideOf top n)) ∧ ∃ k, w' = (w.setCell ⟨b, o, none⟩ (.int .i64 (max top (wideOf top n)))).drewN k := by
  have hr := wideRaw_bd top n
  have hd := dist_bd (top % 4294967296) n
  go_enter Try.func35, Try.ntmps35
  go_wp2
  go_quiet ((go_at_call 27; exact quiet_l (distance_any _ _ _)))
  go_wp2
  all_goals go_ret
  all_goals (refine of_end ?_ ?_ <;> (unfold wideOf; unfold wideRaw at hr ⊢; split <;> omega))

theorem top_any (b o : Nat) (top : Int) (w : World) (hc : w.cell? ⟨b, o, none⟩ = some (.int .i64 top)) :
    Calls Try.prog 37 #[.pointer (some ⟨b, o, none⟩)] w fun e w' => e = .returned (.int .i64 top) ∧ w = w' := by
  go_enter Try.func37, Try.ntmps37
  go_wp2
  go_ret
  exact ⟨rfl, rfl⟩
end Go.Proofs.Ytecppfdfdabflaa.serialc
