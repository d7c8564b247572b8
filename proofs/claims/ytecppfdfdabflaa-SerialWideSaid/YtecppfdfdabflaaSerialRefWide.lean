/- The document's own answer for numbers that go round, beside the greatest so far; and the package's, said alike. -/
import Derived.Test.YtecppfdfdabflaaSerialRef
import Derived.Deep.QuietTactic
import Derived.BigQuiet
namespace Go.Proofs.Ytecppfdfdabflaa.serialc
open Go.RowKit
open Go.Proofs.Ytecppfdfdabflaa.kit

theorem wideOf_first (n : Int) (h : U32 n) : wideOf 0 n = n := by
  unfold wideOf wideRaw dist U32 at *; split <;> omega

/-- what one number does to the greatest so far, block by block -/
def OfPost (b : Nat) (top n : Int) (w : World) (e : Ending) (w' : World) : Prop :=
  e = .returned (.int .i64 (wideOf top n)) ∧ w'.cell? ⟨b, 0, none⟩ = some (.int .i64 (max top (wideOf top n))) ∧ w'.frozen? ⟨b, 0, none⟩ = false ∧ w.grownBy w' (some b)

theorem of_only (b : Nat) (top n : Int) (w : World) (h0 : 0 ≤ top) (h1 : top ≤ 1099511627776000)
    (hc : w.cell? ⟨b, 0, none⟩ = some (.int .i64 top)) (hf : w.frozen? ⟨b, 0, none⟩ = false) :
    Calls Try.prog 35 #[.pointer (some ⟨b, 0, none⟩), .int .u32 n] w (OfPost b top n w) :=
  (of_any b 0 top n w h0 h1 hc hf).mono fun e w' ⟨he, k, hw⟩ => by
    subst hw
    refine ⟨he, ?_, ?_, gb_drewN (gb_setCell (World.grownBy.refl w _) rfl _) k⟩
    · simp [hc, go_sem]
    · simp [hf, go_sem]

def RefPost (b : Nat) (top n : Int) (w : World) (e : Ending) (w' : World) : Prop :=
  e = .returned (.int .i64 (wideOf top n)) ∧ w'.cell? ⟨b, 0, none⟩ = some (.int .i64 (max top (wideOf top n))) ∧ w'.cell? ⟨b, 1, none⟩ = some (.bool true) ∧
    w'.frozen? ⟨b, 0, none⟩ = false ∧ w'.frozen? ⟨b, 1, none⟩ = false ∧ w.grownBy w' (some b)

theorem ref_end1 {b nq : Nat} {top n x : Int} {sm : Bool} {w : World} (hc : w.cell? ⟨b, 0, none⟩ = some (.int .i64 top)) (hc1 : w.cell? ⟨b, 1, none⟩ = some (.bool sm))
    (hf : w.frozen? ⟨b, 0, none⟩ = false) (hf1 : w.frozen? ⟨b, 1, none⟩ = false) (hx : x = wideOf top n) (hm : top ≤ x) :
    RefPost b top n w (.returned (.int .i64 x)) (((w.drewN nq).setCell ⟨b, 0, none⟩ (.int .i64 x)).setCell ⟨b, 1, none⟩ (.bool true)) := by
  subst hx
  have e : max top (wideOf top n) = wideOf top n := by omega
  obtain ⟨w1, hw1⟩ : ∃ w1, w1 = w.drewN nq := ⟨_, rfl⟩
  have k0 : w1.cell? ⟨b, 0, none⟩ = some (.int .i64 top) := by rw [hw1]; exact hc
  have k1 : w1.cell? ⟨b, 1, none⟩ = some (.bool sm) := by rw [hw1]; exact hc1
  have f0 : w1.frozen? ⟨b, 0, none⟩ = false := by rw [hw1]; exact hf
  have f1 : w1.frozen? ⟨b, 1, none⟩ = false := by rw [hw1]; exact hf1
  have g1 : w.grownBy w1 (some b) := by rw [hw1]; exact gb_drewN (World.grownBy.refl w _) nq
  rw [← hw1]
  refine ⟨rfl, ?_, cell_same (cell_other k1 (by decide)), frozen_set (frozen_set f0), frozen_set (frozen_set f1), gb_setCell (gb_setCell g1 rfl _) rfl _⟩
  rw [e]; exact cell_other (cell_same k0) (by decide)
theorem ref_end2 {b nq : Nat} {top n x : Int} {sm : Bool} {w : World} (hc : w.cell? ⟨b, 0, none⟩ = some (.int .i64 top)) (hc1 : w.cell? ⟨b, 1, none⟩ = some (.bool sm))
    (hf : w.frozen? ⟨b, 0, none⟩ = false) (hf1 : w.frozen? ⟨b, 1, none⟩ = false) (hx : x = wideOf top n) (hm : x ≤ top) :
    RefPost b top n w (.returned (.int .i64 x)) ((w.drewN nq).setCell ⟨b, 1, none⟩ (.bool true)) := by
  subst hx
  have e : max top (wideOf top n) = top := by omega
  obtain ⟨w1, hw1⟩ : ∃ w1, w1 = w.drewN nq := ⟨_, rfl⟩
  have k0 : w1.cell? ⟨b, 0, none⟩ = some (.int .i64 top) := by rw [hw1]; exact hc
  have k1 : w1.cell? ⟨b, 1, none⟩ = some (.bool sm) := by rw [hw1]; exact hc1
  have f0 : w1.frozen? ⟨b, 0, none⟩ = false := by rw [hw1]; exact hf
  have f1 : w1.frozen? ⟨b, 1, none⟩ = false := by rw [hw1]; exact hf1
  have g1 : w.grownBy w1 (some b) := by rw [hw1]; exact gb_drewN (World.grownBy.refl w _) nq
  rw [← hw1]
  refine ⟨rfl, ?_, cell_same k1, frozen_set f0, frozen_set f1, gb_setCell g1 rfl _⟩
  rw [e]; exact cell_other k0 (by decide)

theorem ref_of (b : Nat) (top n : Int) (sm : Bool) (w : World) (h0 : 0 ≤ top) (h1 : top ≤ 1099511627776000) (hn : U32 n) (hs : sm = false → top = 0)
    (hc : w.cell? ⟨b, 0, none⟩ = some (.int .i64 top)) (hc1 : w.cell? ⟨b, 1, none⟩ = some (.bool sm)) (hf : w.frozen? ⟨b, 0, none⟩ = false) (hf1 : w.frozen? ⟨b, 1, none⟩ = false) :
    Calls Try.prog 36 #[.pointer (some ⟨b, 0, none⟩), .int .u32 n] w (RefPost b top n w) := by
  have hr := wideRaw_bd top n
  have hd := dist_bd (top % 4294967296) n
  have hu : U32 (top % 4294967296) := by unfold U32; omega
  obtain ⟨hn0, hn1⟩ := id hn
  cases sm with
  | false =>
    obtain rfl := hs rfl
    have hw := hid (wideOf_first n hn)
    clear hs
    go_enter Try.func36, Try.ntmps36
    go_wp2
    go_ret
    exact ref_end1 (nq := 0) hc hc1 hf hf1 hw.out.symm (by omega)
  | true =>
    clear hs
    go_enter Try.func36, Try.ntmps36
    go_wp2
    go_quiet ((go_at_call 29; exact quiet_l (ref_distance _ _ _ (by assumption) (by assumption))))
    go_wp2
    all_goals go_ret
    · exact ref_end1 hc hc1 hf hf1 (by unfold wideOf wideRaw; rw [if_pos (by assumption)]) (by omega)
    · exact ref_end1 hc hc1 hf hf1 (by unfold wideOf wideRaw; rw [if_neg (by omega)]) (by omega)
    · exact ref_end2 hc hc1 hf hf1 (by unfold wideOf wideRaw; rw [if_neg (by omega)]) (by omega)
end Go.Proofs.Ytecppfdfdabflaa.serialc
