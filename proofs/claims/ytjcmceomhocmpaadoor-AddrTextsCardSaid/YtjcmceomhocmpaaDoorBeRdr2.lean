/- The contracts of be's Reader, by its callers: numbers of one size, bytes, all that is left; and of the numbers that bytes begin with. -/
import Derived.Test.YtjcmceomhocmpaaDoorBeRdr
namespace Go.Proofs.YtjcmceomhocmpaaDoor.bec
open Go.RowKit
open Go.Proofs.YtjcmceomhocmpaaDoor.kit
set_option linter.unusedVariables false

theorem valN_bd (bad : Bool) (l : List Int) (hb : Byt l) (k : Nat) : 0 ≤ valN bad l k ∧ valN bad l k < 256 ^ k := by
  have hp : (0 : Int) < 256 ^ k := Int.pow_pos (by decide)
  unfold valN
  split
  · rename_i h
    have : k ≤ l.length := by simp [okN, okR] at h; omega
    have := numB_bd l hb k this
    simpa using this
  · omega



theorem u32_any (w : World) (g D : Nat) (bad : Bool) (l : List Int) (h : RdrAt w g D bad l) (hb : Byt l) :
    Calls Tryd.prog 32 #[.pointer (some ⟨g, 0, none⟩)] w fun e w' => ∃ x, e = .returned (.int .u32 x) ∧ NumPost g D bad l 4 w x w' := by
  have hv : 0 ≤ valN bad l 4 ∧ valN bad l 4 < 256 ^ 4 := valN_bd bad l hb 4
  have HH := hid h
  clear h
  go_enter Tryd.func32, Tryd.ntmps32
  go_wp2_with (go_at_call 42; go_loud (refine (num_any _ g D bad l 4 HH.out hb).mono ?_); go_loud (rintro e w1 ⟨x, rfl, h1, h2⟩); have H1 := hid h1; clear h1)
  go_ret
  exact ⟨x, ret_int (by have := H1.out; simp only [Int.reducePow] at hv; omega), H1.out, h2⟩

/-- bytes of the call's own; what a reader's turn leaves -/
def TakePost (g D : Nat) (bad : Bool) (l : List Int) (m : Int) (w : World) (v : Value) (w' : World) : Prop :=
  ∃ a n c, v = .slice a n c ∧ w'.ownsRow w.heap.size 5 1 (.slice a n c) n ((gotR bad l m).map (Value.int .u8)) ∧ RdrAt w' g D (!okR bad l m) (leftR bad l m) ∧ w.grownBy w' (some g)




theorem get32_any (w : World) {B n cap : Nat} {a : Option Addr} {l : List Int} (h : Nums .u8 w B a n cap l) (hB : B ≤ w.heap.size) (hb : Byt l) :
    Calls Tryd.prog 22 #[.slice a n cap] w fun e w' => e = .returned (.int .u32 (valN false l 4)) ∧ Below w.heap.size w w' := by
  have HR := hid (RdrAt.made (e := 74) (h.mono hB))
  clear h
  go_enter Tryd.func22, Tryd.ntmps22
  go_wp2_with (first | (go_at_call 31; refine (new_any _ _ _ _).mono ?_; rintro e w1 ⟨rfl, rfl⟩) | (go_at_call 32; go_loud (refine (u32_any _ w.heap.size w.heap.size false l HR.out hb).mono ?_); go_loud (rintro e w1 ⟨x, rfl, h1, h2, h3⟩); have H1 := hid h1; clear h1))
  go_ret
  exact ⟨ret_int H1.out, gb_below ((Below.refl _ _).alloc (Nat.le_refl _) _) h3 (by simp) (Nat.le_refl _)⟩
end Go.Proofs.YtjcmceomhocmpaaDoor.bec
