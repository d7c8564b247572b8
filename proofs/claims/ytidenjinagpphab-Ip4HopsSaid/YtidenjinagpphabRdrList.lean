/- be's Reader over a list that is known: what comes next of it. -/
import Derived.Test.YtidenjinagpphabBeRdr2
namespace Go.Proofs.Ytidenjinagpphab.bec
open Go.RowKit
open Go.Proofs.Ytidenjinagpphab.kit
set_option linter.unusedVariables false

theorem nx_cons (x : Int) (r : List Int) : valN false (x :: r) 1 = x ∧ okN false (x :: r) 1 = true ∧ leftN false (x :: r) 1 = r := by
  have h : okN false (x :: r) 1 = true := by simp [okN, okR]; omega
  exact ⟨by unfold valN; rw [h]; simp [numB], h, by unfold leftN; rw [h]; rfl⟩
theorem nx_nil (b : Bool) : valN b [] 1 = 0 ∧ okN b [] 1 = false ∧ leftN b [] 1 = [] := by
  have h : okN b [] 1 = false := by cases b <;> simp [okN, okR]
  exact ⟨by unfold valN; rw [h]; rfl, h, by unfold leftN; rw [h]; rfl⟩
theorem u8_cons (w : World) (g D : Nat) (x : Int) (r : List Int) (h : RdrAt w g D false (x :: r)) (hb : Byt (x :: r)) :
    Calls Try.prog 59 #[.pointer (some ⟨g, 0, none⟩)] w fun e w' => e = .returned (.int .u8 x) ∧ RdrAt w' g D false r ∧ w.grownBy w' (some g) :=
  (u8_any w g D false _ h hb).mono fun e w' ⟨y, he, hy, hr, hg⟩ => by obtain ⟨h1, h2, h3⟩ := nx_cons x r; rw [h1] at hy; rw [h2, h3] at hr; subst hy; exact ⟨he, hr, hg⟩
theorem u8_nil (w : World) (g D : Nat) (b : Bool) (h : RdrAt w g D b []) :
    Calls Try.prog 59 #[.pointer (some ⟨g, 0, none⟩)] w fun e w' => e = .returned (.int .u8 0) ∧ RdrAt w' g D true [] ∧ w.grownBy w' (some g) :=
  (u8_any w g D b _ h (fun x hx => by cases hx)).mono fun e w' ⟨y, he, hy, hr, hg⟩ => by obtain ⟨h1, h2, h3⟩ := nx_nil b; rw [h1] at hy; rw [h2, h3] at hr; subst hy; exact ⟨he, hr, hg⟩
theorem rest_ok (w : World) (g D : Nat) (l : List Int) (h : RdrAt w g D false l) (hl : l.length ≤ 70368744177664) :
    Calls Try.prog 63 #[.pointer (some ⟨g, 0, none⟩)] w fun e w' => ∃ a c, e = .returned (.slice a l.length c) ∧ w'.ownsRow w.heap.size 5 1 (.slice a l.length c) l.length (l.map (Value.int .u8)) ∧ w.grownBy w' (some g) :=
  (rest_any w g D false l h hl).mono fun e w' ⟨v, he, a, n, c, hv, ho, hr, hg⟩ => by
    have e1 : gotR false l l.length = l := by unfold gotR okR; simp
    rw [e1] at ho
    obtain rfl : l.length = n := by have := ho.1; simpa using this
    exact ⟨a, c, by rw [he, hv], ho, hg⟩
end Go.Proofs.Ytidenjinagpphab.bec
