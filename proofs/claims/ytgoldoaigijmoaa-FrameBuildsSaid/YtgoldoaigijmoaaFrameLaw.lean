/- frame: that the package lives; the contracts as its laws call them. -/
import Derived.Test.YtgoldoaigijmoaaFrameP
namespace Go.Proofs.Ytgoldoaigijmoaa.frc
open Go.RowKit
open Go.Proofs.Ytgoldoaigijmoaa.kit Go.Proofs.Ytgoldoaigijmoaa.bec
set_option linter.unusedVariables false

theorem St.base {w W : World} {L : List Sl} (h : St w W L) : St W W L := ⟨Below.refl _ _, h.all⟩
theorem St.on {w W W' : World} {L L' : List Sl} (h : St w W L) (k : St W W' L') : St w W' L' := ⟨h.below.trans (k.below.mono h.below.size), k.all⟩
theorem equal_st {w W : World} {L : List Sl} {B1 B2 n1 n2 c1 c2 : Nat} {a1 a2 : Option Addr} {l1 l2 : List Int} (h : St w W L) (h1 : Nums .u8 W B1 a1 n1 c1 l1) (h2 : Nums .u8 W B2 a2 n2 c2 l2) (he : l1 = l2) :
    Calls Try.prog 14 #[.slice a1 n1 c1, .slice a2 n2 c2] W fun e W' => e = .returned (.bool true) ∧ St w W' L :=
  (equal_same W h1 h2 he).mono fun e W' ⟨he, m, hm⟩ => ⟨he, by subst hm; exact h.next (below_drewN (Below.refl _ _) m)⟩
theorem alive_st {w W : World} {L : List Sl} (h : St w W L) : Calls Try.prog 36 #[] W fun e W' => e = .returned (.bool true) ∧ St w W' L := by
  have s0 := hid ((h.next ((Below.refl _ _).alloc (Nat.le_refl _) (.cells #[.int .u8 69] 5))).push ((nums_one (w := W) (k := .u8) (e := 5) (x := 69)).mono (by simp)))
  clear h
  go_enter Try.func36, Try.ntmps36
  go_wp2_with (first | (go_at_call 37; (go_loud (with_reducible refine (build_any s0.out m0 (by decide) _ (by decide) _ _).mono ?_); rintro e w1 ⟨a1, n1, c1, rfl, s1⟩)) | (go_at_call 14; (go_loud (with_reducible refine (equal_st (s1.tl.tl.next ((Below.refl _ _).alloc (Nat.le_refl _) _)) ((s1.get m0).below ((Below.refl _ _).alloc (Nat.le_refl _) _)) nums_two (by decide)).mono ?_); rintro e w2 ⟨rfl, s2⟩)))
  go_ret
  exact ⟨rfl, s2⟩
end Go.Proofs.Ytgoldoaigijmoaa.frc
