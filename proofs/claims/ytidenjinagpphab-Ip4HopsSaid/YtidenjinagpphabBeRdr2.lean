/- The contracts of be's Reader, by its callers: numbers of one size, bytes, all that is left; and of the numbers that bytes begin with. -/
import Derived.Test.YtidenjinagpphabBeRdr
namespace Go.Proofs.Ytidenjinagpphab.bec
open Go.RowKit
open Go.Proofs.Ytidenjinagpphab.kit
set_option linter.unusedVariables false

theorem valN_bd (bad : Bool) (l : List Int) (hb : Byt l) (k : Nat) : 0 ≤ valN bad l k ∧ valN bad l k < 256 ^ k := by
  have hp : (0 : Int) < 256 ^ k := Int.pow_pos (by decide)
  unfold valN
  split
  · rename_i h
    have : k ≤ l.length := by simp [okN, okR] at h; omega
    have := numB_bd l hb k this
    simpa using this
  · omega

theorem u8_any (w : World) (g D : Nat) (bad : Bool) (l : List Int) (h : RdrAt w g D bad l) (hb : Byt l) :
    Calls Try.prog 59 #[.pointer (some ⟨g, 0, none⟩)] w fun e w' => ∃ x, e = .returned (.int .u8 x) ∧ NumPost g D bad l 1 w x w' := by
  have hv : 0 ≤ valN bad l 1 ∧ valN bad l 1 < 256 ^ 1 := valN_bd bad l hb 1
  have HH := hid h
  clear h
  go_enter Try.func59, Try.ntmps59
  go_wp2_with (go_at_call 99; go_loud (refine (num_any _ g D bad l 1 HH.out hb).mono ?_); go_loud (rintro e w1 ⟨x, rfl, h1, h2⟩); have H1 := hid h1; clear h1)
  go_ret
  exact ⟨x, ret_int (by have := H1.out; simp only [Int.reducePow] at hv; omega), H1.out, h2⟩

theorem u16_any (w : World) (g D : Nat) (bad : Bool) (l : List Int) (h : RdrAt w g D bad l) (hb : Byt l) :
    Calls Try.prog 60 #[.pointer (some ⟨g, 0, none⟩)] w fun e w' => ∃ x, e = .returned (.int .u16 x) ∧ NumPost g D bad l 2 w x w' := by
  have hv : 0 ≤ valN bad l 2 ∧ valN bad l 2 < 256 ^ 2 := valN_bd bad l hb 2
  have HH := hid h
  clear h
  go_enter Try.func60, Try.ntmps60
  go_wp2_with (go_at_call 99; go_loud (refine (num_any _ g D bad l 2 HH.out hb).mono ?_); go_loud (rintro e w1 ⟨x, rfl, h1, h2⟩); have H1 := hid h1; clear h1)
  go_ret
  exact ⟨x, ret_int (by have := H1.out; simp only [Int.reducePow] at hv; first | (rw [IntKind.wrap_u16]; omega) | omega), H1.out, h2⟩

theorem u32_any (w : World) (g D : Nat) (bad : Bool) (l : List Int) (h : RdrAt w g D bad l) (hb : Byt l) :
    Calls Try.prog 61 #[.pointer (some ⟨g, 0, none⟩)] w fun e w' => ∃ x, e = .returned (.int .u32 x) ∧ NumPost g D bad l 4 w x w' := by
  have hv : 0 ≤ valN bad l 4 ∧ valN bad l 4 < 256 ^ 4 := valN_bd bad l hb 4
  have HH := hid h
  clear h
  go_enter Try.func61, Try.ntmps61
  go_wp2_with (go_at_call 99; go_loud (refine (num_any _ g D bad l 4 HH.out hb).mono ?_); go_loud (rintro e w1 ⟨x, rfl, h1, h2⟩); have H1 := hid h1; clear h1)
  go_ret
  exact ⟨x, ret_int (by have := H1.out; simp only [Int.reducePow] at hv; omega), H1.out, h2⟩

/-- bytes of the call's own; what a reader's turn leaves -/
def TakePost (g D : Nat) (bad : Bool) (l : List Int) (m : Int) (w : World) (v : Value) (w' : World) : Prop :=
  ∃ a n c, v = .slice a n c ∧ w'.ownsRow w.heap.size 5 1 (.slice a n c) n ((gotR bad l m).map (Value.int .u8)) ∧ RdrAt w' g D (!okR bad l m) (leftR bad l m) ∧ w.grownBy w' (some g)

theorem take_any (w : World) (g D : Nat) (bad : Bool) (l : List Int) (m : Int) (h : RdrAt w g D bad l) (hl : l.length ≤ 70368744177664) :
    Calls Try.prog 62 #[.pointer (some ⟨g, 0, none⟩), .int .i64 m] w fun e w' => ∃ v, e = .returned v ∧ TakePost g D bad l m w v w' := by
  obtain ⟨i0, hi, hi0, hi1, hi2⟩ := info_parts Try.info_u8
  have hlt := h.lt
  have hD := h.dle
  have HH := hid h
  clear h
  have hgl : (gotR bad l m).length ≤ l.length := by unfold gotR; split; (rw [List.length_take]; omega); simp
  go_enter Try.func62, Try.ntmps62
  go_wp2_with (first | (go_at_call 100; go_loud (refine (next_any _ g D bad l m HH.out).mono ?_); go_loud (rintro e w1 ⟨v, rfl, a, n, c, rfl, h1, h2, h3⟩); have hn := h1.len; have hs := h3.size) | (at_builtin; go_loud (refine wpList_append_nums rfl _ _ 22 rfl w.heap.size 5 i0 (.int .u8 0) 1 Try.underlying22 hi hi0 hi1 hi2 rfl (.slice none 0 0) 0 [] rfl (World.ownsRow_nil _ _ _ _) a n c D _ rfl h1 (by unfold maxLen; omega) (by omega) hs ?_); go_loud (intro v' w2 h4 h5)))
  go_ret
  have h6 : w1.grownBy w2 none := h5
  have hB : Below w1.heap.size w1 w2 := below_none (Below.refl _ _) h6 (Nat.le_refl _)
  simp only [Nat.zero_add, List.nil_append] at h4
  obtain ⟨a', c', rfl⟩ := own_slice h4
  exact ⟨_, rfl, a', n, c', rfl, h4, h2.below hB (by omega), gb_trans h3 (gb_of_below hB _)⟩

theorem rest_any (w : World) (g D : Nat) (bad : Bool) (l : List Int) (h : RdrAt w g D bad l) (hl : l.length ≤ 70368744177664) :
    Calls Try.prog 63 #[.pointer (some ⟨g, 0, none⟩)] w fun e w' => ∃ v, e = .returned v ∧ TakePost g D bad l l.length w v w' := by
  obtain ⟨⟨a, n, cap, hc, hn⟩, _⟩ := id h
  have HL := hid hn.len
  have HH := hid h
  clear h hn
  have HT := hid (fun w h => take_any w g D bad l n h hl)
  rw [show (l.length : Int) = n by rw [HL.out]]
  go_enter Try.func63, Try.ntmps63
  go_wp2_with (go_at_call 62; go_loud (refine (HT.out _ HH.out).mono ?_); go_loud (rintro e w1 ⟨v, rfl, h1⟩); have H1 := hid h1; clear h1)
  go_ret
  exact ⟨_, rfl, H1.out⟩

theorem get16_any (w : World) {B n cap : Nat} {a : Option Addr} {l : List Int} (h : Nums .u8 w B a n cap l) (hB : B ≤ w.heap.size) (hb : Byt l) :
    Calls Try.prog 70 #[.slice a n cap] w fun e w' => e = .returned (.int .u16 (valN false l 2)) ∧ Below w.heap.size w w' := by
  have HR := hid (RdrAt.made (e := 173) (h.mono hB))
  clear h
  go_enter Try.func70, Try.ntmps70
  go_wp2_with (first | (go_at_call 58; refine (new_any _ _ _ _).mono ?_; rintro e w1 ⟨rfl, rfl⟩) | (go_at_call 60; go_loud (refine (u16_any _ w.heap.size w.heap.size false l HR.out hb).mono ?_); go_loud (rintro e w1 ⟨x, rfl, h1, h2, h3⟩); have H1 := hid h1; clear h1))
  go_ret
  exact ⟨ret_int H1.out, gb_below ((Below.refl _ _).alloc (Nat.le_refl _) _) h3 (by simp) (Nat.le_refl _)⟩

end Go.Proofs.Ytidenjinagpphab.bec
