/- Slices of bytes: the library's Clone over them. -/
import Derived.Test.YtidenjinagpphabBytes
namespace Go.Proofs.Ytidenjinagpphab.kit
open Go.RowKit

/-- bytes.Clone: bytes of the call's own -/
theorem bclone_any {B n cap : Nat} {a : Option Addr} {l : List Int} (w : World) (h : Nums .u8 w B a n cap l) (hn : n ≤ 70368744177664) (hB : B ≤ w.heap.size) :
    Calls Try.prog 67 #[.slice a n cap] w fun e w' => ∃ a' c', e = .returned (.slice a' n c') ∧ w'.ownsRow w.heap.size 5 1 (.slice a' n c') n (l.map (Value.int .u8)) ∧ Below w.heap.size w w' := by
  obtain ⟨i0, hi, hz0, hz1, hz2⟩ := info_parts Try.info_u8
  have hnil := fun (w : World) (a : Option Addr) (n c : Nat) => Lib.run_eql_slice_nil (P := Try.prog) w 22 5 a n c 0 0 Try.underlying22
  cases a with
  | none =>
    have hc := h.nil rfl
    have hm : n = 0 := by have := h.le; omega
    subst hc hm
    have hl : l = [] := List.eq_nil_of_length_eq_zero h.len
    subst hl
    clear h
    go_enter Try.func67, Try.ntmps67
    go_wp2
    go_ret
    exact ⟨none, 0, rfl, World.ownsRow_nil _ _ _ _, Below.refl _ _⟩
  | some ad =>
    have HN := hid (h.below (Below.refl _ _))
    clear h
    go_enter Try.func67, Try.ntmps67
    go_wp2_with (at_builtin; go_loud (refine wpList_append_nums rfl _ _ 22 rfl w.heap.size 5 i0 (.int .u8 0) 1 Try.underlying22 hi hz0 hz1 hz2 rfl _ 0 [] rfl (World.ownsRow_made w #[] 0 (Nat.le_refl _) (by decide) rfl) (some ad) n cap B l rfl (HN.out.below ((Below.refl _ _).alloc hB _)) (by unfold maxLen; omega) (by omega) (by simp) ?_); go_loud (intro v' w1 h1 h2))
    go_ret
    simp only [Nat.zero_add, List.nil_append] at h1
    have hb := own_below (w0 := w) (World.ownsRow_made w (e := 5) (size := 1) #[] 0 (Nat.le_refl _) (by decide) rfl) ((Below.refl _ _).alloc (Nat.le_refl _) _) h2 (by simp)
    obtain ⟨a', c', rfl⟩ := own_slice h1
    exact ⟨a', c', rfl, h1, hb⟩
end Go.Proofs.Ytidenjinagpphab.kit
