/- What the laws of sum share: the example; a word put into bytes of one's own. -/
import Derived.Test.YtidenjinagpphabSumRef
import Derived.Test.YtidenjinagpphabClone8
import Derived.Laws.OwnMore
namespace Go.Proofs.Ytidenjinagpphab.sc
open Go.RowKit
open Go.Proofs.Ytidenjinagpphab.kit Go.Proofs.Ytidenjinagpphab.sm
set_option linter.unusedVariables false
set_option linter.unusedSimpArgs false

theorem of_is {B n cap : Nat} {a : Option Addr} {l : List Int} (w : World) (h : Nums .u8 w B a n cap l) (hO : Oct l) (hB : B ≤ w.heap.size) (x : Int) (hx : ((chk l : Nat) : Int) = x) :
    Calls Try.prog 104 #[.slice a n cap] w fun e w' => e = .returned (.int .u16 x) ∧ Below w.heap.size w w' := by rw [← hx]; exact of_any w h hO hB
theorem alive_1 (w : World) (e : TypeId) : Calls Try.prog 104 #[.slice (some ⟨w.heap.size, 0, none⟩) 4 4] (w.alloc (.cells #[.int .u8 0, .int .u8 1, .int .u8 242, .int .u8 3] e)) fun e w' => e = .returned (.int .u16 3579) ∧ Below w.heap.size w w' :=
  (of_is _ (nums_lit [0, 1, 242, 3] rfl (by decide) rfl) (by intro x hx; simp at hx; omega) (by simp) 3579 (by decide +kernel)).mono fun _ _ ⟨he, hb⟩ =>
    ⟨he, ((Below.refl w.heap.size w).alloc (Nat.le_refl _) _).trans (hb.mono (by simp))⟩
theorem alive_2 {w W : World} (h : Below w.heap.size w W) : Calls Try.prog 104 #[.slice none 0 0] W fun e w' => e = .returned (.int .u16 65535) ∧ Below w.heap.size w w' :=
  (of_is _ (Nums.empty (k := .u8) (B := 0) (Nat.zero_le _) (fun _ => rfl)) oct_nil (Nat.zero_le _) 65535 (by decide +kernel)).mono fun _ _ ⟨he, hb⟩ => ⟨he, h.trans (hb.mono h.size)⟩
theorem own_some {W : World} {base e n cap : Nat} {a : Option Addr} {xs : List Value} (h : W.ownsRow base e 1 (.slice a n cap) n xs) (hn : 0 < n) : ∃ g, a = some ⟨g, 0, none⟩ ∧ base ≤ g := by
  rcases h.2 with ⟨_, h0⟩ | ⟨g, c, _, hv, hg, _⟩
  · omega
  · injection hv with h1 _ _; exact ⟨g, h1, hg⟩
/-- a word is written into bytes of one's own -/
theorem own_word {W : World} {base e g n cap : Nat} {l : List Int} (h : W.ownsRow base e 1 (.slice (some ⟨g, 0, none⟩) n cap) n (l.map (Value.int .u8))) (a : Nat) (x y : Int) :
    ((W.setCell ⟨g, 2 * a, none⟩ (.int .u8 x)).setCell ⟨g, 2 * a + 1, none⟩ (.int .u8 y)).ownsRow base e 1 (.slice (some ⟨g, 0, none⟩) n cap) n ((word2 l a x y).map (Value.int .u8)) := by
  have h1 := ((h.stored (2 * a) (.int .u8 x)).1.stored (2 * a + 1) (.int .u8 y)).1
  unfold word2
  rw [List.map_set, List.map_set]; exact h1
theorem own_at {W : World} {base e g n cap : Nat} {l : List Int} (h : W.ownsRow base e 1 (.slice (some ⟨g, 0, none⟩) n cap) n (l.map (Value.int .u8))) (j : Nat) (hj : j < n) : W.cell? ⟨g, j, none⟩ = some (.int .u8 (l.getD j 0)) := by
  have hl : l.length = n := by simpa using h.1
  rw [h.cellAt j (by omega), List.getElem?_map, List.getElem?_eq_getElem (by omega), List.getD_eq_getElem?_getD, List.getElem?_eq_getElem (by omega)]; rfl
theorem word_below {w W : World} {g i j : Nat} {x y : Value} (h : Below w.heap.size w W) (hg : w.heap.size ≤ g) : Below w.heap.size w ((W.setCell ⟨g, i, none⟩ x).setCell ⟨g, j, none⟩ y) := (h.setCell hg _).setCell hg _
theorem word2_oct {l : List Int} (h : Oct l) (a : Nat) {x y : Int} (hx : 0 ≤ x ∧ x ≤ 255) (hy : 0 ≤ y ∧ y ≤ 255) : Oct (word2 l a x y) := by
  intro z hz
  unfold word2 at hz
  rcases List.mem_or_eq_of_mem_set hz with h1 | h1
  · rcases List.mem_or_eq_of_mem_set h1 with h2 | h2
    · exact h z h2
    · rw [h2]; exact hx
  · rw [h1]; exact hy
end Go.Proofs.Ytidenjinagpphab.sc
