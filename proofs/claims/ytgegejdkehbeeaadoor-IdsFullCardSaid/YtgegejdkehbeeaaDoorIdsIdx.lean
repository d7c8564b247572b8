/- slices.Index and slices.Contains over rows of uint16. -/
import Derived.Test.YtgegejdkehbeeaaDoorKit
import Derived.Test.YtgegejdkehbeeaaDoorNums
import Derived.LoopTactic
import Derived.StillTailTactics
namespace Go.Proofs.YtgegejdkehbeeaaDoor.idx
open Go.RowKit
open Go.Proofs.YtgegejdkehbeeaaDoor.kit
set_option linter.unusedVariables false
set_option linter.unusedSimpArgs false
theorem not_in {l : List Int} {x : Int} {n : Nat} (hl : l.length = n) (h : ∀ j, j < n → l.getD j 0 ≠ x) : x ∉ l := fun hm => by
  obtain ⟨i, hi, he⟩ := List.getElem_of_mem hm
  exact h i (by omega) (by rw [List.getD_eq_getElem?_getD, List.getElem?_eq_getElem hi]; exact he)
/-- what slices.Index answers -/
def Found (l : List Int) (n : Nat) (x : Int) (e : Ending) : Prop :=
  (e = .returned (.int .i64 (-1)) ∧ x ∉ l) ∨ ∃ k : Nat, k < n ∧ e = .returned (.int .i64 k) ∧ l.getD k 0 = x ∧ (∀ j, j < k → l.getD j 0 ≠ x)
theorem index_any {B n cap : Nat} {a : Option Addr} {l : List Int} (w : World) (h : Nums .u16 w B a n cap l) (hn : n ≤ 1000000) (x : Int) :
    Calls Tryd.prog 51 #[.slice a n cap, .int .u16 x] w fun e w' => Found l n x e ∧ w' = w := by
  have hlen := hid h.len
  have HC := hid h.cells
  clear h
  go_enter Tryd.func51, Tryd.ntmps51
  go_wp2
  go_loopw [8] (fun iv wr => ∃ k : Nat, k ≤ n ∧ iv = .int .i64 k ∧ Hid (∀ j, j < k → l.getD j 0 ≠ x) ∧ wr = w) (fun iv _ => n - (intOf iv).toNat)
  case atStart => exact ⟨0, Nat.zero_le _, rfl, hid (fun j hj => by omega), rfl⟩
  case round =>
    obtain ⟨k, hk, rfl, HN, rfl⟩ := hrel
    by_cases hlt : k < n
    · obtain ⟨b, off, ha, _, _, hc⟩ := HC.out (by omega)
      have hcx := hc k hlt
      subst ha
      obtain ⟨y, hy⟩ : ∃ y, l.getD k 0 = y := ⟨_, rfl⟩
      rw [hy] at hcx
      have HY := hid hy
      clear hc hy HC
      by_cases hxy : x = y
      · subst hxy
        go_wp2
        go_ret
        exact ⟨.inr ⟨k, hlt, rfl, HY.out, HN.out⟩, rfl⟩
      · go_wp2
        go_roundw
        case rel => exact ⟨k + 1, by omega, by go_num, hid (fun j hj => by
            by_cases e : j = k
            · subst e; rw [HY.out]; exact fun h => hxy h.symm
            · exact HN.out j (by omega)), by first | rfl | trivial⟩
        case measure => simp [intOf]; omega
    · obtain rfl : k = n := by omega
      go_wp2
      go_ret
      exact ⟨.inl ⟨rfl, not_in hlen.out HN.out⟩, rfl⟩
theorem idx_is (x : Int) : ∀ (l : List Int) (k : Nat), k < l.length → l.getD k 0 = x → (∀ j, j < k → l.getD j 0 ≠ x) → l.idxOf x = k
  | [], k, h, _, _ => by simp at h
  | y :: l, 0, _, hg, _ => by
    have : y = x := by simpa using hg
    subst this; simp
  | y :: l, k + 1, h, hg, hj => by
    have hne : y ≠ x := by simpa using hj 0 (by omega)
    rw [List.idxOf_cons, show (y == x) = false by simpa using hne, cond_false, idx_is x l k (by simpa using h) (by simpa using hg) (fun j hjk => by simpa using hj (j + 1) (by omega))]
theorem index_no {B n cap : Nat} {a : Option Addr} {l : List Int} (w : World) (h : Nums .u16 w B a n cap l) (hn : n ≤ 1000000) (x : Int) (hx : x ∉ l) :
    Calls Tryd.prog 51 #[.slice a n cap, .int .u16 x] w fun e w' => e = .returned (.int .i64 (-1)) ∧ w' = w :=
  (index_any w h hn x).mono fun e w' ⟨hF, hw⟩ => ⟨by
    rcases hF with ⟨he, _⟩ | ⟨k, hk, _, hg, _⟩
    · exact he
    · exact absurd (by rw [← hg, List.getD_eq_getElem?_getD, List.getElem?_eq_getElem (by rw [h.len]; exact hk)]; exact List.getElem_mem _) hx, hw⟩
theorem index_yes {B n cap : Nat} {a : Option Addr} {l : List Int} (w : World) (h : Nums .u16 w B a n cap l) (hn : n ≤ 1000000) (x : Int) (hx : x ∈ l) :
    Calls Tryd.prog 51 #[.slice a n cap, .int .u16 x] w fun e w' => e = .returned (.int .i64 (l.idxOf x : Nat)) ∧ w' = w :=
  (index_any w h hn x).mono fun e w' ⟨hF, hw⟩ => ⟨by
    rcases hF with ⟨_, hno⟩ | ⟨k, hk, he, hg, hj⟩
    · exact absurd hx hno
    · rw [he, idx_is x l k (by rw [h.len]; exact hk) hg hj], hw⟩
theorem contains_any {B n cap : Nat} {a : Option Addr} {l : List Int} (w : World) (h : Nums .u16 w B a n cap l) (hn : n ≤ 1000000) (x : Int) (b : Bool) (hb : b = decide (x ∈ l)) :
    Calls Tryd.prog 35 #[.slice a n cap, .int .u16 x] w fun e w' => e = .returned (.bool b) ∧ w' = w := by
  by_cases hx : x ∈ l
  · rw [decide_eq_true hx] at hb
    subst hb
    have HI := hid (index_yes w h hn x hx)
    obtain ⟨k, hk⟩ : ∃ k, k = l.idxOf x := ⟨_, rfl⟩
    rw [← hk] at HI
    clear h hx hk
    go_enter Tryd.func35, Tryd.ntmps35
    go_wp2_with (go_at_call 51; with_reducible refine HI.out.mono ?_; rintro e w' ⟨rfl, rfl⟩)
    go_ret
    exact ⟨rfl, rfl⟩
  · rw [decide_eq_false hx] at hb
    subst hb
    have HI := hid (index_no w h hn x hx)
    clear h hx
    go_enter Tryd.func35, Tryd.ntmps35
    go_wp2_with (go_at_call 51; with_reducible refine HI.out.mono ?_; rintro e w' ⟨rfl, rfl⟩)
    go_ret
    exact ⟨rfl, rfl⟩
end Go.Proofs.YtgegejdkehbeeaaDoor.idx
