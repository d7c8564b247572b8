/- The contract of the document's own answer: a number as bytes behind others. -/
import Derived.Test.YtlfcjfmfkmcmiabBe
import Derived.Laws.OwnMore
namespace Go.Proofs.Ytlfcjfmfkmcmiab.bec
open Go.RowKit
open Go.Proofs.Ytlfcjfmfkmcmiab.kit
set_option linter.unusedVariables false
set_option maxRecDepth 20000

theorem made_zeros (k : IntKind) (n : Nat) : (madeCells (Value.int k 0).cells (n * 1)).toList = (List.replicate n (0 : Int)).map (Value.int k) := by
  apply List.ext_getElem
  · simp [madeCells]
  · intro j h1 h2
    simp [madeCells, Value.cells, Nat.mod_one]

/-- so many zeros, and behind them a number's last bytes -/
def tailB (z i : Nat) (x : Int) : List Int := List.replicate (z - i) 0 ++ beB i x
theorem tailB_len (z i : Nat) (x : Int) (h : i ≤ z) : (tailB z i x).length = z := by unfold tailB; rw [List.length_append, List.length_replicate, beB_len]; omega
theorem tailB_set (z i : Nat) (x : Int) (h : i < z) : (tailB z i x).set (z - 1 - i) (x / 256 ^ i % 256) = tailB z (i + 1) x := by
  unfold tailB
  have e : z - i = (z - 1 - i) + 1 := by omega
  have e2 : z - (i + 1) = z - 1 - i := by omega
  rw [e, e2, List.replicate_succ', List.append_assoc, List.set_append_right _ _ (by simp)]
  simp [beB]
theorem tailB_map_set (z i : Nat) (x : Int) (h : i < z) : ((tailB z i x).map (Value.int .u8)).set (z - 1 - i) (.int .u8 (x / 256 ^ i % 256)) = (tailB z (i + 1) x).map (Value.int .u8) := by
  rw [← List.map_set, tailB_set z i x h]

theorem ref_put_no {B n cap : Nat} {a : Option Addr} {l : List Int} (w : World) (h : Nums .u8 w B a n cap l) (hn : n ≤ 70368744177664) (hB : B ≤ w.heap.size) (x : Int) (z : Int) (hz : ¬ (1 ≤ z ∧ z ≤ 8)) :
    Calls Try.prog 10 #[.slice a n cap, .int .u64 x, .int .i64 z] w (PutPost n l x 0 w) := by
  obtain ⟨i0, hi, hi0, hi1, hi2⟩ := info_parts Try.info_u8
  have HN := hid (h.below (Below.refl _ _))
  clear h
  by_cases hz1 : z < 1
  all_goals
    go_enter Try.func10, Try.ntmps10
    go_wp2_with (at_builtin; go_loud (refine wpList_append_nums rfl (.tmp 10) _ 34 rfl w.heap.size 5 i0 (.int .u8 0) 1 Try.underlying34 hi hi0 hi1 hi2 rfl _ 0 [] rfl (World.ownsRow_made w #[] 0 (Nat.le_refl _) (by decide) rfl) a n cap B l rfl (HN.out.below ((Below.refl _ _).alloc hB _)) (by unfold maxLen; omega) (by omega) (by simp) ?_); go_loud (intro v' w2 h3 h4))
    go_ret
    have hb2 := own_below (w0 := w) (World.ownsRow_made w (e := 5) (size := 1) #[] 0 (Nat.le_refl _) (by decide) rfl) ((Below.refl _ _).alloc (Nat.le_refl _) _) h4 (by simp)
    simp only [Nat.zero_add, List.nil_append] at h3
    obtain ⟨a', c', rfl⟩ := own_slice h3
    exact ⟨a', c', rfl, by simpa [beB] using h3, hb2⟩

theorem ref_put_in {B n cap : Nat} {a : Option Addr} {l : List Int} (w : World) (h : Nums .u8 w B a n cap l) (hn : n ≤ 70368744177664) (hB : B ≤ w.heap.size) (x : Int) (hx0 : 0 ≤ x) (hx1 : x ≤ 18446744073709551615) (z : Nat) (hz0 : 1 ≤ z) (hz1 : z ≤ 8) :
    Calls Try.prog 10 #[.slice a n cap, .int .u64 x, .int .i64 z] w (PutPost n l x z w) := by
  obtain ⟨i0, hi, hi0, hi1, hi2⟩ := info_parts Try.info_u8
  have HN := hid (h.below (Below.refl _ _))
  clear h
  go_enter Try.func10, Try.ntmps10
  go_wp2_with (first | (at_builtin; go_loud (refine wpList_append_nums rfl (.tmp 10) _ 34 rfl w.heap.size 5 i0 (.int .u8 0) 1 Try.underlying34 hi hi0 hi1 hi2 rfl _ 0 [] rfl (World.ownsRow_made w #[] 0 (Nat.le_refl _) (by decide) rfl) a n cap B l rfl (HN.out.below ((Below.refl _ _).alloc hB _)) (by unfold maxLen; omega) (by omega) (by simp) ?_); go_loud (intro v' w2 h3 h4)) | (at_make; go_loud (refine wpList_make_full _ rfl _ _ _ rfl w2.heap.size 5 i0 (.int .u8 0) 1 Try.underlying34 hi hi0 hi1 .i64 .i64 _ _ z rfl rfl rfl rfl (by rw [hi2]; omega) (by unfold maxLen; omega) (Nat.le_refl _) ?_); go_loud (intro w3 h5 h6)))
  simp only [Nat.zero_add, List.nil_append] at h3
  have hb2 := own_below (w0 := w) (World.ownsRow_made w (e := 5) (size := 1) #[] 0 (Nat.le_refl _) (by decide) rfl) ((Below.refl _ _).alloc (Nat.le_refl _) _) h4 (by simp)
  have hb3 := below_none hb2 h6 hb2.size
  rw [made_zeros] at h5
  have h7 : w3.ownsRow w2.heap.size 5 1 (.slice (some ⟨w2.heap.size, 0, none⟩) z z) z ((tailB z 0 x).map (Value.int .u8)) := by simpa [tailB, beB] using h5
  have h8 := h3.kept h6 (Classical.em _)
  have hne : v'.ownBlock ≠ some w2.heap.size := fun h => by have := (h3.lt _ h).2; omega
  have h9 := hb2.size
  have h10 : w2.heap.size < w3.heap.size := by obtain ⟨b, _, hb, _, h, _⟩ := (own_nums h7).cells (by omega); injection hb with hb; injection hb with hb; omega
  clear h3 h4 h5 h6 hb2 HN
  go_loopw [1, 9] (fun xv iv wr => ∃ i : Nat, i ≤ z ∧ iv = .int .i64 i ∧ xv = .int .u64 (x / 256 ^ i) ∧ wr.ownsRow w2.heap.size 5 1 (.slice (some ⟨w2.heap.size, 0, none⟩) z z) z ((tailB z i x).map (Value.int .u8)) ∧ wr.ownsRow w.heap.size 5 1 v' n (l.map (Value.int .u8)) ∧ Below w.heap.size w wr ∧ w2.heap.size < wr.heap.size) (fun _ i _ => z - (intOf i).toNat)
  case atStart => exact ⟨0, Nat.zero_le _, rfl, by simp, h7, h8, hb3, h10⟩
  case round =>
    clear h7 h8 hb3 h10
    obtain ⟨i, hi', rfl, rfl, hT, hO, hb, hs⟩ := hrel
    have hX0 : 0 ≤ x / 256 ^ i := Int.ediv_nonneg hx0 (Int.pow_nonneg (by decide))
    have hX1 : x / 256 ^ i ≤ 18446744073709551615 := Int.le_trans (Int.ediv_le_self _ hx0) hx1
    have hX2 : x / 256 ^ i / 256 = x / 256 ^ (i + 1) := by rw [Int.pow_succ, Int.ediv_ediv_of_nonneg (Int.pow_nonneg (by decide))]
    have HX := hid hX2
    clear hX2
    by_cases hlt : i < z
    · have hcell : wr.cell? ⟨w2.heap.size, z - 1 - i, none⟩ = some (.int .u8 ((tailB z i x).getD (z - 1 - i) 0)) := by
        rw [hT.cellAt _ (by omega), List.getElem?_map, List.getElem?_eq_getElem (by rw [tailB_len _ _ _ hi']; omega), List.getD_eq_getElem?_getD, List.getElem?_eq_getElem (by rw [tailB_len _ _ _ hi']; omega)]; rfl
      have hfr := hT.frozenAt (z - 1 - i)
      have hS := hT.stored (z - 1 - i) (.int .u8 (x / 256 ^ i % 256))
      rw [tailB_map_set z i x hlt] at hS
      have hS1 := hS.1
      have hS2 := hS.2
      have hO2 := hO.kept hS2 (.inr hne)
      have hb4 := gb_below hb hS2 (by omega) (by omega)
      have HS1 := hid hS1
      have HO2 := hid hO2
      have HB4 := hid hb4
      clear hS hS1 hS2 hO2 hb4 hO hT
      go_wp2
      go_roundw
      case rel => exact ⟨i + 1, by omega, by go_num, by rw [← HX.out], HS1.out, HO2.out, HB4.out, by simpa [World.setCell] using hs⟩
      case measure => simp [intOf]; omega
    · obtain rfl : i = z := by omega
      go_wp2_with (at_builtin; go_loud (refine wpList_append_nums rfl (.tmp 38) _ 34 rfl w.heap.size 5 i0 (.int .u8 0) 1 Try.underlying34 hi hi0 hi1 hi2 rfl _ n l rfl hO _ i i _ _ rfl (own_nums hT) (by unfold maxLen; omega) (by omega) (by omega) ?_); go_loud (intro v1 w4 h11 h12))
      go_ret
      have hb4 := own_below hO hb h12 (by omega)
      obtain ⟨a', c', rfl⟩ := own_slice h11
      exact ⟨a', c', rfl, by simpa [tailB] using h11, hb4⟩
end Go.Proofs.Ytlfcjfmfkmcmiab.bec
