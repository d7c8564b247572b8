/- hex.Text, for a program that has no more of the package. -/
import Derived.Test.YtnokfpojgmndmaaStrNums
import Derived.Test.YtnokfpojgmndmaaRegion
import Derived.Laws.BitsAll
import Derived.LoopTactic
import Derived.StillTailTactics
import Derived.Laws.Concat
import Derived.Deep.DeepCutAuto
namespace Go.Proofs.Ytnokfpojgmndmaa.hxt
open Go.RowKit
open Go.Proofs.Ytnokfpojgmndmaa.kit Go.Proofs.Ytnokfpojgmndmaa.hxm
set_option linter.unusedVariables false
set_option linter.unusedSimpArgs false

theorem figs_at (n : Int) (h0 : 0 ≤ n) (h1 : n < 16) (h : n.toNat < ByteArray.size ⟨#[48, 49, 50, 51, 52, 53, 54, 55, 56, 57, 97, 98, 99, 100, 101, 102]⟩) :
    (((⟨#[48, 49, 50, 51, 52, 53, 54, 55, 56, 57, 97, 98, 99, 100, 101, 102]⟩ : ByteArray)[n.toNat]'h).toNat : Int) = fig n := by
  have hc : n = 0 ∨ n = 1 ∨ n = 2 ∨ n = 3 ∨ n = 4 ∨ n = 5 ∨ n = 6 ∨ n = 7 ∨ n = 8 ∨ n = 9 ∨ n = 10 ∨ n = 11 ∨ n = 12 ∨ n = 13 ∨ n = 14 ∨ n = 15 := by omega
  rcases hc with rfl | rfl | rfl | rfl | rfl | rfl | rfl | rfl | rfl | rfl | rfl | rfl | rfl | rfl | rfl | rfl <;> rfl
theorem text_any {B n cap : Nat} {a : Option Addr} {l : List Int} (w : World) (h : Nums .u8 w B a n cap l) (hO : Oct l) (hn : n ≤ 1000) (hB : B ≤ w.heap.size) :
    Calls Try.prog 15 #[.slice a n cap] w fun e w' => e = .returned (.string (strOfNums (textI l))) ∧ Below w.heap.size w w' := by
  obtain ⟨i0, hi, hi0, hi1, hi2⟩ := info_parts Try.info_u8
  have hlen := hid h.len
  have HC := hid h.cells
  have HO := hid hO
  clear h hO
  go_enter Try.func15, Try.ntmps15
  go_wp2_with (at_make; go_loud (refine wpList_make_own _ rfl _ _ _ rfl w.heap.size 5 i0 (.int .u8 0) 1 Try.underlying35 hi hi0 hi1 .i64 .i64 _ (2 * n) rfl rfl (by omega) (by rw [hi2]; omega) (by unfold maxLen; omega) (Nat.le_refl _) ?_); go_loud (intro w1 h1 h2))
  have hb1 := below_none (Below.refl w.heap.size w) h2 (Nat.le_refl _)
  go_loopw [3, 12] (fun sv iv wr => ∃ k : Nat, k ≤ n ∧ iv = .int .i64 k ∧ wr.ownsRow w.heap.size 5 1 sv (2 * k) ((textI (l.take k)).map (Value.int .u8)) ∧ Below w.heap.size w wr) (fun _ iv _ => n - (intOf iv).toNat)
  case atStart => exact ⟨0, Nat.zero_le _, rfl, h1, hb1⟩
  case round =>
    clear h1 h2 hb1
    obtain ⟨k, hk, rfl, hown, hb⟩ := hrel
    by_cases hlt : k < n
    · obtain ⟨b, off, ha, hb1, hb2, hc⟩ := HC.out (by omega)
      subst ha
      have hcx : wr.cell? ⟨b, off + k, none⟩ = some (.int .u8 (l.getD k 0)) := (hb.cell (by show b < w.heap.size; omega)).trans (hc k hlt)
      have hx := HO.out.at k
      obtain ⟨x, hx0⟩ : ∃ x : Nat, l.getD k 0 = x := ⟨(l.getD k 0).toNat, by omega⟩
      rw [hx0] at hcx hx
      have HX := hid hx0
      clear hx0 hc HC
      go_wp2_with fail
      have hxa : bits BinOp.and IntKind.u8 (x : Int) 15 = (x : Int) % 16 := u8_and15 _ (by omega) (by omega)
      have hq0 : 0 ≤ (x : Int) / 16 := by omega
      have hq1 : (x : Int) / 16 < 16 := by omega
      have hq2 : 0 ≤ (x : Int) % 16 := by omega
      have hq3 : (x : Int) % 16 < 16 := by omega
      have HOwn := hid hown
      clear hown
      go_region_law (refine step_append_nums rfl (.tmp 16) (.tmp 23) 35 rfl w.heap.size 5 i0 (.int .u8 0) 1 Try.underlying35 hi hi0 hi1 hi2 rfl _ (2 * k) _ rfl (HOwn.out.alloc _).drew _ 2 2 _ _ rfl nums_two.drew (by unfold maxLen; omega) (by omega) (by have := hb.size; simp; omega) ?_; intro v1 w3 g1 g2)
      all_goals
        rw [figs_at _ hq0 hq1, figs_at _ hq2 hq3] at g1
        have hb3 := own_below ((HOwn.out.alloc _).drew) ((hb.alloc hb.size _).drew) g2 (by have := hb.size; simp; omega)
        have e1 : textI (l.take k) ++ [fig ((x : Int) / 16), fig ((x : Int) % 16)] = textI (l.take (k + 1)) := by rw [take_getD (by rw [hlen.out]; omega), textI_snoc, HX.out]; rfl
        have e2 : 2 * k + 2 = 2 * (k + 1) := by omega
        rw [e1, e2] at g1
        have G1 := hid g1
        clear g1 g2 e1 e2 hcx HOwn hxa
        go_wp2_with fail
        go_roundw
        case rel => exact ⟨k + 1, by omega, by go_num, G1.out, hb3⟩
        case measure => simp [intOf]; omega
    · obtain rfl : k = n := by omega
      rw [List.take_of_length_le (by rw [hlen.out]; omega)] at hown
      obtain ⟨a', c', rfl⟩ := own_slice hown
      have hcv := conv_nums (own_nums hown)
      go_wp2
      go_ret
      exact ⟨rfl, hb⟩
end Go.Proofs.Ytnokfpojgmndmaa.hxt
