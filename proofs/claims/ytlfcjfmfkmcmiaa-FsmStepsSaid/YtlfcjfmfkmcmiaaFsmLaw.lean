/- The contracts of fsm's Has and Timed; what the law's own 'said' makes; that the package lives. -/
import Derived.Test.YtlfcjfmfkmcmiaaFsmStep
import Derived.LoopTactic
import Derived.Deep.DeepCutAuto
namespace Go.Proofs.Ytlfcjfmfkmcmiaa.fc
open Go.RowKit
open Go.Proofs.Ytlfcjfmfkmcmiaa.kit Go.Proofs.Ytlfcjfmfkmcmiaa.fm
set_option linter.unusedVariables false
theorem alive_any (w : World) : Calls Try.prog 34 #[] w fun e w' => e = .returned (.bool true) ∧ Below w.heap.size w w' := by
  have h1 : toI 6 8 = 7 := by decide
  have h2 : actI 6 8 = 16 := by decide
  have K := hid (fun w => by have := step_any 6 8 w; rw [h1, h2] at this; exact this)
  clear h1 h2
  go_enter Try.func34, Try.ntmps34
  go_wp2_with (go_at_call 30; ((with_reducible refine (K.out _).mono ?_); rintro e w1 ⟨rfl, b1⟩))
  go_ret
  exact ⟨rfl, b1⟩
theorem has_any (a m : Int) (w : World) (ha : 0 ≤ a ∧ a ≤ 65535) (hm : 0 ≤ m ∧ m ≤ 65535) :
    Calls Try.prog 32 #[.int .u16 a, .int .u16 m] w fun e w' => e = .returned (.bool (hasI a m)) ∧ w = w' := by
  have H := hid (show (bits BinOp.and IntKind.u16 a m != 0) = hasI a m by
    unfold hasI; rw [u16_and a m ha.1 (by omega) hm.1 (by omega), Bool.eq_iff_iff, bne_iff_ne, bne_iff_ne]; omega)
  go_enter Try.func32, Try.ntmps32
  go_wp2
  go_ret
  exact ⟨ret_bool H.out, rfl⟩
theorem has_is (a m : Int) (q : Bool) (h : hasI a m = q) (w : World) (ha : 0 ≤ a ∧ a ≤ 65535) (hm : 0 ≤ m ∧ m ≤ 65535) :
    Calls Try.prog 32 #[.int .u16 a, .int .u16 m] w fun e w' => e = .returned (.bool q) ∧ w = w' := by rw [← h]; exact has_any a m w ha hm
theorem Try.info_ev : (Try.prog.info? 44).map (fun i => (i.zero, i.size, i.bytes)) = some (some (.int .i64 0), 1, 8) := by kernel_rfl
def SaidPost (w : World) (l : List Int) (e : Ending) (w' : World) : Prop := ∃ a n c, e = .returned (.slice a n c) ∧ Nums .i64 w' w'.heap.size a n c l ∧ Below w.heap.size w w'
set_option maxHeartbeats 1000000 in
theorem said_any {B n cap : Nat} {ad : Option Addr} {l : List Int} (w : World) (h : Nums .i64 w B ad n cap l) (hn : n ≤ 1000) (hB : B ≤ w.heap.size) (a : Int) (ha : 0 ≤ a ∧ a ≤ 65535) :
    Calls Try.prog 35 #[.slice ad n cap, .int .u16 a] w (SaidPost w (saidI l a)) := by
  obtain ⟨i0, hi, hi0, hi1, hi2⟩ := info_parts Try.info_ev
  have HN := hid h
  have HS : Hid (saidI l a = l ++ ((if hasI a 64 then [6] else []) ++ (if hasI a 128 then [8] else []))) := rfl
  clear h
  obtain ⟨q1, hq1⟩ : ∃ q, hasI a 64 = q := ⟨_, rfl⟩
  obtain ⟨q2, hq2⟩ : ∃ q, hasI a 128 = q := ⟨_, rfl⟩
  rw [hq1, hq2] at HS
  have K1 := hid (fun w => has_is a 64 q1 hq1 w ha (by decide))
  have K2 := hid (fun w => has_is a 128 q2 hq2 w ha (by decide))
  clear hq1 hq2
  have R0 := hid (World.ownsRow_made w (e := 44) (size := 1) #[] 0 (Nat.le_refl _) (by decide) rfl)
  cases q1 <;> cases q2
  · go_enter Try.func35, Try.ntmps35
    go_upto_region 2 with (at_builtin; (refine wpList_append_nums rfl (.tmp 6) _ 54 rfl w.heap.size 44 i0 (.int .i64 0) 8 Try.underlying54 hi hi0 hi1 hi2 rfl _ 0 [] rfl R0.out ad n cap B l rfl (HN.out.below ((Below.refl _ _).alloc hB _)) (by unfold maxLen; omega) (by omega) (by simp) ?_); (intro v1 w1 h1 h2))
    have b1 := hid (own_below (w0 := w) R0.out ((Below.refl _ _).alloc (Nat.le_refl _) _) h2 (by simp))
    have O1 := hid (show w1.ownsRow w.heap.size 44 1 v1 n (l.map (Value.int .i64)) by simpa using h1)
    clear h1 h2
    go_wp2_with (first | (go_at_call 32; ((with_reducible refine (K1.out _).mono ?_); rintro e wq ⟨rfl, rfl⟩)) | (go_at_call 32; ((with_reducible refine (K2.out _).mono ?_); rintro e wq ⟨rfl, rfl⟩)))
    go_ret
    obtain ⟨a', c', rfl⟩ := own_slice O1.out
    exact ⟨a', _, c', rfl, by rw [HS.out]; simpa using own_nums O1.out, b1.out⟩
  · go_enter Try.func35, Try.ntmps35
    go_upto_region 2 with (at_builtin; (refine wpList_append_nums rfl (.tmp 6) _ 54 rfl w.heap.size 44 i0 (.int .i64 0) 8 Try.underlying54 hi hi0 hi1 hi2 rfl _ 0 [] rfl R0.out ad n cap B l rfl (HN.out.below ((Below.refl _ _).alloc hB _)) (by unfold maxLen; omega) (by omega) (by simp) ?_); (intro v1 w1 h1 h2))
    have b1 := hid (own_below (w0 := w) R0.out ((Below.refl _ _).alloc (Nat.le_refl _) _) h2 (by simp))
    have O1 := hid (show w1.ownsRow w.heap.size 44 1 v1 n (l.map (Value.int .i64)) by simpa using h1)
    clear h1 h2
    go_wp2_with (first | (go_at_call 32; ((with_reducible refine (K1.out _).mono ?_); rintro e wq ⟨rfl, rfl⟩)) | (go_at_call 32; ((with_reducible refine (K2.out _).mono ?_); rintro e wq ⟨rfl, rfl⟩)) | (at_builtin; (refine wpList_append_nums rfl (.tmp 16) _ 54 rfl w.heap.size 44 i0 (.int .i64 0) 8 Try.underlying54 hi hi0 hi1 hi2 rfl _ (n) (l) rfl (O1.out.alloc _) _ 1 1 _ _ rfl nums_one (by unfold maxLen; omega) (by omega) (by have := b1.out.size; simp; omega) ?_); (intro v2 w2 h1 h2; have b2 := hid (own_below (O1.out.alloc _) (b1.out.alloc b1.out.size _) h2 (by have := b1.out.size; simp; omega)); have O2 := hid h1; clear h1 h2)))
    go_ret
    obtain ⟨a', c', rfl⟩ := own_slice O2.out
    exact ⟨a', _, c', rfl, by rw [HS.out]; simpa using own_nums O2.out, b2.out⟩
  · go_enter Try.func35, Try.ntmps35
    go_upto_region 2 with (at_builtin; (refine wpList_append_nums rfl (.tmp 6) _ 54 rfl w.heap.size 44 i0 (.int .i64 0) 8 Try.underlying54 hi hi0 hi1 hi2 rfl _ 0 [] rfl R0.out ad n cap B l rfl (HN.out.below ((Below.refl _ _).alloc hB _)) (by unfold maxLen; omega) (by omega) (by simp) ?_); (intro v1 w1 h1 h2))
    have b1 := hid (own_below (w0 := w) R0.out ((Below.refl _ _).alloc (Nat.le_refl _) _) h2 (by simp))
    have O1 := hid (show w1.ownsRow w.heap.size 44 1 v1 n (l.map (Value.int .i64)) by simpa using h1)
    clear h1 h2
    go_wp2_with (first | (go_at_call 32; ((with_reducible refine (K1.out _).mono ?_); rintro e wq ⟨rfl, rfl⟩)) | (go_at_call 32; ((with_reducible refine (K2.out _).mono ?_); rintro e wq ⟨rfl, rfl⟩)) | (at_builtin; (refine wpList_append_nums rfl (.tmp 11) _ 54 rfl w.heap.size 44 i0 (.int .i64 0) 8 Try.underlying54 hi hi0 hi1 hi2 rfl _ (n) (l) rfl (O1.out.alloc _) _ 1 1 _ _ rfl nums_one (by unfold maxLen; omega) (by omega) (by have := b1.out.size; simp; omega) ?_); (intro v2 w2 h1 h2; have b2 := hid (own_below (O1.out.alloc _) (b1.out.alloc b1.out.size _) h2 (by have := b1.out.size; simp; omega)); have O2 := hid h1; clear h1 h2)))
    go_ret
    obtain ⟨a', c', rfl⟩ := own_slice O2.out
    exact ⟨a', _, c', rfl, by rw [HS.out]; simpa using own_nums O2.out, b2.out⟩
  · go_enter Try.func35, Try.ntmps35
    go_upto_region 2 with (at_builtin; (refine wpList_append_nums rfl (.tmp 6) _ 54 rfl w.heap.size 44 i0 (.int .i64 0) 8 Try.underlying54 hi hi0 hi1 hi2 rfl _ 0 [] rfl R0.out ad n cap B l rfl (HN.out.below ((Below.refl _ _).alloc hB _)) (by unfold maxLen; omega) (by omega) (by simp) ?_); (intro v1 w1 h1 h2))
    have b1 := hid (own_below (w0 := w) R0.out ((Below.refl _ _).alloc (Nat.le_refl _) _) h2 (by simp))
    have O1 := hid (show w1.ownsRow w.heap.size 44 1 v1 n (l.map (Value.int .i64)) by simpa using h1)
    clear h1 h2
    go_wp2_with (first | (go_at_call 32; ((with_reducible refine (K1.out _).mono ?_); rintro e wq ⟨rfl, rfl⟩)) | (go_at_call 32; ((with_reducible refine (K2.out _).mono ?_); rintro e wq ⟨rfl, rfl⟩)) | (at_builtin; (refine wpList_append_nums rfl (.tmp 11) _ 54 rfl w.heap.size 44 i0 (.int .i64 0) 8 Try.underlying54 hi hi0 hi1 hi2 rfl _ (n) (l) rfl (O1.out.alloc _) _ 1 1 _ _ rfl nums_one (by unfold maxLen; omega) (by omega) (by have := b1.out.size; simp; omega) ?_); (intro v2 w2 h1 h2; have b2 := hid (own_below (O1.out.alloc _) (b1.out.alloc b1.out.size _) h2 (by have := b1.out.size; simp; omega)); have O2 := hid h1; clear h1 h2)) | (at_builtin; (refine wpList_append_nums rfl (.tmp 16) _ 54 rfl w.heap.size 44 i0 (.int .i64 0) 8 Try.underlying54 hi hi0 hi1 hi2 rfl _ (n + 1) (l ++ [6]) rfl (O2.out.alloc _) _ 1 1 _ _ rfl nums_one (by unfold maxLen; omega) (by omega) (by have := b2.out.size; simp; omega) ?_); (intro v3 w3 h1 h2; have b3 := hid (own_below (O2.out.alloc _) (b2.out.alloc b2.out.size _) h2 (by have := b2.out.size; simp; omega)); have O3 := hid h1; clear h1 h2)))
    go_ret
    obtain ⟨a', c', rfl⟩ := own_slice O3.out
    exact ⟨a', _, c', rfl, by rw [HS.out]; simpa using own_nums O3.out, b3.out⟩
end Go.Proofs.Ytlfcjfmfkmcmiaa.fc
