/- The contract of fsm's row: the cells of an event laid over the states that stay as they are. -/
import Derived.Test.YtlfcjfmfkmcmiaaFsmOwn
import Derived.Test.YtlfcjfmfkmcmiaaCopy2
import Derived.RangeFuncBox
import Derived.Deep.MidRow
namespace Go.Proofs.Ytlfcjfmfkmcmiaa.fc
open Go.RowKit
open Go.Proofs.Ytlfcjfmfkmcmiaa.kit Go.Proofs.Ytlfcjfmfkmcmiaa.fm
set_option linter.unusedVariables false
set_option maxRecDepth 20000
/-- states that stay as they are, up to the k-th -/
def stay (k : Nat) : List (Int × Int) := (List.range 10).map fun s => (if s < k then (s : Int) else 0, 0)
theorem stay_succ (k : Nat) (h : k < 10) : (flat (stay k)).set (k * 2) (.int .i64 (k : Nat)) = flat (stay (k + 1)) := by
  have : k = 0 ∨ k = 1 ∨ k = 2 ∨ k = 3 ∨ k = 4 ∨ k = 5 ∨ k = 6 ∨ k = 7 ∨ k = 8 ∨ k = 9 := by omega
  rcases this with rfl | rfl | rfl | rfl | rfl | rfl | rfl | rfl | rfl | rfl <;> rfl
theorem stay_len (k : Nat) : (flat (stay k)).length = 20 := by rw [flat_len]; simp [stay]
/-- the row's blocks: its result's, and the one that is filled -/
structure Rw (w wr : World) (l : List Value) : Prop where
  b : Below w.heap.size w wr
  hp : wr.heap[w.heap.size + 1]? = some (.cells l.toArray 63 (0, 0))
  hr : wr.heap[w.heap.size]? = some (.cells (flat (stay 0)).toArray 63 (0, 0))
theorem Rw.set {w wr : World} {l : List Value} (h : Rw w wr l) (j : Nat) (v : Value) : Rw w (wr.setCell ⟨w.heap.size + 1, j, none⟩ v) (l.set j v) :=
  ⟨h.b.setCell (p := ⟨w.heap.size + 1, j, none⟩) (Nat.le_succ _) _, set_whole h.hp j v, by
    rw [Below.heap_setCell wr ⟨w.heap.size + 1, j, none⟩ v w.heap.size (by simp)]; exact h.hr⟩
theorem Rw.next {w wr w' : World} {l : List Value} (h : Rw w wr l) (hb : Below wr.heap.size wr w') : Rw w w' l :=
  ⟨h.b.trans (hb.mono h.b.size), whole_below h.hp hb (Array.getElem?_eq_some_iff.1 h.hp).1, whole_below h.hr hb (Array.getElem?_eq_some_iff.1 h.hr).1⟩
/-- the row's cells: those of l laid over from f on -/
def rowP (f : Nat) (l : List (Int × Int)) : List (Int × Int) := splice (stay 10) f l
theorem flat_append (l m : List (Int × Int)) : flat (l ++ m) = flat l ++ flat m := by simp [flat]
theorem flat_take (l : List (Int × Int)) (k : Nat) : flat (l.take k) = (flat l).take (k * 2) := by
  induction k generalizing l with
  | zero => simp [flat]
  | succ k ih =>
    cases l with
    | nil => simp [flat]
    | cons p l =>
      rw [show (k + 1) * 2 = k * 2 + 2 by omega, List.take_succ_cons]
      show Value.int .i64 p.1 :: Value.int .u16 p.2 :: flat (l.take k) = (Value.int .i64 p.1 :: Value.int .u16 p.2 :: flat l).take (k * 2 + 2)
      rw [ih]; rfl
theorem flat_drop (l : List (Int × Int)) (k : Nat) : flat (l.drop k) = (flat l).drop (k * 2) := by
  induction k generalizing l with
  | zero => simp
  | succ k ih =>
    cases l with
    | nil => simp [flat]
    | cons p l =>
      rw [show (k + 1) * 2 = k * 2 + 2 by omega, List.drop_succ_cons, ih]; rfl
theorem flat_splice (L : List (Int × Int)) (f : Nat) (l : List (Int × Int)) : flat (splice L f l) = splice (flat L) (f * 2) (flat l) := by
  unfold splice
  rw [flat_append, flat_append, flat_take, flat_drop, flat_len, show (f + l.length) * 2 = f * 2 + 2 * l.length by omega]
theorem results_cell1 {fn : Func} {p : Tmp} {ty : TypeId} (h : fn.results = #[.cell p ty]) (tmps : Array Value) (P : Program) (w : World) :
    (results fn tmps).run P w = ((asAddr (tmps.getD p undef)).run P w).andThen fun a w₁ => (loadVar ty a).run P w₁ := by
  simp only [results, h]
  simp [Sem.run_bind, Result.andThen]
theorem below_setCells {B g : Nat} {w0 : World} (vs : List Value) : ∀ (o : Nat) (w : World), Below B w0 w → B ≤ g → Below B w0 (w.setCells g o vs) := by
  induction vs with
  | nil => intro o w h _; exact h
  | cons v vs ih => intro o w h hg; exact ih _ _ (h.setCell (p := ⟨g, o, none⟩) hg _) hg
theorem cut_arr (g f : Nat) (hf : f < 10) (w : World) : (Instr.sliceAt 63 (.pointer (some ⟨g, 0, none⟩)) (some (.int .i64 (f : Nat))) none none).run Try.prog w = .ok (.slice (some ⟨g, f * 2, none⟩) (10 - f) (10 - f)) w := by
  have hal : Try.prog.arrayLen 63 = 10 := by kernel_rfl
  have hel : Try.prog.elem 63 = 62 := by kernel_rfl
  have ht : Try.prog.underlying 63 = some (.array (Try.prog.arrayLen 63) (Try.prog.elem 63)) := by kernel_rfl
  have hz : (Try.prog.info? 62).map (·.size) = some 2 := by kernel_rfl
  rw [run_sliceAt_array_l (ht := ht) (h0 := by omega) (h1 := by rw [hal]; omega), hal, hel]
  cases hq : Try.prog.info? 62 with
  | none => simp [hq] at hz
  | some i =>
    have hi : i.size = 2 := by simpa [hq] using hz
    have hne : ¬ 10 = f := by omega
    simp [sizeOf, typeInfo, hq, hi, slicedAt, hne, Addr.add, Result.andThen]
    exact fun h => h.symm
set_option maxHeartbeats 1000000 in
theorem row_own (x : Int) (f : Nat) (l : List (Int × Int)) (HO : OwnAt x f l) (h0 : 0 < l.length) (hf : f + l.length ≤ 10) (w : World) :
    Calls Try.prog 41 #[.int .i64 x] w fun e w' => e = .returned (.agg (flat (rowP f l)).toArray) ∧ Below w.heap.size w w' := by
  have HV := hid (flat_splice (stay 10) f l)
  have HLen : Hid ((flat (rowP f l)).length = 20) := hid (by rw [flat_len]; unfold rowP; rw [length_splice _ _ _ (by simp [stay]; omega)]; simp [stay])
  obtain ⟨W, hW⟩ : ∃ W, W = (w.alloc (.cells (flat (stay 0)).toArray 63)).alloc (.cells (flat (stay 0)).toArray 63) := ⟨_, rfl⟩
  have R : Hid (Rw w W (flat (stay 0))) := hid (by
    rw [hW]
    refine ⟨((Below.refl _ _).alloc (Nat.le_refl _) _).alloc (by simp) _, ?_, ?_⟩
    · have := World.alloc_heap_new (w.alloc (.cells (flat (stay 0)).toArray 63)) (.cells (flat (stay 0)).toArray 63); rwa [World.size_alloc] at this
    · exact (Below.heap_alloc _ _ _ (by simp)).trans (World.alloc_heap_new w _))
  have HW := hid hW
  have HOH : Hid (∀ w : World, Calls Try.prog 45 #[.int .i64 x] w fun e w' => e = .returned (.tuple #[.int .i64 (f : Nat), .slice (some ⟨w.heap.size, 0, none⟩) l.length l.length]) ∧ w' = w.alloc (.cells (flat l).toArray 62)) := hid HO
  clear hW HO
  go_enter Try.func41, Try.ntmps41
  go_upto_region 2 with fail
  change Code.wp _ _ _ _ ((w.alloc (.cells (flat (stay 0)).toArray 63)).alloc (.cells (flat (stay 0)).toArray 63))
  rw [← HW.out]
  go_wp2_with fail
  go_loopw [4, 7] (fun _ iv wr => ∃ k : Nat, k ≤ 10 ∧ iv = .int .i64 k ∧ Hid (Rw w wr (flat (stay k)))) (fun _ iv _ => 10 - (intOf iv).toNat)
  case atStart => exact ⟨0, Nat.zero_le _, rfl, R⟩
  case round =>
    clear R
    obtain ⟨k, hk, rfl, HR⟩ := hrel
    by_cases hlt : k < 10
    · have hc := cell_of_whole HR.out.hp (k * 2) (.int .i64 0) (by
        have : k = 0 ∨ k = 1 ∨ k = 2 ∨ k = 3 ∨ k = 4 ∨ k = 5 ∨ k = 6 ∨ k = 7 ∨ k = 8 ∨ k = 9 := by omega
        rcases this with rfl | rfl | rfl | rfl | rfl | rfl | rfl | rfl | rfl | rfl <;> rfl)
      have hfz := frozen_of_whole HR.out.hp (k * 2)
      have HE := hid (stay_succ k hlt)
      go_wp2_with fail
      go_roundw
      case rel => exact ⟨k + 1, by omega, by go_num, by rw [← HE.out]; exact hid (HR.out.set _ _)⟩
      case measure => simp [intOf]; omega
    · obtain rfl : k = 10 := by omega
      go_upto_region 10 with (go_at_call 45; ((with_reducible refine (HOH.out _).mono ?_); rintro e w2 ⟨rfl, rfl⟩))
      have R2 := hid (HR.out.next ((Below.refl _ _).alloc (Nat.le_refl _) (.cells (flat l).toArray 62)))
      have SC := hid (fun j v => cell_of_whole (World.alloc_heap_new wr (.cells (flat l).toArray 62)) j v)
      have hfn : ¬ f = 10 := by omega
      have hfn2 : ¬ 10 = f := by omega
      have hfl : f < 10 := by omega
      have HN := hid (show (flat l).length = Nat.min l.length (10 - f) * 2 by rw [flat_len]; have : Nat.min l.length (10 - f) = l.length := Nat.min_eq_left (by omega); rw [this]; omega)
      have HF := hid (show f * 2 + (flat l).length ≤ (flat (stay 10)).length by rw [flat_len, stay_len]; omega)
      have hsl := cut_arr (w.heap.size + 1) f hfl
      clear h0 hf HR HW
      generalize wr.alloc (.cells (flat l).toArray 62) = wx at *
      go_upto_region 11 with (with_reducible refine wpList_copy_to rfl (.tmp 26) (.tmp 27) 69 69 rfl 62 2 Try.underlying69 (by kernel_rfl) (w.heap.size + 1) (f * 2) (10 - f) (10 - f) ⟨wr.heap.size, 0, none⟩ l.length l.length rfl rfl (flat (stay 10)) 63 R2.out.hp (flat l) HN.out (fun j v hv => by rw [Addr.add_lit, Nat.zero_add]; exact SC.out j v hv) HF.out (flat_one l) ?_; intro w5 H5 G5)
      have h5 := H5
      rw [← HV.out] at h5
      have h5 : Hid (w5.heap[w.heap.size + 1]? = some (.cells (flat (rowP f l)).toArray 63 (0, 0))) := h5
      have h6 : Hid (w5.heap[w.heap.size]? = some (.cells (flat (stay 0)).toArray 63 (0, 0))) := hid ((G5.out.block _ (Array.getElem?_eq_some_iff.1 R2.out.hr).1 (by simp)).trans R2.out.hr)
      have B5 := hid (gb_below R2.out.b G5.out R2.out.b.size (Nat.le_succ _))
      have ONE := hid (flat_one (rowP f l))
      obtain ⟨V, hV⟩ : ∃ V, V = flat (rowP f l) := ⟨_, rfl⟩
      rw [← hV] at h5 HLen ONE
      have HVE := hid hV
      have hra := hid (show w5.rangeAt (w.heap.size + 1) 0 V from fun j v hv => by rw [Nat.zero_add]; exact cell_of_whole h5.out j v hv)
      have hth := hid (show w5.there w.heap.size 0 20 from fun j hj => ⟨by rw [Nat.zero_add]; have := cell_of_whole h6.out j _ (List.getElem?_eq_getElem (by rw [stay_len]; exact hj)); rw [this]; rfl, by rw [Nat.zero_add]; exact frozen_of_whole h6.out j⟩)
      have hz2 := hid (show (Try.prog.info? 63).map (·.size) = some V.length by rw [HLen.out]; kernel_rfl)
      have hva : V.toArray.size = V.length := by simp
      have hz3 := hid (show (Try.prog.info? 63).map (·.size) = some V.toArray.size by rw [hva]; exact hz2.out)
      have hth2 := hid (show w5.there w.heap.size 0 V.toArray.size by rw [hva, HLen.out]; exact hth.out)
      have hth3 := hid (show w5.there w.heap.size 0 V.length by rw [HLen.out]; exact hth.out)
      clear H5 G5 SC HN HF hsl R2 hV HV hva hth
      go_wp2_with (first | ((refine wpList_load_mid rfl 63 (.tmp 3) rfl (w.heap.size + 1) 0 rfl V (.array 10 62) hra.out (by kernel_rfl) rfl hz2.out ?_)) | (refine wpList_store_mid rfl 63 (.tmp 2) (.tmp 29) rfl w.heap.size 0 V.toArray rfl rfl hth2.out hz3.out (all_oneCell_toArray ONE.out) ?_))
      have hld := run_loadVar_mid (P := Try.prog) (w5.setCells w.heap.size 0 V) w.heap.size 0 63 V (.array 10 62) (World.rangeAt_setCells_same w5 w.heap.size 0 V hth3.out) (by kernel_rfl) rfl hz2.out
      rw [← HVE.out]
      refine bodyPost_ret (v := .agg V.toArray) ?_ rfl ⟨rfl, ?_⟩
      · refine (results_cell1 rfl _ _ _).trans ?_
        show ((asAddr (.pointer (some ⟨w.heap.size, 0, none⟩))).run Try.prog (w5.setCells w.heap.size 0 V)).andThen _ = _
        simp [asAddr, Result.andThen, hld]
      · exact below_setCells V 0 _ B5.out (Nat.le_refl _)
set_option maxHeartbeats 1000000 in
theorem row_heard (x : Int) (l : List (Int × Int)) (HN0 : OwnNo x) (HO : HeardAt x l) (h0 : 0 < l.length) (hf : 2 + l.length ≤ 10) (w : World) :
    Calls Try.prog 41 #[.int .i64 x] w fun e w' => e = .returned (.agg (flat (rowP 2 l)).toArray) ∧ Below w.heap.size w w' := by
  have HV := hid (flat_splice (stay 10) 2 l)
  have HLen : Hid ((flat (rowP 2 l)).length = 20) := hid (by rw [flat_len]; unfold rowP; rw [length_splice _ _ _ (by simp [stay]; omega)]; simp [stay])
  obtain ⟨W, hW⟩ : ∃ W, W = (w.alloc (.cells (flat (stay 0)).toArray 63)).alloc (.cells (flat (stay 0)).toArray 63) := ⟨_, rfl⟩
  have R : Hid (Rw w W (flat (stay 0))) := hid (by
    rw [hW]
    refine ⟨((Below.refl _ _).alloc (Nat.le_refl _) _).alloc (by simp) _, ?_, ?_⟩
    · have := World.alloc_heap_new (w.alloc (.cells (flat (stay 0)).toArray 63)) (.cells (flat (stay 0)).toArray 63); rwa [World.size_alloc] at this
    · exact (Below.heap_alloc _ _ _ (by simp)).trans (World.alloc_heap_new w _))
  have HW := hid hW
  have HOH : Hid (∀ w : World, Calls Try.prog 46 #[.int .i64 x] w fun e w' => e = .returned (.slice (some ⟨w.heap.size, 0, none⟩) l.length l.length) ∧ w' = w.alloc (.cells (flat l).toArray 62)) := hid HO
  have HNH : Hid (∀ w : World, Calls Try.prog 45 #[.int .i64 x] w fun e w' => e = .returned (.tuple #[.int .i64 0, .slice none 0 0]) ∧ w = w') := hid (fun w => (HN0 w).mono fun e w' ⟨h1, h2⟩ => ⟨h1, h2.symm⟩)
  clear hW HO HN0
  go_enter Try.func41, Try.ntmps41
  go_upto_region 2 with fail
  change Code.wp _ _ _ _ ((w.alloc (.cells (flat (stay 0)).toArray 63)).alloc (.cells (flat (stay 0)).toArray 63))
  rw [← HW.out]
  go_wp2_with fail
  go_loopw [4, 7] (fun _ iv wr => ∃ k : Nat, k ≤ 10 ∧ iv = .int .i64 k ∧ Hid (Rw w wr (flat (stay k)))) (fun _ iv _ => 10 - (intOf iv).toNat)
  case atStart => exact ⟨0, Nat.zero_le _, rfl, R⟩
  case round =>
    clear R
    obtain ⟨k, hk, rfl, HR⟩ := hrel
    by_cases hlt : k < 10
    · have hc := cell_of_whole HR.out.hp (k * 2) (.int .i64 0) (by
        have : k = 0 ∨ k = 1 ∨ k = 2 ∨ k = 3 ∨ k = 4 ∨ k = 5 ∨ k = 6 ∨ k = 7 ∨ k = 8 ∨ k = 9 := by omega
        rcases this with rfl | rfl | rfl | rfl | rfl | rfl | rfl | rfl | rfl | rfl <;> rfl)
      have hfz := frozen_of_whole HR.out.hp (k * 2)
      have HE := hid (stay_succ k hlt)
      go_wp2_with fail
      go_roundw
      case rel => exact ⟨k + 1, by omega, by go_num, by rw [← HE.out]; exact hid (HR.out.set _ _)⟩
      case measure => simp [intOf]; omega
    · obtain rfl : k = 10 := by omega
      go_upto_region 10 with (first | (go_at_call 45; ((with_reducible refine (HNH.out _).mono ?_); rintro e w2 ⟨rfl, rfl⟩)) | (go_at_call 46; ((with_reducible refine (HOH.out _).mono ?_); rintro e w2 ⟨rfl, rfl⟩)))
      have R2 := hid (HR.out.next ((Below.refl _ _).alloc (Nat.le_refl _) (.cells (flat l).toArray 62)))
      have SC := hid (fun j v => cell_of_whole (World.alloc_heap_new wr (.cells (flat l).toArray 62)) j v)
      have HN := hid (show (flat l).length = Nat.min l.length 8 * 2 by rw [flat_len]; have : Nat.min l.length 8 = l.length := Nat.min_eq_left (by omega); rw [this]; omega)
      have HF := hid (show 4 + (flat l).length ≤ (flat (stay 10)).length by rw [flat_len, stay_len]; omega)
      have hsl := cut_arr (w.heap.size + 1) 2 (by decide)
      clear h0 hf HR HW
      generalize wr.alloc (.cells (flat l).toArray 62) = wx at *
      go_upto_region 11 with (with_reducible refine wpList_copy_to rfl (.tmp 26) (.tmp 27) 69 69 rfl 62 2 Try.underlying69 (by kernel_rfl) (w.heap.size + 1) (4) 8 8 ⟨wr.heap.size, 0, none⟩ l.length l.length rfl rfl (flat (stay 10)) 63 R2.out.hp (flat l) HN.out (fun j v hv => by rw [Addr.add_lit, Nat.zero_add]; exact SC.out j v hv) HF.out (flat_one l) ?_; intro w5 H5 G5)
      have h5 := H5
      rw [← HV.out] at h5
      have h5 : Hid (w5.heap[w.heap.size + 1]? = some (.cells (flat (rowP 2 l)).toArray 63 (0, 0))) := h5
      have h6 : Hid (w5.heap[w.heap.size]? = some (.cells (flat (stay 0)).toArray 63 (0, 0))) := hid ((G5.out.block _ (Array.getElem?_eq_some_iff.1 R2.out.hr).1 (by simp)).trans R2.out.hr)
      have B5 := hid (gb_below R2.out.b G5.out R2.out.b.size (Nat.le_succ _))
      have ONE := hid (flat_one (rowP 2 l))
      obtain ⟨V, hV⟩ : ∃ V, V = flat (rowP 2 l) := ⟨_, rfl⟩
      rw [← hV] at h5 HLen ONE
      have HVE := hid hV
      have hra := hid (show w5.rangeAt (w.heap.size + 1) 0 V from fun j v hv => by rw [Nat.zero_add]; exact cell_of_whole h5.out j v hv)
      have hth := hid (show w5.there w.heap.size 0 20 from fun j hj => ⟨by rw [Nat.zero_add]; have := cell_of_whole h6.out j _ (List.getElem?_eq_getElem (by rw [stay_len]; exact hj)); rw [this]; rfl, by rw [Nat.zero_add]; exact frozen_of_whole h6.out j⟩)
      have hz2 := hid (show (Try.prog.info? 63).map (·.size) = some V.length by rw [HLen.out]; kernel_rfl)
      have hva : V.toArray.size = V.length := by simp
      have hz3 := hid (show (Try.prog.info? 63).map (·.size) = some V.toArray.size by rw [hva]; exact hz2.out)
      have hth2 := hid (show w5.there w.heap.size 0 V.toArray.size by rw [hva, HLen.out]; exact hth.out)
      have hth3 := hid (show w5.there w.heap.size 0 V.length by rw [HLen.out]; exact hth.out)
      clear H5 G5 SC HN HF hsl R2 hV HV hva hth
      go_wp2_with (first | ((refine wpList_load_mid rfl 63 (.tmp 3) rfl (w.heap.size + 1) 0 rfl V (.array 10 62) hra.out (by kernel_rfl) rfl hz2.out ?_)) | (refine wpList_store_mid rfl 63 (.tmp 2) (.tmp 29) rfl w.heap.size 0 V.toArray rfl rfl hth2.out hz3.out (all_oneCell_toArray ONE.out) ?_))
      have hld := run_loadVar_mid (P := Try.prog) (w5.setCells w.heap.size 0 V) w.heap.size 0 63 V (.array 10 62) (World.rangeAt_setCells_same w5 w.heap.size 0 V hth3.out) (by kernel_rfl) rfl hz2.out
      rw [← HVE.out]
      refine bodyPost_ret (v := .agg V.toArray) ?_ rfl ⟨rfl, ?_⟩
      · refine (results_cell1 rfl _ _ _).trans ?_
        show ((asAddr (.pointer (some ⟨w.heap.size, 0, none⟩))).run Try.prog (w5.setCells w.heap.size 0 V)).andThen _ = _
        simp [asAddr, Result.andThen, hld]
      · exact below_setCells V 0 _ B5.out (Nat.le_refl _)
set_option maxHeartbeats 1000000 in
theorem row_none (x : Int) (HN0 : OwnNo x) (HO : HeardNo x) (w : World) :
    Calls Try.prog 41 #[.int .i64 x] w fun e w' => e = .returned (.agg (flat (stay 10)).toArray) ∧ Below w.heap.size w w' := by
  have HLen : Hid ((flat (stay 10)).length = 20) := hid (stay_len 10)
  obtain ⟨W, hW⟩ : ∃ W, W = (w.alloc (.cells (flat (stay 0)).toArray 63)).alloc (.cells (flat (stay 0)).toArray 63) := ⟨_, rfl⟩
  have R : Hid (Rw w W (flat (stay 0))) := hid (by
    rw [hW]
    refine ⟨((Below.refl _ _).alloc (Nat.le_refl _) _).alloc (by simp) _, ?_, ?_⟩
    · have := World.alloc_heap_new (w.alloc (.cells (flat (stay 0)).toArray 63)) (.cells (flat (stay 0)).toArray 63); rwa [World.size_alloc] at this
    · exact (Below.heap_alloc _ _ _ (by simp)).trans (World.alloc_heap_new w _))
  have HW := hid hW
  have HOH : Hid (∀ w : World, Calls Try.prog 46 #[.int .i64 x] w fun e w' => e = .returned (.slice none 0 0) ∧ w = w') := hid (fun w => (HO w).mono fun e w' ⟨h1, h2⟩ => ⟨h1, h2.symm⟩)
  have HNH : Hid (∀ w : World, Calls Try.prog 45 #[.int .i64 x] w fun e w' => e = .returned (.tuple #[.int .i64 0, .slice none 0 0]) ∧ w = w') := hid (fun w => (HN0 w).mono fun e w' ⟨h1, h2⟩ => ⟨h1, h2.symm⟩)
  clear hW HO HN0
  go_enter Try.func41, Try.ntmps41
  go_upto_region 2 with fail
  change Code.wp _ _ _ _ ((w.alloc (.cells (flat (stay 0)).toArray 63)).alloc (.cells (flat (stay 0)).toArray 63))
  rw [← HW.out]
  go_wp2_with fail
  go_loopw [4, 7] (fun _ iv wr => ∃ k : Nat, k ≤ 10 ∧ iv = .int .i64 k ∧ Hid (Rw w wr (flat (stay k)))) (fun _ iv _ => 10 - (intOf iv).toNat)
  case atStart => exact ⟨0, Nat.zero_le _, rfl, R⟩
  case round =>
    clear R
    obtain ⟨k, hk, rfl, HR⟩ := hrel
    by_cases hlt : k < 10
    · have hc := cell_of_whole HR.out.hp (k * 2) (.int .i64 0) (by
        have : k = 0 ∨ k = 1 ∨ k = 2 ∨ k = 3 ∨ k = 4 ∨ k = 5 ∨ k = 6 ∨ k = 7 ∨ k = 8 ∨ k = 9 := by omega
        rcases this with rfl | rfl | rfl | rfl | rfl | rfl | rfl | rfl | rfl | rfl <;> rfl)
      have hfz := frozen_of_whole HR.out.hp (k * 2)
      have HE := hid (stay_succ k hlt)
      go_wp2_with fail
      go_roundw
      case rel => exact ⟨k + 1, by omega, by go_num, by rw [← HE.out]; exact hid (HR.out.set _ _)⟩
      case measure => simp [intOf]; omega
    · obtain rfl : k = 10 := by omega
      have hsl := cut_arr (w.heap.size + 1) 2 (by decide) wr
      go_upto_region 11 with (first | (go_at_call 45; ((with_reducible refine (HNH.out _).mono ?_); rintro e w2 ⟨rfl, rfl⟩)) | (go_at_call 46; ((with_reducible refine (HOH.out _).mono ?_); rintro e w2 ⟨rfl, rfl⟩)) | (with_reducible refine wpList_copy_none (size := 2) rfl (.tmp 26) (.tmp 27) 69 69 rfl 62 Try.underlying69 (by kernel_rfl) (some ⟨w.heap.size + 1, 4, none⟩) none 8 8 0 0 rfl rfl (by decide) ?_))
      obtain ⟨w5, e5⟩ : ∃ w5 : World, w5 = wr := ⟨_, rfl⟩
      rw [← e5]
      have h5 : Hid (w5.heap[w.heap.size + 1]? = some (.cells (flat (stay 10)).toArray 63 (0, 0))) := hid (by rw [e5]; exact HR.out.hp)
      have h6 : Hid (w5.heap[w.heap.size]? = some (.cells (flat (stay 0)).toArray 63 (0, 0))) := hid (by rw [e5]; exact HR.out.hr)
      have B5 : Hid (Below w.heap.size w w5) := hid (by rw [e5]; exact HR.out.b)
      clear HR hsl e5
      have ONE := hid (flat_one (stay 10))
      obtain ⟨V, hV⟩ : ∃ V, V = flat (stay 10) := ⟨_, rfl⟩
      rw [← hV] at h5 HLen ONE
      have HVE := hid hV
      have hra := hid (show w5.rangeAt (w.heap.size + 1) 0 V from fun j v hv => by rw [Nat.zero_add]; exact cell_of_whole h5.out j v hv)
      have hth := hid (show w5.there w.heap.size 0 20 from fun j hj => ⟨by rw [Nat.zero_add]; have := cell_of_whole h6.out j _ (List.getElem?_eq_getElem (by rw [stay_len]; exact hj)); rw [this]; rfl, by rw [Nat.zero_add]; exact frozen_of_whole h6.out j⟩)
      have hz2 := hid (show (Try.prog.info? 63).map (·.size) = some V.length by rw [HLen.out]; kernel_rfl)
      have hva : V.toArray.size = V.length := by simp
      have hz3 := hid (show (Try.prog.info? 63).map (·.size) = some V.toArray.size by rw [hva]; exact hz2.out)
      have hth2 := hid (show w5.there w.heap.size 0 V.toArray.size by rw [hva, HLen.out]; exact hth.out)
      have hth3 := hid (show w5.there w.heap.size 0 V.length by rw [HLen.out]; exact hth.out)
      clear hV hva hth
      go_wp2_with (first | ((refine wpList_load_mid rfl 63 (.tmp 3) rfl (w.heap.size + 1) 0 rfl V (.array 10 62) hra.out (by kernel_rfl) rfl hz2.out ?_)) | (refine wpList_store_mid rfl 63 (.tmp 2) (.tmp 29) rfl w.heap.size 0 V.toArray rfl rfl hth2.out hz3.out (all_oneCell_toArray ONE.out) ?_))
      have hld := run_loadVar_mid (P := Try.prog) (w5.setCells w.heap.size 0 V) w.heap.size 0 63 V (.array 10 62) (World.rangeAt_setCells_same w5 w.heap.size 0 V hth3.out) (by kernel_rfl) rfl hz2.out
      rw [← HVE.out]
      refine bodyPost_ret (v := .agg V.toArray) ?_ rfl ⟨rfl, ?_⟩
      · refine (results_cell1 rfl _ _ _).trans ?_
        show ((asAddr (.pointer (some ⟨w.heap.size, 0, none⟩))).run Try.prog (w5.setCells w.heap.size 0 V)).andThen _ = _
        simp [asAddr, Result.andThen, hld]
      · exact below_setCells V 0 _ B5.out (Nat.le_refl _)
end Go.Proofs.Ytlfcjfmfkmcmiaa.fc
