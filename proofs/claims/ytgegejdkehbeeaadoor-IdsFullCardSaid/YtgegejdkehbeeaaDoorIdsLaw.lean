/- The law's own functions over ids. -/
import Derived.Test.YtgegejdkehbeeaaDoorIdsFree
namespace Go.Proofs.YtgegejdkehbeeaaDoor.idc
open Go.RowKit
open Go.Proofs.YtgegejdkehbeeaaDoor.kit Go.Proofs.YtgegejdkehbeeaaDoor.pop
set_option linter.unusedVariables false
set_option linter.unusedSimpArgs false
theorem zeros : Tryd.zeroCells63 = Array.replicate 1024 (.int .u64 0) := by kernel_rfl
theorem new_set (w : World) : SetAt (w.alloc (.cells Tryd.zeroCells63 63)) w.heap.size (fun _ => 0) :=
  ⟨fun _ => by decide, fun i hi => by rw [zeros]; simp [go_sem, hi]⟩
theorem new_free (w : World) (i : Nat) : (w.alloc (.cells Tryd.zeroCells63 63)).frozen? ⟨w.heap.size, i, none⟩ = false := by
  simp [go_sem]
theorem tk_none (n : Nat) : tk (fun _ => 0) n = false := by simp [tk]
theorem tk_took (W : Nat → Nat) (n : Nat) : tk (took W n) = upd (tk W) n true := funext fun m => tk_put_or W n m
theorem tk_gave (W : Nat → Nat) (hW : ∀ i, W i < 18446744073709551616) (n : Nat) : tk (gave W n) = upd (tk W) n false := funext fun m => tk_put_clr W hW n m
theorem upto_none (k : Nat) : upto (fun _ => 0) k = 0 := pc_none fun i _ => tk_none i
theorem upto_took (W : Nat → Nat) (n k : Nat) (hn : n < 64 * k) (h : tk W n = false) : upto (took W n) k = upto W k + 1 := by
  have := pc_upd (tk W) n true (64 * k)
  rw [if_pos hn, if_pos hn, h] at this
  unfold upto; rw [tk_took]
  simpa using this
theorem upto_gave (W : Nat → Nat) (hW : ∀ i, W i < 18446744073709551616) (n k : Nat) (hn : n < 64 * k) (h : tk W n = true) : upto (gave W n) k + 1 = upto W k := by
  have := pc_upd (tk W) n false (64 * k)
  rw [if_pos hn, if_pos hn, h] at this
  unfold upto; rw [tk_gave W hW]
  simpa using this
theorem Turned.free0 {w w' : World} {g : Nat} {W : Nat → Nat} (t : Turned w w' g W) (h : ∀ i, i < 1024 → w.frozen? ⟨g, i, none⟩ = false) : ∀ i, i < 1024 → w'.frozen? ⟨g, i, none⟩ = false := fun i hi => (t.free i).trans (h i hi)
theorem Turned.trans {w w' w2 : World} {g : Nat} {W W2 : Nat → Nat} (t : Turned w w' g W) (t2 : Turned w' w2 g W2) : Turned w w2 g W2 :=
  ⟨t2.set, gb_trans t.only t2.only, fun i => (t2.free i).trans (t.free i)⟩
theorem Turned.tab {w w' : World} {g : Nat} {W : Nat → Nat} (t : Turned w w' g W) (hT : Tab w) (hg : g ≠ 3) : Tab w' := fun j hj => gb_cell t.only (hT j hj) (fun e => hg e.symm)
def W1 : Nat → Nat := took (fun _ => 0) 1
def W2 : Nat → Nat := took W1 2
theorem w1_1 : tk W1 1 = true := by unfold W1; rw [tk_took]; simp [upd]
theorem w1_2 : tk W1 2 = false := by unfold W1; rw [tk_took]; simp [upd, tk_none]
theorem w2_len : 2 = upto W2 1024 := by
  have h1 := upto_took (fun _ => 0) 1 1024 (by omega) (tk_none 1)
  have h2 := upto_took W1 2 1024 (by omega) w1_2
  have h0 := upto_none 1024
  have e1 : upto W1 1024 = upto (took (fun _ => 0) 1) 1024 := rfl
  have e2 : upto W2 1024 = upto (took W1 2) 1024 := rfl
  omega
theorem tab_keep {w w' : World} (hT : Tab w) (hb : Below w.heap.size w w') (hB : 3 < w.heap.size) : Tab w' := fun j hj => (hb.cell (by show 3 < w.heap.size; exact hB)).trans (hT j hj)
theorem alive_1 {w0 : World} {g : Nat} (s0 : SetAt w0 g (fun _ => 0)) (f0 : ∀ i, i < 1024 → w0.frozen? ⟨g, i, none⟩ = false) :
    Calls Tryd.prog 36 #[.pointer (some ⟨g, 0, none⟩), .int .u16 1] w0 fun e w' => e = .returned (.bool true) ∧ Turned w0 w' g W1 :=
  take_yes 1 (by omega) w0 s0 f0 (by omega) (tk_none 1)
theorem alive_2 {w1 : World} {g : Nat} (s0 : SetAt w1 g W1) (f0 : ∀ i, i < 1024 → w1.frozen? ⟨g, i, none⟩ = false) (hT : Tab w1) :
    Calls Tryd.prog 37 #[.pointer (some ⟨g, 0, none⟩), .int .u16 1] w1 fun e w' => e = .returned (.tuple #[.int .u16 2, .bool true]) ∧ Turned w1 w' g W2 :=
  fresh_of 1 2 (by omega) w1 (take_yes 2 (by omega) w1 s0 f0 (by omega) w1_2)
    (free_yes 1 2 (by omega) (by omega) w1 s0 hT w1_2 (fun m h1 h2 => by obtain rfl : m = 1 := by omega
                                                                         exact w1_1))
theorem alive_3 {w2 : World} {g : Nat} (s0 : SetAt w2 g W2) :
    Calls Tryd.prog 29 #[.pointer (some ⟨g, 0, none⟩)] w2 fun e w' => e = .returned (.int .i64 2) ∧ w' = w2 := len_any w2 s0 2 w2_len
theorem alive_4 {w2 : World} {g : Nat} (s0 : SetAt w2 g W2) :
    Calls Tryd.prog 36 #[.pointer (some ⟨g, 0, none⟩), .int .u16 0] w2 fun e w' => e = .returned (.bool false) ∧ w' = w2 := take_no 0 (by omega) w2 s0 (.inl rfl)
set_option maxRecDepth 20000 in
theorem alive_any (w : World) (hT : Tab w) (hB : 3 < w.heap.size) :
    Calls Tryd.prog 34 #[] w fun e w' => e = .returned (.bool true) ∧ Below w.heap.size w w' := by
  have s0 := hid (new_set w)
  have f0 := hid (fun i (_ : i < 1024) => new_free w i)
  have b0 : Below w.heap.size w (w.alloc (.cells Tryd.zeroCells63 63)) := (Below.refl _ _).alloc (Nat.le_refl _) _
  have T0 := hid (tab_keep hT b0 hB)
  have Z0 := hid (show w.heap.size ≤ (w.alloc (.cells Tryd.zeroCells63 63)).heap.size from b0.size)
  have B0 := hid b0
  clear hT b0
  go_enter Tryd.func34, Tryd.ntmps34
  go_upto_region 2 with fail
  generalize hw0 : w.alloc (.cells Tryd.zeroCells63 63) = w0 at *
  clear hw0
  go_wp2_with (first | (go_at_call 36; with_reducible refine (alive_1 s0.out f0.out).mono ?_; rintro e w1 ⟨rfl, t1⟩; have T1 := hid t1; clear t1) | (go_at_call 37; with_reducible refine (alive_2 T1.out.set (T1.out.free0 f0.out) (T1.out.tab T0.out (by omega))).mono ?_; rintro e w2 ⟨rfl, t2⟩; have T2 := hid t2; clear t2) | (go_at_call 29; with_reducible refine (alive_3 T2.out.set).mono ?_; rintro e w3 ⟨rfl, rfl⟩) | (go_at_call 36; with_reducible refine (alive_4 T2.out.set).mono ?_; rintro e w4 ⟨rfl, rfl⟩))
  go_ret
  exact ⟨rfl, gb_below B0.out (T1.out.trans T2.out).only Z0.out (Nat.le_refl _)⟩
end Go.Proofs.YtgegejdkehbeeaaDoor.idc
