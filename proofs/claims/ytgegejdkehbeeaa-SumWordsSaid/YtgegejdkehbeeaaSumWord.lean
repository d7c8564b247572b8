/- A word more. -/
import Derived.Test.YtgegejdkehbeeaaSumLaw
namespace Go.Proofs.Ytgegejdkehbeeaa.sc
open Go.RowKit
open Go.Proofs.Ytgegejdkehbeeaa.kit Go.Proofs.Ytgegejdkehbeeaa.sm
set_option linter.unusedVariables false
set_option linter.unusedSimpArgs false
theorem two_sum (F x : Nat) (h : x ≤ 65535) : fd (F + tot [(x : Int) / 256, (x : Int) % 256] 0 2) = fd (F + x) := by
  congr 2
  show 0 + bit (0 + 0) ((x : Int) / 256) + bit (0 + 1) ((x : Int) % 256) = x
  unfold bit
  rw [if_neg (by omega), if_pos (by omega)]; omega
theorem two_oct (x : Nat) (h : x ≤ 65535) : Oct [(x : Int) / 256, (x : Int) % 256] := by
  intro y hy
  simp only [List.mem_cons, List.not_mem_nil, or_false] at hy
  rcases hy with rfl | rfl <;> omega
theorem word_add (F x : Nat) (hF : F ≤ 65535) (hx : x ≤ 65535) (W : World) (e : TypeId) (v : Value) (hv : v = sv F false) :
    Calls Try.prog 14 #[v, .slice (some ⟨W.heap.size, 0, none⟩) 2 2] (W.alloc (.cells #[.int .u8 ((x : Int) / 256), .int .u8 ((x : Int) % 256)] e))
      fun e w' => e = .returned (.agg #[.int .u32 (fd (F + x) : Nat), .bool false]) ∧ Below W.heap.size W w' :=
  (add_is _ nums_two (two_oct x hx) F 0 _ false false v hv rfl rfl (two_sum F x hx) hF (by simp)).mono fun _ _ ⟨he, hb⟩ =>
    ⟨he, ((Below.refl W.heap.size W).alloc (Nat.le_refl _) _).trans (hb.mono (by simp))⟩
theorem word_any (F x : Nat) (hF : F ≤ 65535) (hx : x ≤ 65535) (w : World) :
    Calls Try.prog 20 #[sv F false, .int .u16 x] w fun e w' => e = .returned (sv (fd (F + x)) false) ∧ Below w.heap.size w w' := by
  unfold sv
  have hsv : Value.agg #[.int .u32 (F : Nat), .bool false] = sv F false := rfl
  obtain ⟨G, hG⟩ : ∃ G, G = fd (F + x) := ⟨_, rfl⟩
  rw [← hG]
  have HW := hid (show _ from fun (W : World) (e : TypeId) => hG ▸ word_add F x hF hx W e _ hsv)
  clear hsv hG
  go_enter Try.func20, Try.ntmps20
  go_upto_region 1 with fail
  have B0 := hid (((Below.refl w.heap.size w).alloc (Nat.le_refl _) (.cells #[.int .u32 (F : Nat), .bool false] 31)).alloc (by simp) (.cells #[.int .u32 0, .bool false] 31))
  have c0 : ((w.alloc (.cells #[.int .u32 (F : Nat), .bool false] 31)).alloc (.cells #[.int .u32 0, .bool false] 31)).cell? ⟨w.heap.size, 0, none⟩ = some (.int .u32 (F : Nat)) := by simp [go_sem]
  have c1 : ((w.alloc (.cells #[.int .u32 (F : Nat), .bool false] 31)).alloc (.cells #[.int .u32 0, .bool false] 31)).cell? ⟨w.heap.size, 1, none⟩ = some (.bool false) := by simp [go_sem]
  have d0 : ((w.alloc (.cells #[.int .u32 (F : Nat), .bool false] 31)).alloc (.cells #[.int .u32 0, .bool false] 31)).cell? ⟨w.heap.size + 1, 0, none⟩ = some (.int .u32 0) := by simp [go_sem]
  have d1 : ((w.alloc (.cells #[.int .u32 (F : Nat), .bool false] 31)).alloc (.cells #[.int .u32 0, .bool false] 31)).cell? ⟨w.heap.size + 1, 1, none⟩ = some (.bool false) := by simp [go_sem]
  have f0 : ∀ i, ((w.alloc (.cells #[.int .u32 (F : Nat), .bool false] 31)).alloc (.cells #[.int .u32 0, .bool false] 31)).frozen? ⟨w.heap.size + 1, i, none⟩ = false := by simp [go_sem]
  have hsz : w.heap.size + 1 < ((w.alloc (.cells #[.int .u32 (F : Nat), .bool false] 31)).alloc (.cells #[.int .u32 0, .bool false] 31)).heap.size := by simp
  generalize (w.alloc (.cells #[.int .u32 (F : Nat), .bool false] 31)).alloc (.cells #[.int .u32 0, .bool false] 31) = W at *
  have D0 := hid d0
  have D1 := hid d1
  have F0 := hid f0
  clear d0 d1 f0
  go_wp2_with (go_at_call 14; (with_reducible refine (HW.out _ _).mono ?_); rintro e wa ⟨rfl, ba⟩; have k0 := (ba.cell (p := ⟨w.heap.size + 1, 0, none⟩) hsz).trans D0.out; have k1 := (ba.cell (p := ⟨w.heap.size + 1, 1, none⟩) hsz).trans D1.out; have k2 : ∀ i, wa.frozen? ⟨w.heap.size + 1, i, none⟩ = false := (fun i => (ba.frozen (p := ⟨w.heap.size + 1, i, none⟩) hsz).trans (F0.out i)))
  have hb := B0.out.trans (ba.mono B0.out.size)
  have hb := ((hb.setCell (p := ⟨w.heap.size + 1, 0, none⟩) (by simp) (.int .u32 (G : Nat))).setCell (p := ⟨w.heap.size + 1, 1, none⟩) (by simp) (.bool false))
  have q0 := cell_other (i := 1) (v := .bool false) (cell_same (v := .int .u32 (G : Nat)) k0) (by decide)
  have q1 := cell_same (v := .bool false) (cell_other (i := 0) (v := .int .u32 (G : Nat)) k1 (by decide))
  refine bodyPost_ret (v := .agg #[.int .u32 (G : Nat), .bool false]) (by simp [results, Try.results20, go_sem, q0, q1]) rfl ⟨rfl, hb⟩
end Go.Proofs.Ytgegejdkehbeeaa.sc
