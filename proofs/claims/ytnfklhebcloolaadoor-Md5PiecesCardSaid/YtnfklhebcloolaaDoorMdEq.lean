/- When two arrays of 16 bytes are equal; what the law's own examples give. -/
import Derived.Test.YtnfklhebcloolaaDoorMdOf
import Derived.ChangeKeysEq
import Derived.Lib.SlBytesConst
namespace Go.Proofs.YtnfklhebcloolaaDoor.mdc
open Go.RowKit
open Go.Proofs.YtnfklhebcloolaaDoor.kit Go.Proofs.YtnfklhebcloolaaDoor.mdm
set_option linter.unusedVariables false
set_option linter.unusedSimpArgs false
set_option maxRecDepth 20000
theorem items_eq {P : Program} (d : Nat) (e : TypeId) (he : P.underlying e = some (.int .u8)) (hp : P.plainKey e = true) (l m : List Int) (hlm : l.length = m.length) (r : Nat) : ∀ (k : Nat) (w : World), k + r = l.length →
    (Op.eqItems (d + 1) e 1 (b16 l).toArray (b16 m).toArray (List.range' k r)).run P w = .ok (decide (l.drop k = m.drop k)) w := by
  induction r with
  | zero => intro k w h; rw [List.drop_eq_nil_of_le (by omega), List.drop_eq_nil_of_le (by omega)]; simp [Op.eqItems]
  | succ r ih =>
    intro k w h
    have h1 : k < l.length := by omega
    have h2 : k < m.length := by omega
    have c1 : (b16 l).toArray[k * 1]? = some (.int .u8 l[k]) := by simp [b16, h1]
    have c2 : (b16 m).toArray[k * 1]? = some (.int .u8 m[k]) := by simp [b16, h2]
    simp only [List.range'_succ, Op.eqItems, Sem.run_bind, run_part_plain w hp c1, run_part_plain w hp c2, Result.andThen_ok, run_equalIn_int w d e .u8 .u8 _ _ he]
    have hd : decide (l.drop k = m.drop k) = (decide (l[k] = m[k]) && decide (l.drop (k + 1) = m.drop (k + 1))) := by
      have : (l.drop k = m.drop k) ↔ (l[k] = m[k] ∧ l.drop (k + 1) = m.drop (k + 1)) := by rw [List.drop_eq_getElem_cons h1, List.drop_eq_getElem_cons h2, List.cons.injEq]
      rw [decide_eq_decide.2 this, Bool.decide_and]
    rw [hd]
    by_cases hc : l[k] = m[k]
    · simp [hc, ih (k + 1) w (by omega)]
    · simp [hc]
theorem eq_arr (t : TypeId) (hu : Tryd.prog.underlying t = some (.array 16 5)) (l m : List Int) (hl : l.length = 16) (hm : m.length = 16) (w : World) :
    (Op.equalIn 10000 t (.agg (b16 l).toArray) (.agg (b16 m).toArray)).run Tryd.prog w = .ok (decide (l = m)) w := by
  cases hq : Tryd.prog.info? 5 with
  | none => exact absurd hq (by have : (Tryd.prog.info? 5).isSome = true := by kernel_rfl
                                intro h; rw [h] at this; cases this)
  | some i =>
    have hc : Tryd.prog.cellsOf 5 = 1 := by kernel_rfl
    rw [show (10000 : Nat) = 9998 + 1 + 1 from rfl, run_equalIn_array w _ _ _ hu hq, hc, List.range_eq_range']
    have := items_eq (P := Tryd.prog) 9998 5 Tryd.underlying5 (by kernel_rfl) l m (by omega) 16 0 w (by omega)
    simpa using this
theorem md5_abc : md5 [97, 98, 99] = [144, 1, 80, 152, 60, 210, 79, 176, 214, 150, 63, 125, 40, 225, 127, 114] := by decide +kernel
theorem md5_none : md5 [] = [212, 29, 140, 217, 143, 0, 178, 4, 233, 128, 9, 152, 236, 248, 66, 126] := by decide +kernel
theorem md5_len (l : List Int) : (md5 l).length = 16 := by simp [md5, dig_len]
theorem rws_one {W : World} {B n c : Nat} {a : Option Addr} {l : List Int} (hN : Nums .u8 W B a n c l) (hO : Oct l) (hB : B ≤ W.heap.size) (ty : TypeId) : Rws (W.alloc (.cells #[.slice a n c] ty)) (some ⟨W.heap.size, 0, none⟩) 1 [l] := by
  have hb := (Below.refl W.heap.size W).alloc (Nat.le_refl _) (.cells #[.slice a n c] ty)
  refine ⟨rfl, fun _ => ⟨W.heap.size, 0, rfl, by simp, fun i hi => ?_⟩⟩
  obtain rfl : i = 0 := by omega
  refine ⟨a, n, c, ?_, ((hN.mono hB).below hb).mono hb.size, hO⟩
  exact (Box.made W #[.slice a n c] ty).at_ 0 _ rfl
/-- Of over one row -/
theorem of_one (W : World) (T : Tab W) {B n c : Nat} {a : Option Addr} {l : List Int} (hN : Nums .u8 W B a n c l) (hO : Oct l) (hB : B ≤ W.heap.size) (hn : n ≤ 500000) (ty : TypeId) :
    Calls Tryd.prog 7 #[.slice (some ⟨W.heap.size, 0, none⟩) 1 1] (W.alloc (.cells #[.slice a n c] ty)) fun e w' => e = .returned (.agg (b16 (md5 l)).toArray) ∧ Below W.heap.size W w' := by
  have hb := (Below.refl W.heap.size W).alloc (Nat.le_refl _) (.cells #[.slice a n c] ty)
  refine (of_any _ (T.next hb) _ 1 1 [l] (rws_one hN hO hB ty) (by unfold maxLen; omega) (by simp [hN.len]; exact hn)).mono fun e w' ⟨he, h2⟩ => ⟨by rw [he]; simp, ?_⟩
  exact hb.trans (h2.mono hb.size)
theorem of_none (W : World) (T : Tab W) : Calls Tryd.prog 7 #[.slice none 0 0] W fun e w' => e = .returned (.agg (b16 (md5 [])).toArray) ∧ Below W.heap.size W w' :=
  of_any W T none 0 0 [] ⟨rfl, fun h => absurd h (by omega)⟩ (by unfold maxLen; omega) (by simp)
theorem abc_oct : Oct [97, 98, 99] := fun z hz => by simp at hz; omega
theorem abc_row (w : World) : Nums .u8 (w.alloc (.cells #[.int .u8 97, .int .u8 98, .int .u8 99] 5 (3, 4))) (w.heap.size + 1) (some ⟨w.heap.size, 0, none⟩) 3 3 [97, 98, 99] :=
  ⟨rfl, Nat.le_refl _, by unfold maxLen; omega, fun e => by (cases e), fun _ => ⟨w.heap.size, 0, rfl, by omega, by simp, fun j hj => by
    have : j = 0 ∨ j = 1 ∨ j = 2 := by omega
    have hh : (w.alloc (.cells #[.int .u8 97, .int .u8 98, .int .u8 99] 5 (3, 4))).heap[w.heap.size]? = some (.cells #[.int .u8 97, .int .u8 98, .int .u8 99] 5 (3, 4)) := by unfold World.alloc; exact Array.getElem?_push_size
    rcases this with rfl | rfl | rfl <;> (unfold World.cell?; rw [hh]; rfl)⟩⟩
set_option maxHeartbeats 4000000 in
theorem alive_any (w : World) (T : Tab w) : Calls Tryd.prog 9 #[] w fun e w' => e = .returned (.bool true) ∧ Below w.heap.size w w' := by
  have HT := hid T
  have b1 := hid ((Below.refl w.heap.size w).alloc (Nat.le_refl _) (.cells #[.int .u8 97, .int .u8 98, .int .u8 99] 5 (3, 4)))
  have N1 := hid (show Nums .u8 (w.alloc (.cells #[.int .u8 97, .int .u8 98, .int .u8 99] 5 (3, 4))) (w.heap.size + 1) (some ⟨w.heap.size, 0, none⟩) 3 3 [97, 98, 99] from abc_row w)
  have hs1 : (w.alloc (.cells #[.int .u8 97, .int .u8 98, .int .u8 99] 5 (3, 4))).heap.size = w.heap.size + 1 := World.size_alloc _ _
  have K1 := hid (of_one _ (HT.out.next b1.out) N1.out abc_oct (by omega) (by omega) 22)
  rw [hs1] at K1
  have E1 : ∀ W : World, (Op.equalIn 10000 24 (.agg (b16 (md5 [97, 98, 99])).toArray) (.agg #[.int .u8 144, .int .u8 1, .int .u8 80, .int .u8 152, .int .u8 60, .int .u8 210, .int .u8 79, .int .u8 176, .int .u8 214, .int .u8 150, .int .u8 63, .int .u8 125, .int .u8 40, .int .u8 225, .int .u8 127, .int .u8 114])).run Tryd.prog W = .ok true W := fun W => by
    exact (eq_arr 24 (by kernel_rfl) (md5 [97, 98, 99]) [144, 1, 80, 152, 60, 210, 79, 176, 214, 150, 63, 125, 40, 225, 127, 114] (md5_len _) rfl W).trans (by rw [md5_abc]; rfl)
  have E2 : ∀ W : World, (Op.equalIn 10000 24 (.agg (b16 (md5 [])).toArray) (.agg #[.int .u8 212, .int .u8 29, .int .u8 140, .int .u8 217, .int .u8 143, .int .u8 0, .int .u8 178, .int .u8 4, .int .u8 233, .int .u8 128, .int .u8 9, .int .u8 152, .int .u8 236, .int .u8 248, .int .u8 66, .int .u8 126])).run Tryd.prog W = .ok true W := fun W => by
    exact (eq_arr 24 (by kernel_rfl) (md5 []) [212, 29, 140, 217, 143, 0, 178, 4, 233, 128, 9, 152, 236, 248, 66, 126] (md5_len _) rfl W).trans (by rw [md5_none]; rfl)
  have K2 := hid (fun W T => of_none W T)
  have G := hid (show Tryd.prog.eqGuardType Tryd.prog.depth 24 = false by kernel_rfl)
  obtain ⟨V1, hV1⟩ : ∃ V, V = (b16 (md5 [97, 98, 99])).toArray := ⟨_, rfl⟩
  obtain ⟨V2, hV2⟩ : ∃ V, V = (b16 (md5 [])).toArray := ⟨_, rfl⟩
  rw [← hV1] at K1 E1
  rw [← hV2] at K2 E2
  clear hV1 hV2
  have hg := G.out
  have HC : (convert 22 22 (.slice (some ⟨w.heap.size, 0, none⟩) 3 3)).run Tryd.prog (w.alloc (.cells #[.int .u8 97, .int .u8 98, .int .u8 99] 5)) = .ok (.slice (some ⟨w.heap.size, 0, none⟩) 3 3) (w.alloc (.cells #[.int .u8 97, .int .u8 98, .int .u8 99] 5 (3, 4))) := Lib.run_convert_bytes_const (P := Tryd.prog) w 22 5 #[.int .u8 97, .int .u8 98, .int .u8 99] 3 3 Tryd.underlying22 Tryd.underlying5
  go_enter Tryd.func9, Tryd.ntmps9
  go_wp2_with (first | (go_at_call 7; ((with_reducible refine K1.out.mono ?_); rintro e w3 ⟨rfl, b3⟩; have B3 := hid (b1.out.trans (b3.mono (by omega))); clear b3)) | (go_at_call 7; ((with_reducible refine (K2.out _ (HT.out.next B3.out)).mono ?_); rintro e w4 ⟨rfl, b4⟩; have B4 := hid (B3.out.trans (b4.mono B3.out.size)); clear b4)))

  go_ret
  exact ⟨rfl, B4.out⟩
end Go.Proofs.YtnfklhebcloolaaDoor.mdc
