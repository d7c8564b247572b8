/- Rows of options: what one is in memory; the bytes of one. -/
import Derived.Test.YtidenjinagpphaaOptMath
import Derived.Test.YtidenjinagpphaaSlice8
import Derived.Test.YtidenjinagpphaaOct
import Derived.Deep.DeepCutAuto
namespace Go.Proofs.Ytidenjinagpphaa.opc
open Go.RowKit
open Go.Proofs.Ytidenjinagpphaa.kit Go.Proofs.Ytidenjinagpphaa.opm
set_option linter.unusedVariables false
set_option maxRecDepth 20000

/-- A slice of options, its cells and their data in blocks below B, reads as a list. -/
structure Opts (w : World) (B : Nat) (a : Option Addr) (n cap : Nat) (L : List Opt) : Prop where
  len : L.length = n
  le : n ≤ cap
  max : cap ≤ maxLen
  nil : a = none → cap = 0
  cells : ∀ j, j < n → ∃ b off aj nj cj, a = some ⟨b, off, none⟩ ∧ b < B ∧ b < w.heap.size ∧ w.cell? ⟨b, off + j * 2, none⟩ = some (.int .u8 (L.getD j (0, [])).1) ∧ w.cell? ⟨b, off + j * 2 + 1, none⟩ = some (.slice aj nj cj) ∧ Nums .u8 w B aj nj cj (L.getD j (0, [])).2
theorem Opts.below {w w' : World} {B : Nat} {a : Option Addr} {n cap : Nat} {L : List Opt} (h : Opts w B a n cap L) (hb : Below B w w') : Opts w' B a n cap L :=
  ⟨h.len, h.le, h.max, h.nil, fun j hj => by
    obtain ⟨b, off, aj, nj, cj, ha, h1, h2, h3, h4, h5⟩ := h.cells j hj
    exact ⟨b, off, aj, nj, cj, ha, h1, Nat.lt_of_lt_of_le h2 hb.size, (hb.cell (p := ⟨b, off + j * 2, none⟩) h1).trans h3, (hb.cell (p := ⟨b, off + j * 2 + 1, none⟩) h1).trans h4, h5.below hb⟩⟩
theorem Opts.mono {w : World} {B B' : Nat} {a : Option Addr} {n cap : Nat} {L : List Opt} (h : Opts w B a n cap L) (hB : B ≤ B') : Opts w B' a n cap L :=
  ⟨h.len, h.le, h.max, h.nil, fun j hj => by
    obtain ⟨b, off, aj, nj, cj, ha, h1, h2, h3, h4, h5⟩ := h.cells j hj
    exact ⟨b, off, aj, nj, cj, ha, by omega, h2, h3, h4, h5.mono hB⟩⟩
theorem takeO {L : List Opt} {k : Nat} (h : k < L.length) : L.take (k + 1) = L.take k ++ [L.getD k (0, [])] := by
  rw [List.take_succ_eq_append_getElem h, List.getD_eq_getElem?_getD, List.getElem?_eq_getElem h]; rfl
theorem optB_take {L : List Opt} {k : Nat} (h : k < L.length) : optB (L.take (k + 1)) = optB (L.take k) ++ enc1 (L.getD k (0, [])) := by
  rw [takeO h, optB_append, optB_one]
theorem enc_split (t : Int) (d : List Int) : enc1 (t, d) = [t, ((2 + min d.length 253 : Nat) : Int)] ++ d.take (min d.length 253) := by
  unfold enc1
  by_cases h : d.length ≤ 253
  · rw [List.take_of_length_le h, List.take_of_length_le (by omega)]; rfl
  · rw [show min d.length 253 = 253 by omega]; rfl
theorem optB_take_len (L : List Opt) (k : Nat) : (optB (L.take k)).length ≤ 255 * k := by
  have := optB_len (L.take k)
  rw [List.length_take] at this
  have h : min k L.length ≤ k := Nat.min_le_left _ _
  calc (optB (L.take k)).length ≤ 255 * min k L.length := this
    _ ≤ 255 * k := Nat.mul_le_mul_left _ h

set_option maxHeartbeats 2000000 in
theorem build_any {w : World} {B n cap : Nat} {a : Option Addr} {L : List Opt} (h : Opts w B a n cap L) (hB : B ≤ w.heap.size) (hn : n ≤ 100000) :
    Calls Try.prog 36 #[.slice a n cap] w fun e w' => ∃ a' m c', e = .returned (.slice a' m c') ∧ Nums .u8 w' w'.heap.size a' m c' (optB L) ∧ Below w.heap.size w w' := by
  obtain ⟨i0, hi, hi0, hi1, hi2⟩ := info_parts Try.info_u8
  have HL := hid h.len
  have hle := h.le
  have HH := hid h
  clear h
  go_enter Try.func36, Try.ntmps36
  go_wp2_with fail
  go_loopw [3, 5, 6, 9] (fun o x5 x6 i wr => ∃ k m : Nat, k ≤ n ∧ m ≤ 255 * k ∧ i = .int .i64 (k : Nat) ∧ wr.ownsRow w.heap.size 5 1 o m ((optB (L.take k)).map (Value.int .u8)) ∧ Below w.heap.size w wr) (fun _ _ _ i _ => n - (intOf i).toNat)
  case atStart => exact ⟨0, 0, Nat.zero_le _, Nat.zero_le _, rfl, World.ownsRow_nil _ _ _ _, Below.refl _ _⟩
  case round =>
    obtain ⟨k, m, hk, hmk, rfl, hO, hb⟩ := hrel
    have HO := hid hO
    have HBE := hid hb
    have hbs := hb.size
    by_cases hlt : k < n
    · obtain ⟨b, off, aj, nj, cj, ha, h1, h2, h3w, h4w, h5⟩ := HH.out.cells k hlt
      subst ha
      have h3 := ((hb.mono hB).cell (p := ⟨b, off + k * 2, none⟩) h1).trans h3w
      have h4 : wr.cell? ⟨b, off + k * 2 + 1, none⟩ = some (.slice aj nj cj) := ((hb.mono hB).cell (p := ⟨b, off + k * 2 + 1, none⟩) h1).trans h4w
      clear h3w h4w
      have hE := optB_take (L := L) (k := k) (by rw [HL.out]; exact hlt)
      obtain ⟨⟨t, d⟩, ho⟩ : ∃ o, o = L.getD k (0, []) := ⟨_, rfl⟩
      rw [← ho] at h3 h5 hE
      rw [enc_split] at hE
      have hd : d.length = nj := h5.len
      have hcj := h5.le
      have HM := hid hmk
      obtain ⟨M, hM⟩ : ∃ M, M = min d.length 253 := ⟨_, rfl⟩
      rw [← hM] at hE
      have hM1 : M ≤ nj := by omega
      have hM2 : M ≤ 253 := by omega
      have HE := hid hE
      have DTT : Hid (∀ w5 : World, Below w.heap.size w w5 → Nums .u8 w5 B aj M cj (d.take M)) := fun w5 hb5 => (h5.below (hb5.mono hB)).take hM1
      have hw8 : IntKind.u8.wrap (2 + (M : Int)) = 2 + M := by rw [IntKind.wrap_u8']; omega
      have H5 := hid h5
      have HMIN := hid hM
      have h3' : wr.cell? ⟨b, off + k * 2, none⟩ = some (.int .u8 t) := h3
      clear h5 hE hO hb hM h3 ho
      obtain ⟨wr2, hwr2⟩ : ∃ wr2, wr2 = wr.alloc (.cells #[.int .u8 t, .slice aj nj cj] 31) := ⟨_, rfl⟩
      have q0 : wr2.cell? ⟨wr.heap.size, 0, none⟩ = some (.int .u8 t) := by rw [hwr2]; simp [go_sem]
      have q1 : wr2.cell? ⟨wr.heap.size, 1, none⟩ = some (.slice aj nj cj) := by rw [hwr2]; simp [go_sem]
      have B2 : Hid (Below w.heap.size w wr2) := by rw [hwr2]; exact hid (HBE.out.alloc hbs _)
      have O2 : Hid (wr2.ownsRow w.heap.size 5 1 u3 m ((optB (L.take k)).map (Value.int .u8))) := by rw [hwr2]; exact hid (HO.out.alloc _)
      have k2 := B2.out.size
      have HWR := hid hwr2
      have DT : Hid (∀ w5 : World, Below w.heap.size w w5 → Nums .u8 w5 B aj M cj (d.take M)) := DTT.out
      obtain ⟨ao, co, rfl⟩ := own_slice O2.out
      clear hwr2 H5 HBE HO
      by_cases hs : (nj : Int) ≤ 253
      · have hMe := hid (show M = nj by have := HMIN.out; omega)
        rw [hMe.out] at DT HE
        go_upto_region 6 with fail
        rw [← HWR.out]
        go_wp2_with (first | (at_builtin; go_loud (refine wpList_append_nums rfl (.tmp 20) _ 29 rfl w.heap.size 5 i0 (.int .u8 0) 1 Try.underlying29 hi hi0 hi1 hi2 rfl _ m _ rfl (O2.out.alloc _) _ 2 2 _ _ rfl nums_two (by unfold maxLen; omega) (by omega) (by simp; omega) ?_); go_loud (intro v1 w3 g1 r1); have b1 := own_below (O2.out.alloc _) (B2.out.alloc k2 _) r1 (by simp; omega); have k1 := b1.size) | (at_builtin; go_loud (refine wpList_append_nums rfl (.tmp 29) _ 29 rfl w.heap.size 5 i0 (.int .u8 0) 1 Try.underlying29 hi hi0 hi1 hi2 rfl _ (m + 2) _ rfl g1 _ _ _ _ _ rfl (DT.out _ b1) (by unfold maxLen; omega) (by omega) k1 ?_); go_loud (intro v2 w4 g2 r2); have b2 := own_below g1 b1 r2 k1))
        have G2 : Hid (w4.ownsRow w.heap.size 5 1 v2 (m + 2 + nj) ((optB (L.take (k + 1))).map (Value.int .u8))) := by
          rw [HE.out, ← List.append_assoc]; exact hid g2
        have B4 := hid b2
        clear g1 r1 g2 r2 b1 b2 k1
        go_roundw
        case rel => exact ⟨k + 1, m + 2 + nj, by omega, by have := HM.out; omega, by go_num, G2.out, B4.out⟩
        case measure => simp [intOf]; omega
      · have hMe := hid (show M = 253 by have := HMIN.out; omega)
        rw [hMe.out] at DT HE
        go_upto_region 6 with fail
        rw [← HWR.out]
        go_wp2_with (first | (at_builtin; go_loud (refine wpList_append_nums rfl (.tmp 20) _ 29 rfl w.heap.size 5 i0 (.int .u8 0) 1 Try.underlying29 hi hi0 hi1 hi2 rfl _ m _ rfl (O2.out.alloc _) _ 2 2 _ _ rfl nums_two (by unfold maxLen; omega) (by omega) (by simp; omega) ?_); go_loud (intro v1 w3 g1 r1); have b1 := own_below (O2.out.alloc _) (B2.out.alloc k2 _) r1 (by simp; omega); have k1 := b1.size) | (at_builtin; go_loud (refine wpList_append_nums rfl (.tmp 29) _ 29 rfl w.heap.size 5 i0 (.int .u8 0) 1 Try.underlying29 hi hi0 hi1 hi2 rfl _ (m + 2) _ rfl g1 _ _ _ _ _ rfl (DT.out _ b1) (by unfold maxLen; omega) (by omega) k1 ?_); go_loud (intro v2 w4 g2 r2); have b2 := own_below g1 b1 r2 k1))
        have G2 : Hid (w4.ownsRow w.heap.size 5 1 v2 (m + 2 + 253) ((optB (L.take (k + 1))).map (Value.int .u8))) := by
          rw [HE.out, ← List.append_assoc]; exact hid g2
        have B4 := hid b2
        clear g1 r1 g2 r2 b1 b2 k1
        go_roundw
        case rel => exact ⟨k + 1, m + 2 + 253, by omega, by have := HM.out; omega, by go_num, G2.out, B4.out⟩
        case measure => simp [intOf]; omega
    · obtain rfl : k = n := by omega
      go_wp2_with fail
      go_ret
      have ho := HO.out
      rw [List.take_of_length_le (by rw [HL.out]; omega)] at ho
      obtain ⟨a', c', rfl⟩ := own_slice ho
      exact ⟨a', m, c', rfl, own_nums ho, HBE.out⟩
end Go.Proofs.Ytidenjinagpphaa.opc
