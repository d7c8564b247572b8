/- opt: the document's own bytes of options; what is too great. -/
import Derived.Test.YtgoldoaigijmoaaOpts
namespace Go.Proofs.Ytgoldoaigijmoaa.opc
open Go.RowKit
open Go.Proofs.Ytgoldoaigijmoaa.kit Go.Proofs.Ytgoldoaigijmoaa.opm
set_option linter.unusedVariables false
set_option maxRecDepth 20000

set_option maxHeartbeats 2000000 in
theorem rbuild_any {w : World} {B n cap : Nat} {a : Option Addr} {L : List Opt} (h : Opts w B a n cap L) (hB : B ≤ w.heap.size) (hn : n ≤ 100000) :
    Calls Try.prog 18 #[.slice a n cap] w fun e w' => ∃ a' m c', e = .returned (.slice a' m c') ∧ Nums .u8 w' w'.heap.size a' m c' (optB L) ∧ Below w.heap.size w w' := by
  obtain ⟨i0, hi, hi0, hi1, hi2⟩ := info_parts Try.info_u8
  have HL := hid h.len
  have hle := h.le
  have HH := hid h
  clear h
  go_enter Try.func18, Try.ntmps18
  go_wp2_with fail
  go_loopw [3, 4, 5] (fun o i x5 wr => ∃ k m : Nat, k ≤ n ∧ m ≤ 255 * k ∧ i = .int .i64 (k : Nat) ∧ wr.ownsRow w.heap.size 5 1 o m ((optB (L.take k)).map (Value.int .u8)) ∧ Below w.heap.size w wr) (fun _ i _ _ => n - (intOf i).toNat)
  case atStart => exact ⟨0, 0, Nat.zero_le _, Nat.zero_le _, rfl, World.ownsRow_nil _ _ _ _, Below.refl _ _⟩
  case round =>
    obtain ⟨k, m, hk, hmk, rfl, hO, hb⟩ := hrel
    have HO := hid hO
    have HBE := hid hb
    have hbs := hb.size
    by_cases hlt : k < n
    · obtain ⟨b, off, aj, nj, cj, ha, h1, h2, h3w, h4w, h5⟩ := HH.out.cells k hlt
      subst ha
      have h3 := ((hb.mono hB).cell (p := ⟨b, off + k * 2, none⟩) h1).trans h3w
      have h4 : wr.cell? ⟨b, off + k * 2 + 1, none⟩ = some (.slice aj nj cj) := ((hb.mono hB).cell (p := ⟨b, off + k * 2 + 1, none⟩) h1).trans h4w
      clear h3w
      have hE := optB_take (L := L) (k := k) (by rw [HL.out]; exact hlt)
      obtain ⟨⟨t, d⟩, ho⟩ : ∃ o, o = L.getD k (0, []) := ⟨_, rfl⟩
      rw [← ho] at h3 h5 hE
      rw [enc_split] at hE
      have hd : d.length = nj := h5.len
      have hcj := h5.le
      have HM := hid hmk
      obtain ⟨M, hM⟩ : ∃ M, M = min d.length 253 := ⟨_, rfl⟩
      rw [← hM] at hE
      have hM1 : M ≤ nj := by omega
      have hM2 : M ≤ 253 := by omega
      have HE := hid hE
      have DTT : Hid (∀ w5 : World, Below w.heap.size w w5 → Nums .u8 w5 B aj M cj (d.take M)) := fun w5 hb5 => (h5.below (hb5.mono hB)).take hM1
      have hw8 : IntKind.u8.wrap ((M : Int) + 2) = (M : Int) + 2 := by rw [IntKind.wrap_u8']; omega
      have H5 := hid h5
      have HMIN := hid hM
      have h3' : wr.cell? ⟨b, off + k * 2, none⟩ = some (.int .u8 t) := h3
      clear h5 hE hO hb hM h3 ho
      have DT : Hid (∀ w5 : World, Below w.heap.size w w5 → Nums .u8 w5 B aj M cj (d.take M)) := DTT.out
      obtain ⟨ao, co, rfl⟩ := own_slice HO.out
      have hww : IntKind.i64.wrap ((k : Int) + 1) = (k : Int) + 1 := IntWalk.i64_in _ (by omega)
      clear H5 DTT
      by_cases hs : nj ≤ 253
      · have hMe := hid (show M = nj by have := HMIN.out; omega)
        rw [hMe.out] at DT HE hw8
        have hgt : ¬ (253 : Int) < (nj : Int) := by omega
        go_wp2_with (first | (at_builtin; go_loud (refine wpList_append_nums rfl (.tmp 20) _ 22 rfl w.heap.size 5 i0 (.int .u8 0) 1 Try.underlying22 hi hi0 hi1 hi2 rfl _ m _ rfl (HO.out.alloc _) _ 2 2 _ _ rfl nums_two (by unfold maxLen; omega) (by omega) (by simp; omega) ?_); go_loud (intro v1 w3 g1 r1); have b1 := own_below (HO.out.alloc _) (HBE.out.alloc hbs _) r1 (by simp; omega); have k1 := b1.size; have z0 := (b1.mono hB).cell (p := ⟨b, off + k * 2 + 1, none⟩) h1 |>.trans h4w) | (at_builtin; go_loud (refine wpList_append_nums rfl (.tmp 31) _ 22 rfl w.heap.size 5 i0 (.int .u8 0) 1 Try.underlying22 hi hi0 hi1 hi2 rfl _ (m + 2) _ rfl g1 _ _ _ _ _ rfl (DT.out _ b1) (by unfold maxLen; omega) (by omega) k1 ?_); go_loud (intro v2 w4 g2 r2); have b2 := own_below g1 b1 r2 k1))
        have G2 : Hid (w4.ownsRow w.heap.size 5 1 v2 (m + 2 + nj) ((optB (L.take (k + 1))).map (Value.int .u8))) := by
          rw [HE.out, ← List.append_assoc, show ((2 + nj : Nat) : Int) = (nj : Int) + 2 by omega]; exact hid g2
        have B4 := hid b2
        clear g1 r1 g2 r2 b1 b2 k1
        go_roundw
        case rel => exact ⟨k + 1, m + 2 + nj, by omega, by have := HM.out; omega, by go_num, G2.out, B4.out⟩
        case measure => simp [intOf]; omega
      · have hMe := hid (show M = 253 by have := HMIN.out; omega)
        rw [hMe.out] at DT HE hw8
        have hgt : (253 : Int) < (nj : Int) := by omega
        go_wp2_with (first | (at_builtin; go_loud (refine wpList_append_nums rfl (.tmp 20) _ 22 rfl w.heap.size 5 i0 (.int .u8 0) 1 Try.underlying22 hi hi0 hi1 hi2 rfl _ m _ rfl (HO.out.alloc _) _ 2 2 _ _ rfl nums_two (by unfold maxLen; omega) (by omega) (by simp; omega) ?_); go_loud (intro v1 w3 g1 r1); have b1 := own_below (HO.out.alloc _) (HBE.out.alloc hbs _) r1 (by simp; omega); have k1 := b1.size; have z0 := (b1.mono hB).cell (p := ⟨b, off + k * 2 + 1, none⟩) h1 |>.trans h4w) | (at_builtin; go_loud (refine wpList_append_nums rfl (.tmp 31) _ 22 rfl w.heap.size 5 i0 (.int .u8 0) 1 Try.underlying22 hi hi0 hi1 hi2 rfl _ (m + 2) _ rfl g1 _ _ _ _ _ rfl (DT.out _ b1) (by unfold maxLen; omega) (by omega) k1 ?_); go_loud (intro v2 w4 g2 r2); have b2 := own_below g1 b1 r2 k1))
        have G2 : Hid (w4.ownsRow w.heap.size 5 1 v2 (m + 2 + 253) ((optB (L.take (k + 1))).map (Value.int .u8))) := by
          rw [HE.out, ← List.append_assoc, show ((2 + 253 : Nat) : Int) = (253 : Int) + 2 by omega]; exact hid g2
        have B4 := hid b2
        clear g1 r1 g2 r2 b1 b2 k1
        go_roundw
        case rel => exact ⟨k + 1, m + 2 + 253, by omega, by have := HM.out; omega, by go_num, G2.out, B4.out⟩
        case measure => simp [intOf]; omega
    · obtain rfl : k = n := by omega
      go_wp2_with fail
      go_ret
      have ho := HO.out
      rw [List.take_of_length_le (by rw [HL.out]; omega)] at ho
      obtain ⟨a', c', rfl⟩ := own_slice ho
      exact ⟨a', m, c', rfl, own_nums ho, HBE.out⟩

set_option maxHeartbeats 2000000 in
theorem great_any {w : World} {B n cap : Nat} {a : Option Addr} {L : List Opt} (h : Opts w B a n cap L) (hn : n ≤ 9223372036854775807) :
    Calls Try.prog 17 #[.slice a n cap] w fun e w' => ∃ g, e = .returned (.bool g) ∧ (g = false → n ≤ 1000 ∧ (optB L).length ≤ 2000) ∧ w = w' := by
  have HL := hid h.len
  have hle := h.le
  have HH := hid h
  clear h
  go_enter Try.func17, Try.ntmps17
  go_wp2_with fail
  go_loopw [3, 4] (fun nv iv wr => ∃ k N : Nat, k ≤ n ∧ iv = .int .i64 (k : Nat) ∧ nv = .int .i64 (N : Nat) ∧ 2 * k ≤ N ∧ N ≤ 4010 ∧ (optB (L.take k)).length ≤ N ∧ wr = w) (fun _ iv _ => n - (intOf iv).toNat)
  case atStart => exact ⟨0, 0, Nat.zero_le _, rfl, rfl, Nat.le_refl _, Nat.zero_le _, Nat.zero_le _, rfl⟩
  case round =>
    obtain ⟨k, N, hk, rfl, rfl, h2k, hN, hB, rfl⟩ := hrel
    have HB := hid hB
    have H2K := hid h2k
    clear hB h2k
    by_cases hbig : N ≤ 2000
    · by_cases hlt : k < n
      · obtain ⟨b, off, aj, nj, cj, ha, h1, h2, h3, h4, h5⟩ := HH.out.cells k hlt
        subst ha
        have hE := optB_take (L := L) (k := k) (by rw [HL.out]; exact hlt)
        obtain ⟨⟨t, d⟩, ho⟩ : ∃ o, o = L.getD k (0, []) := ⟨_, rfl⟩
        rw [← ho] at h5 hE
        have hd : d.length = nj := h5.len
        have hel : (enc1 (t, d)).length = 2 + min d.length 253 := by rw [enc_split]; simp; omega
        have HE := hid (show (optB (L.take (k + 1))).length = (optB (L.take k)).length + (2 + min nj 253) by rw [hE, List.length_append, hel, hd])
        clear h3 h5 hE ho hd hel
        by_cases hs : (nj : Int) ≤ 2000
        · go_wp2_with fail
          go_roundw
          case rel => exact ⟨k + 1, N + (2 + nj), by omega, by go_num, by go_num, by have := H2K.out; omega, by omega, by rw [HE.out]; have := HB.out; omega, by first | trivial | rfl⟩
          case measure => simp [intOf]; omega
        · go_wp2_with fail
          go_roundw
          case rel => exact ⟨k + 1, N + (2 + 2000), by omega, by go_num, by go_num, by have := H2K.out; omega, by omega, by rw [HE.out]; have := HB.out; omega, by first | trivial | rfl⟩
          case measure => simp [intOf]; omega
      · obtain rfl : k = n := by omega
        go_wp2_with fail
        go_ret
        refine ⟨_, rfl, fun _ => ⟨by have := H2K.out; omega, ?_⟩, rfl⟩
        have := HB.out
        rw [List.take_of_length_le (by rw [HL.out]; omega)] at this
        omega
    · by_cases hlt : k < n
      all_goals
        have hgt : (2000 : Int) < (N : Int) := by omega
        go_wp2_with fail
        go_ret
        exact ⟨true, rfl, (fun h => absurd h (by decide)), rfl⟩
end Go.Proofs.Ytgoldoaigijmoaa.opc
