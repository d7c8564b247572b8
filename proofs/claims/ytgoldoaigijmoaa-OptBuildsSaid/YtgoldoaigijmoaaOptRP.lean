/- opt: the contract of the document's own Parse. -/
import Derived.Test.YtgoldoaigijmoaaOptP
namespace Go.Proofs.Ytgoldoaigijmoaa.opc
open Go.RowKit
open Go.Proofs.Ytgoldoaigijmoaa.kit Go.Proofs.Ytgoldoaigijmoaa.opm
set_option linter.unusedVariables false
set_option maxRecDepth 20000

theorem getD_drop (l : List Int) (t j : Nat) : (l.drop t).getD j 0 = l.getD (t + j) 0 := by
  rw [List.getD_eq_getElem?_getD, List.getElem?_drop, ← List.getD_eq_getElem?_getD]
theorem data_eq (l : List Int) (t x : Nat) (hx : 2 ≤ x) : ((l.drop t).take x).drop 2 = (l.drop (t + 2)).take (x - 2) := by
  rw [List.drop_take, List.drop_drop]

set_option maxHeartbeats 4000000 in
theorem rparse_any {w : World} {B n cap : Nat} {a : Option Addr} {l : List Int} (h : Nums .u8 w B a n cap l) (hB : B ≤ w.heap.size) (ho : ∀ x ∈ l, 0 ≤ x ∧ x ≤ 255) (hn : n ≤ 100000) :
    Calls Try.prog 12 #[.slice a n cap] w (PPost (fin [] l) w) := by
  obtain ⟨i0, hi, hi0, hi1, hi2⟩ := info_parts Try.info_opt
  obtain ⟨j0, hj, hj0, hj1, hj2⟩ := info_parts Try.info_u8
  have HN := hid h
  have hle := h.le
  have HL := hid h.len
  have HO := hid (show Oct l from ho)
  obtain ⟨T, hT⟩ : ∃ T, T = fin [] l := ⟨_, rfl⟩
  rw [← hT]
  have HT := hid hT
  clear h ho hT
  go_enter Try.func12, Try.ntmps12
  go_wp2_with fail
  go_loopw [4, 5, 6, 7, 8] (fun ov av x6 x7 x8 wr => ∃ (t m : Nat) (L : List Opt), av = .int .i64 (t : Nat) ∧ t ≤ n ∧ 2 * m ≤ t ∧ fin L (l.drop t) = T ∧ OwnO wr w.heap.size ov m L ∧ Below w.heap.size w wr) (fun _ av _ _ _ _ => n - (intOf av).toNat)
  case atStart => exact ⟨0, 0, [], rfl, Nat.zero_le _, Nat.zero_le _, HT.out.symm, OwnO.nil _ _, Below.refl _ _⟩
  case round =>
    clear HT
    obtain ⟨t, m, L, rfl, htn, hm, hF, hOw, hb⟩ := hrel
    have HF := hid hF
    have HW := hid hOw
    have HB := hid hb
    have hbs := hb.size
    have HM := hid hm
    have hlen : (l.drop t).length = n - t := by rw [List.length_drop, HL.out]
    have HLEN := hid hlen
    clear hF hOw hb hm hlen
    have hw1 : IntKind.i64.wrap ((t : Int) + 1) = (t : Int) + 1 := IntWalk.i64_in _ (by omega)
    have hw2 : IntKind.i64.wrap ((t : Int) + 2) = (t : Int) + 2 := IntWalk.i64_in _ (by omega)
    by_cases h0 : t = n
    · have hl : l.drop t = [] := List.eq_nil_of_length_eq_zero (by have := HLEN.out; omega)
      have hTe := HF.out
      rw [hl, fin_nil] at hTe
      have HTe := hid hTe
      have h0' : ¬ t < n := by omega
      clear hTe h0 hl
      go_wp2_with fail
      go_ret2
      obtain ⟨a2, c2, rfl, hop⟩ := HW.out.opts
      exact ⟨a2, m, c2, by rw [← HTe.out]; rfl, by rw [← HTe.out]; exact hop, HB.out⟩
    · have h0' : t < n := by omega
      by_cases h1 : t + 1 = n
      · have hTe := HF.out
        rw [fin_one (by have := HLEN.out; omega)] at hTe
        have HTe := hid hTe
        have hq : ((t : Int) + 1 == (n : Int)) = true := by simp; omega
        clear hTe h1 h0
        go_wp2_with fail
        go_ret2
        exact ⟨none, 0, 0, by rw [← HTe.out]; rfl, by rw [← HTe.out]; exact opts_nil wr, HB.out⟩
      · have hq : ((t : Int) + 1 == (n : Int)) = false := by simp; omega
        have hN := (HN.out.below (HB.out.mono hB))
        obtain ⟨b, off, ha, hb1, hb2, hc⟩ := HN.out.cells (by omega)
        subst ha
        have CX := hid (fun (ws : World) (hbw : Below wr.heap.size wr ws) (j : Nat) (hj : j < n) => ((((HB.out.trans (hbw.mono hbs)).mono hB).cell (p := ⟨b, off + j, none⟩) hb1).trans (hc j hj)))
        have x0 : wr.cell? ⟨b, off + t, none⟩ = some (.int .u8 (l.getD t 0)) := CX.out wr (Below.refl _ _) t h0'
        have x1 : wr.cell? ⟨b, off + (t + 1), none⟩ = some (.int .u8 (l.getD (t + 1) 0)) := CX.out wr (Below.refl _ _) (t + 1) (by omega)
        have hx := HO.out.at (t + 1)
        obtain ⟨x, hxe⟩ : ∃ x : Nat, l.getD (t + 1) 0 = (x : Nat) := ⟨(l.getD (t + 1) 0).toNat, by omega⟩
        rw [hxe] at x1 hx
        have HX := hid (show (l.drop t).getD 1 0 = x by rw [getD_drop]; exact hxe)
        have hx255 : x ≤ 255 := by omega
        obtain ⟨ty, hty⟩ : ∃ ty, ty = l.getD t 0 := ⟨_, rfl⟩
        rw [← hty] at x0
        have HTY := hid (show (l.drop t).getD 0 0 = ty by rw [getD_drop, Nat.add_zero]; exact hty.symm)
        have HTL := hid hty
        clear hxe hc hx hN hty
        have hs1 : IntKind.i64.wrap ((n : Int) - (t : Int)) = (n : Int) - t := IntWalk.i64_in _ (by omega)
        by_cases h2 : x < 2
        · have hTe := HF.out
          rw [fin_form (by have := HLEN.out; omega) (by rw [HX.out]; omega)] at hTe
          have HTe := hid hTe
          clear hTe
          go_wp2_with fail
          go_ret2
          exact ⟨none, 0, 0, by rw [← HTe.out]; rfl, by rw [← HTe.out]; exact opts_nil wr, HB.out⟩
        · by_cases h3 : n - t < x
          · have hTe := HF.out
            rw [fin_short (by have := HLEN.out; omega) (by rw [HX.out]; omega) (by rw [HX.out]; have := HLEN.out; omega)] at hTe
            have HTe := hid hTe
            have h3' : (n : Int) - (t : Int) < (x : Int) := by omega
            clear hTe h3
            go_wp2_with fail
            go_ret2
            exact ⟨none, 0, 0, by rw [← HTe.out]; rfl, by rw [← HTe.out]; exact opts_nil wr, HB.out⟩
          · have hTe := HF.out
            rw [fin_step (x := x) (by have := HLEN.out; omega) HX.out (by omega) (by have := HLEN.out; omega), HTY.out, data_eq _ _ _ (by omega), List.drop_drop] at hTe
            have HTe := hid hTe
            have h3' : ¬ (n : Int) - (t : Int) < (x : Int) := by omega
            have hs2 : IntKind.i64.wrap ((t : Int) + (x : Int)) = (t : Int) + x := IntWalk.i64_in _ (by omega)
            have hxn : t + x ≤ n := by omega
            clear hTe h3 h1 h0
            obtain ⟨q, hq'⟩ : ∃ q, q = l.drop (t + 2) := ⟨_, rfl⟩
            have hql : q.length = n - (t + 2) := by rw [hq', List.length_drop, HL.out]
            have HQL := hid hql
            have HQ := hid hq'
            rw [← hq'] at HTe
            have HX0 := hid x0
            clear hq' hql x0
            go_wp2_with fail
            generalize wr = wo at *
            go_loopw [7, 8] (fun dv iv ws => ∃ j s : Nat, j ≤ x - 2 ∧ s = t + 2 + j ∧ iv = .int .i64 (s : Nat) ∧ ws.ownsRow wo.heap.size 5 1 dv j ((q.take j).map (Value.int .u8)) ∧ Below wo.heap.size wo ws) (fun _ iv _ => n - (intOf iv).toNat)
            case atStart => exact ⟨0, t + 2, Nat.zero_le _, rfl, by first | rfl | (congr 1), World.ownsRow_nil _ _ _ _, Below.refl _ _⟩
            case round =>
              obtain ⟨j, s, hj', hs, rfl, hD, hbw⟩ := hrel
              have HD := hid hD
              have HBW := hid hbw
              have hbws := hbw.size
              have HSE := hid hs
              have hww : IntKind.i64.wrap ((s : Int) + 1) = (s : Int) + 1 := IntWalk.i64_in _ (by omega)
              by_cases hlt : j < x - 2
              · have hsl : (s : Int) < (t : Int) + (x : Int) := by omega
                have hsn : s < n := by omega
                have xs : wr.cell? ⟨b, off + s, none⟩ = some (.int .u8 (l.getD s 0)) := CX.out _ hbw s hsn
                have hqs : l.getD s 0 = q.getD j 0 := by rw [HQ.out, getD_drop, hs]
                obtain ⟨z, hz⟩ : ∃ z, z = q.getD j 0 := ⟨_, rfl⟩
                rw [hqs, ← hz] at xs
                have HZ := hid hz
                clear hz hqs hD hbw hs
                go_wp2_with (at_builtin; go_loud (refine wpList_append_nums rfl (.tmp 41) _ 22 rfl wo.heap.size 5 j0 (.int .u8 0) 1 Try.underlying22 hj hj0 hj1 hj2 rfl _ j _ rfl (HD.out.alloc _) _ 1 1 _ _ rfl nums_one (by unfold maxLen; omega) (by omega) (by simp; omega) ?_); go_loud (intro v1 w3 g1 r1))
                have HG := hid g1
                have HB3 := hid (own_below (HD.out.alloc _) (HBW.out.alloc hbws _) r1 (by simp; omega))
                clear g1 r1
                go_roundw
                case rel => exact ⟨j + 1, s + 1, by omega, by have := HSE.out; omega, by go_num, by rw [take_getD (by have := HQL.out; omega), ← HZ.out]; exact HG.out, HB3.out⟩
                case measure => simp [intOf]; omega
              · have hsl : ¬ (s : Int) < (t : Int) + (x : Int) := by omega
                have hje : j = x - 2 := by omega
                have xs : wr.cell? ⟨b, off + t, none⟩ = some (.int .u8 ty) := by rw [HTL.out]; exact CX.out _ hbw t h0'
                obtain ⟨ad, cd, rfl⟩ := own_slice hD
                have HJ := hid hje
                clear hje hD hbw hs
                go_wp2_with (at_builtin; go_loud (refine wpList_append_opt rfl (.tmp 48) (.tmp 55) 23 rfl w.heap.size i0 Try.underlying23 hi hi0 hi1 hi2 _ m L rfl ((HW.out.below HBW.out).below ((Below.refl _ _).alloc (Nat.le_refl _) _)) ⟨wr.heap.size, 0, none⟩ ty ad j cd (q.take j) rfl (by simp [go_sem]) (by simp [go_sem]) ((NumsN.own HD.out HW.out.lt).below ((Below.refl _ _).alloc (Nat.le_refl _) _)) (by have := HM.out; omega) (by simp; omega) ?_); go_loud (intro v3 w3 g1 g2 g3))
                have HG := hid g1
                have HB3 := hid (own_o_below ((HW.out.below HBW.out).below ((Below.refl _ _).alloc (Nat.le_refl _) _)) ((HB.out.trans (HBW.out.mono hbs)).alloc (by omega) _) g2 (by simp; omega))
                clear g1 g2 g3
                go_roundw
                case rel => exact ⟨t + x, m + 1, _, by go_num, hxn, by have := HM.out; omega, by rw [HJ.out] at *; exact HTe.out, HG.out, HB3.out⟩
                case measure => simp [intOf]; omega
end Go.Proofs.Ytgoldoaigijmoaa.opc
