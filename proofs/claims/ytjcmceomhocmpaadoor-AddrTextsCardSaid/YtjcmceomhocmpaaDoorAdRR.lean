/- The document's Read of an address. -/
import Derived.Test.YtjcmceomhocmpaaDoorAdR
namespace Go.Proofs.YtjcmceomhocmpaaDoor.adc
open Go.RowKit
open Go.Lib (decDigits)
open Go.Proofs.YtjcmceomhocmpaaDoor.kit Go.Proofs.YtjcmceomhocmpaaDoor.bec Go.Proofs.YtjcmceomhocmpaaDoor.nmc Go.Proofs.YtjcmceomhocmpaaDoor.nmm Go.Proofs.YtjcmceomhocmpaaDoor.hxt Go.Proofs.YtjcmceomhocmpaaDoor.hxm Go.Proofs.YtjcmceomhocmpaaDoor.spc Go.Proofs.YtjcmceomhocmpaaDoor.spm
set_option linter.unusedVariables false
set_option linter.unusedSimpArgs false
set_option maxRecDepth 20000
theorem rsplit_call (c : UInt8) (s : ByteArray) (hs : s.size ≤ 100000) (ci : Int) (hci : ci = (c.toNat : Int)) (w : World) :
    Calls Tryd.prog 19 #[.string s, .int .u8 ci] w fun e w' => ∃ a cap, e = .returned (.slice a (spU c s.data.toList []).length cap) ∧ Strs w' w'.heap.size a (spU c s.data.toList []).length cap (bas (spU c s.data.toList [])) ∧ Below w.heap.size w w' := by
  subst hci
  refine (split_any s (c.toNat : Int) hs w).mono fun e w' ⟨a, cap, he, ho, hb⟩ => ?_
  have hl : (sp (c.toNat : Int) (nums s) []).length = (spU c s.data.toList []).length := by
    have := congrArg List.length (strs_is c s)
    simpa [strs, bas] using this
  rw [strs_is] at ho
  rw [hl] at he ho
  exact ⟨a, cap, he, own_strs ho, hb⟩
def fv (N : List Nat) : Nat := N.foldl (fun a n => 256 * a + n) 0
theorem fv_snoc (N : List Nat) (n : Nat) : fv (N ++ [n]) = 256 * fv N + n := by simp [fv]
theorem fv_lt (N : List Nat) (h : ∀ n ∈ N, n ≤ 255) (hl : N.length ≤ 3) : fv N < 16777216 := by
  match N, hl with
  | [], _ => decide
  | [a], _ => have := h a (by simp); simp [fv]; omega
  | [a, b], _ => have := h a (by simp); have := h b (by simp); simp [fv]; omega
  | [a, b, c], _ => have := h a (by simp); have := h b (by simp); have := h c (by simp); simp [fv]; omega
set_option maxHeartbeats 2000000 in
theorem rread_any (s : ByteArray) (hs : s.size ≤ 1000) (w : World) (hp : ∀ p ∈ spU 46 s.data.toList [], p.length ≤ 1000) :
    Calls Tryd.prog 6 #[.string s] w (AdrPost (spU 46 s.data.toList []) (.bool true) (.bool false) w) := by
  have KS := hid (rsplit_call 46 s (by omega) 46 rfl w)
  have HP := hid hp
  obtain ⟨P, hP⟩ : ∃ P, P = spU 46 s.data.toList [] := ⟨_, rfl⟩
  rw [← hP] at KS HP ⊢
  clear hP hp
  by_cases h4 : P.length = 4
  · have hne : (((4 : Nat) : Int) != 4) = false := by decide
    rw [h4] at KS
    have H4 := hid h4
    have KR := hid (fun (i : Nat) (hi : i < 4) (M : World) => ref_readnum ⟨(P.getD i []).toArray⟩ (by
      have : (P.getD i []).length ≤ 1000 := HP.out _ (by rw [List.getD_eq_getElem?_getD, List.getElem?_eq_getElem (by omega)]; exact List.getElem_mem _)
      exact this) M)
    clear h4
    go_enter Tryd.func6, Tryd.ntmps6
    go_upto_region 4 with (go_at_call 19; ((with_reducible refine KS.out.mono ?_); rintro e w3 ⟨a, cap, rfl, hS, hb⟩; have HS := hid hS; have BW := hid hb; clear hS hb))
    obtain ⟨b, off, rfl, hlt, _, hc⟩ := HS.out.cells (by omega)
    have hc := hid (show ∀ j, j < 4 → w3.cell? ⟨b, off + j, none⟩ = some (.string ⟨(P.getD j []).toArray⟩) from fun j hj => by
      rw [hc j hj, List.getD_eq_getElem?_getD, bas_at P j (by rw [H4.out]; exact hj)]; rfl)
    have hlt := hid hlt
    go_upto_region 6 with fail
    go_loopw [5, 6] (fun av iv wr => ∃ (i : Nat) (N : List Nat) (z : Nat), i ≤ 4 ∧ iv = .int .i64 (i : Nat) ∧ av = .int .u32 (z : Nat) ∧ Hid (z = fv N) ∧ Hid (Below w3.heap.size w3 wr) ∧ Hid (Got P N i)) (fun _ iv _ => 4 - (intOf iv).toNat)
    case atStart => exact ⟨0, [], 0, by omega, rfl, rfl, hid rfl, hid (Below.refl _ _), hid (Got.nil P)⟩
    case round =>
      obtain ⟨i, N, z, hi, rfl, rfl, HZ, HB, HGT⟩ := hrel
      by_cases hlt4 : i < 4
      · have hiP : i < P.length := by rw [H4.out]; exact hlt4
        have c0 := (HB.out.cell (p := ⟨b, off + i, none⟩) hlt.out).trans (hc.out i hlt4)
        have KI := hid (KR.out i hlt4 wr)
        have HBW := hid (BW.out.trans (HB.out.mono BW.out.size))
        obtain ⟨p, hp⟩ : ∃ p, p = P.getD i [] := ⟨_, rfl⟩
        rw [← hp] at c0 KI
        have HPI := hid hp
        clear hp
        by_cases hn : ∃ n, IsNum p n
        · obtain ⟨n, hn⟩ := hn
          have HNN := hid hn
          clear hn
          by_cases hbig : n ≤ 255
          · have HN2 := hid (HGT.out.next hiP (by rw [← HPI.out]; exact HNN.out) hbig)
            have hz : z < 16777216 := by rw [HZ.out]; exact fv_lt N HGT.out.le (by rw [HGT.out.len]; omega)
            have hgt : ¬ 255 < n := by omega
            clear hiP
            go_wp2_with (go_at_call 14; ((with_reducible refine KI.out.mono ?_); intro y w5 hpost; obtain ⟨rfl, b5⟩ := num_yes hpost HNN.out; have B5 := hid (HB.out.trans (b5.mono HB.out.size)); clear b5 hpost))
            go_roundw
            case rel => exact ⟨i + 1, N ++ [n], 256 * z + n, by omega, by go_num, by go_num, hid (by rw [fv_snoc, HZ.out]), B5, HN2⟩
            case measure => simp [intOf]; omega
          · have HNO := hid (adr_at (P := P) hlt4 (fun q hq => by rw [← HPI.out] at hq; rw [num_same hq HNN.out]; omega))
            have hgt : 255 < n := by omega
            clear hbig hiP
            go_wp2_with (go_at_call 14; ((with_reducible refine KI.out.mono ?_); intro y w5 hpost; obtain ⟨rfl, b5⟩ := num_yes hpost HNN.out; have B5 := hid (HBW.out.trans (b5.mono HBW.out.size)); clear b5 hpost))
            exact bodyPost_ret (v := .tuple #[.int .u32 0, .bool false]) (by simp [results, Tryd.results6, go_sem]) rfl ⟨B5.out, .inr ⟨HNO.out, rfl⟩⟩
        · have HNO := hid (adr_at (P := P) hlt4 (fun q hq => absurd ⟨q, by rw [← HPI.out] at hq; exact hq⟩ hn))
          have HNN := hid hn
          clear hn hiP
          go_wp2_with (go_at_call 14; ((with_reducible refine KI.out.mono ?_); intro y w5 hpost; obtain ⟨rfl, b5⟩ := num_not hpost HNN.out; have B5 := hid (HBW.out.trans (b5.mono HBW.out.size)); clear b5 hpost))
          exact bodyPost_ret (v := .tuple #[.int .u32 0, .bool false]) (by simp [results, Tryd.results6, go_sem]) rfl ⟨B5.out, .inr ⟨HNO.out, rfl⟩⟩
      · obtain rfl : i = 4 := by omega
        obtain ⟨n0, n1, n2, n3, rfl, q0, q1, q2, q3, hA⟩ := HGT.out.all H4.out
        have HA := hid (show Adr P z from by rw [HZ.out]; have e : fv [n0, n1, n2, n3] = ((n0 * 256 + n1) * 256 + n2) * 256 + n3 := by simp [fv]; omega
                                             rw [e]; exact hA)
        have HBW := hid (BW.out.trans (HB.out.mono BW.out.size))
        clear hA q0 q1 q2 q3
        go_wp2_with fail
        exact bodyPost_ret (v := .tuple #[.int .u32 (z : Nat), .bool true]) (by simp [results, Tryd.results6, go_sem]) rfl ⟨HBW.out, .inl ⟨z, HA.out, rfl⟩⟩
  · have HN := hid (adr_len h4)
    have hne : ((P.length : Int) != 4) = true := by simp; omega
    generalize hn : P.length = n at *
    clear hn h4
    go_enter Tryd.func6, Tryd.ntmps6
    go_wp2_with (go_at_call 19; ((with_reducible refine KS.out.mono ?_); rintro e w3 ⟨a, cap, rfl, hS, hb⟩))
    exact bodyPost_ret (v := .tuple #[.int .u32 0, .bool false]) (by simp [results, Tryd.results6, go_sem]) rfl ⟨hb, .inr ⟨HN.out, rfl⟩⟩
end Go.Proofs.YtjcmceomhocmpaaDoor.adc
