/- ip4: the contract of Hop. -/
import Derived.Test.YtidenjinagpphabIp4Q
import Derived.Test.YtidenjinagpphabIp4HM
import Derived.Test.YtidenjinagpphabBClone
import Derived.Deep.RegionWith
namespace Go.Proofs.Ytidenjinagpphab.ipc
open Go.RowKit
open Go.Proofs.Ytidenjinagpphab.kit Go.Proofs.Ytidenjinagpphab.bec Go.Proofs.Ytidenjinagpphab.ipm Go.Proofs.Ytidenjinagpphab.sm Go.Proofs.Ytidenjinagpphab.sc
set_option linter.unusedVariables false
set_option maxRecDepth 20000

theorem hop_no {w W : World} {L : List Sl} {a : Option Addr} {n c : Nat} {l : List Int} (h : St w W L) (hm : (a, n, c, l) ∈ L) (hb : Oct l) (hn : n ≤ 100000) (hy : whyL l ≠ 0 ∨ l.getD 8 0 < 2) :
    Calls Try.prog 15 #[.slice a n c] W fun e W' => e = .returned (.tuple #[.slice none 0 0, .bool false]) ∧ St w W' L := by
  have HM := hid (measure_any h hm hb hn)
  have M := hid hm
  by_cases h0 : whyL l = 0
  · have h8 : l.getD 8 0 < 2 := by rcases hy with hy | hy; exact absurd h0 hy; exact hy
    have hl20 : 20 ≤ l.length := by rcases why_cases l with ⟨_, h⟩ | ⟨_, _, h⟩ | ⟨_, _, _, _, _, h⟩ | ⟨_, _, _, _, _, _, h⟩ | ⟨h1, _⟩ <;> omega
    have hn20 : 20 ≤ n := by have := (h.get hm).len; omega
    have hn8 : (8 : Int) < n := by omega
    obtain ⟨x8, hx8⟩ : ∃ x8, x8 = l.getD 8 0 := ⟨_, rfl⟩
    rw [← hx8] at h8
    have X8 := hid hx8
    rw [h0] at HM
    clear h hm hb hy h0 hx8 hl20
    have HM2 : Hid (Calls Try.prog 57 #[.slice a n c] W fun e W' => e = .returned (.tuple #[.int .i64 (hdL l : Nat), .int .i64 (alL l : Nat), .int .i64 0]) ∧ St w W' L) := HM.out.mono fun e W' hh => hh
    go_enter Try.func15, Try.ntmps15
    go_upto_region 2 with (go_at_call 57; ((with_reducible refine HM2.out.mono ?_); rintro e w2 ⟨rfl, s2⟩))
    obtain ⟨b, off, ha, _, _, hc⟩ := (s2.get M.out).cells (by omega)
    subst ha
    have k8 : w2.cell? ⟨b, off + 8, none⟩ = some (.int .u8 x8) := by rw [X8.out]; exact hc 8 (by omega)
    clear hc
    go_wp2_with fail
    go_ret2
    exact ⟨rfl, s2⟩
  · unfold MPostI at HM
    rw [if_neg h0, if_neg h0] at HM
    obtain ⟨y, hye⟩ : ∃ y, y = whyL l := ⟨_, rfl⟩
    rw [← hye] at HM h0
    have hyb : (y != 0) = true := by simpa using h0
    clear h hm hb hy h0 hye
    go_enter Try.func15, Try.ntmps15
    go_wp2_with (go_at_call 57; ((with_reducible refine HM.out.mono ?_); rintro e w2 ⟨rfl, s2⟩))
    go_ret2
    exact ⟨rfl, s2⟩
set_option maxHeartbeats 2000000 in
theorem hop_yes {w W : World} {L : List Sl} {a : Option Addr} {n c : Nat} {l : List Int} (h : St w W L) (hm : (a, n, c, l) ∈ L) (hb : Oct l) (hn : n ≤ 100000) (h0 : whyL l = 0) (h8 : 2 ≤ l.getD 8 0) :
    Calls Try.prog 15 #[.slice a n c] W fun e W' => ∃ a' c', e = .returned (.tuple #[.slice a' n c', .bool true]) ∧ St w W' ((a', n, c', hopL l) :: L) := by
  have HM := hid (measure_any h hm hb hn)
  have M := hid hm
  have hl20 : 20 ≤ l.length := by rcases why_cases l with ⟨_, h⟩ | ⟨_, _, h⟩ | ⟨_, _, _, _, _, h⟩ | ⟨_, _, _, _, _, _, h⟩ | ⟨h1, _⟩ <;> omega
  have hlen := (h.get hm).len
  have hle := (h.get hm).le
  have hn20 : 20 ≤ n := by omega
  have hn8 : (8 : Int) < n := by omega
  have b8 := hb.at 8
  have b9 := hb.at (8 + 1)
  have b10 := hb.at 10
  have b11 := hb.at (10 + 1)
  obtain ⟨x8, hx8⟩ : ∃ x8, x8 = l.getD 8 0 := ⟨_, rfl⟩
  have hk10 : ipm.w2 l 10 = ((ipm.w2 l 10).toNat : Int) := by unfold ipm.w2; omega
  have hk8 : ipm.w2 l 8 = ((ipm.w2 l 8).toNat : Int) := by unfold ipm.w2; omega
  have hs8 : (l.set 8 (l.getD 8 0 - 1)).getD 8 0 = l.getD 8 0 - 1 := by rw [List.getD_eq_getElem?_getD, List.getElem?_set_self (by omega)]; rfl
  have hs9 : (l.set 8 (l.getD 8 0 - 1)).getD (8 + 1) 0 = l.getD (8 + 1) 0 := by rw [List.getD_eq_getElem?_getD, List.getElem?_set_ne (by omega), ← List.getD_eq_getElem?_getD]
  have hk8' : ipm.w2 (l.set 8 (l.getD 8 0 - 1)) 8 = (((ipm.w2 l 8 - 256).toNat : Nat) : Int) := by unfold ipm.w2; rw [hs8, hs9]; omega
  obtain ⟨k10, e10⟩ : ∃ k, k = (ipm.w2 l 10).toNat := ⟨_, rfl⟩
  obtain ⟨k8, e8⟩ : ∃ k, k = (ipm.w2 l 8).toNat := ⟨_, rfl⟩
  obtain ⟨k8', e8'⟩ : ∃ k, k = (ipm.w2 l 8 - 256).toNat := ⟨_, rfl⟩
  have hb10 : k10 ≤ 65535 := by rw [e10]; unfold ipm.w2; omega
  have hb8 : k8 ≤ 65535 := by rw [e8]; unfold ipm.w2; omega
  have hb8' : k8' ≤ 65535 := by rw [e8']; unfold ipm.w2; omega
  have HTu := hid (show turnL l = 65535 - fd ((65535 - k10) + (65535 - k8) + k8') by unfold turnL; rw [← e10, ← e8, ← e8'])
  rw [← e10] at hk10
  rw [← e8] at hk8
  rw [← e8'] at hk8'
  have K10 := hid hk10
  have K8 := hid hk8
  have K8' := hid hk8'
  have HBo := hid hb
  have hOs : Oct (l.set 8 (l.getD 8 0 - 1)) := by intro z hz; rcases List.mem_or_eq_of_mem_set hz with hz | rfl; exact hb z hz; omega
  have HOs := hid hOs
  rw [← hx8] at h8 b8
  have X8 := hid hx8
  rw [h0] at HM
  have HLen := hid hlen
  clear h hm hb h0 hx8 hl20 b9 b10 b11 hk10 hk8 hk8' hs8 hs9 e10 e8 e8' hOs hlen
  have HM2 : Hid (Calls Try.prog 57 #[.slice a n c] W fun e W' => e = .returned (.tuple #[.int .i64 (hdL l : Nat), .int .i64 (alL l : Nat), .int .i64 0]) ∧ St w W' L) := HM.out.mono fun e W' hh => hh
  have hw8 : IntKind.u8.wrap (x8 - 1) = x8 - 1 := by rw [IntKind.wrap_u8']; omega
  have h82 : ¬ x8 < 2 := by omega
  go_enter Try.func15, Try.ntmps15
  go_upto_region 2 with (go_at_call 57; ((with_reducible refine HM2.out.mono ?_); rintro e w2 ⟨rfl, s2⟩))
  obtain ⟨b, off, ha, _, _, hc⟩ := (s2.get M.out).cells (by omega)
  subst ha
  have q8 : w2.cell? ⟨b, off + 8, none⟩ = some (.int .u8 x8) := by rw [X8.out]; exact hc 8 (by omega)
  clear hc
  go_upto_region 5 with (go_at_call 67; ((with_reducible refine (bclone_any _ (s2.get M.out) (by omega) (Nat.le_refl _)).mono ?_); rintro e w5 ⟨a5, c5, rfl, o5, b5⟩))
  obtain ⟨g, hag, hgg⟩ := own_some o5 (by omega)
  subst hag
  have r5 : Row w2 w5 (some ⟨g, 0, none⟩) n c5 l := ⟨o5, b5⟩
  have y8 : w5.cell? ⟨g, 8, none⟩ = some (.int .u8 x8) := by rw [X8.out]; exact own_at o5 8 (by omega)
  have f8 := o5.frozenAt 8
  go_upto_region 6 with fail
  have r6 : Row w2 (w5.setCell ⟨g, 8, none⟩ (.int .u8 (x8 - 1))) (some ⟨g, 0, none⟩) n c5 (l.set 8 (l.getD 8 0 - 1)) := by
    refine ⟨?_, b5.setCell hgg _⟩
    rw [List.map_set, ← X8.out]
    exact (o5.stored 8 (.int .u8 (x8 - 1))).1
  obtain ⟨W6, hW6⟩ : ∃ W6, W6 = w5.setCell ⟨g, 8, none⟩ (.int .u8 (x8 - 1)) := ⟨_, rfl⟩
  rw [← hW6] at r6
  have HW6 := hid hW6
  clear hW6 y8 f8 o5 b5 r5 q8
  rw [← HW6.out]
  have hz := r6.bel.size
  have hgz : g < W6.heap.size := (r6.own.lt g rfl).2
  have N6 := ((s2.get M.out).below r6.bel).mono hz
  have hle5 := r6.nums.le
  have hc10 : ¬ c = 10 := by omega
  have hc8 : ¬ c = 8 := by omega
  have hc58 : ¬ c5 = 8 := by omega
  have hn10 : (10 : Int) ≤ n := by omega
  have hn8' : (8 : Int) ≤ n := by omega
  have NA : Nums .u8 W6 W6.heap.size (some ⟨b, off + 10, none⟩) (n - 10) (c - 10) (l.drop 10) := N6.drop (by omega) (fun h => absurd h hc10) (fun h => by simp [Addr.add])
  have NB : Nums .u8 W6 W6.heap.size (some ⟨b, off + 8, none⟩) (n - 8) (c - 8) (l.drop 8) := N6.drop (by omega) (fun h => absurd h hc8) (fun h => by simp [Addr.add])
  have NC : Nums .u8 W6 W6.heap.size (some ⟨g, 8, none⟩) (n - 8) (c5 - 8) ((l.set 8 (l.getD 8 0 - 1)).drop 8) := r6.nums.drop (by omega) (fun h => absurd h hc58) (fun h => by simp [Addr.add])
  have GA := hid (fun (wk : World) (hb : Below W6.heap.size W6 wk) => get16_at wk (NA.below hb) hb.size (Byt.drop (l := l) HBo.out 10) (by omega) (k10 : Int) (by rw [w2_drop]; exact K10.out))
  have GB := hid (fun (wk : World) (hb : Below W6.heap.size W6 wk) => get16_at wk (NB.below hb) hb.size (Byt.drop (l := l) HBo.out 8) (by omega) (k8 : Int) (by rw [w2_drop]; exact K8.out))
  have GC := hid (fun (wk : World) (hb : Below W6.heap.size W6 wk) => get16_at wk (NC.below hb) hb.size (Byt.drop (l := l.set 8 (l.getD 8 0 - 1)) HOs.out 8) (by omega) (k8' : Int) (by rw [w2_drop]; exact K8'.out))
  have R6 := hid r6
  have b0 : Below W6.heap.size W6 W6.drew := (Below.refl _ _).drew
  obtain ⟨tt, htt⟩ : ∃ tt, tt = 65535 - fd ((65535 - k10) + (65535 - k8) + k8') := ⟨_, rfl⟩
  have htb : tt ≤ 65535 := by omega
  have HTT := hid htt
  have TU := hid (fun (wk : World) => htt ▸ turned_any k10 k8 k8' hb10 hb8 hb8' wk)
  clear NA NB NC r6 N6 htt hb10 hb8 hb8' hw8 h82
  go_region_with (first | (go_at_call 70; ((with_reducible refine (GA.out _ b0).mono ?_); rintro e wa ⟨rfl, ba⟩); have ba := b0.trans (ba.mono b0.size)) | (go_at_call 70; ((with_reducible refine (GB.out _ ba).mono ?_); rintro e wb ⟨rfl, bb⟩); have bb := ba.trans (bb.mono ba.size)) | (go_at_call 70; ((with_reducible refine (GC.out _ bb).mono ?_); rintro e wd ⟨rfl, bd⟩); have bd := bb.trans (bd.mono bb.size); have r7 := R6.out.next bd) | (go_at_call 69; ((with_reducible refine (TU.out _).mono ?_); rintro e we ⟨rfl, rfl⟩)) | (go_at_call 68; ((with_reducible refine (seal_any r7 (by omega) (by omega) (tt : Int) tt htb rfl).mono ?_); rintro e wf ⟨rfl, r8⟩)))
  go_wp2_with fail
  go_ret2
  refine ⟨_, c5, rfl, ?_⟩
  have e : hopL l = sealL (l.set 8 (l.getD 8 0 - 1)) tt := by unfold hopL; rw [HTu.out, HTT.out]
  rw [e]
  exact (s2.next r8.bel).push r8.nums
end Go.Proofs.Ytidenjinagpphab.ipc
