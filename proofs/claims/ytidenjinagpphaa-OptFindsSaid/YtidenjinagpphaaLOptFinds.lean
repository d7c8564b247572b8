/- catwalk's catwalklaw10.OptFinds answers true at every input, and leaves its arguments as they were. No condition. -/
import Derived.Test.YtidenjinagpphaaRows
import Derived.WalkKit
import Derived.ProofKit
import Derived.OpenShut
import Derived.ShutString
import Derived.ChangeOld
import Derived.Below
import Derived.Test.YtidenjinagpphaaOptGreat
import Derived.Test.YtidenjinagpphaaOptOpen
import Derived.Test.YtidenjinagpphaaOptFind2
import Derived.Test.YtidenjinagpphaaOptSame
import Derived.Test.YtidenjinagpphaaOptLaw
import Derived.Test.YtidenjinagpphaaBox
import Derived.Deep.DeepCutAuto
import Derived.Deep.RegionWith
import Derived.Test.YtidenjinagpphaaQuietC
import Derived.BigQuiet
namespace Go.Proofs.Ytidenjinagpphaa.optFinds
open Go.ChangeShapes Go.WideShapes Go.ChangeAt Go.RowKit
open Go.ChangeMaps (open_string shut_string)
set_option linter.unusedVariables false

theorem own : ownKnob Try.prog.godebug = none := by kernel_rfl
theorem laidOut : laidOutB Try.prog = true := by kernel_rfl

open Go.Proofs.Ytidenjinagpphaa.kit Go.Proofs.Ytidenjinagpphaa.opm Go.Proofs.Ytidenjinagpphaa.opc
/-- one is not found, or the first one is -/
def WayO (L : List Opt) (t : Int) (n : Nat) (r : Int) : Prop := (r = -1 ∧ NoO L t n) ∨ ∃ k : Nat, r = k ∧ k < n ∧ (L.getD k (0, [])).1 = t ∧ NoO L t k
theorem way_no {L : List Opt} {t r : Int} {n : Nat} (h : WayO L t n r) (hn : NoO L t n) : r = -1 := by
  rcases h with ⟨h, _⟩ | ⟨k, _, h2, h3, _⟩
  · exact h
  · exact absurd h3 (hn k h2)
theorem way_yes {L : List Opt} {t r : Int} {n k : Nat} (h : WayO L t n r) (hk : k < n) (ht : (L.getD k (0, [])).1 = t) (hn : NoO L t k) : r = k := by
  rcases h with ⟨_, h⟩ | ⟨j, h1, h2, h3, h4⟩
  · exact absurd ht (h k hk)
  · have : j = k := by
      rcases Nat.lt_trichotomy j k with h | h | h
      · exact absurd h3 (hn j h)
      · exact h
      · exact absurd ht (h4 k h)
    omega
theorem way_le {L : List Opt} {t r : Int} {n k : Nat} (h : WayO L t n r) (hk : k < n) (ht : (L.getD k (0, [])).1 = t) : ∃ i : Nat, r = i ∧ i ≤ k ∧ (L.getD i (0, [])).1 = t ∧ NoO L t i := by
  rcases h with ⟨_, h⟩ | ⟨j, h1, h2, h3, h4⟩
  · exact absurd ht (h k hk)
  · exact ⟨j, h1, Nat.le_of_not_lt fun h => h4 k h ht, h3, h4⟩
theorem rfind_way {w : World} {B n cap : Nat} {a : Option Addr} {L : List Opt} (h : Opts w B a n cap L) (hn : n ≤ 100000) (t : Int) :
    Calls Try.prog 14 #[.slice a n cap, .int .u8 t] w fun e w' => ∃ r : Int, e = .returned (.int .i64 r) ∧ WayO L t n r ∧ w = w' := rfind_any h hn t
theorem keep3 {WA W W1 : World} {p q : Addr} {u v : Value} (hb : Below W.heap.size W W1) (h : (W.cell? p = some u ∧ W.cell? q = some v) ∧ Below WA.heap.size WA W) : (W1.cell? p = some u ∧ W1.cell? q = some v) ∧ Below WA.heap.size WA W1 :=
  ⟨⟨keep_cell hb h.1.1, keep_cell hb h.1.2⟩, h.2.trans (hb.mono h.2.size)⟩

set_option maxHeartbeats 2000000 in
set_option maxRecDepth 100000 in
/-- the walk: true, and nothing that was there has turned -/
theorem walk {H : Type} {enc : TypeId × Value → H} {base : Nat} (v0 : Value) (d0 : DataW H) (p0 : List MemPlace) (v1 : Value) (d1 : DataW H) (p1 : List MemPlace) (a2 : Int) (w : World) (w0 : DataW.Trod enc Try.prog w 0 (fun _ => true) true 27 v0 d0 p0) (o0 : Value.okWide Try.prog w .any base 27 v0) (w1 : DataW.Trod enc Try.prog w 0 (fun _ => true) true 27 v1 d1 p1) (o1 : Value.okWide Try.prog w .any base 27 v1) (w2 : (Lit.int .u8 a2).wf = true) :
    Calls Try.prog 4 #[v0, v1, .int .u8 a2] w fun e w' => e = .returned (.bool true) ∧ Below w.heap.size w w' := by
  obtain ⟨p0, len0, cap0, rfl⟩ := okWide_slice Try.underlying27 o0
  obtain ⟨p1, len1, cap1, rfl⟩ := okWide_slice Try.underlying27 o1
  obtain ⟨L, hL, hO⟩ := open_opts w0
  obtain ⟨M, hM, hP⟩ := open_opts w1
  have hle := hL.le
  have hmx := hL.max
  have hle1 := hM.le
  have hmx1 := hM.max
  unfold maxLen at hmx hmx1
  clear w0 o0 w1 o1
  have HG := hid (great2_any hL (by omega))
  have HG1 := hid (great2_any hM (by omega))
  have HL := hid hL
  have HM := hid hM
  have HO := hid hO
  have HP := hid hP
  clear hL hO hM hP
  go_enter Try.func4, Try.ntmps4
  go_upto_region 1 with fail
  go_cut [17] (fun v wx => ∃ g, v = .bool g ∧ (g = false → (len0 ≤ 1000 ∧ ∀ o ∈ L, o.2.length ≤ 2000) ∧ len1 ≤ 1000) ∧ wx = w)
  case first =>
    go_wp2_with (first | (go_at_call 12; ((with_reducible refine HG.out.mono ?_); rintro e w1 ⟨g, rfl, hg, rfl⟩; have HGG := hid hg; clear hg; cases g)) | (go_at_call 12; ((with_reducible refine HG1.out.mono ?_); rintro e w1 ⟨g1, rfl, hg1, rfl⟩; have HGG1 := hid hg1; clear hg1)))
    all_goals go_meet
    · exact ⟨_, rfl, fun h => ⟨HGG.out (by first | rfl | trivial), (HGG1.out h).1⟩, rfl⟩
    · exact ⟨true, rfl, (fun h => by cases h), rfl⟩
  case rest =>
    obtain ⟨g, rfl, hg, hwc⟩ := hcut
    have hwc' := hwc.symm
    clear hwc
    subst hwc'
    have HGG := hid hg
    clear hg HG HG1
    cases g
    · obtain ⟨⟨hl0, hd0⟩, hl1⟩ := HGG.out rfl
      have HF := hid (find_any HL.out (Nat.le_refl _) (by omega) (fun o ho => Nat.le_trans (hd0 o ho) (by omega)) a2)
      have HRF := hid (fun (W : World) (hb : Below w.heap.size w W) => rfind_way (HL.out.below hb) (by omega) a2)
      clear HGG hd0
      go_upto_region 4 with (go_at_call 13; ((with_reducible refine HF.out.mono ?_); rintro e w1 ⟨a', m, c', d, nd, b1, hway⟩; have HW := hid hway; have ND := hid nd; have B1 := hid b1; clear hway nd b1; rcases HW.out with ⟨rfl, hd, hno⟩ | ⟨k, rfl, hk, hkt, hkd, hno⟩))
      · have NO := hid hno
        obtain rfl := hd
        clear hno
        obtain ⟨WA, hWA⟩ : ∃ WA, WA = w1.alloc (.cells #[.int .u8 0, .slice a' m c'] 31) := ⟨_, rfl⟩
        have bA : Below w1.heap.size w1 WA := by rw [hWA]; exact (Below.refl _ _).alloc (Nat.le_refl _) _
        have kA : Box WA w1.heap.size [.int .u8 0, .slice a' m c'] := by rw [hWA]; exact Box.made _ #[.int .u8 0, .slice a' m c'] _
        have x0 := kA.at_ 0 _ rfl
        have x1 := kA.at_ 1 _ rfl
        have ND2 := hid ((ND.out.below bA).mono bA.size)
        have B2 := hid (B1.out.trans (bA.mono B1.out.size))
        have hB2 := B2.out.size
        have HWA := hid hWA
        clear hWA bA kA
        rw [← HWA.out]
        go_upto_region 5 with (go_at_call 14; ((with_reducible refine (HRF.out _ B2.out).mono ?_); rintro e w2 ⟨r, rfl, hr, rfl⟩; obtain rfl := way_no hr NO.out; clear hr))
        go_cut [52] (fun v wx => v = .bool false ∧ Hid (Below WA.heap.size WA wx))
        case first =>
          have HC := hid (fun (N : After WA) => after_call (one_any N.w (n1 := m) (c1 := c') (a1 := a') (n2 := 0) (c2 := 0) (a2 := none) (l1 := []) (l2 := []) (ND2.out.below N.h) (Nums.empty (B := 0) (Nat.zero_le _) (fun _ => rfl)) N.h.size (Nat.zero_le _) 0 0))
          have z0 := After.cell x0
          have z1 := After.cell x1
          refine wp_region_after WA (by kernel_rfl) (by kernel_rfl) ((Below.refl _ _).drew) ?_
          repeat (go_big_quiet_step (exact HC.out _))
          refine wpQuiet_nil ?_
          intro _ hw'
          obtain ⟨⟨w3, b3⟩, rfl⟩ := hw'
          go_wp2_with fail
          go_meet
          exact ⟨rfl, hid b3⟩
        case rest =>
          obtain ⟨rfl, HC⟩ := hcut
          have B3 := hid (B2.out.trans (HC.out.mono hB2))
          clear HC
          clear NO
          have hB3 := B3.out.size
          have HFW := hid (fun (k : Nat) (hk : k < len0) => rfind_way (HL.out.below B3.out) (by omega) (L.getD k (0, [])).1)
          have HL3 := hid (HL.out.below B3.out)
          clear B2 hB2 HWA x0 x1 HRF HF ND2 ND B1 HW
          go_wp2_with fail
          go_loopw [10, 11] (fun tv iv wr => ∃ (k : Nat) (q : Bool), k ≤ len0 ∧ iv = .int .i64 (k : Nat) ∧ tv = .bool q ∧ (q = true ↔ TwiceO L k) ∧ wr = wc) (fun _ iv _ => len0 - (intOf iv).toNat)
          case atStart => exact ⟨0, false, Nat.zero_le _, rfl, rfl, ⟨fun h => (by cases h), fun ⟨j, hj, _⟩ => by omega⟩, rfl⟩
          case round =>
            obtain ⟨k, q, hk, rfl, rfl, hq, rfl⟩ := hrel
            have HQ := hid hq
            clear hq
            have hww : IntKind.i64.wrap ((k : Int) + 1) = (k : Int) + 1 := IntWalk.i64_in _ (by omega)
            by_cases hlt : k < len0
            · cases q
              · obtain ⟨b, off, aj, nj, cj, ha, h1, h2, h3, h4, h5⟩ := HL3.out.cells k hlt
                have HFK := hid (HFW.out k hlt)
                subst ha
                obtain ⟨ty, hty⟩ : ∃ ty, ty = (L.getD k (0, [])).1 := ⟨_, rfl⟩
                rw [← hty] at h3 HFK
                have HTY := hid hty
                clear hty h4 h5
                go_wp2_with (go_at_call 14; ((with_reducible refine HFK.out.mono ?_); rintro e w2 ⟨r, rfl, hr, rfl⟩; obtain ⟨i, rfl, hi, hit, hno2⟩ := way_le hr hlt HTY.out.symm; have HNO2 := hid hno2; have HIT := hid hit; clear hno2 hit hr))
                by_cases hik : i = k
                · subst hik
                  go_roundw
                  case rel => exact ⟨i + 1, false, by omega, by go_num, by simp, ⟨fun h => (by cases h), fun ⟨j, hj, l, hl, he⟩ => by
                    by_cases hj' : j < i
                    · exact absurd (HQ.out.2 ⟨j, hj', l, hl, he⟩) (by simp)
                    · obtain rfl : j = i := by omega
                      exact absurd (he.trans HTY.out.symm) (HNO2.out l hl)⟩, by first | trivial | rfl⟩
                  case measure => simp [intOf]; omega
                · have hne : ((i : Int) != (k : Int)) = true := by simp; omega
                  go_roundw
                  case rel => exact ⟨k + 1, true, by omega, by go_num, by rw [hne], ⟨fun _ => ⟨k, by omega, i, by omega, by rw [HIT.out]; exact HTY.out⟩, fun _ => rfl⟩, by first | trivial | rfl⟩
                  case measure => simp [intOf]; omega
              · go_wp2_with fail
                go_roundw
                case rel => exact ⟨k + 1, true, by omega, by go_num, rfl, ⟨fun _ => by obtain ⟨j, hj, h⟩ := HQ.out.1 rfl; exact ⟨j, by omega, h⟩, fun _ => rfl⟩, by first | trivial | rfl⟩
                case measure => simp [intOf]; omega
            · have hkn : k = len0 := by omega
              rw [hkn] at HQ
              obtain ⟨D, hD⟩ : ∃ D, D = decide (L = M) := ⟨_, rfl⟩
              have O1 := hid (fun o (ho : o ∈ L) => (HO.out o ho).2)
              have O2 := hid (fun o (ho : o ∈ M) => (HP.out o ho).2)
              have M3 := hid (HM.out.below B3.out)
              have C1 := hid (hD ▸ psame_any wr HL3.out M3.out hB3 hB3 O1.out O2.out)
              have C2 := hid (fun (W : World) (hb : Below wr.heap.size wr W) => hD ▸ same_any W (HL3.out.below (hb.mono hB3)) (M3.out.below (hb.mono hB3)) (Nat.le_trans hB3 hb.size) (Nat.le_trans hB3 hb.size))
              have C3 := hid (fun (W : World) (hb : Below wr.heap.size wr W) => (show decide (L = L) = true by simp) ▸ psame_any W (HL3.out.below (hb.mono hB3)) (HL3.out.below (hb.mono hB3)) (Nat.le_trans hB3 hb.size) (Nat.le_trans hB3 hb.size) O1.out O1.out)
              have C4 := hid (fun (W : World) (hb : Below wr.heap.size wr W) => twice_any (HL3.out.below (hb.mono hB3)) (Nat.le_trans hB3 hb.size) (by omega) (fun o ho => (HO.out o ho).1))
              clear hD hkn HFW hww
              go_wp2_with (first | (go_at_call 16; ((with_reducible refine C1.out.mono ?_); rintro e w2 ⟨rfl, b2⟩)) | (go_at_call 17; ((with_reducible refine (C2.out _ b2).mono ?_); rintro e w3 ⟨rfl, b3⟩); have b3 := b2.trans (b3.mono b2.size)) | (go_at_call 16; ((with_reducible refine (C3.out _ b3).mono ?_); rintro e w4 ⟨rfl, b4⟩); have b4 := b3.trans (b4.mono b3.size)) | (go_at_call 18; ((with_reducible refine (C4.out _ b4).mono ?_); rintro e w5 ⟨tw, rfl, htw, b5⟩); have b5 := b4.trans (b5.mono b4.size); obtain rfl : tw = q := Bool.eq_iff_iff.2 (htw.trans HQ.out.symm); clear htw) | (go_at_call 19; ((with_reducible refine (opc.alive_any _).mono ?_); rintro e wf ⟨rfl, b8⟩)))
              go_ret
              exact ⟨rfl, B3.out.trans ((b5.trans (b8.mono b5.size)).mono hB3)⟩
      · have NO := hid hno
        have KT := hid hkt
        have KD := hid hkd
        clear hno hkt hkd
        obtain ⟨WA, hWA⟩ : ∃ WA, WA = w1.alloc (.cells #[.int .u8 a2, .slice a' m c'] 31) := ⟨_, rfl⟩
        have bA : Below w1.heap.size w1 WA := by rw [hWA]; exact (Below.refl _ _).alloc (Nat.le_refl _) _
        have kA : Box WA w1.heap.size [.int .u8 a2, .slice a' m c'] := by rw [hWA]; exact Box.made _ #[.int .u8 a2, .slice a' m c'] _
        have x0 := kA.at_ 0 _ rfl
        have x1 := kA.at_ 1 _ rfl
        have ND2 := hid ((ND.out.below bA).mono bA.size)
        have B2 := hid (B1.out.trans (bA.mono B1.out.size))
        have hB2 := B2.out.size
        have HWA := hid hWA
        clear hWA bA kA
        rw [← HWA.out]
        go_upto_region 5 with (go_at_call 14; ((with_reducible refine (HRF.out _ B2.out).mono ?_); rintro e w2 ⟨r, rfl, hr, rfl⟩; obtain rfl := way_yes hr hk KT.out NO.out; clear hr))
        go_cut [52] (fun v wx => v = .bool false ∧ Hid (Below WA.heap.size WA wx))
        case first =>
          obtain ⟨b, off, aj, nj, cj, ha, h1, h2, h3, h4, h5⟩ := (HL.out.below B2.out).cells k hk
          rw [KT.out] at h3
          rw [KD.out] at h5
          have hsz2 := hB2
          have H5 := hid h5
          have HC := hid (fun (N : After WA) => (show decide ((a2, d) = (a2, d)) = true by simp) ▸ after_call (one_any N.w (t1 := a2) (t2 := a2) (n1 := m) (c1 := c') (a1 := a') (ND2.out.below N.h) (H5.out.below (N.h.mono hsz2)) N.h.size (Nat.le_trans hsz2 N.h.size)))
          subst ha
          have z2 := After.cell h3
          have z3 := After.cell h4
          clear h5
          have z0 := After.cell x0
          have z1 := After.cell x1
          refine wp_region_after WA (by kernel_rfl) (by kernel_rfl) ((Below.refl _ _).drew) ?_
          repeat (go_big_quiet_step (exact HC.out _))
          refine wpQuiet_nil ?_
          intro _ hw'
          obtain ⟨⟨w3, b3⟩, rfl⟩ := hw'
          go_wp2_with fail
          go_meet
          exact ⟨rfl, hid b3⟩
        case rest =>
          obtain ⟨rfl, HC⟩ := hcut
          have B3 := hid (B2.out.trans (HC.out.mono hB2))
          clear HC
          clear NO KT KD
          have hB3 := B3.out.size
          have HFW := hid (fun (k : Nat) (hk : k < len0) => rfind_way (HL.out.below B3.out) (by omega) (L.getD k (0, [])).1)
          have HL3 := hid (HL.out.below B3.out)
          clear B2 hB2 HWA x0 x1 HRF HF ND2 ND B1 HW
          go_wp2_with fail
          go_loopw [10, 11] (fun tv iv wr => ∃ (k : Nat) (q : Bool), k ≤ len0 ∧ iv = .int .i64 (k : Nat) ∧ tv = .bool q ∧ (q = true ↔ TwiceO L k) ∧ wr = wc) (fun _ iv _ => len0 - (intOf iv).toNat)
          case atStart => exact ⟨0, false, Nat.zero_le _, rfl, rfl, ⟨fun h => (by cases h), fun ⟨j, hj, _⟩ => by omega⟩, rfl⟩
          case round =>
            obtain ⟨k, q, hk, rfl, rfl, hq, rfl⟩ := hrel
            have HQ := hid hq
            clear hq
            have hww : IntKind.i64.wrap ((k : Int) + 1) = (k : Int) + 1 := IntWalk.i64_in _ (by omega)
            by_cases hlt : k < len0
            · cases q
              · obtain ⟨b, off, aj, nj, cj, ha, h1, h2, h3, h4, h5⟩ := HL3.out.cells k hlt
                have HFK := hid (HFW.out k hlt)
                subst ha
                obtain ⟨ty, hty⟩ : ∃ ty, ty = (L.getD k (0, [])).1 := ⟨_, rfl⟩
                rw [← hty] at h3 HFK
                have HTY := hid hty
                clear hty h4 h5
                go_wp2_with (go_at_call 14; ((with_reducible refine HFK.out.mono ?_); rintro e w2 ⟨r, rfl, hr, rfl⟩; obtain ⟨i, rfl, hi, hit, hno2⟩ := way_le hr hlt HTY.out.symm; have HNO2 := hid hno2; have HIT := hid hit; clear hno2 hit hr))
                by_cases hik : i = k
                · subst hik
                  go_roundw
                  case rel => exact ⟨i + 1, false, by omega, by go_num, by simp, ⟨fun h => (by cases h), fun ⟨j, hj, l, hl, he⟩ => by
                    by_cases hj' : j < i
                    · exact absurd (HQ.out.2 ⟨j, hj', l, hl, he⟩) (by simp)
                    · obtain rfl : j = i := by omega
                      exact absurd (he.trans HTY.out.symm) (HNO2.out l hl)⟩, by first | trivial | rfl⟩
                  case measure => simp [intOf]; omega
                · have hne : ((i : Int) != (k : Int)) = true := by simp; omega
                  go_roundw
                  case rel => exact ⟨k + 1, true, by omega, by go_num, by rw [hne], ⟨fun _ => ⟨k, by omega, i, by omega, by rw [HIT.out]; exact HTY.out⟩, fun _ => rfl⟩, by first | trivial | rfl⟩
                  case measure => simp [intOf]; omega
              · go_wp2_with fail
                go_roundw
                case rel => exact ⟨k + 1, true, by omega, by go_num, rfl, ⟨fun _ => by obtain ⟨j, hj, h⟩ := HQ.out.1 rfl; exact ⟨j, by omega, h⟩, fun _ => rfl⟩, by first | trivial | rfl⟩
                case measure => simp [intOf]; omega
            · have hkn : k = len0 := by omega
              rw [hkn] at HQ
              obtain ⟨D, hD⟩ : ∃ D, D = decide (L = M) := ⟨_, rfl⟩
              have O1 := hid (fun o (ho : o ∈ L) => (HO.out o ho).2)
              have O2 := hid (fun o (ho : o ∈ M) => (HP.out o ho).2)
              have M3 := hid (HM.out.below B3.out)
              have C1 := hid (hD ▸ psame_any wr HL3.out M3.out hB3 hB3 O1.out O2.out)
              have C2 := hid (fun (W : World) (hb : Below wr.heap.size wr W) => hD ▸ same_any W (HL3.out.below (hb.mono hB3)) (M3.out.below (hb.mono hB3)) (Nat.le_trans hB3 hb.size) (Nat.le_trans hB3 hb.size))
              have C3 := hid (fun (W : World) (hb : Below wr.heap.size wr W) => (show decide (L = L) = true by simp) ▸ psame_any W (HL3.out.below (hb.mono hB3)) (HL3.out.below (hb.mono hB3)) (Nat.le_trans hB3 hb.size) (Nat.le_trans hB3 hb.size) O1.out O1.out)
              have C4 := hid (fun (W : World) (hb : Below wr.heap.size wr W) => twice_any (HL3.out.below (hb.mono hB3)) (Nat.le_trans hB3 hb.size) (by omega) (fun o ho => (HO.out o ho).1))
              clear hD hkn HFW hww
              go_wp2_with (first | (go_at_call 16; ((with_reducible refine C1.out.mono ?_); rintro e w2 ⟨rfl, b2⟩)) | (go_at_call 17; ((with_reducible refine (C2.out _ b2).mono ?_); rintro e w3 ⟨rfl, b3⟩); have b3 := b2.trans (b3.mono b2.size)) | (go_at_call 16; ((with_reducible refine (C3.out _ b3).mono ?_); rintro e w4 ⟨rfl, b4⟩); have b4 := b3.trans (b4.mono b3.size)) | (go_at_call 18; ((with_reducible refine (C4.out _ b4).mono ?_); rintro e w5 ⟨tw, rfl, htw, b5⟩); have b5 := b4.trans (b5.mono b4.size); obtain rfl : tw = q := Bool.eq_iff_iff.2 (htw.trans HQ.out.symm); clear htw) | (go_at_call 19; ((with_reducible refine (opc.alive_any _).mono ?_); rintro e wf ⟨rfl, b8⟩)))
              go_ret
              exact ⟨rfl, B3.out.trans ((b5.trans (b8.mono b5.size)).mono hB3)⟩
    · go_wp2_with fail
      go_ret
      exact ⟨rfl, Below.refl _ _⟩
set_option maxRecDepth 100000 in
theorem lifted (os : Os) (started : os.Started) (H : Type) (enc : TypeId × Value → H) :
    ReturnsInHanded {} Try.checked os 4 .any (Rows.optFindsSpec.pre6 enc Try.prog Try.f4 Rows.optFindsRow.domain false) (Rows.optFindsSpec.post enc Try.prog Try.f4 false true false false) := by
  refine returnsInHanded_of_change (C := Try.checked) own started (by kernel_rfl) Try.func4
    (ChangeSpec.witness6 (enc := enc) (C := Try.checked) false ⟨#[], #[.slice none 0 0, .slice none 0 0, .int .u8 0], []⟩ 8 (by kernel_rfl) (by kernel_rfl) (by kernel_rfl) (by kernel_rfl)) ?_
  intro W base args ds gs before hval0 hW hcnd _
  have hval : ∀ (j : Nat) t v, Try.f4.params[j]? = some t → args[j]? = some v → Value.okWide Try.prog W .any base t v := hval0
  have hW' := hW
  obtain ⟨p, q, hA0, hV, rfl, hfz, hnd⟩ := hW
  have hA : DataW.TrodAll enc Try.prog W 0 (fun _ => true) true Try.f4.params.toList args.toList ds p := hA0
  rw [Try.params4] at hA hval
  obtain ⟨v0, vs0, d0, ds0, p0, q0, hargs, rfl, rfl, h0, r0⟩ := trodAll_cons hA
  obtain ⟨v1, vs1, d1, ds1, p1, q1, rfl, rfl, rfl, h1, r1⟩ := trodAll_cons r0
  obtain ⟨v2, vs2, d2, ds2, p2, q2, rfl, rfl, rfl, h2, r2⟩ := trodAll_cons r1
  obtain ⟨rfl, rfl, rfl⟩ := trodAll_nil r2
  obtain rfl : args = #[v0, v1, v2] := by cases args; simp_all
  obtain ⟨rfl, rfl⟩ := trodVars_none hV
  have k0 := h0
  have o0 := hval 0 27 v0 rfl rfl
  have lt0 : ∀ x ∈ p0, x.block < W.heap.size := by obtain ⟨m, hm⟩ := k0; exact DataW.trod_lt m _ _ _ hm
  have k1 := h1
  have o1 := hval 1 27 v1 rfl rfl
  have lt1 : ∀ x ∈ p1, x.block < W.heap.size := by obtain ⟨m, hm⟩ := k1; exact DataW.trod_lt m _ _ _ hm
  obtain ⟨a2, rfl, rfl, rfl, w2⟩ := open_int Try.underlying5 (hval 2 5 v2 rfl rfl) h2
  clear hA0 hval0
  refine (walk (H := H) (enc := enc) (base := base) v0 d0 p0 v1 d1 p1 a2 W k0 o0 k1 o1 w2).mono fun e W' ⟨he, bel⟩ => ?_
  subst he
  exact ⟨_, rfl, _, _, _, [], _, [], hW', trodAll_mk1 (shut_bool Try.underlying4 _), (trodAll_cons_mk (Below.trod laidOut (by kernel_rfl) (of_decide_eq_true (by kernel_rfl)) k0 bel lt0) (trodAll_cons_mk (Below.trod laidOut (by kernel_rfl) (of_decide_eq_true (by kernel_rfl)) k1 bel lt1) (trodAll_cons_mk (shut_int Try.underlying5 w2) trodAll_mk0))), rfl, bel.frame _, fun h => by cases h⟩

theorem over : Rows.optFindsRow.holds Try.pinned (OpenSpec.ofChange Rows.optFindsSpec) :=
  OpenClaim.holds_of_wide 4 Try.f4 rfl rfl rfl rfl rfl rfl rfl ⟨rfl, rfl, rfl, rfl, rfl⟩ rfl rfl rfl rfl rfl (by kernel_rfl) Try.func4 (by kernel_rfl)
    (of_decide_eq_true (by kernel_rfl)) (by unfold Func.isWrapper; first | (rw [if_pos (by decide +kernel)]; kernel_rfl) | (rw [if_neg (by decide +kernel)]; exact ⟨rfl, rfl⟩))
    (fun os started H enc _ => lifted os started H enc)

/-- the statement -/
theorem proved : Rows.OptFindsSaid := over
end Go.Proofs.Ytidenjinagpphaa.optFinds
