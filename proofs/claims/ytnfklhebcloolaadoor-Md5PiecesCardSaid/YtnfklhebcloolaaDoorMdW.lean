/- The program's Write. -/
import Derived.Test.YtnfklhebcloolaaDoorMdWr
import Derived.Test.YtnfklhebcloolaaDoorGrown
namespace Go.Proofs.YtnfklhebcloolaaDoor.mdc
open Go.RowKit
open Go.Proofs.YtnfklhebcloolaaDoor.kit Go.Proofs.YtnfklhebcloolaaDoor.mdm
set_option linter.unusedVariables false
set_option linter.unusedSimpArgs false
set_option maxRecDepth 20000
theorem part_slice (g i : Nat) (hi : i < 64) (w : World) : (Instr.sliceAt 33 (.pointer (some ⟨g, 4, none⟩)) (some (.int .u64 (i : Nat))) none none).run Tryd.prog w = .ok (.slice (some ⟨g, 4 + i, none⟩) (64 - i) (64 - i)) w := by
  have ht : Tryd.prog.underlying 33 = some (.array (Tryd.prog.arrayLen 33) (Tryd.prog.elem 33)) := by kernel_rfl
  have hal : Tryd.prog.arrayLen 33 = 64 := by kernel_rfl
  have hel : Tryd.prog.elem 33 = 5 := by kernel_rfl
  have hsz : (Tryd.prog.info? 5).map (·.size) = some 1 := by kernel_rfl
  rw [run_sliceAt_array_l (ht := ht) (h0 := by omega) (h1 := by rw [hal]; omega), hal, hel]
  cases hq : Tryd.prog.info? 5 with
  | none => simp [hq] at hsz
  | some ii =>
    have hi2 : ii.size = 1 := by simpa [hq] using hsz
    have hne : ¬ 64 = i := by omega
    simp [sizeOf, typeInfo, hq, hi2, slicedAt, hne, Addr.add, Result.andThen]
theorem Tab.grown {w w' : World} {g : Nat} (h : Tab w) (hb : w.grownBy w' (some g)) (h1 : g ≠ 0) (h2 : g ≠ 1) (h3 : g ≠ 2) : Tab w' :=
  ⟨fun j hj => gb_cell hb (h.k j hj) h1.symm, fun j hj => gb_cell hb (h.r j hj) h2.symm, fun j hj => gb_cell hb (h.s j hj) h3.symm⟩
theorem nums_grown_pos {k : IntKind} {w w' : World} {B n cap g : Nat} {a : Option Addr} {l : List Int} (h : Nums k w B a n cap l) (hb : w.grownBy w' (some g)) (hne : 0 < n → ∀ b o s, a = some ⟨b, o, s⟩ → b ≠ g) : Nums k w' B a n cap l := by
  by_cases hp : 0 < n
  · exact nums_grown h hb (hne hp)
  · exact ⟨h.len, h.le, h.max, h.nil, fun hq => absurd hq hp⟩
/-- what Write leaves -/
def Wrt (w : World) (g : Nat) (l m : List Int) (e : Ending) (w' : World) : Prop := e = .returned (.tuple #[]) ∧ (∃ x P, Hs w' g (l ++ m) x P) ∧ w.grownBy w' (some g)
set_option maxHeartbeats 2000000 in
theorem write_any (w : World) (T : Tab w) (g : Nat) (l m : List Int) (x : Q4) (P : List Int) (H : Hs w g l x P) (a : Option Addr) (n cap B : Nat) (hN : Nums .u8 w B a n cap m) (hO : Oct m) (hB : B ≤ w.heap.size) (hne : 0 < n → ∀ b o s, a = some ⟨b, o, s⟩ → b ≠ g) (htot : l.length + n ≤ 1000000)
    (hg1 : g ≠ 0) (hg2 : g ≠ 1) (hg3 : g ≠ 2) :
    Calls Tryd.prog 10 #[.pointer (some ⟨g, 0, none⟩), .slice a n cap] w (Wrt w g l m) := by
  have HN := hid (hN.mono (show B ≤ w.heap.size from hB))
  have HNE := hid hne
  have HH := hid H
  have HT := hid T
  have HO := hid hO
  have HL := hid hN.len
  have hle := hN.le
  have hmx := hN.max
  unfold maxLen at hmx
  clear hN hne H T hO
  go_enter Tryd.func10, Tryd.ntmps10
  go_wp2_with fail
  go_loopw [1] (fun bv wr => ∃ (j : Nat) (a' : Option Addr) (c' : Nat) (x : Q4) (P : List Int), j ≤ n ∧ bv = .slice a' (n - j) c' ∧ Hid (Nums .u8 wr wr.heap.size a' (n - j) c' (m.drop j)) ∧ Hid (0 < n - j → ∀ b o s, a' = some ⟨b, o, s⟩ → b ≠ g) ∧ Hid (Hs wr g (l ++ m.take j) x P) ∧ Hid (w.grownBy wr (some g)) ∧ Hid (Tab wr)) (fun bv _ => match bv with | .slice _ k _ => k | _ => 0)
  case atStart => exact ⟨0, a, cap, x, P, by omega, rfl, hid (by simpa using HN.out), hid (fun h => HNE.out (by omega)), hid (by simpa using HH.out), hid (World.grownBy.refl _ _), HT⟩
  case round =>
    clear HN HNE HH HT
    obtain ⟨j, a', c', x, P, hj, rfl, HN, HNE, HH, HG, HT⟩ := hrel
    by_cases hlt : j < n
    · obtain ⟨b, off, ha, hb1, hb2, hc⟩ := HN.out.cells (by omega)
      subst ha
      have hlen := HH.out.len
      have c68 := HH.out.box.at_ 68 _ (hv_taken x P hlen _)
      have f68 := HH.out.box.fr 68
      obtain ⟨t, ht⟩ : ∃ t, t = (l ++ m.take j).length := ⟨_, rfl⟩
      have htl : t = l.length + j := by rw [ht]; simp [HL.out]; omega
      rw [← ht] at c68
      have ht64 : (t : Int) % 64 = ((t % 64 : Nat) : Int) := by omega
      obtain ⟨at_, hat⟩ : ∃ q, q = t % 64 := ⟨_, rfl⟩
      rw [← hat] at ht64
      have hat64 : at_ < 64 := by omega
      obtain ⟨q, hq⟩ : ∃ q, q = Nat.min (n - j) (64 - at_) := ⟨_, rfl⟩
      have hq1 : q ≤ n - j := by rw [hq]; exact Nat.min_le_left _ _
      have hq2 : q ≤ 64 - at_ := by rw [hq]; exact Nat.min_le_right _ _
      have hq3 : q = n - j ∨ q = 64 - at_ := by rw [hq]; have : Nat.min (n - j) (64 - at_) = min (n - j) (64 - at_) := rfl; omega
      have hq0 : 1 ≤ q := by omega
      have hdl : (m.drop j).length = n - j := by simp [HL.out]
      have hcl : (((m.drop j).take q).map (Value.int .u8)).length = q := by simp [HL.out]; omega
      have hcl2 : ((m.drop j).take q).length = q := by simp [HL.out]; omega
      have HCL := hid hcl
      have HCL2 := hid hcl2
      have hsrc := hid (show ∀ i v, (((m.drop j).take q).map (Value.int .u8))[i]? = some v → wr.cell? ((⟨b, off, none⟩ : Addr).add i) = some v from fun i v hv => by
        have hi : i < q := by have := (List.getElem?_eq_some_iff.1 hv).1; rw [hcl] at this; exact this
        rw [Addr.add_lit, hc i (by omega)]
        rw [List.getElem?_map, List.getElem?_take_of_lt hi, List.getElem?_eq_getElem (by omega)] at hv
        rw [List.getD_eq_getElem?_getD, List.getElem?_eq_getElem (by omega)]
        exact hv)
      have hone := hid (show ∀ v ∈ ((m.drop j).take q).map (Value.int .u8), v.oneCell' = true from fun v hv => by obtain ⟨z, _, rfl⟩ := List.mem_map.1 hv; rfl)
      obtain ⟨cs, hcs⟩ : ∃ cs, cs = (m.drop j).take q := ⟨_, rfl⟩
      rw [← hcs] at HCL HCL2 hsrc hone
      obtain ⟨CV, hCV⟩ : ∃ CV, CV = cs.map (Value.int .u8) := ⟨_, rfl⟩
      rw [← hCV] at HCL hsrc hone
      have HCV := hid hCV
      have HCS := hid hcs
      have hv69 : (hv x P t).length = 69 := by simp [hv, q4, b16, hlen]
      have HFIT := hid (show 4 + at_ + CV.length ≤ (hv x P t).length by rw [HCL.out, hv69]; omega)
      have HNL := hid (show CV.length = Nat.min (n - j) (64 - at_) by rw [HCL.out, hq])
      have HBX := hid (show Box wr g (hv x P t) by rw [ht]; exact HH.out.box)
      obtain ⟨a2, hs, hs1, hs2⟩ := slice_from (some ⟨b, off, none⟩) (n - j) c' q hq1
      have HS1 := hid hs1
      have HS2 := hid hs2
      have HT1 := hid ht
      have HT2 := hid hat
      have HTM := hid (show t % 64 = at_ from hat.symm)
      have HTL := hid htl
      have htb : t ≤ 1000000 := by omega
      have hps := part_slice g at_ hat64 wr
      have HQ3 := hid hq3
      have hw8 : (Tryd.prog.info? 5).map (·.size) = some 1 := by kernel_rfl
      clear ht hat htl hq hcs hCV hs1 hs2 hcl hcl2 hdl hv69 hq3 hc
      go_upto_region 3 with (refine wpList_copy_box rfl (.tmp 18) (.tmp 19) 22 22 rfl 5 Tryd.underlying22 hw8 g (4 + at_) (64 - at_) (64 - at_) ⟨b, off, none⟩ (n - j) c' rfl rfl (hv x P t) HBX.out CV HNL.out hsrc.out HFIT.out hone.out ?_; intro w3 B3 G3)
      rw [HCL.out]
      have HPL := hid (show (spl P at_ cs).length = 64 by rw [spl_len _ _ _ (by rw [HCL2.out]; omega)]; exact hlen)
      have K3 := hid (show Box w3 g (hv x (spl P at_ cs) t) by have := B3.out; rw [HCV.out, hv_spl x P cs t at_ hlen (by rw [HCL2.out]; omega)] at this; exact this)
      have HPO := hid (spl_oct HH.out.oct (show Oct cs by rw [HCS.out]; exact fun z hz => HO.out z (List.mem_of_mem_drop (List.mem_of_mem_take hz))) at_)
      have HFP := hid (fun (h : at_ + q < 64) => fill_part (cs := cs) (P := P) HH.out.nums HH.out.rest hlen (by rw [← HT1.out, ← HT2.out, HCL2.out]; exact h))
      have HFW := hid (fun (h : at_ + q = 64) => fill_whole (cs := cs) (P := P) HH.out.nums HH.out.rest hlen (by rw [← HT1.out, ← HT2.out, HCL2.out]; exact h))
      have HAP := hid (show l ++ m.take j ++ cs = l ++ m.take (j + q) by rw [HCS.out, List.append_assoc, ← List.take_add])
      rw [HAP.out, ← HT1.out, ← HT2.out] at HFP HFW
      have HLN := hid (show (l ++ m.take (j + q)).length = t + q by rw [← HAP.out, List.length_append, HCL2.out, ← HT1.out])
      obtain ⟨P', hP'⟩ : ∃ P', P' = spl P at_ cs := ⟨_, rfl⟩
      rw [← hP'] at HPL K3 HPO HFP HFW
      have x68 := K3.out.at_ 68 _ (hv_taken x P' HPL.out t)
      have y68 := K3.out.fr 68
      have K4 := hid (show Box (w3.setCell ⟨g, 68, none⟩ (.int .u64 ((t : Int) + q))) g (hv x P' (t + q)) by
        have := K3.out.set 68 (.int .u64 (t + q : Nat))
        rw [hv_take x P' t (t + q) HPL.out] at this
        exact this)
      have G4 := hid (show wr.grownBy (w3.setCell ⟨g, 68, none⟩ (.int .u64 ((t : Int) + q))) (some g) from gb_setCell G3.out (p := ⟨g, 68, none⟩) rfl _)
      have HN2 := hid (HN.out.drop (m := q) (a' := a2) hq1 HS1.out HS2.out)
      have HNE2 := hid (show 0 < n - j - q → ∀ b2 o s, a2 = some ⟨b2, o, s⟩ → b2 ≠ g from fun hp b2 o s e => by
        by_cases hc1 : c' = q
        · rw [HS1.out hc1] at e; exact HNE.out (by omega) b2 o s e
        · rw [HS2.out hc1, Option.map_some, Addr.add_lit] at e; injection e with e; injection e with e1 e2 e3; rw [← e1]; exact HNE.out (by omega) b off none rfl)
      have HX := hid HH.out.ok
      rw [List.drop_drop] at HN2
      clear hP' B3 HFIT HNL HBX hps hone hsrc c68 f68 HCV HCS HCL HCL2 HS1 HS2 HAP HT2
      by_cases hfull : at_ + q = 64
      · have he0 : (((t : Int) + q) % 64 == 0) = true := by have := HTM.out; simp; omega
        have HT5 := hid (HT.out.grown G4.out hg1 hg2 hg3)
        have KB := hid (block_any _ HT5.out g x P' (t + q) HX.out HPO.out HPL.out K4.out)
        go_wp2_with (go_at_call 23; ((with_reducible refine KB.out.mono ?_); rintro e w5 ⟨rfl, B5, G5⟩; have B5 := hid B5; have G6 := hid (gb_trans G4.out G5); have HT6 := hid (HT5.out.grown G5 hg1 hg2 hg3); clear G5))
        go_roundw
        case rel => exact ⟨j + q, a2, c' - q, _, P', by omega, by rw [Nat.sub_sub], hid (by rw [← Nat.sub_sub]; exact (nums_grown_pos HN2.out G6.out HNE2.out).mono G6.out.size), hid (fun h => HNE2.out (by omega)), hid ⟨by rw [HLN.out]; exact B5.out, add_ok _ _, HPO.out, HPL.out, (HFW.out hfull).1, (HFW.out hfull).2⟩, hid (gb_trans HG.out G6.out), HT6⟩
        case measure => simp; omega
      · have hne0 : (((t : Int) + q) % 64 == 0) = false := by have := HTM.out; simp; omega
        go_wp2_with fail
        go_roundw
        case rel => exact ⟨j + q, a2, c' - q, x, P', by omega, by rw [Nat.sub_sub], hid (by rw [← Nat.sub_sub]; exact (nums_grown_pos HN2.out G4.out HNE2.out).mono G4.out.size), hid (fun h => HNE2.out (by omega)), hid ⟨by rw [HLN.out]; exact K4.out, HX.out, HPO.out, HPL.out, (HFP.out (by omega)).1, (HFP.out (by omega)).2⟩, hid (gb_trans HG.out G4.out), hid (HT.out.grown G4.out hg1 hg2 hg3)⟩
        case measure => simp; omega
    · obtain rfl : j = n := by omega
      go_wp2_with fail
      go_end0
      exact ⟨rfl, ⟨x, P, by have := HH.out; rw [List.take_of_length_le (by rw [HL.out]; omega)] at this; exact this⟩, HG.out⟩
end Go.Proofs.YtnfklhebcloolaaDoor.mdc
