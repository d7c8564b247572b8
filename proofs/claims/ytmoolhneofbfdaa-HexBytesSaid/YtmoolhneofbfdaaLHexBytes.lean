/- catwalk's catwalklaw03.HexBytes answers true at every input, and leaves its arguments as they were. No condition. -/
import Derived.Test.YtmoolhneofbfdaaRows
import Derived.WalkKit
import Derived.ProofKit
import Derived.OpenShut
import Derived.ShutString
import Derived.ChangeOld
import Derived.Below
import Derived.Test.YtmoolhneofbfdaaHexRef
import Derived.Test.YtmoolhneofbfdaaSt
import Derived.Test.YtmoolhneofbfdaaOpen
import Derived.Deep.DeepCutAuto
namespace Go.Proofs.Ytmoolhneofbfdaa.hexBytes
open Go.ChangeShapes Go.WideShapes Go.ChangeAt Go.RowKit
open Go.ChangeMaps (open_string shut_string)
set_option linter.unusedVariables false

theorem own : ownKnob Try.prog.godebug = none := by kernel_rfl
theorem laidOut : laidOutB Try.prog = true := by kernel_rfl

open Go.Proofs.Ytmoolhneofbfdaa.kit Go.Proofs.Ytmoolhneofbfdaa.hxc Go.Proofs.Ytmoolhneofbfdaa.hxm
theorem text_st {w W : World} {L : List Sl} {a : Option Addr} {n c : Nat} {l : List Int} (h : St w W L) (hm : (a, n, c, l) ∈ L) (hO : Oct l) (hn : n ≤ 1000) :
    Calls Try.prog 9 #[.slice a n c] W fun e W' => e = .returned (.string (strOfNums (textI l))) ∧ St w W' L :=
  (text_any W (h.get hm) hO hn (Nat.le_refl _)).mono fun e W' ⟨he, hb⟩ => ⟨he, h.next hb⟩
theorem rtext_st {w W : World} {L : List Sl} {a : Option Addr} {n c : Nat} {l : List Int} (h : St w W L) (hm : (a, n, c, l) ∈ L) (hO : Oct l) (hn : n ≤ 1000) :
    Calls Try.prog 11 #[.slice a n c] W fun e W' => e = .returned (.string (strOfNums (textI l))) ∧ St w W' L :=
  (ref_text W (h.get hm) hO hn (Nat.le_refl _)).mono fun e W' ⟨he, hb⟩ => ⟨he, h.next hb⟩
theorem read_good {w W : World} {L : List Sl} {s : ByteArray} {f : Nat} {ok no : Value} {l : List Int} {n : Nat} (hc : Calls Try.prog f #[.string s] W (ReadPost (nums s) ok no W)) (h : St w W L) (hG : Figs (nums s)) (hn : (nums s).length / 2 = n) (hl : vals (nums s) n = l) :
    Calls Try.prog f #[.string s] W fun e W' => ∃ a c, e = .returned (.tuple #[.slice a n c, ok]) ∧ St w W' ((a, n, c, l) :: L) :=
  hc.mono fun e W' ⟨hb, hh⟩ => by
    rcases hh with ⟨_, a, c, he, hN⟩ | ⟨hx, _⟩
    · rw [hn] at he hN
      rw [hl] at hN
      exact ⟨a, c, he, (h.next hb).push hN⟩
    · exact absurd hG hx
theorem read_bad {w W : World} {L : List Sl} {s : ByteArray} {f : Nat} {ok no : Value} (hc : Calls Try.prog f #[.string s] W (ReadPost (nums s) ok no W)) (h : St w W L) (hG : ¬ Figs (nums s)) :
    Calls Try.prog f #[.string s] W fun e W' => e = .returned (.tuple #[.slice none 0 0, no]) ∧ St w W' L :=
  hc.mono fun e W' ⟨hb, hh⟩ => by
    rcases hh with ⟨hx, _⟩ | ⟨_, he⟩
    · exact absurd hx hG
    · exact ⟨he, h.next hb⟩
theorem equal_st {w W : World} {L : List Sl} {B1 B2 n1 n2 c1 c2 : Nat} {a1 a2 : Option Addr} {l1 l2 : List Int} (h : St w W L) (h1 : Nums .u8 W B1 a1 n1 c1 l1) (h2 : Nums .u8 W B2 a2 n2 c2 l2) (he : l1 = l2) :
    Calls Try.prog 12 #[.slice a1 n1 c1, .slice a2 n2 c2] W fun e W' => e = .returned (.bool true) ∧ St w W' L :=
  (equal_any W h1 h2).mono fun e W' ⟨hh, m, hm⟩ => ⟨by rw [hh]; simp [he], by subst hm; exact h.next (below_drewN (Below.refl _ _) m)⟩
theorem alive_st {w W : World} {L : List Sl} (h : St w W L) : Calls Try.prog 14 #[] W fun e W' => e = .returned (.bool true) ∧ St w W' L := by
  have hN : Nums .u8 (W.alloc (.cells #[.int .u8 1, .int .u8 171] 5)) (W.heap.size + 1) (some ⟨W.heap.size, 0, none⟩) 2 2 [1, 171] := nums_two
  have HN := hid hN
  have HS := hid h
  have hE := hid (show ((strOfNums (textI [1, 171])).toList == [48, 49, 97, 98]) = true by decide +kernel)
  clear hN h
  go_enter Try.func14, Try.ntmps14
  go_wp2_with (go_at_call 9; go_loud (refine (text_any _ HN.out (by intro x hx; simp only [List.mem_cons, List.not_mem_nil, or_false] at hx; rcases hx with rfl | rfl <;> decide) (by omega) (by simp)).mono ?_); go_loud (rintro e w1 ⟨rfl, hb⟩))
  rw [hE.out]
  go_ret
  exact ⟨rfl, HS.out.next (((Below.refl _ _).alloc (Nat.le_refl _) _).trans (hb.mono (by simp)))⟩

set_option maxHeartbeats 1000000 in
/-- the walk: true, and nothing that was there has turned -/
theorem walk {H : Type} {enc : TypeId × Value → H} {base : Nat} (v0 : Value) (d0 : DataW H) (p0 : List MemPlace) (a1 : ByteArray) (w : World) (w0 : DataW.Trod enc Try.prog w 0 (fun _ => true) true 22 v0 d0 p0) (o0 : Value.okWide Try.prog w .any base 22 v0) (w1 : a1.size ≤ maxLen) :
    Calls Try.prog 3 #[v0, .string a1] w fun e w' => e = .returned (.bool true) ∧ Below w.heap.size w w' := by
  obtain ⟨a0, len0, cap0, rfl⟩ := okWide_slice Try.underlying22 o0
  obtain ⟨l, hN, hwf⟩ := open_nums Try.underlying22 Try.underlying5 (by kernel_rfl) w0
  have hO : Oct l := fun x hx => wf_u8 (hwf x hx)
  clear w0 o0 hwf
  have hle := hN.le
  have hmx := hN.max
  unfold maxLen at hmx w1
  by_cases hbig : 300 < len0
  · clear hN hO
    go_enter Try.func3, Try.ntmps3
    go_wp2
    go_ret
    exact ⟨rfl, Below.refl _ _⟩
  · by_cases hbig2 : 300 < a1.size
    · clear hN hO
      go_enter Try.func3, Try.ntmps3
      go_wp2
      go_ret
      exact ⟨rfl, Below.refl _ _⟩
    · have hF := textI_figs l hO
      have hlen := hN.len
      have hns := nums_str (textI l) (textI_oct l hO)
      have hsz : (strOfNums (textI l)).size ≤ 1000 := by rw [strOfNums_size, textI_len]; omega
      have HSz := hid hsz
      have HF : Hid (Figs (nums (strOfNums (textI l))) ∧ (nums (strOfNums (textI l))).length / 2 = len0 ∧ vals (nums (strOfNums (textI l))) len0 = l) := by
        rw [hns, ← hlen]; exact hF
      have HO := hid hO
      have s0 : St w w [(a0, len0, cap0, l)] := (St.start w).push hN
      clear hN hO hF hlen hns hsz
      go_enter Try.func3, Try.ntmps3
      go_upto_region 7 with (first | (go_at_call 9; ((with_reducible refine (text_st s0 m0 HO.out (by omega)).mono ?_); rintro e wa ⟨rfl, s1⟩)) | (go_at_call 10; ((with_reducible refine (read_good (read_any _ HSz.out _) s1 HF.out.1 HF.out.2.1 HF.out.2.2).mono ?_); rintro e wb ⟨ab, cb, rfl, s2⟩)) | (go_at_call 11; ((with_reducible refine (rtext_st s2 m1 HO.out (by omega)).mono ?_); rintro e wc ⟨rfl, s3⟩)) | (go_at_call 12; ((with_reducible refine (equal_st s3 (s3.get m0) (s3.get m1) rfl).mono ?_); rintro e wd ⟨rfl, s4⟩)))
      by_cases hg : Figs (nums a1)
      · have HG := hid hg
        clear hg
        go_wp2_with (first | (go_at_call 10; ((with_reducible refine (read_good (read_any a1 (by omega) _) s4 HG.out rfl rfl).mono ?_); rintro e we ⟨ae, ce, rfl, s5⟩)) | (go_at_call 13; ((with_reducible refine (read_good (ref_read a1 (by omega) _) s5 HG.out rfl rfl).mono ?_); rintro e wf ⟨af, cf, rfl, s6⟩)) | (go_at_call 12; ((with_reducible refine (equal_st s6 (s6.get m1) (s6.get m0) rfl).mono ?_); rintro e wg ⟨rfl, s7⟩)) | (go_at_call 14; ((with_reducible refine (alive_st s7).mono ?_); rintro e wh ⟨rfl, s8⟩)))
        go_ret
        exact ⟨rfl, s8.below⟩
      · have HG := hid hg
        clear hg
        go_wp2_with (first | (go_at_call 10; ((with_reducible refine (read_bad (read_any a1 (by omega) _) s4 HG.out).mono ?_); rintro e we ⟨rfl, s5⟩)) | (go_at_call 13; ((with_reducible refine (read_bad (ref_read a1 (by omega) _) s5 HG.out).mono ?_); rintro e wf ⟨rfl, s6⟩)) | (go_at_call 12; ((with_reducible refine (equal_st s6 (Nums.empty (B := 0) (Nat.zero_le _) (fun _ => rfl)) (Nums.empty (B := 0) (Nat.zero_le _) (fun _ => rfl)) rfl).mono ?_); rintro e wg ⟨rfl, s7⟩)) | (go_at_call 14; ((with_reducible refine (alive_st s7).mono ?_); rintro e wh ⟨rfl, s8⟩)))
        go_ret
        exact ⟨rfl, s8.below⟩
set_option maxRecDepth 100000 in
theorem lifted (os : Os) (started : os.Started) (H : Type) (enc : TypeId × Value → H) :
    ReturnsInHanded {} Try.checked os 3 .any (Rows.hexBytesSpec.pre6 enc Try.prog Try.f3 Rows.hexBytesRow.domain false) (Rows.hexBytesSpec.post enc Try.prog Try.f3 false true false false) := by
  refine returnsInHanded_of_change (C := Try.checked) own started (by kernel_rfl) Try.func3
    (ChangeSpec.witness6 (enc := enc) (C := Try.checked) false ⟨#[], #[.slice none 0 0, .string ByteArray.empty], []⟩ 8 (by kernel_rfl) (by kernel_rfl) (by kernel_rfl) (by kernel_rfl)) ?_
  intro W base args ds gs before hval0 hW hcnd _
  have hval : ∀ (j : Nat) t v, Try.f3.params[j]? = some t → args[j]? = some v → Value.okWide Try.prog W .any base t v := hval0
  have hW' := hW
  obtain ⟨p, q, hA0, hV, rfl, hfz, hnd⟩ := hW
  have hA : DataW.TrodAll enc Try.prog W 0 (fun _ => true) true Try.f3.params.toList args.toList ds p := hA0
  rw [Try.params3] at hA hval
  obtain ⟨v0, vs0, d0, ds0, p0, q0, hargs, rfl, rfl, h0, r0⟩ := trodAll_cons hA
  obtain ⟨v1, vs1, d1, ds1, p1, q1, rfl, rfl, rfl, h1, r1⟩ := trodAll_cons r0
  obtain ⟨rfl, rfl, rfl⟩ := trodAll_nil r1
  obtain rfl : args = #[v0, v1] := by cases args; simp_all
  obtain ⟨rfl, rfl⟩ := trodVars_none hV
  have k0 := h0
  have o0 := hval 0 22 v0 rfl rfl
  have lt0 : ∀ x ∈ p0, x.block < W.heap.size := by obtain ⟨m, hm⟩ := k0; exact DataW.trod_lt m _ _ _ hm
  obtain ⟨a1, rfl, rfl, rfl, w1⟩ := open_string Try.underlying9 (hval 1 9 v1 rfl rfl) h1
  clear hA0 hval0
  refine (walk v0 d0 p0 a1 W k0 o0 w1).mono fun e W' ⟨he, bel⟩ => ?_
  subst he
  exact ⟨_, rfl, _, _, _, [], _, [], hW', trodAll_mk1 (shut_bool Try.underlying4 _), (trodAll_cons_mk (Below.trod laidOut (by kernel_rfl) (of_decide_eq_true (by kernel_rfl)) k0 bel lt0) (trodAll_cons_mk (shut_string Try.underlying9 w1) trodAll_mk0)), rfl, bel.frame _, fun h => by cases h⟩

theorem over : Rows.hexBytesRow.holds Try.pinned (OpenSpec.ofChange Rows.hexBytesSpec) :=
  OpenClaim.holds_of_wide 3 Try.f3 rfl rfl rfl rfl rfl rfl rfl ⟨rfl, rfl, rfl, rfl, rfl⟩ rfl rfl rfl rfl rfl (by kernel_rfl) Try.func3 (by kernel_rfl)
    (of_decide_eq_true (by kernel_rfl)) (by unfold Func.isWrapper; first | (rw [if_pos (by decide +kernel)]; kernel_rfl) | (rw [if_neg (by decide +kernel)]; exact ⟨rfl, rfl⟩))
    (fun os started H enc _ => lifted os started H enc)

/-- the statement -/
theorem proved : Rows.HexBytesSaid := over
end Go.Proofs.Ytmoolhneofbfdaa.hexBytes
