/- catwalklaw09.FcsSeals answers true at every input, and leaves its arguments as they were. No condition. -/
import Derived.Test.YtmoolhneofbfdaaRows
import Derived.WalkKit
import Derived.ProofKit
import Derived.OpenShut
import Derived.ShutString
import Derived.ChangeOld
import Derived.Below
import Derived.Test.YtmoolhneofbfdaaFcsRef
import Derived.Test.YtmoolhneofbfdaaSt
import Derived.Deep.DeepCutAuto
namespace Go.Proofs.Ytmoolhneofbfdaa.fcsSeals
open Go.ChangeShapes Go.WideShapes Go.ChangeAt Go.RowKit
open Go.ChangeMaps (open_string shut_string)
set_option linter.unusedVariables false

theorem own : ownKnob Try.prog.godebug = none := by kernel_rfl
theorem laidOut : laidOutB Try.prog = true := by kernel_rfl

/-- WHAT THE WALK IS TOLD OF A SLICE OF INTEGERS THAT CAME IN: it is nil; or it leads to a row of 'cap' cells, the numbers 'zs' (the first 'len' are its elements, the rest its spare room), each fitting its kind. -/
def IsRow (k : IntKind) (w : World) (a : Option Addr) (len cap : Nat) (zs : List Int) : Prop :=
  (a = none ∧ len = 0 ∧ cap = 0 ∧ zs = []) ∨
  ∃ x, a = some x ∧ len ≤ cap ∧ cap ≤ maxLen ∧ zs.length = cap ∧ (∀ i, i < zs.length → w.cell? (x.add i) = some (.int k (zs.getD i 0))) ∧ ∀ n ∈ zs, (Lit.int k n).wf = true

open Go.Proofs.Ytmoolhneofbfdaa.kit Go.Proofs.Ytmoolhneofbfdaa.fcc Go.Proofs.Ytmoolhneofbfdaa.fcm
theorem seal_eq (l : List Int) (S : Nat) (h : S < 65536) (x y : Int) (hx : x = (65535 - (S : Int)) % 256) (hy : y = (65535 - (S : Int)) / 256) : l ++ [x, y] = l ++ sealB S := by
  unfold sealB; congr 1
  rw [hx, hy]
  congr 1
  · omega
  · congr 1; omega
theorem sealed_good (l : List Int) (h : Oct l) : Oct (l ++ sealB (sumB l)) ∧ sumB (l ++ sealB (sumB l)) = 61624 := by
  have hs := sumB_lt l
  constructor
  · intro x hx
    rcases List.mem_append.1 hx with h1 | h1
    · exact h x h1
    · unfold sealB at h1
      simp only [List.mem_cons, List.not_mem_nil, or_false] at h1
      rcases h1 with h1 | h1 <;> (subst h1; omega)
  · have e := crc_append 65535 l (sealB (sumB l))
    unfold sumB at *
    rw [List.length_append, e]
    exact crc_seal _ hs
theorem ref_st {w W : World} {L : List Sl} {a : Option Addr} {n c : Nat} {l : List Int} (h : St w W L) (hm : (a, n, c, l) ∈ L) (hO : Oct l) (hn : n ≤ 1000) {S : Nat} (hS : sumB l = S) :
    Calls Try.prog 28 #[.int .u16 65535, .slice a n c] W fun e W' => e = .returned (.int .u16 S) ∧ St w W' L :=
  (ref_add W (h.get hm) hO hn (Nat.le_refl _) 65535 (by decide)).mono fun e W' ⟨he, hb⟩ => ⟨by rw [he, ← hS]; unfold sumB; rw [(h.get hm).len], h.next hb⟩
theorem seal_st {w W : World} {L : List Sl} {a : Option Addr} {n c : Nat} {l : List Int} (h : St w W L) (hm : (a, n, c, l) ∈ L) (hO : Oct l) (hn : n ≤ 1000) {S : Nat} (hS : sumB l = S) :
    Calls Try.prog 30 #[.slice a n c] W fun e W' => ∃ a' c', e = .returned (.slice a' (n + 2) c') ∧ St w W' ((a', n + 2, c', l ++ sealB S) :: L) :=
  (seal_any W (h.get hm) hO hn (Nat.le_refl _)).mono fun e W' ⟨a', c', he, ho, hb⟩ => ⟨a', c', he, h.own (by rw [← hS]; exact ho) hb⟩
theorem clone_st {w W : World} {L : List Sl} {a : Option Addr} {n c : Nat} {l : List Int} (h : St w W L) (hm : (a, n, c, l) ∈ L) (hn : n ≤ 1000) :
    Calls Try.prog 31 #[.slice a n c] W fun e W' => ∃ a' c', e = .returned (.slice a' n c') ∧ W'.ownsRow W.heap.size 5 1 (.slice a' n c') n (l.map (Value.int .u8)) ∧ Below W.heap.size W W' :=
  (clone_any W (h.get hm) (by omega) (Nat.le_refl _)).mono fun e W' ⟨a', c', he, ho, hb⟩ => ⟨a', c', he, ho, hb⟩
theorem equal_st {w W : World} {L : List Sl} {B1 B2 n1 n2 c1 c2 : Nat} {a1 a2 : Option Addr} {l1 l2 : List Int} (h : St w W L) (h1 : Nums .u8 W B1 a1 n1 c1 l1) (h2 : Nums .u8 W B2 a2 n2 c2 l2) (he : l1 = l2) :
    Calls Try.prog 12 #[.slice a1 n1 c1, .slice a2 n2 c2] W fun e W' => e = .returned (.bool true) ∧ St w W' L :=
  (equal_same W h1 h2 he).mono fun e W' ⟨he, m, hm⟩ => ⟨he, by subst hm; exact h.next (below_drewN (Below.refl _ _) m)⟩
theorem good_st {w W : World} {L : List Sl} {a : Option Addr} {n c k : Nat} {l l2 : List Int} (h : St w W L) (hm : (a, n, c, l) ∈ L) (hO : Oct l) (hn : n ≤ 2000) (hk : n = k + 2) (hg : sumB l = 61624) (hl : l.take k = l2) :
    Calls Try.prog 32 #[.slice a n c] W fun e W' => ∃ a' c', e = .returned (.tuple #[.slice a' k c', .bool true]) ∧ St w W' ((a', k, c', l2) :: L) :=
  (open_good W (h.get hm) hO hn (Nat.le_refl _) (by omega) hg).mono fun e W' ⟨a', c', he, ho, hb⟩ => by
    have e : n - 2 = k := by omega
    rw [e] at he ho
    rw [hl] at ho
    exact ⟨a', c', he, h.own ho hb⟩
theorem bad_st {w W : World} {L : List Sl} {a : Option Addr} {n c : Nat} {l : List Int} (h : St w W L) (hm : (a, n, c, l) ∈ L) (hO : Oct l) (hg : ¬ (2 ≤ n ∧ sumB l = 61624)) :
    Calls Try.prog 32 #[.slice a n c] W fun e W' => e = .returned (.tuple #[.slice none 0 0, .bool false]) ∧ St w W' L :=
  (open_bad W (h.get hm) hO hg).mono fun e W' ⟨he, hb⟩ => ⟨he, by rw [← hb]; exact h⟩
theorem alive_st {w W : World} {L : List Sl} (h : St w W L) : Calls Try.prog 29 #[] W fun e W' => e = .returned (.bool true) ∧ St w W' L :=
  (alive_any W).mono fun e W' ⟨he, hb⟩ => ⟨he, h.next hb⟩

/-! ### STEP 1: THE WALK: the Go text returns true, AND WRITES NOTHING THAT WAS THERE: 'Below w.heap.size w w'' (Derived/Below.lean: '.refl', '.alloc', '.drew', '.setCell' at a new block, '.trans'). Open each 'IsRow' by 'rcases' AHEAD of 'go_enter'; part every test ahead of the walk. -/
set_option maxHeartbeats 800000 in
theorem walk (a0 : Option Addr) (len0 cap0 : Nat) (z0 : List Int) (w : World) (w0 : IsRow .u8 w a0 len0 cap0 z0) :
    Calls Try.prog 7 #[.slice a0 len0 cap0] w fun e w' => e = .returned (.bool true) ∧ Below w.heap.size w w' := by
  obtain ⟨l, hN, hwf⟩ := row_nums w0
  have hO : Oct l := fun x hx => wf_u8 (hwf x hx)
  clear w0 hwf
  have hle := hN.le
  have hmx := hN.max
  unfold maxLen at hmx
  by_cases hbig : 1000 < len0
  · clear hN hO
    go_enter Try.func7, Try.ntmps7
    go_wp2
    go_ret
    exact ⟨rfl, Below.refl _ _⟩
  · obtain ⟨S, hS⟩ : ∃ S, sumB l = S := ⟨_, rfl⟩
    have hS1 : S < 65536 := by rw [← hS]; exact sumB_lt l
    have hG := sealed_good l hO
    have hLen := hN.len
    rw [hS] at hG
    have HS := hid hS
    have HG := hid hG
    have HO := hid hO
    have HL := hid hLen
    have s0 : St w w [(a0, len0, cap0, l)] := (St.start w).push hN
    clear hN hO hS hG hLen
    obtain ⟨i0, hi, hi0, hi1, hi2⟩ := info_parts Try.info_u8
    go_enter Try.func7, Try.ntmps7
    go_upto_region 6 with (first | (go_at_call 28; go_loud (refine (ref_st s0 m0 HO.out (by omega) HS.out).mono ?_); go_loud (rintro e wa ⟨rfl, s1⟩)) | (go_at_call 30; go_loud (refine (seal_st s1 m0 HO.out (by omega) HS.out).mono ?_); go_loud (rintro e wb ⟨ab, cb, rfl, s2⟩)) | (go_at_call 31; go_loud (refine (clone_st s2 m1 (by omega)).mono ?_); go_loud (rintro e wc ⟨ac, cc, rfl, hoc, hbc⟩); have hsz := hbc.size) | (at_builtin; go_loud (refine wpList_append_nums rfl (.tmp 21) _ 22 rfl wb.heap.size 5 i0 (.int .u8 0) 1 Try.underlying22 hi hi0 hi1 hi2 rfl _ len0 l rfl (hoc.alloc _) _ 2 2 _ _ rfl nums_two (by unfold maxLen; omega) (by omega) (by simp; omega) ?_); go_loud (intro vd wd g1 g2); have hb3 := own_below (hoc.alloc _) (hbc.alloc hsz _) g2 (by simp; omega); obtain ⟨ad, cd, rfl⟩ := own_slice g1; have s4 := s2.next hb3; have n4 := own_nums g1; clear g1 g2 hoc hbc hsz hb3) | (go_at_call 12; go_loud (refine (equal_st s4 (s4.get m0) n4 (by rw [seal_eq l S hS1 _ _ rfl rfl])).mono ?_); go_loud (rintro e we ⟨rfl, s5⟩)))
    by_cases hgood : 2 ≤ len0 ∧ S = 61624
    · obtain ⟨h2, rfl⟩ := hgood
      have hd : decide (2 ≤ (len0 : Int)) = true := by simp; omega
      have HT := hid (show (l ++ sealB 61624).take len0 = l by rw [← HL.out]; exact List.take_left' rfl)
      obtain ⟨k, hk⟩ : ∃ k, len0 = k + 2 := ⟨len0 - 2, by omega⟩
      have HK := hid hk
      have hk1 : (len0 : Int) - 2 = k := by omega
      clear hk
      go_upto_region 8 with (go_at_call 32; ((with_reducible refine (good_st s5 m0 HG.out.1 (by omega) rfl HG.out.2 HT.out).mono ?_); rintro e wf ⟨af, cf, rfl, s6⟩))
      go_upto_region 9 with (go_at_call 32; ((with_reducible refine (good_st s6 m2 HO.out (by omega) HK.out HS.out rfl).mono ?_); rintro e wg ⟨ag, cg, rfl, s7⟩))
      go_upto_region 10 with (go_at_call 28; ((with_reducible refine (ref_st s7 m3 HO.out (by omega) HS.out).mono ?_); rintro e wh ⟨rfl, s8⟩))
      go_upto_region 12 with (go_at_call 12; ((with_reducible refine (equal_st s8 (s8.get m0) ((s8.get m3).take (m := k) (by omega)) rfl).mono ?_); rintro e wi ⟨rfl, s9⟩))
      go_wp2_with (first | (go_at_call 12; ((with_reducible refine (equal_st s9 (s9.get m1) (s9.get m3) rfl).mono ?_); rintro e wj ⟨rfl, s10⟩)) | (go_at_call 29; ((with_reducible refine (alive_st s10).mono ?_); rintro e wj ⟨rfl, s11⟩)))
      go_ret
      exact ⟨rfl, s11.below⟩
    · have hbad : Hid (¬ (2 ≤ len0 ∧ sumB l = 61624)) := by rw [HS.out]; exact hgood
      have HT := hid (show (l ++ sealB S).take len0 = l by rw [← HL.out]; exact List.take_left' rfl)
      go_upto_region 8 with (go_at_call 32; ((with_reducible refine (good_st s5 m0 HG.out.1 (by omega) rfl HG.out.2 HT.out).mono ?_); rintro e wf ⟨af, cf, rfl, s6⟩))
      go_upto_region 9 with (go_at_call 32; ((with_reducible refine (bad_st s6 m2 HO.out hbad.out).mono ?_); rintro e wg ⟨rfl, s7⟩))
      by_cases h2 : 2 ≤ len0
      · have hd : ((S : Int) == 61624) = false := by simp; omega
        clear hgood
        go_wp2_with (first | (go_at_call 28; ((with_reducible refine (ref_st s7 m2 HO.out (by omega) HS.out).mono ?_); rintro e wh ⟨rfl, s8⟩)) | (go_at_call 12; ((with_reducible refine (equal_st s8 (s8.get m0) (s8.get m2) rfl).mono ?_); rintro e wj ⟨rfl, s10⟩)) | (go_at_call 29; ((with_reducible refine (alive_st s10).mono ?_); rintro e wj ⟨rfl, s11⟩)))
        go_ret
        exact ⟨rfl, s11.below⟩
      · have hd : decide (2 ≤ (len0 : Int)) = false := by simp; omega
        clear hgood
        go_wp2_with (first | (go_at_call 12; ((with_reducible refine (equal_st s7 (s7.get m0) (s7.get m2) rfl).mono ?_); rintro e wj ⟨rfl, s10⟩)) | (go_at_call 29; ((with_reducible refine (alive_st s10).mono ?_); rintro e wj ⟨rfl, s11⟩)))
        go_ret
        exact ⟨rfl, s11.below⟩

/-! ### THE ROW's STEP: WRITTEN OUT: LEAVE IT -/
set_option maxRecDepth 100000 in
theorem lifted (os : Os) (started : os.Started) (H : Type) (enc : TypeId × Value → H) :
    ReturnsInHanded {} Try.checked os 7 .any (Rows.fcsSealsSpec.pre6 enc Try.prog Try.f7 Rows.fcsSealsRow.domain false) (Rows.fcsSealsSpec.post enc Try.prog Try.f7 false true false false) := by
  refine returnsInHanded_of_change (C := Try.checked) own started (by kernel_rfl) Try.func7
    (ChangeSpec.witness6 (enc := enc) (C := Try.checked) false ⟨#[], #[.slice none 0 0], []⟩ 8 (by kernel_rfl) (by kernel_rfl) (by kernel_rfl) (by kernel_rfl)) ?_
  intro W base args ds gs before hval0 hW hcnd _
  have hval : ∀ (j : Nat) t v, Try.f7.params[j]? = some t → args[j]? = some v → Value.okWide Try.prog W .any base t v := hval0
  have hW' := hW
  obtain ⟨p, q, hA0, hV, rfl, hfz, hnd⟩ := hW
  have hA : DataW.TrodAll enc Try.prog W 0 (fun _ => true) true Try.f7.params.toList args.toList ds p := hA0
  rw [Try.params7] at hA hval
  obtain ⟨v0, vs0, d0, ds0, p0, q0, hargs, rfl, rfl, h0, r0⟩ := trodAll_cons hA
  obtain ⟨rfl, rfl, rfl⟩ := trodAll_nil r0
  obtain rfl : args = #[v0] := by cases args; simp_all
  obtain ⟨rfl, rfl⟩ := trodVars_none hV
  obtain ⟨a0, len0, cap0, rfl⟩ := okWide_slice Try.underlying22 (hval 0 22 v0 rfl rfl)
  have k0 := h0
  have lt0 : ∀ x ∈ p0, x.block < W.heap.size := by obtain ⟨m, hm⟩ := k0; exact DataW.trod_lt m _ _ _ hm
  obtain ⟨z0, w0⟩ : ∃ zs, IsRow .u8 W a0 len0 cap0 zs := by
    obtain ⟨fuel, hf⟩ := h0
    rcases open_ints Try.underlying22 Try.underlying5 (by kernel_rfl) hf with ⟨hcs, _⟩ | ⟨x, l, c, zs, hcs, _, hl, hm, hz, _, hcell, hwz⟩
    · simp [Value.cells] at hcs
      obtain ⟨rfl, rfl, rfl⟩ := hcs
      exact ⟨[], .inl ⟨rfl, rfl, rfl, rfl⟩⟩
    · simp [Value.cells] at hcs
      obtain ⟨rfl, rfl, rfl⟩ := hcs
      exact ⟨zs, .inr ⟨_, rfl, hl, hm, by simpa using hz, hcell, hwz⟩⟩
  clear hA0 hval0
  refine (walk a0 len0 cap0 z0 W w0).mono fun e W' ⟨he, bel⟩ => ?_
  subst he
  exact ⟨_, rfl, _, _, _, [], _, [], hW', trodAll_mk1 (shut_bool Try.underlying4 _), (trodAll_cons_mk (Below.trod laidOut (by kernel_rfl) (of_decide_eq_true (by kernel_rfl)) k0 bel lt0) trodAll_mk0), rfl, bel.frame _, fun h => by cases h⟩

theorem over : Rows.fcsSealsRow.holds Try.pinned (OpenSpec.ofChange Rows.fcsSealsSpec) :=
  OpenClaim.holds_of_wide 7 Try.f7 rfl rfl rfl rfl rfl rfl rfl ⟨rfl, rfl, rfl, rfl, rfl⟩ rfl rfl rfl rfl rfl (by kernel_rfl) Try.func7 (by kernel_rfl)
    (of_decide_eq_true (by kernel_rfl)) (by unfold Func.isWrapper; first | (rw [if_pos (by decide +kernel)]; kernel_rfl) | (rw [if_neg (by decide +kernel)]; exact ⟨rfl, rfl⟩))
    (fun os started H enc _ => lifted os started H enc)

/-- ████ THE STATEMENT ████ -/
theorem proved : Rows.FcsSealsSaid := over
end Go.Proofs.Ytmoolhneofbfdaa.fcsSeals
