/- catwalklaw05.SumOf answers true at every input, and leaves its arguments as they were. No condition. -/
import Derived.Test.YtgegejdkehbeeaaRows
import Derived.WalkKit
import Derived.ProofKit
import Derived.OpenShut
import Derived.ShutString
import Derived.ChangeOld
import Derived.Below
import Derived.Test.YtgegejdkehbeeaaSumLaw
import Derived.Test.YtgegejdkehbeeaaSt
import Derived.Test.YtgegejdkehbeeaaRegion
import Derived.Test.YtgegejdkehbeeaaSlice8
import Derived.Deep.DeepCutAuto
namespace Go.Proofs.Ytgegejdkehbeeaa.sumOf
open Go.ChangeShapes Go.WideShapes Go.ChangeAt Go.RowKit
open Go.ChangeMaps (open_string shut_string)
set_option linter.unusedVariables false

theorem own : ownKnob Try.prog.godebug = none := by kernel_rfl
theorem laidOut : laidOutB Try.prog = true := by kernel_rfl

/-- WHAT THE WALK IS TOLD OF A SLICE OF INTEGERS THAT CAME IN: it is nil; or it leads to a row of 'cap' cells, the numbers 'zs' (the first 'len' are its elements, the rest its spare room), each fitting its kind. -/
def IsRow (k : IntKind) (w : World) (a : Option Addr) (len cap : Nat) (zs : List Int) : Prop :=
  (a = none ∧ len = 0 ∧ cap = 0 ∧ zs = []) ∨
  ∃ x, a = some x ∧ len ≤ cap ∧ cap ≤ maxLen ∧ zs.length = cap ∧ (∀ i, i < zs.length → w.cell? (x.add i) = some (.int k (zs.getD i 0))) ∧ ∀ n ∈ zs, (Lit.int k n).wf = true

open Go.Proofs.Ytgegejdkehbeeaa.kit Go.Proofs.Ytgegejdkehbeeaa.sm Go.Proofs.Ytgegejdkehbeeaa.sc
theorem cut_sum (l : List Int) (n m : Nat) (h : l.length = n) (hm : m ≤ n) : 65535 - fd (fd (tot (l.take m) 0 m) + tot (l.drop m) m (n - m)) = chk l := by
  unfold chk sumOf
  rw [fd_add, tot_take l 0 m m (Nat.le_refl _), h]
  have := tot_add l 0 m (n - m)
  rw [show m + (n - m) = n by omega] at this
  rw [this, Nat.zero_add]
theorem ref_is {B n cap : Nat} {a : Option Addr} {l : List Int} (w : World) (h : Nums .u8 w B a n cap l) (hO : Oct l) (hn : n ≤ 2000) (hB : B ≤ w.heap.size) (x : Nat) (hx : chk l = x) :
    Calls Try.prog 16 #[.slice a n cap] w fun e w' => e = .returned (.int .i64 x) ∧ Below w.heap.size w w' := by rw [← hx]; exact ref_of w h hO hn hB
theorem right_is {B n cap : Nat} {a : Option Addr} {l : List Int} (w : World) (h : Nums .u8 w B a n cap l) (hO : Oct l) (hB : B ≤ w.heap.size) (q : Bool) (hq : (chk l == 0) = q) :
    Calls Try.prog 18 #[.slice a n cap] w fun e w' => e = .returned (.bool q) ∧ Below w.heap.size w w' := by rw [← hq]; exact right_any w h hO hB
theorem value_is (F : Nat) (o : Bool) (hF : F ≤ 65535) (w : World) (x : Nat) (hx : 65535 - F = x) :
    Calls Try.prog 15 #[sv F o] w fun e w' => e = .returned (.int .u16 x) ∧ Below w.heap.size w w' := by rw [← hx]; exact value_any F o hF w
theorem sv0 : Value.agg #[.int .u32 0, .bool false] = sv 0 false := rfl

/-! ### STEP 1: THE WALK: the Go text returns true, AND WRITES NOTHING THAT WAS THERE: 'Below w.heap.size w w'' (Derived/Below.lean: '.refl', '.alloc', '.drew', '.setCell' at a new block, '.trans'). Open each 'IsRow' by 'rcases' AHEAD of 'go_enter'; part every test ahead of the walk. -/
set_option maxHeartbeats 800000 in
theorem walk (a0 : Option Addr) (len0 cap0 : Nat) (z0 : List Int) (a1 : Int) (w : World) (w0 : IsRow .u8 w a0 len0 cap0 z0) (w1 : (Lit.int .i64 a1).wf = true) :
    Calls Try.prog 4 #[.slice a0 len0 cap0, .int .i64 a1] w fun e w' => e = .returned (.bool true) ∧ Below w.heap.size w w' := by
  obtain ⟨l, hN, hwf⟩ := row_nums w0
  have hO : Oct l := fun x hx => wf_u8 (hwf x hx)
  clear w0 hwf
  have hle := hN.le
  have hmx := hN.max
  unfold maxLen at hmx
  by_cases hbig : 2000 < len0
  · clear hN hO
    go_enter Try.func4, Try.ntmps4
    go_wp2
    go_ret
    exact ⟨rfl, Below.refl _ _⟩
  · have HN := hid hN
    have HO := hid hO
    have HL := hid hN.len
    clear hN hO
    obtain ⟨c, hc⟩ : ∃ c, chk l = c := ⟨_, rfl⟩
    have hc1 : c ≤ 65535 := by rw [← hc]; exact chk_le _
    have HC := hid hc
    clear hc
    go_enter Try.func4, Try.ntmps4
    go_upto_region 4 with fail
    have hx0 : 0 ≤ (if a1 < 0 then (0 : Int) else a1) := by split <;> omega
    generalize (if a1 < 0 then (0 : Int) else a1) = x at hx0 ⊢
    obtain ⟨m, hm, hml⟩ : ∃ m : Nat, (if (len0 : Int) < x then (len0 : Int) else x) = (m : Int) ∧ m ≤ len0 := by
      refine ⟨(if (len0 : Int) < x then (len0 : Int) else x).toNat, ?_, ?_⟩ <;> split <;> omega
    rw [hm]
    clear hm
    have r1 := slice_to a0 len0 cap0 m (by omega)
    obtain ⟨a', r2, hz1, hz2⟩ := slice_from a0 len0 cap0 m (by omega)
    have N1 := hid (HN.out.take (m := m) hml)
    have N2 := hid (HN.out.drop (m := m) hml hz1 hz2)
    have O1 := hid (show Oct (l.take m) from fun x hx => HO.out x (List.mem_of_mem_take hx))
    have O2 := hid (show Oct (l.drop m) from fun x hx => HO.out x (List.mem_of_mem_drop hx))
    have HS := hid (cut_sum l len0 m HL.out hml)
    rw [HC.out] at HS
    clear hz1 hz2
    have HM := hid (show ((0 + m) % 2 == 1) = (m % 2 == 1) by rw [Nat.zero_add])
    have HB0 := hid ((Below.refl w.heap.size w).drew)
    go_region_with (first | (go_at_call 14; (with_reducible refine (add_is _ (N1.out.below HB0.out) O1.out 0 0 _ false (m % 2 == 1) _ sv0 rfl HM.out rfl (Nat.zero_le _) (Nat.le_refl _)).mono ?_); rintro e wa ⟨rfl, ba⟩; have ba : Below w.heap.size w wa := HB0.out.trans ba) | (go_at_call 14; (with_reducible refine (add_is _ (N2.out.below ba) O2.out _ m _ _ _ _ rfl rfl rfl rfl (fd_le _) ba.size).mono ?_); rintro e wb ⟨rfl, bb⟩) | (go_at_call 15; (with_reducible refine (value_is _ _ (fd_le _) _ c HS.out).mono ?_); rintro e wc ⟨rfl, bc⟩))
    have BC := hid ((ba.trans (bb.mono ba.size)).trans (bc.mono (Nat.le_trans ba.size bb.size)))
    clear ba bb bc r1 r2
    go_wp2_with (first | (go_at_call 16; (with_reducible refine (ref_is _ (HN.out.below BC.out) HO.out (by omega) BC.out.size c HC.out).mono ?_); rintro e wd ⟨rfl, bd⟩; have BD := hid (BC.out.trans (bd.mono BC.out.size)); clear bd) | (go_at_call 17; (with_reducible refine (of_is _ (HN.out.below BD.out) HO.out BD.out.size c (by rw [HC.out])).mono ?_); rintro e we ⟨rfl, be⟩; have BE := hid (BD.out.trans (be.mono BD.out.size)); clear be) | (go_at_call 18; (with_reducible refine (right_is _ (HN.out.below BE.out) HO.out BE.out.size ((c : Int) == 0) (by rw [HC.out, Bool.eq_iff_iff, beq_iff_eq, beq_iff_eq]; omega)).mono ?_); rintro e wf ⟨rfl, bf⟩; have BF := hid (BE.out.trans (bf.mono BE.out.size)); clear bf) | (go_at_call 19; (with_reducible refine (alive_any _).mono ?_); rintro e wg ⟨rfl, bg⟩))
    go_ret
    exact ⟨rfl, BF.out.trans (bg.mono BF.out.size)⟩

/-! ### THE ROW's STEP: WRITTEN OUT: LEAVE IT -/
set_option maxRecDepth 100000 in
theorem lifted (os : Os) (started : os.Started) (H : Type) (enc : TypeId × Value → H) :
    ReturnsInHanded {} Try.checked os 4 .any (Rows.sumOfSpec.pre6 enc Try.prog Try.f4 Rows.sumOfRow.domain false) (Rows.sumOfSpec.post enc Try.prog Try.f4 false true false false) := by
  refine returnsInHanded_of_change (C := Try.checked) own started (by kernel_rfl) Try.func4
    (ChangeSpec.witness6 (enc := enc) (C := Try.checked) false ⟨#[], #[.slice none 0 0, .int .i64 0], []⟩ 8 (by kernel_rfl) (by kernel_rfl) (by kernel_rfl) (by kernel_rfl)) ?_
  intro W base args ds gs before hval0 hW hcnd _
  have hval : ∀ (j : Nat) t v, Try.f4.params[j]? = some t → args[j]? = some v → Value.okWide Try.prog W .any base t v := hval0
  have hW' := hW
  obtain ⟨p, q, hA0, hV, rfl, hfz, hnd⟩ := hW
  have hA : DataW.TrodAll enc Try.prog W 0 (fun _ => true) true Try.f4.params.toList args.toList ds p := hA0
  rw [Try.params4] at hA hval
  obtain ⟨v0, vs0, d0, ds0, p0, q0, hargs, rfl, rfl, h0, r0⟩ := trodAll_cons hA
  obtain ⟨v1, vs1, d1, ds1, p1, q1, rfl, rfl, rfl, h1, r1⟩ := trodAll_cons r0
  obtain ⟨rfl, rfl, rfl⟩ := trodAll_nil r1
  obtain rfl : args = #[v0, v1] := by cases args; simp_all
  obtain ⟨rfl, rfl⟩ := trodVars_none hV
  obtain ⟨a0, len0, cap0, rfl⟩ := okWide_slice Try.underlying27 (hval 0 27 v0 rfl rfl)
  have k0 := h0
  have lt0 : ∀ x ∈ p0, x.block < W.heap.size := by obtain ⟨m, hm⟩ := k0; exact DataW.trod_lt m _ _ _ hm
  obtain ⟨z0, w0⟩ : ∃ zs, IsRow .u8 W a0 len0 cap0 zs := by
    obtain ⟨fuel, hf⟩ := h0
    rcases open_ints Try.underlying27 Try.underlying5 (by kernel_rfl) hf with ⟨hcs, _⟩ | ⟨x, l, c, zs, hcs, _, hl, hm, hz, _, hcell, hwz⟩
    · simp [Value.cells] at hcs
      obtain ⟨rfl, rfl, rfl⟩ := hcs
      exact ⟨[], .inl ⟨rfl, rfl, rfl, rfl⟩⟩
    · simp [Value.cells] at hcs
      obtain ⟨rfl, rfl, rfl⟩ := hcs
      exact ⟨zs, .inr ⟨_, rfl, hl, hm, by simpa using hz, hcell, hwz⟩⟩
  obtain ⟨a1, rfl, rfl, rfl, w1⟩ := open_int Try.underlying3 (hval 1 3 v1 rfl rfl) h1
  clear hA0 hval0
  refine (walk a0 len0 cap0 z0 a1 W w0 w1).mono fun e W' ⟨he, bel⟩ => ?_
  subst he
  exact ⟨_, rfl, _, _, _, [], _, [], hW', trodAll_mk1 (shut_bool Try.underlying4 _), (trodAll_cons_mk (Below.trod laidOut (by kernel_rfl) (of_decide_eq_true (by kernel_rfl)) k0 bel lt0) (trodAll_cons_mk (shut_int Try.underlying3 w1) trodAll_mk0)), rfl, bel.frame _, fun h => by cases h⟩

theorem over : Rows.sumOfRow.holds Try.pinned (OpenSpec.ofChange Rows.sumOfSpec) :=
  OpenClaim.holds_of_wide 4 Try.f4 rfl rfl rfl rfl rfl rfl rfl ⟨rfl, rfl, rfl, rfl, rfl⟩ rfl rfl rfl rfl rfl (by kernel_rfl) Try.func4 (by kernel_rfl)
    (of_decide_eq_true (by kernel_rfl)) (by unfold Func.isWrapper; first | (rw [if_pos (by decide +kernel)]; kernel_rfl) | (rw [if_neg (by decide +kernel)]; exact ⟨rfl, rfl⟩))
    (fun os started H enc _ => lifted os started H enc)

/-- ████ THE STATEMENT ████ -/
theorem proved : Rows.SumOfSaid := over
end Go.Proofs.Ytgegejdkehbeeaa.sumOf
