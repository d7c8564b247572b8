/- catwalklaw09.FcsFinds answers true at every input, and leaves its arguments as they were. No condition. -/
import Derived.Test.YtmoolhneofbfdaaRows
import Derived.WalkKit
import Derived.ProofKit
import Derived.OpenShut
import Derived.ShutString
import Derived.ChangeOld
import Derived.Below
import Derived.Test.YtmoolhneofbfdaaFcs
import Derived.Deep.DeepCutAuto
import Derived.RegionTactic
import Derived.ChangeAlike
namespace Go.Proofs.Ytmoolhneofbfdaa.fcsFinds
open Go.ChangeShapes Go.WideShapes Go.ChangeAt Go.RowKit
open Go.ChangeMaps (open_string shut_string)
set_option linter.unusedVariables false

theorem own : ownKnob Try.prog.godebug = none := by kernel_rfl
theorem laidOut : laidOutB Try.prog = true := by kernel_rfl

/-- WHAT THE WALK IS TOLD OF A SLICE OF INTEGERS THAT CAME IN: it is nil; or it leads to a row of 'cap' cells, the numbers 'zs' (the first 'len' are its elements, the rest its spare room), each fitting its kind. -/
def IsRow (k : IntKind) (w : World) (a : Option Addr) (len cap : Nat) (zs : List Int) : Prop :=
  (a = none ∧ len = 0 ∧ cap = 0 ∧ zs = []) ∨
  ∃ x, a = some x ∧ len ≤ cap ∧ cap ≤ maxLen ∧ zs.length = cap ∧ (∀ i, i < zs.length → w.cell? (x.add i) = some (.int k (zs.getD i 0))) ∧ ∀ n ∈ zs, (Lit.int k n).wf = true

open Go.Proofs.Ytmoolhneofbfdaa.kit Go.Proofs.Ytmoolhneofbfdaa.fcc Go.Proofs.Ytmoolhneofbfdaa.fcm
/-- the bits of L are those of l0, but for those of the first i of the mask's that were turned from p on */ -/
def Flip (l0 L : List Int) (p i m : Nat) : Prop := L.length = l0.length ∧ Oct L ∧ ∀ j, j < 8 * l0.length → bitOf L j = (bitOf l0 j ^^ (decide (p ≤ j ∧ j < p + i) && m.testBit (j - p)))
theorem Flip.start (l0 : List Int) (p m : Nat) (h : Oct l0) : Flip l0 l0 p 0 m := ⟨rfl, h, fun j hj => by
  have e : decide (p ≤ j ∧ j < p + 0) = false := by rw [decide_eq_false_iff_not]; omega
  rw [e]; simp⟩
theorem Flip.skip {l0 L : List Int} {p i m : Nat} (h : Flip l0 L p i m) (hb : m.testBit i = false) : Flip l0 L p (i + 1) m := by
  refine ⟨h.1, h.2.1, fun j hj => ?_⟩
  rw [h.2.2 j hj]
  congr 1
  by_cases e : j = p + i
  · subst e; rw [show p + i - p = i by omega, hb]; simp
  · congr 1; rw [decide_eq_decide]; omega
theorem Flip.turn {l0 L : List Int} {p i m q r x : Nat} (h : Flip l0 L p i m) (hb : m.testBit i = true) (hx : L.getD q 0 = x) (hx1 : x < 256) (hq : q < L.length) (hr : r < 8) (hp : p + i = 8 * q + r) :
    Flip l0 (L.set q ((x ^^^ 2 ^ r : Nat) : Int)) p (i + 1) m := by
  have hr2 : 2 ^ r < 256 := Nat.pow_lt_pow_right (by decide) (by omega : r < 8)
  refine ⟨by rw [List.length_set]; exact h.1, ?_, fun j hj => ?_⟩
  · intro y hy
    rcases List.mem_or_eq_of_mem_set hy with h1 | h1
    · exact h.2.1 y h1
    · have := Nat.xor_lt_two_pow (n := 8) (by omega : x < 2 ^ 8) (by omega : 2 ^ r < 2 ^ 8); subst h1; omega
  · have e1 : bitOf (L.set q ((x ^^^ 2 ^ r : Nat) : Int)) j = (bitOf L j ^^ decide (j = p + i)) := by
      unfold bitOf
      rw [List.getD_eq_getElem?_getD, List.getD_eq_getElem?_getD]
      by_cases e : j / 8 = q
      · subst e
        rw [List.getElem?_set_self hq]
        rw [List.getD_eq_getElem?_getD] at hx
        rw [hx]
        simp only [Option.getD_some, Int.toNat_natCast, Nat.testBit_xor, Nat.testBit_two_pow]
        congr 1
        rw [decide_eq_decide]; omega
      · rw [List.getElem?_set_ne (by omega)]
        have : decide (j = p + i) = false := by simp; omega
        rw [this, Bool.xor_false]
    rw [e1, h.2.2 j hj, Bool.xor_assoc]
    congr 1
    by_cases e : j = p + i
    · subst e; rw [show p + i - p = i by omega, hb]; simp
    · have e2 : decide (j = p + i) = false := by simp; omega
      rw [e2, Bool.xor_false]
      congr 1; rw [decide_eq_decide]; omega
/-- what was turned isn't right -/
theorem Flip.bad {l0 L : List Int} {p m : Nat} (h : Flip l0 L p 16 m) (hm : m < 65536) (h0 : m ≠ 0) (hp : p + 16 ≤ 8 * l0.length) (hg : sumB l0 = 61624) : sumB L ≠ 61624 := by
  rw [← hg]
  unfold sumB
  rw [h.1]
  refine crc_turned 65535 (bitOf l0) (bitOf L) (8 * l0.length) p m hm h0 hp fun i hi => ?_
  rw [h.2.2 i hi]
  congr 1
  by_cases e : p ≤ i
  · by_cases e2 : i < p + 16
    · simp [e, e2]
    · have : m.testBit (i - p) = false := Nat.testBit_lt_two_pow (Nat.lt_of_lt_of_le hm (Nat.le_trans (by decide : 65536 ≤ 2 ^ 16) (Nat.pow_le_pow_right (by decide) (by omega))))
      simp [this]
  · simp [e]
theorem own_some {w : World} {base : Nat} {e : TypeId} {size : Nat} {a : Option Addr} {n c : Nat} {xs : List Value} (h : w.ownsRow base e size (.slice a n c) n xs) (hp : 0 < n) : ∃ g, a = some ⟨g, 0, none⟩ ∧ base ≤ g ∧ g < w.heap.size := by
  rcases h.2 with ⟨_, hn⟩ | ⟨g, c', _, hv, hbg, hg, _⟩
  · omega
  · injection hv with h1 h2 h3
    exact ⟨g, h1, hbg, (Array.getElem?_eq_some_iff.1 hg).1⟩
theorem mask_bit (m i : Nat) (h : m < 65536) : (bits BinOp.and IntKind.u16 ((m : Int) / 2 ^ i) 1 == 1) = m.testBit i := by
  have e : (m : Int) / 2 ^ i = ((m / 2 ^ i : Nat) : Int) := by push_cast; rfl
  have h2 : m / 2 ^ i < 65536 := Nat.lt_of_le_of_lt (Nat.div_le_self _ _) h
  rw [e]
  have := u16_and_nat (m / 2 ^ i) 1 h2 (by decide)
  rw [show ((1 : Nat) : Int) = 1 from rfl] at this
  rw [this, nat_mask1, Nat.testBit_eq_decide_div_mod_eq, Bool.eq_iff_iff]
  simp
  omega
theorem xor_pow (x r : Nat) (hx : x < 256) (hr : r < 8) : bits BinOp.xor IntKind.u8 (x : Int) (2 ^ r % 256) = ((x ^^^ 2 ^ r : Nat) : Int) := by
  have hr2 : 2 ^ r < 256 := Nat.pow_lt_pow_right (by decide) (by omega : r < 8)
  have h := u8_xor_nat x (2 ^ r) hx hr2
  have e : (2 : Int) ^ r % 256 = ((2 ^ r : Nat) : Int) := by
    have e3 : (2 : Int) ^ r = ((2 ^ r : Nat) : Int) := by push_cast; rfl
    rw [e3]; generalize 2 ^ r = y at *; omega
  rw [e]; exact h
theorem sealed_good (l : List Int) (h : Oct l) : Oct (l ++ sealB (sumB l)) ∧ sumB (l ++ sealB (sumB l)) = 61624 := by
  have hs := sumB_lt l
  constructor
  · intro x hx
    rcases List.mem_append.1 hx with h1 | h1
    · exact h x h1
    · unfold sealB at h1
      simp only [List.mem_cons, List.not_mem_nil, or_false] at h1
      rcases h1 with h1 | h1 <;> (subst h1; omega)
  · have e := crc_append 65535 l (sealB (sumB l))
    unfold sumB at *
    rw [List.length_append, e]
    exact crc_seal _ hs


/-! ### STEP 1: THE WALK: the Go text returns true, AND WRITES NOTHING THAT WAS THERE: 'Below w.heap.size w w'' (Derived/Below.lean: '.refl', '.alloc', '.drew', '.setCell' at a new block, '.trans'). Open each 'IsRow' by 'rcases' AHEAD of 'go_enter'; part every test ahead of the walk. -/
set_option maxHeartbeats 4000000 in
theorem walk (a0 : Option Addr) (len0 cap0 : Nat) (z0 : List Int) (a1 : Int) (a2 : Int) (w : World) (w0 : IsRow .u8 w a0 len0 cap0 z0) (w1 : (Lit.int .i64 a1).wf = true) (w2 : (Lit.int .u16 a2).wf = true) :
    Calls Try.prog 8 #[.slice a0 len0 cap0, .int .i64 a1, .int .u16 a2] w fun e w' => e = .returned (.bool true) ∧ Below w.heap.size w w' := by
  obtain ⟨l, hN, hwf⟩ := row_nums w0
  have hmk := wf_u16 w2
  have hat := wf_i64 w1
  have hO : Oct l := fun x hx => wf_u8 (hwf x hx)
  clear w0 w1 w2 hwf
  have hlen := hN.len
  have hle := hN.le
  have hmx := hN.max
  unfold maxLen at hmx
  by_cases hbig : 500 < len0
  · clear hN hO hlen
    go_enter Try.func8, Try.ntmps8
    go_wp2
    go_ret
    exact ⟨rfl, Below.refl _ _⟩
  · by_cases hm0 : a2 = 0
    · have hm0' : (a2 == 0) = true := by simp [hm0]
      clear hN hO hlen hm0
      go_enter Try.func8, Try.ntmps8
      go_wp2
      go_ret
      exact ⟨rfl, Below.refl _ _⟩
    · have hm0' : (a2 == 0) = false := by simp [hm0]
      have HN := hid hN
      have HO := hid hO
      have HL := hid hlen
      clear hN hO hlen hm0
      go_enter Try.func8, Try.ntmps8
      go_upto_region 7 with (first | (go_at_call 30; go_loud (refine (seal_any w HN.out HO.out (by omega) (Nat.le_refl _)).mono ?_); go_loud (rintro e wa ⟨aa, ca, rfl, h1, h2⟩)))
      obtain ⟨L0, hL0⟩ : ∃ L0, L0 = l ++ sealB (sumB l) := ⟨_, rfl⟩
      rw [← hL0] at h1
      have hG := sealed_good l HO.out
      rw [← hL0] at hG
      have hL0n : L0.length = len0 + 2 := by rw [hL0, List.length_append, HL.out]; rfl
      have HG := hid hG
      have HL0n := hid hL0n
      clear hL0 hG hL0n
      obtain ⟨m, rfl⟩ : ∃ m : Nat, a2 = m := ⟨a2.toNat, by omega⟩
      go_cut [9] (fun s9 wx => wx = wa ∧ ∃ p : Nat, p ≤ 8 * len0 ∧ s9 = .int .i64 p)
      case first =>
        go_wp2_with fail
        all_goals go_meet
        all_goals refine ⟨rfl, ?_⟩
        all_goals first | exact ⟨8 * len0, by omega, by congr 1; omega⟩ | exact ⟨a1.toNat, by omega, by congr 1; omega⟩ | exact ⟨0, by omega, by congr 1⟩ | exact ⟨(if a1 < 0 then 0 else a1).toNat, by split <;> omega, by congr 1; split <;> omega⟩
      case rest =>
        obtain ⟨rfl, p, hp, rfl⟩ := hcut
        go_wp2_with fail
        go_loopw [10] (fun iv wr => ∃ (i : Nat) (L : List Int), i ≤ 16 ∧ iv = .int .i64 i ∧ Flip L0 L p i m ∧ wr.ownsRow w.heap.size 5 1 (.slice aa (len0 + 2) ca) (len0 + 2) (L.map (Value.int .u8)) ∧ Below w.heap.size w wr) (fun iv _ => 16 - (intOf iv).toNat)
        case atStart => exact ⟨0, L0, by omega, rfl, Flip.start _ _ _ HG.out.1, h1, h2⟩
        case round =>
          clear h1 h2
          obtain ⟨i, L, hi, rfl, hF, hown, hb⟩ := hrel
          by_cases hlt : i < 16
          · cases hbit : m.testBit i with
            | false =>
              have hmb := mask_bit m i (by omega)
              rw [hbit] at hmb
              have HF := hid (hF.skip hbit)
              clear hF hbit
              go_wp2_with fail
              go_roundw
              case rel => exact ⟨i + 1, L, by omega, by go_num, HF.out, hown, hb⟩
              case measure => simp [intOf]; omega
            | true =>
              have hmb := mask_bit m i (by omega)
              rw [hbit] at hmb
              obtain ⟨g, rfl, hg1, hg2⟩ := own_some hown (by omega)
              obtain ⟨q, r, hr, hqr⟩ : ∃ q r : Nat, r < 8 ∧ p + i = 8 * q + r := ⟨(p + i) / 8, (p + i) % 8, by omega, by omega⟩
              have hLn : L.length = len0 + 2 := by rw [hF.1]; exact HL0n.out
              have hx0 := hF.2.1.at q
              obtain ⟨x, hx⟩ : ∃ x : Nat, L.getD q 0 = x := ⟨(L.getD q 0).toNat, by omega⟩
              have HF := hid (hF.turn hbit hx (by omega) (by omega) hr hqr)
              have hcell : wr.cell? ⟨g, q, none⟩ = some (.int .u8 x) := by
                rw [hown.cellAt _ (by omega), List.getElem?_map, List.getElem?_eq_getElem (by omega)]
                rw [List.getD_eq_getElem?_getD, List.getElem?_eq_getElem (by omega)] at hx
                simp at hx
                simp [hx]
              have hfr := hown.frozenAt q
              have hS := hown.stored q (.int .u8 ((x ^^^ 2 ^ r : Nat) : Int))
              have hr2 : 2 ^ r < 256 := Nat.pow_lt_pow_right (by decide) (by omega : r < 8)
              have HXR := hid (xor_pow x r (by omega) hr)
              have hsum : (p : Int) + i = 8 * q + r := by omega
              have hsum2 : IntKind.i64.wrap ((p : Int) + i) = 8 * q + r := by rw [IntWalk.i64_in _ (by omega)]; omega
              have hdiv : (8 * (q : Int) + r) / 8 = q := by omega
              have hmod : (8 * (q : Int) + r) % 8 = r := by omega
              have HS := hid hS
              have HX := hid hx
              clear hS hx hF hbit hqr hx0
              go_wp2_with fail
              go_region
              rw [HXR.out]
              have hS1 := HS.out.1
              rw [← List.map_set] at hS1
              have hb2 := gb_below hb HS.out.2 hb.size hg1
              have HS1 := hid hS1
              have HB2 := hid hb2
              clear hS1 hb2 hcell hfr
              go_wp2_with fail
              go_roundw
              case rel => exact ⟨i + 1, _, by omega, by go_num, HF.out, HS1.out.drew, HB2.out.drew⟩
              case measure => simp [intOf]; omega
          · obtain rfl : i = 16 := by omega
            have hbad := hF.bad (by omega) (by intro h0; subst h0; simp at hm0') (by rw [HL0n.out]; omega) HG.out.2
            have HF := hid hF
            have HBAD := hid hbad
            clear hF hbad
            go_wp2_with (first | (go_at_call 32; go_loud (refine (open_bad _ (own_nums hown) HF.out.2.1 (fun h => HBAD.out h.2)).mono ?_); go_loud (rintro e wb ⟨rfl, rfl⟩)) | (go_at_call 29; go_loud (refine (alive_any _).mono ?_); go_loud (rintro e wb ⟨rfl, h11⟩)))
            go_ret
            exact ⟨rfl, hb.trans (h11.mono hb.size)⟩

/-! ### THE ROW's STEP: WRITTEN OUT: LEAVE IT -/
set_option maxRecDepth 100000 in
theorem lifted (os : Os) (started : os.Started) (H : Type) (enc : TypeId × Value → H) :
    ReturnsInHanded {} Try.checked os 8 .any (Rows.fcsFindsSpec.pre6 enc Try.prog Try.f8 Rows.fcsFindsRow.domain false) (Rows.fcsFindsSpec.post enc Try.prog Try.f8 false true false false) := by
  refine returnsInHanded_of_change (C := Try.checked) own started (by kernel_rfl) Try.func8
    (ChangeSpec.witness6 (enc := enc) (C := Try.checked) false ⟨#[], #[.slice none 0 0, .int .i64 0, .int .u16 0], []⟩ 8 (by kernel_rfl) (by kernel_rfl) (by kernel_rfl) (by kernel_rfl)) ?_
  intro W base args ds gs before hval0 hW hcnd _
  have hval : ∀ (j : Nat) t v, Try.f8.params[j]? = some t → args[j]? = some v → Value.okWide Try.prog W .any base t v := hval0
  have hW' := hW
  obtain ⟨p, q, hA0, hV, rfl, hfz, hnd⟩ := hW
  have hA : DataW.TrodAll enc Try.prog W 0 (fun _ => true) true Try.f8.params.toList args.toList ds p := hA0
  rw [Try.params8] at hA hval
  obtain ⟨v0, vs0, d0, ds0, p0, q0, hargs, rfl, rfl, h0, r0⟩ := trodAll_cons hA
  obtain ⟨v1, vs1, d1, ds1, p1, q1, rfl, rfl, rfl, h1, r1⟩ := trodAll_cons r0
  obtain ⟨v2, vs2, d2, ds2, p2, q2, rfl, rfl, rfl, h2, r2⟩ := trodAll_cons r1
  obtain ⟨rfl, rfl, rfl⟩ := trodAll_nil r2
  obtain rfl : args = #[v0, v1, v2] := by cases args; simp_all
  obtain ⟨rfl, rfl⟩ := trodVars_none hV
  obtain ⟨a0, len0, cap0, rfl⟩ := okWide_slice Try.underlying22 (hval 0 22 v0 rfl rfl)
  have k0 := h0
  have lt0 : ∀ x ∈ p0, x.block < W.heap.size := by obtain ⟨m, hm⟩ := k0; exact DataW.trod_lt m _ _ _ hm
  obtain ⟨z0, w0⟩ : ∃ zs, IsRow .u8 W a0 len0 cap0 zs := by
    obtain ⟨fuel, hf⟩ := h0
    rcases open_ints Try.underlying22 Try.underlying5 (by kernel_rfl) hf with ⟨hcs, _⟩ | ⟨x, l, c, zs, hcs, _, hl, hm, hz, _, hcell, hwz⟩
    · simp [Value.cells] at hcs
      obtain ⟨rfl, rfl, rfl⟩ := hcs
      exact ⟨[], .inl ⟨rfl, rfl, rfl, rfl⟩⟩
    · simp [Value.cells] at hcs
      obtain ⟨rfl, rfl, rfl⟩ := hcs
      exact ⟨zs, .inr ⟨_, rfl, hl, hm, by simpa using hz, hcell, hwz⟩⟩
  obtain ⟨a1, rfl, rfl, rfl, w1⟩ := open_int Try.underlying3 (hval 1 3 v1 rfl rfl) h1
  obtain ⟨a2, rfl, rfl, rfl, w2⟩ := open_int Try.underlying48 (hval 2 48 v2 rfl rfl) h2
  clear hA0 hval0
  refine (walk a0 len0 cap0 z0 a1 a2 W w0 w1 w2).mono fun e W' ⟨he, bel⟩ => ?_
  subst he
  exact ⟨_, rfl, _, _, _, [], _, [], hW', trodAll_mk1 (shut_bool Try.underlying4 _), (trodAll_cons_mk (Below.trod laidOut (by kernel_rfl) (of_decide_eq_true (by kernel_rfl)) k0 bel lt0) (trodAll_cons_mk (shut_int Try.underlying3 w1) (trodAll_cons_mk (shut_int Try.underlying48 w2) trodAll_mk0))), rfl, bel.frame _, fun h => by cases h⟩

theorem over : Rows.fcsFindsRow.holds Try.pinned (OpenSpec.ofChange Rows.fcsFindsSpec) :=
  OpenClaim.holds_of_wide 8 Try.f8 rfl rfl rfl rfl rfl rfl rfl ⟨rfl, rfl, rfl, rfl, rfl⟩ rfl rfl rfl rfl rfl (by kernel_rfl) Try.func8 (by kernel_rfl)
    (of_decide_eq_true (by kernel_rfl)) (by unfold Func.isWrapper; first | (rw [if_pos (by decide +kernel)]; kernel_rfl) | (rw [if_neg (by decide +kernel)]; exact ⟨rfl, rfl⟩))
    (fun os started H enc _ => lifted os started H enc)

/-- ████ THE STATEMENT ████ -/
theorem proved : Rows.FcsFindsSaid := over
end Go.Proofs.Ytmoolhneofbfdaa.fcsFinds
