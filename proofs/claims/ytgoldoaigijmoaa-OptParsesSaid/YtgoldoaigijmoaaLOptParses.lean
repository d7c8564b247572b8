/- catwalklaw10.OptParses answers true at every input, and leaves its arguments as they were. No condition. -/
import Derived.Test.YtgoldoaigijmoaaRows
import Derived.WalkKit
import Derived.ProofKit
import Derived.OpenShut
import Derived.ShutString
import Derived.ChangeOld
import Derived.Below
import Derived.Test.YtgoldoaigijmoaaOptRP
import Derived.Test.YtgoldoaigijmoaaOptSame
import Derived.Test.YtgoldoaigijmoaaOptLaw
import Derived.Deep.DeepCutAuto
namespace Go.Proofs.Ytgoldoaigijmoaa.optParses
open Go.ChangeShapes Go.WideShapes Go.ChangeAt Go.RowKit
open Go.ChangeMaps (open_string shut_string)
set_option linter.unusedVariables false

theorem own : ownKnob Try.prog.godebug = none := by kernel_rfl
theorem laidOut : laidOutB Try.prog = true := by kernel_rfl

/-- WHAT THE WALK IS TOLD OF A SLICE OF INTEGERS THAT CAME IN: it is nil; or it leads to a row of 'cap' cells, the numbers 'zs' (the first 'len' are its elements, the rest its spare room), each fitting its kind. -/
def IsRow (k : IntKind) (w : World) (a : Option Addr) (len cap : Nat) (zs : List Int) : Prop :=
  (a = none ∧ len = 0 ∧ cap = 0 ∧ zs = []) ∨
  ∃ x, a = some x ∧ len ≤ cap ∧ cap ≤ maxLen ∧ zs.length = cap ∧ (∀ i, i < zs.length → w.cell? (x.add i) = some (.int k (zs.getD i 0))) ∧ ∀ n ∈ zs, (Lit.int k n).wf = true

open Go.Proofs.Ytgoldoaigijmoaa.kit Go.Proofs.Ytgoldoaigijmoaa.opm Go.Proofs.Ytgoldoaigijmoaa.opc
theorem fin_small (k : Nat) : ∀ (acc : List Opt) (l : List Int) (L : List Opt) (e : Int), l.length ≤ k → fin acc l = (L, e) → L.length ≤ acc.length + k := by
  induction k with
  | zero =>
    intro acc l L e h he
    obtain rfl : l = [] := List.eq_nil_of_length_eq_zero (by omega)
    rw [fin_nil] at he
    obtain rfl : acc = L := congrArg Prod.fst he
    omega
  | succ k ih =>
    intro acc l L e h he
    by_cases h0 : l.length = 0
    · obtain rfl : l = [] := List.eq_nil_of_length_eq_zero h0
      rw [fin_nil] at he
      obtain rfl : acc = L := congrArg Prod.fst he
      omega
    · by_cases h1 : l.length = 1
      · rw [fin_one h1] at he
        obtain rfl : [] = L := congrArg Prod.fst he
        simp
      · by_cases h2 : l.getD 1 0 < 2
        · rw [fin_form (by omega) h2] at he
          obtain rfl : [] = L := congrArg Prod.fst he
          simp
        · by_cases h3 : (l.length : Int) < l.getD 1 0
          · rw [fin_short (by omega) h2 h3] at he
            obtain rfl : [] = L := congrArg Prod.fst he
            simp
          · obtain ⟨x, hx⟩ : ∃ x : Nat, l.getD 1 0 = x := ⟨(l.getD 1 0).toNat, by omega⟩
            rw [fin_step (by omega) hx (by omega) (by omega)] at he
            have := ih _ _ L e (by rw [List.length_drop]; omega) he
            rw [List.length_append] at this
            simp at this
            omega

/-! ### STEP 1: THE WALK: the Go text returns true, AND WRITES NOTHING THAT WAS THERE: 'Below w.heap.size w w'' (Derived/Below.lean: '.refl', '.alloc', '.drew', '.setCell' at a new block, '.trans'). Open each 'IsRow' by 'rcases' AHEAD of 'go_enter'; part every test ahead of the walk. -/
set_option maxHeartbeats 1000000 in
theorem walk (a0 : Option Addr) (len0 cap0 : Nat) (z0 : List Int) (w : World) (w0 : IsRow .u8 w a0 len0 cap0 z0) :
    Calls Try.prog 3 #[.slice a0 len0 cap0] w fun e w' => e = .returned (.bool true) ∧ Below w.heap.size w w' := by
  obtain ⟨l, hN, hwf⟩ := row_nums w0
  have hO : ∀ x ∈ l, 0 ≤ x ∧ x ≤ 255 := fun x hx => wf_u8 (hwf x hx)
  clear w0 hwf
  have hle := hN.le
  have hmx := hN.max
  unfold maxLen at hmx
  by_cases hbig : 1000 < len0
  · clear hN hO
    go_enter Try.func3, Try.ntmps3
    go_wp2
    go_ret
    exact ⟨rfl, Below.refl _ _⟩
  · have HP := hid (parse_any hN (Nat.le_refl _) hO (by omega))
    have HR := hid (fun (W : World) (hb : Below w.heap.size w W) => rparse_any (hN.below hb) hb.size hO (by omega))
    have hsm := fun L e (h : fin [] l = (L, e)) => fin_small l.length [] l L e (Nat.le_refl _) h
    have hbk := fun L (h : fin [] l = (L, 0)) => built_back hO h
    obtain ⟨⟨L, E⟩, hT⟩ : ∃ T, T = fin [] l := ⟨_, rfl⟩
    rw [← hT] at HP HR
    have hL1 : L.length ≤ 1000 := by have q1 := hsm L E hT.symm; have q2 := hN.len; rw [List.length_nil] at q1; omega
    have BK := hid (fun (h : E = 0) => hbk L (by rw [← hT, h]))
    have HN := hid hN
    clear hN hO hT hsm hbk
    go_enter Try.func3, Try.ntmps3
    go_upto_region 7 with (first | (go_at_call 11; ((with_reducible refine HP.out.mono ?_); rintro e wa ⟨aa, na, ca, rfl, p1, b1⟩)) | (go_at_call 12; ((with_reducible refine (HR.out _ b1).mono ?_); rintro e wb ⟨ab, nb, cb, rfl, p2, b2⟩); have b3 := b1.trans (b2.mono b1.size); have p3 := (p1.below b2).mono b2.size) | (go_at_call 13; ((with_reducible refine (same_any _ p3 p2 (Nat.le_refl _) (Nat.le_refl _)).mono ?_); rintro e wc ⟨rfl, b4⟩)))
    have b5 := b3.trans (b4.mono b3.size)
    have p5 := (p3.below b4).mono b4.size
    have hna := p5.len
    have P5 := hid p5
    have B5 := hid b5
    have hna' : na ≤ 1000 := by omega
    clear p1 p2 p3 p5 b1 b2 b3 b4 b5 HP HR hna hL1
    cases hE : (E != 0)
    · have hE0 : E = 0 := by simpa [bne] using hE
      have HBK := hid (BK.out hE0)
      clear hE0
      go_wp2_with (first | (go_at_call 15; ((with_reducible refine (opc.build_any P5.out (Nat.le_refl _) (by omega)).mono ?_); rintro e wd ⟨ad, md, cd, rfl, h6, b6⟩); have b7 := B5.out.trans (b6.mono B5.out.size)) | (go_at_call 14; ((with_reducible refine (bec.equal_same _ h6 (HN.out.below b7) HBK.out).mono ?_); rintro e we ⟨rfl, mm, rfl⟩)) | (go_at_call 16; ((with_reducible refine (opc.alive_any _).mono ?_); rintro e wf ⟨rfl, b8⟩)))
      go_ret
      have b9 := below_drewN b7 mm
      exact ⟨rfl, b9.trans (b8.mono b9.size)⟩
    · go_wp2_with (go_at_call 16; ((with_reducible refine (opc.alive_any _).mono ?_); rintro e wf ⟨rfl, b8⟩))
      go_ret
      exact ⟨rfl, B5.out.trans (b8.mono B5.out.size)⟩

/-! ### THE ROW's STEP: WRITTEN OUT: LEAVE IT -/
set_option maxRecDepth 100000 in
theorem lifted (os : Os) (started : os.Started) (H : Type) (enc : TypeId × Value → H) :
    ReturnsInHanded {} Try.checked os 3 .any (Rows.optParsesSpec.pre6 enc Try.prog Try.f3 Rows.optParsesRow.domain false) (Rows.optParsesSpec.post enc Try.prog Try.f3 false true false false) := by
  refine returnsInHanded_of_change (C := Try.checked) own started (by kernel_rfl) Try.func3
    (ChangeSpec.witness6 (enc := enc) (C := Try.checked) false ⟨#[], #[.slice none 0 0], []⟩ 8 (by kernel_rfl) (by kernel_rfl) (by kernel_rfl) (by kernel_rfl)) ?_
  intro W base args ds gs before hval0 hW hcnd _
  have hval : ∀ (j : Nat) t v, Try.f3.params[j]? = some t → args[j]? = some v → Value.okWide Try.prog W .any base t v := hval0
  have hW' := hW
  obtain ⟨p, q, hA0, hV, rfl, hfz, hnd⟩ := hW
  have hA : DataW.TrodAll enc Try.prog W 0 (fun _ => true) true Try.f3.params.toList args.toList ds p := hA0
  rw [Try.params3] at hA hval
  obtain ⟨v0, vs0, d0, ds0, p0, q0, hargs, rfl, rfl, h0, r0⟩ := trodAll_cons hA
  obtain ⟨rfl, rfl, rfl⟩ := trodAll_nil r0
  obtain rfl : args = #[v0] := by cases args; simp_all
  obtain ⟨rfl, rfl⟩ := trodVars_none hV
  obtain ⟨a0, len0, cap0, rfl⟩ := okWide_slice Try.underlying22 (hval 0 22 v0 rfl rfl)
  have k0 := h0
  have lt0 : ∀ x ∈ p0, x.block < W.heap.size := by obtain ⟨m, hm⟩ := k0; exact DataW.trod_lt m _ _ _ hm
  obtain ⟨z0, w0⟩ : ∃ zs, IsRow .u8 W a0 len0 cap0 zs := by
    obtain ⟨fuel, hf⟩ := h0
    rcases open_ints Try.underlying22 Try.underlying5 (by kernel_rfl) hf with ⟨hcs, _⟩ | ⟨x, l, c, zs, hcs, _, hl, hm, hz, _, hcell, hwz⟩
    · simp [Value.cells] at hcs
      obtain ⟨rfl, rfl, rfl⟩ := hcs
      exact ⟨[], .inl ⟨rfl, rfl, rfl, rfl⟩⟩
    · simp [Value.cells] at hcs
      obtain ⟨rfl, rfl, rfl⟩ := hcs
      exact ⟨zs, .inr ⟨_, rfl, hl, hm, by simpa using hz, hcell, hwz⟩⟩
  clear hA0 hval0
  refine (walk a0 len0 cap0 z0 W w0).mono fun e W' ⟨he, bel⟩ => ?_
  subst he
  exact ⟨_, rfl, _, _, _, [], _, [], hW', trodAll_mk1 (shut_bool Try.underlying4 _), (trodAll_cons_mk (Below.trod laidOut (by kernel_rfl) (of_decide_eq_true (by kernel_rfl)) k0 bel lt0) trodAll_mk0), rfl, bel.frame _, fun h => by cases h⟩

theorem over : Rows.optParsesRow.holds Try.pinned (OpenSpec.ofChange Rows.optParsesSpec) :=
  OpenClaim.holds_of_wide 3 Try.f3 rfl rfl rfl rfl rfl rfl rfl ⟨rfl, rfl, rfl, rfl, rfl⟩ rfl rfl rfl rfl rfl (by kernel_rfl) Try.func3 (by kernel_rfl)
    (of_decide_eq_true (by kernel_rfl)) (by unfold Func.isWrapper; first | (rw [if_pos (by decide +kernel)]; kernel_rfl) | (rw [if_neg (by decide +kernel)]; exact ⟨rfl, rfl⟩))
    (fun os started H enc _ => lifted os started H enc)

/-- ████ THE STATEMENT ████ -/
theorem proved : Rows.OptParsesSaid := over
end Go.Proofs.Ytgoldoaigijmoaa.optParses
