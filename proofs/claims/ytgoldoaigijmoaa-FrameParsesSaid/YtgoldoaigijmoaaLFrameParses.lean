/- catwalklaw12.FrameParses answers true at every input, and leaves its arguments as they were. No condition. -/
import Derived.Test.YtgoldoaigijmoaaRows
import Derived.WalkKit
import Derived.ProofKit
import Derived.OpenShut
import Derived.ShutString
import Derived.ChangeOld
import Derived.Below
import Derived.Test.YtgoldoaigijmoaaFrameP
import Derived.Test.YtgoldoaigijmoaaFrameRefP
import Derived.Test.YtgoldoaigijmoaaFrameLaw
import Derived.Deep.DeepCutAuto
namespace Go.Proofs.Ytgoldoaigijmoaa.frameParses
open Go.ChangeShapes Go.WideShapes Go.ChangeAt Go.RowKit
open Go.ChangeMaps (open_string shut_string)
set_option linter.unusedVariables false

theorem own : ownKnob Try.prog.godebug = none := by kernel_rfl
theorem laidOut : laidOutB Try.prog = true := by kernel_rfl

/-- WHAT THE WALK IS TOLD OF A SLICE OF INTEGERS THAT CAME IN: it is nil; or it leads to a row of 'cap' cells, the numbers 'zs' (the first 'len' are its elements, the rest its spare room), each fitting its kind. -/
def IsRow (k : IntKind) (w : World) (a : Option Addr) (len cap : Nat) (zs : List Int) : Prop :=
  (a = none ∧ len = 0 ∧ cap = 0 ∧ zs = []) ∨
  ∃ x, a = some x ∧ len ≤ cap ∧ cap ≤ maxLen ∧ zs.length = cap ∧ (∀ i, i < zs.length → w.cell? (x.add i) = some (.int k (zs.getD i 0))) ∧ ∀ n ∈ zs, (Lit.int k n).wf = true

open Go.Proofs.Ytgoldoaigijmoaa.kit Go.Proofs.Ytgoldoaigijmoaa.bec Go.Proofs.Ytgoldoaigijmoaa.frc

/-! ### STEP 1: THE WALK: the Go text returns true, AND WRITES NOTHING THAT WAS THERE: 'Below w.heap.size w w'' (Derived/Below.lean: '.refl', '.alloc', '.drew', '.setCell' at a new block, '.trans'). Open each 'IsRow' by 'rcases' AHEAD of 'go_enter'; part every test ahead of the walk. -/
set_option maxHeartbeats 1000000 in
theorem walk (a0 : Option Addr) (len0 cap0 : Nat) (z0 : List Int) (a1 : Int) (w : World) (w0 : IsRow .u8 w a0 len0 cap0 z0) (w1 : (Lit.int .u16 a1).wf = true) :
    Calls Try.prog 8 #[.slice a0 len0 cap0, .int .u16 a1] w fun e w' => e = .returned (.bool true) ∧ Below w.heap.size w w' := by
  obtain ⟨l, hN, hwf⟩ := row_nums w0
  have hO : Byt l := fun x hx => wf_u8 (hwf x hx)
  have hp := wf_u16 w1
  clear w0 hwf w1
  have hle := hN.le
  have hmx := hN.max
  unfold maxLen at hmx
  by_cases hbig : 2000 < len0
  · clear hN hO
    go_enter Try.func8, Try.ntmps8
    go_wp2
    go_ret
    exact ⟨rfl, Below.refl _ _⟩
  · have s0 : St w w [(a0, len0, cap0, l)] := (St.start w).push hN
    obtain ⟨T, hT⟩ : ∃ T, T = frP l := ⟨_, rfl⟩
    have HP := hid (fun (w W : World) (L : List Sl) (h : St w W L) (hm : (a0, len0, cap0, l) ∈ L) => hT ▸ parse_any h hm hO (by omega))
    have HR := hid (fun (w W : World) (L : List Sl) (h : St w W L) (hm : (a0, len0, cap0, l) ∈ L) => hT ▸ rparse_any h hm hO (by omega))
    obtain ⟨P, D, E⟩ := T
    clear hN hO hT
    obtain ⟨q, hq⟩ : ∃ q, q = rightB a1 := ⟨_, rfl⟩
    have R1 := hid (fun w => hq ▸ right_any w a1 hp)
    have R2 := hid (fun w => hq ▸ rright_any w a1 hp)
    clear hq
    go_enter Try.func8, Try.ntmps8
    go_upto_region 5 with (first | (go_at_call 32; ((with_reducible refine (HP.out _ _ _ s0 m0).mono ?_); rintro e wa ⟨aa, na, ca, rfl, s1⟩)) | (go_at_call 33; have s2 := s1.next ((Below.refl _ _).alloc (Nat.le_refl _) (.cells #[.int .u16 P, .slice aa na ca] 54)); go_loud ((with_reducible refine (HR.out _ _ _ (frc.St.base s2) m1).mono ?_)); rintro e wb ⟨ab, nb, cb, rfl, s3⟩))
    have k := s3.below
    have x0 : (wb.alloc (.cells #[.int .u16 P, .slice ab nb cb] 54)).cell? ⟨wa.heap.size, 0, none⟩ = some (.int .u16 P) := keep_cell ((Below.refl _ _).alloc (Nat.le_refl _) _) <| keep_cell k (show (wa.alloc (.cells #[.int .u16 P, .slice aa na ca] 54)).cell? ⟨wa.heap.size, 0, none⟩ = some (.int .u16 P) by simp [go_sem])
    have x1 : (wb.alloc (.cells #[.int .u16 P, .slice ab nb cb] 54)).cell? ⟨wa.heap.size, 1, none⟩ = some (.slice aa na ca) := keep_cell ((Below.refl _ _).alloc (Nat.le_refl _) _) <| keep_cell k (show (wa.alloc (.cells #[.int .u16 P, .slice aa na ca] 54)).cell? ⟨wa.heap.size, 1, none⟩ = some (.slice aa na ca) by simp [go_sem])
    have s4 := (frc.St.on s2 s3).next ((Below.refl _ _).alloc (Nat.le_refl _) (.cells #[.int .u16 P, .slice ab nb cb] 54))
    clear s0 s1 s2 s3 k HP HR
    go_wp2_with (first | (go_at_call 14; go_loud (with_reducible refine (frc.equal_st s4 (s4.get m1) (s4.get m0) rfl).mono ?_); rintro e wc ⟨rfl, s5⟩) | (go_at_call 34; ((with_reducible refine (R1.out _).mono ?_); rintro e wo ⟨rfl, rfl⟩)) | (go_at_call 35; ((with_reducible refine (R2.out _).mono ?_); rintro e wo ⟨rfl, rfl⟩)) | (go_at_call 36; ((with_reducible refine (frc.alive_st s5).mono ?_); rintro e wd ⟨rfl, s6⟩)))
    go_ret
    exact ⟨rfl, s6.below⟩

/-! ### THE ROW's STEP: WRITTEN OUT: LEAVE IT -/
set_option maxRecDepth 100000 in
theorem lifted (os : Os) (started : os.Started) (H : Type) (enc : TypeId × Value → H) :
    ReturnsInHanded {} Try.checked os 8 .any (Rows.frameParsesSpec.pre6 enc Try.prog Try.f8 Rows.frameParsesRow.domain false) (Rows.frameParsesSpec.post enc Try.prog Try.f8 false true false false) := by
  refine returnsInHanded_of_change (C := Try.checked) own started (by kernel_rfl) Try.func8
    (ChangeSpec.witness6 (enc := enc) (C := Try.checked) false ⟨#[], #[.slice none 0 0, .int .u16 0], []⟩ 8 (by kernel_rfl) (by kernel_rfl) (by kernel_rfl) (by kernel_rfl)) ?_
  intro W base args ds gs before hval0 hW hcnd _
  have hval : ∀ (j : Nat) t v, Try.f8.params[j]? = some t → args[j]? = some v → Value.okWide Try.prog W .any base t v := hval0
  have hW' := hW
  obtain ⟨p, q, hA0, hV, rfl, hfz, hnd⟩ := hW
  have hA : DataW.TrodAll enc Try.prog W 0 (fun _ => true) true Try.f8.params.toList args.toList ds p := hA0
  rw [Try.params8] at hA hval
  obtain ⟨v0, vs0, d0, ds0, p0, q0, hargs, rfl, rfl, h0, r0⟩ := trodAll_cons hA
  obtain ⟨v1, vs1, d1, ds1, p1, q1, rfl, rfl, rfl, h1, r1⟩ := trodAll_cons r0
  obtain ⟨rfl, rfl, rfl⟩ := trodAll_nil r1
  obtain rfl : args = #[v0, v1] := by cases args; simp_all
  obtain ⟨rfl, rfl⟩ := trodVars_none hV
  obtain ⟨a0, len0, cap0, rfl⟩ := okWide_slice Try.underlying22 (hval 0 22 v0 rfl rfl)
  have k0 := h0
  have lt0 : ∀ x ∈ p0, x.block < W.heap.size := by obtain ⟨m, hm⟩ := k0; exact DataW.trod_lt m _ _ _ hm
  obtain ⟨z0, w0⟩ : ∃ zs, IsRow .u8 W a0 len0 cap0 zs := by
    obtain ⟨fuel, hf⟩ := h0
    rcases open_ints Try.underlying22 Try.underlying5 (by kernel_rfl) hf with ⟨hcs, _⟩ | ⟨x, l, c, zs, hcs, _, hl, hm, hz, _, hcell, hwz⟩
    · simp [Value.cells] at hcs
      obtain ⟨rfl, rfl, rfl⟩ := hcs
      exact ⟨[], .inl ⟨rfl, rfl, rfl, rfl⟩⟩
    · simp [Value.cells] at hcs
      obtain ⟨rfl, rfl, rfl⟩ := hcs
      exact ⟨zs, .inr ⟨_, rfl, hl, hm, by simpa using hz, hcell, hwz⟩⟩
  obtain ⟨a1, rfl, rfl, rfl, w1⟩ := open_int Try.underlying42 (hval 1 42 v1 rfl rfl) h1
  clear hA0 hval0
  refine (walk a0 len0 cap0 z0 a1 W w0 w1).mono fun e W' ⟨he, bel⟩ => ?_
  subst he
  exact ⟨_, rfl, _, _, _, [], _, [], hW', trodAll_mk1 (shut_bool Try.underlying4 _), (trodAll_cons_mk (Below.trod laidOut (by kernel_rfl) (of_decide_eq_true (by kernel_rfl)) k0 bel lt0) (trodAll_cons_mk (shut_int Try.underlying42 w1) trodAll_mk0)), rfl, bel.frame _, fun h => by cases h⟩

theorem over : Rows.frameParsesRow.holds Try.pinned (OpenSpec.ofChange Rows.frameParsesSpec) :=
  OpenClaim.holds_of_wide 8 Try.f8 rfl rfl rfl rfl rfl rfl rfl ⟨rfl, rfl, rfl, rfl, rfl⟩ rfl rfl rfl rfl rfl (by kernel_rfl) Try.func8 (by kernel_rfl)
    (of_decide_eq_true (by kernel_rfl)) (by unfold Func.isWrapper; first | (rw [if_pos (by decide +kernel)]; kernel_rfl) | (rw [if_neg (by decide +kernel)]; exact ⟨rfl, rfl⟩))
    (fun os started H enc _ => lifted os started H enc)

/-- ████ THE STATEMENT ████ -/
theorem proved : Rows.FrameParsesSaid := over
end Go.Proofs.Ytgoldoaigijmoaa.frameParses
