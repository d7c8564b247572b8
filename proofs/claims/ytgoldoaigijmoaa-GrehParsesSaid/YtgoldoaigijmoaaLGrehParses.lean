/- catwalklaw11.GrehParses answers true at every input, and leaves its arguments as they were. No condition. -/
import Derived.Test.YtgoldoaigijmoaaRows
import Derived.WalkKit
import Derived.ProofKit
import Derived.OpenShut
import Derived.ShutString
import Derived.ChangeOld
import Derived.Below
import Derived.Test.YtgoldoaigijmoaaGrehP
import Derived.Test.YtgoldoaigijmoaaGrehRP
import Derived.Test.YtgoldoaigijmoaaGrehLaw
import Derived.Test.YtgoldoaigijmoaaGrehBack
import Derived.Deep.DeepCutAuto
namespace Go.Proofs.Ytgoldoaigijmoaa.grehParses
open Go.ChangeShapes Go.WideShapes Go.ChangeAt Go.RowKit
open Go.ChangeMaps (open_string shut_string)
set_option linter.unusedVariables false

theorem own : ownKnob Try.prog.godebug = none := by kernel_rfl
theorem laidOut : laidOutB Try.prog = true := by kernel_rfl

/-- WHAT THE WALK IS TOLD OF A SLICE OF INTEGERS THAT CAME IN: it is nil; or it leads to a row of 'cap' cells, the numbers 'zs' (the first 'len' are its elements, the rest its spare room), each fitting its kind. -/
def IsRow (k : IntKind) (w : World) (a : Option Addr) (len cap : Nat) (zs : List Int) : Prop :=
  (a = none ∧ len = 0 ∧ cap = 0 ∧ zs = []) ∨
  ∃ x, a = some x ∧ len ≤ cap ∧ cap ≤ maxLen ∧ zs.length = cap ∧ (∀ i, i < zs.length → w.cell? (x.add i) = some (.int k (zs.getD i 0))) ∧ ∀ n ∈ zs, (Lit.int k n).wf = true

open Go.Proofs.Ytgoldoaigijmoaa.kit Go.Proofs.Ytgoldoaigijmoaa.bec Go.Proofs.Ytgoldoaigijmoaa.grc

/-! ### STEP 1: THE WALK: the Go text returns true, AND WRITES NOTHING THAT WAS THERE: 'Below w.heap.size w w'' (Derived/Below.lean: '.refl', '.alloc', '.drew', '.setCell' at a new block, '.trans'). Open each 'IsRow' by 'rcases' AHEAD of 'go_enter'; part every test ahead of the walk. -/
set_option maxHeartbeats 1000000 in
theorem walk (a0 : Option Addr) (len0 cap0 : Nat) (z0 : List Int) (w : World) (w0 : IsRow .u8 w a0 len0 cap0 z0) :
    Calls Try.prog 7 #[.slice a0 len0 cap0] w fun e w' => e = .returned (.bool true) ∧ Below w.heap.size w w' := by
  obtain ⟨l, hN, hwf⟩ := row_nums w0
  have hO : Byt l := fun x hx => wf_u8 (hwf x hx)
  clear w0 hwf
  have hle := hN.le
  have hmx := hN.max
  unfold maxLen at hmx
  by_cases hbig : 2000 < len0
  · clear hN hO
    go_enter Try.func7, Try.ntmps7
    go_wp2
    go_ret
    exact ⟨rfl, Below.refl _ _⟩
  · have s0 : St w w [(a0, len0, cap0, l)] := (St.start w).push hN
    have hBK := built_parsed l hO
    have hBD := parsed_bd l hO
    obtain ⟨T, hT⟩ : ∃ T, T = grP l := ⟨_, rfl⟩
    have HP := hid (fun (w W : World) (L : List Sl) (h : St w W L) (hm : (a0, len0, cap0, l) ∈ L) => hT ▸ parse_any h hm hO (by omega))
    have HR := hid (fun (w W : World) (L : List Sl) (h : St w W L) (hm : (a0, len0, cap0, l) ∈ L) => hT ▸ rparse_any h hm hO (by omega))
    rw [← hT] at hBK hBD
    obtain ⟨call, hs, seq, ha, ack, d, E⟩ := T
    have BK := hid hBK
    have BD := hid hBD
    clear hN hO hT hBK hBD
    go_enter Try.func7, Try.ntmps7
    go_upto_region 5 with (first | (go_at_call 29; ((with_reducible refine (HP.out _ _ _ s0 m0).mono ?_); rintro e wa ⟨aa, na, ca, rfl, s1⟩); have s2 := s1.next ((Below.refl _ _).alloc (Nat.le_refl _) (.cells #[.int .u16 call, .bool hs, .int .u32 seq, .bool ha, .int .u32 ack, .slice aa na ca] 45))) | (go_at_call 31; ((with_reducible refine (HR.out _ _ _ (st_base s2) m1).mono ?_); rintro e wb ⟨ab, nb, cb, rfl, s3⟩)))
    have k := s3.below
    obtain ⟨WB, hWB⟩ : ∃ WB, WB = wb.alloc (.cells #[.int .u16 call, .bool hs, .int .u32 seq, .bool ha, .int .u32 ack, .slice ab nb cb] 45) := ⟨_, rfl⟩
    have kB : Below wb.heap.size wb WB := by rw [hWB]; exact (Below.refl _ _).alloc (Nat.le_refl _) _
    have x0 : WB.cell? ⟨wa.heap.size, 0, none⟩ = some (.int .u16 call) := keep_cell kB <| keep_cell k (show (wa.alloc (.cells #[.int .u16 call, .bool hs, .int .u32 seq, .bool ha, .int .u32 ack, .slice aa na ca] 45)).cell? ⟨wa.heap.size, 0, none⟩ = some (.int .u16 call) by simp [go_sem])
    have x1 : WB.cell? ⟨wa.heap.size, 1, none⟩ = some (.bool hs) := keep_cell kB <| keep_cell k (show (wa.alloc (.cells #[.int .u16 call, .bool hs, .int .u32 seq, .bool ha, .int .u32 ack, .slice aa na ca] 45)).cell? ⟨wa.heap.size, 1, none⟩ = some (.bool hs) by simp [go_sem])
    have x2 : WB.cell? ⟨wa.heap.size, 2, none⟩ = some (.int .u32 seq) := keep_cell kB <| keep_cell k (show (wa.alloc (.cells #[.int .u16 call, .bool hs, .int .u32 seq, .bool ha, .int .u32 ack, .slice aa na ca] 45)).cell? ⟨wa.heap.size, 2, none⟩ = some (.int .u32 seq) by simp [go_sem])
    have x3 : WB.cell? ⟨wa.heap.size, 3, none⟩ = some (.bool ha) := keep_cell kB <| keep_cell k (show (wa.alloc (.cells #[.int .u16 call, .bool hs, .int .u32 seq, .bool ha, .int .u32 ack, .slice aa na ca] 45)).cell? ⟨wa.heap.size, 3, none⟩ = some (.bool ha) by simp [go_sem])
    have x4 : WB.cell? ⟨wa.heap.size, 4, none⟩ = some (.int .u32 ack) := keep_cell kB <| keep_cell k (show (wa.alloc (.cells #[.int .u16 call, .bool hs, .int .u32 seq, .bool ha, .int .u32 ack, .slice aa na ca] 45)).cell? ⟨wa.heap.size, 4, none⟩ = some (.int .u32 ack) by simp [go_sem])
    have x5 : WB.cell? ⟨wa.heap.size, 5, none⟩ = some (.slice aa na ca) := keep_cell kB <| keep_cell k (show (wa.alloc (.cells #[.int .u16 call, .bool hs, .int .u32 seq, .bool ha, .int .u32 ack, .slice aa na ca] 45)).cell? ⟨wa.heap.size, 5, none⟩ = some (.slice aa na ca) by simp [go_sem])
    have y0 : WB.cell? ⟨wb.heap.size, 0, none⟩ = some (.int .u16 call) := by rw [hWB]; simp [go_sem]
    have y1 : WB.cell? ⟨wb.heap.size, 1, none⟩ = some (.bool hs) := by rw [hWB]; simp [go_sem]
    have y2 : WB.cell? ⟨wb.heap.size, 2, none⟩ = some (.int .u32 seq) := by rw [hWB]; simp [go_sem]
    have y3 : WB.cell? ⟨wb.heap.size, 3, none⟩ = some (.bool ha) := by rw [hWB]; simp [go_sem]
    have y4 : WB.cell? ⟨wb.heap.size, 4, none⟩ = some (.int .u32 ack) := by rw [hWB]; simp [go_sem]
    have y5 : WB.cell? ⟨wb.heap.size, 5, none⟩ = some (.slice ab nb cb) := by rw [hWB]; simp [go_sem]
    have s4 := (st_on s2 s3).next kB
    have hna := (s4.get m1).len
    clear s0 s1 s2 s3 k HP HR kB
    have HWB := hid hWB
    clear hWB
    rw [← HWB.out]
    have y5' := y5
    go_upto_region 7 with (go_at_call 30; ((with_reducible refine (same_st (st_base s4) m1 m0 call hs seq ha ack).mono ?_); rintro e wc ⟨rfl, s5⟩))
    have k5 := s5.below
    have s6 := st_on s4 s5
    have z0 := keep_cell k5 x0
    have z1 := keep_cell k5 x1
    have z2 := keep_cell k5 x2
    have z3 := keep_cell k5 x3
    have z4 := keep_cell k5 x4
    have z5 := keep_cell k5 x5
    have HNA := hid hna
    clear x0 x1 x2 x3 x4 x5 y0 y1 y2 y3 y4 y5 s4 s5 k5 hna
    cases hE : (E != 0)
    · have hE0 : E = 0 := by simpa [bne] using hE
      by_cases hlong : 1600 < na
      · go_wp2_with (go_at_call 28; ((with_reducible refine (grc.alive_st s6).mono ?_); rintro e wd ⟨rfl, s7⟩))
        go_ret
        exact ⟨rfl, s7.below⟩
      · have hB := hid (BK.out hE0 (by have := HNA.out; show d.length ≤ 1600; omega))
        clear hE0
        go_wp2_with (first | (go_at_call 24; ((with_reducible refine (build_any s6 m1 (by omega) call BD.out.1 hs seq BD.out.2.1 ha ack BD.out.2.2).mono ?_); rintro e wd ⟨ad, nd, cd, rfl, s7⟩)) | (go_at_call 14; ((with_reducible refine (grc.equal_st s7 (s7.get m0) (s7.get m3) hB.out).mono ?_); rintro e we ⟨rfl, s8⟩)) | (go_at_call 28; ((with_reducible refine (grc.alive_st s8).mono ?_); rintro e wd ⟨rfl, s9⟩)))
        go_ret
        exact ⟨rfl, s9.below⟩
    · go_wp2_with (go_at_call 28; ((with_reducible refine (grc.alive_st s6).mono ?_); rintro e wd ⟨rfl, s7⟩))
      go_ret
      exact ⟨rfl, s7.below⟩

/-! ### THE ROW's STEP: WRITTEN OUT: LEAVE IT -/
set_option maxRecDepth 100000 in
theorem lifted (os : Os) (started : os.Started) (H : Type) (enc : TypeId × Value → H) :
    ReturnsInHanded {} Try.checked os 7 .any (Rows.grehParsesSpec.pre6 enc Try.prog Try.f7 Rows.grehParsesRow.domain false) (Rows.grehParsesSpec.post enc Try.prog Try.f7 false true false false) := by
  refine returnsInHanded_of_change (C := Try.checked) own started (by kernel_rfl) Try.func7
    (ChangeSpec.witness6 (enc := enc) (C := Try.checked) false ⟨#[], #[.slice none 0 0], []⟩ 8 (by kernel_rfl) (by kernel_rfl) (by kernel_rfl) (by kernel_rfl)) ?_
  intro W base args ds gs before hval0 hW hcnd _
  have hval : ∀ (j : Nat) t v, Try.f7.params[j]? = some t → args[j]? = some v → Value.okWide Try.prog W .any base t v := hval0
  have hW' := hW
  obtain ⟨p, q, hA0, hV, rfl, hfz, hnd⟩ := hW
  have hA : DataW.TrodAll enc Try.prog W 0 (fun _ => true) true Try.f7.params.toList args.toList ds p := hA0
  rw [Try.params7] at hA hval
  obtain ⟨v0, vs0, d0, ds0, p0, q0, hargs, rfl, rfl, h0, r0⟩ := trodAll_cons hA
  obtain ⟨rfl, rfl, rfl⟩ := trodAll_nil r0
  obtain rfl : args = #[v0] := by cases args; simp_all
  obtain ⟨rfl, rfl⟩ := trodVars_none hV
  obtain ⟨a0, len0, cap0, rfl⟩ := okWide_slice Try.underlying22 (hval 0 22 v0 rfl rfl)
  have k0 := h0
  have lt0 : ∀ x ∈ p0, x.block < W.heap.size := by obtain ⟨m, hm⟩ := k0; exact DataW.trod_lt m _ _ _ hm
  obtain ⟨z0, w0⟩ : ∃ zs, IsRow .u8 W a0 len0 cap0 zs := by
    obtain ⟨fuel, hf⟩ := h0
    rcases open_ints Try.underlying22 Try.underlying5 (by kernel_rfl) hf with ⟨hcs, _⟩ | ⟨x, l, c, zs, hcs, _, hl, hm, hz, _, hcell, hwz⟩
    · simp [Value.cells] at hcs
      obtain ⟨rfl, rfl, rfl⟩ := hcs
      exact ⟨[], .inl ⟨rfl, rfl, rfl, rfl⟩⟩
    · simp [Value.cells] at hcs
      obtain ⟨rfl, rfl, rfl⟩ := hcs
      exact ⟨zs, .inr ⟨_, rfl, hl, hm, by simpa using hz, hcell, hwz⟩⟩
  clear hA0 hval0
  refine (walk a0 len0 cap0 z0 W w0).mono fun e W' ⟨he, bel⟩ => ?_
  subst he
  exact ⟨_, rfl, _, _, _, [], _, [], hW', trodAll_mk1 (shut_bool Try.underlying4 _), (trodAll_cons_mk (Below.trod laidOut (by kernel_rfl) (of_decide_eq_true (by kernel_rfl)) k0 bel lt0) trodAll_mk0), rfl, bel.frame _, fun h => by cases h⟩

theorem over : Rows.grehParsesRow.holds Try.pinned (OpenSpec.ofChange Rows.grehParsesSpec) :=
  OpenClaim.holds_of_wide 7 Try.f7 rfl rfl rfl rfl rfl rfl rfl ⟨rfl, rfl, rfl, rfl, rfl⟩ rfl rfl rfl rfl rfl (by kernel_rfl) Try.func7 (by kernel_rfl)
    (of_decide_eq_true (by kernel_rfl)) (by unfold Func.isWrapper; first | (rw [if_pos (by decide +kernel)]; kernel_rfl) | (rw [if_neg (by decide +kernel)]; exact ⟨rfl, rfl⟩))
    (fun os started H enc _ => lifted os started H enc)

/-- ████ THE STATEMENT ████ -/
theorem proved : Rows.GrehParsesSaid := over
end Go.Proofs.Ytgoldoaigijmoaa.grehParses
