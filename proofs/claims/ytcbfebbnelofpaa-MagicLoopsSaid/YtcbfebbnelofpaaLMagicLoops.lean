/- catwalklaw22.MagicLoops answers true at every input, and leaves its arguments as they were. No condition. -/
import Derived.Test.YtcbfebbnelofpaaRows
import Derived.WalkKit
import Derived.ProofKit
import Derived.OpenShut
import Derived.ShutString
import Derived.ChangeOld
import Derived.Below
import Derived.Test.YtcbfebbnelofpaaMagicAlive
import Derived.Test.YtcbfebbnelofpaaGuard
import Derived.Deep.DeepCutAuto
import Derived.Deep.RegionWith
namespace Go.Proofs.Ytcbfebbnelofpaa.magicLoops
open Go.ChangeShapes Go.WideShapes Go.ChangeAt Go.RowKit
open Go.ChangeMaps (open_string shut_string)
set_option linter.unusedVariables false

theorem own : ownKnob Try.prog.godebug = none := by kernel_rfl
theorem laidOut : laidOutB Try.prog = true := by kernel_rfl

/-- WHAT THE WALK IS TOLD OF A SLICE OF INTEGERS THAT CAME IN: it is nil; or it leads to a row of 'cap' cells, the numbers 'zs' (the first 'len' are its elements, the rest its spare room), each fitting its kind. -/
def IsRow (k : IntKind) (w : World) (a : Option Addr) (len cap : Nat) (zs : List Int) : Prop :=
  (a = none ∧ len = 0 ∧ cap = 0 ∧ zs = []) ∨
  ∃ x, a = some x ∧ len ≤ cap ∧ cap ≤ maxLen ∧ zs.length = cap ∧ (∀ i, i < zs.length → w.cell? (x.add i) = some (.int k (zs.getD i 0))) ∧ ∀ n ∈ zs, (Lit.int k n).wf = true

open Go.Proofs.Ytcbfebbnelofpaa.kit Go.Proofs.Ytcbfebbnelofpaa.mgm Go.Proofs.Ytcbfebbnelofpaa.mgc

/-! ### STEP 1: THE WALK: the Go text returns true, AND WRITES NOTHING THAT WAS THERE: 'Below w.heap.size w w'' (Derived/Below.lean: '.refl', '.alloc', '.drew', '.setCell' at a new block, '.trans'). Open each 'IsRow' by 'rcases' AHEAD of 'go_enter'; part every test ahead of the walk. -/
set_option maxHeartbeats 2000000 in
theorem walk (a0 : Option Addr) (len0 cap0 : Nat) (z0 : List Int) (a1 : Option Addr) (len1 cap1 : Nat) (z1 : List Int) (w : World) (w0 : IsRow .u32 w a0 len0 cap0 z0) (w1 : IsRow .u32 w a1 len1 cap1 z1) :
    Calls Try.prog 4 #[.slice a0 len0 cap0, .slice a1 len1 cap1] w fun e w' => e = .returned (.bool true) ∧ Below w.heap.size w w' := by
  obtain ⟨xs, hN0, hwf0⟩ := row_nums w0
  obtain ⟨ys, hN1, hwf1⟩ := row_nums w1
  clear w0 w1 hwf0 hwf1
  have hle0 := hN0.le
  have hmx0 := hN0.max
  have hle1 := hN1.le
  have hmx1 := hN1.max
  unfold maxLen at hmx0 hmx1
  by_cases hbig : 200 < len1
  · clear hN0 hN1
    go_enter Try.func4, Try.ntmps4
    go_wp2
    go_ret
    exact ⟨rfl, Below.refl _ _⟩
  · have HN0 := hid hN0
    have HN1 := hid hN1
    clear hN0 hN1
    have K0 := hid (show One w (w.alloc (.cells #[.int .i64 0] 41)) w.heap.size [.int .i64 0] from One.made w _ _)
    go_enter Try.func4, Try.ntmps4
    go_wp2_with fail
    generalize w.alloc (.cells #[.int .i64 0] 41) = W at *
    go_loopw [6, 7] (fun mv iv wr => ∃ (k : Nat) (m b : Int), k ≤ len1 ∧ iv = .int .i64 (k : Nat) ∧ mv = .int .i64 m ∧ 0 ≤ m ∧ m ≤ k ∧ (m < 4 ∧ b = m ∨ 4 ≤ m ∧ b = 4) ∧ Hid (One w wr w.heap.size [.int .i64 b])) (fun _ iv _ => len1 - (intOf iv).toNat)
    case atStart => exact ⟨0, 0, 0, Nat.zero_le _, rfl, rfl, by omega, by omega, by omega, K0⟩
    case round =>
      clear K0
      obtain ⟨k, m, b, hk, rfl, rfl, hm0, hmk, hmb, HT⟩ := hrel
      by_cases hlt : k < len1 ∧ k < len0
      · obtain ⟨hlt1, hlt0⟩ := hlt
        obtain ⟨b0, off0, ha0, hb0, _, hc0⟩ := HN0.out.cells (by omega)
        obtain ⟨b1, off1, ha1, hb1, _, hc1⟩ := HN1.out.cells (by omega)
        subst ha0 ha1
        have hc0 := hc0 k hlt0
        have hc1 := hc1 k hlt1
        obtain ⟨x, hx⟩ : ∃ x, x = xs.getD k 0 := ⟨_, rfl⟩
        obtain ⟨y, hy⟩ : ∃ y, y = ys.getD k 0 := ⟨_, rfl⟩
        rw [← hx] at hc0
        rw [← hy] at hc1
        clear hx hy
        have y0 : wr.cell? ⟨b0, off0 + k, none⟩ = some (.int .u32 x) := (HT.out.b.cell (p := ⟨b0, off0 + k, none⟩) hb0).trans hc0
        have y1 : wr.cell? ⟨b1, off1 + k, none⟩ = some (.int .u32 y) := (HT.out.b.cell (p := ⟨b1, off1 + k, none⟩) hb1).trans hc1
        clear hc0 hc1
        by_cases his : x ≠ 0 ∧ x = y
        · obtain ⟨hx0, rfl⟩ := his
          have q0 : (x != 0) = true := by simpa using hx0
          have HX := hid hx0
          obtain ⟨b', hb'⟩ : ∃ b', (b < 4 ∧ b' = b + 1 ∨ b = 4 ∧ b' = 4) := by
            by_cases h : b < 4
            · exact ⟨b + 1, .inl ⟨h, rfl⟩⟩
            · exact ⟨4, .inr ⟨by omega, rfl⟩⟩
          have HB' := hid hb'
          have hge : decide (4 ≤ m + 1) = (b' == 4) := by rw [Bool.eq_iff_iff]; simp; omega
          obtain ⟨r, hr⟩ : ∃ r, r = (b' == 4) := ⟨_, rfl⟩
          rw [← hr] at hge
          have HR := hid hr.symm
          have HMB := hid hmb
          have hb4 : 0 ≤ b ∧ b ≤ 4 := by omega
          have HB4 := hid hb4
          clear hx0 hb' hr hmb hb4
          go_upto_region 8 with fail
          go_quiet (fail)
          have HT2 := hid (HT.out.drewN (nq + 1))
          clear HT
          go_upto_region 12 with fail
          go_region_with (first | (go_at_call 15; ((with_reducible refine (see_yes _ _ _ _ b' HT2.out.p HX.out HB4.out.1 HB4.out.2 HB'.out).mono ?_); rintro e w1 ⟨rfl, h1⟩; have H1 := hid (HT2.out.wrote h1); clear h1)) | (go_at_call 16; ((with_reducible refine (loop_any _ _ _ r H1.out.p HR.out).mono ?_); rintro e w2 ⟨rfl, rfl⟩)))
          all_goals
            go_wp2_with fail
            go_roundw
            case rel => exact ⟨k + 1, m + 1, b', by omega, by go_num, rfl, by omega, by omega, by have := HMB.out; have := HB'.out; omega, H1⟩
            case measure => simp [intOf]; omega
        · have hor : x ≠ y ∨ y = 0 := by omega
          have HOR := hid hor
          have hb4 : 0 ≤ b ∧ b ≤ 4 := by omega
          by_cases hx0 : x = 0
          · have q0 : (x != 0) = false := by simpa using hx0
            clear his hor hx0
            go_upto_region 8 with fail
            go_quiet (fail)
            have HT2 := hid (HT.out.drewN (nq + 1))
            clear HT hmb hb4
            go_upto_region 12 with fail
            go_region_with (first | (go_at_call 15; ((with_reducible refine (see_no _ _ _ _ _ HT2.out.p HOR.out).mono ?_); rintro e w1 ⟨rfl, h1⟩; have H1 := hid (HT2.out.wrote h1); clear h1)) | (go_at_call 16; ((with_reducible refine (loop_any _ _ 0 false H1.out.p rfl).mono ?_); rintro e w2 ⟨rfl, rfl⟩)))
            all_goals
              go_wp2_with fail
              go_roundw
              case rel => exact ⟨k + 1, 0, 0, by omega, by go_num, rfl, by omega, by omega, by omega, H1⟩
              case measure => simp [intOf]; omega
          · have q0 : (x != 0) = true := by simpa using hx0
            have q1 : (x == y) = false := by simp; omega
            clear his hor hx0
            go_upto_region 8 with fail
            go_quiet (fail)
            have HT2 := hid (HT.out.drewN (nq + 1))
            clear HT hmb hb4
            go_upto_region 12 with fail
            go_region_with (first | (go_at_call 15; ((with_reducible refine (see_no _ _ _ _ _ HT2.out.p HOR.out).mono ?_); rintro e w1 ⟨rfl, h1⟩; have H1 := hid (HT2.out.wrote h1); clear h1)) | (go_at_call 16; ((with_reducible refine (loop_any _ _ 0 false H1.out.p rfl).mono ?_); rintro e w2 ⟨rfl, rfl⟩)))
            all_goals
              go_wp2_with fail
              go_roundw
              case rel => exact ⟨k + 1, 0, 0, by omega, by go_num, rfl, by omega, by omega, by omega, H1⟩
              case measure => simp [intOf]; omega
      · have HB := hid HT.out.b
        clear HT
        by_cases h1 : k < len1
        · have h2 : ¬ k < len0 := fun h => hlt ⟨h1, h⟩
          clear hlt
          go_wp2_with (go_at_call 14; ((with_reducible refine (alive_any _).mono ?_); rintro e wb ⟨rfl, h11⟩))
          go_ret
          exact ⟨rfl, HB.out.trans (h11.mono HB.out.size)⟩
        · clear hlt
          go_wp2_with (go_at_call 14; ((with_reducible refine (alive_any _).mono ?_); rintro e wb ⟨rfl, h11⟩))
          go_ret
          exact ⟨rfl, HB.out.trans (h11.mono HB.out.size)⟩

/-! ### THE ROW's STEP: WRITTEN OUT: LEAVE IT -/
set_option maxRecDepth 100000 in
theorem lifted (os : Os) (started : os.Started) (H : Type) (enc : TypeId × Value → H) :
    ReturnsInHanded {} Try.checked os 4 .any (Rows.magicLoopsSpec.pre6 enc Try.prog Try.f4 Rows.magicLoopsRow.domain false) (Rows.magicLoopsSpec.post enc Try.prog Try.f4 false true false false) := by
  refine returnsInHanded_of_change (C := Try.checked) own started (by kernel_rfl) Try.func4
    (ChangeSpec.witness6 (enc := enc) (C := Try.checked) false ⟨#[], #[.slice none 0 0, .slice none 0 0], []⟩ 8 (by kernel_rfl) (by kernel_rfl) (by kernel_rfl) (by kernel_rfl)) ?_
  intro W base args ds gs before hval0 hW hcnd _
  have hval : ∀ (j : Nat) t v, Try.f4.params[j]? = some t → args[j]? = some v → Value.okWide Try.prog W .any base t v := hval0
  have hW' := hW
  obtain ⟨p, q, hA0, hV, rfl, hfz, hnd⟩ := hW
  have hA : DataW.TrodAll enc Try.prog W 0 (fun _ => true) true Try.f4.params.toList args.toList ds p := hA0
  rw [Try.params4] at hA hval
  obtain ⟨v0, vs0, d0, ds0, p0, q0, hargs, rfl, rfl, h0, r0⟩ := trodAll_cons hA
  obtain ⟨v1, vs1, d1, ds1, p1, q1, rfl, rfl, rfl, h1, r1⟩ := trodAll_cons r0
  obtain ⟨rfl, rfl, rfl⟩ := trodAll_nil r1
  obtain rfl : args = #[v0, v1] := by cases args; simp_all
  obtain ⟨rfl, rfl⟩ := trodVars_none hV
  obtain ⟨a0, len0, cap0, rfl⟩ := okWide_slice Try.underlying29 (hval 0 29 v0 rfl rfl)
  have k0 := h0
  have lt0 : ∀ x ∈ p0, x.block < W.heap.size := by obtain ⟨m, hm⟩ := k0; exact DataW.trod_lt m _ _ _ hm
  obtain ⟨z0, w0⟩ : ∃ zs, IsRow .u32 W a0 len0 cap0 zs := by
    obtain ⟨fuel, hf⟩ := h0
    rcases open_ints Try.underlying29 Try.underlying24 (by kernel_rfl) hf with ⟨hcs, _⟩ | ⟨x, l, c, zs, hcs, _, hl, hm, hz, _, hcell, hwz⟩
    · simp [Value.cells] at hcs
      obtain ⟨rfl, rfl, rfl⟩ := hcs
      exact ⟨[], .inl ⟨rfl, rfl, rfl, rfl⟩⟩
    · simp [Value.cells] at hcs
      obtain ⟨rfl, rfl, rfl⟩ := hcs
      exact ⟨zs, .inr ⟨_, rfl, hl, hm, by simpa using hz, hcell, hwz⟩⟩
  obtain ⟨a1, len1, cap1, rfl⟩ := okWide_slice Try.underlying29 (hval 1 29 v1 rfl rfl)
  have k1 := h1
  have lt1 : ∀ x ∈ p1, x.block < W.heap.size := by obtain ⟨m, hm⟩ := k1; exact DataW.trod_lt m _ _ _ hm
  obtain ⟨z1, w1⟩ : ∃ zs, IsRow .u32 W a1 len1 cap1 zs := by
    obtain ⟨fuel, hf⟩ := h1
    rcases open_ints Try.underlying29 Try.underlying24 (by kernel_rfl) hf with ⟨hcs, _⟩ | ⟨x, l, c, zs, hcs, _, hl, hm, hz, _, hcell, hwz⟩
    · simp [Value.cells] at hcs
      obtain ⟨rfl, rfl, rfl⟩ := hcs
      exact ⟨[], .inl ⟨rfl, rfl, rfl, rfl⟩⟩
    · simp [Value.cells] at hcs
      obtain ⟨rfl, rfl, rfl⟩ := hcs
      exact ⟨zs, .inr ⟨_, rfl, hl, hm, by simpa using hz, hcell, hwz⟩⟩
  clear hA0 hval0
  refine (walk a0 len0 cap0 z0 a1 len1 cap1 z1 W w0 w1).mono fun e W' ⟨he, bel⟩ => ?_
  subst he
  exact ⟨_, rfl, _, _, _, [], _, [], hW', trodAll_mk1 (shut_bool Try.underlying4 _), (trodAll_cons_mk (Below.trod laidOut (by kernel_rfl) (of_decide_eq_true (by kernel_rfl)) k0 bel lt0) (trodAll_cons_mk (Below.trod laidOut (by kernel_rfl) (of_decide_eq_true (by kernel_rfl)) k1 bel lt1) trodAll_mk0)), rfl, bel.frame _, fun h => by cases h⟩

theorem over : Rows.magicLoopsRow.holds Try.pinned (OpenSpec.ofChange Rows.magicLoopsSpec) :=
  OpenClaim.holds_of_wide 4 Try.f4 rfl rfl rfl rfl rfl rfl rfl ⟨rfl, rfl, rfl, rfl, rfl⟩ rfl rfl rfl rfl rfl (by kernel_rfl) Try.func4 (by kernel_rfl)
    (of_decide_eq_true (by kernel_rfl)) (by unfold Func.isWrapper; first | (rw [if_pos (by decide +kernel)]; kernel_rfl) | (rw [if_neg (by decide +kernel)]; exact ⟨rfl, rfl⟩))
    (fun os started H enc _ => lifted os started H enc)

/-- ████ THE STATEMENT ████ -/
theorem proved : Rows.MagicLoopsSaid := over
end Go.Proofs.Ytcbfebbnelofpaa.magicLoops
