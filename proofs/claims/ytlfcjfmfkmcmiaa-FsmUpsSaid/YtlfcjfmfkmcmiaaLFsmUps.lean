/- catwalklaw21.FsmUps answers true at every input, and leaves its arguments as they were. No condition. -/
import Derived.Test.YtlfcjfmfkmcmiaaRows
import Derived.WalkKit
import Derived.ProofKit
import Derived.OpenShut
import Derived.ShutString
import Derived.ChangeOld
import Derived.Below
import Derived.Test.YtlfcjfmfkmcmiaaFsmLaw
import Derived.Test.YtlfcjfmfkmcmiaaNums
import Derived.Deep.RegionWith
import Derived.Deep.DeepCutAuto
namespace Go.Proofs.Ytlfcjfmfkmcmiaa.fsmUps
open Go.ChangeShapes Go.WideShapes Go.ChangeAt Go.RowKit
open Go.ChangeMaps (open_string shut_string)
set_option linter.unusedVariables false

theorem own : ownKnob Try.prog.godebug = none := by kernel_rfl
theorem laidOut : laidOutB Try.prog = true := by kernel_rfl

/-- WHAT THE WALK IS TOLD OF A SLICE OF INTEGERS THAT CAME IN: it is nil; or it leads to a row of 'cap' cells, the numbers 'zs' (the first 'len' are its elements, the rest its spare room), each fitting its kind. -/
def IsRow (k : IntKind) (w : World) (a : Option Addr) (len cap : Nat) (zs : List Int) : Prop :=
  (a = none ∧ len = 0 ∧ cap = 0 ∧ zs = []) ∨
  ∃ x, a = some x ∧ len ≤ cap ∧ cap ≤ maxLen ∧ zs.length = cap ∧ (∀ i, i < zs.length → w.cell? (x.add i) = some (.int k (zs.getD i 0))) ∧ ∀ n ∈ zs, (Lit.int k n).wf = true

open Go.Proofs.Ytlfcjfmfkmcmiaa.kit Go.Proofs.Ytlfcjfmfkmcmiaa.fm Go.Proofs.Ytlfcjfmfkmcmiaa.fc
theorem four (s t : Int) : (s = 9 ∧ t = 9) ∨ (s = 9 ∧ ¬ t = 9) ∨ (¬ s = 9 ∧ t = 9) ∨ (¬ s = 9 ∧ ¬ t = 9) := by omega

/-! ### STEP 1: THE WALK: the Go text returns true, AND WRITES NOTHING THAT WAS THERE: 'Below w.heap.size w w'' (Derived/Below.lean: '.refl', '.alloc', '.drew', '.setCell' at a new block, '.trans'). Open each 'IsRow' by 'rcases' AHEAD of 'go_enter'; part every test ahead of the walk. -/
set_option maxHeartbeats 2000000 in
theorem walk (a0 : Int) (a1 : Option Addr) (len1 cap1 : Nat) (z1 : List Int) (w : World) (w0 : (Lit.int .i64 a0).wf = true) (w1 : IsRow .i64 w a1 len1 cap1 z1) :
    Calls Try.prog 8 #[.int .i64 a0, .slice a1 len1 cap1] w fun e w' => e = .returned (.bool true) ∧ Below w.heap.size w w' := by
  obtain ⟨l, hN, hwf⟩ := row_nums w1
  clear w1 hwf w0
  have hle := hN.le
  have hmx := hN.max
  unfold maxLen at hmx
  by_cases hbig : 300 < len1
  · clear hN
    go_enter Try.func8, Try.ntmps8
    go_wp2
    go_ret
    exact ⟨rfl, Below.refl _ _⟩
  · have HN := hid hN
    clear hN
    go_enter Try.func8, Try.ntmps8
    go_wp2
    go_loopw [0, 5] (fun sv iv wr => ∃ (k : Nat) (s : Int), k ≤ len1 ∧ iv = .int .i64 k ∧ sv = .int .i64 s ∧ Hid (Below w.heap.size w wr)) (fun _ iv _ => len1 - (intOf iv).toNat)
    case atStart => exact ⟨0, a0, Nat.zero_le _, rfl, rfl, hid (Below.refl _ _)⟩
    case round =>
      obtain ⟨k, s, hk, rfl, rfl, HB⟩ := hrel
      by_cases hlt : k < len1
      · obtain ⟨b, off, ha, hb1, hb2, hc⟩ := HN.out.cells (by omega)
        subst ha
        obtain ⟨x, hx⟩ : ∃ x, x = l.getD k 0 := ⟨_, rfl⟩
        have hc0 := hc k hlt
        rw [← hx] at hc0
        have hcx : wr.cell? ⟨b, off + k, none⟩ = some (.int .i64 x) := (HB.out.cell (p := ⟨b, off + k, none⟩) hb1).trans hc0
        clear hc hx hc0
        have KS := hid (fun w => step_any s x w)
        have U := hid (ups s x)
        have hcb := act_bd s x
        obtain ⟨t, ht⟩ : ∃ t, t = toI s x := ⟨_, rfl⟩
        obtain ⟨c, hcc⟩ : ∃ c, c = actI s x := ⟨_, rfl⟩
        rw [← ht, ← hcc] at KS U
        rw [← hcc] at hcb
        clear ht hcc
        rcases four s t with ⟨h1, h2⟩ | ⟨h1, h2⟩ | ⟨h1, h2⟩ | ⟨h1, h2⟩
        · subst h1 h2
          have L1 := hid (fun w => has_is c 1 false (by rw [U.out.1]; rfl) w (by omega) (by decide))
          have L2 := hid (fun w => has_is c 2 false (by rw [U.out.2]; rfl) w (by omega) (by decide))
          clear U
          go_wp2_with (first | (go_at_call 30; ((with_reducible refine (KS.out _).mono ?_); rintro e wa ⟨rfl, ba⟩)) | (go_at_call 32; ((with_reducible refine (L1.out _).mono ?_); rintro e wb ⟨rfl, rfl⟩)) | (go_at_call 32; ((with_reducible refine (L2.out _).mono ?_); rintro e wb ⟨rfl, rfl⟩)))
          go_roundw
          case rel => exact ⟨k + 1, 9, by omega, by go_num, rfl, hid (HB.out.trans (ba.mono HB.out.size))⟩
          case measure => simp [intOf]; omega
        · subst h1
          have g1 : (t == 9) = false := by simpa using h2
          have g2 : (t != 9) = true := by simpa using h2
          have L1 := hid (fun w => has_is c 1 false (by rw [U.out.1]; simp) w (by omega) (by decide))
          have L2 := hid (fun w => has_is c 2 true (by rw [U.out.2, g2]; rfl) w (by omega) (by decide))
          clear U h2
          go_wp2_with (first | (go_at_call 30; ((with_reducible refine (KS.out _).mono ?_); rintro e wa ⟨rfl, ba⟩)) | (go_at_call 32; ((with_reducible refine (L1.out _).mono ?_); rintro e wb ⟨rfl, rfl⟩)) | (go_at_call 32; ((with_reducible refine (L2.out _).mono ?_); rintro e wb ⟨rfl, rfl⟩)))
          go_roundw
          case rel => exact ⟨k + 1, t, by omega, by go_num, rfl, hid (HB.out.trans (ba.mono HB.out.size))⟩
          case measure => simp [intOf]; omega
        · subst h2
          have g1 : (s == 9) = false := by simpa using h1
          have g2 : (s != 9) = true := by simpa using h1
          have L1 := hid (fun w => has_is c 1 true (by rw [U.out.1, g2]; rfl) w (by omega) (by decide))
          have L2 := hid (fun w => has_is c 2 false (by rw [U.out.2, g1]; rfl) w (by omega) (by decide))
          clear U h1
          go_wp2_with (first | (go_at_call 30; ((with_reducible refine (KS.out _).mono ?_); rintro e wa ⟨rfl, ba⟩)) | (go_at_call 32; ((with_reducible refine (L1.out _).mono ?_); rintro e wb ⟨rfl, rfl⟩)) | (go_at_call 32; ((with_reducible refine (L2.out _).mono ?_); rintro e wb ⟨rfl, rfl⟩)))
          go_roundw
          case rel => exact ⟨k + 1, 9, by omega, by go_num, rfl, hid (HB.out.trans (ba.mono HB.out.size))⟩
          case measure => simp [intOf]; omega
        · have g1 : (s == 9) = false := by simpa using h1
          have g2 : (s != 9) = true := by simpa using h1
          have g3 : (t == 9) = false := by simpa using h2
          have L1 := hid (fun w => has_is c 1 false (by rw [U.out.1, g2, g3]; rfl) w (by omega) (by decide))
          have L2 := hid (fun w => has_is c 2 false (by rw [U.out.2, g1]; rfl) w (by omega) (by decide))
          clear U h1 h2
          go_wp2_with (first | (go_at_call 30; ((with_reducible refine (KS.out _).mono ?_); rintro e wa ⟨rfl, ba⟩)) | (go_at_call 32; ((with_reducible refine (L1.out _).mono ?_); rintro e wb ⟨rfl, rfl⟩)) | (go_at_call 32; ((with_reducible refine (L2.out _).mono ?_); rintro e wb ⟨rfl, rfl⟩)))
          go_roundw
          case rel => exact ⟨k + 1, t, by omega, by go_num, rfl, hid (HB.out.trans (ba.mono HB.out.size))⟩
          case measure => simp [intOf]; omega
      · obtain rfl : k = len1 := by omega
        clear HN
        go_wp2_with (go_at_call 34; ((with_reducible refine (alive_any _).mono ?_); rintro e wc ⟨rfl, bc⟩))
        go_ret
        exact ⟨rfl, HB.out.trans (bc.mono HB.out.size)⟩

/-! ### THE ROW's STEP: WRITTEN OUT: LEAVE IT -/
set_option maxRecDepth 100000 in
theorem lifted (os : Os) (started : os.Started) (H : Type) (enc : TypeId × Value → H) :
    ReturnsInHanded {} Try.checked os 8 .any (Rows.fsmUpsSpec.pre6 enc Try.prog Try.f8 Rows.fsmUpsRow.domain false) (Rows.fsmUpsSpec.post enc Try.prog Try.f8 false true false false) := by
  refine returnsInHanded_of_change (C := Try.checked) own started (by kernel_rfl) Try.func8
    (ChangeSpec.witness6 (enc := enc) (C := Try.checked) false ⟨#[], #[.int .i64 0, .slice none 0 0], []⟩ 8 (by kernel_rfl) (by kernel_rfl) (by kernel_rfl) (by kernel_rfl)) ?_
  intro W base args ds gs before hval0 hW hcnd _
  have hval : ∀ (j : Nat) t v, Try.f8.params[j]? = some t → args[j]? = some v → Value.okWide Try.prog W .any base t v := hval0
  have hW' := hW
  obtain ⟨p, q, hA0, hV, rfl, hfz, hnd⟩ := hW
  have hA : DataW.TrodAll enc Try.prog W 0 (fun _ => true) true Try.f8.params.toList args.toList ds p := hA0
  rw [Try.params8] at hA hval
  obtain ⟨v0, vs0, d0, ds0, p0, q0, hargs, rfl, rfl, h0, r0⟩ := trodAll_cons hA
  obtain ⟨v1, vs1, d1, ds1, p1, q1, rfl, rfl, rfl, h1, r1⟩ := trodAll_cons r0
  obtain ⟨rfl, rfl, rfl⟩ := trodAll_nil r1
  obtain rfl : args = #[v0, v1] := by cases args; simp_all
  obtain ⟨rfl, rfl⟩ := trodVars_none hV
  obtain ⟨a0, rfl, rfl, rfl, w0⟩ := open_int Try.underlying43 (hval 0 43 v0 rfl rfl) h0
  obtain ⟨a1, len1, cap1, rfl⟩ := okWide_slice Try.underlying54 (hval 1 54 v1 rfl rfl)
  have k1 := h1
  have lt1 : ∀ x ∈ p1, x.block < W.heap.size := by obtain ⟨m, hm⟩ := k1; exact DataW.trod_lt m _ _ _ hm
  obtain ⟨z1, w1⟩ : ∃ zs, IsRow .i64 W a1 len1 cap1 zs := by
    obtain ⟨fuel, hf⟩ := h1
    rcases open_ints Try.underlying54 Try.underlying44 (by kernel_rfl) hf with ⟨hcs, _⟩ | ⟨x, l, c, zs, hcs, _, hl, hm, hz, _, hcell, hwz⟩
    · simp [Value.cells] at hcs
      obtain ⟨rfl, rfl, rfl⟩ := hcs
      exact ⟨[], .inl ⟨rfl, rfl, rfl, rfl⟩⟩
    · simp [Value.cells] at hcs
      obtain ⟨rfl, rfl, rfl⟩ := hcs
      exact ⟨zs, .inr ⟨_, rfl, hl, hm, by simpa using hz, hcell, hwz⟩⟩
  clear hA0 hval0
  refine (walk a0 a1 len1 cap1 z1 W w0 w1).mono fun e W' ⟨he, bel⟩ => ?_
  subst he
  exact ⟨_, rfl, _, _, _, [], _, [], hW', trodAll_mk1 (shut_bool Try.underlying4 _), (trodAll_cons_mk (shut_int Try.underlying43 w0) (trodAll_cons_mk (Below.trod laidOut (by kernel_rfl) (of_decide_eq_true (by kernel_rfl)) k1 bel lt1) trodAll_mk0)), rfl, bel.frame _, fun h => by cases h⟩

theorem over : Rows.fsmUpsRow.holds Try.pinned (OpenSpec.ofChange Rows.fsmUpsSpec) :=
  OpenClaim.holds_of_wide 8 Try.f8 rfl rfl rfl rfl rfl rfl rfl ⟨rfl, rfl, rfl, rfl, rfl⟩ rfl rfl rfl rfl rfl (by kernel_rfl) Try.func8 (by kernel_rfl)
    (of_decide_eq_true (by kernel_rfl)) (by unfold Func.isWrapper; first | (rw [if_pos (by decide +kernel)]; kernel_rfl) | (rw [if_neg (by decide +kernel)]; exact ⟨rfl, rfl⟩))
    (fun os started H enc _ => lifted os started H enc)

/-- ████ THE STATEMENT ████ -/
theorem proved : Rows.FsmUpsSaid := over
end Go.Proofs.Ytlfcjfmfkmcmiaa.fsmUps
