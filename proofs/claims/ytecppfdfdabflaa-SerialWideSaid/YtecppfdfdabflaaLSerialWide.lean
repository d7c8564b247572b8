/- catwalklaw02.SerialWide answers true at every input, and leaves its arguments as they were. No condition. -/
import Derived.Test.YtecppfdfdabflaaRows
import Derived.WalkKit
import Derived.ProofKit
import Derived.OpenShut
import Derived.ShutString
import Derived.ChangeOld
import Derived.Below
import Derived.Test.YtecppfdfdabflaaSerialRefWide
import Derived.Deep.DeepCutAuto
import Derived.Deep.RegionWith
import Derived.Deep.RegionHeld3
namespace Go.Proofs.Ytecppfdfdabflaa.serialWide
open Go.ChangeShapes Go.WideShapes Go.ChangeAt Go.RowKit
open Go.ChangeMaps (open_string shut_string)
set_option linter.unusedVariables false

theorem own : ownKnob Try.prog.godebug = none := by kernel_rfl
theorem laidOut : laidOutB Try.prog = true := by kernel_rfl

/-- WHAT THE WALK IS TOLD OF A SLICE OF INTEGERS THAT CAME IN: it is nil; or it leads to a row of 'cap' cells, the numbers 'zs' (the first 'len' are its elements, the rest its spare room), each fitting its kind. -/
def IsRow (k : IntKind) (w : World) (a : Option Addr) (len cap : Nat) (zs : List Int) : Prop :=
  (a = none ∧ len = 0 ∧ cap = 0 ∧ zs = []) ∨
  ∃ x, a = some x ∧ len ≤ cap ∧ cap ≤ maxLen ∧ zs.length = cap ∧ (∀ i, i < zs.length → w.cell? (x.add i) = some (.int k (zs.getD i 0))) ∧ ∀ n ∈ zs, (Lit.int k n).wf = true

open Go.Proofs.Ytecppfdfdabflaa.kit Go.Proofs.Ytecppfdfdabflaa.serialc
/-- what holds at each round's head: both hold the same greatest so far -/
def Rel (B k : Nat) (w wr : World) : Prop :=
  ∃ T : Int, ∃ sm : Bool, 0 ≤ T ∧ T ≤ 4294967296 * (k + 1) ∧ (sm = false → T = 0) ∧ wr.cell? ⟨B, 0, none⟩ = some (.int .i64 T) ∧ wr.frozen? ⟨B, 0, none⟩ = false ∧
    wr.cell? ⟨B + 1, 0, none⟩ = some (.int .i64 T) ∧ wr.cell? ⟨B + 1, 1, none⟩ = some (.bool sm) ∧ wr.frozen? ⟨B + 1, 0, none⟩ = false ∧ wr.frozen? ⟨B + 1, 1, none⟩ = false ∧
    B + 2 ≤ wr.heap.size ∧ Below B w wr
theorem start (w : World) : Rel w.heap.size 0 w ((w.alloc (Obj.cells #[.int .i64 0] 62)).alloc (Obj.cells #[.int .i64 0, .bool false] 65)) := by
  refine ⟨0, false, by omega, by omega, fun _ => rfl, ?_, ?_, ?_, ?_, ?_, ?_, by simp, ((Below.refl _ _).alloc (Nat.le_refl _) _).alloc (by simp) _⟩ <;> simp [go_sem]
theorem endR {B k : Nat} {w wr w2 : World} {T n : Int} (hT0 : 0 ≤ T) (hT1 : T ≤ 4294967296 * (k + 1)) (hb : Below B w wr) (h0 : w2.cell? ⟨B, 0, none⟩ = some (.int .i64 (max T (wideOf T n)))) (h1 : w2.frozen? ⟨B, 0, none⟩ = false)
    (h2 : w2.cell? ⟨B + 1, 0, none⟩ = some (.int .i64 (max T (wideOf T n)))) (h3 : w2.cell? ⟨B + 1, 1, none⟩ = some (.bool true)) (h4 : w2.frozen? ⟨B + 1, 0, none⟩ = false) (h5 : w2.frozen? ⟨B + 1, 1, none⟩ = false)
    (hsz : B + 2 ≤ w2.heap.size) (hb2 : Below B w w2) : Rel B (k + 1) w w2 := by
  have hw := wideOf_bd T n hT0
  exact ⟨max T (wideOf T n), true, by omega, by push_cast; omega, fun h => (by cases h), h0, h1, h2, h3, h4, h5, hsz, hb2⟩

/-! ### STEP 1: THE WALK: the Go text returns true, AND WRITES NOTHING THAT WAS THERE: 'Below w.heap.size w w'' (Derived/Below.lean: '.refl', '.alloc', '.drew', '.setCell' at a new block, '.trans'). Open each 'IsRow' by 'rcases' AHEAD of 'go_enter'; part every test ahead of the walk. -/
set_option maxHeartbeats 4000000 in
theorem walk (a0 : Option Addr) (len0 cap0 : Nat) (z0 : List Int) (w : World) (w0 : IsRow .u32 w a0 len0 cap0 z0) :
    Calls Try.prog 8 #[.slice a0 len0 cap0] w fun e w' => e = .returned (.bool true) ∧ Below w.heap.size w w' := by
  have hlen := row_len w0
  have hrow := row_at w0
  unfold maxLen at hlen
  obtain ⟨hl1, hl2, hl3⟩ := hlen
  by_cases hbig : 500 < len0
  · clear hrow w0
    go_enter Try.func8, Try.ntmps8
    go_wp2
    go_ret
    exact ⟨rfl, Below.refl _ _⟩
  · have HR := hid hrow
    clear hrow w0 hl3
    go_enter Try.func8, Try.ntmps8
    go_wp2
    go_loopw [5] (fun i wr => ∃ k : Nat, k ≤ len0 ∧ i = .int .i64 k ∧ Rel w.heap.size k w wr) (fun i _ => len0 - (intOf i).toNat)
    case atStart => 
      exact ⟨0, Nat.zero_le _, rfl, start w⟩
    case round =>
      obtain ⟨k, hk, rfl, T, sm, hT0, hT1, hsm, c0, f0, c1, c2, f1, f2, hsz, hb⟩ := hrel
      by_cases hlt : k < len0
      · obtain ⟨b, off, ha, hbs, hlz, hcell, hwf⟩ := HR.out (by omega)
        subst ha
        have hcx : wr.cell? ⟨b, off + k, none⟩ = some (.int .u32 (z0.getD k 0)) := (hb.cell (by exact hbs)).trans (hcell k hlt)
        have hu := wf_u32 (hwf k hlt)
        clear hcell hwf HR
        obtain ⟨n, hn⟩ : ∃ n, n = z0.getD k 0 := ⟨_, rfl⟩
        rw [← hn] at hcx hu
        clear hn
        go_upto_region 7 with fail
        go_cut [40] (fun s wx => s = .bool false ∧ Rel w.heap.size (k + 1) w wx)
        case first =>
          go_region_with (first | (go_at_call 35; go_loud (refine (of_only _ T n _ hT0 (by omega) (by exact c0) (by exact f0)).mono ?_); go_loud (rintro e w1 ⟨rfl, p0, q0, hg1⟩); go_loud (have p1 := gb_cell hg1 c1 (by simp)); go_loud (have p2 := gb_cell hg1 c2 (by simp)); go_loud (have q1 := (gb_frozen hg1 (p := ⟨w.heap.size + 1, 0, none⟩) (by simp; omega) (by simp)).trans f1); go_loud (have q2 := (gb_frozen hg1 (p := ⟨w.heap.size + 1, 1, none⟩) (by simp; omega) (by simp)).trans f2); go_loud (have pcx := gb_cell hg1 hcx (by simp; omega)); go_loud (have psz : wr.heap.size ≤ w1.heap.size := hg1.size); go_loud (have pb := gb_below hb.drew hg1 (by simp; omega) (by simp))) | (go_at_call 36; go_loud (refine (ref_of _ T n sm _ hT0 (by omega) ⟨by omega, by omega⟩ hsm (by exact p1) (by exact p2) (by exact q1) (by exact q2)).mono ?_); go_loud (rintro e w2 ⟨rfl, r0, r1, s0, s1, hg2⟩); go_loud (have r2 := gb_cell hg2 p0 (by simp)); go_loud (have s2 := (gb_frozen hg2 (p := ⟨w.heap.size, 0, none⟩) (by first | omega | (simp; omega)) (by simp)).trans q0); have rsz := hg2.size;  go_loud (have rb := gb_below pb hg2 (by first | omega | (simp; omega)) (by simp))) | (go_at_call 37; go_loud (refine (top_any _ 0 _ _ (by exact r2)).mono ?_); go_loud (rintro e w3 ⟨rfl, rfl⟩)))
          all_goals (go_wp2_with fail; go_meet; exact ⟨rfl, endR hT0 hT1 hb r2 s2 r0 r1 s0 s1 (by omega) rb⟩)
        case rest =>
          obtain ⟨rfl, hrel⟩ := hcut
          go_wp2_with fail
          go_roundw
          case rel => exact ⟨k + 1, by omega, by go_num, hrel⟩
          case measure => simp [intOf]; omega
      · go_wp2_with (go_at_call 34; refine (alive_any _).mono ?_; rintro e w' ⟨rfl, rfl⟩)
        go_ret
        exact ⟨rfl, hb⟩

/-! ### THE ROW's STEP: WRITTEN OUT: LEAVE IT -/
set_option maxRecDepth 100000 in
theorem lifted (os : Os) (started : os.Started) (H : Type) (enc : TypeId × Value → H) :
    ReturnsInHanded {} Try.checked os 8 .any (Rows.serialWideSpec.pre6 enc Try.prog Try.f8 Rows.serialWideRow.domain false) (Rows.serialWideSpec.post enc Try.prog Try.f8 false true false false) := by
  refine returnsInHanded_of_change (C := Try.checked) own started (by kernel_rfl) Try.func8
    (ChangeSpec.witness6 (enc := enc) (C := Try.checked) false ⟨#[], #[.slice none 0 0], []⟩ 8 (by kernel_rfl) (by kernel_rfl) (by kernel_rfl) (by kernel_rfl)) ?_
  intro W base args ds gs before hval0 hW hcnd _
  have hval : ∀ (j : Nat) t v, Try.f8.params[j]? = some t → args[j]? = some v → Value.okWide Try.prog W .any base t v := hval0
  have hW' := hW
  obtain ⟨p, q, hA0, hV, rfl, hfz, hnd⟩ := hW
  have hA : DataW.TrodAll enc Try.prog W 0 (fun _ => true) true Try.f8.params.toList args.toList ds p := hA0
  rw [Try.params8] at hA hval
  obtain ⟨v0, vs0, d0, ds0, p0, q0, hargs, rfl, rfl, h0, r0⟩ := trodAll_cons hA
  obtain ⟨rfl, rfl, rfl⟩ := trodAll_nil r0
  obtain rfl : args = #[v0] := by cases args; simp_all
  obtain ⟨rfl, rfl⟩ := trodVars_none hV
  obtain ⟨a0, len0, cap0, rfl⟩ := okWide_slice Try.underlying59 (hval 0 59 v0 rfl rfl)
  have k0 := h0
  have lt0 : ∀ x ∈ p0, x.block < W.heap.size := by obtain ⟨m, hm⟩ := k0; exact DataW.trod_lt m _ _ _ hm
  obtain ⟨z0, w0⟩ : ∃ zs, IsRow .u32 W a0 len0 cap0 zs := by
    obtain ⟨fuel, hf⟩ := h0
    rcases open_ints Try.underlying59 Try.underlying31 (by kernel_rfl) hf with ⟨hcs, _⟩ | ⟨x, l, c, zs, hcs, _, hl, hm, hz, _, hcell, hwz⟩
    · simp [Value.cells] at hcs
      obtain ⟨rfl, rfl, rfl⟩ := hcs
      exact ⟨[], .inl ⟨rfl, rfl, rfl, rfl⟩⟩
    · simp [Value.cells] at hcs
      obtain ⟨rfl, rfl, rfl⟩ := hcs
      exact ⟨zs, .inr ⟨_, rfl, hl, hm, by simpa using hz, hcell, hwz⟩⟩
  clear hA0 hval0
  refine (walk a0 len0 cap0 z0 W w0).mono fun e W' ⟨he, bel⟩ => ?_
  subst he
  exact ⟨_, rfl, _, _, _, [], _, [], hW', trodAll_mk1 (shut_bool Try.underlying4 _), (trodAll_cons_mk (Below.trod laidOut (by kernel_rfl) (of_decide_eq_true (by kernel_rfl)) k0 bel lt0) trodAll_mk0), rfl, bel.frame _, fun h => by cases h⟩

theorem over : Rows.serialWideRow.holds Try.pinned (OpenSpec.ofChange Rows.serialWideSpec) :=
  OpenClaim.holds_of_wide 8 Try.f8 rfl rfl rfl rfl rfl rfl rfl ⟨rfl, rfl, rfl, rfl, rfl⟩ rfl rfl rfl rfl rfl (by kernel_rfl) Try.func8 (by kernel_rfl)
    (of_decide_eq_true (by kernel_rfl)) (by unfold Func.isWrapper; first | (rw [if_pos (by decide +kernel)]; kernel_rfl) | (rw [if_neg (by decide +kernel)]; exact ⟨rfl, rfl⟩))
    (fun os started H enc _ => lifted os started H enc)

/-- ████ THE STATEMENT ████ -/
theorem proved : Rows.SerialWideSaid := over
end Go.Proofs.Ytecppfdfdabflaa.serialWide
