/- catwalklaw02.SerialTrue answers true at every input, and leaves its arguments as they were. No condition. -/
import Derived.Test.YtecppfdfdabflaaRows
import Derived.WalkKit
import Derived.ProofKit
import Derived.OpenShut
import Derived.ShutString
import Derived.ChangeOld
import Derived.Below
import Derived.Test.YtecppfdfdabflaaSerialRefWide
import Derived.Deep.DeepCutAuto
import Derived.Deep.RegionWith
namespace Go.Proofs.Ytecppfdfdabflaa.serialTrue
open Go.ChangeShapes Go.WideShapes Go.ChangeAt Go.RowKit
open Go.ChangeMaps (open_string shut_string)
set_option linter.unusedVariables false

theorem own : ownKnob Try.prog.godebug = none := by kernel_rfl
theorem laidOut : laidOutB Try.prog = true := by kernel_rfl

/-- WHAT THE WALK IS TOLD OF A SLICE OF INTEGERS THAT CAME IN: it is nil; or it leads to a row of 'cap' cells, the numbers 'zs' (the first 'len' are its elements, the rest its spare room), each fitting its kind. -/
def IsRow (k : IntKind) (w : World) (a : Option Addr) (len cap : Nat) (zs : List Int) : Prop :=
  (a = none ∧ len = 0 ∧ cap = 0 ∧ zs = []) ∨
  ∃ x, a = some x ∧ len ≤ cap ∧ cap ≤ maxLen ∧ zs.length = cap ∧ (∀ i, i < zs.length → w.cell? (x.add i) = some (.int k (zs.getD i 0))) ∧ ∀ n ∈ zs, (Lit.int k n).wf = true

open Go.Proofs.Ytecppfdfdabflaa.kit Go.Proofs.Ytecppfdfdabflaa.serialc
/-- a number less than half of all from the greatest one is told by its difference -/
theorem tells {T x : Int} (h0 : 0 ≤ x) (h1 : -2147483648 < x - T) (h2 : x - T ≤ 2147483647) (hT : 0 ≤ T) : wideOf T (x % 4294967296) = x := by
  have e : wideRaw T (x % 4294967296) = x := by unfold wideRaw dist; omega
  unfold wideOf; rw [e]; split <;> omega
/-- what holds at each round's head -/
def Rel (B k : Nat) (T : Int) (w wr : World) : Prop :=
  0 ≤ T ∧ T ≤ 4294967296 * (k + 1) ∧ wr.cell? ⟨B, 0, none⟩ = some (.int .i64 T) ∧ wr.frozen? ⟨B, 0, none⟩ = false ∧ B + 1 ≤ wr.heap.size ∧ Below B w wr
theorem startR {B : Nat} {w w1 w2 : World} {n : Int} (hn : U32 n) (hb : Below B w w1) (hsz : B + 1 ≤ w1.heap.size) (h : OfPost B 0 n w1 (.returned (.int .i64 (wideOf 0 n))) w2) : Rel B 0 n w w2 := by
  obtain ⟨_, h1, h2, h3⟩ := h
  have e := wideOf_first n hn
  have e2 : max 0 n = n := by have := hn.1; omega
  rw [e, e2] at h1
  have hs := h3.size
  exact ⟨hn.1, by have := hn.2; omega, h1, h2, by omega, gb_below hb h3 (by omega) (by omega)⟩
theorem nextR {B k : Nat} {w w1 w2 : World} {T x : Int} (hr : Rel B k T w w1) (hx : 0 ≤ x) (hx2 : x ≤ T + 2147483647) (e : wideOf T (x % 4294967296) = x) (h1 : w2.cell? ⟨B, 0, none⟩ = some (.int .i64 (max T (wideOf T (x % 4294967296))))) (h2 : w2.frozen? ⟨B, 0, none⟩ = false) (h3 : w1.grownBy w2 (some B)) : Rel B (k + 1) (max T x) w w2 := by
  obtain ⟨hT0, hT1, _, _, hsz, hb⟩ := hr
  rw [e] at h1
  have hs := h3.size
  exact ⟨by omega, by push_cast; omega, h1, h2, by omega, gb_below hb h3 (by omega) (by omega)⟩
theorem skipR {B k : Nat} {w w1 : World} {T : Int} (hr : Rel B k T w w1) : Rel B (k + 1) T w w1 :=
  ⟨hr.1, by have := hr.2.1; push_cast; omega, hr.2.2⟩

/-! ### STEP 1: THE WALK: the Go text returns true, AND WRITES NOTHING THAT WAS THERE: 'Below w.heap.size w w'' (Derived/Below.lean: '.refl', '.alloc', '.drew', '.setCell' at a new block, '.trans'). Open each 'IsRow' by 'rcases' AHEAD of 'go_enter'; part every test ahead of the walk. -/
set_option maxHeartbeats 1000000 in
theorem walk (a0 : Int) (a1 : Option Addr) (len1 cap1 : Nat) (z1 : List Int) (w : World) (w0 : (Lit.int .u32 a0).wf = true) (w1 : IsRow .i32 w a1 len1 cap1 z1) :
    Calls Try.prog 9 #[.int .u32 a0, .slice a1 len1 cap1] w fun e w' => e = .returned (.bool true) ∧ Below w.heap.size w w' := by
  have hlen := row_len w1
  have hrow := row_at w1
  have hu0 := wf_u32 w0
  have hU : U32 a0 := ⟨by omega, by omega⟩
  have hW := hid (wideOf_first a0 hU)
  unfold maxLen at hlen
  obtain ⟨hl1, hl2, hl3⟩ := hlen
  by_cases hbig : 500 < len1
  · clear hrow w1
    go_enter Try.func9, Try.ntmps9
    go_wp2
    go_ret
    exact ⟨rfl, Below.refl _ _⟩
  · have HR := hid hrow
    clear hrow w1 hl3
    have hz : (w.alloc (Obj.cells #[.int .i64 0] 62)).cell? ⟨w.heap.size, 0, none⟩ = some (.int .i64 0) := by simp [go_sem]
    have hzf : (w.alloc (Obj.cells #[.int .i64 0] 62)).frozen? ⟨w.heap.size, 0, none⟩ = false := by simp [go_sem]
    have hw0 : (wideOf 0 a0 != a0) = false := by simp [hW.out]
    have HZ := hid hz
    have HZF := hid hzf
    clear hz hzf
    go_enter Try.func9, Try.ntmps9
    go_wp2_with (go_at_call 35; go_loud (refine (of_only _ 0 a0 _ (by omega) (by omega) HZ.out HZF.out).mono ?_); go_loud (rintro e w1 ⟨rfl, h1, h2, h3⟩))
    have hR0 : Rel w.heap.size 0 a0 w w1 := startR hU ((Below.refl _ _).alloc (Nat.le_refl _) _) (by simp) ⟨rfl, h1, h2, h3⟩
    clear h1 h2 h3 HZ HZF hw0
    go_loopw [6, 7] (fun t i wr => ∃ k : Nat, ∃ T : Int, k ≤ len1 ∧ i = .int .i64 k ∧ t = .int .i64 T ∧ Rel w.heap.size k T w wr) (fun _ i _ => len1 - (intOf i).toNat)
    case atStart => exact ⟨0, a0, Nat.zero_le _, rfl, rfl, hR0⟩
    case round =>
      clear hR0
      obtain ⟨k, T, hk, rfl, rfl, hR⟩ := hrel
      obtain ⟨hT0, hT1, hc, hf, hsz, hb⟩ := id hR
      by_cases hlt : k < len1
      · obtain ⟨b, off, ha, hbs, hlz, hcell, hwf⟩ := HR.out (by omega)
        subst ha
        have hcx : wr.cell? ⟨b, off + k, none⟩ = some (.int .i32 (z1.getD k 0)) := (hb.cell (by exact hbs)).trans (hcell k hlt)
        have hu := wf_i32 (hwf k hlt)
        clear hcell hwf HR
        obtain ⟨s, hs⟩ : ∃ s, s = z1.getD k 0 := ⟨_, rfl⟩
        rw [← hs] at hcx hu
        clear hs
        by_cases hx : T + s < 0
        · go_wp2_with fail
          go_roundw
          case rel => exact ⟨k + 1, T, by omega, by go_num, rfl, skipR hR⟩
          case measure => simp [intOf]; omega
        · by_cases hm : s = -2147483648
          · have hm1 : (s == -2147483648) = true := by simp [hm]
            have HM := hid hm
            clear hm
            go_wp2_with fail
            go_roundw
            case rel => exact ⟨k + 1, T, by omega, by go_num, rfl, skipR hR⟩
            case measure => simp [intOf]; omega
          · have hm1 : (s == -2147483648) = false := by simp [hm]
            have ht := tells (T := T) (x := T + s) (by omega) (by omega) (by omega) hT0
            have hw1 : (wideOf T ((T + s) % 4294967296) != T + s) = false := by simp [ht]
            have HT := hid ht
            clear ht
            go_wp2_with (go_at_call 35; go_loud (refine (of_only _ T ((T + s) % 4294967296) _ hT0 (by omega) hc hf).mono ?_); go_loud (rintro e w2 ⟨rfl, h1, h2, h3⟩))
            go_roundw
            case rel => exact ⟨k + 1, max T (T + s), by omega, by go_num, congrArg (Value.int .i64) (by split <;> omega), nextR hR (by omega) (by omega) HT.out h1 h2 h3⟩
            case measure => simp [intOf]; omega
      · obtain rfl : k = len1 := by omega
        go_wp2_with (first | (go_at_call 34; refine (alive_any _).mono ?_; rintro e w' ⟨rfl, rfl⟩) | (go_at_call 37; go_loud (refine (top_any _ 0 _ _ hc).mono ?_); go_loud (rintro e w3 ⟨rfl, rfl⟩)))
        go_ret
        exact ⟨rfl, hb⟩

/-! ### THE ROW's STEP: WRITTEN OUT: LEAVE IT -/
set_option maxRecDepth 100000 in
theorem lifted (os : Os) (started : os.Started) (H : Type) (enc : TypeId × Value → H) :
    ReturnsInHanded {} Try.checked os 9 .any (Rows.serialTrueSpec.pre6 enc Try.prog Try.f9 Rows.serialTrueRow.domain false) (Rows.serialTrueSpec.post enc Try.prog Try.f9 false true false false) := by
  refine returnsInHanded_of_change (C := Try.checked) own started (by kernel_rfl) Try.func9
    (ChangeSpec.witness6 (enc := enc) (C := Try.checked) false ⟨#[], #[.int .u32 0, .slice none 0 0], []⟩ 8 (by kernel_rfl) (by kernel_rfl) (by kernel_rfl) (by kernel_rfl)) ?_
  intro W base args ds gs before hval0 hW hcnd _
  have hval : ∀ (j : Nat) t v, Try.f9.params[j]? = some t → args[j]? = some v → Value.okWide Try.prog W .any base t v := hval0
  have hW' := hW
  obtain ⟨p, q, hA0, hV, rfl, hfz, hnd⟩ := hW
  have hA : DataW.TrodAll enc Try.prog W 0 (fun _ => true) true Try.f9.params.toList args.toList ds p := hA0
  rw [Try.params9] at hA hval
  obtain ⟨v0, vs0, d0, ds0, p0, q0, hargs, rfl, rfl, h0, r0⟩ := trodAll_cons hA
  obtain ⟨v1, vs1, d1, ds1, p1, q1, rfl, rfl, rfl, h1, r1⟩ := trodAll_cons r0
  obtain ⟨rfl, rfl, rfl⟩ := trodAll_nil r1
  obtain rfl : args = #[v0, v1] := by cases args; simp_all
  obtain ⟨rfl, rfl⟩ := trodVars_none hV
  obtain ⟨a0, rfl, rfl, rfl, w0⟩ := open_int Try.underlying31 (hval 0 31 v0 rfl rfl) h0
  obtain ⟨a1, len1, cap1, rfl⟩ := okWide_slice Try.underlying69 (hval 1 69 v1 rfl rfl)
  have k1 := h1
  have lt1 : ∀ x ∈ p1, x.block < W.heap.size := by obtain ⟨m, hm⟩ := k1; exact DataW.trod_lt m _ _ _ hm
  obtain ⟨z1, w1⟩ : ∃ zs, IsRow .i32 W a1 len1 cap1 zs := by
    obtain ⟨fuel, hf⟩ := h1
    rcases open_ints Try.underlying69 Try.underlying21 (by kernel_rfl) hf with ⟨hcs, _⟩ | ⟨x, l, c, zs, hcs, _, hl, hm, hz, _, hcell, hwz⟩
    · simp [Value.cells] at hcs
      obtain ⟨rfl, rfl, rfl⟩ := hcs
      exact ⟨[], .inl ⟨rfl, rfl, rfl, rfl⟩⟩
    · simp [Value.cells] at hcs
      obtain ⟨rfl, rfl, rfl⟩ := hcs
      exact ⟨zs, .inr ⟨_, rfl, hl, hm, by simpa using hz, hcell, hwz⟩⟩
  clear hA0 hval0
  refine (walk a0 a1 len1 cap1 z1 W w0 w1).mono fun e W' ⟨he, bel⟩ => ?_
  subst he
  exact ⟨_, rfl, _, _, _, [], _, [], hW', trodAll_mk1 (shut_bool Try.underlying4 _), (trodAll_cons_mk (shut_int Try.underlying31 w0) (trodAll_cons_mk (Below.trod laidOut (by kernel_rfl) (of_decide_eq_true (by kernel_rfl)) k1 bel lt1) trodAll_mk0)), rfl, bel.frame _, fun h => by cases h⟩

theorem over : Rows.serialTrueRow.holds Try.pinned (OpenSpec.ofChange Rows.serialTrueSpec) :=
  OpenClaim.holds_of_wide 9 Try.f9 rfl rfl rfl rfl rfl rfl rfl ⟨rfl, rfl, rfl, rfl, rfl⟩ rfl rfl rfl rfl rfl (by kernel_rfl) Try.func9 (by kernel_rfl)
    (of_decide_eq_true (by kernel_rfl)) (by unfold Func.isWrapper; first | (rw [if_pos (by decide +kernel)]; kernel_rfl) | (rw [if_neg (by decide +kernel)]; exact ⟨rfl, rfl⟩))
    (fun os started H enc _ => lifted os started H enc)

/-- ████ THE STATEMENT ████ -/
theorem proved : Rows.SerialTrueSaid := over
end Go.Proofs.Ytecppfdfdabflaa.serialTrue
