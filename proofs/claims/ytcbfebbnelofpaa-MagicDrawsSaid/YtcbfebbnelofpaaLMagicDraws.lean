/- catwalk's catwalklaw22.MagicDraws answers true at every input, and leaves its arguments as they were. No condition. -/
import Derived.Test.YtcbfebbnelofpaaRows
import Derived.WalkKit
import Derived.ProofKit
import Derived.OpenShut
import Derived.ShutString
import Derived.ChangeOld
import Derived.Below
import Derived.Test.YtcbfebbnelofpaaMagicAlive
import Derived.Test.YtcbfebbnelofpaaOpen
import Derived.Deep.DeepCutAuto
namespace Go.Proofs.Ytcbfebbnelofpaa.magicDraws
open Go.ChangeShapes Go.WideShapes Go.ChangeAt Go.RowKit
open Go.ChangeMaps (open_string shut_string)
set_option linter.unusedVariables false

theorem own : ownKnob Try.prog.godebug = none := by kernel_rfl
theorem laidOut : laidOutB Try.prog = true := by kernel_rfl

open Go.Proofs.Ytcbfebbnelofpaa.kit Go.Proofs.Ytcbfebbnelofpaa.mgm Go.Proofs.Ytcbfebbnelofpaa.mgc

set_option maxHeartbeats 2000000 in
set_option maxRecDepth 100000 in
/-- the walk: true, and nothing that was there has turned -/
theorem walk {H : Type} {enc : TypeId × Value → H} {base : Nat} (v0 : Value) (d0 : DataW H) (p0 : List MemPlace) (w : World) (w0 : DataW.Trod enc Try.prog w 0 (fun _ => true) true 22 v0 d0 p0) (o0 : Value.okWide Try.prog w .any base 22 v0) :
    Calls Try.prog 3 #[v0] w fun e w' => e = .returned (.bool true) ∧ Below w.heap.size w w' := by
  obtain ⟨a0, len0, cap0, rfl⟩ := okWide_slice Try.underlying22 o0
  obtain ⟨ho1, ho2, _, ho4⟩ := slice_cells Try.underlying22 (C := 2) (by kernel_rfl) (by decide) w0
  have hops : ∀ i, i < len0 → ∃ b off kd n, a0 = some ⟨b, off, none⟩ ∧ b < w.heap.size ∧ w.cell? ⟨b, off + (i * 2 + 0), none⟩ = some (.int .i64 kd) ∧ w.cell? ⟨b, off + (i * 2 + 1), none⟩ = some (.int .u32 n) := by
    intro i hi
    obtain ⟨b, off, ha, hb, hc⟩ := ho4 (by omega)
    obtain ⟨cs, n, y, hl, hcell, hy⟩ := hc i hi
    obtain ⟨kd, h1, _⟩ := field_int Try.underlying34 hy 0 _ rfl Try.underlying3 (by kernel_rfl)
    obtain ⟨nn, h2, _⟩ := field_int Try.underlying34 hy 1 _ rfl Try.underlying24 (by kernel_rfl)
    exact ⟨b, off, kd, nn, ha, hb, (hcell 0 (by decide)).trans h1, (hcell 1 (by decide)).trans h2⟩
  unfold maxLen at ho2
  clear w0 o0 ho4
  by_cases hbig : 200 < len0
  · clear hops
    go_enter Try.func3, Try.ntmps3
    go_wp2
    go_ret
    exact ⟨rfl, Below.refl _ _⟩
  · have HO := hid hops
    clear hops
    have K0 := hid (ms_new w)
    go_enter Try.func3, Try.ntmps3
    go_wp2_with fail
    change Code.wp _ _ _ _ ((w.alloc (.cells zeros 27)).alloc (.cells #[.slice none 0 0, .int .u64 0] 32))
    generalize (w.alloc (.cells zeros 27)).alloc (.cells #[.slice none 0 0, .int .u64 0] 32) = W at *
    go_loopw [5] (fun iv wr => ∃ (k : Nat) (q : List Int) (c : Nat), k ≤ len0 ∧ iv = .int .i64 (k : Nat) ∧ c ≤ 2 * k ∧ Hid (MS w wr w.heap.size (w.heap.size + 1) q c)) (fun iv _ => len0 - (intOf iv).toNat)
    case atStart => exact ⟨0, [], 0, Nat.zero_le _, rfl, by omega, K0⟩
    case round =>
      clear K0
      obtain ⟨k, q, c, hk, rfl, hck, HT⟩ := hrel
      by_cases hlt : k < len0
      · obtain ⟨b, off, kd, x, ha, hbw, hc0, hc1⟩ := HO.out k hlt
        subst ha
        have y0 : wr.cell? ⟨b, off + k * 2, none⟩ = some (.int .i64 kd) := (HT.out.b.cell (p := ⟨b, off + (k * 2 + 0), none⟩) hbw).trans hc0
        have y1 : wr.cell? ⟨b, off + k * 2 + 1, none⟩ = some (.int .u32 x) := (HT.out.b.cell (p := ⟨b, off + (k * 2 + 1), none⟩) hbw).trans hc1
        clear hc0 hc1 HO
        by_cases hkd : kd < 0
        · have HB := hid HT.out.b
          clear HT
          go_wp2_with fail
          go_ret
          exact ⟨rfl, HB.out⟩
        · go_upto_region 9 with fail
          have K1 := hid (step_any (HT.out.next (Below.refl _ _).drew) (by omega) kd x (by omega))
          go_region_with (first | (go_at_call 12; ((with_reducible refine K1.out.mono ?_); rintro e w1 ⟨rfl, q1, c1, hc1, h1⟩; obtain ⟨a2, cap2, hB2, _⟩ := h1.r.ex; have x2 := hB2.at_ 0 _ rfl; have H1 := hid h1; clear h1 hB2)) | (go_at_call 13; ((with_reducible refine (left_any _ _ _ _ H1.out.p).mono ?_); rintro e w2 ⟨rfl, rfl⟩)))
          all_goals
            go_wp2_with fail
            go_roundw
            case rel => exact ⟨k + 1, q1, c1, by omega, by go_num, by omega, H1⟩
            case measure => simp [intOf]; omega
      · obtain rfl : k = len0 := by omega
        have HB := hid HT.out.b
        clear HT
        go_wp2_with (go_at_call 14; ((with_reducible refine (alive_any _).mono ?_); rintro e wb ⟨rfl, h11⟩))
        go_ret
        exact ⟨rfl, HB.out.trans (h11.mono HB.out.size)⟩
set_option maxRecDepth 100000 in
theorem lifted (os : Os) (started : os.Started) (H : Type) (enc : TypeId × Value → H) :
    ReturnsInHanded {} Try.checked os 3 .any (Rows.magicDrawsSpec.pre6 enc Try.prog Try.f3 Rows.magicDrawsRow.domain false) (Rows.magicDrawsSpec.post enc Try.prog Try.f3 false true false false) := by
  refine returnsInHanded_of_change (C := Try.checked) own started (by kernel_rfl) Try.func3
    (ChangeSpec.witness6 (enc := enc) (C := Try.checked) false ⟨#[], #[.slice none 0 0], []⟩ 8 (by kernel_rfl) (by kernel_rfl) (by kernel_rfl) (by kernel_rfl)) ?_
  intro W base args ds gs before hval0 hW hcnd _
  have hval : ∀ (j : Nat) t v, Try.f3.params[j]? = some t → args[j]? = some v → Value.okWide Try.prog W .any base t v := hval0
  have hW' := hW
  obtain ⟨p, q, hA0, hV, rfl, hfz, hnd⟩ := hW
  have hA : DataW.TrodAll enc Try.prog W 0 (fun _ => true) true Try.f3.params.toList args.toList ds p := hA0
  rw [Try.params3] at hA hval
  obtain ⟨v0, vs0, d0, ds0, p0, q0, hargs, rfl, rfl, h0, r0⟩ := trodAll_cons hA
  obtain ⟨rfl, rfl, rfl⟩ := trodAll_nil r0
  obtain rfl : args = #[v0] := by cases args; simp_all
  obtain ⟨rfl, rfl⟩ := trodVars_none hV
  have k0 := h0
  have o0 := hval 0 22 v0 rfl rfl
  have lt0 : ∀ x ∈ p0, x.block < W.heap.size := by obtain ⟨m, hm⟩ := k0; exact DataW.trod_lt m _ _ _ hm
  clear hA0 hval0
  refine (walk (H := H) (enc := enc) (base := base) v0 d0 p0 W k0 o0).mono fun e W' ⟨he, bel⟩ => ?_
  subst he
  exact ⟨_, rfl, _, _, _, [], _, [], hW', trodAll_mk1 (shut_bool Try.underlying4 _), (trodAll_cons_mk (Below.trod laidOut (by kernel_rfl) (of_decide_eq_true (by kernel_rfl)) k0 bel lt0) trodAll_mk0), rfl, bel.frame _, fun h => by cases h⟩

theorem over : Rows.magicDrawsRow.holds Try.pinned (OpenSpec.ofChange Rows.magicDrawsSpec) :=
  OpenClaim.holds_of_wide 3 Try.f3 rfl rfl rfl rfl rfl rfl rfl ⟨rfl, rfl, rfl, rfl, rfl⟩ rfl rfl rfl rfl rfl (by kernel_rfl) Try.func3 (by kernel_rfl)
    (of_decide_eq_true (by kernel_rfl)) (by unfold Func.isWrapper; first | (rw [if_pos (by decide +kernel)]; kernel_rfl) | (rw [if_neg (by decide +kernel)]; exact ⟨rfl, rfl⟩))
    (fun os started H enc _ => lifted os started H enc)

/-- the statement -/
theorem proved : Rows.MagicDrawsSaid := over
end Go.Proofs.Ytcbfebbnelofpaa.magicDraws
