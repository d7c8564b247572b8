/- catwalk's catwalklaw10.OptBuilds answers true at every input, and leaves its arguments as they were. No condition. -/
import Derived.Test.YtgoldoaigijmoaaRows
import Derived.WalkKit
import Derived.ProofKit
import Derived.OpenShut
import Derived.ShutString
import Derived.ChangeOld
import Derived.Below
import Derived.Test.YtgoldoaigijmoaaOptRP
import Derived.Test.YtgoldoaigijmoaaOptSame
import Derived.Test.YtgoldoaigijmoaaOptLaw
import Derived.Test.YtgoldoaigijmoaaOptRef
import Derived.Test.YtgoldoaigijmoaaOpen
import Derived.Deep.DeepCutAuto
namespace Go.Proofs.Ytgoldoaigijmoaa.optBuilds
open Go.ChangeShapes Go.WideShapes Go.ChangeAt Go.RowKit
open Go.ChangeMaps (open_string shut_string)
set_option linter.unusedVariables false

theorem own : ownKnob Try.prog.godebug = none := by kernel_rfl
theorem laidOut : laidOutB Try.prog = true := by kernel_rfl

open Go.Proofs.Ytgoldoaigijmoaa.kit Go.Proofs.Ytgoldoaigijmoaa.opm Go.Proofs.Ytgoldoaigijmoaa.opc
theorem take_all {L : List Opt} {k : Nat} (h : k < L.length) : (∀ o ∈ L.take (k + 1), o.2.length ≤ 253) ↔ (∀ o ∈ L.take k, o.2.length ≤ 253) ∧ (L.getD k (0, [])).2.length ≤ 253 := by
  rw [takeO h]
  constructor
  · intro hh
    exact ⟨fun o ho => hh o (List.mem_append_left _ ho), hh _ (List.mem_append_right _ (List.mem_singleton.2 rfl))⟩
  · rintro ⟨h1, h2⟩ o ho
    rcases List.mem_append.1 ho with ho | ho
    · exact h1 o ho
    · obtain rfl := List.mem_singleton.1 ho
      exact h2
section
open Go.ChangeShapes Go.WideShapes Go.Deep
theorem open_opts {H : Type} {enc : TypeId × Value → H} {w : World} {a : Option Addr} {len cap : Nat} {d : DataW H} {p : List MemPlace} (h : DataW.Trod enc Try.prog w 0 (fun _ => true) true 23 (.slice a len cap) d p) :
    ∃ L, Opts w w.heap.size a len cap L ∧ ∀ o ∈ L, (0 ≤ o.1 ∧ o.1 ≤ 255) ∧ ∀ x ∈ o.2, 0 ≤ x ∧ x ≤ 255 := by
  obtain ⟨h1, h2, h3, h4⟩ := slice_cells Try.underlying23 (C := 2) (by kernel_rfl) (by decide) h
  have key : ∀ i, i < len → ∃ o : Opt, (∃ b off aj nj cj, a = some ⟨b, off, none⟩ ∧ b < w.heap.size ∧ w.cell? ⟨b, off + i * 2, none⟩ = some (.int .u8 o.1) ∧ w.cell? ⟨b, off + i * 2 + 1, none⟩ = some (.slice aj nj cj) ∧ Nums .u8 w w.heap.size aj nj cj o.2) ∧ (0 ≤ o.1 ∧ o.1 ≤ 255) ∧ ∀ x ∈ o.2, 0 ≤ x ∧ x ≤ 255 := by
    intro i hi
    obtain ⟨b, off, ha, hb, hc⟩ := h4 (by omega)
    obtain ⟨cs, n, y, hl, hcell, hy⟩ := hc i hi
    obtain ⟨t, q1, q2⟩ := field_int Try.underlying36 hy 0 _ rfl Try.underlying5 (by kernel_rfl)
    obtain ⟨aj, nj, cj, l, r1, r2, r3⟩ := field_nums Try.underlying36 hy 1 _ rfl Try.underlying22 Try.underlying5 (by kernel_rfl) (by kernel_rfl)
    exact ⟨(t, l), ⟨b, off, aj, nj, cj, ha, hb, (hcell 0 (by decide)).trans q1, (hcell 1 (by decide)).trans r1, r2⟩, wf_u8 q2, fun x hx => wf_u8 (r3 x hx)⟩
  refine ⟨(List.range len).map fun i => if h : i < len then (key i h).choose else (0, []), ⟨by simp, h1, h2, h3, fun j hj => ?_⟩, ?_⟩
  · have hk := (key j hj).choose_spec.1
    obtain ⟨b, off, aj, nj, cj, ha, hb, k1, k2, k3⟩ := hk
    have e : ((List.range len).map fun i => if h : i < len then (key i h).choose else (0, [])).getD j (0, []) = (key j hj).choose := by
      rw [List.getD_eq_getElem?_getD]; simp [hj]
    rw [e]
    exact ⟨b, off, aj, nj, cj, ha, hb, hb, k1, k2, k3⟩
  · intro o ho
    obtain ⟨i, hi, rfl⟩ := List.mem_map.1 ho
    have hi' : i < len := by simpa using hi
    simp only [dif_pos hi']
    exact (key i hi').choose_spec.2
end

set_option maxHeartbeats 1000000 in
set_option maxRecDepth 100000 in
/-- the walk: true, and nothing that was there has turned -/
theorem walk {H : Type} {enc : TypeId × Value → H} {base : Nat} (v0 : Value) (d0 : DataW H) (p0 : List MemPlace) (w : World) (w0 : DataW.Trod enc Try.prog w 0 (fun _ => true) true 23 v0 d0 p0) (o0 : Value.okWide Try.prog w .any base 23 v0) :
    Calls Try.prog 4 #[v0] w fun e w' => e = .returned (.bool true) ∧ Below w.heap.size w w' := by
  obtain ⟨a0, len0, cap0, rfl⟩ := okWide_slice Try.underlying23 o0
  obtain ⟨L, hL, hO⟩ := open_opts w0
  have hle := hL.le
  have hmx := hL.max
  unfold maxLen at hmx
  clear w0 o0
  have HG := hid (great_any hL (by omega))
  have HL := hid hL
  have HO := hid hO
  clear hL hO
  go_enter Try.func4, Try.ntmps4
  go_upto_if 9 with (go_at_call 17; ((with_reducible refine HG.out.mono ?_); rintro e w1 ⟨g, rfl, hg, rfl⟩))
  cases g
  · have hgg := hg rfl
    have HGG := hid hgg
    have hlen1 : len0 ≤ 1000 := hgg.1
    clear hg hgg HG
    have C1 := hid (opc.build_any HL.out (Nat.le_refl _) (by omega))
    have OB := hid (optB_oct HO.out)
    have FB := hid (show fin [] (optB L) = (L.map cutO, 0) by have := fin_built L []; simpa using this)
    have C3 := hid (fun (W : World) (hb : Below w.heap.size w W) => rbuild_any (HL.out.below hb) hb.size (by omega))
    obtain ⟨F, hF⟩ : ∃ F, F = optB L := ⟨_, rfl⟩
    rw [← hF] at C1 OB FB C3
    have HF := hid (show F.length ≤ 2000 by rw [hF]; exact HGG.out.2)
    clear hF
    go_upto_region 5 with (first | (go_at_call 15; ((with_reducible refine C1.out.mono ?_); rintro e wa ⟨aa, ma, ca, rfl, p1, b1⟩); have hma := p1.len) | (go_at_call 11; ((with_reducible refine (FB.out ▸ opc.parse_any p1 (Nat.le_refl _) OB.out (by have := HF.out; omega)).mono ?_); rintro e wb ⟨ab, nb, cb, rfl, p2, b2⟩); have b3 := b1.trans (b2.mono b1.size); have p3 := (p1.below b2).mono b2.size))
    have b3s := b3.size
    have L2 := hid ((HL.out.below b3).mono b3s)
    have P2 := hid p2
    have P3 := hid p3
    have B3 := hid b3
    have HMA := hid hma
    have hcl := HL.out.len
    have HCL := hid hcl
    have hk63 : len0 ≤ 9223372036854775807 := by omega
    clear p1 p2 p3 b1 b2 b3 hma C1 hcl
    go_wp2_with fail
    go_loopw [6, 7] (fun fv iv wr => ∃ (k : Nat) (q : Bool), k ≤ len0 ∧ iv = .int .i64 (k : Nat) ∧ fv = .bool q ∧ (q = true ↔ ∀ o ∈ L.take k, o.2.length ≤ 253) ∧ wr = wb) (fun _ iv _ => len0 - (intOf iv).toNat)
    case atStart => exact ⟨0, true, Nat.zero_le _, rfl, rfl, by simp, rfl⟩
    case round =>
      obtain ⟨k, q, hk, rfl, rfl, hq, rfl⟩ := hrel
      have HQ := hid hq
      clear hq
      have hww : IntKind.i64.wrap ((k : Int) + 1) = (k : Int) + 1 := IntWalk.i64_in _ (by omega)
      by_cases hlt : k < len0
      · obtain ⟨b, off, aj, nj, cj, ha, h1, h2, h3, h4, h5⟩ := L2.out.cells k hlt
        subst ha
        have hT := take_all (L := L) (k := k) (by rw [HCL.out]; exact hlt)
        rw [h5.len] at hT
        have HT := hid hT
        clear h3 h5 hT
        cases q
        · go_wp2_with fail
          go_roundw
          case rel => exact ⟨k + 1, false, by omega, by go_num, rfl, by rw [HT.out]; have := HQ.out; constructor; (intro h; cases h); (intro h; exact this.2 h.1), by first | trivial | rfl⟩
          case measure => simp [intOf]; omega
        · by_cases hs : nj ≤ 253
          · have hs' : decide ((nj : Int) ≤ 253) = true := by simp; omega
            go_wp2_with fail
            go_roundw
            case rel => exact ⟨k + 1, true, by omega, by go_num, by first | rfl | (rw [hs']), by rw [HT.out]; have := HQ.out; exact ⟨fun _ => ⟨this.1 rfl, hs⟩, fun _ => rfl⟩, by first | trivial | rfl⟩
            case measure => simp [intOf]; omega
          · have hs' : ¬ (nj : Int) ≤ 253 := by omega
            have HS := hid hs
            clear hs
            go_wp2_with fail
            go_roundw
            case rel => exact ⟨k + 1, false, by omega, by go_num, rfl, by rw [HT.out]; constructor; (intro h; cases h); (intro h; exact absurd h.2 HS.out), by first | trivial | rfl⟩
            case measure => simp [intOf]; omega
      · obtain rfl : k = len0 := by omega
        have hq := HQ.out
        rw [List.take_of_length_le (by rw [HCL.out]; omega), ← fits_iff] at hq
        have hD : decide (L.map cutO = L) = q := by
          cases q
          · rw [decide_eq_false_iff_not]; intro h; exact absurd (hq.2 h) (by decide)
          · rw [decide_eq_true_iff]; exact hq.1 rfl
        have HS := hid (fun (W : World) (hb : Below wr.heap.size wr W) => hD ▸ same_any W (P2.out.below hb) (L2.out.below hb) hb.size hb.size)
        clear hq hD
        cases q
        all_goals
          go_wp2_with (first | (go_at_call 18; ((with_reducible refine (C3.out _ B3.out).mono ?_); rintro e wc ⟨ac, mc, cc, rfl, p4, b4⟩)) | (go_at_call 14; ((with_reducible refine (bec.equal_same _ (P3.out.below b4) p4 rfl).mono ?_); rintro e wd ⟨rfl, mm, rfl⟩); have b5 := below_drewN b4 mm) | (go_at_call 13; ((with_reducible refine (HS.out _ b5).mono ?_); rintro e we ⟨rfl, b6⟩); have b7 := b5.trans (b6.mono b5.size)) | (go_at_call 16; ((with_reducible refine (opc.alive_any _).mono ?_); rintro e wf ⟨rfl, b8⟩)))
          go_ret
          exact ⟨rfl, B3.out.trans ((b7.trans (b8.mono b7.size)).mono b3s)⟩
  · go_wp2_with fail
    go_ret
    exact ⟨rfl, Below.refl _ _⟩
set_option maxRecDepth 100000 in
theorem lifted (os : Os) (started : os.Started) (H : Type) (enc : TypeId × Value → H) :
    ReturnsInHanded {} Try.checked os 4 .any (Rows.optBuildsSpec.pre6 enc Try.prog Try.f4 Rows.optBuildsRow.domain false) (Rows.optBuildsSpec.post enc Try.prog Try.f4 false true false false) := by
  refine returnsInHanded_of_change (C := Try.checked) own started (by kernel_rfl) Try.func4
    (ChangeSpec.witness6 (enc := enc) (C := Try.checked) false ⟨#[], #[.slice none 0 0], []⟩ 8 (by kernel_rfl) (by kernel_rfl) (by kernel_rfl) (by kernel_rfl)) ?_
  intro W base args ds gs before hval0 hW hcnd _
  have hval : ∀ (j : Nat) t v, Try.f4.params[j]? = some t → args[j]? = some v → Value.okWide Try.prog W .any base t v := hval0
  have hW' := hW
  obtain ⟨p, q, hA0, hV, rfl, hfz, hnd⟩ := hW
  have hA : DataW.TrodAll enc Try.prog W 0 (fun _ => true) true Try.f4.params.toList args.toList ds p := hA0
  rw [Try.params4] at hA hval
  obtain ⟨v0, vs0, d0, ds0, p0, q0, hargs, rfl, rfl, h0, r0⟩ := trodAll_cons hA
  obtain ⟨rfl, rfl, rfl⟩ := trodAll_nil r0
  obtain rfl : args = #[v0] := by cases args; simp_all
  obtain ⟨rfl, rfl⟩ := trodVars_none hV
  have k0 := h0
  have o0 := hval 0 23 v0 rfl rfl
  have lt0 : ∀ x ∈ p0, x.block < W.heap.size := by obtain ⟨m, hm⟩ := k0; exact DataW.trod_lt m _ _ _ hm
  clear hA0 hval0
  refine (walk (H := H) (enc := enc) (base := base) v0 d0 p0 W k0 o0).mono fun e W' ⟨he, bel⟩ => ?_
  subst he
  exact ⟨_, rfl, _, _, _, [], _, [], hW', trodAll_mk1 (shut_bool Try.underlying4 _), (trodAll_cons_mk (Below.trod laidOut (by kernel_rfl) (of_decide_eq_true (by kernel_rfl)) k0 bel lt0) trodAll_mk0), rfl, bel.frame _, fun h => by cases h⟩

theorem over : Rows.optBuildsRow.holds Try.pinned (OpenSpec.ofChange Rows.optBuildsSpec) :=
  OpenClaim.holds_of_wide 4 Try.f4 rfl rfl rfl rfl rfl rfl rfl ⟨rfl, rfl, rfl, rfl, rfl⟩ rfl rfl rfl rfl rfl (by kernel_rfl) Try.func4 (by kernel_rfl)
    (of_decide_eq_true (by kernel_rfl)) (by unfold Func.isWrapper; first | (rw [if_pos (by decide +kernel)]; kernel_rfl) | (rw [if_neg (by decide +kernel)]; exact ⟨rfl, rfl⟩))
    (fun os started H enc _ => lifted os started H enc)

/-- the statement -/
theorem proved : Rows.OptBuildsSaid := over
end Go.Proofs.Ytgoldoaigijmoaa.optBuilds
