/- catwalk's catwalklaw07.RingPlays answers true at every input, and leaves its arguments as they were. No condition. -/
import Derived.Test.YtmoolhneofbfdaaRows
import Derived.WalkKit
import Derived.ProofKit
import Derived.OpenShut
import Derived.ShutString
import Derived.ChangeOld
import Derived.Below
import Derived.Test.YtmoolhneofbfdaaRingAlive
import Derived.Test.YtmoolhneofbfdaaOpen
import Derived.Deep.DeepCutAuto
namespace Go.Proofs.Ytmoolhneofbfdaa.ringPlays
open Go.ChangeShapes Go.WideShapes Go.ChangeAt Go.RowKit
open Go.ChangeMaps (open_string shut_string)
set_option linter.unusedVariables false

theorem own : ownKnob Try.prog.godebug = none := by kernel_rfl
theorem laidOut : laidOutB Try.prog = true := by kernel_rfl

open Go.Proofs.Ytmoolhneofbfdaa.kit Go.Proofs.Ytmoolhneofbfdaa.rgc
theorem step_any {w0 w : World} {g : Nat} {most : Int} {a : Option Addr} {n cap : Nat} {ad : Option Addr} {cd : Nat} {xs : List Int} (h : Both w0 w g most a n cap ad cd xs) (hm0 : 0 ≤ most) (hm1 : most ≤ 4096) (hn : (n : Int) ≤ most) (kd x : Int) (h0 : 0 ≤ kd) :
    Calls Try.prog 21 #[.pointer (some ⟨g, 0, none⟩), .slice ad n cd, .agg #[.int .i64 kd, .int .i64 x], .int .i64 most] w (StepPost w0 g most (n + 1)) := by
  by_cases h3 : kd % 7 < 3
  · by_cases he : (n : Int) = most
    · exact step_full h hm1 he kd x h0 h3
    · exact step_push h hm1 (by omega) kd x h0 h3
  · by_cases h34 : kd % 7 = 3 ∨ kd % 7 = 4
    · cases n with
      | zero => exact step_pop0 h hm0 kd x h0 h34
      | succ n =>
        have hl := h.row.len
        cases xs with
        | nil => simp at hl
        | cons y ys => exact (step_pop h hn (by omega) kd x h0 h34).mono fun e w' ⟨a', n', cap', ad', cd', xs', h1, h2, h3⟩ => ⟨a', n', cap', ad', cd', xs', h1, by omega, h3⟩
    · by_cases h5 : kd % 7 = 5
      · by_cases hx : x < 0 ∨ (n : Int) ≤ x
        · exact step_get_no h hn kd x h0 h5 hx
        · obtain ⟨y, rfl⟩ : ∃ y : Nat, x = y := ⟨x.toNat, by omega⟩
          exact step_get h hn kd y h0 h5 (by omega) (by omega)
      · exact step_clear h hm0 kd x h0 (by omega)
theorem len_st {w0 w : World} {g : Nat} {most : Int} {a : Option Addr} {n cap : Nat} {ad : Option Addr} {cd : Nat} {xs : List Int} (h : Both w0 w g most a n cap ad cd xs) :
    Calls Try.prog 22 #[.pointer (some ⟨g, 0, none⟩)] w fun e w' => e = .returned (.int .i64 n) ∧ Both w0 w' g most a n cap ad cd xs :=
  (len_any w h.ring).mono fun e w' ⟨he, hw⟩ => ⟨he, by rw [← hw]; exact h⟩
theorem room_st {w0 w : World} {g : Nat} {most : Int} {a : Option Addr} {n cap : Nat} {ad : Option Addr} {cd : Nat} {xs : List Int} (h : Both w0 w g most a n cap ad cd xs) (hn : (n : Int) ≤ most) (hm : most ≤ 4096) :
    Calls Try.prog 23 #[.pointer (some ⟨g, 0, none⟩)] w fun e w' => e = .returned (.int .i64 (most - n)) ∧ Both w0 w' g most a n cap ad cd xs :=
  (room_any w h.ring hn hm).mono fun e w' ⟨he, m, hw⟩ => ⟨he, by rw [hw]; exact h.next (below_drewN (Below.refl _ _) m)⟩
theorem all_st {w0 w : World} {g : Nat} {most : Int} {a : Option Addr} {n cap : Nat} {ad : Option Addr} {cd : Nat} {xs : List Int} (h : Both w0 w g most a n cap ad cd xs) (hn : n ≤ 4096) :
    Calls Try.prog 25 #[.pointer (some ⟨g, 0, none⟩)] w fun e w' => ∃ a' c', e = .returned (.slice a' n c') ∧ Nums .i64 w' w'.heap.size a' n c' xs ∧ Both w0 w' g most a n cap ad cd xs :=
  (collect_any w h.ring hn).mono fun e w' ⟨v, he, ho, hb⟩ => by
    obtain ⟨a', c', rfl⟩ := own_slice ho
    exact ⟨a', c', he, own_nums ho, h.next hb⟩
theorem equal_st {w0 w : World} {g : Nat} {most : Int} {a : Option Addr} {n cap : Nat} {ad : Option Addr} {cd : Nat} {xs : List Int} (h : Both w0 w g most a n cap ad cd xs) {a' : Option Addr} {c' : Nat} (h1 : Nums .i64 w w.heap.size a' n c' xs) :
    Calls Try.prog 24 #[.slice a' n c', .slice ad n cd] w fun e w' => e = .returned (.bool true) ∧ Both w0 w' g most a n cap ad cd xs :=
  (equalI_any w h1 h.row).mono fun e w' ⟨he, m, hm⟩ => ⟨by rw [he]; simp, by rw [hm]; exact h.next (below_drewN (Below.refl _ _) m)⟩

set_option maxHeartbeats 2000000 in
/-- the walk: true, and nothing that was there has turned -/
theorem walk {H : Type} {enc : TypeId × Value → H} {base : Nat} (a0 : Int) (v1 : Value) (d1 : DataW H) (p1 : List MemPlace) (w : World) (w0 : (Lit.int .i64 a0).wf = true) (w1 : DataW.Trod enc Try.prog w 0 (fun _ => true) true 36 v1 d1 p1) (o1 : Value.okWide Try.prog w .any base 36 v1) :
    Calls Try.prog 5 #[.int .i64 a0, v1] w fun e w' => e = .returned (.bool true) ∧ Below w.heap.size w w' := by
  obtain ⟨a1, len1, cap1, rfl⟩ := okWide_slice Try.underlying36 o1
  obtain ⟨ho1, ho2, _, ho4⟩ := slice_cells Try.underlying36 (C := 2) (by kernel_rfl) (by decide) w1
  have hops : ∀ i, i < len1 → ∃ b off kd n, a1 = some ⟨b, off, none⟩ ∧ b < w.heap.size ∧ w.cell? ⟨b, off + (i * 2 + 0), none⟩ = some (.int .i64 kd) ∧ w.cell? ⟨b, off + (i * 2 + 1), none⟩ = some (.int .i64 n) := by
    intro i hi
    obtain ⟨b, off, ha, hb, hc⟩ := ho4 (by omega)
    obtain ⟨cs, n, y, hl, hcell, hy⟩ := hc i hi
    obtain ⟨kd, h1, _⟩ := field_int Try.underlying41 hy 0 _ rfl Try.underlying3 (by kernel_rfl)
    obtain ⟨nn, h2, _⟩ := field_int Try.underlying41 hy 1 _ rfl Try.underlying3 (by kernel_rfl)
    exact ⟨b, off, kd, nn, ha, hb, (hcell 0 (by decide)).trans h1, (hcell 1 (by decide)).trans h2⟩
  unfold maxLen at ho2
  clear w0 w1 o1 ho4
  by_cases hbig : 200 < len1
  · clear hops
    go_enter Try.func5, Try.ntmps5
    go_wp2
    go_ret
    exact ⟨rfl, Below.refl _ _⟩
  · have HO := hid hops
    clear hops
    go_enter Try.func5, Try.ntmps5
    go_upto_region 6 with (go_at_call 20; refine (new_any _ _).mono ?_; rintro e wa ⟨rfl, rfl⟩)
    go_cut [0] (fun s0 wx => s0 = .int .i64 (cl a0) ∧ wx = w.alloc (.cells #[.slice none 0 0, .int .i64 (cl a0)] 67))
    case first =>
      go_wp2_with fail
      all_goals go_meet
      all_goals refine ⟨?_, rfl⟩
      all_goals (unfold cl; congr 1; split <;> (try split) <;> omega)
    case rest =>
      obtain ⟨rfl, rfl⟩ := hcut
      have hR := new_ring a0 w w.heap.size (Nat.le_refl _)
      have hM : 0 ≤ cl a0 ∧ cl a0 ≤ 4096 := by unfold cl; split <;> (try split) <;> omega
      obtain ⟨M, hMe⟩ : ∃ M, M = cl a0 := ⟨_, rfl⟩
      rw [← hMe] at hM hR
      rw [← hMe]
      have hB0 : Both w (w.alloc (.cells #[.slice none 0 0, .int .i64 M] 67)) w.heap.size M none 0 0 none 0 [] := ⟨hR, (Below.refl _ _).alloc (Nat.le_refl _) _, Nums.empty (Nat.zero_le _) (fun _ => rfl), fun h => absurd h (by omega)⟩
      obtain ⟨hM0, hM1⟩ := hM
      clear hMe hR
      go_wp2_with fail
      go_loopw [6, 7] (fun dv iv wr => ∃ k a n cap ad cd xs, k ≤ len1 ∧ iv = .int .i64 (k : Nat) ∧ dv = .slice ad n cd ∧ n ≤ k ∧ (n : Int) ≤ M ∧ Both w wr w.heap.size M a n cap ad cd xs) (fun _ iv _ => len1 - (intOf iv).toNat)
      case atStart => exact ⟨0, none, 0, 0, none, 0, [], Nat.zero_le _, rfl, rfl, Nat.le_refl _, hM0, hB0⟩
      case round =>
        clear hB0
        obtain ⟨k, a, n, cap, ad, cd, xs, hk, rfl, rfl, hnk, hnM, hBo⟩ := hrel
        by_cases hlt : k < len1
        · obtain ⟨b, off, kd, x, ha, hbw, hc0, hc1⟩ := HO.out k hlt
          subst ha
          have hx0 := (hBo.below.cell (p := ⟨b, off + (k * 2 + 0), none⟩) hbw).trans hc0
          have hx1 := (hBo.below.cell (p := ⟨b, off + (k * 2 + 1), none⟩) hbw).trans hc1
          have y0 : wr.cell? ⟨b, off + k * 2, none⟩ = some (.int .i64 kd) := hx0
          have y1 : wr.cell? ⟨b, off + k * 2 + 1, none⟩ = some (.int .i64 x) := hx1
          have HBo := hid hBo
          clear hc0 hc1 HO hx0 hx1 hBo
          by_cases hkd : kd < 0
          · go_wp2_with fail
            go_ret
            exact ⟨rfl, HBo.out.below⟩
          · go_upto_region 14 with (go_at_call 21; ((with_reducible refine (step_any HBo.out hM0 hM1 hnM _ _ (by omega)).mono ?_); rintro e wb ⟨a', n', cap', ad', cd', xs', rfl, hn1, hn2, hB1⟩; have HB1 := hid hB1; clear hB1))
            have hw1 : IntKind.i64.wrap (M - (n' : Int)) = M - n' := IntWalk.i64_in _ (by omega)
            go_wp2_with (first | (go_at_call 22; ((with_reducible refine (len_st HB1.out).mono ?_); rintro e wc ⟨rfl, hB2⟩; have HB2 := hid hB2; clear hB2)) | (go_at_call 23; ((with_reducible refine (room_st HB2.out hn2 hM1).mono ?_); rintro e wd ⟨rfl, hB3⟩; have HB3 := hid hB3; clear hB3)) | (go_at_call 25; ((with_reducible refine (all_st HB3.out (by omega)).mono ?_); rintro e we ⟨ae, ce, rfl, hNe, hB4⟩; have HB4 := hid hB4; have HNe := hid hNe; clear hB4 hNe)) | (go_at_call 24; ((with_reducible refine (equal_st HB4.out HNe.out).mono ?_); rintro e wf ⟨rfl, hB5⟩; have HB5 := hid hB5; clear hB5)))
            go_roundw
            case rel => exact ⟨k + 1, a', n', cap', ad', cd', xs', by omega, by go_num, rfl, by omega, hn2, HB5.out⟩
            case measure => simp [intOf]; omega
        · obtain rfl : k = len1 := by omega
          have hb := hBo.below
          clear hBo
          go_wp2_with (go_at_call 26; ((with_reducible refine (alive_any _).mono ?_); rintro e wb ⟨rfl, h11⟩))
          go_ret
          exact ⟨rfl, hb.trans (h11.mono hb.size)⟩
set_option maxRecDepth 100000 in
theorem lifted (os : Os) (started : os.Started) (H : Type) (enc : TypeId × Value → H) :
    ReturnsInHanded {} Try.checked os 5 .any (Rows.ringPlaysSpec.pre6 enc Try.prog Try.f5 Rows.ringPlaysRow.domain false) (Rows.ringPlaysSpec.post enc Try.prog Try.f5 false true false false) := by
  refine returnsInHanded_of_change (C := Try.checked) own started (by kernel_rfl) Try.func5
    (ChangeSpec.witness6 (enc := enc) (C := Try.checked) false ⟨#[], #[.int .i64 0, .slice none 0 0], []⟩ 8 (by kernel_rfl) (by kernel_rfl) (by kernel_rfl) (by kernel_rfl)) ?_
  intro W base args ds gs before hval0 hW hcnd _
  have hval : ∀ (j : Nat) t v, Try.f5.params[j]? = some t → args[j]? = some v → Value.okWide Try.prog W .any base t v := hval0
  have hW' := hW
  obtain ⟨p, q, hA0, hV, rfl, hfz, hnd⟩ := hW
  have hA : DataW.TrodAll enc Try.prog W 0 (fun _ => true) true Try.f5.params.toList args.toList ds p := hA0
  rw [Try.params5] at hA hval
  obtain ⟨v0, vs0, d0, ds0, p0, q0, hargs, rfl, rfl, h0, r0⟩ := trodAll_cons hA
  obtain ⟨v1, vs1, d1, ds1, p1, q1, rfl, rfl, rfl, h1, r1⟩ := trodAll_cons r0
  obtain ⟨rfl, rfl, rfl⟩ := trodAll_nil r1
  obtain rfl : args = #[v0, v1] := by cases args; simp_all
  obtain ⟨rfl, rfl⟩ := trodVars_none hV
  obtain ⟨a0, rfl, rfl, rfl, w0⟩ := open_int Try.underlying3 (hval 0 3 v0 rfl rfl) h0
  have k1 := h1
  have o1 := hval 1 36 v1 rfl rfl
  have lt1 : ∀ x ∈ p1, x.block < W.heap.size := by obtain ⟨m, hm⟩ := k1; exact DataW.trod_lt m _ _ _ hm
  clear hA0 hval0
  refine (walk a0 v1 d1 p1 W w0 k1 o1).mono fun e W' ⟨he, bel⟩ => ?_
  subst he
  exact ⟨_, rfl, _, _, _, [], _, [], hW', trodAll_mk1 (shut_bool Try.underlying4 _), (trodAll_cons_mk (shut_int Try.underlying3 w0) (trodAll_cons_mk (Below.trod laidOut (by kernel_rfl) (of_decide_eq_true (by kernel_rfl)) k1 bel lt1) trodAll_mk0)), rfl, bel.frame _, fun h => by cases h⟩

theorem over : Rows.ringPlaysRow.holds Try.pinned (OpenSpec.ofChange Rows.ringPlaysSpec) :=
  OpenClaim.holds_of_wide 5 Try.f5 rfl rfl rfl rfl rfl rfl rfl ⟨rfl, rfl, rfl, rfl, rfl⟩ rfl rfl rfl rfl rfl (by kernel_rfl) Try.func5 (by kernel_rfl)
    (of_decide_eq_true (by kernel_rfl)) (by unfold Func.isWrapper; first | (rw [if_pos (by decide +kernel)]; kernel_rfl) | (rw [if_neg (by decide +kernel)]; exact ⟨rfl, rfl⟩))
    (fun os started H enc _ => lifted os started H enc)

/-- the statement -/
theorem proved : Rows.RingPlaysSaid := over
end Go.Proofs.Ytmoolhneofbfdaa.ringPlays
