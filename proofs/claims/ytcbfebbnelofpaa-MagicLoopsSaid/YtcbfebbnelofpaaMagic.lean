/- The contracts of package magic. -/
import Derived.Test.YtcbfebbnelofpaaMagicMath
import Derived.Test.YtcbfebbnelofpaaTwo
import Derived.Test.YtcbfebbnelofpaaTailC
import Derived.Test.YtcbfebbnelofpaaGrown
import Derived.Deep.DeepCutAuto
import Derived.LoopTactic
import Derived.Laws.BitsAllLaws
namespace Go.Proofs.Ytcbfebbnelofpaa.mgc
open Go.RowKit
open Go.Proofs.Ytcbfebbnelofpaa.kit Go.Proofs.Ytcbfebbnelofpaa.mgm
set_option linter.unusedVariables false
set_option linter.unusedSimpArgs false
set_option maxRecDepth 20000
/-- what was drawn: the array, where the first lies, how many wait, how many calls -/
def dv (A : List Int) (f l c : Nat) : List Value := A.map (Value.int .u32) ++ [.int .i64 f, .int .i64 l, .int .u32 c]
theorem dv_at {A : List Int} (h : A.length = 64) (f l c j : Nat) (hj : j < 64) : (dv A f l c)[j]? = some (.int .u32 (A.getD j 0)) := by
  unfold dv
  rw [List.getElem?_append_left (by simp; omega), List.getElem?_map, List.getD_eq_getElem?_getD, List.getElem?_eq_getElem (by omega)]; rfl
theorem dv_64 {A : List Int} (h : A.length = 64) (f l c : Nat) : (dv A f l c)[64]? = some (.int .i64 f) := by
  unfold dv; rw [List.getElem?_append_right (by simp; omega)]; simp [h]
theorem dv_65 {A : List Int} (h : A.length = 64) (f l c : Nat) : (dv A f l c)[65]? = some (.int .i64 l) := by
  unfold dv; rw [List.getElem?_append_right (by simp; omega)]; simp [h]
theorem dv_66 {A : List Int} (h : A.length = 64) (f l c : Nat) : (dv A f l c)[66]? = some (.int .u32 c) := by
  unfold dv; rw [List.getElem?_append_right (by simp; omega)]; simp [h]
theorem dv_set {A : List Int} (h : A.length = 64) (f l c j : Nat) (hj : j < 64) (v : Int) : (dv A f l c).set j (.int .u32 v) = dv (A.set j v) f l c := by
  unfold dv; rw [List.set_append_left _ _ (by simp; omega), List.map_set]
theorem dv_set64 {A : List Int} (h : A.length = 64) (f l c v : Nat) : (dv A f l c).set 64 (.int .i64 v) = dv A v l c := by
  unfold dv; rw [List.set_append_right _ _ (by simp; omega)]; simp [h]
theorem dv_set65 {A : List Int} (h : A.length = 64) (f l c v : Nat) : (dv A f l c).set 65 (.int .i64 v) = dv A f v c := by
  unfold dv; rw [List.set_append_right _ _ (by simp; omega)]; simp [h]
theorem dv_set66 {A : List Int} (h : A.length = 64) (f l c v : Nat) : (dv A f l c).set 66 (.int .u32 v) = dv A f l v := by
  unfold dv; rw [List.set_append_right _ _ (by simp; omega)]; simp [h]
/-- the numbers q wait in block g, behind k calls -/
structure Has (w : World) (g : Nat) (q : List Int) (k : Nat) : Prop where
  ex : ∃ A f, Box w g (dv A f q.length k) ∧ Is A f q
  le : k ≤ 1000
/-- what a call leaves -/
structure Did (w w' : World) (g : Nat) (q : List Int) (k : Nat) : Prop where
  has : Has w' g q k
  only : w.grownBy w' (some g)
theorem Has.next {w w' : World} {g : Nat} {q : List Int} {k : Nat} (h : Has w g q k) (hb : Below w.heap.size w w') : Has w' g q k := by
  obtain ⟨A, f, hB, hI⟩ := h.ex
  exact ⟨⟨A, f, hB.next hb, hI⟩, h.le⟩
theorem Has.grown {w w' : World} {g o : Nat} {q : List Int} {k : Nat} (h : Has w g q k) (hb : w.grownBy w' (some o)) (hne : g ≠ o) : Has w' g q k := by
  obtain ⟨A, f, hB, hI⟩ := h.ex
  exact ⟨⟨A, f, hB.grown hb hne, hI⟩, h.le⟩
theorem made_any (c : Nat) (hc : c ≤ 2000) (w : World) :
    Calls Try.prog 93 #[.int .u32 c] w fun e w' => e = .returned (.int .u32 (mk c : Nat)) ∧ w = w' := by
  have h1 : IntKind.u32.wrap ((c : Int) * 2654435761) = ((c * 2654435761 % 4294967296 : Nat) : Int) := by rw [IntKind.wrap_u32]; omega
  obtain ⟨x, hx⟩ : ∃ x, x = c * 2654435761 % 4294967296 := ⟨_, rfl⟩
  have hxl : x < 4294967296 := by omega
  have h2 : bits BinOp.xor IntKind.u32 (x : Int) ((x : Int) / 32768) = ((x ^^^ x / 32768 : Nat) : Int) := by
    have := u32_xor_nat x (x / 32768) hxl (by omega)
    rw [← this]; rfl
  have hyl := xor_lt x (x / 32768) hxl (by omega)
  obtain ⟨y, hy⟩ : ∃ y, y = x ^^^ x / 32768 := ⟨_, rfl⟩
  rw [← hy] at h2 hyl
  have h3 : IntKind.u32.wrap ((y : Int) * 2246822507) = ((y * 2246822507 % 4294967296 : Nat) : Int) := by rw [IntKind.wrap_u32]; omega
  obtain ⟨z, hz⟩ : ∃ z, z = y * 2246822507 % 4294967296 := ⟨_, rfl⟩
  have hzl : z < 4294967296 := by omega
  have h4 : bits BinOp.xor IntKind.u32 (z : Int) ((z : Int) / 8192) = ((z ^^^ z / 8192 : Nat) : Int) := by
    have := u32_xor_nat z (z / 8192) hzl (by omega)
    rw [← this]; rfl
  have hm : mk c = z ^^^ z / 8192 := by unfold mk; rw [hz, hy, hx]
  have HM := hid hm
  rw [← hx] at h1
  rw [← hz] at h3
  clear hx hy hz hm
  go_enter Try.func93, Try.ntmps93
  go_wp2
  go_ret
  exact ⟨ret_int (by rw [HM.out]), rfl⟩
theorem rmade_any (c : Nat) (hc : c ≤ 2000) (w : World) :
    Calls Try.prog 94 #[.int .u64 c] w fun e w' => e = .returned (.int .u32 (mk c : Nat)) ∧ w = w' := by
  obtain ⟨x, hx⟩ : ∃ x, x = c * 2654435761 % 4294967296 := ⟨_, rfl⟩
  have hxl : x < 4294967296 := by omega
  have h1 : (c : Int) * 2654435761 % 4294967296 = x := by omega
  have h2 : bits BinOp.xor IntKind.u64 (x : Int) ((x : Int) / 32768) = ((x ^^^ x / 32768 : Nat) : Int) := by
    have := u64_xor_nat x (x / 32768) (by omega) (by omega)
    rw [← this]; rfl
  have hyl := xor_lt x (x / 32768) hxl (by omega)
  obtain ⟨y, hy⟩ : ∃ y, y = x ^^^ x / 32768 := ⟨_, rfl⟩
  rw [← hy] at h2 hyl
  obtain ⟨z, hz⟩ : ∃ z, z = y * 2246822507 % 4294967296 := ⟨_, rfl⟩
  have hzl : z < 4294967296 := by omega
  have h3 : (y : Int) * 2246822507 % 4294967296 = z := by omega
  have h4 : bits BinOp.xor IntKind.u64 (z : Int) ((z : Int) / 8192) = ((z ^^^ z / 8192 : Nat) : Int) := by
    have := u64_xor_nat z (z / 8192) (by omega) (by omega)
    rw [← this]; rfl
  have hul := xor_lt z (z / 8192) hzl (by omega)
  have hm : mk c = z ^^^ z / 8192 := by unfold mk; rw [hz, hy, hx]
  have HM := hid hm
  obtain ⟨u, hu⟩ : ∃ u, u = z ^^^ z / 8192 := ⟨_, rfl⟩
  rw [← hu] at h4 hul HM
  clear hx hy hz hm hu
  have hcv : IntKind.u32.wrap (u : Int) = u := by rw [IntKind.wrap_u32]; omega
  have h0 : (c : Int) % 4294967296 = c := by omega
  go_enter Try.func94, Try.ntmps94
  go_wp2
  go_ret
  exact ⟨ret_int (by rw [HM.out]), rfl⟩
theorem left_any (w : World) (g : Nat) (q : List Int) (k : Nat) (h : Has w g q k) :
    Calls Try.prog 13 #[.pointer (some ⟨g, 0, none⟩)] w fun e w' => e = .returned (.int .i64 (q.length : Nat)) ∧ w = w' := by
  obtain ⟨A, f, hB, hI⟩ := h.ex
  have c0 := hB.at_ 65 _ (dv_65 hI.len _ _ _)
  clear hB hI h
  go_enter Try.func13, Try.ntmps13
  go_wp2
  go_ret
  exact ⟨rfl, rfl⟩
theorem add_no (w : World) (g : Nat) (q : List Int) (k : Nat) (n : Int) (h : Has w g q k) (hq : q.length = 64) :
    Calls Try.prog 67 #[.pointer (some ⟨g, 0, none⟩), .int .u32 n] w fun e w' => e = .returned (.bool false) ∧ w = w' := by
  obtain ⟨A, f, hB, hI⟩ := h.ex
  have c0 := hB.at_ 65 _ (dv_65 hI.len _ _ _)
  rw [hq] at c0
  clear hB hI h hq
  go_enter Try.func67, Try.ntmps67
  go_wp2
  go_ret
  exact ⟨rfl, rfl⟩
set_option maxHeartbeats 1000000 in
theorem add_yes (w : World) (g : Nat) (q : List Int) (k : Nat) (n : Int) (h : Has w g q k) (hq : q.length < 64) :
    Calls Try.prog 67 #[.pointer (some ⟨g, 0, none⟩), .int .u32 n] w fun e w' => e = .returned (.bool true) ∧ Did w w' g (q ++ [n]) k := by
  have hk := h.le
  obtain ⟨A, f, hB, hI⟩ := h.ex
  have hP := hid (hI.push hq n)
  have hlen := hI.len
  have hfl := hI.lt
  have HLn := hid hlen
  have c0 := hB.at_ 64 _ (dv_64 hI.len _ _ _)
  have c1 := hB.at_ 65 _ (dv_65 hI.len _ _ _)
  have hql : (q ++ [n]).length = q.length + 1 := by simp
  have HQL := hid hql
  obtain ⟨l, hl⟩ : ∃ l, l = q.length := ⟨_, rfl⟩
  rw [← hl] at hq hB c1 hP HQL
  have hp64 : (f + l) % 64 < 64 := by omega
  have c2 := hB.at_ ((f + l) % 64) _ (dv_at hI.len f l k _ hp64)
  have f2 := hB.fr ((f + l) % 64)
  have f1 := hB.fr 65
  have HB := hid hB
  have hne : ((l : Int) == 64) = false := by simp; omega
  clear hB hI h hl hlen hql
  go_enter Try.func67, Try.ntmps67
  have z0 := After.cell c0
  have z1 := After.cell c1
  go_upto_region 3 with fail
  refine wp_region_after_tail w 15 (by kernel_rfl) (by kernel_rfl) ((Below.refl _ _).drew) ?_
  simp only [List.take_succ_cons, List.take_zero, List.drop_succ_cons, List.drop_zero]
  repeat (go_big_quiet_step (fail))
  refine wpQuiet_nil ?_
  intro w3 hw'
  obtain ⟨N3, e3⟩ := hw'
  have b3 : Below w.heap.size w w3 := by rw [e3]; exact N3.h
  clear e3 N3 z0 z1 c0 c1 c2 f1 f2
  have k3 := HB.out.next b3
  have y2 := k3.at_ ((f + l) % 64) _ (dv_at HLn.out f l k _ hp64)
  have y5 := k3.at_ 65 _ (dv_65 HLn.out f l k)
  have g2 := k3.fr ((f + l) % 64)
  have g5 := k3.fr 65
  have hne2 : ¬ (f + l) % 64 = 65 := by omega
  have K3 := hid k3
  clear k3
  go_wp2_with fail
  go_ret
  refine ⟨rfl, ⟨⟨A.set ((f + l) % 64) n, f, ?_, hP.out⟩, hk⟩, ?_⟩
  · have k4 := (K3.out.set ((f + l) % 64) (.int .u32 n)).set 65 (.int .i64 (l + 1 : Nat))
    rw [dv_set HLn.out f l k _ hp64, dv_set65 (by rw [List.length_set]; exact HLn.out)] at k4
    rw [HQL.out]
    exact k4
  · exact gb_setCell (gb_setCell (gb_of_below b3 (some g)) (p := ⟨g, (f + l) % 64, none⟩) rfl _) (p := ⟨g, 65, none⟩) rfl _
/-- the number that is told -/
theorem next_any (w : World) (g : Nat) (q : List Int) (k : Nat) (h : Has w g q k) (hk : k < 1000) :
    Calls Try.prog 63 #[.pointer (some ⟨g, 0, none⟩)] w fun e w' => e = .returned (.int .u32 (nx q k)) ∧ Did w w' g q.tail (k + 1) := by
  obtain ⟨A, f, hB, hI⟩ := h.ex
  have hlen := hI.len
  have c66 := hB.at_ 66 _ (dv_66 hI.len _ _ _)
  have c65 := hB.at_ 65 _ (dv_65 hI.len _ _ _)
  have c64 := hB.at_ 64 _ (dv_64 hI.len _ _ _)
  have f66 := hB.fr 66
  have hw : IntKind.u32.wrap ((k : Int) + 1) = ((k + 1 : Nat) : Int) := by rw [IntKind.wrap_u32]; omega
  cases q with
  | nil =>
    have c65 : w.cell? ⟨g, 65, none⟩ = some (.int .i64 0) := c65
    have HB := hid hB
    have HI := hid hI
    have HL := hid hlen
    have KM := hid (fun w => show Calls Try.prog 93 #[.int .u32 ((k : Int) + 1)] w fun e w' => e = .returned (.int .u32 (mk (k + 1) : Nat)) ∧ w = w' from made_any (k + 1) (by omega) w)
    clear hB hI hlen h c64
    go_enter Try.func63, Try.ntmps63
    go_wp2_with (go_at_call 93; ((with_reducible refine (KM.out _).mono ?_); rintro e w1 ⟨rfl, rfl⟩))
    go_ret
    refine ⟨rfl, ⟨⟨A, f, ?_, HI.out⟩, by omega⟩, gb_setCell (World.grownBy.refl w (some g)) (p := ⟨g, 66, none⟩) rfl _⟩
    have := HB.out.set 66 (.int .u32 (k + 1 : Nat))
    rw [dv_set66 HL.out] at this
    exact this
  | cons x t =>
    have hp := hid hI.pop
    have hfst := hI.first
    have hfl := hI.lt
    have c0 := hB.at_ f _ (dv_at hI.len f _ k f hfl)
    rw [hfst] at c0
    have f65 := hB.fr 65
    have f64 := hB.fr 64
    have HB := hid hB
    have HL := hid hlen
    obtain ⟨l, hl⟩ : ∃ l, l = (x :: t).length := ⟨_, rfl⟩
    have hl2 : l = t.length + 1 := by rw [hl]; simp
    rw [← hl] at HB c65
    subst hl2
    have hll := hI.le
    simp only [List.length_cons] at hll
    have hne : ((t.length : Int) + 1 == 0) = false := by simp; omega
    clear hB hI hlen h hl hfst
    have e1 : ¬ f = 66 := by omega
    have e2 : ¬ f = 65 := by omega
    have e3 : ¬ f = 64 := by omega
    go_enter Try.func63, Try.ntmps63
    go_upto_region 4 with fail
    go_quiet (fail)
    go_wp2_with fail
    go_ret
    refine ⟨rfl, ⟨⟨A, (f + 1) % 64, ?_, hp.out⟩, by omega⟩, ?_⟩
    · have k0 := (HB.out.set 66 (.int .u32 (k + 1 : Nat))).next (below_drewN (Below.refl _ _) nq)
      have k1 := (k0.set 64 (.int .i64 ((f + 1) % 64 : Nat))).set 65 (.int .i64 (t.length : Nat))
      rw [dv_set66 HL.out, dv_set64 HL.out, dv_set65 HL.out] at k1
      exact k1
    · exact gb_setCell (gb_setCell (gb_drewN (gb_setCell (World.grownBy.refl w (some g)) (p := ⟨g, 66, none⟩) rfl _) _) (p := ⟨g, 64, none⟩) rfl _) (p := ⟨g, 65, none⟩) rfl _
theorem Did.refl {w : World} {g : Nat} {q : List Int} {k : Nat} (h : Has w g q k) : Did w w g q k := ⟨h, World.grownBy.refl _ _⟩
theorem Did.trans {w w1 w2 : World} {g : Nat} {q q' : List Int} {k k' : Nat} (h : Did w w1 g q k) (h' : Did w1 w2 g q' k') : Did w w2 g q' k' := ⟨h'.has, gb_trans h.only h'.only⟩
def SomeOf (q : List Int) (k : Nat) (w : World) (g : Nat) (e : Ending) (w' : World) : Prop := e = .returned (.int .u32 (sm q k)) ∧ Did w w' g (smq q k) (smk q k)
theorem some_any (w : World) (g : Nat) (q : List Int) (k : Nat) (h : Has w g q k) (hk : k < 999) :
    Calls Try.prog 65 #[.pointer (some ⟨g, 0, none⟩)] w (SomeOf q k w g) := by
  have D0 := hid (Did.refl h)
  clear h
  go_enter Try.func65, Try.ntmps65
  go_wp2_with fail
  go_loopw [4] (fun iv wr => (∃ j : Nat, iv = .int .i64 (j : Nat) ∧ j ≤ 2 ∧ Hid (Did w wr g (q.drop j) (k + j)) ∧ Hid (1 ≤ j → nx q k = 0) ∧ Hid (2 ≤ j → nx q.tail (k + 1) = 0))) (fun iv _ => 2 - (intOf iv).toNat)
  case atStart => exact ⟨0, rfl, by omega, D0, hid (fun h => absurd h (by omega)), hid (fun h => absurd h (by omega))⟩
  case round =>
    clear D0
    obtain ⟨j, rfl, hj, HD, Z1, Z2⟩ := hrel
    by_cases hlt : j < 2
    · obtain ⟨v, hv⟩ : ∃ v, v = nx (q.drop j) (k + j) := ⟨_, rfl⟩
      have KN := hid (fun w h => next_any w g (q.drop j) (k + j) h (by omega))
      rw [← hv] at KN
      by_cases hz : v = 0
      · subst hz
        have HV := hid hv
        clear hv
        go_wp2_with (go_at_call 63; ((with_reducible refine (KN.out _ HD.out.has).mono ?_); rintro e w1 ⟨rfl, h1⟩; have H1 := hid (HD.out.trans h1); clear h1))
        go_roundw
        case rel =>
          refine ⟨j + 1, by go_num, by omega, hid (by have := H1.out; rw [List.tail_drop] at this; exact this), hid (fun _ => ?_), hid (fun h => ?_)⟩
          · have hj0 : j = 0 ∨ j = 1 := by omega
            rcases hj0 with rfl | rfl
            · exact HV.out.symm
            · exact Z1.out (by omega)
          · obtain rfl : j = 1 := by omega
            have := HV.out.symm
            rw [List.drop_one] at this; exact this
        case measure => simp [intOf]; omega
      · have hne : (v != 0) = true := by simpa using hz
        have HV := hid hv
        have HZ := hid hz
        clear hv hz
        go_wp2_with (go_at_call 63; ((with_reducible refine (KN.out _ HD.out.has).mono ?_); rintro e w1 ⟨rfl, h1⟩; have H1 := hid (HD.out.trans h1); clear h1))
        go_ret
        have hv := HV.out
        have hz := HZ.out
        have hj0 : j = 0 ∨ j = 1 := by omega
        rcases hj0 with rfl | rfl
        · have e0 : nx q k = v := hv.symm
          have h2 := H1.out
          refine ⟨(show Ending.returned (Value.int .u32 v) = .returned (.int .u32 (sm q k)) by rw [sm, e0, if_pos hz]), ?_⟩
          rw [smq, smk, e0, if_pos hz, if_pos hz]
          exact h2
        · have e0 : nx q k = 0 := Z1.out (by omega)
          rw [List.drop_one] at hv
          have h2 := H1.out
          rw [List.drop_one] at h2
          refine ⟨(show Ending.returned (Value.int .u32 v) = .returned (.int .u32 (sm q k)) by rw [sm, e0, if_neg (by simp), ← hv, if_pos hz]), ?_⟩
          rw [smq, smk, e0, if_neg (by simp), if_neg (by simp)]
          exact h2
    · obtain rfl : j = 2 := by omega
      go_wp2_with fail
      go_ret
      have e0 : nx q k = 0 := Z1.out (by omega)
      have e1 : nx q.tail (k + 1) = 0 := Z2.out (by omega)
      refine ⟨(show Ending.returned (Value.int .u32 1) = .returned (.int .u32 (sm q k)) by rw [sm, e0, e1, if_neg (by simp), if_neg (by simp)]), ?_⟩
      rw [smq, smk, e0, if_neg (by simp), if_neg (by simp)]
      have := HD.out
      rw [show q.tail.tail = q.drop 2 by rw [← List.drop_one, ← List.drop_one, List.drop_drop]]
      exact this
/-! the document's own -/
theorem info_u32 : (Try.prog.info? 24).map (fun i => (i.zero, i.size, i.bytes)) = some (some (.int .u32 0), 1, 4) := by kernel_rfl
theorem sl32 : Try.prog.underlying 29 = some (.slice (Try.prog.elem 29)) := by kernel_rfl
theorem slice_from32 (a : Option Addr) (n cap m : Nat) (h : m ≤ n) : ∃ a', (∀ w, (Instr.slice 29 (.slice a n cap) (some (.int .i64 (m : Int))) none none).run Try.prog w = .ok (.slice a' (n - m) (cap - m)) w) ∧ (cap = m → a' = a) ∧ (¬ cap = m → a' = a.map (·.add m)) := by
  refine ⟨if cap = m then a else a.map (·.add m), fun w => ?_, fun h => by simp [h], fun h => by simp [h]⟩
  rw [run_slice_l (ht := sl32) (h0 := by omega) (h1 := by omega)]
  simp [go_sem, Result.andThen, sliced]
theorem slice1 (a : Option Addr) (n cap : Nat) (h : 1 ≤ n) : ∃ a', (∀ w, (Instr.slice 29 (.slice a n cap) (some (.int .i64 1)) none none).run Try.prog w = .ok (.slice a' (n - 1) (cap - 1)) w) ∧ (cap = 1 → a' = a) ∧ (¬ cap = 1 → a' = a.map (·.add 1)) :=
  slice_from32 a n cap 1 h
/-- the numbers q wait behind block g, behind k calls; nothing of it lies in block o -/
structure RHas (w : World) (g o : Nat) (q : List Int) (k : Nat) : Prop where
  ex : ∃ a c, Box w g [.slice a q.length c, .int .u64 k] ∧ Nums .u32 w w.heap.size a q.length c q ∧ (∀ b f s, a = some ⟨b, f, s⟩ → b ≠ g ∧ b ≠ o)
  le : k ≤ 1000
  le64 : q.length ≤ 64
theorem RHas.next {w w' : World} {g o : Nat} {q : List Int} {k : Nat} (h : RHas w g o q k) (hb : Below w.heap.size w w') : RHas w' g o q k := by
  obtain ⟨a, c, hB, hN, hne⟩ := h.ex
  exact ⟨⟨a, c, hB.next hb, (hN.below hb).mono hb.size, hne⟩, h.le, h.le64⟩
theorem RHas.grown {w w' : World} {g o : Nat} {q : List Int} {k : Nat} (h : RHas w g o q k) (hb : w.grownBy w' (some o)) (hgo : g ≠ o) : RHas w' g o q k := by
  obtain ⟨a, c, hB, hN, hne⟩ := h.ex
  refine ⟨⟨a, c, hB.grown hb hgo, ⟨hN.len, hN.le, hN.max, hN.nil, fun hp => ?_⟩, hne⟩, h.le, h.le64⟩
  obtain ⟨b, off, ha, h1, h2, hc⟩ := hN.cells hp
  exact ⟨b, off, ha, Nat.lt_of_lt_of_le h1 hb.size, Nat.lt_of_lt_of_le h2 hb.size, fun j hj => gb_cell hb (hc j hj) (hne b off none ha).2⟩
/-- what a call leaves -/
structure RDid (w w' : World) (g o : Nat) (q : List Int) (k : Nat) : Prop where
  has : RHas w' g o q k
  only : w.grownBy w' (some g)
theorem RDid.refl {w : World} {g o : Nat} {q : List Int} {k : Nat} (h : RHas w g o q k) : RDid w w g o q k := ⟨h, World.grownBy.refl _ _⟩
theorem RDid.trans {w w1 w2 : World} {g o : Nat} {q q' : List Int} {k k' : Nat} (h : RDid w w1 g o q k) (h' : RDid w1 w2 g o q' k') : RDid w w2 g o q' k' := ⟨h'.has, gb_trans h.only h'.only⟩
theorem radd_no (w : World) (g o : Nat) (q : List Int) (k : Nat) (n : Int) (h : RHas w g o q k) (hq : q.length = 64) :
    Calls Try.prog 68 #[.pointer (some ⟨g, 0, none⟩), .int .u32 n] w fun e w' => e = .returned (.bool false) ∧ w = w' := by
  obtain ⟨a, c, hB, hN, hne⟩ := h.ex
  have c0 := hB.at_ 0 _ rfl
  rw [hq] at c0
  clear hB hN hne h hq
  go_enter Try.func68, Try.ntmps68
  go_wp2
  go_ret
  exact ⟨rfl, rfl⟩
set_option maxHeartbeats 1000000 in
theorem radd_yes (w : World) (g o : Nat) (q : List Int) (k : Nat) (n : Int) (h : RHas w g o q k) (hq : q.length < 64) (ho : o < w.heap.size) :
    Calls Try.prog 68 #[.pointer (some ⟨g, 0, none⟩), .int .u32 n] w fun e w' => e = .returned (.bool true) ∧ RDid w w' g o (q ++ [n]) k := by
  have hk := h.le
  obtain ⟨a, c, hB, hN, hne⟩ := h.ex
  obtain ⟨i0, hi, hi0, hi1, hi2⟩ := info_parts info_u32
  have c0 := hB.at_ 0 _ rfl
  have f0 := hB.fr 0
  have HB := hid hB
  have hg := hB.lt
  have HN := hid hN
  have hql : (q ++ [n]).length = q.length + 1 := by simp
  have HQL := hid hql
  obtain ⟨l, hl⟩ : ∃ l, l = q.length := ⟨_, rfl⟩
  rw [← hl] at hq c0 HN HB HQL
  clear hB hN hne h hl hql
  go_enter Try.func68, Try.ntmps68
  go_wp2_with (first | (at_builtin; (refine wpList_append_nums rfl (.tmp 12) _ 29 rfl w.heap.size 24 i0 (.int .u32 0) 4 Try.underlying29 hi hi0 hi1 hi2 rfl (.slice none 0 0) 0 [] rfl (World.ownsRow_nil _ _ _ _) a l c w.heap.size _ rfl HN.out (by unfold maxLen; omega) (by omega) (by simp) ?_); (intro v' w1 h1 h2); have B1 := hid (below_none (Below.refl w.heap.size w) h2 (Nat.le_refl _)); have z1 := B1.out.size; have x0 := keep_cell B1.out c0; have k0 := (B1.out.frozen (p := ⟨g, 0, none⟩) hg).trans f0; have O1 := hid (show w1.ownsRow w.heap.size 24 1 v' l (q.map (Value.int .u32)) by simpa using h1); clear h1 h2) | (at_builtin; (refine wpList_append_nums rfl (.tmp 19) _ 29 rfl w.heap.size 24 i0 (.int .u32 0) 4 Try.underlying29 hi hi0 hi1 hi2 rfl v' l _ rfl (O1.out.alloc _) _ 1 1 _ _ rfl nums_one (by unfold maxLen; omega) (by omega) (by simp; omega) ?_); (intro v2 w2 h3 h4); obtain ⟨a2, c2, rfl⟩ := own_slice h3; have B2 := hid (own_below (O1.out.alloc _) (B1.out.alloc z1 _) h4 (by simp; omega)); have z2 := B2.out.size; have x1 := keep_cell B2.out c0; have k1 := (B2.out.frozen (p := ⟨g, 0, none⟩) hg).trans f0; have O2 := hid h3; clear h3 h4))
  go_ret
  have hng := own_from O2.out
  refine ⟨rfl, ⟨⟨a2, c2, ?_, ?_, fun b f s e => ?_⟩, hk, by rw [HQL.out]; omega⟩, ?_⟩
  · rw [HQL.out]; exact (HB.out.next B2.out).set 0 _
  · rw [HQL.out]
    have hN := own_nums O2.out
    refine (nums_grown hN (gb_setCell (World.grownBy.refl w2 (some g)) (p := ⟨g, 0, none⟩) rfl _) (fun b o s e => ?_)).mono (by simp [World.setCell])
    have := hng b o s e; omega
  · have := hng b f s e; exact ⟨by omega, by omega⟩
  · exact gb_setCell (gb_of_below B2.out (some g)) (p := ⟨g, 0, none⟩) rfl _
set_option maxHeartbeats 1000000 in
theorem rnext_any (w : World) (g o : Nat) (q : List Int) (k : Nat) (h : RHas w g o q k) (hk : k < 1000) :
    Calls Try.prog 64 #[.pointer (some ⟨g, 0, none⟩)] w fun e w' => e = .returned (.int .u32 (nx q k)) ∧ RDid w w' g o q.tail (k + 1) := by
  obtain ⟨a, c, hB, hN, hne⟩ := h.ex
  have h64 := h.le64
  have c0 := hB.at_ 0 _ rfl
  have c1 := hB.at_ 1 _ rfl
  have f0 := hB.fr 0
  have f1 := hB.fr 1
  have HB := hid hB
  have hg := hB.lt
  have HN := hid hN
  have HNE := hid hne
  cases q with
  | nil =>
    have c0 : w.cell? ⟨g, 0, none⟩ = some (.slice a 0 c) := c0
    have KM := hid (fun w => show Calls Try.prog 94 #[.int .u64 ((k : Int) + 1)] w fun e w' => e = .returned (.int .u32 (mk (k + 1) : Nat)) ∧ w = w' from rmade_any (k + 1) (by omega) w)
    clear hB hN hne h
    go_enter Try.func64, Try.ntmps64
    go_wp2_with (go_at_call 94; ((with_reducible refine (KM.out _).mono ?_); rintro e w1 ⟨rfl, rfl⟩))
    go_ret
    have hgr : w.grownBy (w.setCell ⟨g, 1, none⟩ (.int .u64 ((k : Int) + 1))) (some g) := gb_setCell (World.grownBy.refl w (some g)) (p := ⟨g, 1, none⟩) rfl _
    refine ⟨rfl, ⟨⟨a, c, HB.out.set 1 (.int .u64 (k + 1 : Nat)), Nums.empty HN.out.max HN.out.nil, HNE.out⟩, by omega, by simp⟩, hgr⟩
  | cons x t =>
    obtain ⟨b, off, ha, hb1, hb2, hc⟩ := HN.out.cells (by simp)
    subst ha
    have hx := hc 0 (by simp)
    have hx2 : w.cell? ⟨b, off, none⟩ = some (.int .u32 x) := hx
    have hbg := (HNE.out b off none rfl).1
    obtain ⟨a', hs, hs1, hs2⟩ := slice1 (some ⟨b, off, none⟩) (x :: t).length c (by simp)
    have hle := HN.out.le
    have hmx := HN.out.max
    unfold maxLen at hmx
    obtain ⟨l, hl⟩ : ∃ l, l = (x :: t).length := ⟨_, rfl⟩
    have hl2 : l = t.length + 1 := by rw [hl]; simp
    have hl3 : l - 1 = t.length := by omega
    rw [← hl] at c0 hs hle
    have HS1 := hid hs1
    have HS2 := hid hs2
    have hl0 : ((l : Int) == 0) = false := by simp; omega
    have hlp : 0 < l := by omega
    have HL := hid hl
    have HL3 := hid hl3
    simp only [List.length_cons] at h64
    clear hB hN hne h hc hx hs1 hs2 hl hl2 hl3
    go_enter Try.func64, Try.ntmps64
    go_wp2_with fail
    go_ret
    have hgr : w.grownBy ((w.setCell ⟨g, 1, none⟩ (.int .u64 ((k : Int) + 1))).setCell ⟨g, 0, none⟩ (.slice a' (l - 1) (c - 1))) (some g) := gb_setCell (gb_setCell (World.grownBy.refl w (some g)) (p := ⟨g, 1, none⟩) rfl _) (p := ⟨g, 0, none⟩) rfl _
    refine ⟨rfl, ⟨⟨a', c - 1, ?_, ?_, fun b2 f2 s2 e => ?_⟩, by omega, by show t.length ≤ 64; omega⟩, hgr⟩
    · have := (HB.out.set 1 (.int .u64 (k + 1 : Nat))).set 0 (.slice a' (l - 1) (c - 1))
      rw [HL3.out] at this ⊢
      exact this
    · have hN2 := HN.out.drop (m := 1) (a' := a') (by simp) HS1.out HS2.out
      rw [← HL.out, HL3.out] at hN2
      refine (nums_grown hN2 hgr (fun b3 o3 s3 e => ?_)).mono hgr.size
      by_cases hc1 : c = 1
      · rw [HS1.out hc1] at e; injection e with e; injection e with e; omega
      · rw [HS2.out hc1] at e; simp [Addr.add] at e; omega
    · by_cases hc1 : c = 1
      · rw [HS1.out hc1] at e; exact HNE.out b2 f2 s2 e
      · rw [HS2.out hc1] at e; simp [Addr.add] at e; obtain ⟨rfl, _, _⟩ := e; exact HNE.out b off none rfl
def RSomeOf (q : List Int) (k : Nat) (w : World) (g o : Nat) (e : Ending) (w' : World) : Prop := e = .returned (.int .u32 (sm q k)) ∧ RDid w w' g o (smq q k) (smk q k)
theorem rsome_any (w : World) (g o : Nat) (q : List Int) (k : Nat) (h : RHas w g o q k) (hk : k < 999) :
    Calls Try.prog 66 #[.pointer (some ⟨g, 0, none⟩)] w (RSomeOf q k w g o) := by
  have K1 := hid (rnext_any w g o q k h (by omega))
  by_cases h1 : nx q k = 0
  · have K2 := hid (fun w1 (h : RHas w1 g o q.tail (k + 1)) => rnext_any w1 g o q.tail (k + 1) h (by omega))
    by_cases h2 : nx q.tail (k + 1) = 0
    · have E : Hid (sm q k = 1 ∧ smq q k = q.tail.tail ∧ smk q k = k + 2) := hid (by simp [sm, smq, smk, h1, h2])
      rw [h1] at K1
      rw [h2] at K2
      clear h1 h2 h
      go_enter Try.func66, Try.ntmps66
      go_wp2_with (go_at_call 64; first | ((with_reducible refine K1.out.mono ?_); rintro e w1 ⟨rfl, h1⟩; have H1 := hid h1; clear h1) | ((with_reducible refine (K2.out _ H1.out.has).mono ?_); rintro e w2 ⟨rfl, h2⟩; have H2 := hid (H1.out.trans h2); clear h2))
      go_ret
      obtain ⟨e1, e2, e3⟩ := E.out
      exact ⟨show Ending.returned (Value.int .u32 1) = .returned (.int .u32 (sm q k)) by rw [e1], by rw [e2, e3]; exact H2.out⟩
    · have E : Hid (sm q k = nx q.tail (k + 1) ∧ smq q k = q.tail.tail ∧ smk q k = k + 2) := hid (by simp [sm, smq, smk, h1, h2])
      rw [h1] at K1
      obtain ⟨v, hv⟩ : ∃ v, v = nx q.tail (k + 1) := ⟨_, rfl⟩
      rw [← hv] at K2 h2 E
      have hne : (v == 0) = false := by simpa using h2
      clear h1 h2 h hv
      go_enter Try.func66, Try.ntmps66
      go_wp2_with (go_at_call 64; first | ((with_reducible refine K1.out.mono ?_); rintro e w1 ⟨rfl, h1⟩; have H1 := hid h1; clear h1) | ((with_reducible refine (K2.out _ H1.out.has).mono ?_); rintro e w2 ⟨rfl, h2⟩; have H2 := hid (H1.out.trans h2); clear h2))
      go_ret
      obtain ⟨e1, e2, e3⟩ := E.out
      exact ⟨show Ending.returned (Value.int .u32 v) = .returned (.int .u32 (sm q k)) by rw [e1], by rw [e2, e3]; exact H2.out⟩
  · have E : Hid (sm q k = nx q k ∧ smq q k = q.tail ∧ smk q k = k + 1) := hid (by simp [sm, smq, smk, h1])
    obtain ⟨v, hv⟩ : ∃ v, v = nx q k := ⟨_, rfl⟩
    rw [← hv] at K1 h1 E
    have hne : (v == 0) = false := by simpa using h1
    clear h1 h hv
    go_enter Try.func66, Try.ntmps66
    go_wp2_with (go_at_call 64; first | ((with_reducible refine K1.out.mono ?_); rintro e w1 ⟨rfl, h1⟩; have H1 := hid h1; clear h1))
    go_ret
    obtain ⟨e1, e2, e3⟩ := E.out
    exact ⟨show Ending.returned (Value.int .u32 v) = .returned (.int .u32 (sm q k)) by rw [e1], by rw [e2, e3]; exact H1.out⟩
end Go.Proofs.Ytcbfebbnelofpaa.mgc
