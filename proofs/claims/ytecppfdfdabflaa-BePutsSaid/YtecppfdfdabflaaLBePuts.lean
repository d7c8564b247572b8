/- catwalklaw01.BePuts answers true at every input, and leaves its arguments as they were. No condition. -/
import Derived.Test.YtecppfdfdabflaaRows
import Derived.WalkKit
import Derived.ProofKit
import Derived.OpenShut
import Derived.ShutString
import Derived.ChangeOld
import Derived.Below
import Derived.Test.YtecppfdfdabflaaBeLaw
import Derived.Deep.DeepCutAuto
namespace Go.Proofs.Ytecppfdfdabflaa.bePuts
open Go.ChangeShapes Go.WideShapes Go.ChangeAt Go.RowKit
open Go.ChangeMaps (open_string shut_string)
set_option linter.unusedVariables false

theorem own : ownKnob Try.prog.godebug = none := by kernel_rfl
theorem laidOut : laidOutB Try.prog = true := by kernel_rfl

/-- WHAT THE WALK IS TOLD OF A SLICE OF INTEGERS THAT CAME IN: it is nil; or it leads to a row of 'cap' cells, the numbers 'zs' (the first 'len' are its elements, the rest its spare room), each fitting its kind. -/
def IsRow (k : IntKind) (w : World) (a : Option Addr) (len cap : Nat) (zs : List Int) : Prop :=
  (a = none ∧ len = 0 ∧ cap = 0 ∧ zs = []) ∨
  ∃ x, a = some x ∧ len ≤ cap ∧ cap ≤ maxLen ∧ zs.length = cap ∧ (∀ i, i < zs.length → w.cell? (x.add i) = some (.int k (zs.getD i 0))) ∧ ∀ n ∈ zs, (Lit.int k n).wf = true

open Go.Proofs.Ytecppfdfdabflaa.kit Go.Proofs.Ytecppfdfdabflaa.bec
theorem val2 {l : List Int} {k : Nat} (h : k ≤ l.length) (h1 : 1 ≤ k) (h8 : k ≤ 8) : valN false l k = numB (l.take k) := by
  have e : okN false l k = true := by unfold okN okR; simp; omega
  unfold valN; rw [e]; simp
theorem val0 {l : List Int} {k : Nat} (h : l.length < k) : valN false l k = 0 := by
  have e : okN false l k = false := by unfold okN okR; simp; omega
  unfold valN; rw [e]; simp
/-- where the walk stands: nothing that was there has turned, and the bytes read as they did -/
def St (w W : World) (a : Option Addr) (n c : Nat) (l : List Int) : Prop := Below w.heap.size w W ∧ Nums .u8 W w.heap.size a n c l
theorem St.next {w W W' : World} {a : Option Addr} {n c : Nat} {l : List Int} (h : St w W a n c l) (hb : Below W.heap.size W W') : St w W' a n c l :=
  ⟨h.1.trans (hb.mono h.1.size), h.2.below (hb.mono h.1.size)⟩
theorem own_st {w W W' : World} {a : Option Addr} {n c : Nat} {l : List Int} {z : Nat} {x : Int} {e : Ending} (h : St w W a n c l) (hp : PutPost n l x z W e W') :
    ∃ a' c', e = .returned (.slice a' (n + z) c') ∧ Nums .u8 W' W'.heap.size a' (n + z) c' (l ++ beB z x) ∧ St w W' a n c l := by
  obtain ⟨a', c', he, h1, h2⟩ := hp
  exact ⟨a', c', he, own_nums h1, h.next h2⟩
theorem clone_st {w W : World} {a : Option Addr} {n c : Nat} {l : List Int} (h : St w W a n c l) (hn : ¬ 1000 < n) :
    Calls Try.prog 12 #[.slice a n c] W fun e W' => ∃ a' c', e = .returned (.slice a' n c') ∧ Nums .u8 W' W'.heap.size a' n c' l ∧ St w W' a n c l :=
  (clone_any W h.2 (by omega) h.1.size).mono fun e W' ⟨a', c', he, h1, h2⟩ => ⟨a', c', he, own_nums h1, h.next h2⟩
theorem refput_st {w W : World} {a : Option Addr} {n c : Nat} {l : List Int} {a1 : Option Addr} {n1 c1 : Nat} {l1 : List Int} (h : St w W a n c l) (hp : Nums .u8 W W.heap.size a1 n1 c1 l1) (hn : ¬ 1000 < n) (x : Int) (hx : 0 ≤ x ∧ x ≤ 18446744073709551615) (z : Int) :
    Calls Try.prog 13 #[.slice a n c, .int .u64 x, .int .i64 z] W fun e W' => ∃ a' c', e = .returned (.slice a' (n + putLen z) c') ∧ Nums .u8 W' W'.heap.size a' (n + putLen z) c' (l ++ beB (putLen z) x) ∧
      Nums .u8 W' W'.heap.size a1 n1 c1 l1 ∧ St w W' a n c l := by
  by_cases hz : 1 ≤ z ∧ z ≤ 8
  · obtain ⟨m, rfl⟩ : ∃ m : Nat, z = m := ⟨z.toNat, by omega⟩
    have e : putLen (m : Int) = m := by unfold putLen; rw [if_pos hz]; omega
    rw [e]
    exact (ref_put_in W h.2 (by omega) h.1.size x hx.1 hx.2 m (by omega) (by omega)).mono fun e W' ⟨a', c', he, h1, h2⟩ => ⟨a', c', he, own_nums h1, (hp.below h2).mono h2.size, h.next h2⟩
  · have e : putLen z = 0 := by unfold putLen; rw [if_neg hz]
    rw [e]
    exact (ref_put_no W h.2 (by omega) h.1.size x z hz).mono fun e W' ⟨a', c', he, h1, h2⟩ => ⟨a', c', he, own_nums h1, (hp.below h2).mono h2.size, h.next h2⟩
theorem equal_st {w W : World} {a : Option Addr} {n c : Nat} {l : List Int} {B1 B2 n1 n2 c1 c2 : Nat} {a1 a2 : Option Addr} {l1 l2 : List Int} (h : St w W a n c l) (h1 : Nums .u8 W B1 a1 n1 c1 l1) (h2 : Nums .u8 W B2 a2 n2 c2 l2) (he : l1 = l2) :
    Calls Try.prog 10 #[.slice a1 n1 c1, .slice a2 n2 c2] W fun e W' => e = .returned (.bool true) ∧ St w W' a n c l :=
  (equal_same W h1 h2 he).mono fun e W' ⟨he, m, hm⟩ => ⟨he, by subst hm; exact h.next (below_drewN (Below.refl _ _) m)⟩
theorem get16_st {w W : World} {a : Option Addr} {n c : Nat} {l : List Int} (h : St w W a n c l) (hb : Byt l) :
    Calls Try.prog 18 #[.slice a n c] W fun e W' => e = .returned (.int .u16 (valN false l 2)) ∧ St w W' a n c l :=
  (get16_any W h.2 h.1.size hb).mono fun e W' ⟨he, h2⟩ => ⟨he, h.next h2⟩
theorem get32_st {w W : World} {a : Option Addr} {n c : Nat} {l : List Int} (h : St w W a n c l) (hb : Byt l) :
    Calls Try.prog 19 #[.slice a n c] W fun e W' => e = .returned (.int .u32 (valN false l 4)) ∧ St w W' a n c l :=
  (get32_any W h.2 h.1.size hb).mono fun e W' ⟨he, h2⟩ => ⟨he, h.next h2⟩
theorem alive_st {w W : World} {a : Option Addr} {n c : Nat} {l : List Int} (h : St w W a n c l) :
    Calls Try.prog 20 #[] W fun e W' => e = .returned (.bool true) ∧ St w W' a n c l :=
  (alive_any W).mono fun e W' ⟨he, h2⟩ => ⟨he, h.next h2⟩
theorem ref_num_st {w W : World} {a : Option Addr} {n c k : Nat} {l : List Int} (h : St w W a n c l) (hb : Byt l) (hk : k ≤ n) (h8 : k ≤ 8) :
    Calls Try.prog 17 #[.slice a k c] W fun e W' => e = .returned (.int .u64 (numB (l.take k))) ∧ W = W' :=
  ref_num W (h.2.take hk) h8 (hb.take k)

/-! ### STEP 1: THE WALK: the Go text returns true, AND WRITES NOTHING THAT WAS THERE: 'Below w.heap.size w w'' (Derived/Below.lean: '.refl', '.alloc', '.drew', '.setCell' at a new block, '.trans'). Open each 'IsRow' by 'rcases' AHEAD of 'go_enter'; part every test ahead of the walk. -/
set_option maxHeartbeats 2000000 in
theorem walk (a0 : Option Addr) (len0 cap0 : Nat) (z0 : List Int) (a1 : Int) (a2 : Int) (w : World) (w0 : IsRow .u8 w a0 len0 cap0 z0) (w1 : (Lit.int .u64 a1).wf = true) (w2 : (Lit.int .i64 a2).wf = true) :
    Calls Try.prog 3 #[.slice a0 len0 cap0, .int .u64 a1, .int .i64 a2] w fun e w' => e = .returned (.bool true) ∧ Below w.heap.size w w' := by
  obtain ⟨l, hN, hwf⟩ := row_nums w0
  have hx := wf_u64 w1
  have hB : Byt l := fun x hx => wf_u8 (hwf x hx)
  clear w0 w1 hwf
  have hlen := hN.len
  have hle := hN.le
  have hmx := hN.max
  unfold maxLen at hmx
  by_cases hbig : 1000 < len0
  · clear hN hB hlen
    go_enter Try.func3, Try.ntmps3
    go_wp2
    go_ret
    exact ⟨rfl, Below.refl _ _⟩
  · have E8 := hid (show l ++ beB 1 (a1 % 256) = l ++ beB 1 a1 by rw [← beB_mod 1 a1]; simp)
    have E16 := hid (show l ++ beB 2 (IntKind.u16.wrap a1) = l ++ beB 2 a1 by rw [IntKind.wrap_u16, ← beB_mod 2 a1]; simp)
    have E32 := hid (show l ++ beB 4 (a1 % 4294967296) = l ++ beB 4 a1 by rw [← beB_mod 4 a1]; simp)
    have V2 : 0 ≤ valN false l 2 ∧ valN false l 2 < 256 ^ 2 := valN_bd false l hB 2
    have V4 : 0 ≤ valN false l 4 ∧ valN false l 4 < 256 ^ 4 := valN_bd false l hB 4
    simp only [Int.reducePow] at V2 V4
    have HL := hid hlen
    have HB := hid hB
    clear hlen hB
    have hS0 : St w w a0 len0 cap0 l := ⟨Below.refl _ _, hN⟩
    clear hN
    have hv2 : (2 ≤ len0 ∧ valN false l 2 = numB (l.take 2)) ∨ (len0 < 2 ∧ valN false l 2 = 0) := by
      by_cases h : 2 ≤ len0
      · exact .inl ⟨h, val2 (k := 2) (by rw [HL.out]; exact h) (by omega) (by omega)⟩
      · exact .inr ⟨by omega, val0 (k := 2) (by rw [HL.out]; omega)⟩
    have hv4 : (4 ≤ len0 ∧ valN false l 4 = numB (l.take 4)) ∨ (len0 < 4 ∧ valN false l 4 = 0) := by
      by_cases h : 4 ≤ len0
      · exact .inl ⟨h, val2 (k := 4) (by rw [HL.out]; exact h) (by omega) (by omega)⟩
      · exact .inr ⟨by omega, val0 (k := 4) (by rw [HL.out]; omega)⟩
    have HV2 := hid hv2
    have HV4 := hid hv4
    clear hv2 hv4
    go_enter Try.func3, Try.ntmps3
    go_upto_region 7 with (first | (go_at_call 12; go_loud (refine (clone_st (by assumption) (by omega)).mono ?_); go_loud (rintro e wa ⟨aa, ca, rfl, h1, h2⟩)) | (go_at_call 11; go_loud (refine (put8_any _ h1 (by omega) (Nat.le_refl _) _ (by omega) (by omega)).mono ?_); go_loud (rintro e wb hp); obtain ⟨ab, cb, rfl, h3, h4⟩ := own_st h2 hp) | (go_at_call 14; go_loud (refine (put16_any _ h1 (by omega) (Nat.le_refl _) _ (by rw [IntKind.wrap_u16]; omega) (by rw [IntKind.wrap_u16]; omega)).mono ?_); go_loud (rintro e wb hp); obtain ⟨ab, cb, rfl, h3, h4⟩ := own_st h2 hp) | (go_at_call 15; go_loud (refine (put32_any _ h1 (by omega) (Nat.le_refl _) _ (by omega) (by omega)).mono ?_); go_loud (rintro e wb hp); obtain ⟨ab, cb, rfl, h3, h4⟩ := own_st h2 hp) | (go_at_call 16; go_loud (refine (put_any _ h1 (by omega) (Nat.le_refl _) _ (by omega) (by omega) _).mono ?_); go_loud (rintro e wb hp); obtain ⟨ab, cb, rfl, h3, h4⟩ := own_st h2 hp) | (go_at_call 13; go_loud (refine (refput_st h4 h3 (by omega) _ hx _).mono ?_); go_loud (rintro e wc ⟨ac, cc, rfl, h5, h6, h7⟩)) | (go_at_call 10; go_loud (refine (equal_st h7 h6 h5 (by first | exact E8.out | exact E16.out | exact E32.out | rfl)).mono ?_); go_loud (rintro e wd ⟨rfl, h8⟩)))
    rcases HV2.out with ⟨g2, e2⟩ | ⟨g2, e2⟩
    all_goals rcases HV4.out with ⟨g4, e4⟩ | ⟨g4, e4⟩
    all_goals try (exfalso; omega)
    all_goals rw [e2] at V2
    all_goals rw [e4] at V4
    all_goals have F2 := hid e2
    all_goals have F4 := hid e4
    all_goals clear e2 e4 HV2 HV4 E8 E16 E32
    all_goals go_wp2_with (first | (go_at_call 17; go_loud (refine (ref_num_st h8 HB.out (by omega) (by omega)).mono ?_); go_loud (rintro e wa ⟨rfl, rfl⟩)) | (go_at_call 18; go_loud (refine (get16_st h8 HB.out).mono ?_); rw [F2.out]; go_loud (rintro e wa ⟨rfl, h9⟩)) | (go_at_call 19; go_loud (refine (get32_st h9 HB.out).mono ?_); rw [F4.out]; go_loud (rintro e wa ⟨rfl, h10⟩)) | (go_at_call 20; go_loud (refine (alive_st h10).mono ?_); go_loud (rintro e wa ⟨rfl, h11⟩)))
    all_goals go_ret
    all_goals exact ⟨rfl, h11.1⟩

/-! ### THE ROW's STEP: WRITTEN OUT: LEAVE IT -/
set_option maxRecDepth 100000 in
theorem lifted (os : Os) (started : os.Started) (H : Type) (enc : TypeId × Value → H) :
    ReturnsInHanded {} Try.checked os 3 .any (Rows.bePutsSpec.pre6 enc Try.prog Try.f3 Rows.bePutsRow.domain false) (Rows.bePutsSpec.post enc Try.prog Try.f3 false true false false) := by
  refine returnsInHanded_of_change (C := Try.checked) own started (by kernel_rfl) Try.func3
    (ChangeSpec.witness6 (enc := enc) (C := Try.checked) false ⟨#[], #[.slice none 0 0, .int .u64 0, .int .i64 0], []⟩ 8 (by kernel_rfl) (by kernel_rfl) (by kernel_rfl) (by kernel_rfl)) ?_
  intro W base args ds gs before hval0 hW hcnd _
  have hval : ∀ (j : Nat) t v, Try.f3.params[j]? = some t → args[j]? = some v → Value.okWide Try.prog W .any base t v := hval0
  have hW' := hW
  obtain ⟨p, q, hA0, hV, rfl, hfz, hnd⟩ := hW
  have hA : DataW.TrodAll enc Try.prog W 0 (fun _ => true) true Try.f3.params.toList args.toList ds p := hA0
  rw [Try.params3] at hA hval
  obtain ⟨v0, vs0, d0, ds0, p0, q0, hargs, rfl, rfl, h0, r0⟩ := trodAll_cons hA
  obtain ⟨v1, vs1, d1, ds1, p1, q1, rfl, rfl, rfl, h1, r1⟩ := trodAll_cons r0
  obtain ⟨v2, vs2, d2, ds2, p2, q2, rfl, rfl, rfl, h2, r2⟩ := trodAll_cons r1
  obtain ⟨rfl, rfl, rfl⟩ := trodAll_nil r2
  obtain rfl : args = #[v0, v1, v2] := by cases args; simp_all
  obtain ⟨rfl, rfl⟩ := trodVars_none hV
  obtain ⟨a0, len0, cap0, rfl⟩ := okWide_slice Try.underlying22 (hval 0 22 v0 rfl rfl)
  have k0 := h0
  have lt0 : ∀ x ∈ p0, x.block < W.heap.size := by obtain ⟨m, hm⟩ := k0; exact DataW.trod_lt m _ _ _ hm
  obtain ⟨z0, w0⟩ : ∃ zs, IsRow .u8 W a0 len0 cap0 zs := by
    obtain ⟨fuel, hf⟩ := h0
    rcases open_ints Try.underlying22 Try.underlying5 (by kernel_rfl) hf with ⟨hcs, _⟩ | ⟨x, l, c, zs, hcs, _, hl, hm, hz, _, hcell, hwz⟩
    · simp [Value.cells] at hcs
      obtain ⟨rfl, rfl, rfl⟩ := hcs
      exact ⟨[], .inl ⟨rfl, rfl, rfl, rfl⟩⟩
    · simp [Value.cells] at hcs
      obtain ⟨rfl, rfl, rfl⟩ := hcs
      exact ⟨zs, .inr ⟨_, rfl, hl, hm, by simpa using hz, hcell, hwz⟩⟩
  obtain ⟨a1, rfl, rfl, rfl, w1⟩ := open_int Try.underlying23 (hval 1 23 v1 rfl rfl) h1
  obtain ⟨a2, rfl, rfl, rfl, w2⟩ := open_int Try.underlying3 (hval 2 3 v2 rfl rfl) h2
  clear hA0 hval0
  refine (walk a0 len0 cap0 z0 a1 a2 W w0 w1 w2).mono fun e W' ⟨he, bel⟩ => ?_
  subst he
  exact ⟨_, rfl, _, _, _, [], _, [], hW', trodAll_mk1 (shut_bool Try.underlying4 _), (trodAll_cons_mk (Below.trod laidOut (by kernel_rfl) (of_decide_eq_true (by kernel_rfl)) k0 bel lt0) (trodAll_cons_mk (shut_int Try.underlying23 w1) (trodAll_cons_mk (shut_int Try.underlying3 w2) trodAll_mk0))), rfl, bel.frame _, fun h => by cases h⟩

theorem over : Rows.bePutsRow.holds Try.pinned (OpenSpec.ofChange Rows.bePutsSpec) :=
  OpenClaim.holds_of_wide 3 Try.f3 rfl rfl rfl rfl rfl rfl rfl ⟨rfl, rfl, rfl, rfl, rfl⟩ rfl rfl rfl rfl rfl (by kernel_rfl) Try.func3 (by kernel_rfl)
    (of_decide_eq_true (by kernel_rfl)) (by unfold Func.isWrapper; first | (rw [if_pos (by decide +kernel)]; kernel_rfl) | (rw [if_neg (by decide +kernel)]; exact ⟨rfl, rfl⟩))
    (fun os started H enc _ => lifted os started H enc)

/-- ████ THE STATEMENT ████ -/
theorem proved : Rows.BePutsSaid := over
end Go.Proofs.Ytecppfdfdabflaa.bePuts
