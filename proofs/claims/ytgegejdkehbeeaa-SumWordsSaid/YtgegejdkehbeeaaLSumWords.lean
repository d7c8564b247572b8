/- catwalklaw05.SumWords answers true at every input, and leaves its arguments as they were. No condition. -/
import Derived.Test.YtgegejdkehbeeaaRows
import Derived.WalkKit
import Derived.ProofKit
import Derived.OpenShut
import Derived.ShutString
import Derived.ChangeOld
import Derived.Below
import Derived.Test.YtgegejdkehbeeaaSumWord
import Derived.Test.YtgegejdkehbeeaaSt
import Derived.Test.YtgegejdkehbeeaaRegion
import Derived.Test.YtgegejdkehbeeaaOpen
import Derived.Deep.DeepCutAuto
import Derived.StillTailTactics
namespace Go.Proofs.Ytgegejdkehbeeaa.sumWords
open Go.ChangeShapes Go.WideShapes Go.ChangeAt Go.RowKit
open Go.ChangeMaps (open_string shut_string)
set_option linter.unusedVariables false

theorem own : ownKnob Try.prog.godebug = none := by kernel_rfl
theorem laidOut : laidOutB Try.prog = true := by kernel_rfl

/-- WHAT THE WALK IS TOLD OF A SLICE OF INTEGERS THAT CAME IN: it is nil; or it leads to a row of 'cap' cells, the numbers 'zs' (the first 'len' are its elements, the rest its spare room), each fitting its kind. -/
def IsRow (k : IntKind) (w : World) (a : Option Addr) (len cap : Nat) (zs : List Int) : Prop :=
  (a = none ∧ len = 0 ∧ cap = 0 ∧ zs = []) ∨
  ∃ x, a = some x ∧ len ≤ cap ∧ cap ≤ maxLen ∧ zs.length = cap ∧ (∀ i, i < zs.length → w.cell? (x.add i) = some (.int k (zs.getD i 0))) ∧ ∀ n ∈ zs, (Lit.int k n).wf = true

open Go.Proofs.Ytgegejdkehbeeaa.kit Go.Proofs.Ytgegejdkehbeeaa.sm Go.Proofs.Ytgegejdkehbeeaa.sc
def wb (l : List Int) : Nat → List Int
  | 0 => []
  | k + 1 => wb l k ++ [l.getD k 0 / 256, l.getD k 0 % 256]
theorem wb_len (l : List Int) (k : Nat) : (wb l k).length = 2 * k := by
  induction k with
  | zero => rfl
  | succ k ih => simp only [wb, List.length_append, ih, List.length_cons, List.length_nil]; omega
theorem wb_oct (l : List Int) (h : ∀ n ∈ l, 0 ≤ n ∧ n ≤ 65535) (k : Nat) (hk : k ≤ l.length) : Oct (wb l k) := by
  induction k with
  | zero => exact oct_nil
  | succ k ih =>
    intro y hy
    simp only [wb, List.mem_append, List.mem_cons, List.not_mem_nil, or_false] at hy
    have hx : 0 ≤ l.getD k 0 ∧ l.getD k 0 ≤ 65535 := by
      rw [List.getD_eq_getElem?_getD, List.getElem?_eq_getElem (by omega)]; exact h _ (List.getElem_mem _)
    rcases hy with hy | rfl | rfl
    · exact ih (by omega) y hy
    · omega
    · omega
theorem wb_sum (l : List Int) (k : Nat) (h : 0 ≤ l.getD k 0) : sumOf (wb l (k + 1)) = sumOf (wb l k) + (l.getD k 0).toNat := by
  unfold sumOf
  rw [wb_len, wb_len]
  have e := tot_add (wb l (k + 1)) 0 (2 * k) 2
  rw [show 2 * (k + 1) = 2 * k + 2 by omega, e]
  congr 1
  · apply tot_congr; intro i hi
    simp only [wb, List.getD_eq_getElem?_getD]
    rw [List.getElem?_append_left (by rw [wb_len]; exact hi)]
  · have : (wb l (k + 1)).drop (2 * k) = [l.getD k 0 / 256, l.getD k 0 % 256] := by
      simp only [wb]
      rw [List.drop_append_of_le_length (by rw [wb_len]; omega), List.drop_of_length_le (by rw [wb_len]; omega)]; rfl
    rw [this]
    show 0 + bit (0 + 2 * k + 0) (l.getD k 0 / 256) + bit (0 + 2 * k + 1) (l.getD k 0 % 256) = _
    unfold bit
    rw [if_neg (by omega), if_pos (by omega)]; omega
structure SAt (w wr : World) (F : Nat) : Prop where
  below : Below w.heap.size w wr
  lt : w.heap.size < wr.heap.size
  c0 : wr.cell? ⟨w.heap.size, 0, none⟩ = some (.int .u32 (F : Nat))
  c1 : wr.cell? ⟨w.heap.size, 1, none⟩ = some (.bool false)
  f0 : ∀ i, wr.frozen? ⟨w.heap.size, i, none⟩ = false
theorem SAt.drew {w wr : World} {F : Nat} (h : SAt w wr F) : SAt w wr.drew F := ⟨h.below.drew, h.lt, h.c0, h.c1, h.f0⟩
theorem SAt.next {w wr wa : World} {F : Nat} (h : SAt w wr F) (hb : Below wr.heap.size wr wa) : SAt w wa F :=
  ⟨h.below.trans (hb.mono h.below.size), Nat.lt_of_lt_of_le h.lt hb.size, (hb.cell (p := ⟨w.heap.size, 0, none⟩) h.lt).trans h.c0, (hb.cell (p := ⟨w.heap.size, 1, none⟩) h.lt).trans h.c1, fun i => (hb.frozen (p := ⟨w.heap.size, i, none⟩) h.lt).trans (h.f0 i)⟩
theorem SAt.alloc {w wr : World} {F : Nat} (h : SAt w wr F) (o : Obj) : SAt w (wr.alloc o) F := h.next ((Below.refl _ _).alloc (Nat.le_refl _) _)
theorem SAt.put {w wr : World} {F : Nat} (h : SAt w wr F) (G : Nat) : SAt w ((wr.setCell ⟨w.heap.size, 0, none⟩ (.int .u32 (G : Nat))).setCell ⟨w.heap.size, 1, none⟩ (.bool false)) G :=
  ⟨(h.below.setCell (Nat.le_refl _) _).setCell (Nat.le_refl _) _, by simpa [World.setCell] using h.lt, cell_other (cell_same h.c0) (by decide), cell_same (cell_other h.c1 (by decide)), fun i => frozen_set (frozen_set (h.f0 i))⟩
theorem SAt.grown {w wr wa : World} {F : Nat} {v : Value} (h : SAt w wr F) (hg : wr.grownBy wa v.ownBlock) (ho : ∀ k, v.ownBlock = some k → w.heap.size + 1 ≤ k) : SAt w wa F := by
  have hne : v.ownBlock ≠ some w.heap.size := fun e => by have := ho _ e; omega
  have hb := World.frozen?_of_block (w := wr) (w' := wa) (a := ⟨w.heap.size, 0, none⟩) (hg.block _ h.lt (fun e => hne e.symm))
  exact ⟨h.below.grown hg h.below.size (fun k hk => by have := ho k hk; omega), Nat.lt_of_lt_of_le h.lt hg.size, hg.cell h.c0 (fun e => hne e.symm), hg.cell h.c1 (fun e => hne e.symm), fun i => (World.frozen?_of_block (w := wr) (hg.block _ h.lt (fun e => hne e.symm))).trans (h.f0 i)⟩
theorem word_is (F x G : Nat) (v : Value) (hv : v = sv F false) (hG : fd (F + x) = G) (hF : F ≤ 65535) (hx : x ≤ 65535) (w : World) :
    Calls Try.prog 20 #[v, .int .u16 x] w fun e w' => e = .returned (.agg #[.int .u32 (G : Nat), .bool false]) ∧ Below w.heap.size w w' := by
  subst hv hG; exact word_any F x hF hx w
theorem row_put {w wr wa : World} {v : Value} {n : Nat} {xs : List Value} {x y : Value} (h : wr.ownsRow (w.heap.size + 1) 5 1 v n xs) (hb : Below wr.heap.size wr wa) :
    ((wa.setCell ⟨w.heap.size, 0, none⟩ x).setCell ⟨w.heap.size, 1, none⟩ y).ownsRow (w.heap.size + 1) 5 1 v n xs := by
  have h1 := h.kept (gb_of_below hb none) (Classical.em _)
  refine h1.kept (gb_setCell (g := w.heap.size) (gb_setCell (g := w.heap.size) (World.grownBy.refl _ (some w.heap.size)) rfl x) rfl y) (.inr fun e => ?_)
  have := (h1.lt _ e).1
  omega
theorem value_is (F : Nat) (v : Value) (x : Nat) (hv : v = sv F false) (hx : 65535 - F = x) (hF : F ≤ 65535) (w : World) :
    Calls Try.prog 15 #[v] w fun e w' => e = .returned (.int .u16 x) ∧ Below w.heap.size w w' := by rw [← hx, hv]; exact value_any F _ hF w
theorem ref_is {B n cap : Nat} {a : Option Addr} {l : List Int} (w : World) (h : Nums .u8 w B a n cap l) (hO : Oct l) (hn : n ≤ 2000) (hB : B ≤ w.heap.size) (x : Nat) (hx : chk l = x) :
    Calls Try.prog 16 #[.slice a n cap] w fun e w' => e = .returned (.int .i64 x) ∧ Below w.heap.size w w' := by rw [← hx]; exact ref_of w h hO hn hB
theorem hi_val (x : Nat) (h : x ≤ 65535) : IntKind.u8.wrap (IntKind.u16.wrap ((x : Int) / 256)) = (x : Int) / 256 := by rw [IntKind.wrap_u16, IntKind.wrap_u8']; omega
theorem lo_val (x : Nat) (h : x ≤ 65535) : IntKind.u8.wrap ((x : Int).tmod 256) = (x : Int) % 256 := by rw [Int.tmod_eq_emod_of_nonneg (by omega), IntKind.wrap_u8']; omega

/-! ### STEP 1: THE WALK: the Go text returns true, AND WRITES NOTHING THAT WAS THERE: 'Below w.heap.size w w'' (Derived/Below.lean: '.refl', '.alloc', '.drew', '.setCell' at a new block, '.trans'). Open each 'IsRow' by 'rcases' AHEAD of 'go_enter'; part every test ahead of the walk. -/
set_option maxHeartbeats 1000000 in
theorem walk (a0 : Option Addr) (len0 cap0 : Nat) (z0 : List Int) (w : World) (w0 : IsRow .u16 w a0 len0 cap0 z0) :
    Calls Try.prog 5 #[.slice a0 len0 cap0] w fun e w' => e = .returned (.bool true) ∧ Below w.heap.size w w' := by
  obtain ⟨l, hN, hwf⟩ := row_nums w0
  have hO : ∀ n ∈ l, 0 ≤ n ∧ n ≤ 65535 := fun x hx => wf_u16 (hwf x hx)
  clear w0 hwf
  have hle := hN.le
  have hmx := hN.max
  unfold maxLen at hmx
  by_cases hbig : 500 < len0
  · clear hN hO
    go_enter Try.func5, Try.ntmps5
    go_wp2
    go_ret
    exact ⟨rfl, Below.refl _ _⟩
  · have HN := hid hN
    have HO := hid hO
    have HL := hid hN.len
    clear hN hO
    go_enter Try.func5, Try.ntmps5
    obtain ⟨i0, hi, hi0, hi1, hi2⟩ := info_parts Try.info_u8
    go_wp2
    have S0 : SAt w (w.alloc (.cells #[.int .u32 0, .bool false] 31)) (fd (sumOf (wb l 0))) := ⟨(Below.refl _ _).alloc (Nat.le_refl _) _, by simp, by simp [go_sem]; rfl, by simp [go_sem], by simp [go_sem]⟩
    go_loopw [4, 5] (fun bv iv wr => ∃ k t : Nat, k ≤ len0 ∧ t = 2 * k ∧ iv = .int .i64 k ∧ Hid (wr.ownsRow (w.heap.size + 1) 5 1 bv t ((wb l k).map (Value.int .u8))) ∧ Hid (SAt w wr (fd (sumOf (wb l k))))) (fun _ iv _ => len0 - (intOf iv).toNat)
    case atStart => exact ⟨0, 0, Nat.zero_le _, rfl, rfl, hid (World.ownsRow_nil _ _ _ _), hid S0⟩
    case round =>
      clear S0
      obtain ⟨k, t, hk, ht, rfl, HR, HS⟩ := hrel
      by_cases hlt : k < len0
      · have HT := hid ht
        have htb : t ≤ 1000 := by omega
        clear ht
        obtain ⟨b, off, ha, _, hb1, hc⟩ := HN.out.cells (by omega)
        have hcx := hc k hlt
        have hx : 0 ≤ l.getD k 0 ∧ l.getD k 0 ≤ 65535 := by
          rw [List.getD_eq_getElem?_getD, List.getElem?_eq_getElem (by rw [HL.out]; exact hlt)]; exact HO.out _ (List.getElem_mem _)
        have HW := hid (wb_sum l k hx.1)
        have HWB := hid (show wb l (k + 1) = wb l k ++ [l.getD k 0 / 256, l.getD k 0 % 256] from rfl)
        clear hc
        subst ha
        obtain ⟨x, hx0⟩ : ∃ x : Nat, l.getD k 0 = x := ⟨(l.getD k 0).toNat, by omega⟩
        rw [hx0] at hcx hx HW HWB
        have HCX := hid (fun (W : World) (hb : Below w.heap.size w W) => (hb.cell (p := ⟨b, off + k, none⟩) hb1).trans hcx)
        clear hx0 hcx
        obtain ⟨F, hF⟩ : ∃ F, F = fd (sumOf (wb l k)) := ⟨_, rfl⟩
        have hF1 : F ≤ 65535 := by rw [hF]; exact fd_le _
        have HF := hid (show fd (F + x) = fd (sumOf (wb l (k + 1))) by rw [hF, fd_add, HW.out]; rfl)
        rw [← hF] at HS
        clear hF HW
        have h0 := HS.out.c0
        have h1 := HS.out.c1
        have hI : (k : Int) < len0 := by omega
        have hcx := HCX.out wr HS.out.below
        go_upto_region 8 with fail
        go_still_tail 5, (by kernel_rfl)
        change wpList _ _ _ _ _ wr.drew
        have HS := hid HS.out.drew
        have HR := hid HR.out.drew
        have hsv : Value.agg #[.int .u32 (F : Nat), .bool false] = sv F false := rfl
        have HV := hid hsv
        clear h0 h1 hsv hcx
        generalize wr.drew = wd at *
        obtain ⟨G, hG⟩ : ∃ G, G = fd (sumOf (wb l (k + 1))) := ⟨_, rfl⟩
        rw [← hG] at HF
        have HG := hid hG
        clear hG
        go_wp2_with (go_at_call 20; (with_reducible refine (word_is F x G _ HV.out HF.out hF1 (by omega) _).mono ?_); rintro e wa ⟨rfl, ba⟩; have HA := hid (HS.out.next ba); have k0 := HA.out.c0; have k1 := HA.out.c1; have k2 := HA.out.f0)
        have HS4 := hid (HA.out.put G)
        have HR4 := hid (row_put (x := .int .u32 (G : Nat)) (y := .bool false) HR.out ba)
        clear k0 k1 k2 HA ba HS HR
        generalize (wa.setCell ⟨w.heap.size, 0, none⟩ (.int .u32 (G : Nat))).setCell ⟨w.heap.size, 1, none⟩ (.bool false) = w4 at *
        have hcx := HCX.out w4 HS4.out.below
        have hz4 := HS4.out.lt
        go_region_law (refine step_append_nums rfl (.tmp 22) (.tmp 35) 27 rfl (w.heap.size + 1) 5 i0 (.int .u8 0) 1 Try.underlying27 hi hi0 hi1 hi2 rfl _ t _ rfl (HR4.out.alloc _).drew _ 2 2 _ _ rfl nums_two.drew (by unfold maxLen; omega) (by omega) (by simp; omega) ?_; intro v1 w6 g1 g2)
        all_goals
          have HR6 := hid g1
          have HS6 := hid (SAt.grown (HS4.out.alloc _).drew g2 (fun j hj => (HR4.out.lt j hj).1))
          clear g1 g2
          go_wp2_with fail
          go_roundw
          case rel => exact ⟨k + 1, t + 2, by omega, by have := HT.out; omega, by go_num, hid (by have := HR6.out; rw [hi_val x (by omega), lo_val x (by omega)] at this; rw [HWB.out]; exact this), by rw [← HG.out]; exact HS6⟩
          case measure => simp [intOf]; omega
      · obtain rfl : k = len0 := by omega
        subst ht
        have hOct := hid (wb_oct l HO.out k (by rw [HL.out]; omega))
        obtain ⟨c, hc⟩ : ∃ c, chk (wb l k) = c := ⟨_, rfl⟩
        have hc1 : c ≤ 65535 := by rw [← hc]; exact chk_le _
        have HC := hid hc
        have HC2 := hid (show 65535 - fd (sumOf (wb l k)) = c from hc)
        obtain ⟨F, hF⟩ : ∃ F, F = fd (sumOf (wb l k)) := ⟨_, rfl⟩
        have hF1 : F ≤ 65535 := by rw [hF]; exact fd_le _
        rw [← hF] at HS HC2
        clear hc hF
        have h0 := HS.out.c0
        have h1 := HS.out.c1
        obtain ⟨a', c', rfl⟩ := own_slice HR.out
        have hsv : Value.agg #[.int .u32 (F : Nat), .bool false] = sv F false := rfl
        have HV := hid hsv
        clear hsv
        go_wp2_with (first | (go_at_call 15; go_loud (with_reducible refine (value_is F _ c HV.out HC2.out hF1 _).mono ?_); rintro e wa ⟨rfl, ba⟩) | (go_at_call 16; go_loud (with_reducible refine (ref_is _ ((own_nums HR.out).below ba) hOct.out (by omega) ba.size c HC.out).mono ?_); rintro e wb ⟨rfl, bb⟩) | (go_at_call 19; go_loud (with_reducible refine (alive_any _).mono ?_); rintro e wc ⟨rfl, bc⟩))
        go_ret
        have B1 := HS.out.below.trans (ba.mono HS.out.below.size)
        have B2 := B1.trans (bb.mono B1.size)
        exact ⟨rfl, B2.trans (bc.mono B2.size)⟩

/-! ### THE ROW's STEP: WRITTEN OUT: LEAVE IT -/
set_option maxRecDepth 100000 in
theorem lifted (os : Os) (started : os.Started) (H : Type) (enc : TypeId × Value → H) :
    ReturnsInHanded {} Try.checked os 5 .any (Rows.sumWordsSpec.pre6 enc Try.prog Try.f5 Rows.sumWordsRow.domain false) (Rows.sumWordsSpec.post enc Try.prog Try.f5 false true false false) := by
  refine returnsInHanded_of_change (C := Try.checked) own started (by kernel_rfl) Try.func5
    (ChangeSpec.witness6 (enc := enc) (C := Try.checked) false ⟨#[], #[.slice none 0 0], []⟩ 8 (by kernel_rfl) (by kernel_rfl) (by kernel_rfl) (by kernel_rfl)) ?_
  intro W base args ds gs before hval0 hW hcnd _
  have hval : ∀ (j : Nat) t v, Try.f5.params[j]? = some t → args[j]? = some v → Value.okWide Try.prog W .any base t v := hval0
  have hW' := hW
  obtain ⟨p, q, hA0, hV, rfl, hfz, hnd⟩ := hW
  have hA : DataW.TrodAll enc Try.prog W 0 (fun _ => true) true Try.f5.params.toList args.toList ds p := hA0
  rw [Try.params5] at hA hval
  obtain ⟨v0, vs0, d0, ds0, p0, q0, hargs, rfl, rfl, h0, r0⟩ := trodAll_cons hA
  obtain ⟨rfl, rfl, rfl⟩ := trodAll_nil r0
  obtain rfl : args = #[v0] := by cases args; simp_all
  obtain ⟨rfl, rfl⟩ := trodVars_none hV
  obtain ⟨a0, len0, cap0, rfl⟩ := okWide_slice Try.underlying38 (hval 0 38 v0 rfl rfl)
  have k0 := h0
  have lt0 : ∀ x ∈ p0, x.block < W.heap.size := by obtain ⟨m, hm⟩ := k0; exact DataW.trod_lt m _ _ _ hm
  obtain ⟨z0, w0⟩ : ∃ zs, IsRow .u16 W a0 len0 cap0 zs := by
    obtain ⟨fuel, hf⟩ := h0
    rcases open_ints Try.underlying38 Try.underlying28 (by kernel_rfl) hf with ⟨hcs, _⟩ | ⟨x, l, c, zs, hcs, _, hl, hm, hz, _, hcell, hwz⟩
    · simp [Value.cells] at hcs
      obtain ⟨rfl, rfl, rfl⟩ := hcs
      exact ⟨[], .inl ⟨rfl, rfl, rfl, rfl⟩⟩
    · simp [Value.cells] at hcs
      obtain ⟨rfl, rfl, rfl⟩ := hcs
      exact ⟨zs, .inr ⟨_, rfl, hl, hm, by simpa using hz, hcell, hwz⟩⟩
  clear hA0 hval0
  refine (walk a0 len0 cap0 z0 W w0).mono fun e W' ⟨he, bel⟩ => ?_
  subst he
  exact ⟨_, rfl, _, _, _, [], _, [], hW', trodAll_mk1 (shut_bool Try.underlying4 _), (trodAll_cons_mk (Below.trod laidOut (by kernel_rfl) (of_decide_eq_true (by kernel_rfl)) k0 bel lt0) trodAll_mk0), rfl, bel.frame _, fun h => by cases h⟩

theorem over : Rows.sumWordsRow.holds Try.pinned (OpenSpec.ofChange Rows.sumWordsSpec) :=
  OpenClaim.holds_of_wide 5 Try.f5 rfl rfl rfl rfl rfl rfl rfl ⟨rfl, rfl, rfl, rfl, rfl⟩ rfl rfl rfl rfl rfl (by kernel_rfl) Try.func5 (by kernel_rfl)
    (of_decide_eq_true (by kernel_rfl)) (by unfold Func.isWrapper; first | (rw [if_pos (by decide +kernel)]; kernel_rfl) | (rw [if_neg (by decide +kernel)]; exact ⟨rfl, rfl⟩))
    (fun os started H enc _ => lifted os started H enc)

/-- ████ THE STATEMENT ████ -/
theorem proved : Rows.SumWordsSaid := over
end Go.Proofs.Ytgegejdkehbeeaa.sumWords
