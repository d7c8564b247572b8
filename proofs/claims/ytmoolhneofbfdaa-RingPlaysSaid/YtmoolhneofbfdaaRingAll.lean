/- All of package ring, and what a loop over it collects. -/
import Derived.Test.YtmoolhneofbfdaaRing
import Derived.Test.YtmoolhneofbfdaaSeq
namespace Go.Proofs.Ytmoolhneofbfdaa.rgc
open Go.RowKit Go.Shelf
open Go.Proofs.Ytmoolhneofbfdaa.kit
set_option linter.unusedVariables false

attribute [local go_sem] Oper.semAt_some

theorem all_in (n : Nat) (p : Option Addr) (w : World) :
    CallsIn Fence.wide n Try.prog 44 #[.pointer p] w fun e w' => e = .returned (.func (.func 48) #[] #[.pointer (some ⟨w.heap.size, 0, none⟩)]) ∧ w' = w.alloc (.cells #[.pointer p] 37) := by
  refine callsIn_of_wp Try.func44 rfl trivial ?_ rfl
  simp only [Try.ntmps44, List.size_toArray, List.length_cons, List.length_nil, Nat.reduceAdd, Nat.reduceSub, Array.replicate_succ, Array.replicate_zero, List.push_toArray, List.append_toArray, List.nil_append, List.cons_append]
  gi_wp2
  go_ret
  exact ⟨rfl, rfl⟩

set_option maxRecDepth 100000 in
set_option maxHeartbeats 1000000 in
theorem all1_in (n : Nat) (hn : 2 ≤ n) (l Bn bx : Nat) (t : TypeId) {B g : Nat} {most : Int} {a : Option Addr} {m cap : Nat} {xs : List Int} (J Jx : List Int → World → Prop) (W : World) (hJ : AbidesFrom W.heap.size J)
    (hY : ∀ pre x W1, J pre W1 → pre.length < xs.length → YieldAt Fence.wide (n - 1) Try.prog l #[.int .i64 x] W1 fun e W' =>
      (e = .returned (.bool true) ∧ J (pre ++ [x]) W' ∧ Kp bx t W1 W') ∨ (e = .returned (.bool false) ∧ Jx (pre ++ [x]) W'))
    (hBn : W.cell? ⟨Bn, 0, none⟩ = some (.pointer (some ⟨g, 0, none⟩))) (hR : Ring W B g most a m cap xs) (hm : m ≤ 4096) (hbx : Boxed W bx t (.slice none 0 0)) (h0 : J [] W) :
    CallsIn Fence.wide n Try.prog 48 #[.func (.yield l) #[] #[], .pointer (some ⟨Bn, 0, none⟩)] W fun e W' => (∃ v, e = .returned v) ∧
      ((∃ ys, ys = xs ∧ J ys W') ∨ (∃ pre, pre <+: xs ∧ Jx pre W')) := by
  have h1n : 1 ≤ n := by omega
  have hrow := hR.row
  have hlen := hR.len
  have hN : Nums .i64 W W.heap.size a m cap xs := ⟨hR.len, hR.le, hR.max, hR.nil, fun hp => by
    obtain ⟨b, off, ha, _, _, hb, hc, _⟩ := hR.cells (by have := hR.le; omega)
    exact ⟨b, off, ha, hb, hb, hc⟩⟩
  have HN := hid hN
  have HLen := hid hlen
  clear hR hN hlen
  refine callsIn_of_wp Try.func48 rfl trivial ?_ rfl
  simp only [Try.ntmps48, List.size_toArray, List.length_cons, List.length_nil, Nat.reduceAdd, Nat.reduceSub, Array.replicate_succ, Array.replicate_zero, List.push_toArray, List.append_toArray, List.nil_append, List.cons_append]
  gi_wp2_with (refine ⟨trivial, ?_⟩; gi_at_call 49; refine (callsIn_wide.2 (cloneI_any _ HN.out (by omega) (Nat.le_refl _))).mono ?_; rintro e Wc ⟨ac, cc, rfl, hoc, hbc⟩)
  have hJc : J [] Wc := hJ _ _ _ none h0 (gb_of_below hbc none) (fun r e => by cases e)
  have hbc2 : Boxed Wc bx t (.slice none 0 0) := hbx.kept (gb_of_below hbc none) (by simp)
  have HC : Hid (0 < m → ∃ c, ac = some ⟨c, 0, none⟩ ∧ W.heap.size ≤ c ∧ (∃ cur, Wc.heap[c]? = some (.cells cur 3 (0, 0))) ∧ ∀ j, j < m → Wc.cell? ⟨c, j, none⟩ = some (.int .i64 (xs.getD j 0))) := by
    intro hp
    rcases hoc.2 with ⟨_, h⟩ | ⟨c, cap', cur, hv, hb1, hb2, _⟩
    · omega
    · injection hv with e1 e2 e3
      refine ⟨c, e1, hb1, ⟨cur, hb2⟩, fun j hj => ?_⟩
      subst e1 e3
      rw [hoc.cellAt j (by omega), List.getElem?_map, List.getD_eq_getElem?_getD, List.getElem?_eq_getElem (by rw [HLen.out]; exact hj)]
      rfl
  have hbxl : Hid (bx < W.heap.size) := hbx.lt
  clear hoc hbx h0 hrow HN
  gi_wp2
  gi_loopw [11] (fun i wr => ∃ k : Nat, k ≤ m ∧ i = .int .i64 k ∧ J (xs.take k) wr ∧ Kp bx t Wc wr) (fun i _ => m - (intOf i).toNat)
  case atStart => exact ⟨0, Nat.zero_le _, rfl, hJc, kp_same (World.grownBy.refl _ _)⟩
  case round =>
    obtain ⟨k, hk, rfl, hJs, hkp⟩ := hrel
    by_cases hlt : k < m
    · obtain ⟨c, rfl, hc1, ⟨cur, hc2⟩, hc3⟩ := HC.out (by omega)
      obtain ⟨_, v', hv', _, hkeep⟩ := hkp _ hbc2
      have hcx : wr.cell? ⟨c, k, none⟩ = some (.int .i64 (xs.getD k 0)) := by
        have e1 := hkeep c _ hc2 rfl (by have := hbxl.out; omega) (by simp [Value.ownBlock])
        rw [← hc3 k hlt]; unfold World.cell?; simp only [e1, hc2]
      obtain ⟨x, hx⟩ : ∃ x, x = xs.getD k 0 := ⟨_, rfl⟩
      rw [← hx] at hcx
      obtain ⟨fn, tmps, assign, body, hy, hRd⟩ := hY (xs.take k) x wr hJs (by rw [List.length_take, HLen.out]; omega)
      have HX := hid hx
      have HKP := hid hkp
      clear hkeep hc3 HC hx hkp hJc hbc2 hc2
      gi_wp2
      refine hRd.mono ?_
      rintro e W3 (⟨rfl, hJ3, hk3⟩ | ⟨rfl, hJx3⟩)
      · have hk4 := kp_t HKP.out hk3
        have HK4 := hid hk4
        clear hk3 hk4
        gi_wp2
        go_roundw
        case rel => exact ⟨k + 1, by omega, by go_num, by rw [take_getD (by rw [HLen.out]; exact hlt), ← HX.out]; exact hJ3, HK4.out⟩
        case measure => simp [intOf]; omega
      · gi_wp2
        refine bodyPost_ret (results_none rfl _ _ _) rfl ?_
        exact ⟨⟨_, rfl⟩, .inr ⟨xs.take (k + 1), List.take_prefix _ _, by rw [take_getD (by rw [HLen.out]; exact hlt), ← HX.out]; exact hJx3⟩⟩
    · obtain rfl : k = m := by omega
      have e1 : xs.take k = xs := List.take_of_length_le (by rw [HLen.out]; omega)
      rw [e1] at hJs
      clear e1
      gi_wp2
      go_end0
      exact ⟨⟨_, rfl⟩, .inl ⟨xs, rfl, hJs⟩⟩

theorem all_stops (n : Nat) (hn : 2 ≤ n) (Bn bx : Nat) (t : TypeId) {B g : Nat} {most : Int} {a : Option Addr} {m cap : Nat} {xs : List Int} (w : World) (hc : w.cell? ⟨Bn, 0, none⟩ = some (.pointer (some ⟨g, 0, none⟩)))
    (hR : Ring w B g most a m cap xs) (hm : m ≤ 4096) (hbx : Boxed w bx t (.slice none 0 0)) :
    SeqStopsK Fence.wide n Try.prog 48 #[.pointer (some ⟨Bn, 0, none⟩)] (fun x : Int => #[Value.int .i64 x]) (Kp bx t) (fun ys => ys = xs) (fun pre => pre <+: xs) xs.length w := fun l J Jx W hW hJ _ hY h0 =>
  all1_in n hn l Bn bx t J Jx W hJ hY (keep_cell hW hc) (hR.below hW) hm (hbx.kept (gb_of_below hW none) (by simp)) h0

theorem seq_nil (w : World) (f : Nat) (lb : Array Value) : (binOp BinOp.eql 73 (.func (.func f) #[] lb) .nilFunc).run Try.prog w = .ok (.bool false) w := by kernel_rfl
set_option maxRecDepth 100000 in
set_option maxHeartbeats 2000000 in
/-- what a loop over a ring collects -/
theorem collect_in (w : World) {B g : Nat} {most : Int} {a : Option Addr} {m cap : Nat} {xs : List Int} (hR : Ring w B g most a m cap xs) (hm : m ≤ 4096) :
    CallsIn Fence.wide 5 Try.prog 25 #[.pointer (some ⟨g, 0, none⟩)] w fun e W' => ∃ v, e = .returned v ∧ W'.ownsRow w.heap.size 3 1 v m (xs.map (Value.int .i64)) ∧ Below w.heap.size w W' := by
  have hlen := hR.len
  have hg := World.block_lt_of_cell? _ _ hR.row
  obtain ⟨i0, hi, hz0, hz1, hz2⟩ := info_parts Try.info_int
  have HR := hid hR
  have HLen := hid hlen
  have heqf := seq_nil
  clear hR hlen
  refine callsIn_of_wp_marks Try.func25 rfl trivial ?_ rfl
  simp only [Try.ntmps25, List.size_toArray, List.length_cons, List.length_nil, Nat.reduceAdd, Nat.reduceSub, Array.replicate_succ, Array.replicate_zero, List.push_toArray, List.append_toArray, List.nil_append, List.cons_append]
  gi_wp2_with (refine ⟨trivial, ?_⟩; gi_at_call 44; refine (all_in _ _ _).mono ?_; rintro e w' ⟨rfl, rfl⟩)
  clear heqf
  have bO := Boxed.new w 39 (.slice none 0 0)
  have bN := Boxed.new (w.alloc (.cells #[.slice none 0 0] 39)) 37 (.pointer (some ⟨g, 0, none⟩))
  rw [World.size_alloc] at bN
  have hB0 : Below w.heap.size w ((w.alloc (.cells #[.slice none 0 0] 39)).alloc (.cells #[.pointer (some ⟨g, 0, none⟩)] 37)) := ((Below.refl _ w).alloc (Nat.le_refl _) _).alloc (by simp) _
  refine wpIn_rangeFunc_ownG rfl (by omega) (gf := 48) (lb := #[.pointer (some ⟨w.heap.size + 1, 0, none⟩)]) rfl trivial (enters_of Try.func48 (by kernel_rfl) rfl)
    (all_stops 4 (by omega) (w.heap.size + 1) w.heap.size 39 _ bN.cell (HR.out.below hB0) hm (bO.alloc _)) kp_t kp_b (Below.refl _ _) (fun _ => rfl)
    (fun (pre : List Int) W => (∃ v, Boxed W w.heap.size 39 v ∧ W.ownsRow w.heap.size 3 1 v pre.length (pre.map (Value.int .i64)) ∧ True) ∧ Below w.heap.size w W)
    (fun _ _ _ => False)
    (OwnFrom.and (Own.from (holdsRow_own w.heap.size w.heap.size 39 3 1 (fun (pre : List Int) => pre.length) (fun (pre : List Int) => pre.map (Value.int .i64)) (fun _ _ => True)) _) (ownFrom_below (Nat.le_refl _) (by simp; omega)))
    (fun _ _ _ _ _ hs _ _ => hs)
    ⟨⟨_, bO.alloc _, World.ownsRow_nil _ _ _ _, trivial⟩, hB0⟩
    (fun x => { tmps := #[.pointer (some ⟨g, 0, none⟩), undef, .slice none 0 0, .pointer (some ⟨w.heap.size, 0, none⟩), .func (.func 48) #[] #[.pointer (some ⟨w.heap.size + 1, 0, none⟩)], .int .i64 x, .pointer (some ⟨g, 0, none⟩), .func (.func 48) #[] #[.pointer (some ⟨w.heap.size + 1, 0, none⟩)], .func (.func 48) #[] #[.pointer (some ⟨w.heap.size + 1, 0, none⟩)], .bool false, .func (.func 48) #[] #[.pointer (some ⟨w.heap.size + 1, 0, none⟩)], .int .i64 x, undef, undef, undef, undef, undef], defers := [] }) ?assign ?body ?done ?stop
  case assign =>
    intro l x W K hK
    gi_wp2
    exact hK
  case body =>
    rintro l pre x W ⟨⟨v, hv, hrow, _⟩, hB⟩ hlt
    have hc := hv.cell
    have hbo : v.ownBlock ≠ some w.heap.size := fun e => hv.not_row (by decide) hrow e.symm
    have hpl : pre.length ≤ 4096 := by have := HLen.out; omega
    gi_wp2_with (gi_at_builtin; refine wpListIn_append_fresh _ rfl _ _ 39 rfl w.heap.size 3 i0 (.int .i64 0) 1 8 Try.underlying39 hi hz0 hz1 hz2 rfl (by decide) _ _ _ rfl (hrow.alloc _) ⟨W.heap.size, 0, none⟩ 1 1 [.int .i64 x] rfl rfl (by decide) (cell_one_new _ _ _) (by simp [Value.oneCell']) (by unfold maxLen; omega) (by omega) (by have := hB.size; simp; omega) ?_; intro v' w1 hown' hgrow hwh; have hkp := kp_append hv hbo hgrow hwh; obtain ⟨g', cap', rfl⟩ := ownsRow_succ hown'; obtain ⟨hv1, hv2, hr2, hk2, hb2⟩ := hv.appended (by decide) hrow hB.size (Nat.le_refl _) hown' hgrow; have hc1 := hv1.cell; have hf1 := hv1.frozen)
    exact ⟨hk2.from _, hkp, ⟨_, hv2, by simpa using hr2, trivial⟩, hB.trans hb2⟩
  case done =>
    rintro D ys W hD rfl ⟨⟨v, hv, hrow, _⟩, hB⟩ hK
    have hc := hv.cell
    gi_wp2
    refine ⟨by simp, .inl ⟨_, _, rfl, run_takeDeferred hK, ?_⟩⟩
    exact ⟨_, results_tmp rfl _ _ _, v, rfl, by rw [← HLen.out]; exact ownsRow_putObj hrow _ hK rfl, hB.trans (belowK_b (w := w) (Nat.le_refl _) W D _ _ (by simp at hD; omega) hK rfl rfl)⟩
  case stop =>
    rintro D c pre W _ _ h _
    exact h.elim
end Go.Proofs.Ytmoolhneofbfdaa.rgc
