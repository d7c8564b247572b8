/- The program's Lines. -/
import Derived.Test.YtnokfpojgmndmaaLinesU
import Derived.Test.YtnokfpojgmndmaaStrs
import Derived.Stop.RegionWithIn
namespace Go.Proofs.Ytnokfpojgmndmaa.lnu
open Go.RowKit Go.Shelf
open Go.Proofs.Ytnokfpojgmndmaa.kit Go.Proofs.Ytnokfpojgmndmaa.spc
set_option linter.unusedVariables false
set_option linter.unusedSimpArgs false
attribute [local go_sem] Oper.semAt_some
theorem lines_in (n : Nat) (s : ByteArray) (w : World) :
    CallsIn Fence.wide n Try.prog 13 #[.string s] w fun e w' => e = .returned (.func (.func 16) #[] #[.pointer (some ⟨w.heap.size, 0, none⟩)]) ∧ w' = w.alloc (.cells #[.string s] 9) := by
  refine callsIn_of_wp Try.func13 rfl trivial ?_ rfl
  simp only [Try.ntmps13, List.size_toArray, List.length_cons, List.length_nil, Nat.reduceAdd, Nat.reduceSub, Array.replicate_succ, Array.replicate_zero, List.push_toArray, List.append_toArray, List.nil_append, List.cons_append]
  gi_wp2
  go_ret
  exact ⟨rfl, rfl⟩
def trim (x : ByteArray) : ByteArray := ⟨(Lib.trimSuffix x.data.toList [10]).toArray⟩
theorem operIn_append_fresh {F : Fence} {n : Nat} {P : Program} (w : World) {o : Oper} {a : Act} {K : Act → World → Prop} {Q : Exit → Act → World → Prop}
    (s x : Operand) (t : TypeId) (hop : o.op = Op.call { callee := Callee.builtin Builtin.append, args := #[s, x], argTypes := #[t, t] })
    (base : Nat) (e : TypeId) (i : TypeInfo) (z : Value) (size bytes : Nat) (h1 : P.underlying t = some (.slice e)) (h2 : P.info? e = some i) (h3 : i.zero = some z) (h4 : i.size = size) (h5 : i.bytes = bytes) (h6 : z.cells.size = size) (h7 : 0 < size)
    (v : Value) (k : Nat) (xs : List Value) (hs : a.eval s = v) (hown : w.ownsRow base e size v k xs) (ad : Addr) (m c : Nat) (news : List Value) (hx : a.eval x = .slice (some ad) m c) (hn : news.length = m * size) (hm : 0 < m)
    (hc : ∀ j u, news[j]? = some u → w.cell? (ad.add j) = some u) (h1c : ∀ u ∈ news, u.oneCell' = true) (b1 : k + m ≤ maxLen) (b2 : (k + m) * bytes ≤ 140737488355328) (b3 : base ≤ w.heap.size)
    (hK : ∀ v' w', w'.ownsRow base e size v' (k + m) (xs ++ news) → w.grownBy w' v.ownBlock → (v'.ownBlock = v.ownBlock ∨ ∃ g, w.heap.size ≤ g ∧ v'.ownBlock = some g) → K (a.put o.dst v') w') :
    Oper.wpIn F n P o a w K Q := by
  obtain ⟨v', w', hrun, r1, r2, r3⟩ := run_append_fresh (P := P) w base t o.type e i z size bytes h1 h2 h3 h4 h5 h6 h7 v k xs hown ad m c news hn hm hc h1c b1 b2 b3
  unfold Oper.wpIn
  refine ⟨?_, ?_⟩
  · simp [Oper.about, hop, resolve, Target.leads, Sem.run_pure]
  · rw [Oper.semAt_plain F _ _ (by rw [hop]; intro c hc'; cases hc')]
    simp [execOp, hop, resolve, invoke, builtin, hs, hx, hrun, Result.andThen]
    exact hK _ _ r1 r2 r3
theorem box_kept {W w1 : World} {B : Nat} {o : Obj} {v v' : Value} (hs : B + 2 ≤ W.heap.size) (hG : v.ownBlock ≠ some (B + 1)) (hg : (W.alloc o).grownBy w1 v.ownBlock) (hw : v'.ownBlock = v.ownBlock ∨ ∃ g, (W.alloc o).heap.size ≤ g ∧ v'.ownBlock = some g) :
    Ks (B + 1) W (w1.setCell ⟨B, 0, none⟩ v') ∧ v'.ownBlock ≠ some (B + 1) := by
  have hz := hg.size
  simp only [World.size_alloc] at hz hw
  refine ⟨?_, ?_⟩
  · refine ((grownBy_setCell' w1 B v').block (B + 1) (by omega) (fun e => by injection e; omega)).trans ?_
    exact (hg.block (B + 1) (by simp; omega) (fun e => hG e.symm)).trans (Below.heap_alloc W o _ (by omega))
  · rcases hw with h | ⟨g, h1, h2⟩
    · rw [h]; exact hG
    · rw [h2]; intro e; injection e; omega
set_option maxRecDepth 100000 in
set_option maxHeartbeats 2000000 in
theorem hexlines_in (s : ByteArray) (hs : s.size ≤ 1000) (w : World) :
    CallsIn Fence.wide 5 Try.prog 7 #[.string s] w fun e W' => ∃ v, e = .returned v ∧ W'.ownsRow w.heap.size 9 1 v (lnU s.data.toList []).length (((bas (lnU s.data.toList [])).map trim).map Value.string) ∧ Below w.heap.size w W' := by
  refine callsIn_of_wp_marks Try.func7 rfl trivial ?_ rfl
  simp only [Try.ntmps7, List.size_toArray, List.length_cons, List.length_nil, Nat.reduceAdd, Nat.reduceSub, Array.replicate_succ, Array.replicate_zero, List.push_toArray, List.append_toArray, List.nil_append, List.cons_append]
  gi_wp2_with (refine ⟨trivial, ?_⟩; gi_at_call 13; refine (lines_in _ _ _).mono ?_; rintro e w' ⟨rfl, rfl⟩)
  have bO := Boxed.new w 23 (.slice none 0 0)
  have bN := Boxed.new (w.alloc (.cells #[.slice none 0 0] 23)) 9 (.string s)
  rw [World.size_alloc] at bN
  obtain ⟨W0, hW0⟩ : ∃ W0, W0 = (w.alloc (.cells #[.slice none 0 0] 23)).alloc (.cells #[.string s] 9) := ⟨_, rfl⟩
  have sW : W0.heap.size = w.heap.size + 2 := by rw [hW0]; simp
  have bO2 : Boxed W0 w.heap.size 23 (.slice none 0 0) := by rw [hW0]; exact bO.alloc _
  have hB0 : Below w.heap.size w W0 := by rw [hW0]; exact ((Below.refl _ w).alloc (Nat.le_refl _) _).alloc (by simp) _
  have hL : Left W0 (w.heap.size + 1) s.data.toList := by rw [hW0]; exact bN
  rw [← hW0]
  clear bN bO hW0
  refine range_kept rfl (by omega) (gf := 16) (lb := #[.pointer (some ⟨w.heap.size + 1, 0, none⟩)]) rfl trivial (enters_of Try.func16 (by kernel_rfl) rfl)
    (encs := fun x : ByteArray => #[.string x]) (Kp := Ks (w.heap.size + 1)) (S := fun xs => xs = bas (lnU s.data.toList [])) (T := fun x => x.size ≤ 1000) (N := 1002) (Bs := w.heap.size + 1) (by omega)
    (fun l J W hW hJ hY h0 => lines1_in 4 (by omega) l _ _ (by have := hs; simpa using this) J W (by have := hW.size; omega) hJ hY (hL.kept (hW.block _ (by omega))) h0)
    (fun h1 h2 => h2.trans h1) (fun W l o o' hl _ _ _ => World.putObj_heap_other (by omega)) (fun _ => rfl)
    (fun (pre : List ByteArray) W => (∃ v, Boxed W w.heap.size 23 v ∧ W.ownsRow w.heap.size 9 1 v pre.length ((pre.map trim).map Value.string) ∧ v.ownBlock ≠ some (w.heap.size + 1)) ∧ Below w.heap.size W0 W)
    (OwnFrom.and (Own.from (holdsRow_own w.heap.size w.heap.size 23 9 1 (fun (pre : List ByteArray) => pre.length) (fun (pre : List ByteArray) => (pre.map trim).map Value.string) (fun _ v => v.ownBlock ≠ some (w.heap.size + 1))) _) (ownFrom_below (by omega) (by omega)))
    ?own ⟨⟨_, bO2, World.ownsRow_nil _ _ _ _, by simp [Value.ownBlock]⟩, Below.refl _ _⟩
    (fun x => { tmps := #[.string s, undef, .slice none 0 0, .pointer (some ⟨w.heap.size, 0, none⟩), .string x, .string s, .func (.func 16) #[] #[.pointer (some ⟨w.heap.size + 1, 0, none⟩)], .string x, undef, undef, undef, undef, undef, undef], defers := [] }) ?assign ?body ?done
  case own =>
    rintro pre A B ⟨⟨v, hv, hrow, hG⟩, hB⟩ hg
    exact ⟨⟨v, hv.kept hg (by simp), hrow.kept hg (.inr hG), hG⟩, hB.grown hg (by have := hB.size; omega) (by rintro k ⟨⟩; omega)⟩
  case assign =>
    intro l x W K hK
    gi_wp2
    exact hK
  case body =>
    rintro l pre x W ⟨⟨v, hv, hrow, hG⟩, hB⟩ hlt hx1
    have hx : x.size ≤ 9223372036854775807 := by omega
    have hc := hv.cell
    have hfr := hv.frozen
    have hca := (hv.alloc (.cells #[.string (trim x)] 9)).cell
    have hvd : Boxed W.drew w.heap.size 23 v := hv
    have hrowd : W.drew.ownsRow w.heap.size 9 1 v pre.length ((pre.map trim).map Value.string) := hrow
    have hWs : w.heap.size + 2 ≤ W.drew.heap.size := by have := hB.size; rw [sW] at this; exact this
    have hWs2 : w.heap.size + 2 ≤ W.heap.size := hWs
    have hBd : Below w.heap.size W0 W.drew := hB.drew
    obtain ⟨i0, hi, hz0, hz1, hz2⟩ := info_parts Try.info_str
    have hT := hid (fun (M : World) => (Try.strings_TrimSuffix x ⟨#[10]⟩ M hx).mono (R' := fun e w' => e = .returned (.string (trim x)) ∧ M = w') (fun e w' ⟨he, hw⟩ => ⟨he, hw.symm⟩))
    gi_wp2
    refine wpIn_region_any (by kernel_rfl) ?_
    change wpAnyIn _ _ _ _ _ _ _ _ _ (World.drew _)
    refine wpAnyIn_ready (rs := [0, 1]) (by kernel_rfl) (by simp) ?_
    refine AllReadyIn.cons rfl (fun K hK => ?_) (AllReadyIn.cons rfl (fun K hK => ?_) AllReadyIn.nil)
    · go_simp
      refine hK _ _ ?_; clear hK K
      refine wpAnyIn_ready (rs := [1]) (by kernel_rfl) (by simp) ?_
      refine AllReadyIn.cons rfl (fun K hK => ?_) AllReadyIn.nil
      go_simp
      refine hK _ _ ?_; clear hK K
      refine wpAnyIn_ready (rs := [2]) (by kernel_rfl) (by simp) ?_
      refine AllReadyIn.cons rfl (fun K hK => ?_) AllReadyIn.nil
      go_simp
      gi_wp2_with (refine ⟨trivial, ?_⟩; gi_at_call 14; refine (callsIn_wide.2 (hT.out _)).mono ?_; rintro e w' ⟨rfl, rfl⟩)
      refine wpAnyIn_ready (rs := [3]) (by kernel_rfl) (by simp) ?_
      refine AllReadyIn.cons rfl (fun K hK => ?_) AllReadyIn.nil
      go_simp
      refine hK _ _ ?_; clear hK K
      refine wpAnyIn_ready (rs := [4]) (by kernel_rfl) (by simp) ?_
      refine AllReadyIn.cons rfl (fun K hK => ?_) AllReadyIn.nil
      rw [if_pos (by kernel_rfl)]
      refine operIn_append_fresh _ _ _ 23 rfl w.heap.size 9 i0 (.string ByteArray.empty) 1 16 Try.underlying23 hi hz0 hz1 hz2 rfl (by decide) _ _ _ rfl (hrowd.alloc _) ⟨W.heap.size, 0, none⟩ 1 1 [.string (trim x)] rfl rfl (by decide) (cell_one_new _ _ _) (by simp [Value.oneCell']) (by unfold maxLen; omega) (by omega) (by simp; omega) ?_
      intro v' w1 hown' hgrow hwh
      refine hK _ _ ?_; clear hK K
      change (W.drew.alloc (.cells #[.string (trim x)] 9)).grownBy w1 v.ownBlock at hgrow
      change v'.ownBlock = v.ownBlock ∨ ∃ g, (W.drew.alloc (.cells #[.string (trim x)] 9)).heap.size ≤ g ∧ v'.ownBlock = some g at hwh
      obtain ⟨hv1, hv2, hr2, hk2, hb2⟩ := hvd.appended (by decide) hrowd (by omega) (Nat.le_refl _) hown' hgrow
      have hKs := box_kept (by omega) hG hgrow hwh
      obtain ⟨g', cap', rfl⟩ := ownsRow_succ hown'
      have hc1 := hv1.cell
      have hf1 := hv1.frozen
      refine wpAnyIn_ready (rs := [5]) (by kernel_rfl) (by simp) ?_
      refine AllReadyIn.cons rfl (fun K hK => ?_) AllReadyIn.nil
      go_simp
      refine hK _ _ ?_; clear hK K
      refine wpAnyIn_done (by kernel_rfl) ?_ _
      exact ⟨⟨hk2.size, fun k o _ hk ho => hk2.same k o hk ho⟩, hKs.1, ⟨_, hv2, by simpa using hr2, hKs.2⟩, hBd.trans hb2⟩
    · go_simp
      refine hK _ _ ?_; clear hK K
      refine wpAnyIn_ready (rs := [0, 2]) (by kernel_rfl) (by simp) ?_
      refine AllReadyIn.cons rfl (fun K hK => ?_) (AllReadyIn.cons rfl (fun K hK => ?_) AllReadyIn.nil)
      · go_simp
        refine hK _ _ ?_; clear hK K
        refine wpAnyIn_ready (rs := [2]) (by kernel_rfl) (by simp) ?_
        refine AllReadyIn.cons rfl (fun K hK => ?_) AllReadyIn.nil
        go_simp
        gi_wp2_with (refine ⟨trivial, ?_⟩; gi_at_call 14; refine (callsIn_wide.2 (hT.out _)).mono ?_; rintro e w' ⟨rfl, rfl⟩)
        refine wpAnyIn_ready (rs := [3]) (by kernel_rfl) (by simp) ?_
        refine AllReadyIn.cons rfl (fun K hK => ?_) AllReadyIn.nil
        go_simp
        refine hK _ _ ?_; clear hK K
        refine wpAnyIn_ready (rs := [4]) (by kernel_rfl) (by simp) ?_
        refine AllReadyIn.cons rfl (fun K hK => ?_) AllReadyIn.nil
        rw [if_pos (by kernel_rfl)]
        refine operIn_append_fresh _ _ _ 23 rfl w.heap.size 9 i0 (.string ByteArray.empty) 1 16 Try.underlying23 hi hz0 hz1 hz2 rfl (by decide) _ _ _ rfl (hrowd.alloc _) ⟨W.heap.size, 0, none⟩ 1 1 [.string (trim x)] rfl rfl (by decide) (cell_one_new _ _ _) (by simp [Value.oneCell']) (by unfold maxLen; omega) (by omega) (by simp; omega) ?_
        intro v' w1 hown' hgrow hwh
        refine hK _ _ ?_; clear hK K
        change (W.drew.alloc (.cells #[.string (trim x)] 9)).grownBy w1 v.ownBlock at hgrow
        change v'.ownBlock = v.ownBlock ∨ ∃ g, (W.drew.alloc (.cells #[.string (trim x)] 9)).heap.size ≤ g ∧ v'.ownBlock = some g at hwh
        obtain ⟨hv1, hv2, hr2, hk2, hb2⟩ := hvd.appended (by decide) hrowd (by omega) (Nat.le_refl _) hown' hgrow
        have hKs := box_kept (by omega) hG hgrow hwh
        obtain ⟨g', cap', rfl⟩ := ownsRow_succ hown'
        have hc1 := hv1.cell
        have hf1 := hv1.frozen
        refine wpAnyIn_ready (rs := [5]) (by kernel_rfl) (by simp) ?_
        refine AllReadyIn.cons rfl (fun K hK => ?_) AllReadyIn.nil
        go_simp
        refine hK _ _ ?_; clear hK K
        refine wpAnyIn_done (by kernel_rfl) ?_ _
        exact ⟨⟨hk2.size, fun k o _ hk ho => hk2.same k o hk ho⟩, hKs.1, ⟨_, hv2, by simpa using hr2, hKs.2⟩, hBd.trans hb2⟩
      · go_simp
        gi_wp2_with (refine ⟨trivial, ?_⟩; gi_at_call 14; refine (callsIn_wide.2 (hT.out _)).mono ?_; rintro e w' ⟨rfl, rfl⟩)
        refine wpAnyIn_ready (rs := [0, 3]) (by kernel_rfl) (by simp) ?_
        refine AllReadyIn.cons rfl (fun K hK => ?_) (AllReadyIn.cons rfl (fun K hK => ?_) AllReadyIn.nil)
        · go_simp
          refine hK _ _ ?_; clear hK K
          refine wpAnyIn_ready (rs := [3]) (by kernel_rfl) (by simp) ?_
          refine AllReadyIn.cons rfl (fun K hK => ?_) AllReadyIn.nil
          go_simp
          refine hK _ _ ?_; clear hK K
          refine wpAnyIn_ready (rs := [4]) (by kernel_rfl) (by simp) ?_
          refine AllReadyIn.cons rfl (fun K hK => ?_) AllReadyIn.nil
          rw [if_pos (by kernel_rfl)]
          refine operIn_append_fresh _ _ _ 23 rfl w.heap.size 9 i0 (.string ByteArray.empty) 1 16 Try.underlying23 hi hz0 hz1 hz2 rfl (by decide) _ _ _ rfl (hrowd.alloc _) ⟨W.heap.size, 0, none⟩ 1 1 [.string (trim x)] rfl rfl (by decide) (cell_one_new _ _ _) (by simp [Value.oneCell']) (by unfold maxLen; omega) (by omega) (by simp; omega) ?_
          intro v' w1 hown' hgrow hwh
          refine hK _ _ ?_; clear hK K
          change (W.drew.alloc (.cells #[.string (trim x)] 9)).grownBy w1 v.ownBlock at hgrow
          change v'.ownBlock = v.ownBlock ∨ ∃ g, (W.drew.alloc (.cells #[.string (trim x)] 9)).heap.size ≤ g ∧ v'.ownBlock = some g at hwh
          obtain ⟨hv1, hv2, hr2, hk2, hb2⟩ := hvd.appended (by decide) hrowd (by omega) (Nat.le_refl _) hown' hgrow
          have hKs := box_kept (by omega) hG hgrow hwh
          obtain ⟨g', cap', rfl⟩ := ownsRow_succ hown'
          have hc1 := hv1.cell
          have hf1 := hv1.frozen
          refine wpAnyIn_ready (rs := [5]) (by kernel_rfl) (by simp) ?_
          refine AllReadyIn.cons rfl (fun K hK => ?_) AllReadyIn.nil
          go_simp
          refine hK _ _ ?_; clear hK K
          refine wpAnyIn_done (by kernel_rfl) ?_ _
          exact ⟨⟨hk2.size, fun k o _ hk ho => hk2.same k o hk ho⟩, hKs.1, ⟨_, hv2, by simpa using hr2, hKs.2⟩, hBd.trans hb2⟩
        · go_simp
          refine hK _ _ ?_; clear hK K
          refine wpAnyIn_ready (rs := [0]) (by kernel_rfl) (by simp) ?_
          refine AllReadyIn.cons rfl (fun K hK => ?_) AllReadyIn.nil
          go_simp
          refine hK _ _ ?_; clear hK K
          refine wpAnyIn_ready (rs := [4]) (by kernel_rfl) (by simp) ?_
          refine AllReadyIn.cons rfl (fun K hK => ?_) AllReadyIn.nil
          rw [if_pos (by kernel_rfl)]
          refine operIn_append_fresh _ _ _ 23 rfl w.heap.size 9 i0 (.string ByteArray.empty) 1 16 Try.underlying23 hi hz0 hz1 hz2 rfl (by decide) _ _ _ rfl (hrowd.alloc _) ⟨W.heap.size, 0, none⟩ 1 1 [.string (trim x)] rfl rfl (by decide) (cell_one_new _ _ _) (by simp [Value.oneCell']) (by unfold maxLen; omega) (by omega) (by simp; omega) ?_
          intro v' w1 hown' hgrow hwh
          refine hK _ _ ?_; clear hK K
          change (W.drew.alloc (.cells #[.string (trim x)] 9)).grownBy w1 v.ownBlock at hgrow
          change v'.ownBlock = v.ownBlock ∨ ∃ g, (W.drew.alloc (.cells #[.string (trim x)] 9)).heap.size ≤ g ∧ v'.ownBlock = some g at hwh
          obtain ⟨hv1, hv2, hr2, hk2, hb2⟩ := hvd.appended (by decide) hrowd (by omega) (Nat.le_refl _) hown' hgrow
          have hKs := box_kept (by omega) hG hgrow hwh
          obtain ⟨g', cap', rfl⟩ := ownsRow_succ hown'
          have hc1 := hv1.cell
          have hf1 := hv1.frozen
          refine wpAnyIn_ready (rs := [5]) (by kernel_rfl) (by simp) ?_
          refine AllReadyIn.cons rfl (fun K hK => ?_) AllReadyIn.nil
          go_simp
          refine hK _ _ ?_; clear hK K
          refine wpAnyIn_done (by kernel_rfl) ?_ _
          exact ⟨⟨hk2.size, fun k o _ hk ho => hk2.same k o hk ho⟩, hKs.1, ⟨_, hv2, by simpa using hr2, hKs.2⟩, hBd.trans hb2⟩
  case done =>
    rintro D ys W hD rfl ⟨⟨v, hv, hrow, _⟩, hB⟩ hK
    have hc := hv.cell
    gi_wp2
    refine ⟨by simp, .inl ⟨_, _, rfl, run_takeDeferred hK, ?_⟩⟩
    have hl : (bas (lnU s.data.toList [])).length = (lnU s.data.toList []).length := by simp [bas]
    exact ⟨_, results_tmp rfl _ _ _, v, rfl, by rw [← hl]; exact ownsRow_putObj hrow _ hK rfl, hB0.trans (hB.trans (belowK_b (w := w) (Nat.le_refl _) W D _ _ (by omega) hK rfl rfl))⟩
end Go.Proofs.Ytnokfpojgmndmaa.lnu
