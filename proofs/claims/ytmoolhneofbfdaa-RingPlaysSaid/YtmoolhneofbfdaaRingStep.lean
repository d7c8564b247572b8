/- One call of both, the ring and the law's own row. -/
import Derived.Test.YtmoolhneofbfdaaRingAll
import Derived.Test.YtmoolhneofbfdaaRegion
namespace Go.Proofs.Ytmoolhneofbfdaa.rgc
open Go.RowKit
open Go.Proofs.Ytmoolhneofbfdaa.kit
set_option linter.unusedVariables false
set_option linter.unusedSimpArgs false

theorem collect_any (w : World) {B g : Nat} {most : Int} {a : Option Addr} {m cap : Nat} {xs : List Int} (hR : Ring w B g most a m cap xs) (hm : m ≤ 4096) :
    Calls Try.prog 25 #[.pointer (some ⟨g, 0, none⟩)] w fun e W' => ∃ v, e = .returned v ∧ W'.ownsRow w.heap.size 3 1 v m (xs.map (Value.int .i64)) ∧ Below w.heap.size w W' :=
  callsIn_wide.1 (collect_in w hR hm)

/-- the ring and the row read alike, and lie apart -/
structure Both (w0 w : World) (g : Nat) (most : Int) (a : Option Addr) (n cap : Nat) (ad : Option Addr) (cd : Nat) (xs : List Int) : Prop where
  ring : Ring w w0.heap.size g most a n cap xs
  below : Below w0.heap.size w0 w
  row : Nums .i64 w w.heap.size ad n cd xs
  apart : 0 < n → ∀ bd, blk ad = some bd → bd ≠ g ∧ blk a ≠ some bd
theorem Both.size {w0 w : World} {g : Nat} {most : Int} {a : Option Addr} {n cap : Nat} {ad : Option Addr} {cd : Nat} {xs : List Int} (h : Both w0 w g most a n cap ad cd xs) : w0.heap.size ≤ w.heap.size := h.below.size
theorem Both.next {w0 w w' : World} {g : Nat} {most : Int} {a : Option Addr} {n cap : Nat} {ad : Option Addr} {cd : Nat} {xs : List Int} (h : Both w0 w g most a n cap ad cd xs) (hb : Below w.heap.size w w') : Both w0 w' g most a n cap ad cd xs :=
  ⟨h.ring.below hb, h.below.trans (hb.mono h.size), (h.row.below hb).mono hb.size, h.apart⟩
theorem nums_fr {w w' : World} {g : Nat} {a ad : Option Addr} {n cd : Nat} {xs : List Int} (h : Nums .i64 w w.heap.size ad n cd xs) (hf : Fr w w' g a) (hs : 0 < n → ∀ bd, blk ad = some bd → bd ≠ g ∧ blk a ≠ some bd) : Nums .i64 w' w'.heap.size ad n cd xs :=
  ⟨h.len, h.le, h.max, h.nil, fun hp => by
    obtain ⟨b, off, ha, h1, h2, hc⟩ := h.cells hp
    have := hs hp b (by rw [ha]; rfl)
    refine ⟨b, off, ha, Nat.lt_of_lt_of_le h2 hf.size, Nat.lt_of_lt_of_le h2 hf.size, fun j hj => ?_⟩
    rw [← hc j hj]; unfold World.cell?; rw [hf.block b h2 this.1 this.2]⟩
theorem fr_below {w0 w w' : World} {g : Nat} {most : Int} {a : Option Addr} {n cap : Nat} {l : List Int} (h : Ring w w0.heap.size g most a n cap l) (hb : Below w0.heap.size w0 w) (hf : Fr w w' g a) : Below w0.heap.size w0 w' :=
  hf.below hb h.own (fun b hlb => (h.lo b hlb).1) hb.size
/-- the ring has turned, and the row is another one that lies in what was there, or in a new block -/
theorem Both.turned {w0 w w' : World} {g : Nat} {most : Int} {a : Option Addr} {n cap : Nat} {ad : Option Addr} {cd : Nat} {xs : List Int} (h : Both w0 w g most a n cap ad cd xs) {n' : Nat} {xs' : List Int} (hp : PushPost w0.heap.size g most a n' xs' w w')
    {ad' : Option Addr} {cd' : Nat} (hr : Nums .i64 w w.heap.size ad' n' cd' xs') (hs : 0 < n' → ∀ bd, blk ad' = some bd → bd ≠ g ∧ blk a ≠ some bd) : ∃ a' cap', Both w0 w' g most a' n' cap' ad' cd' xs' := by
  obtain ⟨a', cap', h1, h2, h3⟩ := hp
  refine ⟨a', cap', h1, fr_below h.ring h.below h2, nums_fr hr h2 hs, fun hn bd hbd => ⟨(hs hn bd hbd).1, ?_⟩⟩
  rcases h3 with h3 | ⟨b, hb, h3⟩
  · rw [h3]; exact (hs hn bd hbd).2
  · rw [h3]
    obtain ⟨b2, off, ha, _, hl, _⟩ := hr.cells hn
    intro e
    have e1 := Option.some.inj e
    rw [ha] at hbd
    have e2 : b2 = bd := by simpa [blk] using hbd
    omega
def StepPost (w0 : World) (g : Nat) (most : Int) (k : Nat) (e : Ending) (w' : World) : Prop :=
  ∃ a n cap ad cd xs, e = .returned (.tuple #[.slice ad n cd, .bool true]) ∧ n ≤ k ∧ (n : Int) ≤ most ∧ Both w0 w' g most a n cap ad cd xs

theorem step_clear {w0 w : World} {g : Nat} {most : Int} {a : Option Addr} {n cap : Nat} {ad : Option Addr} {cd : Nat} {xs : List Int} (h : Both w0 w g most a n cap ad cd xs) (hm0 : 0 ≤ most) (kd x : Int) (h0 : 0 ≤ kd) (hk : kd % 7 = 6) :
    Calls Try.prog 21 #[.pointer (some ⟨g, 0, none⟩), .slice ad n cd, .agg #[.int .i64 kd, .int .i64 x], .int .i64 most] w (StepPost w0 g most (n + 1)) := by
  have HB := hid (fun o => h.next ((Below.refl w.heap.size w).alloc (Nat.le_refl _) o))
  clear h
  go_enter Try.func21, Try.ntmps21
  go_wp2_with (go_at_call 42; refine (clear_any _ (HB.out _).ring).mono ?_; rintro e w1 ⟨rfl, hR, hF⟩)
  go_ret2
  exact ⟨none, 0, 0, none, 0, [], rfl, by omega, hm0, hR, fr_below (HB.out _).ring (HB.out _).below hF, Nums.empty (Nat.zero_le _) (fun _ => rfl), fun h => absurd h (by omega)⟩

theorem step_full {w0 w : World} {g : Nat} {most : Int} {a : Option Addr} {n cap : Nat} {ad : Option Addr} {cd : Nat} {xs : List Int} (h : Both w0 w g most a n cap ad cd xs) (hm1 : most ≤ 4096) (hn : (n : Int) = most) (kd x : Int) (h0 : 0 ≤ kd) (hk : kd % 7 < 3) :
    Calls Try.prog 21 #[.pointer (some ⟨g, 0, none⟩), .slice ad n cd, .agg #[.int .i64 kd, .int .i64 x], .int .i64 most] w (StepPost w0 g most (n + 1)) := by
  have HB := hid (fun o => h.next ((Below.refl w.heap.size w).alloc (Nat.le_refl _) o))
  have hge : most ≤ n := by omega
  have hkc : kd % 7 = 0 ∨ kd % 7 = 1 ∨ kd % 7 = 2 := by omega
  have HN := hid hn
  clear h hn hk
  rcases hkc with hk | hk | hk
  all_goals
    go_enter Try.func21, Try.ntmps21
    go_wp2_with (go_at_call 43; refine (push_full _ (HB.out _).ring HN.out hm1 _).mono ?_; rintro e w1 ⟨rfl, m, rfl⟩)
    go_ret2
    exact ⟨a, n, cap, ad, cd, xs, rfl, by omega, by have := HN.out; omega, (HB.out _).next (below_drewN (Below.refl _ _) m)⟩

theorem step_get_no {w0 w : World} {g : Nat} {most : Int} {a : Option Addr} {n cap : Nat} {ad : Option Addr} {cd : Nat} {xs : List Int} (h : Both w0 w g most a n cap ad cd xs) (hn : (n : Int) ≤ most) (kd x : Int) (h0 : 0 ≤ kd) (hk : kd % 7 = 5) (hx : x < 0 ∨ (n : Int) ≤ x) :
    Calls Try.prog 21 #[.pointer (some ⟨g, 0, none⟩), .slice ad n cd, .agg #[.int .i64 kd, .int .i64 x], .int .i64 most] w (StepPost w0 g most (n + 1)) := by
  have HB := hid (fun o => h.next ((Below.refl w.heap.size w).alloc (Nat.le_refl _) o))
  have HX := hid hx
  clear h
  by_cases hx0 : x < 0
  · clear hx
    go_enter Try.func21, Try.ntmps21
    go_wp2_with (go_at_call 41; refine (get_no _ (HB.out _).ring _ HX.out).mono ?_; rintro e w1 ⟨rfl, hb⟩; have hbc := bcell hb)
    go_ret2
    exact ⟨a, n, cap, ad, cd, xs, rfl, by omega, hn, (HB.out _).next hb⟩
  · have hx1 : (n : Int) ≤ x := by omega
    clear hx
    go_enter Try.func21, Try.ntmps21
    go_wp2_with (go_at_call 41; refine (get_no _ (HB.out _).ring _ HX.out).mono ?_; rintro e w1 ⟨rfl, hb⟩; have hbc := bcell hb)
    go_ret2
    exact ⟨a, n, cap, ad, cd, xs, rfl, by omega, hn, (HB.out _).next hb⟩

theorem step_get {w0 w : World} {g : Nat} {most : Int} {a : Option Addr} {n cap : Nat} {ad : Option Addr} {cd : Nat} {xs : List Int} (h : Both w0 w g most a n cap ad cd xs) (hn : (n : Int) ≤ most) (kd : Int) (x : Nat) (h0 : 0 ≤ kd) (hk : kd % 7 = 5) (hx : x < n) (hn9 : n ≤ 4096) :
    Calls Try.prog 21 #[.pointer (some ⟨g, 0, none⟩), .slice ad n cd, .agg #[.int .i64 kd, .int .i64 x], .int .i64 most] w (StepPost w0 g most (n + 1)) := by
  have HB := hid (fun o => h.next ((Below.refl w.heap.size w).alloc (Nat.le_refl _) o))
  obtain ⟨b, off, ha, _, hbl, hc⟩ := h.row.cells (by omega)
  have hcx := hc x hx
  subst ha
  obtain ⟨V, hV⟩ : ∃ V, V = xs.getD x 0 := ⟨_, rfl⟩
  rw [← hV] at hcx
  have HV := hid hV
  clear h hc hV
  go_enter Try.func21, Try.ntmps21
  go_wp2_with (go_at_call 41; refine (get_in _ (HB.out _).ring x hx).mono ?_; rintro e w1 ⟨rfl, rfl⟩; rw [← HV.out])
  go_quiet (fail)
  go_wp2
  go_ret2
  exact ⟨a, n, cap, some ⟨b, off, none⟩, cd, xs, rfl, by omega, hn, (HB.out _).next (below_drewN (Below.refl _ _) nq)⟩

theorem step_pop0 {w0 w : World} {g : Nat} {most : Int} {a : Option Addr} {cap : Nat} {ad : Option Addr} {cd : Nat} {xs : List Int} (h : Both w0 w g most a 0 cap ad cd xs) (hm : 0 ≤ most) (kd x : Int) (h0 : 0 ≤ kd) (hk : kd % 7 = 3 ∨ kd % 7 = 4) :
    Calls Try.prog 21 #[.pointer (some ⟨g, 0, none⟩), .slice ad 0 cd, .agg #[.int .i64 kd, .int .i64 x], .int .i64 most] w (StepPost w0 g most (0 + 1)) := by
  have HB := hid (fun o => h.next ((Below.refl w.heap.size w).alloc (Nat.le_refl _) o))
  clear h
  rcases hk with hk | hk
  all_goals
    go_enter Try.func21, Try.ntmps21
    go_wp2_with (go_at_call 40; refine (pop_no _ (HB.out _).ring).mono ?_; rintro e w1 ⟨rfl, hb⟩)
    go_ret2
    exact ⟨a, 0, cap, ad, cd, xs, rfl, by omega, hm, (HB.out _).next hb⟩

theorem step_pop {w0 w : World} {g : Nat} {most : Int} {a : Option Addr} {n cap : Nat} {ad : Option Addr} {cd : Nat} {y : Int} {xs : List Int} (h : Both w0 w g most a (n + 1) cap ad cd (y :: xs)) (hn : ((n + 1 : Nat) : Int) ≤ most) (hn9 : n ≤ 4096) (kd x : Int) (h0 : 0 ≤ kd) (hk : kd % 7 = 3 ∨ kd % 7 = 4) :
    Calls Try.prog 21 #[.pointer (some ⟨g, 0, none⟩), .slice ad (n + 1 : Nat) cd, .agg #[.int .i64 kd, .int .i64 x], .int .i64 most] w (StepPost w0 g most (n + 1)) := by
  have HB := hid (fun o => h.next ((Below.refl w.heap.size w).alloc (Nat.le_refl _) o))
  have hle := h.row.le
  obtain ⟨b, off, ha, _, hbl, hc⟩ := h.row.cells (by omega)
  subst ha
  have HA := hid h.apart
  have hcs : ¬ (n + 1) = 0 := by omega
  clear h hc
  have fin : ∀ (w1 : World) (o : Obj) (ad' : Option Addr), (cd = 1 → ad' = some ⟨b, off, none⟩) → (¬ cd = 1 → ad' = some ⟨b, off + 1, none⟩) → PushPost w0.heap.size g most a n xs (w.alloc o) w1 → ∃ a' cap', Both w0 w1 g most a' n cap' ad' (cd - 1) xs := by
    intro w1 o ad' h1 h2 hp
    refine (HB.out o).turned hp ?_ ?_
    · have := (HB.out o).row.drop (m := 1) (a' := ad') (by omega) h1 (fun hc => by rw [h2 hc]; rfl)
      simpa using this
    · intro hn bd hbd
      have hbd2 : bd = b := by
        by_cases hc : cd = 1
        · rw [h1 hc] at hbd; simpa [blk] using hbd.symm
        · rw [h2 hc] at hbd; simpa [blk] using hbd.symm
      subst hbd2
      exact HA.out (by omega) bd rfl
  have hcell : ∀ (w1 : World) (o : Obj), PushPost w0.heap.size g most a n xs (w.alloc o) w1 → w1.cell? ⟨b, off, none⟩ = some (.int .i64 y) := by
    intro w1 o hp
    obtain ⟨a', cap', _, hf, _⟩ := hp
    have hN := nums_fr (HB.out o).row hf HA.out
    obtain ⟨b', off', ha, _, _, hc⟩ := hN.cells (by omega)
    obtain ⟨rfl, rfl⟩ : b = b' ∧ off = off' := by simpa using ha
    have := hc 0 (by omega)
    simpa using this
  have HF := hid fin
  have HCell := hid hcell
  clear fin hcell
  by_cases hcd : cd = 1
  · subst hcd
    obtain rfl : n = 0 := by omega
    rcases hk with hk | hk
    all_goals
      go_enter Try.func21, Try.ntmps21
      go_wp2_with (go_at_call 40; refine (pop_in _ (HB.out _).ring).mono ?_; rintro e w1 ⟨rfl, hp⟩; have hcx := HCell.out _ _ hp; have HP := hid hp; clear hp)
      go_quiet (fail)
      go_wp2
      go_ret2
      obtain ⟨a', cap', hB⟩ := HF.out _ _ (some ⟨b, off, none⟩) (fun _ => rfl) (fun h => by simp at h) HP.out
      exact ⟨a', 0, cap', some ⟨b, off, none⟩, 0, xs, rfl, by omega, by omega, hB.next (below_drewN (Below.refl _ _) nq)⟩
  · have hcd1 : ¬ cd ≤ 1 := by omega
    rcases hk with hk | hk
    all_goals
      go_enter Try.func21, Try.ntmps21
      go_wp2_with (go_at_call 40; refine (pop_in _ (HB.out _).ring).mono ?_; rintro e w1 ⟨rfl, hp⟩; have hcx := HCell.out _ _ hp; have HP := hid hp; clear hp)
      go_quiet (fail)
      go_wp2
      go_ret2
      obtain ⟨a', cap', hB⟩ := HF.out _ _ (some ⟨b, off + 1, none⟩) (fun h => absurd h hcd) (fun _ => rfl) HP.out
      exact ⟨a', n, cap', some ⟨b, off + 1, none⟩, cd - 1, xs, rfl, by omega, by omega, hB.next (below_drewN (Below.refl _ _) nq)⟩

theorem step_call {P : Program} {ops : Array Oper} {o : Oper} {a : Act} {w : World} {K : Act → World → Prop} {Q : Exit → Act → World → Prop} {E : Prop} (hg : o.guard = none) {f : Nat} {args : Array Value}
    (hrun : (execOp a.eval o).run P w = .ok (.enter f args) w) (h : Calls P f args w fun e w' => ∃ v, e = .returned v ∧ K (a.put o.dst v) w') : if Region.wanted o (yielded ops a.tmps) = true then Oper.wp P o a w K Q else E := by
  have hw : Region.wanted o (yielded ops a.tmps) = true := by simp [Region.wanted, hg]
  rw [if_pos hw]
  unfold Oper.wp
  rw [hrun, Oper.upon_enter]
  refine h.mono ?_
  rintro e w' ⟨v, rfl, hk⟩
  exact hk
theorem push_any (w : World) {B g : Nat} {most : Int} {a : Option Addr} {n cap : Nat} {l : List Int} (h : Ring w B g most a n cap l) (hB : B ≤ w.heap.size) (hn : (n : Int) < most) (hm : most ≤ 4096) (x : Int) :
    Calls Try.prog 43 #[.pointer (some ⟨g, 0, none⟩), .int .i64 x] w fun e w' => e = .returned (.bool true) ∧ PushPost B g most a (n + 1) (l ++ [x]) w w' := by
  by_cases hr : n < cap
  · exact push_room w h hn hm hr x
  · exact push_grow w h hB hn hm hr x

theorem Nums.clip {k : IntKind} {w : World} {B : Nat} {a : Option Addr} {n cap : Nat} {l : List Int} (h : Nums k w B a n cap l) : Nums k w B a n n l :=
  ⟨h.len, Nat.le_refl _, Nat.le_trans h.le h.max, fun e => by have := h.nil e; have := h.le; omega, h.cells⟩
/-- 'append(xs[:n:n], x)' as one step of a region that draws: a new row -/
theorem step_append_clip {P : Program} {w : World} {ops : Array Oper} {o : Oper} {a : Act} {K : Act → World → Prop} {Q : Exit → Act → World → Prop} {E : Prop} (hgd : o.guard = none) (s x : Operand) (t : TypeId)
    (ho : o.op = .call { callee := .builtin .append, args := #[s, x], argTypes := #[t, t] })
    (e : TypeId) (i : TypeInfo) (z : Value) (bytes : Nat) (ht : P.underlying t = some (.slice e)) (hi : P.info? e = some i) (hz : i.zero = some z)
    (hsize : i.size = 1) (hby : i.bytes = bytes) (hzs : z.cells.size = 1) {k : IntKind}
    (ao : Option Addr) (n B : Nat) (l : List Int) (hs : a.eval s = .slice ao n n) (hl : Nums k w B ao n n l) (ad c : Nat) (y : Int) (hx : a.eval x = .slice (some ⟨ad, 0, none⟩) 1 c) (hc : w.cell? ⟨ad, 0, none⟩ = some (.int k y))
    (h63 : n + 1 ≤ maxLen) (hbytes : (n + 1) * bytes ≤ 140737488355328)
    (h : ∀ v' w', w'.ownsRow w.heap.size e 1 v' (n + 1) ((l ++ [y]).map (Value.int k)) → w.grownBy w' none → K (a.put o.dst v') w') :
    if Region.wanted o (yielded ops a.tmps) = true then Oper.wp P o a w K Q else E :=
  step_of_list hgd fun Q' hQ => wpList_append_grows _ hgd s x t ho e i z 1 bytes ht hi hz hsize hby hzs (by decide) ao n n (l.map (Value.int k)) hs (fun hn => by have := hl.nil hn; exact ⟨this, this⟩) (by rw [List.length_map, hl.len]; omega)
    (fun b hb j u hj => by
      have hjl : j < l.length := by have := (List.getElem?_eq_some_iff.1 hj).1; simpa using this
      obtain ⟨b', off, ha, _, _, h4⟩ := hl.cells (by have := hl.len; omega)
      rw [ha] at hb; obtain rfl := Option.some.inj hb
      rw [Addr.add_lit, h4 j (by have := hl.len; omega)]
      rw [List.getElem?_map, List.getElem?_eq_getElem hjl] at hj
      rw [List.getD_eq_getElem?_getD, List.getElem?_eq_getElem hjl]
      exact hj)
    ⟨ad, 0, none⟩ 1 c [.int k y] hx rfl (fun j u hj => by match j, hj with | 0, hj => (simp at hj; subst hj; exact hc) | j + 1, hj => simp at hj) (by simp [Value.oneCell']) (by omega) h63 hbytes (fun v' w' h1 h2 => by
      simp only [wpList, hQ]; exact h v' w' (by rw [List.map_append]; exact h1) h2)
theorem own_lo {w : World} {base : Nat} {e : TypeId} {a : Option Addr} {n c : Nat} {xs : List Value} (h : w.ownsRow base e 1 (.slice a n c) n xs) : ∀ b, blk a = some b → base ≤ b := by
  intro b hb
  rcases h.2 with ⟨hv, _⟩ | ⟨g, c', _, hv, hbg, _⟩
  · injection hv with h1; rw [h1] at hb; cases hb
  · injection hv with h1; rw [h1] at hb; simp [blk] at hb; omega
/-- the row that was made, and the ring that was pushed -/
theorem Both.pushed {w0 w W W2 w3 : World} {g : Nat} {most : Int} {a : Option Addr} {n cap : Nat} {ad : Option Addr} {cd : Nat} {xs : List Int} {x : Int} {e : TypeId} {a1 : Option Addr} {c1 : Nat} (h2 : Both w0 W2 g most a n cap ad cd xs) (h : Both w0 w g most a n cap ad cd xs) (hb : w.heap.size ≤ W.heap.size)
    (g1 : W2.ownsRow W.heap.size e 1 (.slice a1 (n + 1) c1) (n + 1) ((xs ++ [x]).map (Value.int .i64))) (hp : PushPost w0.heap.size g most a (n + 1) (xs ++ [x]) W2 w3) : ∃ a' cap', Both w0 w3 g most a' (n + 1) cap' a1 c1 (xs ++ [x]) := by
  refine h2.turned hp (own_nums g1) fun _ bd hbd => ?_
  have h1 := own_lo g1 bd hbd
  have hg := World.block_lt_of_cell? _ _ h.ring.row
  simp only at hg
  refine ⟨by omega, fun e => ?_⟩
  have := (h.ring.lo bd e).2
  omega
set_option maxHeartbeats 1000000 in
theorem step_push {w0 w : World} {g : Nat} {most : Int} {a : Option Addr} {n cap : Nat} {ad : Option Addr} {cd : Nat} {xs : List Int} (h : Both w0 w g most a n cap ad cd xs) (hm1 : most ≤ 4096) (hn : (n : Int) < most) (kd x : Int) (h0 : 0 ≤ kd) (hk : kd % 7 < 3) :
    Calls Try.prog 21 #[.pointer (some ⟨g, 0, none⟩), .slice ad n cd, .agg #[.int .i64 kd, .int .i64 x], .int .i64 most] w (StepPost w0 g most (n + 1)) := by
  obtain ⟨i0, hi, hi0, hi1, hi2⟩ := info_parts Try.info_int
  have HB := hid (fun (W : World) (hb : Below w.heap.size w W) => h.next hb)
  have hlt : ¬ most ≤ n := by omega
  have hle := h.row.le
  have hkc : kd % 7 = 0 ∨ kd % 7 = 1 ∨ kd % 7 = 2 := by omega
  clear h hk
  rcases hkc with hk | hk | hk
  all_goals
    go_enter Try.func21, Try.ntmps21
    go_wp2_with fail
    go_region_law (first | (refine step_append_clip rfl (.tmp 101) (.tmp 104) 39 rfl 3 i0 (.int .i64 0) 8 Try.underlying39 hi hi0 hi1 hi2 rfl ad n _ xs rfl (Nums.clip (HB.out _ ((((Below.refl w.heap.size w).alloc (Nat.le_refl _) _).alloc (by simp) _).drew)).row) _ 1 x rfl (by simp [go_sem]) (by unfold maxLen; omega) (by omega) ?_; intro v1 W2 g1 g2; have hcN : W2.cell? ⟨w.heap.size, 1, none⟩ = some (.int .i64 x) := g2.cell (by simp [go_sem]) (by simp); have hB2 := HB.out _ (below_none ((((Below.refl w.heap.size w).alloc (Nat.le_refl _) _).alloc (by simp) _).drew) g2 (by simp; omega)); obtain ⟨a1, c1, rfl⟩ := own_slice g1; have G1 := hid g1; have HB2 := hid hB2; clear g1 g2 hB2) | (refine step_call (f := 43) (args := #[.pointer (some ⟨g, 0, none⟩), .int .i64 x]) rfl (by simp [execOp, resolve, invoke, go_sem]) ?_; refine (push_any _ HB2.out.ring HB2.out.size hn hm1 x).mono ?_; rintro e w3 ⟨rfl, hp⟩; have HP := hid hp; clear hp; refine ⟨_, rfl, ?_⟩))
    all_goals
      go_wp2
      go_ret2
      obtain ⟨a', cap', hBB⟩ := Both.pushed HB2.out (HB.out w (Below.refl _ _)) (by simp; omega) G1.out HP.out
      exact ⟨a', n + 1, cap', a1, c1, xs ++ [x], rfl, by omega, by omega, hBB⟩
end Go.Proofs.Ytmoolhneofbfdaa.rgc
