/- The document's own digest of bytes. -/
import Derived.Test.YtnfklhebcloolaaDoorMdRW
namespace Go.Proofs.YtnfklhebcloolaaDoor.mdc
open Go.RowKit
open Go.Proofs.YtnfklhebcloolaaDoor.kit Go.Proofs.YtnfklhebcloolaaDoor.mdm
set_option linter.unusedVariables false
set_option linter.unusedSimpArgs false
set_option maxRecDepth 20000
def b16 (l : List Int) : List Value := l.map (Value.int .u8)
theorem slice_both (a : Option Addr) (n cap l h : Nat) (h1 : l ≤ h) (h2 : h ≤ cap) : ∃ a', (∀ w, (Instr.slice 22 (.slice a n cap) (some (.int .i64 (l : Int))) (some (.int .i64 (h : Int))) none).run Tryd.prog w = .ok (.slice a' (h - l) (cap - l)) w) ∧ (cap = l → a' = a) ∧ (¬ cap = l → a' = a.map (·.add l)) := by
  refine ⟨if cap = l then a else a.map (·.add l), fun w => ?_, fun h => by simp [h], fun h => by simp [h]⟩
  rw [run_slice_lh (ht := Tryd.sl8) (h0 := by omega) (h1 := by omega) (h2 := by omega)]
  simp [go_sem, Result.andThen, sliced]
theorem leB_oct (k : Nat) : ∀ n, Oct (leB k n) := by
  induction k with
  | zero => intro n x hx; cases hx
  | succ k ih =>
    intro n x hx
    rcases List.mem_cons.1 hx with rfl | hx
    · omega
    · exact ih _ x hx
theorem oct_take {l : List Int} (h : Oct l) (m : Nat) : Oct (l.take m) := fun x hx => h x (List.mem_of_mem_take hx)
theorem pad_oct {l : List Int} (h : Oct l) : Oct (pad l) := by
  intro x hx
  unfold pad at hx
  rcases List.mem_append.1 hx with hx | hx
  · rcases List.mem_append.1 hx with hx | hx
    · rcases List.mem_append.1 hx with hx | hx
      · exact h x hx
      · rw [List.mem_singleton.1 hx]; decide
    · rw [(List.mem_replicate.1 hx).2]; decide
  · exact leB_oct _ _ x hx
theorem own_box {w : World} {base : Nat} {e : TypeId} {a : Option Addr} {n cap : Nat} {l : List Int} {k : IntKind} (h : w.ownsRow base e 1 (.slice a n cap) n (l.map (Value.int k))) (hn : 0 < n) :
    ∃ g, a = some ⟨g, 0, none⟩ ∧ base ≤ g ∧ l.length = n ∧ n ≤ cap ∧ cap ≤ maxLen ∧ Box w g (l.map (Value.int k)) := by
  have h0 := h
  obtain ⟨h1, h2⟩ := h
  rcases h2 with ⟨_, rfl⟩ | ⟨g, c, cur, hv, hbg, hg, hnc, hm, hcs, ht⟩
  · omega
  · injection hv with h3 h4 h5
    subst h3 h5
    refine ⟨g, rfl, hbg, by simpa using h1, hnc, hm, fun j v hv => ?_, fun j => ?_, (Array.getElem?_eq_some_iff.1 hg).1⟩
    · have := h0.cells (g := g) rfl j v hv
      rw [Addr.add_lit] at this; simpa using this
    · simp [World.frozen?, hg]
theorem box_nums {w : World} {g n cap : Nat} {l : List Int} {k : IntKind} (h : Box w g (l.map (Value.int k))) (hl : l.length = n) (hc : n ≤ cap) (hm : cap ≤ maxLen) : Nums k w w.heap.size (some ⟨g, 0, none⟩) n cap l :=
  ⟨hl, hc, hm, fun e => by (cases e), fun hp => ⟨g, 0, rfl, h.lt, h.lt, fun j hj => by
    have := h.at_ j (.int k (l.getD j 0)) (by rw [List.getElem?_map, List.getD_eq_getElem?_getD, List.getElem?_eq_getElem (by omega)]; rfl)
    simpa using this⟩⟩
/-- what the loop over the blocks keeps -/
structure Ok (w wr : World) (s : Q4) : Prop where
  b : Below w.heap.size w wr
  r : Box wr w.heap.size (b16 (List.replicate 16 0))
  q : Box wr (w.heap.size + 1) (q4 .u64 s)
theorem Ok.next {w wr w' : World} {s : Q4} (h : Ok w wr s) (hb : Below wr.heap.size wr w') : Ok w w' s := ⟨h.b.trans (hb.mono h.b.size), h.r.next hb, h.q.next hb⟩
theorem Ok.put {w wr : World} {s : Q4} (h : Ok w wr s) (y : Q4) : Ok w ((((wr.setCell ⟨w.heap.size + 1, 0, none⟩ (.int .u64 (y.a : Nat))).setCell ⟨w.heap.size + 1, 1, none⟩ (.int .u64 (y.b : Nat))).setCell ⟨w.heap.size + 1, 2, none⟩ (.int .u64 (y.c : Nat))).setCell ⟨w.heap.size + 1, 3, none⟩ (.int .u64 (y.d : Nat))) y :=
  ⟨(((h.b.setCell (p := ⟨w.heap.size + 1, 0, none⟩) (show w.heap.size ≤ w.heap.size + 1 by omega) _).setCell (p := ⟨w.heap.size + 1, 1, none⟩) (show w.heap.size ≤ w.heap.size + 1 by omega) _).setCell (p := ⟨w.heap.size + 1, 2, none⟩) (show w.heap.size ≤ w.heap.size + 1 by omega) _).setCell (p := ⟨w.heap.size + 1, 3, none⟩) (show w.heap.size ≤ w.heap.size + 1 by omega) _,
    (((h.r.other (by omega) _).other (by omega) _).other (by omega) _).other (by omega) _, (((h.q.set 0 _).set 1 _).set 2 _).set 3 _⟩
def qv (s : Q4) (k : Nat) : Nat := if k = 0 then s.a else if k = 1 then s.b else if k = 2 then s.c else s.d
/-- the numbers behind i bytes of the digest -/
def qs (S : Q4) (i : Nat) : Q4 := ⟨S.a / 256 ^ min i 4, S.b / 256 ^ min (i - 4) 4, S.c / 256 ^ min (i - 8) 4, S.d / 256 ^ min (i - 12) 4⟩
/-- the digest, i bytes of it -/
def ds (S : Q4) (i : Nat) : List Int := (dig S).take i ++ List.replicate (16 - i) 0
theorem lt16 {p : Nat → Prop} (h : p 0 ∧ p 1 ∧ p 2 ∧ p 3 ∧ p 4 ∧ p 5 ∧ p 6 ∧ p 7 ∧ p 8 ∧ p 9 ∧ p 10 ∧ p 11 ∧ p 12 ∧ p 13 ∧ p 14 ∧ p 15) (i : Nat) (hi : i < 16) : p i := by
  obtain ⟨h0, h1, h2, h3, h4, h5, h6, h7, h8, h9, ha, hb, hc, hd, he, hf⟩ := h
  have hc' : i = 0 ∨ i = 1 ∨ i = 2 ∨ i = 3 ∨ i = 4 ∨ i = 5 ∨ i = 6 ∨ i = 7 ∨ i = 8 ∨ i = 9 ∨ i = 10 ∨ i = 11 ∨ i = 12 ∨ i = 13 ∨ i = 14 ∨ i = 15 := by omega
  rcases hc' with rfl | rfl | rfl | rfl | rfl | rfl | rfl | rfl | rfl | rfl | rfl | rfl | rfl | rfl | rfl | rfl <;> assumption
theorem ds_succ (S : Q4) (i : Nat) (hi : i < 16) : (b16 (ds S i)).set i (.int .u8 ((qv (qs S i) (i / 4) % 256 : Nat) : Int)) = b16 (ds S (i + 1)) := by
  revert i
  apply lt16
  simp [b16, ds, dig, leB, qs, qv, Nat.div_div_eq_div_mul, List.replicate]
theorem qs_succ (S : Q4) (i : Nat) (hi : i < 16) : (q4 .u64 (qs S i)).set (i / 4) (.int .u64 ((qv (qs S i) (i / 4) / 256 : Nat) : Int)) = q4 .u64 (qs S (i + 1)) := by
  revert i
  apply lt16
  simp [q4, qs, qv, Nat.div_div_eq_div_mul]
theorem q4_at (x : Q4) (k : Nat) (hk : k < 4) : (q4 .u64 x)[k]? = some (.int .u64 (qv x k : Nat)) := by
  have hc : k = 0 ∨ k = 1 ∨ k = 2 ∨ k = 3 := by omega
  rcases hc with rfl | rfl | rfl | rfl <;> rfl
theorem ds_0 (S : Q4) : ds S 0 = List.replicate 16 0 := by simp [ds]
theorem dig_len (S : Q4) : (dig S).length = 16 := by simp [dig, leB_len]
theorem ds_16 (S : Q4) : ds S 16 = dig S := by unfold ds; rw [List.take_of_length_le (by rw [dig_len]; omega)]; simp
theorem qs_0 (S : Q4) : qs S 0 = S := by simp [qs]
theorem qs_ok {S : Q4} (h : S.ok) (i : Nat) : (qs S i).ok := by
  obtain ⟨h1, h2, h3, h4⟩ := h
  exact ⟨Nat.lt_of_le_of_lt (Nat.div_le_self _ _) h1, Nat.lt_of_le_of_lt (Nat.div_le_self _ _) h2, Nat.lt_of_le_of_lt (Nat.div_le_self _ _) h3, Nat.lt_of_le_of_lt (Nat.div_le_self _ _) h4⟩
theorem qv_lt {x : Q4} (h : x.ok) (k : Nat) : qv x k < 4294967296 := by
  obtain ⟨h1, h2, h3, h4⟩ := h
  unfold qv
  split
  · exact h1
  · split
    · exact h2
    · split
      · exact h3
      · exact h4
theorem results_cell1 {fn : Func} {p : Tmp} {ty : TypeId} (h : fn.results = #[.cell p ty]) (tmps : Array Value) (P : Program) (w : World) :
    (results fn tmps).run P w = ((asAddr (tmps.getD p undef)).run P w).andThen fun a w₁ => (loadVar ty a).run P w₁ := by
  simp only [results, h]
  simp [Sem.run_bind, Result.andThen]
theorem zeros_at16 (j : Nat) (hj : j < 16) : (b16 (List.replicate 16 0))[j]? = some (.int .u8 0) := by
  revert j
  apply lt16
  simp [b16, List.replicate]
/-- what the last loop keeps -/
structure Od (w wr : World) (g i : Nat) (S : Q4) : Prop where
  k : Ok w wr (qs S i)
  o : Box wr g (b16 (ds S i))
set_option maxHeartbeats 1000000 in
theorem rof_any {B n cap : Nat} {a : Option Addr} {l : List Int} (w : World) (h : Nums .u8 w B a n cap l) (hO : Oct l) (hB : B ≤ w.heap.size) (hn : n ≤ 100000) :
    Calls Tryd.prog 8 #[.slice a n cap] w fun e w' => e = .returned (.agg (b16 (md5 l)).toArray) ∧ Below w.heap.size w w' := by
  have HN := hid h
  have HPO := hid (pad_oct hO)
  have hl := hid h.len
  have HM := hid (show md5 l = dig (blks mdm.start ((pad l).length / 64) (pad l)) from rfl)
  have hpm := pad_mod l
  have hpl : (pad l).length ≤ 100100 := by rw [pad_len]; unfold zeros; have := h.len; omega
  obtain ⟨W, hW⟩ : ∃ W, W = (w.alloc (.cells (b16 (List.replicate 16 0)).toArray 23)).alloc (.cells (q4 .u64 mdm.start).toArray 58) := ⟨_, rfl⟩
  have K0 : Hid (Ok w W mdm.start) := hid (by
    rw [hW]
    have b1 := (Below.refl w.heap.size w).alloc (Nat.le_refl _) (.cells (b16 (List.replicate 16 0)).toArray 23)
    refine ⟨b1.alloc b1.size _, ?_, ?_⟩
    · exact (Box.made w _ _).next ((Below.refl _ _).alloc (Nat.le_refl _) _)
    · have := Box.made (w.alloc (.cells (b16 (List.replicate 16 0)).toArray 23)) (q4 .u64 mdm.start).toArray 58; simp only [World.size_alloc] at this; exact this)
  have HW := hid hW
  clear h hO hW
  go_enter Tryd.func8, Tryd.ntmps8
  go_upto_region 2 with fail
  change Code.wp _ _ _ _ ((w.alloc (.cells (b16 (List.replicate 16 0)).toArray 23)).alloc (.cells (q4 .u64 mdm.start).toArray 58))
  rw [← HW.out]
  go_upto_region 3 with (go_at_call 21; ((with_reducible refine (whole_any W (HN.out.below (K0.out.b.mono hB)) (Nat.le_trans hB K0.out.b.size) hn).mono ?_); rintro e w1 ⟨ap, mp, cp, rfl, hp1, hp2⟩))
  have hmp : (pad l).length = mp := by have := hp1.1; simpa using this
  obtain ⟨g, rfl, hg1, hmp, hmc, hcm, hbx⟩ := own_box hp1 (by rw [← hmp, pad_len]; omega)
  have NP := hid hbx
  have K1 := hid (K0.out.next hp2)
  have hg2 : w.heap.size + 1 < g := by have := HW.out; rw [this] at hg1; simp at hg1; omega
  clear hp1 hp2 K0 hbx hg1
  generalize pad l = p at *
  have hPm := hid hpm
  go_wp2_with fail
  go_loopw [5] (fun iv wr => ∃ i : Nat, 64 * i ≤ mp ∧ iv = .int .i64 (64 * (i : Int)) ∧ Hid (Ok w wr (blks mdm.start i p)) ∧ Hid (Box wr g (p.map (Value.int .u8)))) (fun iv _ => mp - (intOf iv).toNat)
  case atStart => exact ⟨0, by omega, rfl, K1, NP⟩
  case round =>
    clear K1 NP
    obtain ⟨i, hi, rfl, HK, HX⟩ := hrel
    by_cases hlt : 64 * i < mp
    · have hm64 : 64 * i + 64 ≤ mp := by have := hPm.out; omega
      obtain ⟨a', hsl, hz1, hz2⟩ := slice_both (some ⟨g, 0, none⟩) mp cp (64 * i) (64 * i + 64) (by omega) (by omega)
      have ND := hid (((box_nums HX.out hmp hmc hcm).drop (m := 64 * i) (by omega) hz1 hz2).take (m := 64) (by omega))
      have HQ := hid (oct_take (oct_drop HPO.out (64 * i)) 64)
      clear hz1 hz2
      have hok := blks_ok i mdm.start p start_ok
      have HNX := hid (blks_snoc i mdm.start p)
      obtain ⟨x, hx⟩ : ∃ x, x = blks mdm.start i p := ⟨_, rfl⟩
      rw [← hx] at HK HNX hok
      clear hx
      have HOK := hid hok
      clear hok
      have x0 := HK.out.q.at_ 0 (.int .u64 (x.a : Nat)) rfl
      have x1 := HK.out.q.at_ 1 (.int .u64 (x.b : Nat)) rfl
      have x2 := HK.out.q.at_ 2 (.int .u64 (x.c : Nat)) rfl
      have x3 := HK.out.q.at_ 3 (.int .u64 (x.d : Nat)) rfl
      have z0 := After.cell x0
      have z1 := After.cell x1
      have z2 := After.cell x2
      have z3 := After.cell x3
      have C1 := hid (fun M : After wr => after_call (rblock_any M.w (ND.out.below M.h) M.h.size HQ.out (by omega) x HOK.out))
      have hsl2 : ∀ w, (Instr.slice 22 (.slice (some ⟨g, 0, none⟩) mp cp) (some (.int .i64 (64 * (i : Int)))) (some (.int .i64 (64 * (i : Int) + 64))) none).run Tryd.prog w = .ok (.slice a' 64 (cp - 64 * i)) w := fun w => by have := hsl w; rw [Nat.add_sub_cancel_left, Int.natCast_add, Int.natCast_mul] at this; exact this
      clear hsl
      obtain ⟨y, hy⟩ : ∃ y, y = blk x ((p.drop (64 * i)).take 64) := ⟨_, rfl⟩
      rw [← hy] at C1 HNX
      clear hy
      unfold q4 at C1
      go_upto_region 6 with fail
      refine wp_region_after_tail wr 7 (by kernel_rfl) (by kernel_rfl) ((Below.refl _ _).drew) ?_
      simp only [List.take_succ_cons, List.take_zero, List.drop_succ_cons, List.drop_zero]
      repeat (go_big_quiet_step (with_reducible exact C1.out _))
      refine wpQuiet_nil ?_
      intro w3 hw'
      obtain ⟨N3, e3⟩ := hw'
      have b3 : Below wr.heap.size wr w3 := by rw [e3]; exact N3.h
      clear e3 N3 C1 z0 z1 z2 z3 x0 x1 x2 x3 hsl2
      have k3 := HK.out.next b3
      have X3 := hid (HX.out.next b3)
      have y0 := k3.q.at_ 0 (.int .u64 (x.a : Nat)) rfl
      have y1 := k3.q.at_ 1 (.int .u64 (x.b : Nat)) rfl
      have y2 := k3.q.at_ 2 (.int .u64 (x.c : Nat)) rfl
      have y3 := k3.q.at_ 3 (.int .u64 (x.d : Nat)) rfl
      have f0 := k3.q.fr 0
      have f1 := k3.q.fr 1
      have f2 := k3.q.fr 2
      have f3 := k3.q.fr 3
      have K3 := hid k3
      clear k3 b3 HK HX ND
      go_wp2_with fail
      go_roundw
      case rel => exact ⟨i + 1, by omega, by go_num, hid (by rw [HNX.out]; exact K3.out.put y), hid ((((X3.out.other (by omega) _).other (by omega) _).other (by omega) _).other (by omega) _)⟩
      case measure => simp [intOf]; omega
    · have hi64 : i = mp / 64 := by have := hPm.out; omega
      have HS : Hid (md5 l = dig (blks mdm.start i p)) := hid (by rw [hi64, ← hmp]; exact HM.out)
      have hok := hid (blks_ok i mdm.start p start_ok)
      clear HM hPm hi64
      obtain ⟨S, hS⟩ : ∃ S, S = blks mdm.start i p := ⟨_, rfl⟩
      rw [← hS] at HS hok HK
      clear hS HX
      have hsz := HK.out.q.lt
      have D0 := hid (show Od w (wr.alloc (.cells (b16 (ds S 0)).toArray 23)) wr.heap.size 0 S from ⟨by rw [qs_0]; exact HK.out.next ((Below.refl _ _).alloc (Nat.le_refl _) _), by have := Box.made wr (b16 (ds S 0)).toArray 23; simpa using this⟩)
      go_upto_region 8 with fail
      change Code.wp _ _ _ _ (wr.alloc (.cells (b16 (ds S 0)).toArray 23))
      generalize wr.alloc (.cells (b16 (ds S 0)).toArray 23) = wx at *
      generalize wr.heap.size = g2 at *
      clear HK
      go_wp2_with fail
      go_loopw [7] (fun iv wr => ∃ i : Nat, i ≤ 16 ∧ iv = .int .i64 i ∧ Hid (Od w wr g2 i S)) (fun iv _ => 16 - (intOf iv).toNat)
      case atStart => exact ⟨0, by omega, rfl, D0⟩
      case round =>
        clear D0
        obtain ⟨i, hi, rfl, HD⟩ := hrel
        by_cases hlt : i < 16
        · have HDS := hid (ds_succ S i hlt)
          have HQS := hid (qs_succ S i hlt)
          have hq4 := q4_at (qs S i) (i / 4) (by omega)
          have hvb := qv_lt (qs_ok hok.out i) (i / 4)
          obtain ⟨v, hv⟩ : ∃ v, v = qv (qs S i) (i / 4) := ⟨_, rfl⟩
          obtain ⟨k, hk⟩ : ∃ k, k = i / 4 := ⟨_, rfl⟩
          rw [← hv] at HQS hq4 HDS hvb
          rw [← hk] at HQS hq4
          have hd : (b16 (ds S i))[i]? = some ((b16 (ds S i)).getD i undef) := by
            have : i < (b16 (ds S i)).length := by simp [b16, ds, dig_len]; omega
            rw [List.getD_eq_getElem?_getD, List.getElem?_eq_getElem this]; rfl
          have y0 := HD.out.k.q.at_ k _ hq4
          have y1 := HD.out.o.at_ i _ hd
          have f1 := HD.out.o.fr i
          have hD1 : Hid (Box (wr.setCell ⟨g2, i, none⟩ (.int .u8 ((v : Int) % 256))) (w.heap.size + 1) (q4 .u64 (qs S i))) := hid (HD.out.k.q.other (by omega) _)
          have y2 := hD1.out.at_ k _ hq4
          have f2 := hD1.out.fr k
          have hk4 : k < 4 := by omega
          have hix : (i : Int) / 4 = (k : Int) := by omega
          have hw1 : IntKind.u8.wrap ((v : Int) % 256) = (v : Int) % 256 := by rw [IntKind.wrap_u8]; omega
          have hw2 : IntKind.u64.wrap ((v : Int) / 256) = (v : Int) / 256 := by rw [IntKind.wrap_u64]; omega
          clear hd hq4 hv hk hD1
          go_wp2_with fail
          go_roundw
          case rel => exact ⟨i + 1, by omega, by go_num, hid ⟨⟨(HD.out.k.b.setCell (p := ⟨g2, i, none⟩) (by show w.heap.size ≤ g2; omega) _).setCell (p := ⟨w.heap.size + 1, k, none⟩) (Nat.le_succ _) _, (HD.out.k.r.other (by omega) _).other (by omega) _, by rw [← HQS.out]; exact (HD.out.k.q.other (by omega) _).set k _⟩, by rw [← HDS.out]; exact (HD.out.o.set i _).other (by omega) _⟩⟩
          case measure => simp [intOf]; omega
        · obtain rfl : i = 16 := by omega
          have HO16 := hid (show Box wr g2 (b16 (md5 l)) by have := HD.out.o; rw [ds_16, ← HS.out] at this; exact this)
          have HRS := hid HD.out.k.r
          have HBW := hid HD.out.k.b
          clear HD hsz hok
          have HLn := hid (show (b16 (md5 l)).length = 16 by rw [HS.out]; simp [b16, dig_len])
          have ONE := hid (show (b16 (md5 l)).all (·.oneCell') = true by rw [List.all_eq_true]; intro x hx; obtain ⟨y, _, rfl⟩ := List.mem_map.1 hx; rfl)
          clear HS
          obtain ⟨V, hV⟩ : ∃ V, V = b16 (md5 l) := ⟨_, rfl⟩
          rw [← hV] at HO16 HLn ONE
          have HVE := hid hV
          clear hV
          have hra := hid (show wr.rangeAt g2 0 V from fun j v hv => by rw [Nat.zero_add]; exact HO16.out.at_ j v hv)
          have hth := hid (show wr.there w.heap.size 0 V.length from fun j hj => ⟨by rw [Nat.zero_add]; have := HRS.out.at_ j (.int .u8 0) (zeros_at16 j (by rw [HLn.out] at hj; exact hj)); rw [this]; rfl, by rw [Nat.zero_add]; exact HRS.out.fr j⟩)
          have hz2 := hid (show (Tryd.prog.info? 23).map (·.size) = some V.length by rw [HLn.out]; kernel_rfl)
          clear HO16 HRS
          go_wp2_with (first | ((refine wpList_load_mid rfl 23 (.tmp 6) rfl g2 0 rfl V (.array 16 5) hra.out (by kernel_rfl) rfl hz2.out ?_)) | (refine wpList_store_new rfl 23 (.tmp 2) (.tmp 44) rfl w.heap.size V rfl rfl hth.out hz2.out ONE.out w.heap.size w HBW.out (Nat.le_refl _) ?_; intro w9 R9 B9 T9; clear T9))
          have hld := run_loadVar_mid (P := Tryd.prog) w9 w.heap.size 0 23 V (.array 16 5) R9.out (by kernel_rfl) rfl hz2.out
          refine bodyPost_ret (v := .agg V.toArray) ?_ rfl ⟨by rw [← HVE.out], B9.out⟩
          refine (results_cell1 rfl _ _ _).trans ?_
          show ((asAddr (.pointer (some ⟨w.heap.size, 0, none⟩))).run Tryd.prog w9).andThen _ = _
          simp [asAddr, Result.andThen, hld]
end Go.Proofs.YtnfklhebcloolaaDoor.mdc
