/- ip4: the contract of the document's own Parse. -/
import Derived.Test.YtidenjinagpphabIp4Q
import Derived.Test.YtidenjinagpphabStrNums
import Derived.Test.YtidenjinagpphabRegion
import Derived.BigRegion
namespace Go.Proofs.Ytidenjinagpphab.ipc
open Go.RowKit
open Go.Proofs.Ytidenjinagpphab.kit Go.Proofs.Ytidenjinagpphab.bec Go.Proofs.Ytidenjinagpphab.ipm Go.Proofs.Ytidenjinagpphab.sm Go.Proofs.Ytidenjinagpphab.sc Go.Proofs.Ytidenjinagpphab.hxt Go.Proofs.Ytidenjinagpphab.hxm
set_option linter.unusedVariables false
set_option maxRecDepth 20000

theorem slice_both (a : Option Addr) (n cap lo hi : Nat) (x y : Int) (hx : x = lo) (hy : y = hi) (h : lo ≤ hi) (h2 : hi ≤ cap) : ∃ a', (∀ w, (Instr.slice 22 (.slice a n cap) (some (.int .i64 x)) (some (.int .i64 y)) none).run Try.prog w = .ok (.slice a' (hi - lo) (cap - lo)) w) ∧ (cap = lo → a' = a) ∧ (¬ cap = lo → a' = a.map (·.add lo)) := by
  subst hx hy
  refine ⟨if cap = lo then a else a.map (·.add lo), fun w => ?_, fun h => by simp [h], fun h => by simp [h]⟩
  rw [run_slice_lh (ht := Try.sl8) (h0 := by omega) (h1 := by omega) (h2 := by omega)]
  simp [go_sem, Result.andThen, sliced]
theorem cut_nums {w : World} {B n c lo hi : Nat} {a a' : Option Addr} {l : List Int} (h : Nums .u8 w B a n c l) (h1 : lo ≤ hi) (h2 : hi ≤ n) (hz : c = lo → a' = a) (hs : ¬ c = lo → a' = a.map (·.add lo)) : Nums .u8 w B a' (hi - lo) (c - lo) ((l.take hi).drop lo) :=
  (h.take h2).drop h1 hz hs
theorem num2 (w : World) {B c : Nat} {a : Option Addr} {l : List Int} {k : Nat} (h : Nums .u8 w B a (k + 2 - k) c ((l.take (k + 2)).drop k)) (hk : k + 2 ≤ l.length) (hb : Oct l) (x : Int) (hx : w2 l k = x) :
    Calls Try.prog 64 #[.slice a (k + 2 - k) c] w fun e w' => e = .returned (.int .u64 x) ∧ w = w' :=
  (ref_num w h (by omega) (fun y hy => hb y (List.mem_of_mem_take (List.mem_of_mem_drop hy)))).mono fun e w' ⟨he, hw⟩ => ⟨by
    rw [he, ← hx]; apply ret_int
    rw [List.drop_take, show k + 2 - k = 2 by omega, drop_cons (by omega), drop_cons (k := k + 1) (by omega)]
    simp [numB, w2]; omega, hw⟩
theorem num4 (w : World) {B c : Nat} {a : Option Addr} {l : List Int} {k : Nat} (h : Nums .u8 w B a (k + 4 - k) c ((l.take (k + 4)).drop k)) (hk : k + 4 ≤ l.length) (hb : Oct l) (x : Int) (hx : w4 l k = x) :
    Calls Try.prog 64 #[.slice a (k + 4 - k) c] w fun e w' => e = .returned (.int .u64 x) ∧ w = w' :=
  (ref_num w h (by omega) (fun y hy => hb y (List.mem_of_mem_take (List.mem_of_mem_drop hy)))).mono fun e w' ⟨he, hw⟩ => ⟨by
    rw [he, ← hx]; apply ret_int
    rw [List.drop_take, show k + 4 - k = 4 by omega, drop_cons (by omega), drop_cons (k := k + 1) (by omega), show k + 1 + 1 = k + 2 from rfl, drop_cons (k := k + 2) (by omega), show k + 2 + 1 = k + 3 from rfl, drop_cons (k := k + 3) (by omega)]
    simp [numB, w4]; omega, hw⟩

/-- what a parser hands back, in blocks made since -/
def IPostF (W : World) (T : Dg × Int) (w : World) (L : List Sl) (e : Ending) (W' : World) : Prop :=
  ∃ ao no co ad nd cd, e = .returned (.tuple #[.agg (valD T.1 ao no co ad nd cd), .int .i64 T.2]) ∧ (∀ b o s, ao = some ⟨b, o, s⟩ → W.heap.size ≤ b) ∧ (∀ b o s, ad = some ⟨b, o, s⟩ → W.heap.size ≤ b) ∧ St w W' ((ao, no, co, T.1.o) :: (ad, nd, cd, T.1.d) :: L)
theorem ipostF_none {w W wz : World} {L : List Sl} {T : Dg × Int} (y : Int) (hT : T = (Dg.none, y)) (h : St w W L) (hb : Below W.heap.size W wz) :
    IPostF W T w L (.returned (.tuple #[.agg #[.int .u8 0, .int .u8 0, .int .u8 0, .int .u16 0, .int .u16 0, .int .u32 0, .int .u32 0, .slice none 0 0, .slice none 0 0], .int .i64 y])) (set9 wz W.heap.size (.int .u8 0) (.int .u8 0) (.int .u8 0) (.int .u16 0) (.int .u16 0) (.int .u32 0) (.int .u32 0) (.slice none 0 0) (.slice none 0 0)) := by
  subst hT
  exact ⟨none, 0, 0, none, 0, 0, rfl, (by rintro _ _ _ ⟨⟩), (by rintro _ _ _ ⟨⟩), ((h.next (gb_below hb (set9_grown _ _ _ _ _ _ _ _ _ _ _) hb.size (Nat.le_refl _))).nil).nil⟩
/-- a datagram that is being put together in the block that a world had next -/
structure RS (w4 wk : World) (vs : List Value) : Prop where
  box : Box wk w4.heap.size vs
  bel : Below w4.heap.size w4 wk
theorem RS.set {w4 w : World} {vs : List Value} (h : RS w4 w vs) (i : Nat) (u : Value) : RS w4 (w.setCell ⟨w4.heap.size, i, none⟩ u) (vs.set i u) := ⟨h.box.set i u, h.bel.setCell (Nat.le_refl _) u⟩
theorem RS.next {w4 w w' : World} {vs : List Value} (h : RS w4 w vs) (hb : Below w.heap.size w w') : RS w4 w' vs := ⟨h.box.next hb, h.bel.trans (hb.mono h.bel.size)⟩
theorem box9 {w : World} {g : Nat} (h : Box w g [.int .u8 0, .int .u8 0, .int .u8 0, .int .u16 0, .int .u16 0, .int .u32 0, .int .u32 0, .slice none 0 0, .slice none 0 0]) : w.cell? ⟨g, 0, none⟩ = some (.int .u8 0) ∧ w.cell? ⟨g, 1, none⟩ = some (.int .u8 0) ∧ w.cell? ⟨g, 2, none⟩ = some (.int .u8 0) ∧ w.cell? ⟨g, 3, none⟩ = some (.int .u16 0) ∧ w.cell? ⟨g, 4, none⟩ = some (.int .u16 0) ∧ w.cell? ⟨g, 5, none⟩ = some (.int .u32 0) ∧ w.cell? ⟨g, 6, none⟩ = some (.int .u32 0) ∧ w.cell? ⟨g, 7, none⟩ = some (.slice none 0 0) ∧ w.cell? ⟨g, 8, none⟩ = some (.slice none 0 0) :=
  ⟨h.at_ 0 _ rfl, h.at_ 1 _ rfl, h.at_ 2 _ rfl, h.at_ 3 _ rfl, h.at_ 4 _ rfl, h.at_ 5 _ rfl, h.at_ 6 _ rfl, h.at_ 7 _ rfl, h.at_ 8 _ rfl⟩
set_option maxHeartbeats 4000000 in
theorem rparse_from {w W : World} {L : List Sl} {a : Option Addr} {n c : Nat} {l : List Int} (h : St w W L) (hm : (a, n, c, l) ∈ L) (hb : Oct l) (hn : n ≤ 2000) :
    Calls Try.prog 12 #[.slice a n c] W (IPostF W (ipP l) w L) := by
  obtain ⟨i0, hi, hi0, hi1, hi2⟩ := info_parts Try.info_u8
  obtain ⟨W1, hW1⟩ : ∃ W1, W1 = W.alloc (.cells #[.int .u8 0, .int .u8 0, .int .u8 0, .int .u16 0, .int .u16 0, .int .u32 0, .int .u32 0, .slice none 0 0, .slice none 0 0] 27) := ⟨_, rfl⟩
  have b0 : Below W.heap.size W W1 := by rw [hW1]; exact (Below.refl _ _).alloc (Nat.le_refl _) _
  have p0 : Box W1 W.heap.size [.int .u8 0, .int .u8 0, .int .u8 0, .int .u16 0, .int .u16 0, .int .u32 0, .int .u32 0, .slice none 0 0, .slice none 0 0] := by rw [hW1]; exact Box.made _ #[.int .u8 0, .int .u8 0, .int .u8 0, .int .u16 0, .int .u16 0, .int .u32 0, .int .u32 0, .slice none 0 0, .slice none 0 0] _
  obtain ⟨W2, hW2⟩ : ∃ W2, W2 = W1.alloc (.cells #[.int .u8 0, .int .u8 0, .int .u8 0, .int .u16 0, .int .u16 0, .int .u32 0, .int .u32 0, .slice none 0 0, .slice none 0 0] 27) := ⟨_, rfl⟩
  have b2 : Below W1.heap.size W1 W2 := by rw [hW2]; exact (Below.refl _ _).alloc (Nat.le_refl _) _
  have k2 : Box W2 W1.heap.size [.int .u8 0, .int .u8 0, .int .u8 0, .int .u16 0, .int .u16 0, .int .u32 0, .int .u32 0, .slice none 0 0, .slice none 0 0] := by rw [hW2]; exact Box.made _ #[.int .u8 0, .int .u8 0, .int .u8 0, .int .u16 0, .int .u16 0, .int .u32 0, .int .u32 0, .slice none 0 0, .slice none 0 0] _
  have z1 : W1.heap.size = W.heap.size + 1 := by rw [hW1]; simp
  rw [z1] at k2
  have p2 := p0.next b2
  have B2 := hid (b0.trans (b2.mono b0.size))
  have N := (((h.next b0).next b2).get hm)
  have hlen := N.len
  have hle := N.le
  have hmx := N.max
  unfold maxLen at hmx
  have HS := hid h
  have HW1 := hid hW1
  have HW2 := hid hW2
  have Z1 := hid z1
  have M := hid hm
  have HB := hid hb
  have HT := hid (show ipP l = if whyL l = 0 then (dgL l, 0) else (Dg.none, whyL l) from rfl)
  have c0 := p2.at_ 0 _ rfl
  have c1 := p2.at_ 1 _ rfl
  have c2 := p2.at_ 2 _ rfl
  have c3 := p2.at_ 3 _ rfl
  have c4 := p2.at_ 4 _ rfl
  have c5 := p2.at_ 5 _ rfl
  have c6 := p2.at_ 6 _ rfl
  have c7 := p2.at_ 7 _ rfl
  have c8 := p2.at_ 8 _ rfl
  have f0 := p2.fr 0
  have f1 := p2.fr 1
  have f2 := p2.fr 2
  have f3 := p2.fr 3
  have f4 := p2.fr 4
  have f5 := p2.fr 5
  have f6 := p2.fr 6
  have f7 := p2.fr 7
  have f8 := p2.fr 8
  have y1 := k2.at_ 0 _ rfl
  have K2 := hid k2
  have P2 := hid p2
  have S2 := hid ((h.next b0).next b2)
  clear h hm hb hW1 hW2 b0 p0 b2 k2 z1 p2 y1
  by_cases h20 : n < 20
  · have hw : whyL l = 10 := by unfold whyL; rw [if_pos (by omega)]
    have HT := hid (show ipP l = (Dg.none, 10) by unfold ipP; rw [if_neg (by rw [hw]; decide), hw])
    have PP := P2
    have BB := B2
    obtain ⟨y0, y1, y2, y3, y4, y5, y6, y7, y8⟩ := box9 K2.out
    have h20' : (n : Int) < 20 := by omega
    have HWY := hid hw
    clear N hlen h20 hw
    go_enter Try.func12, Try.ntmps12
    go_upto_region 1 with fail
    rw [← HW1.out]
    go_upto_region 2 with fail
    rw [← HW2.out, Z1.out]
    have hw := HWY.out
    go_wp2_with fail
    obtain ⟨q0, q1, q2, q3, q4, q5, q6, q7, q8⟩ := set9_at PP.out rfl (.int .u8 0) (.int .u8 0) (.int .u8 0) (.int .u16 0) (.int .u16 0) (.int .u32 0) (.int .u32 0) (.slice none 0 0) (.slice none 0 0)
    unfold set9 at q0 q1 q2 q3 q4 q5 q6 q7 q8
    refine bodyPost_ret (v := .tuple #[.agg #[.int .u8 0, .int .u8 0, .int .u8 0, .int .u16 0, .int .u16 0, .int .u32 0, .int .u32 0, .slice none 0 0, .slice none 0 0], .int .i64 10]) (by simp [results, Try.results12, go_sem, q0, q1, q2, q3, q4, q5, q6, q7, q8]) rfl ?_
    exact ipostF_none 10 HT.out HS.out BB.out
  · obtain ⟨b, off, ha, hb1, hb2, hc⟩ := N.cells (by omega)
    subst ha
    have hx0 := HB.out.at 0
    have k0 : W2.cell? ⟨b, off, none⟩ = some (.int .u8 (l.getD 0 0)) := hc 0 (by omega)
    have hk1 : W2.cell? ⟨b, off + 1, none⟩ = some (.int .u8 (l.getD 1 0)) := hc 1 (by omega)
    have hk8 : W2.cell? ⟨b, off + 8, none⟩ = some (.int .u8 (l.getD 8 0)) := hc 8 (by omega)
    have hk9 : W2.cell? ⟨b, off + 9, none⟩ = some (.int .u8 (l.getD 9 0)) := hc 9 (by omega)
    have HK := hid (And.intro hk1 (And.intro hk8 hk9))
    obtain ⟨x0, hx0e⟩ : ∃ x0, x0 = l.getD 0 0 := ⟨_, rfl⟩
    obtain ⟨s, hse⟩ : ∃ s, s = w2 l 2 := ⟨_, rfl⟩
    have hs1 : 0 ≤ s ∧ s ≤ 65535 := by have := HB.out.at 2; have := HB.out.at (2 + 1); rw [hse]; unfold w2; omega
    obtain ⟨hd, hhd⟩ : ∃ hd, hd = hdL l := ⟨_, rfl⟩
    obtain ⟨al, hal⟩ : ∃ al, al = alL l := ⟨_, rfl⟩
    rw [← hx0e] at k0 hx0
    have hdq : 4 * (x0 % 16) = (hd : Int) := by rw [hhd, hx0e]; unfold hdL; rw [← hx0e]; omega
    have hals : s = (al : Int) := by rw [hal]; unfold alL; rw [← hse]; omega
    obtain ⟨a24, hs24, u1, u2⟩ := slice_both (some ⟨b, off, none⟩) n c 2 4 2 4 rfl rfl (by decide) (by omega)
    have hs24 : ∀ w, (Instr.slice 22 (.slice (some ⟨b, off, none⟩) n c) (some (.int .i64 2)) (some (.int .i64 4)) none).run Try.prog w = .ok (.slice a24 2 (c - 2)) w := hs24
    have N24 := cut_nums N (lo := 2) (hi := 4) (by decide) (by omega) u1 u2
    have HN2 : Hid (∀ wk : World, Below W2.heap.size W2 wk → Calls Try.prog 64 #[.slice a24 2 (c - 2)] wk fun e w' => e = .returned (.int .u64 (al : Int)) ∧ wk = w') := fun wk hb => num2 wk (k := 2) (N24.below hb) (by omega) HB.out (al : Int) (by rw [← hals, hse])
    have HN := hid N
    have HL := hid hlen
    have WC := hid (why_cases l)
    rw [← hhd, ← hal, ← hx0e, hlen] at WC
    have e16 : x0.tmod 16 = x0 % 16 := Int.tmod_eq_emod_of_nonneg hx0.1
    have e16' : x0.tdiv 16 = x0 / 16 := Int.tdiv_eq_ediv_of_nonneg hx0.1
    obtain ⟨q, hq⟩ : ∃ q, q = x0 % 16 := ⟨_, rfl⟩
    have hqb : 0 ≤ q ∧ q ≤ 15 := by omega
    have eq16 : x0 % 16 = q := hq.symm
    rw [← hq] at e16 hdq
    have wq : IntKind.i64.wrap (4 * q) = (hd : Int) := by rw [← hdq]; exact IntWalk.i64_in _ (by omega)
    have hdb : hd ≤ 60 := by omega
    have h20' : ¬ (n : Int) < 20 := by omega
    have hn0 : 0 < n := by omega
    have HHD := hid hhd
    have HAL := hid hal
    have HX0 := hid hx0e
    subst hals
    clear hc N N24 hlen hx0e hse hhd hal hq h20 u1 u2 hk1 hk8 hk9
    go_enter Try.func12, Try.ntmps12
    go_upto_region 1 with fail
    rw [← HW1.out]
    go_upto_region 2 with fail
    rw [← HW2.out, Z1.out]
    go_upto_region 4 with fail
    go_quiet ((go_at_call 64; exact quiet_l (HN2.out _ (below_drewN (Below.refl _ _) _))))
    obtain ⟨W3, hW3⟩ : ∃ W3, W3 = W2.drewN nq := ⟨_, rfl⟩
    have b3 : Below W2.heap.size W2 W3 := by rw [hW3]; exact below_drewN (Below.refl _ _) _
    have sz3 : W3.heap.size = W2.heap.size := by rw [hW3]; rfl
    have HW3 := hid hW3
    rw [← HW3.out]
    have PP := hid (P2.out.next b3)
    have K3 := hid (K2.out.next b3)
    have BB := hid (B2.out.trans (b3.mono B2.out.size))
    have k3 := keep_cell b3 k0
    have B3 := hid b3
    have SZ := hid sz3
    clear hW3 b3 sz3 c0 f0 c1 f1 c2 f2 c3 f3 c4 f4 c5 f5 c6 f6 c7 f7 c8 f8 hs24 k0 e16 eq16 wq hdq hqb
    have c0 := PP.out.at_ 0 _ rfl
    have c1 := PP.out.at_ 1 _ rfl
    have c2 := PP.out.at_ 2 _ rfl
    have c3 := PP.out.at_ 3 _ rfl
    have c4 := PP.out.at_ 4 _ rfl
    have c5 := PP.out.at_ 5 _ rfl
    have c6 := PP.out.at_ 6 _ rfl
    have c7 := PP.out.at_ 7 _ rfl
    have c8 := PP.out.at_ 8 _ rfl
    have f0 := PP.out.fr 0
    have f1 := PP.out.fr 1
    have f2 := PP.out.fr 2
    have f3 := PP.out.fr 3
    have f4 := PP.out.fr 4
    have f5 := PP.out.fr 5
    have f6 := PP.out.fr 6
    have f7 := PP.out.fr 7
    have f8 := PP.out.fr 8
    obtain ⟨y0, y1, y2, y3, y4, y5, y6, y7, y8⟩ := box9 K3.out
    rcases WC.out with ⟨h1, _⟩ | ⟨_, h2, hw⟩ | ⟨_, h2, h3, h4, h5, hw⟩ | ⟨_, h2, h3, h4, h5, h6, hw⟩ | ⟨_, h2, h3, h4, h5, h6, hw⟩
    · omega
    · have HT := hid (show ipP l = (Dg.none, 11) by unfold ipP; rw [if_neg (by rw [hw]; decide), hw])
      clear WC hw
      by_cases hx4 : x0 / 16 = 4
      · have hv : (x0 / 16 != 4) = false := by simp [hx4]
        by_cases hd20 : hd < 20
        · have hd20' : (hd : Int) < 20 := by omega
          clear hx4 h2 hd20
          go_wp2_with fail
          obtain ⟨q0, q1, q2, q3, q4, q5, q6, q7, q8⟩ := set9_at PP.out rfl (.int .u8 0) (.int .u8 0) (.int .u8 0) (.int .u16 0) (.int .u16 0) (.int .u32 0) (.int .u32 0) (.slice none 0 0) (.slice none 0 0)
          unfold set9 at q0 q1 q2 q3 q4 q5 q6 q7 q8
          refine bodyPost_ret (v := .tuple #[.agg #[.int .u8 0, .int .u8 0, .int .u8 0, .int .u16 0, .int .u16 0, .int .u32 0, .int .u32 0, .slice none 0 0, .slice none 0 0], .int .i64 11]) (by simp [results, Try.results12, go_sem, q0, q1, q2, q3, q4, q5, q6, q7, q8]) rfl ?_
          exact ipostF_none 11 HT.out HS.out BB.out
        · have hd20' : ¬ (hd : Int) < 20 := by omega
          have had : (al : Int) < hd := by omega
          clear hx4 h2 hd20
          go_wp2_with fail
          obtain ⟨q0, q1, q2, q3, q4, q5, q6, q7, q8⟩ := set9_at PP.out rfl (.int .u8 0) (.int .u8 0) (.int .u8 0) (.int .u16 0) (.int .u16 0) (.int .u32 0) (.int .u32 0) (.slice none 0 0) (.slice none 0 0)
          unfold set9 at q0 q1 q2 q3 q4 q5 q6 q7 q8
          refine bodyPost_ret (v := .tuple #[.agg #[.int .u8 0, .int .u8 0, .int .u8 0, .int .u16 0, .int .u16 0, .int .u32 0, .int .u32 0, .slice none 0 0, .slice none 0 0], .int .i64 11]) (by simp [results, Try.results12, go_sem, q0, q1, q2, q3, q4, q5, q6, q7, q8]) rfl ?_
          exact ipostF_none 11 HT.out HS.out BB.out
      · have hv : (x0 / 16 != 4) = true := by simp [hx4]
        clear hx4 h2
        go_wp2_with fail
        obtain ⟨q0, q1, q2, q3, q4, q5, q6, q7, q8⟩ := set9_at PP.out rfl (.int .u8 0) (.int .u8 0) (.int .u8 0) (.int .u16 0) (.int .u16 0) (.int .u32 0) (.int .u32 0) (.slice none 0 0) (.slice none 0 0)
        unfold set9 at q0 q1 q2 q3 q4 q5 q6 q7 q8
        refine bodyPost_ret (v := .tuple #[.agg #[.int .u8 0, .int .u8 0, .int .u8 0, .int .u16 0, .int .u16 0, .int .u32 0, .int .u32 0, .slice none 0 0, .slice none 0 0], .int .i64 11]) (by simp [results, Try.results12, go_sem, q0, q1, q2, q3, q4, q5, q6, q7, q8]) rfl ?_
        exact ipostF_none 11 HT.out HS.out BB.out
    · have HT := hid (show ipP l = (Dg.none, 10) by unfold ipP; rw [if_neg (by rw [hw]; decide), hw])
      have hv : (x0 / 16 != 4) = false := by simp [h2]
      have hd20' : ¬ (hd : Int) < 20 := by omega
      have had : ¬ (al : Int) < hd := by omega
      have hna : (n : Int) < al := by omega
      clear WC hw h2 h3 h4 h5
      go_wp2_with fail
      obtain ⟨q0, q1, q2, q3, q4, q5, q6, q7, q8⟩ := set9_at PP.out rfl (.int .u8 0) (.int .u8 0) (.int .u8 0) (.int .u16 0) (.int .u16 0) (.int .u32 0) (.int .u32 0) (.slice none 0 0) (.slice none 0 0)
      unfold set9 at q0 q1 q2 q3 q4 q5 q6 q7 q8
      refine bodyPost_ret (v := .tuple #[.agg #[.int .u8 0, .int .u8 0, .int .u8 0, .int .u16 0, .int .u16 0, .int .u32 0, .int .u32 0, .slice none 0 0, .slice none 0 0], .int .i64 10]) (by simp [results, Try.results12, go_sem, q0, q1, q2, q3, q4, q5, q6, q7, q8]) rfl ?_
      exact ipostF_none 10 HT.out HS.out BB.out
    · have HT := hid (show ipP l = (Dg.none, 50) by unfold ipP; rw [if_neg (by rw [hw]; decide), hw])
      have hv : (x0 / 16 != 4) = false := by simp [h2]
      have hd20' : ¬ (hd : Int) < 20 := by omega
      have had : ¬ (al : Int) < hd := by omega
      have hna : ¬ (n : Int) < al := by omega
      have hdc : hd ≤ c := by omega
      have hsl := slice_to (some ⟨b, off, none⟩) n c hd hdc
      have HR := hid (ref_of W3 ((HN.out.below B3.out).take (m := hd) (by omega)) (fun x hx => HB.out x (List.mem_of_mem_take hx)) (by omega) (by rw [SZ.out]; exact Nat.le_refl _))
      obtain ⟨ck, hck⟩ : ∃ ck, ck = chk (l.take hd) := ⟨_, rfl⟩
      rw [← hck] at HR h6
      have h6' : ((ck : Int) != 0) = true := by simp; omega
      have PP0 := PP
      have BB0 := BB
      clear WC hw h2 h3 h4 h5 h6 hck PP BB c0 f0 c1 f1 c2 f2 c3 f3 c4 f4 c5 f5 c6 f6 c7 f7 c8 f8 y1 y2 y3 y4 y5 y6 y7 y8 y0
      go_upto_if 48 with (go_at_call 65; ((with_reducible refine HR.out.mono ?_); rintro e w4 ⟨rfl, b4⟩))
      have PP := hid (PP0.out.next b4)
      have BB := hid (BB0.out.trans (b4.mono BB0.out.size))
      obtain ⟨y0, y1, y2, y3, y4, y5, y6, y7, y8⟩ := box9 (K3.out.next b4)
      have c0 := PP.out.at_ 0 _ rfl
      have c1 := PP.out.at_ 1 _ rfl
      have c2 := PP.out.at_ 2 _ rfl
      have c3 := PP.out.at_ 3 _ rfl
      have c4 := PP.out.at_ 4 _ rfl
      have c5 := PP.out.at_ 5 _ rfl
      have c6 := PP.out.at_ 6 _ rfl
      have c7 := PP.out.at_ 7 _ rfl
      have c8 := PP.out.at_ 8 _ rfl
      have f0 := PP.out.fr 0
      have f1 := PP.out.fr 1
      have f2 := PP.out.fr 2
      have f3 := PP.out.fr 3
      have f4 := PP.out.fr 4
      have f5 := PP.out.fr 5
      have f6 := PP.out.fr 6
      have f7 := PP.out.fr 7
      have f8 := PP.out.fr 8
      go_wp2_with fail
      obtain ⟨q0, q1, q2, q3, q4, q5, q6, q7, q8⟩ := set9_at PP.out rfl (.int .u8 0) (.int .u8 0) (.int .u8 0) (.int .u16 0) (.int .u16 0) (.int .u32 0) (.int .u32 0) (.slice none 0 0) (.slice none 0 0)
      unfold set9 at q0 q1 q2 q3 q4 q5 q6 q7 q8
      refine bodyPost_ret (v := .tuple #[.agg #[.int .u8 0, .int .u8 0, .int .u8 0, .int .u16 0, .int .u16 0, .int .u32 0, .int .u32 0, .slice none 0 0, .slice none 0 0], .int .i64 50]) (by simp [results, Try.results12, go_sem, q0, q1, q2, q3, q4, q5, q6, q7, q8]) rfl ?_
      exact ipostF_none 50 HT.out HS.out BB.out
    · have HT := hid (show ipP l = (dgL l, 0) by unfold ipP; rw [if_pos hw])
      have hv : (x0 / 16 != 4) = false := by simp [h2]
      have hd20' : ¬ (hd : Int) < 20 := by omega
      have had : ¬ (al : Int) < hd := by omega
      have hna : ¬ (n : Int) < al := by omega
      have hdc : hd ≤ c := by omega
      have hsl := slice_to (some ⟨b, off, none⟩) n c hd hdc
      have HR := hid (ref_of W3 ((HN.out.below B3.out).take (m := hd) (by omega)) (fun x hx => HB.out x (List.mem_of_mem_take hx)) (by omega) (by rw [SZ.out]; exact Nat.le_refl _))
      rw [h6] at HR
      have F3 := hid (And.intro h3 (And.intro h4 h5))
      have PP0 := PP
      have BB0 := BB
      clear WC hw h2 h3 h4 h5 h6 PP BB c0 f0 c1 f1 c2 f2 c3 f3 c4 f4 c5 f5 c6 f6 c7 f7 c8 f8 y1 y2 y3 y4 y5 y6 y7 y8 y0
      go_upto_region 11 with (go_at_call 65; ((with_reducible refine HR.out.mono ?_); rintro e w4 ⟨rfl, b4⟩))
      have B4 := hid (B3.out.trans (b4.mono (by rw [SZ.out]; exact Nat.le_refl _)))
      have PP4 := hid (PP0.out.next b4)
      have BB4 := hid (BB0.out.trans (b4.mono BB0.out.size))
      obtain ⟨D, hD⟩ : ∃ D, D = dgL l := ⟨_, rfl⟩
      have HD := hid hD
      obtain ⟨hk1, hk8, hk9⟩ := HK.out
      have k1 : w4.cell? ⟨b, off + 1, none⟩ = some (.int .u8 D.t) := (keep_cell B4.out hk1).trans (by rw [hD]; rfl)
      have k8 : w4.cell? ⟨b, off + 8, none⟩ = some (.int .u8 D.ttl) := (keep_cell B4.out hk8).trans (by rw [hD]; rfl)
      have k9 : w4.cell? ⟨b, off + 9, none⟩ = some (.int .u8 D.pr) := (keep_cell B4.out hk9).trans (by rw [hD]; rfl)
      have hn1 : (1 : Int) < n := by omega
      have hn8 : (8 : Int) < n := by omega
      have hn9 : (9 : Int) < n := by omega
      clear hD hk1 hk8 hk9 b4 k3 hv hsl e16'
      have j1 := keep_cell ((Below.refl w4.heap.size w4).alloc (Nat.le_refl _) (.cells #[.int .u8 0, .int .u8 0, .int .u8 0, .int .u16 0, .int .u16 0, .int .u32 0, .int .u32 0, .slice none 0 0, .slice none 0 0] 27)) k1
      have j8 := keep_cell ((Below.refl w4.heap.size w4).alloc (Nat.le_refl _) (.cells #[.int .u8 0, .int .u8 0, .int .u8 0, .int .u16 0, .int .u16 0, .int .u32 0, .int .u32 0, .slice none 0 0, .slice none 0 0] 27)) k8
      have j9 := keep_cell ((Below.refl w4.heap.size w4).alloc (Nat.le_refl _) (.cells #[.int .u8 0, .int .u8 0, .int .u8 0, .int .u16 0, .int .u16 0, .int .u32 0, .int .u32 0, .slice none 0 0, .slice none 0 0] 27)) k9
      go_region
      obtain ⟨W7, hW7⟩ : ∃ W7, W7 = (w4.alloc (.cells #[.int .u8 D.t, .int .u8 D.ttl, .int .u8 D.pr, .int .u16 0, .int .u16 0, .int .u32 0, .int .u32 0, .slice none 0 0, .slice none 0 0] 27)).drew := ⟨_, rfl⟩
      have b7 : Below w4.heap.size w4 W7 := by rw [hW7]; exact ((Below.refl _ _).alloc (Nat.le_refl _) _).drew
      have z7 : W7.heap.size = w4.heap.size + 1 := by rw [hW7]; simp [World.drew]
      have p7 : RS w4 W7 [.int .u8 D.t, .int .u8 D.ttl, .int .u8 D.pr, .int .u16 0, .int .u16 0, .int .u32 0, .int .u32 0, .slice none 0 0, .slice none 0 0] := ⟨by rw [hW7]; exact (Box.made w4 #[.int .u8 D.t, .int .u8 D.ttl, .int .u8 D.pr, .int .u16 0, .int .u16 0, .int .u32 0, .int .u32 0, .slice none 0 0, .slice none 0 0] _).next ((Below.refl _ _).drew), b7⟩
      have HW7 := hid hW7
      have Z7 := hid z7
      rw [← HW7.out]
      have N4 := hid (HN.out.below B4.out)
      have hle4 := B4.out.size
      have dI := hid (show ipm.w2 l 4 = D.id by rw [HD.out]; rfl)
      have dF := hid (show ipm.w2 l 6 = D.fr by rw [HD.out]; rfl)
      have dS := hid (show ipm.w4 l 12 = D.src by rw [HD.out]; rfl)
      have dD := hid (show ipm.w4 l 16 = D.dst by rw [HD.out]; rfl)
      have bI : 0 ≤ D.id ∧ D.id ≤ 65535 := by rw [← dI.out]; have := HB.out.at 4; have := HB.out.at (4 + 1); unfold w2; omega
      have bF : 0 ≤ D.fr ∧ D.fr ≤ 65535 := by rw [← dF.out]; have := HB.out.at 6; have := HB.out.at (6 + 1); unfold w2; omega
      have bS : 0 ≤ D.src ∧ D.src ≤ 4294967295 := by rw [← dS.out]; have := HB.out.at 12; have := HB.out.at (12 + 1); have := HB.out.at (12 + 2); have := HB.out.at (12 + 3); unfold ipm.w4; omega
      have bD : 0 ≤ D.dst ∧ D.dst ≤ 4294967295 := by rw [← dD.out]; have := HB.out.at 16; have := HB.out.at (16 + 1); have := HB.out.at (16 + 2); have := HB.out.at (16 + 3); unfold ipm.w4; omega
      have oI : IntKind.u16.wrap D.id = D.id := by rw [IntKind.wrap_u16]; omega
      have oF : IntKind.u16.wrap D.fr = D.fr := by rw [IntKind.wrap_u16]; omega
      have oS : IntKind.u32.wrap D.src = D.src := by rw [IntKind.wrap_u32]; omega
      have oD : IntKind.u32.wrap D.dst = D.dst := by rw [IntKind.wrap_u32]; omega
      obtain ⟨sI, hsI, u1, u2⟩ := slice_both (some ⟨b, off, none⟩) n c 4 6 4 6 rfl rfl (by decide) (by omega)
      have hsI : ∀ w, (Instr.slice 22 (.slice (some ⟨b, off, none⟩) n c) (some (.int .i64 4)) (some (.int .i64 6)) none).run Try.prog w = .ok (.slice sI 2 (c - 4)) w := hsI
      have nI := cut_nums N4.out (lo := 4) (hi := 6) (by decide) (by omega) u1 u2
      have NNI : Hid (∀ wk : World, Below w4.heap.size w4 wk → Calls Try.prog 64 #[.slice sI 2 (c - 4)] wk fun e w' => e = .returned (.int .u64 D.id) ∧ wk = w') := fun wk hb => num2 wk (k := 4) (nI.below (hb.mono hle4)) (by have := HL.out; omega) HB.out D.id dI.out
      clear u1 u2 nI
      obtain ⟨sF, hsF, u1, u2⟩ := slice_both (some ⟨b, off, none⟩) n c 6 8 6 8 rfl rfl (by decide) (by omega)
      have hsF : ∀ w, (Instr.slice 22 (.slice (some ⟨b, off, none⟩) n c) (some (.int .i64 6)) (some (.int .i64 8)) none).run Try.prog w = .ok (.slice sF 2 (c - 6)) w := hsF
      have nF := cut_nums N4.out (lo := 6) (hi := 8) (by decide) (by omega) u1 u2
      have NNF : Hid (∀ wk : World, Below w4.heap.size w4 wk → Calls Try.prog 64 #[.slice sF 2 (c - 6)] wk fun e w' => e = .returned (.int .u64 D.fr) ∧ wk = w') := fun wk hb => num2 wk (k := 6) (nF.below (hb.mono hle4)) (by have := HL.out; omega) HB.out D.fr dF.out
      clear u1 u2 nF
      obtain ⟨sS, hsS, u1, u2⟩ := slice_both (some ⟨b, off, none⟩) n c 12 16 12 16 rfl rfl (by decide) (by omega)
      have hsS : ∀ w, (Instr.slice 22 (.slice (some ⟨b, off, none⟩) n c) (some (.int .i64 12)) (some (.int .i64 16)) none).run Try.prog w = .ok (.slice sS 4 (c - 12)) w := hsS
      have nS := cut_nums N4.out (lo := 12) (hi := 16) (by decide) (by omega) u1 u2
      have NNS : Hid (∀ wk : World, Below w4.heap.size w4 wk → Calls Try.prog 64 #[.slice sS 4 (c - 12)] wk fun e w' => e = .returned (.int .u64 D.src) ∧ wk = w') := fun wk hb => num4 wk (k := 12) (nS.below (hb.mono hle4)) (by have := HL.out; omega) HB.out D.src dS.out
      clear u1 u2 nS
      obtain ⟨sD, hsD, u1, u2⟩ := slice_both (some ⟨b, off, none⟩) n c 16 20 16 20 rfl rfl (by decide) (by omega)
      have hsD : ∀ w, (Instr.slice 22 (.slice (some ⟨b, off, none⟩) n c) (some (.int .i64 16)) (some (.int .i64 20)) none).run Try.prog w = .ok (.slice sD 4 (c - 16)) w := hsD
      have nD := cut_nums N4.out (lo := 16) (hi := 20) (by decide) (by omega) u1 u2
      have NND : Hid (∀ wk : World, Below w4.heap.size w4 wk → Calls Try.prog 64 #[.slice sD 4 (c - 16)] wk fun e w' => e = .returned (.int .u64 D.dst) ∧ wk = w') := fun wk hb => num4 wk (k := 16) (nD.below (hb.mono hle4)) (by have := HL.out; omega) HB.out D.dst dD.out
      clear u1 u2 nD
      have hw4 := b7.size
      clear hW7 b7 z7 k1 k8 k9 j1 j8 j9 hn1 hn8 hn9 had hna hd20'
      have c3 := p7.box.at_ 3 _ rfl
      have f3 := p7.box.fr 3
      go_upto_region 13 with (go_at_call 64; ((with_reducible refine (NNI.out _ p7.bel).mono ?_); rintro e w' ⟨rfl, rfl⟩))
      obtain ⟨X3, hX3⟩ : ∃ X3, X3 = W7.setCell ⟨w4.heap.size, 3, none⟩ (.int .u16 D.id) := ⟨_, rfl⟩
      have pX3 : RS w4 X3 [.int .u8 D.t, .int .u8 D.ttl, .int .u8 D.pr, .int .u16 D.id, .int .u16 0, .int .u32 0, .int .u32 0, .slice none 0 0, .slice none 0 0] := by rw [hX3]; exact p7.set 3 (.int .u16 D.id)
      have HX3 := hid hX3
      clear hX3 c3 f3 hsI oI
      rw [← HX3.out]
      have c4 := pX3.box.at_ 4 _ rfl
      have f4 := pX3.box.fr 4
      go_upto_region 14 with (go_at_call 64; ((with_reducible refine (NNF.out _ pX3.bel).mono ?_); rintro e w' ⟨rfl, rfl⟩))
      obtain ⟨X4, hX4⟩ : ∃ X4, X4 = X3.setCell ⟨w4.heap.size, 4, none⟩ (.int .u16 D.fr) := ⟨_, rfl⟩
      have pX4 : RS w4 X4 [.int .u8 D.t, .int .u8 D.ttl, .int .u8 D.pr, .int .u16 D.id, .int .u16 D.fr, .int .u32 0, .int .u32 0, .slice none 0 0, .slice none 0 0] := by rw [hX4]; exact pX3.set 4 (.int .u16 D.fr)
      have HX4 := hid hX4
      clear hX4 c4 f4 hsF oF
      rw [← HX4.out]
      have c5 := pX4.box.at_ 5 _ rfl
      have f5 := pX4.box.fr 5
      go_upto_region 15 with (go_at_call 64; ((with_reducible refine (NNS.out _ pX4.bel).mono ?_); rintro e w' ⟨rfl, rfl⟩))
      obtain ⟨X5, hX5⟩ : ∃ X5, X5 = X4.setCell ⟨w4.heap.size, 5, none⟩ (.int .u32 D.src) := ⟨_, rfl⟩
      have pX5 : RS w4 X5 [.int .u8 D.t, .int .u8 D.ttl, .int .u8 D.pr, .int .u16 D.id, .int .u16 D.fr, .int .u32 D.src, .int .u32 0, .slice none 0 0, .slice none 0 0] := by rw [hX5]; exact pX4.set 5 (.int .u32 D.src)
      have HX5 := hid hX5
      clear hX5 c5 f5 hsS oS
      rw [← HX5.out]
      have c6 := pX5.box.at_ 6 _ rfl
      have f6 := pX5.box.fr 6
      go_upto_region 16 with (go_at_call 64; ((with_reducible refine (NND.out _ pX5.bel).mono ?_); rintro e w' ⟨rfl, rfl⟩))
      obtain ⟨X6, hX6⟩ : ∃ X6, X6 = X5.setCell ⟨w4.heap.size, 6, none⟩ (.int .u32 D.dst) := ⟨_, rfl⟩
      have pX6 : RS w4 X6 [.int .u8 D.t, .int .u8 D.ttl, .int .u8 D.pr, .int .u16 D.id, .int .u16 D.fr, .int .u32 D.src, .int .u32 D.dst, .slice none 0 0, .slice none 0 0] := by rw [hX6]; exact pX5.set 6 (.int .u32 D.dst)
      have HX6 := hid hX6
      clear hX6 c6 f6 hsD oD
      rw [← HX6.out]
      obtain ⟨sO, hsO, u1, u2⟩ := slice_both (some ⟨b, off, none⟩) n c 20 hd 20 hd rfl rfl F3.out.1 (by omega)
      have nO := hid (cut_nums N4.out (lo := 20) (hi := hd) F3.out.1 (by have := F3.out; omega) u1 u2)
      obtain ⟨sA, hsA, v1, v2⟩ := slice_both (some ⟨b, off, none⟩) n c hd al hd al rfl rfl F3.out.2.1 (by have := F3.out; omega)
      have nA := hid (cut_nums N4.out (lo := hd) (hi := al) F3.out.2.1 F3.out.2.2 v1 v2)
      have LO := hid (show (l.take hd).drop 20 = D.o by rw [HD.out, HHD.out]; rfl)
      have LA := hid (show (l.take al).drop hd = D.d by rw [HD.out, HHD.out, HAL.out]; rfl)
      clear u1 u2 v1 v2
      have hal2 : al ≤ 2000 := by have := F3.out; omega
      have c7 := pX6.box.at_ 7 _ rfl
      have f7 := pX6.box.fr 7
      have zz := pX6.bel.size
      have z77 := pX6.box.lt
      go_region_law (first | (refine step_append_nums rfl (.tmp 81) (.tmp 84) 22 rfl (w4.heap.size + 1) 5 i0 (.int .u8 0) 1 Try.underlying22 hi hi0 hi1 hi2 rfl _ 0 [] rfl (World.ownsRow_nil _ _ _ _) _ (hd - 20) (c - 20) _ _ rfl (nO.out.below (((pX6.bel).drew).mono hle4)) (by unfold maxLen; omega) (by omega) (by show w4.heap.size + 1 ≤ X6.heap.size; omega) ?_; intro v8 w8 g8 r8; obtain ⟨a8, cc8, rfl⟩ := own_slice g8; have r8' : Below X6.heap.size X6 w8 := ((Below.refl _ _).drew).trans (below_none (Below.refl _ _) (by exact r8) (by exact Nat.le_refl _)); have q7 := (pX6.next r8').box.at_ 7 _ rfl; have g7 := (pX6.next r8').box.fr 7))
      have N8 := own_nums g8
      have F8 := hid (own_from g8)
      rw [List.nil_append, LO.out, Nat.zero_add] at N8
      have gs8 := gb_setCell (World.grownBy.refl w8 (some w4.heap.size)) (p := ⟨w4.heap.size, 7, none⟩) rfl (.slice a8 (hd - 20) cc8)
      obtain ⟨X7, hX7⟩ : ∃ X7, X7 = w8.setCell ⟨w4.heap.size, 7, none⟩ (.slice a8 (hd - 20) cc8) := ⟨_, rfl⟩
      have pX7 : RS w4 X7 [.int .u8 D.t, .int .u8 D.ttl, .int .u8 D.pr, .int .u16 D.id, .int .u16 D.fr, .int .u32 D.src, .int .u32 D.dst, .slice a8 (hd - 20) cc8, .slice none 0 0] := by rw [hX7]; exact (pX6.next r8').set 7 (.slice a8 (hd - 20) cc8)
      rw [← hX7] at gs8
      have N8' := hid ((nums_grown N8 gs8 (fun b o s hb => by have := F8.out b o s hb; omega)).mono gs8.size)
      have HX7 := hid hX7
      clear hX7 N8 gs8 g8 r8 r8' q7 g7 c7 f7 zz z77
      go_wp2_with fail
      rw [← HX7.out]
      have c8 := pX7.box.at_ 8 _ rfl
      have f8 := pX7.box.fr 8
      have zz := pX7.bel.size
      have z77 := pX7.box.lt
      go_region_law (first | (refine step_append_nums rfl (.tmp 88) (.tmp 92) 22 rfl (w4.heap.size + 1) 5 i0 (.int .u8 0) 1 Try.underlying22 hi hi0 hi1 hi2 rfl _ 0 [] rfl (World.ownsRow_nil _ _ _ _) _ (al - hd) (c - hd) _ _ rfl (nA.out.below (((pX7.bel).drew).mono hle4)) (by unfold maxLen; omega) (by omega) (by show w4.heap.size + 1 ≤ X7.heap.size; omega) ?_; intro v9 w9 g9 r9; obtain ⟨a9, cc9, rfl⟩ := own_slice g9; have r9' : Below X7.heap.size X7 w9 := ((Below.refl _ _).drew).trans (below_none (Below.refl _ _) (by exact r9) (by exact Nat.le_refl _)); have q8 := (pX7.next r9').box.at_ 8 _ rfl; have g8 := (pX7.next r9').box.fr 8))
      have N9 := own_nums g9
      have F9 := hid (own_from g9)
      rw [List.nil_append, LA.out, Nat.zero_add] at N9
      have M8 := hid ((N8'.out.below r9').mono r9'.size)
      have gs9 := gb_setCell (World.grownBy.refl w9 (some w4.heap.size)) (p := ⟨w4.heap.size, 8, none⟩) rfl (.slice a9 (al - hd) cc9)
      obtain ⟨X8, hX8⟩ : ∃ X8, X8 = w9.setCell ⟨w4.heap.size, 8, none⟩ (.slice a9 (al - hd) cc9) := ⟨_, rfl⟩
      have pX8 : RS w4 X8 (valD D a8 (hd - 20) cc8 a9 (al - hd) cc9).toList := by rw [hX8]; exact (pX7.next r9').set 8 (.slice a9 (al - hd) cc9)
      rw [← hX8] at gs9
      have N9' := hid ((nums_grown N9 gs9 (fun b o s hb => by have := F9.out b o s hb; omega)).mono gs9.size)
      have M8' := hid ((nums_grown M8.out gs9 (fun b o s hb => by have := F8.out b o s hb; omega)).mono gs9.size)
      have HX8 := hid hX8
      clear hX8 N9 gs9 g9 r9 r9' q8 g8 c8 f8 zz z77
      go_upto_region 18 with fail
      rw [← HX8.out]
      obtain ⟨y0, y1, y2, y3, y4, y5, y6, y7, y8⟩ := cells9 (D := D) (ao := a8) (no := hd - 20) (co := cc8) (ad := a9) (nd := al - hd) (cd := cc9) pX8.box
      have PP := hid (PP4.out.next pX8.bel)
      have c0 := PP.out.at_ 0 _ rfl
      have c1 := PP.out.at_ 1 _ rfl
      have c2 := PP.out.at_ 2 _ rfl
      have c3 := PP.out.at_ 3 _ rfl
      have c4 := PP.out.at_ 4 _ rfl
      have c5 := PP.out.at_ 5 _ rfl
      have c6 := PP.out.at_ 6 _ rfl
      have c7 := PP.out.at_ 7 _ rfl
      have c8 := PP.out.at_ 8 _ rfl
      have f0 := PP.out.fr 0
      have f1 := PP.out.fr 1
      have f2 := PP.out.fr 2
      have f3 := PP.out.fr 3
      have f4 := PP.out.fr 4
      have f5 := PP.out.fr 5
      have f6 := PP.out.fr 6
      have f7 := PP.out.fr 7
      have f8 := PP.out.fr 8
      have PX8 := hid pX8
      have hPP4 := PP4.out.lt
      clear pX8
      go_wp2_with fail
      obtain ⟨q0, q1, q2, q3, q4, q5, q6, q7, q8⟩ := set9_at PP.out rfl (.int .u8 D.t) (.int .u8 D.ttl) (.int .u8 D.pr) (.int .u16 D.id) (.int .u16 D.fr) (.int .u32 D.src) (.int .u32 D.dst) (.slice a8 (hd - 20) cc8) (.slice a9 (al - hd) cc9)
      unfold set9 at q0 q1 q2 q3 q4 q5 q6 q7 q8
      refine bodyPost_ret (v := .tuple #[.agg #[.int .u8 D.t, .int .u8 D.ttl, .int .u8 D.pr, .int .u16 D.id, .int .u16 D.fr, .int .u32 D.src, .int .u32 D.dst, .slice a8 (hd - 20) cc8, .slice a9 (al - hd) cc9], .int .i64 0]) (by simp [results, Try.results12, go_sem, q0, q1, q2, q3, q4, q5, q6, q7, q8]) rfl ?_
      rw [HT.out]
      have gF := set9_grown X8 W.heap.size (.int .u8 D.t) (.int .u8 D.ttl) (.int .u8 D.pr) (.int .u16 D.id) (.int .u16 D.fr) (.int .u32 D.src) (.int .u32 D.dst) (.slice a8 (hd - 20) cc8) (.slice a9 (al - hd) cc9)
      have hBB4 := BB4.out.size
      refine ⟨a8, hd - 20, cc8, a9, al - hd, cc9, by rw [← HD.out]; rfl, fun b o s hb => (by have := F8.out b o s hb; omega), fun b o s hb => (by have := F9.out b o s hb; omega), ?_⟩
      show St w _ ((a8, hd - 20, cc8, (dgL l).o) :: (a9, al - hd, cc9, (dgL l).d) :: L)
      rw [← HD.out]
      have e8 := (nums_grown M8'.out gF (fun b o s hb => by have := F8.out b o s hb; omega)).mono gF.size
      have e9 := (nums_grown N9'.out gF (fun b o s hb => by have := F9.out b o s hb; omega)).mono gF.size
      have bF := BB4.out.trans (PX8.out.bel.mono BB4.out.size)
      exact ((HS.out.next (gb_below bF gF bF.size (Nat.le_refl _))).push e9).push e8
theorem rparse_any {w W : World} {L : List Sl} {a : Option Addr} {n c : Nat} {l : List Int} (h : St w W L) (hm : (a, n, c, l) ∈ L) (hb : Oct l) (hn : n ≤ 2000) :
    Calls Try.prog 12 #[.slice a n c] W (IPost (ipP l) w L) :=
  (rparse_from h hm hb hn).mono fun e W' ⟨ao, no, co, ad, nd, cd, he, _, _, hs⟩ => ⟨ao, no, co, ad, nd, cd, he, hs⟩
theorem ipostF_open {t ttl pr id fr src dst : Int} {lo ld : List Int} {E : Int} {W w W' : World} {L : List Sl} {e : Ending} (h : IPostF W (⟨t, ttl, pr, id, fr, src, dst, lo, ld⟩, E) w L e W') :
    ∃ ao no co ad nd cd, e = .returned (.tuple #[.agg #[.int .u8 t, .int .u8 ttl, .int .u8 pr, .int .u16 id, .int .u16 fr, .int .u32 src, .int .u32 dst, .slice ao no co, .slice ad nd cd], .int .i64 E]) ∧ (∀ b o s, ao = some ⟨b, o, s⟩ → W.heap.size ≤ b) ∧ (∀ b o s, ad = some ⟨b, o, s⟩ → W.heap.size ≤ b) ∧ St w W' ((ao, no, co, lo) :: (ad, nd, cd, ld) :: L) := h
end Go.Proofs.Ytidenjinagpphab.ipc
