/- ip4: the contract of Parse. -/
import Derived.Test.YtidenjinagpphabIp4P
namespace Go.Proofs.Ytidenjinagpphab.ipc
open Go.RowKit
open Go.Proofs.Ytidenjinagpphab.kit Go.Proofs.Ytidenjinagpphab.bec Go.Proofs.Ytidenjinagpphab.ipm Go.Proofs.Ytidenjinagpphab.sm Go.Proofs.Ytidenjinagpphab.sc
set_option linter.unusedVariables false
set_option maxRecDepth 20000

/-- a reader, and a datagram that is being put together -/
structure PS (W2 wk : World) (vs : List Value) (l : List Int) : Prop where
  box : Box wk (W2.heap.size + 1) vs
  rdr : RdrAt wk W2.heap.size W2.heap.size false l
  bel : Below W2.heap.size W2 wk
theorem PS.read {W2 w w' : World} {vs : List Value} {l l' : List Int} (h : PS W2 w vs l) (hr : RdrAt w' W2.heap.size W2.heap.size false l') (hg : w.grownBy w' (some W2.heap.size)) : PS W2 w' vs l' :=
  ⟨h.box.grown hg (by omega), hr, gb_below h.bel hg h.bel.size (Nat.le_refl _)⟩
theorem PS.set {W2 w : World} {vs : List Value} {l : List Int} (h : PS W2 w vs l) (i : Nat) (u : Value) : PS W2 (w.setCell ⟨W2.heap.size + 1, i, none⟩ u) (vs.set i u) l :=
  ⟨h.box.set i u, h.rdr.other (gb_setCell (World.grownBy.refl w (some (W2.heap.size + 1))) (p := ⟨W2.heap.size + 1, i, none⟩) rfl u) (by omega) (by omega), h.bel.setCell (by simp) u⟩
theorem u8_ps {W2 w : World} {vs : List Value} {l : List Int} (k : Nat) (h : PS W2 w vs (l.drop k)) (hk : k + 1 ≤ l.length) (hb : Byt l) (x : Int) (hx : l.getD k 0 = x) :
    Calls Try.prog 59 #[.pointer (some ⟨W2.heap.size, 0, none⟩)] w fun e w' => e = .returned (.int .u8 x) ∧ PS W2 w' vs (l.drop (k + 1)) :=
  (u8_at w _ _ l k hk h.rdr hb x hx).mono fun e w' ⟨he, hr, hg⟩ => ⟨he, h.read hr hg⟩
theorem u16_ps {W2 w : World} {vs : List Value} {l : List Int} (k : Nat) (h : PS W2 w vs (l.drop k)) (hk : k + 2 ≤ l.length) (hb : Byt l) (x : Int) (hx : w2 l k = x) :
    Calls Try.prog 60 #[.pointer (some ⟨W2.heap.size, 0, none⟩)] w fun e w' => e = .returned (.int .u16 x) ∧ PS W2 w' vs (l.drop (k + 2)) :=
  (u16_at w _ _ l k hk h.rdr hb x hx).mono fun e w' ⟨he, hr, hg⟩ => ⟨he, h.read hr hg⟩
theorem u32_ps {W2 w : World} {vs : List Value} {l : List Int} (k : Nat) (h : PS W2 w vs (l.drop k)) (hk : k + 4 ≤ l.length) (hb : Byt l) (x : Int) (hx : w4 l k = x) :
    Calls Try.prog 61 #[.pointer (some ⟨W2.heap.size, 0, none⟩)] w fun e w' => e = .returned (.int .u32 x) ∧ PS W2 w' vs (l.drop (k + 4)) :=
  (u32_at w _ _ l k hk h.rdr hb x hx).mono fun e w' ⟨he, hr, hg⟩ => ⟨he, h.read hr hg⟩
/-- bytes in blocks made since -/
structure New8 (W2 w : World) (a : Option Addr) (n c : Nat) (l : List Int) : Prop where
  nums : Nums .u8 w w.heap.size a n c l
  from_ : ∀ b o s, a = some ⟨b, o, s⟩ → W2.heap.size + 2 ≤ b
theorem New8.grown {W2 w w' : World} {a : Option Addr} {n c g : Nat} {l : List Int} (h : New8 W2 w a n c l) (hg : w.grownBy w' (some g)) (hl : g < W2.heap.size + 2) : New8 W2 w' a n c l :=
  ⟨(nums_grown h.nums hg (fun b o s hb => by have := h.from_ b o s hb; omega)).mono hg.size, h.from_⟩
theorem take_ps {W2 w : World} {vs : List Value} {l : List Int} (k m : Nat) (h : PS W2 w vs (l.drop k)) (hk : k + m ≤ l.length) (hl : l.length ≤ 100000) (x : Int) (hx : x = m) :
    Calls Try.prog 62 #[.pointer (some ⟨W2.heap.size, 0, none⟩), .int .i64 x] w fun e w' => ∃ a n c, e = .returned (.slice a n c) ∧ New8 W2 w' a n c ((l.drop k).take m) ∧ PS W2 w' vs (l.drop (k + m)) :=
  (take_any w _ _ false _ x h.rdr (by rw [List.length_drop]; omega)).mono fun e w' ⟨v, he, a, n, c, hv, ho, hr, hg⟩ => by
    subst hx
    have h1 : okR false (l.drop k) (m : Int) = true := by simp [okR]; omega
    have h2 : gotR false (l.drop k) (m : Int) = (l.drop k).take m := by unfold gotR; rw [h1]; simp
    have h3 : leftR false (l.drop k) (m : Int) = l.drop (k + m) := by unfold leftR; rw [h1]; simp [List.drop_drop]
    rw [h2] at ho; rw [h1, h3] at hr
    exact ⟨a, n, c, by rw [he, hv], ⟨own_nums ho, fun b o s hb => by have := own_from ho b o s hb; have := h.box.lt; omega⟩, h.read hr hg⟩
theorem rest_ps {W2 w : World} {vs : List Value} {l : List Int} (k : Nat) (h : PS W2 w vs (l.drop k)) (hl : l.length ≤ 100000) :
    Calls Try.prog 63 #[.pointer (some ⟨W2.heap.size, 0, none⟩)] w fun e w' => ∃ a n c, e = .returned (.slice a n c) ∧ New8 W2 w' a n c (l.drop k) ∧ w.grownBy w' (some W2.heap.size) :=
  (rest_ok w _ _ _ h.rdr (by rw [List.length_drop]; omega)).mono fun e w' ⟨a, c, he, ho, hg⟩ => ⟨a, _, c, he, ⟨own_nums ho, fun b o s hb => by have := own_from ho b o s hb; have := h.box.lt; omega⟩, hg⟩

def set9 (w : World) (g : Nat) (v0 v1 v2 v3 v4 v5 v6 v7 v8 : Value) : World := (((((((((w.setCell ⟨g, 0, none⟩ v0).setCell ⟨g, 1, none⟩ v1).setCell ⟨g, 2, none⟩ v2).setCell ⟨g, 3, none⟩ v3).setCell ⟨g, 4, none⟩ v4).setCell ⟨g, 5, none⟩ v5).setCell ⟨g, 6, none⟩ v6).setCell ⟨g, 7, none⟩ v7).setCell ⟨g, 8, none⟩ v8)
theorem set9_grown (w : World) (g : Nat) (v0 v1 v2 v3 v4 v5 v6 v7 v8 : Value) : w.grownBy (set9 w g v0 v1 v2 v3 v4 v5 v6 v7 v8) (some g) := gb_setCell (gb_setCell (gb_setCell (gb_setCell (gb_setCell (gb_setCell (gb_setCell (gb_setCell (gb_setCell (World.grownBy.refl w (some g)) (p := ⟨g, 0, none⟩) rfl v0) (p := ⟨g, 1, none⟩) rfl v1) (p := ⟨g, 2, none⟩) rfl v2) (p := ⟨g, 3, none⟩) rfl v3) (p := ⟨g, 4, none⟩) rfl v4) (p := ⟨g, 5, none⟩) rfl v5) (p := ⟨g, 6, none⟩) rfl v6) (p := ⟨g, 7, none⟩) rfl v7) (p := ⟨g, 8, none⟩) rfl v8
theorem set9_at {w : World} {g : Nat} {vs : List Value} (h : Box w g vs) (hv : vs.length = 9) (v0 v1 v2 v3 v4 v5 v6 v7 v8 : Value) : (set9 w g v0 v1 v2 v3 v4 v5 v6 v7 v8).cell? ⟨g, 0, none⟩ = some v0 ∧ (set9 w g v0 v1 v2 v3 v4 v5 v6 v7 v8).cell? ⟨g, 1, none⟩ = some v1 ∧ (set9 w g v0 v1 v2 v3 v4 v5 v6 v7 v8).cell? ⟨g, 2, none⟩ = some v2 ∧ (set9 w g v0 v1 v2 v3 v4 v5 v6 v7 v8).cell? ⟨g, 3, none⟩ = some v3 ∧ (set9 w g v0 v1 v2 v3 v4 v5 v6 v7 v8).cell? ⟨g, 4, none⟩ = some v4 ∧ (set9 w g v0 v1 v2 v3 v4 v5 v6 v7 v8).cell? ⟨g, 5, none⟩ = some v5 ∧ (set9 w g v0 v1 v2 v3 v4 v5 v6 v7 v8).cell? ⟨g, 6, none⟩ = some v6 ∧ (set9 w g v0 v1 v2 v3 v4 v5 v6 v7 v8).cell? ⟨g, 7, none⟩ = some v7 ∧ (set9 w g v0 v1 v2 v3 v4 v5 v6 v7 v8).cell? ⟨g, 8, none⟩ = some v8 := by
  have hb := (((((((((h.set 0 v0).set 1 v1).set 2 v2).set 3 v3).set 4 v4).set 5 v5).set 6 v6).set 7 v7).set 8 v8)
  unfold set9
  match vs, hv with
  | [_, _, _, _, _, _, _, _, _], _ => exact ⟨hb.at_ 0 _ rfl, hb.at_ 1 _ rfl, hb.at_ 2 _ rfl, hb.at_ 3 _ rfl, hb.at_ 4 _ rfl, hb.at_ 5 _ rfl, hb.at_ 6 _ rfl, hb.at_ 7 _ rfl, hb.at_ 8 _ rfl⟩
/-- what a parser hands back -/
def IPost (T : Dg × Int) (w : World) (L : List Sl) (e : Ending) (W' : World) : Prop :=
  ∃ ao no co ad nd cd, e = .returned (.tuple #[.agg (valD T.1 ao no co ad nd cd), .int .i64 T.2]) ∧ St w W' ((ao, no, co, T.1.o) :: (ad, nd, cd, T.1.d) :: L)
theorem ipost_none {w W wz : World} {L : List Sl} {T : Dg × Int} (y : Int) (hT : T = (Dg.none, y)) (h : St w W L) (hb : Below W.heap.size W wz) :
    IPost T w L (.returned (.tuple #[.agg #[.int .u8 0, .int .u8 0, .int .u8 0, .int .u16 0, .int .u16 0, .int .u32 0, .int .u32 0, .slice none 0 0, .slice none 0 0], .int .i64 y])) (set9 wz W.heap.size (.int .u8 0) (.int .u8 0) (.int .u8 0) (.int .u16 0) (.int .u16 0) (.int .u32 0) (.int .u32 0) (.slice none 0 0) (.slice none 0 0)) := by
  subst hT
  exact ⟨none, 0, 0, none, 0, 0, rfl, ((h.next (gb_below hb (set9_grown _ _ _ _ _ _ _ _ _ _ _) hb.size (Nat.le_refl _))).nil).nil⟩
set_option maxHeartbeats 4000000 in
theorem parse_any {w W : World} {L : List Sl} {a : Option Addr} {n c : Nat} {l : List Int} (h : St w W L) (hm : (a, n, c, l) ∈ L) (hb : Oct l) (hn : n ≤ 100000) :
    Calls Try.prog 11 #[.slice a n c] W (IPost (ipP l) w L) := by
  obtain ⟨W1, hW1⟩ : ∃ W1, W1 = W.alloc (.cells #[.int .u8 0, .int .u8 0, .int .u8 0, .int .u16 0, .int .u16 0, .int .u32 0, .int .u32 0, .slice none 0 0, .slice none 0 0] 27) := ⟨_, rfl⟩
  have b0 : Below W.heap.size W W1 := by rw [hW1]; exact (Below.refl _ _).alloc (Nat.le_refl _) _
  have p0 : Box W1 W.heap.size [.int .u8 0, .int .u8 0, .int .u8 0, .int .u16 0, .int .u16 0, .int .u32 0, .int .u32 0, .slice none 0 0, .slice none 0 0] := by rw [hW1]; exact Box.made _ #[.int .u8 0, .int .u8 0, .int .u8 0, .int .u16 0, .int .u16 0, .int .u32 0, .int .u32 0, .slice none 0 0, .slice none 0 0] _
  have hlen := (h.get hm).len
  have hle := (h.get hm).le
  have HS1 := hid (h.next b0)
  have HME := hid (measure_any (st_base (h.next b0)) hm hb hn)
  have M := hid hm
  have HW1 := hid hW1
  have HB0 := hid b0
  have HP := hid p0
  have HS := hid h
  have hs0 := p0.lt
  have HBy := hid hb
  clear h hm hW1 b0 p0 hb
  by_cases hy : whyL l = 0
  · have HT := hid (show ipP l = (dgL l, 0) by unfold ipP; rw [if_pos hy])
    have hwc : 20 ≤ hdL l ∧ hdL l ≤ alL l ∧ alL l ≤ l.length := by rcases why_cases l with ⟨_, h⟩ | ⟨_, _, h⟩ | ⟨_, _, _, _, _, h⟩ | ⟨_, _, _, _, _, _, h⟩ | ⟨_, _, h1, h2, h3, _, _⟩ <;> first | omega | exact ⟨h1, h2, h3⟩
    unfold MPostI at HME
    rw [hy, if_pos rfl, if_pos rfl] at HME
    obtain ⟨hd, hhd⟩ : ∃ hd, hd = hdL l := ⟨_, rfl⟩
    obtain ⟨al, hal⟩ : ∃ al, al = alL l := ⟨_, rfl⟩
    obtain ⟨D, hD⟩ : ∃ D, D = dgL l := ⟨_, rfl⟩
    rw [← hhd, ← hal] at HME hwc
    obtain ⟨w20, wha, wal⟩ := hwc
    obtain ⟨q, hq⟩ : ∃ q, q = l.take al := ⟨_, rfl⟩
    have hql : q.length = al := by rw [hq, List.length_take]; omega
    have hqb : Byt q := by rw [hq]; exact fun x hx => HBy.out x (List.mem_of_mem_take hx)
    have gq : ∀ k, k < 20 → q.getD k 0 = l.getD k 0 := fun k hk => by rw [hq, List.getD_eq_getElem?_getD, List.getD_eq_getElem?_getD, List.getElem?_take_of_lt (by omega)]
    have d0 := hid (show q.getD 0 0 = q.getD 0 0 from rfl)
    have d1 := hid (show q.getD 1 0 = D.t by rw [gq 1 (by decide), hD]; rfl)
    have d8 := hid (show q.getD 8 0 = D.ttl by rw [gq 8 (by decide), hD]; rfl)
    have d9 := hid (show q.getD 9 0 = D.pr by rw [gq 9 (by decide), hD]; rfl)
    have d4 := hid (show w2 q 4 = D.id by rw [hD]; unfold w2; rw [gq 4 (by decide), gq (4 + 1) (by decide)]; rfl)
    have d6 := hid (show w2 q 6 = D.fr by rw [hD]; unfold w2; rw [gq 6 (by decide), gq (6 + 1) (by decide)]; rfl)
    have d12 := hid (show w4 q 12 = D.src by rw [hD]; unfold w4; rw [gq 12 (by decide), gq (12 + 1) (by decide), gq (12 + 2) (by decide), gq (12 + 3) (by decide)]; rfl)
    have d16 := hid (show w4 q 16 = D.dst by rw [hD]; unfold w4; rw [gq 16 (by decide), gq (16 + 1) (by decide), gq (16 + 2) (by decide), gq (16 + 3) (by decide)]; rfl)
    have dO := hid (show (q.drop 20).take (hd - 20) = D.o by rw [hD, hq, hhd, hal]; show _ = (l.take (hdL l)).drop 20; rw [← List.drop_take, List.take_take]; congr 2; omega)
    have dD := hid (show q.drop hd = D.d by rw [hD, hq, hhd, hal]; rfl)
    have hsl := slice_to a n c al (by omega)
    have Q1 := hid hql
    have Q2 := hid hqb
    have HQ := hid hq
    have HDD := hid hD
    have hsub : IntKind.i64.wrap ((hd : Int) - 20) = (hd : Int) - 20 := IntWalk.i64_in _ (by omega)
    have hal1 : al ≤ 100000 := by omega
    clear hhd hal hD hq hql hqb gq hy
    go_enter Try.func11, Try.ntmps11
    go_upto_region 1 with fail
    rw [← HW1.out]
    go_upto_region 4 with (go_at_call 57; ((with_reducible refine HME.out.mono ?_); rintro e w2 ⟨rfl, s2⟩))
    have hbs := s2.below.size
    obtain ⟨W3, hW3⟩ : ∃ W3, W3 = w2.alloc (.cells #[.slice a al c, .bool false] 173) := ⟨_, rfl⟩
    have n2 : Nums .u8 w2 w2.heap.size a al c q := by rw [HQ.out]; exact (s2.get M.out).take (by omega)
    have r3 : RdrAt W3 w2.heap.size w2.heap.size false q := by rw [hW3]; exact RdrAt.made n2
    have b3 : Below w2.heap.size w2 W3 := by rw [hW3]; exact (Below.refl _ _).alloc (Nat.le_refl _) _
    have z3 : W3.heap.size = w2.heap.size + 1 := by rw [hW3]; simp
    obtain ⟨W4, hW4⟩ : ∃ W4, W4 = W3.alloc (.cells #[.int .u8 0, .int .u8 0, .int .u8 0, .int .u16 0, .int .u16 0, .int .u32 0, .int .u32 0, .slice none 0 0, .slice none 0 0] 27) := ⟨_, rfl⟩
    have b4 : Below W3.heap.size W3 W4 := by rw [hW4]; exact (Below.refl _ _).alloc (Nat.le_refl _) _
    have r4 := r3.below b4 r3.lt
    have k4 : Box W4 W3.heap.size [.int .u8 0, .int .u8 0, .int .u8 0, .int .u16 0, .int .u16 0, .int .u32 0, .int .u32 0, .slice none 0 0, .slice none 0 0] := by rw [hW4]; exact Box.made _ #[.int .u8 0, .int .u8 0, .int .u8 0, .int .u16 0, .int .u16 0, .int .u32 0, .int .u32 0, .slice none 0 0, .slice none 0 0] _
    rw [z3] at k4
    have p4 : PS w2 W4 [.int .u8 0, .int .u8 0, .int .u8 0, .int .u16 0, .int .u16 0, .int .u32 0, .int .u32 0, .slice none 0 0, .slice none 0 0] (q.drop 0) := ⟨k4, r4, b3.trans (b4.mono (by omega))⟩
    have HW3 := hid hW3
    have Z3 := hid z3
    have HW4 := hid hW4
    clear n2 r3 b3 z3 b4 r4 k4 hW3 hW4
    go_upto_region 5 with (go_at_call 58; ((with_reducible refine (new_any _ _ _ _).mono ?_); rintro e w3 ⟨rfl, hw3⟩; rw [← HW3.out] at hw3; subst hw3))
    go_upto_region 6 with fail
    rw [← HW4.out, Z3.out]
    go_upto_region 7 with (first | (go_at_call 59; ((with_reducible refine (u8_ps 0 p4 (by rw [Q1.out]; omega) Q2.out (q.getD 0 0) rfl).mono ?_); rintro e wa0 ⟨rfl, ra0⟩)))
    go_upto_region 8 with (first | (go_at_call 59; ((with_reducible refine (u8_ps 1 ra0 (by rw [Q1.out]; omega) Q2.out D.t d1.out).mono ?_); rintro e wb0 ⟨rfl, rb0⟩); have c0 := rb0.box.at_ 0 _ rfl; have f0 := rb0.box.fr 0))
    have pb : PS w2 (wb0.setCell ⟨w2.heap.size + 1, 0, none⟩ (.int .u8 D.t)) [.int .u8 D.t, .int .u8 0, .int .u8 0, .int .u16 0, .int .u16 0, .int .u32 0, .int .u32 0, .slice none 0 0, .slice none 0 0] (q.drop 2) := (rb0.set 0 (.int .u8 D.t))
    clear c0 f0
    go_upto_region 9 with (first | (go_at_call 60; ((with_reducible refine (u16_ps 2 pb (by rw [Q1.out]; omega) Q2.out (ipm.w2 q 2) rfl).mono ?_); rintro e wc0 ⟨rfl, rc0⟩)))
    go_upto_region 10 with (first | (go_at_call 60; ((with_reducible refine (u16_ps 4 rc0 (by rw [Q1.out]; omega) Q2.out D.id d4.out).mono ?_); rintro e wd0 ⟨rfl, rd0⟩)) | (go_at_call 60; ((with_reducible refine (u16_ps 6 rd0 (by rw [Q1.out]; omega) Q2.out D.fr d6.out).mono ?_); rintro e wd1 ⟨rfl, rd1⟩); have c3 := rd1.box.at_ 3 _ rfl; have f3 := rd1.box.fr 3; have c4 := rd1.box.at_ 4 _ rfl; have f4 := rd1.box.fr 4))
    have pd : PS w2 ((wd1.setCell ⟨w2.heap.size + 1, 3, none⟩ (.int .u16 D.id)).setCell ⟨w2.heap.size + 1, 4, none⟩ (.int .u16 D.fr)) [.int .u8 D.t, .int .u8 0, .int .u8 0, .int .u16 D.id, .int .u16 D.fr, .int .u32 0, .int .u32 0, .slice none 0 0, .slice none 0 0] (q.drop 8) := ((rd1.set 3 (.int .u16 D.id)).set 4 (.int .u16 D.fr))
    clear c3 f3 c4 f4
    go_upto_region 11 with (first | (go_at_call 59; ((with_reducible refine (u8_ps 8 pd (by rw [Q1.out]; omega) Q2.out D.ttl d8.out).mono ?_); rintro e we0 ⟨rfl, re0⟩)) | (go_at_call 59; ((with_reducible refine (u8_ps 9 re0 (by rw [Q1.out]; omega) Q2.out D.pr d9.out).mono ?_); rintro e we1 ⟨rfl, re1⟩); have c1 := re1.box.at_ 1 _ rfl; have f1 := re1.box.fr 1; have c2 := re1.box.at_ 2 _ rfl; have f2 := re1.box.fr 2))
    have pe : PS w2 ((we1.setCell ⟨w2.heap.size + 1, 1, none⟩ (.int .u8 D.ttl)).setCell ⟨w2.heap.size + 1, 2, none⟩ (.int .u8 D.pr)) [.int .u8 D.t, .int .u8 D.ttl, .int .u8 D.pr, .int .u16 D.id, .int .u16 D.fr, .int .u32 0, .int .u32 0, .slice none 0 0, .slice none 0 0] (q.drop 10) := ((re1.set 1 (.int .u8 D.ttl)).set 2 (.int .u8 D.pr))
    clear c1 f1 c2 f2
    go_upto_region 12 with (first | (go_at_call 60; ((with_reducible refine (u16_ps 10 pe (by rw [Q1.out]; omega) Q2.out (ipm.w2 q 10) rfl).mono ?_); rintro e wf0 ⟨rfl, rf0⟩)))
    go_upto_region 13 with (first | (go_at_call 61; ((with_reducible refine (u32_ps 12 rf0 (by rw [Q1.out]; omega) Q2.out D.src d12.out).mono ?_); rintro e wg0 ⟨rfl, rg0⟩)) | (go_at_call 61; ((with_reducible refine (u32_ps 16 rg0 (by rw [Q1.out]; omega) Q2.out D.dst d16.out).mono ?_); rintro e wg1 ⟨rfl, rg1⟩); have c5 := rg1.box.at_ 5 _ rfl; have f5 := rg1.box.fr 5; have c6 := rg1.box.at_ 6 _ rfl; have f6 := rg1.box.fr 6))
    have pg : PS w2 ((wg1.setCell ⟨w2.heap.size + 1, 5, none⟩ (.int .u32 D.src)).setCell ⟨w2.heap.size + 1, 6, none⟩ (.int .u32 D.dst)) [.int .u8 D.t, .int .u8 D.ttl, .int .u8 D.pr, .int .u16 D.id, .int .u16 D.fr, .int .u32 D.src, .int .u32 D.dst, .slice none 0 0, .slice none 0 0] (q.drop 20) := ((rg1.set 5 (.int .u32 D.src)).set 6 (.int .u32 D.dst))
    clear c5 f5 c6 f6
    go_upto_region 14 with (go_at_call 62; ((with_reducible refine (take_ps 20 (hd - 20) pg (by rw [Q1.out]; omega) (by rw [Q1.out]; exact hal1) ((hd : Int) - 20) (by omega)).mono ?_); rintro e wh ⟨ao, no, co, rfl, n8, rh⟩); have c7 := rh.box.at_ 7 _ rfl; have f7 := rh.box.fr 7)
    have ph : PS w2 (wh.setCell ⟨w2.heap.size + 1, 7, none⟩ (.slice ao no co)) [.int .u8 D.t, .int .u8 D.ttl, .int .u8 D.pr, .int .u16 D.id, .int .u16 D.fr, .int .u32 D.src, .int .u32 D.dst, .slice ao no co, .slice none 0 0] (q.drop (20 + (hd - 20))) := rh.set 7 (.slice ao no co)
    rw [show 20 + (hd - 20) = hd by omega] at ph
    rw [dO.out] at n8
    have n8' := n8.grown (gb_setCell (World.grownBy.refl wh (some (w2.heap.size + 1))) (p := ⟨w2.heap.size + 1, 7, none⟩) rfl (.slice ao no co)) (by omega)
    clear c7 f7 n8
    go_upto_region 15 with (go_at_call 63; ((with_reducible refine (rest_ps hd ph (by rw [Q1.out]; exact hal1)).mono ?_); rintro e wi ⟨ad, nd, cd, rfl, n9, gi⟩); have bi := ph.box.grown gi (by omega); have c8 := bi.at_ 8 _ rfl; have f8 := bi.fr 8)
    rw [dD.out] at n9
    have n8 := n8'.grown gi (by omega)
    have bk : Box (wi.setCell ⟨w2.heap.size + 1, 8, none⟩ (.slice ad nd cd)) (w2.heap.size + 1) [.int .u8 D.t, .int .u8 D.ttl, .int .u8 D.pr, .int .u16 D.id, .int .u16 D.fr, .int .u32 D.src, .int .u32 D.dst, .slice ao no co, .slice ad nd cd] := bi.set 8 (.slice ad nd cd)
    have g8 := gb_setCell (World.grownBy.refl wi (some (w2.heap.size + 1))) (p := ⟨w2.heap.size + 1, 8, none⟩) rfl (.slice ad nd cd)
    have m8 := n8.grown g8 (by omega)
    have m9 := n9.grown g8 (by omega)
    have bb : Below w2.heap.size w2 (wi.setCell ⟨w2.heap.size + 1, 8, none⟩ (.slice ad nd cd)) := (gb_below ph.bel gi ph.bel.size (Nat.le_refl _)).setCell (by simp) _
    obtain ⟨WJ, hWJ⟩ : ∃ WJ, WJ = wi.setCell ⟨w2.heap.size + 1, 8, none⟩ (.slice ad nd cd) := ⟨_, rfl⟩
    rw [← hWJ] at bk m8 m9 bb
    have HWJ := hid hWJ
    clear hWJ c8 f8 n8 n9 n8' g8 gi bi
    rw [← HWJ.out]
    have B1J := hid (s2.below.trans (bb.mono hbs))
    have pR := HP.out.next B1J.out
    have c0 := pR.at_ 0 _ rfl
    have f0 := pR.fr 0
    have c1 := pR.at_ 1 _ rfl
    have f1 := pR.fr 1
    have c2 := pR.at_ 2 _ rfl
    have f2 := pR.fr 2
    have c3 := pR.at_ 3 _ rfl
    have f3 := pR.fr 3
    have c4 := pR.at_ 4 _ rfl
    have f4 := pR.fr 4
    have c5 := pR.at_ 5 _ rfl
    have f5 := pR.fr 5
    have c6 := pR.at_ 6 _ rfl
    have f6 := pR.fr 6
    have c7 := pR.at_ 7 _ rfl
    have f7 := pR.fr 7
    have c8 := pR.at_ 8 _ rfl
    have f8 := pR.fr 8
    have y0 := bk.at_ 0 _ rfl
    have y1 := bk.at_ 1 _ rfl
    have y2 := bk.at_ 2 _ rfl
    have y3 := bk.at_ 3 _ rfl
    have y4 := bk.at_ 4 _ rfl
    have y5 := bk.at_ 5 _ rfl
    have y6 := bk.at_ 6 _ rfl
    have y7 := bk.at_ 7 _ rfl
    have y8 := bk.at_ 8 _ rfl
    have PR := hid pR
    have M8 := hid m8
    have M9 := hid m9
    clear pR bk m8 m9 bb
    go_wp2_with fail
    obtain ⟨q0, q1, q2, q3, q4, q5, q6, q7, q8⟩ := set9_at PR.out rfl (.int .u8 D.t) (.int .u8 D.ttl) (.int .u8 D.pr) (.int .u16 D.id) (.int .u16 D.fr) (.int .u32 D.src) (.int .u32 D.dst) (.slice ao no co) (.slice ad nd cd)
    unfold set9 at q0 q1 q2 q3 q4 q5 q6 q7 q8
    refine bodyPost_ret (v := .tuple #[.agg #[.int .u8 D.t, .int .u8 D.ttl, .int .u8 D.pr, .int .u16 D.id, .int .u16 D.fr, .int .u32 D.src, .int .u32 D.dst, .slice ao no co, .slice ad nd cd], .int .i64 0]) (by simp [results, Try.results11, go_sem, q0, q1, q2, q3, q4, q5, q6, q7, q8]) rfl ?_
    rw [HT.out]
    have hw2 := s2.below.size
    have gF := set9_grown WJ W.heap.size (.int .u8 D.t) (.int .u8 D.ttl) (.int .u8 D.pr) (.int .u16 D.id) (.int .u16 D.fr) (.int .u32 D.src) (.int .u32 D.dst) (.slice ao no co) (.slice ad nd cd)
    refine ⟨ao, no, co, ad, nd, cd, by rw [← HDD.out]; rfl, ?_⟩
    show St w _ ((ao, no, co, (dgL l).o) :: (ad, nd, cd, (dgL l).d) :: L)
    rw [← HDD.out]
    have e8 := M8.out.grown gF (by omega)
    have e9 := M9.out.grown gF (by omega)
    exact ((HS.out.next (gb_below (HB0.out.trans (B1J.out.mono HB0.out.size)) gF (HB0.out.trans (B1J.out.mono HB0.out.size)).size (Nat.le_refl _))).push e9.nums).push e8.nums
  · have HT := hid (show ipP l = (Dg.none, whyL l) by unfold ipP; rw [if_neg hy])
    unfold MPostI at HME
    rw [if_neg hy, if_neg hy] at HME
    obtain ⟨y, hye⟩ : ∃ y, y = whyL l := ⟨_, rfl⟩
    rw [← hye] at HME HT hy
    have hyb : (y != 0) = true := by simpa using hy
    clear hye hy
    go_enter Try.func11, Try.ntmps11
    go_upto_region 1 with fail
    rw [← HW1.out]
    go_upto_region 3 with (go_at_call 57; ((with_reducible refine HME.out.mono ?_); rintro e w2 ⟨rfl, s2⟩))
    have p6 := HP.out.next s2.below
    have c0 := p6.at_ 0 _ rfl
    have f0 := p6.fr 0
    have c1 := p6.at_ 1 _ rfl
    have f1 := p6.fr 1
    have c2 := p6.at_ 2 _ rfl
    have f2 := p6.fr 2
    have c3 := p6.at_ 3 _ rfl
    have f3 := p6.fr 3
    have c4 := p6.at_ 4 _ rfl
    have f4 := p6.fr 4
    have c5 := p6.at_ 5 _ rfl
    have f5 := p6.fr 5
    have c6 := p6.at_ 6 _ rfl
    have f6 := p6.fr 6
    have c7 := p6.at_ 7 _ rfl
    have f7 := p6.fr 7
    have c8 := p6.at_ 8 _ rfl
    have f8 := p6.fr 8
    have P6 := hid p6
    clear p6
    go_wp2_with fail
    obtain ⟨q0, q1, q2, q3, q4, q5, q6, q7, q8⟩ := set9_at P6.out rfl (.int .u8 0) (.int .u8 0) (.int .u8 0) (.int .u16 0) (.int .u16 0) (.int .u32 0) (.int .u32 0) (.slice none 0 0) (.slice none 0 0)
    unfold set9 at q0 q1 q2 q3 q4 q5 q6 q7 q8
    refine bodyPost_ret (v := .tuple #[.agg #[.int .u8 0, .int .u8 0, .int .u8 0, .int .u16 0, .int .u16 0, .int .u32 0, .int .u32 0, .slice none 0 0, .slice none 0 0], .int .i64 y]) (by simp [results, Try.results11, go_sem, q0, q1, q2, q3, q4, q5, q6, q7, q8]) rfl ?_
    exact ipost_none y HT.out HS.out (HB0.out.trans (s2.below.mono HB0.out.size))
end Go.Proofs.Ytidenjinagpphab.ipc
