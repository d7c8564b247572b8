/- ip4: the contracts of seal and Build; that the package lives. -/
import Derived.Test.YtidenjinagpphabIp4Math
import Derived.Test.YtidenjinagpphabSum
import Derived.Test.YtidenjinagpphabSumLaw
import Derived.Test.YtidenjinagpphabBeLaw
import Derived.Test.YtidenjinagpphabSlice8
import Derived.Test.YtidenjinagpphabBox
import Derived.Laws.CopyOwn
import Derived.Deep.Onto
import Derived.Deep.RegionLaw
import Derived.Deep.DeepCutAuto
namespace Go.Proofs.Ytidenjinagpphab.ipc
open Go.RowKit
open Go.Proofs.Ytidenjinagpphab.kit Go.Proofs.Ytidenjinagpphab.bec Go.Proofs.Ytidenjinagpphab.ipm Go.Proofs.Ytidenjinagpphab.sm Go.Proofs.Ytidenjinagpphab.sc
set_option linter.unusedVariables false
set_option maxRecDepth 20000

/-- bytes of one's own since a world; of what there was then nothing has turned -/
structure Row (W0 W : World) (a : Option Addr) (n c : Nat) (l : List Int) : Prop where
  own : W.ownsRow W0.heap.size 5 1 (.slice a n c) n (l.map (Value.int .u8))
  bel : Below W0.heap.size W0 W
theorem Row.nums {W0 W : World} {a : Option Addr} {n c : Nat} {l : List Int} (h : Row W0 W a n c l) : Nums .u8 W W.heap.size a n c l := own_nums h.own
theorem put8_row {W0 W : World} {a : Option Addr} {n c : Nat} {l : List Int} (h : Row W0 W a n c l) (hn : n ≤ 100000) (p : Int) (hp : 0 ≤ p ∧ p ≤ 255) :
    Calls Try.prog 102 #[.slice a n c, .int .u8 p] W fun e W' => ∃ a' c', e = .returned (.slice a' (n + 1) c') ∧ Row W0 W' a' (n + 1) c' (l ++ [p]) :=
  (put8_any W h.nums (by omega) (Nat.le_refl _) p hp.1 hp.2).mono fun e W' ⟨a', c', he, ho, hb⟩ => by rw [be1 p hp] at ho; exact ⟨a', c', he, World.ownsRow.mono ho h.bel.size, h.bel.trans (hb.mono h.bel.size)⟩
theorem put16_row {W0 W : World} {a : Option Addr} {n c : Nat} {l : List Int} (h : Row W0 W a n c l) (hn : n ≤ 100000) (p : Int) (hp : 0 ≤ p ∧ p ≤ 65535) :
    Calls Try.prog 76 #[.slice a n c, .int .u16 p] W fun e W' => ∃ a' c', e = .returned (.slice a' (n + 2) c') ∧ Row W0 W' a' (n + 2) c' (l ++ [p / 256, p % 256]) :=
  (put16_any W h.nums (by omega) (Nat.le_refl _) p hp.1 hp.2).mono fun e W' ⟨a', c', he, ho, hb⟩ => by rw [be2 p hp] at ho; exact ⟨a', c', he, World.ownsRow.mono ho h.bel.size, h.bel.trans (hb.mono h.bel.size)⟩
theorem put32_row {W0 W : World} {a : Option Addr} {n c : Nat} {l : List Int} (h : Row W0 W a n c l) (hn : n ≤ 100000) (p : Int) (hp : 0 ≤ p ∧ p ≤ 4294967295) :
    Calls Try.prog 103 #[.slice a n c, .int .u32 p] W fun e W' => ∃ a' c', e = .returned (.slice a' (n + 4) c') ∧ Row W0 W' a' (n + 4) c' (l ++ [p / 16777216, p / 65536 % 256, p / 256 % 256, p % 256]) :=
  (put32_any W h.nums (by omega) (Nat.le_refl _) p hp.1 hp.2).mono fun e W' ⟨a', c', he, ho, hb⟩ => by rw [be4 p hp] at ho; exact ⟨a', c', he, World.ownsRow.mono ho h.bel.size, h.bel.trans (hb.mono h.bel.size)⟩
theorem Row.start (W : World) : Row W W none 0 0 [] := ⟨World.ownsRow_nil _ _ _ _, Below.refl _ _⟩
theorem Row.app {W0 W W' : World} {a : Option Addr} {n c m : Nat} {l : List Int} {v : Value} {xs : List Int} (h : Row W0 W a n c l) (g : W'.ownsRow W0.heap.size 5 1 v m (xs.map (Value.int .u8))) (r : W.grownBy W' (Value.slice a n c).ownBlock) : ∃ a' c', v = .slice a' m c' ∧ Row W0 W' a' m c' xs := by
  obtain ⟨a', c', rfl⟩ := own_slice g
  exact ⟨a', c', rfl, g, own_below h.own h.bel r h.bel.size⟩
theorem Row.next {W0 W W' : World} {a : Option Addr} {n c : Nat} {l : List Int} (h : Row W0 W a n c l) (hb : Below W.heap.size W W') : Row W0 W' a n c l :=
  ⟨h.own.kept (gb_of_below hb none) (by cases hv : (Value.slice a n c).ownBlock with | none => exact .inl rfl | some j => exact .inr (by simp)), h.bel.trans (hb.mono h.bel.size)⟩
theorem word2_splice (cur : List Value) (x y : Value) (h : 12 ≤ cur.length) : splice cur 10 [x, y] = (cur.set 10 x).set 11 y := by
  match cur, h with
  | a0 :: a1 :: a2 :: a3 :: a4 :: a5 :: a6 :: a7 :: a8 :: a9 :: a10 :: a11 :: r, _ => simp [splice]
/-- the block of bytes of one's own, whatever was made since -/
theorem row_heap {W w3 : World} {base g n c : Nat} {xs : List Value} (h : W.ownsRow base 5 1 (.slice (some ⟨g, 0, none⟩) n c) n xs) (hb : Below W.heap.size W w3) (hg : g < W.heap.size) :
    ∃ cur : Array Value, base ≤ g ∧ Hid (w3.heap[g]? = some (.cells cur.toList.toArray 5 (0, 0))) ∧ Hid (cur.toList.take n = xs) ∧ Hid (n ≤ c ∧ c ≤ maxLen ∧ cur.size = c) := by
  have hk := h.kept (gb_of_below hb none) (.inr (by simp [Value.ownBlock]))
  rcases hk.2 with ⟨hv, _⟩ | ⟨g', c', cur, hv, hbg, hg', hnc, hm, hcs, ht⟩
  · injection hv with h1; cases h1
  · injection hv with h1 _ h3
    injection h1 with h1; injection h1 with h1
    subst h1 h3
    exact ⟨cur, hbg, hid (by simpa using hg'), hid (by simpa using ht), hid ⟨hnc, hm, by omega⟩⟩
/-- the two bytes that are copied -/
theorem copied {w3 : World} {base c3 : Nat} {a3 : Option Addr} {k : Nat} (o3 : w3.ownsRow base 5 1 (.slice a3 (0 + 2) c3) (0 + 2) (([] ++ beB 2 (k : Int)).map (Value.int .u8))) (hk : k ≤ 65535) {g : Nat} :
    0 < ([Value.int .u8 ((k : Int) / 256), Value.int .u8 ((k : Int) % 256)]).length → (some (⟨g, 10, none⟩ : Addr)) = some ⟨g, 10, none⟩ ∧ ∃ ad, a3 = some ad ∧ ∀ j v, ([Value.int .u8 ((k : Int) / 256), Value.int .u8 ((k : Int) % 256)])[j]? = some v → w3.cell? (ad.add j) = some v := by
  intro _
  rw [be2 _ (by omega)] at o3
  obtain ⟨g', rfl, _⟩ := own_some o3 (by omega)
  exact ⟨rfl, _, rfl, fun j v hv => o3.cells rfl j v hv⟩
set_option maxHeartbeats 1000000 in
theorem seal_any {W0 W : World} {a : Option Addr} {n c : Nat} {l : List Int} (h : Row W0 W a n c l) (hn : 12 ≤ n) (hn2 : n ≤ 100000) (x : Int) (k : Nat) (hk : k ≤ 65535) (hx : x = k) :
    Calls Try.prog 68 #[.slice a n c, .int .u16 x] W fun e W' => e = .returned (.tuple #[]) ∧ Row W0 W' a n c (sealL l k) := by
  subst hx
  obtain ⟨g, ha, hg⟩ := own_some h.own (by omega)
  subst ha
  have hle := h.nums.le
  have hmx := h.nums.max
  unfold maxLen at hmx
  have HB := hid h.bel
  have hsz := h.bel.size
  have HO := hid (show W.drew.ownsRow W0.heap.size 5 1 (.slice (some ⟨g, 0, none⟩) n c) n (l.map (Value.int .u8)) from h.own.drew)
  have hc10 : ¬ c = 10 := by omega
  have hn10 : (10 : Int) ≤ n := by omega
  have hgz : g < W.heap.size := (h.own.lt g rfl).2
  have P1 := hid (put16_any (W.drew) (Nums.empty (k := .u8) (B := 0) (a := none) (cap := 0) (Nat.zero_le _) (fun _ => rfl)) (by omega) (Nat.zero_le _) (k : Int) (by omega) (by omega))
  clear h
  go_enter Try.func68, Try.ntmps68
  go_wp2_with fail
  go_region_law (first | (refine step_copy_splice rfl (.tmp 5) (.tmp 7) 22 22 rfl 5 Try.underlying22 (by kernel_rfl) _ _ _ _ _ _ rfl rfl g 10 cur.toList 5 HG.out [.int .u8 ((k : Int) / 256), .int .u8 ((k : Int) % 256)] HN.out HP.out HF.out (by intro v hv; simp at hv; rcases hv with rfl | rfl <;> rfl) W0.heap.size W0 HB3.out hbg ?_; intro w4 hg4 hb4) | (go_simp; go_at_call 76; go_loud (refine P1.out.mono ?_; rintro e w3 ⟨a3, c3, rfl, o3, b3⟩; obtain ⟨cur, hbg, HG, HT, HC⟩ := row_heap HO.out b3 hgz; have HB3 := hid (HB.out.drew.trans (b3.mono hsz)); have HN := hid (show 2 = Nat.min (0 + 2) (n - 10) by show 2 = min 2 (n - 10); omega); have HP := hid (copied (g := g) o3 hk); have HF := hid (show 10 + 2 ≤ cur.toList.length by have := HC.out; simp; omega))))
  go_wp2_with fail
  go_end0
  have hcl := HC.out
  have e : splice cur.toList 10 [.int .u8 ((k : Int) / 256), .int .u8 ((k : Int) % 256)] = (cur.toList.set 10 (.int .u8 ((k : Int) / 256))).set 11 (.int .u8 ((k : Int) % 256)) := word2_splice _ _ _ (by simp; omega)
  have hg5 := hg4.out
  rw [e] at hg5
  refine ⟨rfl, ⟨by unfold sealL; rw [List.length_map, word2_len, ← List.length_map (f := Value.int .u8), HO.out.1], .inr ⟨g, c, _, rfl, hbg, hg5, hcl.1, hcl.2.1, by simp; omega, ?_⟩⟩, hb4⟩
  unfold sealL word2
  rw [List.map_set, List.map_set, Nat.mul_one, ← HT.out]
  simp [List.take_set]
/-- a datagram as a value -/
def valD (D : Dg) (ao : Option Addr) (no co : Nat) (ad : Option Addr) (nd cd : Nat) : Array Value :=
  #[.int .u8 D.t, .int .u8 D.ttl, .int .u8 D.pr, .int .u16 D.id, .int .u16 D.fr, .int .u32 D.src, .int .u32 D.dst, .slice ao no co, .slice ad nd cd]
theorem idx3 (x0 x1 x2 : Int) (k : Nat) (hk : k < 3) (w : World) : (Instr.index 178 (.agg #[.int .u16 x0, .int .u16 x1, .int .u16 x2]) (.int .i64 (k : Nat))).run Try.prog w = .ok (.int .u16 ([x0, x1, x2].getD k 0)) w := by
  have h : k = 0 ∨ k = 1 ∨ k = 2 := by omega
  rcases h with rfl | rfl | rfl
  all_goals first | rfl | (simp [go_sem]; done)
def preB (ns : List Int) (k : Nat) : List Int := (ns.take k).flatMap fun p => [p / 256, p % 256]
theorem preB_succ (ns : List Int) (k : Nat) (h : k < ns.length) : preB ns (k + 1) = preB ns k ++ [ns.getD k 0 / 256, ns.getD k 0 % 256] := by
  unfold preB; rw [take_getD h, List.flatMap_append]; simp
def Cells9 (w : World) (g : Nat) (D : Dg) (vo vd : Value) : Prop :=
  w.cell? ⟨g, 0, none⟩ = some (.int .u8 D.t) ∧ w.cell? ⟨g, 1, none⟩ = some (.int .u8 D.ttl) ∧ w.cell? ⟨g, 2, none⟩ = some (.int .u8 D.pr) ∧ w.cell? ⟨g, 3, none⟩ = some (.int .u16 D.id) ∧ w.cell? ⟨g, 4, none⟩ = some (.int .u16 D.fr) ∧
    w.cell? ⟨g, 5, none⟩ = some (.int .u32 D.src) ∧ w.cell? ⟨g, 6, none⟩ = some (.int .u32 D.dst) ∧ w.cell? ⟨g, 7, none⟩ = some vo ∧ w.cell? ⟨g, 8, none⟩ = some vd
theorem cells9 {w : World} {g : Nat} {D : Dg} {ao ad : Option Addr} {no co nd cd : Nat} (h : Box w g (valD D ao no co ad nd cd).toList) : Cells9 w g D (.slice ao no co) (.slice ad nd cd) :=
  ⟨h.at_ 0 _ rfl, h.at_ 1 _ rfl, h.at_ 2 _ rfl, h.at_ 3 _ rfl, h.at_ 4 _ rfl, h.at_ 5 _ rfl, h.at_ 6 _ rfl, h.at_ 7 _ rfl, h.at_ 8 _ rfl⟩
theorem build_no {w W : World} {L : List Sl} {ao ad : Option Addr} {no co nd cd : Nat} (D : Dg) (h : St w W L) (hmo : (ao, no, co, D.o) ∈ L) (hmd : (ad, nd, cd, D.d) ∈ L) (hno : no ≤ 300) (hnd : nd ≤ 3000) (hf : ¬ D.fits) :
    Calls Try.prog 66 #[.agg (valD D ao no co ad nd cd)] W fun e W' => e = .returned (.tuple #[.slice none 0 0, .int .i64 12]) ∧ St w W' L := by
  obtain ⟨W1, hW1⟩ : ∃ W1, W1 = W.alloc (.cells (valD D ao no co ad nd cd) 27) := ⟨_, rfl⟩
  have b1 : Below W.heap.size W W1 := by rw [hW1]; exact (Below.refl _ _).alloc (Nat.le_refl _) _
  have k1 := cells9 (w := W1) (g := W.heap.size) (D := D) (ao := ao) (no := no) (co := co) (ad := ad) (nd := nd) (cd := cd) (by rw [hW1]; exact Box.made _ _ _)
  have S1 := hid (h.next b1)
  have HW := hid hW1
  obtain ⟨x0, x1, x2, x3, x4, x5, x6, x7, x8⟩ := k1
  have hlo := (h.get hmo).len
  unfold Dg.fits at hf
  rw [hlo] at hf
  clear h hmo hmd hW1 b1 x0 x1 x2 x3 x4 x5 x6 hlo
  unfold valD at *
  by_cases h40 : (40 : Int) < no
  · clear hf
    go_enter Try.func66, Try.ntmps66
    go_upto_region 1 with fail
    rw [← HW.out]
    go_wp2_with fail
    go_ret2
    exact ⟨rfl, S1.out⟩
  · have hm4 : ((20 + (no : Int)) % 4 != 0) = true := by simp; intro h; exact hf ⟨by omega, by omega⟩
    clear hf
    go_enter Try.func66, Try.ntmps66
    go_upto_region 1 with fail
    rw [← HW.out]
    go_wp2_with fail
    go_ret2
    exact ⟨rfl, S1.out⟩
set_option maxHeartbeats 2000000 in
theorem build_yes {w W : World} {L : List Sl} {ao ad : Option Addr} {no co nd cd : Nat} (D : Dg) (h : St w W L) (hmo : (ao, no, co, D.o) ∈ L) (hmd : (ad, nd, cd, D.d) ∈ L) (hok : D.Ok) (hno : no ≤ 300) (hnd : nd ≤ 3000) (hf : D.fits) :
    Calls Try.prog 66 #[.agg (valD D ao no co ad nd cd)] W fun e W' => ∃ a n c, e = .returned (.tuple #[.slice a n c, .int .i64 0]) ∧ St w W' ((a, n, c, ipB D) :: L) := by
  obtain ⟨i0, hi, hi0, hi1, hi2⟩ := info_parts Try.info_u8
  obtain ⟨W1, hW1⟩ : ∃ W1, W1 = W.alloc (.cells (valD D ao no co ad nd cd) 27) := ⟨_, rfl⟩
  have b1 : Below W.heap.size W W1 := by rw [hW1]; exact (Below.refl _ _).alloc (Nat.le_refl _) _
  have kb : Box W1 W.heap.size (valD D ao no co ad nd cd).toList := by rw [hW1]; exact Box.made _ _ _
  have KC := hid (fun (wr : World) (hb : Below W1.heap.size W1 wr) => cells9 (kb.next hb))
  have S1 := hid (h.next b1)
  have HW := hid hW1
  obtain ⟨x0, x1, x2, x3, x4, x5, x6, x7, x8⟩ := cells9 kb
  have HLO := hid (h.get hmo).len
  have HLD := hid (h.get hmd).len
  have MO := hid hmo
  have MD := hid hmd
  have HK := hid hok
  have hf1 : no ≤ 40 := by have := hf.1; rw [HLO.out] at this; exact this
  have hf2 : (20 + no) % 4 = 0 := by have := hf.2; rw [HLO.out] at this; exact this
  clear h hmo hmd hW1 b1 kb hok hf
  have h40 : ¬ (40 : Int) < no := by omega
  have hm4 : ((20 + (no : Int)) % 4 != 0) = false := by simp; omega
  have hd3 : ¬ (65535 - (20 + (no : Int)) < nd) := by omega
  have w8 : IntKind.u8.wrap (64 + (20 + (no : Int)) / 4) = 64 + (20 + (no : Int)) / 4 := by rw [IntKind.wrap_u8']; omega
  have w16 : IntKind.u16.wrap (20 + (no : Int) + nd) = 20 + (no : Int) + nd := by rw [IntKind.wrap_u16]; omega
  unfold valD at *
  go_enter Try.func66, Try.ntmps66
  go_upto_region 1 with fail
  rw [← HW.out]
  go_upto_region 7 with (first | (go_at_call 102; ((with_reducible refine (put8_row (Row.start W1) (by omega) _ (by omega)).mono ?_); rintro e w2 ⟨a2, c2, rfl, r2⟩); have y0 := (KC.out _ r2.bel).1) | (go_at_call 102; ((with_reducible refine (put8_row r2 (by omega) _ HK.out.t).mono ?_); rintro e w3 ⟨a3, c3, rfl, r3⟩); obtain ⟨_, _, _, z3, z4, _, _, _, z8⟩ := KC.out _ r3.bel))
  obtain ⟨ns, hns⟩ : ∃ ns : List Int, ns = [20 + (no : Int) + nd, D.id, D.fr] := ⟨_, rfl⟩
  have NS := hid hns
  have hnl : ns.length = 3 := by rw [hns]; rfl
  have nb : Hid (∀ k, k < 3 → 0 ≤ ns.getD k 0 ∧ ns.getD k 0 ≤ 65535) := fun k hk => by
    rw [hns]
    match k, hk with
    | 0, _ => (simp; omega)
    | 1, _ => exact HK.out.id
    | 2, _ => exact HK.out.fr
  have R3 := hid r3
  clear hns y0 z3 z4 z8 r2 r3
  go_loopw [5, 7, 49] (fun o x i wr => ∃ (k : Nat) (a' : Option Addr) (c' : Nat), k ≤ 3 ∧ i = .int .i64 (k : Nat) ∧ o = .slice a' (2 + 2 * k) c' ∧ Row W1 wr a' (2 + 2 * k) c' ([64 + (20 + (no : Int)) / 4, D.t] ++ preB ns k)) (fun _ _ i _ => 3 - (intOf i).toNat)
  case atStart => exact ⟨0, a3, c3, Nat.zero_le _, rfl, rfl, R3.out⟩
  case round =>
    obtain ⟨k, a', c', hk, rfl, rfl, hR⟩ := hrel
    have RR := hid hR
    clear hR
    by_cases hlt : k < 3
    · have hix : (Instr.index 178 (.agg #[.int .u16 (20 + (no : Int) + nd), .int .u16 D.id, .int .u16 D.fr]) (.int .i64 (k : Nat))).run Try.prog wr = .ok (.int .u16 (ns.getD k 0)) wr := by rw [NS.out]; exact idx3 _ _ _ k hlt wr
      have HPR := hid (preB_succ ns k (by rw [hnl]; exact hlt))
      have hy := nb.out k hlt
      obtain ⟨yv, hyv⟩ : ∃ yv, yv = ns.getD k 0 := ⟨_, rfl⟩
      rw [← hyv] at hix HPR hy
      clear hyv
      go_wp2_with (go_at_call 76; ((with_reducible refine (put16_row RR.out (by omega) yv hy).mono ?_); rintro e w5 ⟨a5, c5, rfl, r5⟩))
      have R5 := hid r5
      clear r5
      go_roundw
      case rel => exact ⟨k + 1, a5, c5, by omega, by go_num, rfl, by rw [HPR.out, ← List.append_assoc]; exact R5.out⟩
      case measure => simp [intOf]; omega
    · obtain rfl : k = 3 := by omega
      have HC := hid (KC.out _ RR.out.bel)
      obtain ⟨_, z1, _, _, _, _, _, _, _⟩ := HC.out
      go_upto_region 16 with (first | (go_at_call 102; ((with_reducible refine (put8_row RR.out (by omega) _ HK.out.ttl).mono ?_); rintro e w6 ⟨a6, c6, rfl, r6⟩); obtain ⟨_, _, u2, _, _, _, _, _, _⟩ := KC.out _ r6.bel) | (go_at_call 102; ((with_reducible refine (put8_row r6 (by omega) _ HK.out.pr).mono ?_); rintro e w7 ⟨a7, c7, rfl, r7⟩)) | (go_at_call 76; ((with_reducible refine (put16_row r7 (by omega) 0 (by omega)).mono ?_); rintro e w8 ⟨a8, c8, rfl, r8⟩); obtain ⟨_, _, _, _, _, u5, _, _, _⟩ := KC.out _ r8.bel) | (go_at_call 103; ((with_reducible refine (put32_row r8 (by omega) _ HK.out.src).mono ?_); rintro e w9 ⟨a9, c9, rfl, r9⟩); obtain ⟨_, _, _, _, _, _, u6, _, _⟩ := KC.out _ r9.bel) | (go_at_call 103; ((with_reducible refine (put32_row r9 (by omega) _ HK.out.dst).mono ?_); rintro e w10 ⟨a10, c10, rfl, r10⟩)))
      obtain ⟨_, _, _, _, _, _, _, t7, _⟩ := KC.out _ r10.bel
      go_upto_region 17 with (at_builtin; go_loud (refine wpList_append_nums rfl (.tmp 74) _ 22 rfl W1.heap.size 5 i0 (.int .u8 0) 1 Try.underlying22 hi hi0 hi1 hi2 rfl _ _ _ rfl r10.own _ _ _ _ _ rfl ((S1.out.next r10.bel).get MO.out) (by unfold maxLen; omega) (by omega) r10.bel.size ?_); go_loud (intro v11 w11 g11 h11; obtain ⟨a11, c11, rfl, r11⟩ := Row.app r10 g11 h11))
      have e : [64 + (20 + (no : Int)) / 4, D.t] ++ preB ns 3 ++ [D.ttl] ++ [D.pr] ++ [0 / 256, 0 % 256] ++ [D.src / 16777216, D.src / 65536 % 256, D.src / 256 % 256, D.src % 256] ++ [D.dst / 16777216, D.dst / 65536 % 256, D.dst / 256 % 256, D.dst % 256] ++ D.o = head0 D := by
        rw [NS.out]; unfold head0; rw [HLO.out, HLD.out]; simp [preB]
      rw [e] at r11
      have HOct := hid (head0_oct HK.out (by rw [HLO.out]; omega) (by rw [HLD.out]; omega))
      have hck := chk_le (head0 D)
      obtain ⟨ck, hcke⟩ : ∃ ck, ck = chk (head0 D) := ⟨_, rfl⟩
      rw [← hcke] at hck
      have HCK := hid hcke
      have R11 := hid r11
      have hb11 := r11.bel.size
      have HF := hid (fun (l : List Int) => show St w W1 L from S1.out)
      clear e hcke r6 r7 r8 r9 r10 r11 g11 h11 z1 u2 u5 u6 t7
      go_upto_region 18 with (first | (go_at_call 104; ((with_reducible refine (of_is _ R11.out.nums HOct.out (Nat.le_refl _) (ck : Int) (by rw [HCK.out])).mono ?_); rintro e w12 ⟨rfl, b12⟩); have r12 := R11.out.next b12) | (go_at_call 68; ((with_reducible refine (seal_any r12 (by omega) (by omega) (ck : Int) ck hck rfl).mono ?_); rintro e w13 ⟨rfl, r13⟩)))
      obtain ⟨_, _, _, _, _, _, _, _, t8⟩ := KC.out _ r13.bel
      go_wp2_with (at_builtin; go_loud (refine wpList_append_nums rfl (.tmp 82) _ 22 rfl W1.heap.size 5 i0 (.int .u8 0) 1 Try.underlying22 hi hi0 hi1 hi2 rfl _ _ _ rfl r13.own _ _ _ _ _ rfl ((S1.out.next r13.bel).get MD.out) (by unfold maxLen; omega) (by omega) r13.bel.size ?_); go_loud (intro v14 w14 g14 h14; obtain ⟨a14, c14, rfl, r14⟩ := Row.app r13 g14 h14))
      go_ret2
      refine ⟨a14, _, c14, rfl, ?_⟩
      have e2 : ipB D = sealL (head0 D) ck ++ D.d := by unfold ipB; rw [HCK.out]
      rw [e2]
      exact (S1.out.next r14.bel).push r14.nums
/-- the document's example -/
theorem alive_st {w W : World} {L : List Sl} (h : St w W L) : Calls Try.prog 14 #[] W fun e W' => e = .returned (.bool true) ∧ St w W' L := by
  have s0 := hid (h.nil)
  have HB := hid (show Calls Try.prog 66 #[.agg #[.int .u8 0, .int .u8 0, .int .u8 0, .int .u16 0, .int .u16 0, .int .u32 0, .int .u32 0, .slice none 0 0, .slice none 0 0]] W (fun e W' => ∃ a n c, e = .returned (.tuple #[.slice a n c, .int .i64 0]) ∧ St w W' ((a, n, c, ipB Dg.none) :: (none, 0, 0, []) :: L)) from build_yes Dg.none h.nil m0 m0 ⟨by decide, by decide, by decide, by decide, by decide, by decide, by decide, oct_nil, oct_nil⟩ (by decide) (by decide) (by decide))
  have NL := hid (fun w1 : World => nums_lit (w := w1) (k := .u8) (e := 5) (cs := #[.int .u8 69, .int .u8 0, .int .u8 0, .int .u8 20, .int .u8 0, .int .u8 0, .int .u8 0, .int .u8 0, .int .u8 0, .int .u8 0, .int .u8 186, .int .u8 235, .int .u8 0, .int .u8 0, .int .u8 0, .int .u8 0, .int .u8 0, .int .u8 0, .int .u8 0, .int .u8 0]) (n := 20) [69, 0, 0, 20, 0, 0, 0, 0, 0, 0, 186, 235, 0, 0, 0, 0, 0, 0, 0, 0] rfl (by decide) rfl)
  clear h
  go_enter Try.func14, Try.ntmps14
  go_wp2_with (first | (go_at_call 66; (go_loud (with_reducible refine HB.out.mono ?_); rintro e w1 ⟨a1, n1, c1, rfl, s1⟩)) | (go_at_call 33; (go_loud (refine (equal_same _ ((s1.get m0).below ((Below.refl _ _).alloc (Nat.le_refl _) _)) (NL.out _) (by decide +kernel)).mono ?_); rintro e w2 ⟨rfl, mm, rfl⟩)))
  go_ret
  exact ⟨rfl, s1.tl.tl.next (below_drewN ((Below.refl _ _).alloc (Nat.le_refl _) _) _)⟩
end Go.Proofs.Ytidenjinagpphab.ipc
