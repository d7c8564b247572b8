/- The program's Sum. -/
import Derived.Test.YtnfklhebcloolaaDoorMdW
namespace Go.Proofs.YtnfklhebcloolaaDoor.mdc
open Go.RowKit
open Go.Proofs.YtnfklhebcloolaaDoor.kit Go.Proofs.YtnfklhebcloolaaDoor.mdm
set_option linter.unusedVariables false
set_option linter.unusedSimpArgs false
set_option maxRecDepth 20000
/-- a row stored into a block that is known -/
theorem wpList_store_box {P : Program} {ops : Array Oper} {rest : List Oper} {op : Oper} {a : Act} {w : World} {Q : Exit → Act → World → Prop} (hgd : op.guard = none) (ty : TypeId) (x y : Operand) (ho : op.op = .store ty x y)
    (b : Nat) (vs0 vs : List Value) (hx : a.eval x = .pointer (some ⟨b, 0, none⟩)) (hy : a.eval y = .agg vs.toArray) (hB : Box w b vs0) (hl : vs0.length = vs.length)
    (hi : (P.info? ty).map (·.size) = some vs.length) (h1 : vs.all (·.oneCell') = true)
    (h : ∀ w', Hid (Box w' b vs) → Hid (w.grownBy w' (some b)) → wpList P ops Q rest (a.put op.dst undef) w') : wpList P ops Q (op :: rest) a w := by
  have ht : w.there b 0 vs.length := fun j hj => ⟨by rw [Nat.zero_add, hB.at_ j _ (List.getElem?_eq_getElem (by omega))]; rfl, by rw [Nat.zero_add]; exact hB.fr j⟩
  refine wpList_store_mid hgd ty x y ho b 0 vs.toArray hx hy (by simpa using ht) (by simpa using hi) (by simpa using h1) ?_
  obtain ⟨b1, b2⟩ := Box.setCells vs w vs0 0 hB (by omega)
  have e : spl vs0 0 vs = vs := by unfold spl; rw [List.drop_eq_nil_of_le (by omega)]; simp
  rw [e] at b1
  exact h _ b1 b2
theorem box_range {w : World} {g : Nat} {vs : List Value} (h : Box w g vs) : w.rangeAt g 0 vs := fun j v hv => by rw [Nat.zero_add]; exact h.at_ j v hv
theorem Hs.next {w w' : World} {g : Nat} {l : List Int} {x : Q4} {P : List Int} (h : Hs w g l x P) (hb : Below w.heap.size w w') : Hs w' g l x P := ⟨h.box.next hb, h.ok, h.oct, h.len, h.nums, h.rest⟩
theorem Hs.grown {w w' : World} {g o : Nat} {l : List Int} {x : Q4} {P : List Int} (h : Hs w g l x P) (hb : w.grownBy w' (some o)) (hne : g ≠ o) : Hs w' g l x P := ⟨h.box.grown hb hne, h.ok, h.oct, h.len, h.nums, h.rest⟩
theorem hv_len (x : Q4) (P : List Int) (t : Nat) (hP : P.length = 64) : (hv x P t).length = 69 := by simp [hv, q4, b16, hP]
theorem hv_one (x : Q4) (P : List Int) (t : Nat) : (hv x P t).all (·.oneCell') = true := by
  rw [List.all_eq_true]
  intro v hv'
  unfold hv at hv'
  rcases List.mem_append.1 hv' with h | h
  · rcases List.mem_append.1 h with h | h
    · simp [q4] at h; rcases h with rfl | rfl | rfl | rfl <;> rfl
    · obtain ⟨z, _, rfl⟩ := List.mem_map.1 h; rfl
  · simp at h; subst h; rfl
/-- what Sum's steps keep: the digest's block, the Hash that was given, the copy with the bytes m -/
structure Sk (w wr : World) (g : Nat) (l m : List Int) (x : Q4) (P : List Int) : Prop where
  b : Below w.heap.size w wr
  r : Box wr w.heap.size (b16 (List.replicate 16 0))
  h : Hs wr g l x P
  c : ∃ y R, Hs wr (w.heap.size + 1) m y R
  T : Tab wr
  g : g < w.heap.size
  t : Tab w
theorem Sk.next {w wr w' : World} {g : Nat} {l m : List Int} {x : Q4} {P : List Int} (h : Sk w wr g l m x P) (hb : Below wr.heap.size wr w') : Sk w w' g l m x P :=
  ⟨h.b.trans (hb.mono h.b.size), h.r.next hb, h.h.next hb, (by obtain ⟨y, R, k⟩ := h.c; exact ⟨y, R, k.next hb⟩), h.T.next hb, h.g, h.t⟩
theorem Sk.wrote {w wr w' : World} {g : Nat} {l m : List Int} {x : Q4} {P : List Int} {k : List Int} (h : Sk w wr g l m x P) (hc : ∃ y R, Hs w' (w.heap.size + 1) k y R) (hb : wr.grownBy w' (some (w.heap.size + 1))) : Sk w w' g l k x P := by
  have hg := h.g
  have ht := h.t.lt
  exact ⟨gb_below h.b hb h.b.size (Nat.le_succ _), h.r.grown hb (by omega), h.h.grown hb (by omega), hc, h.T.grown hb (by omega) (by omega) (by omega), h.g, h.t⟩
theorem Sk.write {w wr : World} {g : Nat} {l m : List Int} {x : Q4} {P : List Int} (h : Sk w wr g l m x P) (a : Option Addr) (n cap B : Nat) (k : List Int) (hN : Nums .u8 wr B a n cap k) (hO : Oct k) (hB : B ≤ wr.heap.size) (hne : 0 < n → ∀ b o s, a = some ⟨b, o, s⟩ → b ≠ w.heap.size + 1) (htot : m.length + n ≤ 1000000) :
    Calls Tryd.prog 10 #[.pointer (some ⟨w.heap.size + 1, 0, none⟩), .slice a n cap] wr fun e w' => e = .returned (.tuple #[]) ∧ Sk w w' g l (m ++ k) x P := by
  obtain ⟨y, R, hc⟩ := h.c
  have ht := h.t.lt
  exact (write_any wr h.T (w.heap.size + 1) m k y R hc a n cap B hN hO hB hne htot (by omega) (by omega) (by omega)).mono fun e w' ⟨he, h1, h2⟩ => ⟨he, h.wrote h1 h2⟩
theorem Sk.other {w wr w' : World} {g : Nat} {l m : List Int} {x : Q4} {P : List Int} {o : Nat} (h : Sk w wr g l m x P) (hb : wr.grownBy w' (some o)) (ho : w.heap.size + 1 < o) : Sk w w' g l m x P := by
  have hg := h.g
  have ht := h.t.lt
  exact ⟨gb_below h.b hb h.b.size (by omega), h.r.grown hb (by omega), h.h.grown hb (by omega), (by obtain ⟨y, R, k⟩ := h.c; exact ⟨y, R, k.grown hb (by omega)⟩), h.T.grown hb (by omega) (by omega) (by omega), h.g, h.t⟩
theorem one_oct (c : Int) (h0 : 0 ≤ c) (h1 : c ≤ 255) : Oct [c] := fun z hz => by simp at hz; subst hz; exact ⟨h0, h1⟩
theorem Sk.write1 {w wr : World} {g : Nat} {l m : List Int} {x : Q4} {P : List Int} (h : Sk w wr g l m x P) (c : Int) (h0 : 0 ≤ c) (h1 : c ≤ 255) (htot : m.length + 1 ≤ 1000000) :
    Calls Tryd.prog 10 #[.pointer (some ⟨w.heap.size + 1, 0, none⟩), .slice (some ⟨wr.heap.size, 0, none⟩) 1 1] (wr.alloc (.cells #[.int .u8 c] 5)) fun e w' => e = .returned (.tuple #[]) ∧ Sk w w' g l (m ++ [c]) x P := by
  obtain ⟨y, R, hc⟩ := h.c
  have hlt := hc.box.lt
  exact (h.next ((Below.refl _ _).alloc (Nat.le_refl _) _)).write (some ⟨wr.heap.size, 0, none⟩) 1 1 _ [c] nums_one (one_oct c h0 h1) (by simp) (fun _ b o s e => by injection e with e; injection e with e _ _; omega) htot
def lb (N i : Nat) : List Int := (leB 8 N).take i ++ List.replicate (8 - i) 0
theorem lb_set (N i : Nat) (hi : i < 8) : (b16 (lb N i)).set i (.int .u8 ((N / 2 ^ (8 * i) % 256 : Nat) : Int)) = b16 (lb N (i + 1)) := by
  have hc : i = 0 ∨ i = 1 ∨ i = 2 ∨ i = 3 ∨ i = 4 ∨ i = 5 ∨ i = 6 ∨ i = 7 := by omega
  rcases hc with rfl | rfl | rfl | rfl | rfl | rfl | rfl | rfl <;> simp [b16, lb, leB, Nat.div_div_eq_div_mul, List.replicate]
theorem lb_8 (N : Nat) : lb N 8 = leB 8 N := by unfold lb; rw [List.take_of_length_le (by rw [leB_len]; omega)]; simp
theorem lb_0 (N : Nat) : lb N 0 = List.replicate 8 0 := by simp [lb]
theorem lb_len (N i : Nat) (hi : i ≤ 8) : (lb N i).length = 8 := by simp [lb, leB_len]; omega
theorem lb_at (N i : Nat) (hi : i < 8) : ∃ v, (b16 (lb N i))[i]? = some v := by
  refine ⟨_, List.getElem?_eq_getElem ?_⟩
  simp [b16, lb_len N i (by omega)]; omega
theorem whole_slice (g : Nat) (w : World) : (Instr.sliceAt 61 (.pointer (some ⟨g, 0, none⟩)) none none none).run Tryd.prog w = .ok (.slice (some ⟨g, 0, none⟩) 8 8) w := by
  have ht : Tryd.prog.underlying 61 = some (.array (Tryd.prog.arrayLen 61) (Tryd.prog.elem 61)) := by kernel_rfl
  have hal : Tryd.prog.arrayLen 61 = 8 := by kernel_rfl
  have hel : Tryd.prog.elem 61 = 5 := by kernel_rfl
  have hsz : (Tryd.prog.info? 5).map (·.size) = some 1 := by kernel_rfl
  rw [run_sliceAt_array_all (ht := ht), hal, hel]
  cases hq : Tryd.prog.info? 5 with
  | none => simp [hq] at hsz
  | some ii =>
    have hi2 : ii.size = 1 := by simpa [hq] using hsz
    simp [sizeOf, typeInfo, hq, hi2, slicedAt, Addr.add, Result.andThen]
def tkn (w : World) (g : Nat) : Nat := match w.cell? ⟨g, 68, none⟩ with | some (.int _ t) => t.toNat | _ => 0
theorem Sk.tkn {w wr : World} {g : Nat} {l m : List Int} {x : Q4} {P : List Int} (h : Sk w wr g l m x P) : tkn wr (w.heap.size + 1) = m.length ∧ wr.cell? ⟨w.heap.size + 1, 68, none⟩ = some (.int .u64 (m.length : Nat)) := by
  obtain ⟨y, R, hc⟩ := h.c
  have h1 := hc.box.at_ 68 _ (hv_taken y R hc.len _)
  exact ⟨by unfold mdc.tkn; rw [h1]; simp, h1⟩
def SumOf (l : List Int) (w : World) (e : Ending) (w' : World) : Prop := e = .returned (.agg (b16 (md5 l)).toArray) ∧ Below w.heap.size w w'
set_option maxHeartbeats 4000000 in
theorem sum_any (w : World) (T : Tab w) (g : Nat) (l : List Int) (x : Q4) (P : List Int) (H : Hs w g l x P) (hn : l.length ≤ 500000) :
    Calls Tryd.prog 11 #[.pointer (some ⟨g, 0, none⟩)] w (SumOf l w) := by
  have hgl := H.box.lt
  have HRG := hid (box_range (H.box.next ((Below.refl w.heap.size w).alloc (Nat.le_refl _) (.cells (b16 (List.replicate 16 0)).toArray 24))))
  have HLN := hid (hv_len x P l.length H.len)
  have HON := hid (hv_one x P l.length)
  obtain ⟨V, hV⟩ : ∃ V, V = hv x P l.length := ⟨_, rfl⟩
  rw [← hV] at HRG HLN HON
  have HVE := hid hV
  have hz := hid (show (Tryd.prog.info? 36).map (·.size) = some V.length by rw [HLN.out]; kernel_rfl)
  have HH := hid H
  have HT := hid T
  clear hV H T
  go_enter Tryd.func11, Tryd.ntmps11
  go_upto_region 1 with fail
  change Code.wp _ _ _ _ (w.alloc (.cells (b16 (List.replicate 16 0)).toArray 24))
  have bA := (Below.refl w.heap.size w).alloc (Nat.le_refl _) (.cells (b16 (List.replicate 16 0)).toArray 24)
  have R0 := hid (show Box (w.alloc (.cells (b16 (List.replicate 16 0)).toArray 24)) w.heap.size (b16 (List.replicate 16 0)) from Box.made w _ _)
  have hsz : (w.alloc (.cells (b16 (List.replicate 16 0)).toArray 24)).heap.size = w.heap.size + 1 := by simp
  have BA := hid bA
  have HSZ := hid hsz
  clear bA hsz
  generalize w.alloc (.cells (b16 (List.replicate 16 0)).toArray 24) = W at *
  have BM : Hid (∀ zs t, Box (W.alloc (.cells zs t)) W.heap.size zs.toList) := hid (fun zs t => Box.made W zs t)
  go_upto_region 2 with (first | (refine wpList_load_mid rfl 36 (.tmp 7) rfl g 0 rfl V _ HRG.out Tryd.underlying36 rfl hz.out ?_) | (refine wpList_store_box rfl 36 (.tmp 3) (.tmp 8) rfl W.heap.size _ V rfl rfl (BM.out _ _) HLN.out.symm hz.out HON.out ?_; intro w2 B2 G2))
  have hBW := BA.out.alloc BA.out.size (.cells Tryd.zeroCells36 36)
  have hsz1 : W.heap.size ≤ (W.alloc (.cells Tryd.zeroCells36 36)).heap.size := by simp
  have htl := HT.out.lt
  have S0 := hid (show Sk w w2 g l l x P from by
    have hW := HSZ.out
    have a1 := (Below.refl W.heap.size W).alloc (Nat.le_refl _) (.cells Tryd.zeroCells36 36)
    have hTW := HT.out.next hBW
    refine ⟨gb_below hBW G2.out (Nat.le_trans (by omega) hsz1) (by omega), (R0.out.next a1).grown G2.out (by omega), (HH.out.next hBW).grown G2.out (by omega), ⟨x, P, ?_, HH.out.ok, HH.out.oct, HH.out.len, HH.out.nums, HH.out.rest⟩, hTW.grown G2.out (by omega) (by omega) (by omega), hgl, HT.out⟩
    have := B2.out
    rw [HVE.out, hW] at this
    exact this)
  rw [HSZ.out]
  clear hBW hsz1 B2 G2 BM BA R0 HRG HON hz HLN HVE HSZ
  go_upto_region 3 with (go_at_call 10; ((with_reducible refine (S0.out.write1 128 (by omega) (by omega) (by omega)).mono ?_); rintro e w3 ⟨rfl, S1⟩; have S1 := hid S1))
  clear S0
  have HZ := hid (show zeros l.length = (119 - l.length % 64) % 64 from rfl)
  obtain ⟨Z, hZ⟩ : ∃ Z, Z = zeros l.length := ⟨_, rfl⟩
  rw [← hZ] at HZ
  have HZE := hid hZ
  clear hZ
  have hZ64 : Z < 64 := by rw [HZ.out]; omega
  go_loopw [] (fun wr => ∃ j : Nat, j ≤ Z ∧ Hid (Sk w wr g l (l ++ [128] ++ List.replicate j 0) x P)) (fun wr => 1000000 - tkn wr (w.heap.size + 1))
  case atStart => exact ⟨0, by omega, by simpa using S1⟩
  case round =>
    clear S1
    obtain ⟨j, hj, HS⟩ := hrel
    have hml : (l ++ [128] ++ List.replicate j 0).length = l.length + 1 + j := by simp; omega
    obtain ⟨k0, k1⟩ := HS.out.tkn
    rw [hml] at k0 k1
    have HML := hid hml
    have HK0 := hid k0
    clear hml k0
    by_cases hlt : j < Z
    · have hne : ((((l.length + 1 + j : Nat) : Int) % 64) != 56) = true := by have := HZ.out; simp; omega
      obtain ⟨t, ht⟩ : ∃ t, t = l.length + 1 + j := ⟨_, rfl⟩
      rw [← ht] at k1 hne
      have HTT := hid ht
      clear ht
      go_wp2_with (go_at_call 10; ((with_reducible refine (HS.out.write1 0 (by omega) (by omega) (by rw [HML.out]; omega)).mono ?_); rintro e w4 ⟨rfl, S4⟩; have S4 := hid S4))
      go_roundw
      case rel => exact ⟨j + 1, by omega, hid (by have := S4.out; rw [List.append_assoc, ← List.replicate_succ'] at this; exact this)⟩
      case measure =>
        have k2 := S4.out.tkn.1
        rw [List.length_append, HML.out] at k2
        have := HK0.out
        simp at k2
        omega
    · obtain rfl : j = Z := by omega
      have hne : ((((l.length + 1 + j : Nat) : Int) % 64) != 56) = false := by have := HZ.out; simp; omega
      obtain ⟨t, ht⟩ : ∃ t, t = l.length + 1 + j := ⟨_, rfl⟩
      rw [← ht] at k1 hne
      have HTT := hid ht
      clear ht
      go_upto_region 7 with fail
      have hgw : w.heap.size + 1 < wr.heap.size := by obtain ⟨y, R, hc⟩ := HS.out.c; exact hc.box.lt
      obtain ⟨N, hN⟩ : ∃ N, N = 8 * l.length := ⟨_, rfl⟩
      have S5 := hid (HS.out.next ((Below.refl _ _).alloc (Nat.le_refl _) (.cells #[.int .u8 0, .int .u8 0, .int .u8 0, .int .u8 0, .int .u8 0, .int .u8 0, .int .u8 0, .int .u8 0] 61)))
      have X5 := hid (show Box (wr.alloc (.cells #[.int .u8 0, .int .u8 0, .int .u8 0, .int .u8 0, .int .u8 0, .int .u8 0, .int .u8 0, .int .u8 0] 61)) wr.heap.size (b16 (lb N 0)) from by rw [lb_0]; exact Box.made wr _ _)
      have HNN := hid hN
      generalize wr.alloc (.cells #[.int .u8 0, .int .u8 0, .int .u8 0, .int .u8 0, .int .u8 0, .int .u8 0, .int .u8 0, .int .u8 0] 61) = W5 at *
      obtain ⟨g4, hg4⟩ : ∃ g4, g4 = wr.heap.size := ⟨_, rfl⟩
      rw [← hg4] at X5 hgw ⊢
      clear hN hg4 HS k1 hne
      have hnb : l.length ≤ 500000 := hn
      go_loopw [17] (fun iv wq => ∃ i : Nat, i ≤ 8 ∧ iv = .int .i64 (i : Nat) ∧ Hid (Sk w wq g l (l ++ [128] ++ List.replicate j 0) x P) ∧ Hid (Box wq g4 (b16 (lb N i)))) (fun iv _ => 8 - (intOf iv).toNat)
      case atStart => exact ⟨0, by omega, rfl, S5, X5⟩
      case round =>
        clear S5 X5
        obtain ⟨i, hi, rfl, HS, HX⟩ := hrel
        by_cases hlt : i < 8
        · have c0 := HS.out.h.box.at_ 68 _ (hv_taken x P HS.out.h.len _)
          obtain ⟨v0, hv0⟩ := lb_at N i hlt
          have c1 := HX.out.at_ i v0 hv0
          have f1 := HX.out.fr i
          have HSE := hid (lb_set N i hlt)
          rw [HNN.out] at HSE
          obtain ⟨n, hnn⟩ : ∃ n, n = l.length := ⟨_, rfl⟩
          rw [← hnn] at c0 hnb HSE
          have HNL := hid hnn
          have HC := hid (show 8 * (n : Int) / 2 ^ (8 * i) % 256 = ((8 * n / 2 ^ (8 * i) % 256 : Nat) : Int) by rw [Int.natCast_emod, Int.natCast_ediv, Int.natCast_pow]; rfl)
          clear hnn hv0
          go_wp2_with fail
          rw [HC.out]
          go_roundw
          case rel => exact ⟨i + 1, by omega, by go_num, hid (HS.out.other (gb_setCell (World.grownBy.refl _ _) (p := ⟨g4, i, none⟩) rfl _) hgw), hid (by have := HX.out.set i (.int .u8 ((8 * n / 2 ^ (8 * i) % 256 : Nat) : Int)); rw [HNN.out, ← HNL.out, HSE.out] at this; rw [HNN.out, ← HNL.out]; exact this)⟩
          case measure => simp [intOf]; omega
        · obtain rfl : i = 8 := by omega
          rw [lb_8] at HX
          have HN8 := hid (box_nums HX.out (leB_len 8 N) (Nat.le_refl 8) (by unfold maxLen; omega))
          have HO8 := hid (leB_oct 8 N)
          have HTT8 := hid (show (l ++ [128] ++ List.replicate j 0).length + 8 ≤ 1000000 by rw [HML.out]; omega)
          have HPD := hid (show l ++ [128] ++ List.replicate j 0 ++ leB 8 N = pad l by rw [HNN.out, HZE.out]; rfl)
          have hsl := whole_slice g4 wr
          clear HX
          go_upto_region 12 with (go_at_call 10; ((with_reducible refine (HS.out.write (some ⟨g4, 0, none⟩) 8 8 _ (leB 8 N) HN8.out HO8.out (Nat.le_refl _) (fun _ b o s e => by injection e with e; injection e with e _ _; omega) HTT8.out).mono ?_); rintro e w5 ⟨rfl, S9⟩; have S9 := hid S9))
          rw [HPD.out] at S9
          have KD := hid (show Calls Tryd.prog 24 #[.pointer (some ⟨w.heap.size + 1, 0, none⟩)] w5 fun e w' => e = .returned (.agg (b16 (md5 l)).toArray) ∧ Below w5.heap.size w5 w' from by
            obtain ⟨y, R, hc⟩ := S9.out.c
            have := digest_any w5 S9.out.T (w.heap.size + 1) y R _ hc.ok hc.box
            rw [hc.nums] at this
            exact this)
          have ONE := hid (show (b16 (md5 l)).all (·.oneCell') = true by rw [List.all_eq_true]; intro x hx; obtain ⟨y, _, rfl⟩ := List.mem_map.1 hx; rfl)
          have HLn := hid (show (b16 (md5 l)).length = 16 by simp [b16, md5, dig_len])
          obtain ⟨V, hV⟩ : ∃ V, V = b16 (md5 l) := ⟨_, rfl⟩
          have HVE := hid hV
          rw [← hV] at KD ONE HLn
          have hz2 := hid (show (Tryd.prog.info? 24).map (·.size) = some V.length by rw [HLn.out]; kernel_rfl)
          have hzl := hid (show (b16 (List.replicate 16 0)).length = V.length by rw [HLn.out]; rfl)
          clear hV HS HN8 HO8 hsl
          go_wp2_with (first | (go_at_call 24; ((with_reducible refine KD.out.mono ?_); rintro e w6 ⟨rfl, B6⟩; have SA := hid (S9.out.next B6); clear B6)) | (refine wpList_store_box rfl 24 (.tmp 2) (.tmp 34) rfl w.heap.size _ V rfl rfl SA.out.r hzl.out hz2.out ONE.out ?_; intro w9 B9 G9))
          have B10 := gb_below SA.out.b G9.out SA.out.b.size (Nat.le_refl _)
          have hld := run_loadVar_mid (P := Tryd.prog) w9 w.heap.size 0 24 V (.array 16 5) (box_range B9.out) (by kernel_rfl) rfl hz2.out
          refine bodyPost_ret (v := .agg V.toArray) ?_ rfl ⟨by rw [← HVE.out], B10⟩
          refine (results_cell1 rfl _ _ _).trans ?_
          show ((asAddr (.pointer (some ⟨w.heap.size, 0, none⟩))).run Tryd.prog w9).andThen _ = _
          simp [asAddr, Result.andThen, hld]
end Go.Proofs.YtnfklhebcloolaaDoor.mdc
