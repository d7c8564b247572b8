/- greh: the bytes of a packet, by the package and by the document. -/
import Derived.Test.YtgoldoaigijmoaaGreh
import Derived.Laws.OwnMore
namespace Go.Proofs.Ytgoldoaigijmoaa.grc
open Go.RowKit
open Go.Proofs.Ytgoldoaigijmoaa.kit Go.Proofs.Ytgoldoaigijmoaa.bec
set_option linter.unusedVariables false
set_option maxRecDepth 20000

def PutSt (w W : World) (L : List Sl) (n : Nat) (l : List Int) (x : Int) (z : Nat) (e : Ending) (W' : World) : Prop :=
  ∃ a' c', e = .returned (.slice a' (n + z) c') ∧ W'.ownsRow W.heap.size 5 1 (.slice a' (n + z) c') (n + z) ((l ++ beB z x).map (Value.int .u8)) ∧ Below W.heap.size W W' ∧ St w W' ((a', n + z, c', l ++ beB z x) :: L)
theorem put16_st {w W : World} {L : List Sl} {a : Option Addr} {n c : Nat} {l : List Int} (h : St w W L) (hm : (a, n, c, l) ∈ L) (hn : n ≤ 10000) (p : Int) (hp : 0 ≤ p ∧ p ≤ 65535) :
    Calls Try.prog 54 #[.slice a n c, .int .u16 p] W (PutSt w W L n l p 2) :=
  (put16_any W (h.get hm) (by omega) (Nat.le_refl _) p hp.1 hp.2).mono fun e W' ⟨a', c', he, ho, hb⟩ => ⟨a', c', he, ho, hb, h.own ho hb⟩
theorem put32_st {w W : World} {L : List Sl} {a : Option Addr} {n c : Nat} {l : List Int} (h : St w W L) (hm : (a, n, c, l) ∈ L) (hn : n ≤ 10000) (p : Int) (hp : 0 ≤ p ∧ p ≤ 4294967295) :
    Calls Try.prog 53 #[.slice a n c, .int .u32 p] W (PutSt w W L n l p 4) :=
  (put32_any W (h.get hm) (by omega) (Nat.le_refl _) p hp.1 hp.2).mono fun e W' ⟨a', c', he, ho, hb⟩ => ⟨a', c', he, ho, hb, h.own ho hb⟩
theorem rput_st {w W : World} {L : List Sl} {a : Option Addr} {n c : Nat} {l : List Int} (h : St w W L) (hm : (a, n, c, l) ∈ L) (hn : n ≤ 10000) (p : Int) (hp : 0 ≤ p ∧ p ≤ 4294967295) (z : Nat) (hz : 1 ≤ z ∧ z ≤ 8) (zi : Int) (hzi : zi = z) :
    Calls Try.prog 55 #[.slice a n c, .int .u64 p, .int .i64 zi] W (PutSt w W L n l p z) := by
  subst hzi
  exact (ref_put_in W (h.get hm) (by omega) (Nat.le_refl _) p hp.1 (by omega) z hz.1 hz.2).mono fun e W' ⟨a', c', he, ho, hb⟩ => ⟨a', c', he, ho, hb, h.own ho hb⟩
def preT (ns : List Int) (k : Nat) : List Int := (ns.take k).flatMap (beB 2)
theorem preT_len (ns : List Int) (k : Nat) (h : k ≤ ns.length) : (preT ns k).length = 2 * k := by
  unfold preT
  induction k with
  | zero => rfl
  | succ k ih => rw [take_getD (by omega), List.flatMap_append, List.length_append, ih (by omega)]; simp [beB_len]; omega
theorem preT_succ (ns : List Int) (k : Nat) (h : k < ns.length) : preT ns (k + 1) = preT ns k ++ beB 2 (ns.getD k 0) := by
  unfold preT; rw [take_getD h, List.flatMap_append]; simp

theorem idx4 (x0 x1 x2 x3 : Int) (k : Nat) (hk : k < 4) (w : World) : (Instr.index 87 (.agg #[.int .u16 x0, .int .u16 x1, .int .u16 x2, .int .u16 x3]) (.int .i64 (k : Nat))).run Try.prog w = .ok (.int .u16 ([x0, x1, x2, x3].getD k 0)) w := by
  have h : k = 0 ∨ k = 1 ∨ k = 2 ∨ k = 3 := by omega
  rcases h with rfl | rfl | rfl | rfl
  all_goals first | rfl | (simp [go_sem]; done)
set_option maxHeartbeats 4000000 in
theorem build_any {w W : World} {L : List Sl} {a : Option Addr} {n c : Nat} {l : List Int} (h : St w W L) (hm : (a, n, c, l) ∈ L) (hn : n ≤ 2000) (call : Int) (hc : 0 ≤ call ∧ call ≤ 65535) (hs : Bool) (seq : Int) (hq : 0 ≤ seq ∧ seq ≤ 4294967295) (ha : Bool) (ack : Int) (hk : 0 ≤ ack ∧ ack ≤ 4294967295) :
    Calls Try.prog 24 #[.agg #[.int .u16 call, .bool hs, .int .u32 seq, .bool ha, .int .u32 ack, .slice a n c]] W fun e W' => ∃ a' n' c', e = .returned (.slice a' n' c') ∧ St w W' ((a', n', c', grB call hs seq ha ack l) :: L) := by
  obtain ⟨i0, hi, hi0, hi1, hi2⟩ := info_parts Try.info_u8
  obtain ⟨W1, hW1⟩ : ∃ W1, W1 = W.alloc (.cells #[.int .u16 call, .bool hs, .int .u32 seq, .bool ha, .int .u32 ack, .slice a n c] 45) := ⟨_, rfl⟩
  have b0 : Below W.heap.size W W1 := by rw [hW1]; exact (Below.refl _ _).alloc (Nat.le_refl _) _
  have x0 : W1.cell? ⟨W.heap.size, 0, none⟩ = some (.int .u16 call) := by rw [hW1]; simp [go_sem]
  have x1 : W1.cell? ⟨W.heap.size, 1, none⟩ = some (.bool hs) := by rw [hW1]; simp [go_sem]
  have x2 : W1.cell? ⟨W.heap.size, 2, none⟩ = some (.int .u32 seq) := by rw [hW1]; simp [go_sem]
  have x3 : W1.cell? ⟨W.heap.size, 3, none⟩ = some (.bool ha) := by rw [hW1]; simp [go_sem]
  have x4 : W1.cell? ⟨W.heap.size, 4, none⟩ = some (.int .u32 ack) := by rw [hW1]; simp [go_sem]
  have x5 : W1.cell? ⟨W.heap.size, 5, none⟩ = some (.slice a n c) := by rw [hW1]; simp [go_sem]
  have hln := (h.get hm).len
  have s0 := (h.next b0).nil
  have HW := hid hW1
  have M := hid hm
  have RR := hid (fun w => right_any call hs seq ha ack a n c w)
  clear hW1 h hm b0
  cases hr : rightT hs seq ha ack n
  · have HG := hid (show grB call hs seq ha ack l = [] by unfold grB; rw [hln, hr]; rfl)
    rw [hr] at RR
    clear hr
    go_enter Try.func24, Try.ntmps24
    go_upto_region 1 with fail
    rw [← HW.out]
    go_wp2_with (go_at_call 26; ((with_reducible refine (RR.out _).mono ?_); rintro e w1 ⟨rfl, b1⟩))
    go_ret
    exact ⟨none, 0, 0, rfl, by rw [HG.out]; exact s0.next b1⟩
  · have HG := hid (show grB call hs seq ha ack l = headT call hs ha n ++ numsT hs seq ha ack ++ l by unfold grB; rw [hln, hr]; rfl)
    rw [hr] at RR
    clear hr hln
    cases hs
    · cases ha
      · have wn : IntKind.u16.wrap (n : Int) = n := by rw [IntKind.wrap_u16]; omega
        go_enter Try.func24, Try.ntmps24
        go_upto_region 1 with fail
        rw [← HW.out]
        go_wp2_with (first | (go_at_call 26; ((with_reducible refine (RR.out _).mono ?_); rintro e w1 ⟨rfl, b1⟩); have s1 := s0.next b1; have y0 := keep_cell b1 x0; have y1 := keep_cell b1 x1; have y2 := keep_cell b1 x2; have y3 := keep_cell b1 x3; have y4 := keep_cell b1 x4; have y5 := keep_cell b1 x5))
        obtain ⟨ns, hns⟩ : ∃ ns : List Int, ns = [8193, 34827, (n : Int), call] := ⟨_, rfl⟩
        have NS := hid hns
        have hnl : ns.length = 4 := by rw [hns]; rfl
        have nb : Hid (∀ k, k < 4 → 0 ≤ ns.getD k 0 ∧ ns.getD k 0 ≤ 65535) := fun k hk => by rw [hns]; match k, hk with | 0, _ => simp | 1, _ => simp | 2, _ => (simp; omega) | 3, _ => (simp; omega)
        clear hns
        go_loopw [5, 7, 35] (fun o x i wr => ∃ k : Nat, k ≤ 4 ∧ i = .int .i64 (k : Nat) ∧ wr.ownsRow w1.heap.size 5 1 o (2 * k) ((preT ns k).map (Value.int .u8)) ∧ Below w1.heap.size w1 wr) (fun _ _ i _ => 4 - (intOf i).toNat)
        case atStart => exact ⟨0, Nat.zero_le _, rfl, World.ownsRow_nil _ _ _ _, Below.refl _ _⟩
        case round =>
          obtain ⟨k, hk4, rfl, hO, hb⟩ := hrel
          have HO := hid hO
          have HB := hid hb
          have hbs := hb.size
          clear hO hb
          by_cases hlt : k < 4
          · have hix : (Instr.index 87 (.agg #[.int .u16 8193, .int .u16 34827, .int .u16 n, .int .u16 call]) (.int .i64 (k : Nat))).run Try.prog wr = .ok (.int .u16 (ns.getD k 0)) wr := by rw [NS.out]; exact idx4 _ _ _ _ k hlt wr
            have hpr := preT_succ ns k (by rw [hnl]; exact hlt)
            have HPR := hid hpr
            have hy := nb.out k hlt
            obtain ⟨yv, hyv⟩ : ∃ yv, yv = ns.getD k 0 := ⟨_, rfl⟩
            rw [← hyv] at hix HPR hy
            clear hpr hyv
            obtain ⟨ao, co, rfl⟩ := own_slice HO.out
            go_wp2_with (go_at_call 54; (go_loud (with_reducible refine (put16_any _ (own_nums HO.out) (by omega) (Nat.le_refl _) yv hy.1 hy.2).mono ?_); rintro e w5 ⟨a5, c5, rfl, g5, b5⟩))
            have G5 := hid (g5.mono hbs)
            have B5 := hid (HB.out.trans (b5.mono hbs))
            clear g5 b5
            go_roundw
            case rel => exact ⟨k + 1, by omega, by go_num, by rw [HPR.out, show 2 * (k + 1) = 2 * k + 2 by omega]; exact G5.out, B5.out⟩
            case measure => simp [intOf]; omega
          · obtain rfl : k = 4 := by omega
            have q5 := keep_cell HB.out y5
            have sl := s1.next HB.out
            go_wp2_with (first | (at_builtin; go_loud (refine wpList_append_nums rfl (.tmp 42) _ 22 rfl w1.heap.size 5 i0 (.int .u8 0) 1 Try.underlying22 hi hi0 hi1 hi2 rfl _ (2 * 4) _ rfl HO.out _ _ _ _ _ rfl (sl.get m0) (by unfold maxLen; omega) (by omega) hbs ?_); go_loud (intro v6 w6 g6 r6); have b6 := own_below HO.out HB.out r6 hbs; have q6 := keep_cell b6 y5; have k6 := b6.size; have s6 := s1.next b6) | (at_builtin; go_loud (refine wpList_append_nums rfl (.tmp 45) _ 22 rfl w1.heap.size 5 i0 (.int .u8 0) 1 Try.underlying22 hi hi0 hi1 hi2 rfl _ _ _ rfl g6 _ _ _ _ _ rfl (s6.get (.tail _ M.out)) (by unfold maxLen; omega) (by omega) k6 ?_); go_loud (intro v7 w7 g7 r7)))
            go_ret
            have b7 := own_below g6 b6 r7 k6
            obtain ⟨a7, c7, rfl⟩ := own_slice g7
            refine ⟨a7, _, c7, rfl, ?_⟩
            have sF := (s1.next b7).push (own_nums g7)
            have e : grB call false seq false ack l = preT ns 4 ++ ([]) ++ l := by rw [HG.out, NS.out]; simp [headT, numsT, preT, bitsT]
            rw [e]
            exact ⟨sF.below, fun z hz => sF.all z (by rcases List.mem_cons.1 hz with h | h; (exact h ▸ .head _); exact .tail _ ((.tail _ h)))⟩
      · have o2 : bits .or .u16 8193 128 = 8321 := by decide
        have wn : IntKind.u16.wrap (n : Int) = n := by rw [IntKind.wrap_u16]; omega
        go_enter Try.func24, Try.ntmps24
        go_upto_region 1 with fail
        rw [← HW.out]
        go_wp2_with (first | (go_at_call 26; ((with_reducible refine (RR.out _).mono ?_); rintro e w1 ⟨rfl, b1⟩); have s1 := s0.next b1; have y0 := keep_cell b1 x0; have y1 := keep_cell b1 x1; have y2 := keep_cell b1 x2; have y3 := keep_cell b1 x3; have y4 := keep_cell b1 x4; have y5 := keep_cell b1 x5) | (go_at_call 53; ((with_reducible refine (put32_st s1 m0 (by omega) ack hk).mono ?_); rintro e w3 ⟨a3, c3, rfl, g3, b3, s3⟩); have v0 := keep_cell b3 y0; have v1 := keep_cell b3 y1; have v2 := keep_cell b3 y2; have v3 := keep_cell b3 y3; have v4 := keep_cell b3 y4; have v5 := keep_cell b3 y5))
        obtain ⟨ns, hns⟩ : ∃ ns : List Int, ns = [8321, 34827, (n : Int), call] := ⟨_, rfl⟩
        have NS := hid hns
        have hnl : ns.length = 4 := by rw [hns]; rfl
        have nb : Hid (∀ k, k < 4 → 0 ≤ ns.getD k 0 ∧ ns.getD k 0 ≤ 65535) := fun k hk => by rw [hns]; match k, hk with | 0, _ => simp | 1, _ => simp | 2, _ => (simp; omega) | 3, _ => (simp; omega)
        clear hns
        go_loopw [5, 7, 35] (fun o x i wr => ∃ k : Nat, k ≤ 4 ∧ i = .int .i64 (k : Nat) ∧ wr.ownsRow w3.heap.size 5 1 o (2 * k) ((preT ns k).map (Value.int .u8)) ∧ Below w3.heap.size w3 wr) (fun _ _ i _ => 4 - (intOf i).toNat)
        case atStart => exact ⟨0, Nat.zero_le _, rfl, World.ownsRow_nil _ _ _ _, Below.refl _ _⟩
        case round =>
          obtain ⟨k, hk4, rfl, hO, hb⟩ := hrel
          have HO := hid hO
          have HB := hid hb
          have hbs := hb.size
          clear hO hb
          by_cases hlt : k < 4
          · have hix : (Instr.index 87 (.agg #[.int .u16 8321, .int .u16 34827, .int .u16 n, .int .u16 call]) (.int .i64 (k : Nat))).run Try.prog wr = .ok (.int .u16 (ns.getD k 0)) wr := by rw [NS.out]; exact idx4 _ _ _ _ k hlt wr
            have hpr := preT_succ ns k (by rw [hnl]; exact hlt)
            have HPR := hid hpr
            have hy := nb.out k hlt
            obtain ⟨yv, hyv⟩ : ∃ yv, yv = ns.getD k 0 := ⟨_, rfl⟩
            rw [← hyv] at hix HPR hy
            clear hpr hyv
            obtain ⟨ao, co, rfl⟩ := own_slice HO.out
            go_wp2_with (go_at_call 54; (go_loud (with_reducible refine (put16_any _ (own_nums HO.out) (by omega) (Nat.le_refl _) yv hy.1 hy.2).mono ?_); rintro e w5 ⟨a5, c5, rfl, g5, b5⟩))
            have G5 := hid (g5.mono hbs)
            have B5 := hid (HB.out.trans (b5.mono hbs))
            clear g5 b5
            go_roundw
            case rel => exact ⟨k + 1, by omega, by go_num, by rw [HPR.out, show 2 * (k + 1) = 2 * k + 2 by omega]; exact G5.out, B5.out⟩
            case measure => simp [intOf]; omega
          · obtain rfl : k = 4 := by omega
            have q5 := keep_cell HB.out v5
            have sl := s3.next HB.out
            go_wp2_with (first | (at_builtin; go_loud (refine wpList_append_nums rfl (.tmp 42) _ 22 rfl w3.heap.size 5 i0 (.int .u8 0) 1 Try.underlying22 hi hi0 hi1 hi2 rfl _ (2 * 4) _ rfl HO.out _ _ _ _ _ rfl (sl.get m0) (by unfold maxLen; omega) (by omega) hbs ?_); go_loud (intro v6 w6 g6 r6); have b6 := own_below HO.out HB.out r6 hbs; have q6 := keep_cell b6 v5; have k6 := b6.size; have s6 := s3.next b6) | (at_builtin; go_loud (refine wpList_append_nums rfl (.tmp 45) _ 22 rfl w3.heap.size 5 i0 (.int .u8 0) 1 Try.underlying22 hi hi0 hi1 hi2 rfl _ _ _ rfl g6 _ _ _ _ _ rfl (s6.get (.tail _ (.tail _ M.out))) (by unfold maxLen; omega) (by omega) k6 ?_); go_loud (intro v7 w7 g7 r7)))
            go_ret
            have b7 := own_below g6 b6 r7 k6
            obtain ⟨a7, c7, rfl⟩ := own_slice g7
            refine ⟨a7, _, c7, rfl, ?_⟩
            have sF := (s3.next b7).push (own_nums g7)
            have e : grB call false seq true ack l = preT ns 4 ++ ([] ++ beB 4 ack) ++ l := by rw [HG.out, NS.out]; simp [headT, numsT, preT, bitsT]
            rw [e]
            exact ⟨sF.below, fun z hz => sF.all z (by rcases List.mem_cons.1 hz with h | h; (exact h ▸ .head _); exact .tail _ ((.tail _ (.tail _ h))))⟩
    · cases ha
      · have o1 : bits .or .u16 8193 4096 = 12289 := by decide
        have wn : IntKind.u16.wrap (n : Int) = n := by rw [IntKind.wrap_u16]; omega
        go_enter Try.func24, Try.ntmps24
        go_upto_region 1 with fail
        rw [← HW.out]
        go_wp2_with (first | (go_at_call 26; ((with_reducible refine (RR.out _).mono ?_); rintro e w1 ⟨rfl, b1⟩); have s1 := s0.next b1; have y0 := keep_cell b1 x0; have y1 := keep_cell b1 x1; have y2 := keep_cell b1 x2; have y3 := keep_cell b1 x3; have y4 := keep_cell b1 x4; have y5 := keep_cell b1 x5) | (go_at_call 53; ((with_reducible refine (put32_st s1 m0 (by omega) seq hq).mono ?_); rintro e w2 ⟨a2, c2, rfl, g2, b2, s2⟩); have z0 := keep_cell b2 y0; have z1 := keep_cell b2 y1; have z2 := keep_cell b2 y2; have z3 := keep_cell b2 y3; have z4 := keep_cell b2 y4; have z5 := keep_cell b2 y5))
        obtain ⟨ns, hns⟩ : ∃ ns : List Int, ns = [12289, 34827, (n : Int), call] := ⟨_, rfl⟩
        have NS := hid hns
        have hnl : ns.length = 4 := by rw [hns]; rfl
        have nb : Hid (∀ k, k < 4 → 0 ≤ ns.getD k 0 ∧ ns.getD k 0 ≤ 65535) := fun k hk => by rw [hns]; match k, hk with | 0, _ => simp | 1, _ => simp | 2, _ => (simp; omega) | 3, _ => (simp; omega)
        clear hns
        go_loopw [5, 7, 35] (fun o x i wr => ∃ k : Nat, k ≤ 4 ∧ i = .int .i64 (k : Nat) ∧ wr.ownsRow w2.heap.size 5 1 o (2 * k) ((preT ns k).map (Value.int .u8)) ∧ Below w2.heap.size w2 wr) (fun _ _ i _ => 4 - (intOf i).toNat)
        case atStart => exact ⟨0, Nat.zero_le _, rfl, World.ownsRow_nil _ _ _ _, Below.refl _ _⟩
        case round =>
          obtain ⟨k, hk4, rfl, hO, hb⟩ := hrel
          have HO := hid hO
          have HB := hid hb
          have hbs := hb.size
          clear hO hb
          by_cases hlt : k < 4
          · have hix : (Instr.index 87 (.agg #[.int .u16 12289, .int .u16 34827, .int .u16 n, .int .u16 call]) (.int .i64 (k : Nat))).run Try.prog wr = .ok (.int .u16 (ns.getD k 0)) wr := by rw [NS.out]; exact idx4 _ _ _ _ k hlt wr
            have hpr := preT_succ ns k (by rw [hnl]; exact hlt)
            have HPR := hid hpr
            have hy := nb.out k hlt
            obtain ⟨yv, hyv⟩ : ∃ yv, yv = ns.getD k 0 := ⟨_, rfl⟩
            rw [← hyv] at hix HPR hy
            clear hpr hyv
            obtain ⟨ao, co, rfl⟩ := own_slice HO.out
            go_wp2_with (go_at_call 54; (go_loud (with_reducible refine (put16_any _ (own_nums HO.out) (by omega) (Nat.le_refl _) yv hy.1 hy.2).mono ?_); rintro e w5 ⟨a5, c5, rfl, g5, b5⟩))
            have G5 := hid (g5.mono hbs)
            have B5 := hid (HB.out.trans (b5.mono hbs))
            clear g5 b5
            go_roundw
            case rel => exact ⟨k + 1, by omega, by go_num, by rw [HPR.out, show 2 * (k + 1) = 2 * k + 2 by omega]; exact G5.out, B5.out⟩
            case measure => simp [intOf]; omega
          · obtain rfl : k = 4 := by omega
            have q5 := keep_cell HB.out z5
            have sl := s2.next HB.out
            go_wp2_with (first | (at_builtin; go_loud (refine wpList_append_nums rfl (.tmp 42) _ 22 rfl w2.heap.size 5 i0 (.int .u8 0) 1 Try.underlying22 hi hi0 hi1 hi2 rfl _ (2 * 4) _ rfl HO.out _ _ _ _ _ rfl (sl.get m0) (by unfold maxLen; omega) (by omega) hbs ?_); go_loud (intro v6 w6 g6 r6); have b6 := own_below HO.out HB.out r6 hbs; have q6 := keep_cell b6 z5; have k6 := b6.size; have s6 := s2.next b6) | (at_builtin; go_loud (refine wpList_append_nums rfl (.tmp 45) _ 22 rfl w2.heap.size 5 i0 (.int .u8 0) 1 Try.underlying22 hi hi0 hi1 hi2 rfl _ _ _ rfl g6 _ _ _ _ _ rfl (s6.get (.tail _ (.tail _ M.out))) (by unfold maxLen; omega) (by omega) k6 ?_); go_loud (intro v7 w7 g7 r7)))
            go_ret
            have b7 := own_below g6 b6 r7 k6
            obtain ⟨a7, c7, rfl⟩ := own_slice g7
            refine ⟨a7, _, c7, rfl, ?_⟩
            have sF := (s2.next b7).push (own_nums g7)
            have e : grB call true seq false ack l = preT ns 4 ++ ([] ++ beB 4 seq) ++ l := by rw [HG.out, NS.out]; simp [headT, numsT, preT, bitsT]
            rw [e]
            exact ⟨sF.below, fun z hz => sF.all z (by rcases List.mem_cons.1 hz with h | h; (exact h ▸ .head _); exact .tail _ ((.tail _ (.tail _ h))))⟩
      · have o1 : bits .or .u16 8193 4096 = 12289 := by decide
        have o2 : bits .or .u16 12289 128 = 12417 := by decide
        have wn : IntKind.u16.wrap (n : Int) = n := by rw [IntKind.wrap_u16]; omega
        go_enter Try.func24, Try.ntmps24
        go_upto_region 1 with fail
        rw [← HW.out]
        go_wp2_with (first | (go_at_call 26; ((with_reducible refine (RR.out _).mono ?_); rintro e w1 ⟨rfl, b1⟩); have s1 := s0.next b1; have y0 := keep_cell b1 x0; have y1 := keep_cell b1 x1; have y2 := keep_cell b1 x2; have y3 := keep_cell b1 x3; have y4 := keep_cell b1 x4; have y5 := keep_cell b1 x5) | (go_at_call 53; ((with_reducible refine (put32_st s1 m0 (by omega) seq hq).mono ?_); rintro e w2 ⟨a2, c2, rfl, g2, b2, s2⟩); have z0 := keep_cell b2 y0; have z1 := keep_cell b2 y1; have z2 := keep_cell b2 y2; have z3 := keep_cell b2 y3; have z4 := keep_cell b2 y4; have z5 := keep_cell b2 y5) | (go_at_call 53; ((with_reducible refine (put32_st s2 m0 (by omega) ack hk).mono ?_); rintro e w3 ⟨a3, c3, rfl, g3, b3, s3⟩); have v0 := keep_cell b3 z0; have v1 := keep_cell b3 z1; have v2 := keep_cell b3 z2; have v3 := keep_cell b3 z3; have v4 := keep_cell b3 z4; have v5 := keep_cell b3 z5))
        obtain ⟨ns, hns⟩ : ∃ ns : List Int, ns = [12417, 34827, (n : Int), call] := ⟨_, rfl⟩
        have NS := hid hns
        have hnl : ns.length = 4 := by rw [hns]; rfl
        have nb : Hid (∀ k, k < 4 → 0 ≤ ns.getD k 0 ∧ ns.getD k 0 ≤ 65535) := fun k hk => by rw [hns]; match k, hk with | 0, _ => simp | 1, _ => simp | 2, _ => (simp; omega) | 3, _ => (simp; omega)
        clear hns
        go_loopw [5, 7, 35] (fun o x i wr => ∃ k : Nat, k ≤ 4 ∧ i = .int .i64 (k : Nat) ∧ wr.ownsRow w3.heap.size 5 1 o (2 * k) ((preT ns k).map (Value.int .u8)) ∧ Below w3.heap.size w3 wr) (fun _ _ i _ => 4 - (intOf i).toNat)
        case atStart => exact ⟨0, Nat.zero_le _, rfl, World.ownsRow_nil _ _ _ _, Below.refl _ _⟩
        case round =>
          obtain ⟨k, hk4, rfl, hO, hb⟩ := hrel
          have HO := hid hO
          have HB := hid hb
          have hbs := hb.size
          clear hO hb
          by_cases hlt : k < 4
          · have hix : (Instr.index 87 (.agg #[.int .u16 12417, .int .u16 34827, .int .u16 n, .int .u16 call]) (.int .i64 (k : Nat))).run Try.prog wr = .ok (.int .u16 (ns.getD k 0)) wr := by rw [NS.out]; exact idx4 _ _ _ _ k hlt wr
            have hpr := preT_succ ns k (by rw [hnl]; exact hlt)
            have HPR := hid hpr
            have hy := nb.out k hlt
            obtain ⟨yv, hyv⟩ : ∃ yv, yv = ns.getD k 0 := ⟨_, rfl⟩
            rw [← hyv] at hix HPR hy
            clear hpr hyv
            obtain ⟨ao, co, rfl⟩ := own_slice HO.out
            go_wp2_with (go_at_call 54; (go_loud (with_reducible refine (put16_any _ (own_nums HO.out) (by omega) (Nat.le_refl _) yv hy.1 hy.2).mono ?_); rintro e w5 ⟨a5, c5, rfl, g5, b5⟩))
            have G5 := hid (g5.mono hbs)
            have B5 := hid (HB.out.trans (b5.mono hbs))
            clear g5 b5
            go_roundw
            case rel => exact ⟨k + 1, by omega, by go_num, by rw [HPR.out, show 2 * (k + 1) = 2 * k + 2 by omega]; exact G5.out, B5.out⟩
            case measure => simp [intOf]; omega
          · obtain rfl : k = 4 := by omega
            have q5 := keep_cell HB.out v5
            have sl := s3.next HB.out
            go_wp2_with (first | (at_builtin; go_loud (refine wpList_append_nums rfl (.tmp 42) _ 22 rfl w3.heap.size 5 i0 (.int .u8 0) 1 Try.underlying22 hi hi0 hi1 hi2 rfl _ (2 * 4) _ rfl HO.out _ _ _ _ _ rfl (sl.get m0) (by unfold maxLen; omega) (by omega) hbs ?_); go_loud (intro v6 w6 g6 r6); have b6 := own_below HO.out HB.out r6 hbs; have q6 := keep_cell b6 v5; have k6 := b6.size; have s6 := s3.next b6) | (at_builtin; go_loud (refine wpList_append_nums rfl (.tmp 45) _ 22 rfl w3.heap.size 5 i0 (.int .u8 0) 1 Try.underlying22 hi hi0 hi1 hi2 rfl _ _ _ rfl g6 _ _ _ _ _ rfl (s6.get (.tail _ (.tail _ (.tail _ M.out)))) (by unfold maxLen; omega) (by omega) k6 ?_); go_loud (intro v7 w7 g7 r7)))
            go_ret
            have b7 := own_below g6 b6 r7 k6
            obtain ⟨a7, c7, rfl⟩ := own_slice g7
            refine ⟨a7, _, c7, rfl, ?_⟩
            have sF := (s3.next b7).push (own_nums g7)
            have e : grB call true seq true ack l = preT ns 4 ++ ([] ++ beB 4 seq ++ beB 4 ack) ++ l := by rw [HG.out, NS.out]; simp [headT, numsT, preT, bitsT]
            rw [e]
            exact ⟨sF.below, fun z hz => sF.all z (by rcases List.mem_cons.1 hz with h | h; (exact h ▸ .head _); exact .tail _ ((.tail _ (.tail _ (.tail _ h)))))⟩
set_option maxHeartbeats 4000000 in
theorem rbuild_any {w W : World} {L : List Sl} {a : Option Addr} {n c : Nat} {l : List Int} (h : St w W L) (hm : (a, n, c, l) ∈ L) (hn : n ≤ 2000) (call : Int) (hc : 0 ≤ call ∧ call ≤ 65535) (hs : Bool) (seq : Int) (hq : 0 ≤ seq ∧ seq ≤ 4294967295) (ha : Bool) (ack : Int) (hk : 0 ≤ ack ∧ ack ≤ 4294967295) :
    Calls Try.prog 25 #[.agg #[.int .u16 call, .bool hs, .int .u32 seq, .bool ha, .int .u32 ack, .slice a n c]] W fun e W' => ∃ a' n' c', e = .returned (.slice a' n' c') ∧ St w W' ((a', n', c', grB call hs seq ha ack l) :: L) := by
  obtain ⟨i0, hi, hi0, hi1, hi2⟩ := info_parts Try.info_u8
  obtain ⟨W1, hW1⟩ : ∃ W1, W1 = W.alloc (.cells #[.int .u16 call, .bool hs, .int .u32 seq, .bool ha, .int .u32 ack, .slice a n c] 45) := ⟨_, rfl⟩
  have b0 : Below W.heap.size W W1 := by rw [hW1]; exact (Below.refl _ _).alloc (Nat.le_refl _) _
  have x0 : W1.cell? ⟨W.heap.size, 0, none⟩ = some (.int .u16 call) := by rw [hW1]; simp [go_sem]
  have x1 : W1.cell? ⟨W.heap.size, 1, none⟩ = some (.bool hs) := by rw [hW1]; simp [go_sem]
  have x2 : W1.cell? ⟨W.heap.size, 2, none⟩ = some (.int .u32 seq) := by rw [hW1]; simp [go_sem]
  have x3 : W1.cell? ⟨W.heap.size, 3, none⟩ = some (.bool ha) := by rw [hW1]; simp [go_sem]
  have x4 : W1.cell? ⟨W.heap.size, 4, none⟩ = some (.int .u32 ack) := by rw [hW1]; simp [go_sem]
  have x5 : W1.cell? ⟨W.heap.size, 5, none⟩ = some (.slice a n c) := by rw [hW1]; simp [go_sem]
  have hln := (h.get hm).len
  have s0 := (h.next b0).nil
  have HW := hid hW1
  have M := hid hm
  have RR := hid (fun w => rright_any call hs seq ha ack a n c w)
  clear hW1 h hm b0
  cases hr : rightT hs seq ha ack n
  · have HG := hid (show grB call hs seq ha ack l = [] by unfold grB; rw [hln, hr]; rfl)
    rw [hr] at RR
    clear hr
    go_enter Try.func25, Try.ntmps25
    go_upto_region 1 with fail
    rw [← HW.out]
    go_wp2_with (go_at_call 27; ((with_reducible refine (RR.out _).mono ?_); rintro e w1 ⟨rfl, b1⟩))
    go_ret
    exact ⟨none, 0, 0, rfl, by rw [HG.out]; exact s0.next b1⟩
  · have HG := hid (show grB call hs seq ha ack l = headT call hs ha n ++ numsT hs seq ha ack ++ l by unfold grB; rw [hln, hr]; rfl)
    rw [hr] at RR
    clear hr hln
    cases hs
    · cases ha
      · go_enter Try.func25, Try.ntmps25
        go_upto_region 1 with fail
        rw [← HW.out]
        go_wp2_with (first | (go_at_call 27; ((with_reducible refine (RR.out _).mono ?_); rintro e w1 ⟨rfl, b1⟩); have s1 := s0.next b1; have y0 := keep_cell b1 x0; have y1 := keep_cell b1 x1; have y2 := keep_cell b1 x2; have y3 := keep_cell b1 x3; have y4 := keep_cell b1 x4; have y5 := keep_cell b1 x5) | (go_at_call 55; (go_loud (with_reducible refine (rput_st s1 m0 (by omega) 8193 (by decide) 2 (by decide) 2 rfl).mono ?_); rintro e w2 ⟨a2, c2, rfl, g2, b2, s2⟩); have p0 := keep_cell b2 y0; have p1 := keep_cell b2 y1; have p2 := keep_cell b2 y2; have p3 := keep_cell b2 y3; have p4 := keep_cell b2 y4; have p5 := keep_cell b2 y5) | (go_at_call 55; (go_loud (with_reducible refine (rput_st s2 m0 (by omega) 34827 (by decide) 2 (by decide) 2 rfl).mono ?_); rintro e w3 ⟨a3, c3, rfl, g3, b3, s3⟩); have q0 := keep_cell b3 p0; have q1 := keep_cell b3 p1; have q2 := keep_cell b3 p2; have q3 := keep_cell b3 p3; have q4 := keep_cell b3 p4; have q5 := keep_cell b3 p5) | (go_at_call 55; (go_loud (with_reducible refine (rput_st s3 m0 (by omega) (n : Int) (by omega) 2 (by decide) 2 rfl).mono ?_); rintro e w4 ⟨a4, c4, rfl, g4, b4, s4⟩); have r0 := keep_cell b4 q0; have r1 := keep_cell b4 q1; have r2 := keep_cell b4 q2; have r3 := keep_cell b4 q3; have r4 := keep_cell b4 q4; have r5 := keep_cell b4 q5) | (go_at_call 55; (go_loud (with_reducible refine (rput_st s4 m0 (by omega) call (by omega) 2 (by decide) 2 rfl).mono ?_); rintro e w5 ⟨a5, c5, rfl, g5, b5, s5⟩); have t0 := keep_cell b5 r0; have t1 := keep_cell b5 r1; have t2 := keep_cell b5 r2; have t3 := keep_cell b5 r3; have t4 := keep_cell b5 r4; have t5 := keep_cell b5 r5) | (at_builtin; go_loud (refine wpList_append_nums rfl (.tmp 45) _ 22 rfl w4.heap.size 5 i0 (.int .u8 0) 1 Try.underlying22 hi hi0 hi1 hi2 rfl _ _ _ rfl g5 _ _ _ _ _ rfl (s5.get (.tail _ (.tail _ (.tail _ (.tail _ (.tail _ M.out)))))) (by unfold maxLen; omega) (by omega) b5.size ?_); go_loud (intro v9 w9 g9 r9)))
        go_ret
        have b9 := own_below g5 b5 r9 b5.size
        obtain ⟨a9, c9, rfl⟩ := own_slice g9
        refine ⟨a9, _, c9, rfl, ?_⟩
        have sF := (s4.next b9).push (own_nums g9)
        have e : grB call false seq false ack l = ([] ++ beB 2 8193 ++ beB 2 34827 ++ beB 2 (n : Int) ++ beB 2 call) ++ l := by rw [HG.out]; simp [headT, numsT, bitsT]
        rw [e]
        exact ⟨sF.below, fun z hz => sF.all z (by rcases List.mem_cons.1 hz with h | h; (exact h ▸ .head _); exact .tail _ ((.tail _ (.tail _ (.tail _ (.tail _ h))))))⟩
      · go_enter Try.func25, Try.ntmps25
        go_upto_region 1 with fail
        rw [← HW.out]
        go_wp2_with (first | (go_at_call 27; ((with_reducible refine (RR.out _).mono ?_); rintro e w1 ⟨rfl, b1⟩); have s1 := s0.next b1; have y0 := keep_cell b1 x0; have y1 := keep_cell b1 x1; have y2 := keep_cell b1 x2; have y3 := keep_cell b1 x3; have y4 := keep_cell b1 x4; have y5 := keep_cell b1 x5) | (go_at_call 55; (go_loud (with_reducible refine (rput_st s1 m0 (by omega) 8321 (by decide) 2 (by decide) 2 rfl).mono ?_); rintro e w2 ⟨a2, c2, rfl, g2, b2, s2⟩); have p0 := keep_cell b2 y0; have p1 := keep_cell b2 y1; have p2 := keep_cell b2 y2; have p3 := keep_cell b2 y3; have p4 := keep_cell b2 y4; have p5 := keep_cell b2 y5) | (go_at_call 55; (go_loud (with_reducible refine (rput_st s2 m0 (by omega) 34827 (by decide) 2 (by decide) 2 rfl).mono ?_); rintro e w3 ⟨a3, c3, rfl, g3, b3, s3⟩); have q0 := keep_cell b3 p0; have q1 := keep_cell b3 p1; have q2 := keep_cell b3 p2; have q3 := keep_cell b3 p3; have q4 := keep_cell b3 p4; have q5 := keep_cell b3 p5) | (go_at_call 55; (go_loud (with_reducible refine (rput_st s3 m0 (by omega) (n : Int) (by omega) 2 (by decide) 2 rfl).mono ?_); rintro e w4 ⟨a4, c4, rfl, g4, b4, s4⟩); have r0 := keep_cell b4 q0; have r1 := keep_cell b4 q1; have r2 := keep_cell b4 q2; have r3 := keep_cell b4 q3; have r4 := keep_cell b4 q4; have r5 := keep_cell b4 q5) | (go_at_call 55; (go_loud (with_reducible refine (rput_st s4 m0 (by omega) call (by omega) 2 (by decide) 2 rfl).mono ?_); rintro e w5 ⟨a5, c5, rfl, g5, b5, s5⟩); have t0 := keep_cell b5 r0; have t1 := keep_cell b5 r1; have t2 := keep_cell b5 r2; have t3 := keep_cell b5 r3; have t4 := keep_cell b5 r4; have t5 := keep_cell b5 r5) | (go_at_call 55; (go_loud (with_reducible refine (rput_st s5 m0 (by omega) ack hk 4 (by decide) 4 rfl).mono ?_); rintro e w6 ⟨a6, c6, rfl, g6, b6, s6⟩); have u0 := keep_cell b6 t0; have u1 := keep_cell b6 t1; have u2 := keep_cell b6 t2; have u3 := keep_cell b6 t3; have u4 := keep_cell b6 t4; have u5 := keep_cell b6 t5) | (at_builtin; go_loud (refine wpList_append_nums rfl (.tmp 45) _ 22 rfl w5.heap.size 5 i0 (.int .u8 0) 1 Try.underlying22 hi hi0 hi1 hi2 rfl _ _ _ rfl g6 _ _ _ _ _ rfl (s6.get (.tail _ (.tail _ (.tail _ (.tail _ (.tail _ (.tail _ M.out))))))) (by unfold maxLen; omega) (by omega) b6.size ?_); go_loud (intro v9 w9 g9 r9)))
        go_ret
        have b9 := own_below g6 b6 r9 b6.size
        obtain ⟨a9, c9, rfl⟩ := own_slice g9
        refine ⟨a9, _, c9, rfl, ?_⟩
        have sF := (s5.next b9).push (own_nums g9)
        have e : grB call false seq true ack l = ([] ++ beB 2 8321 ++ beB 2 34827 ++ beB 2 (n : Int) ++ beB 2 call ++ beB 4 ack) ++ l := by rw [HG.out]; simp [headT, numsT, bitsT]
        rw [e]
        exact ⟨sF.below, fun z hz => sF.all z (by rcases List.mem_cons.1 hz with h | h; (exact h ▸ .head _); exact .tail _ ((.tail _ (.tail _ (.tail _ (.tail _ (.tail _ h)))))))⟩
    · cases ha
      · go_enter Try.func25, Try.ntmps25
        go_upto_region 1 with fail
        rw [← HW.out]
        go_wp2_with (first | (go_at_call 27; ((with_reducible refine (RR.out _).mono ?_); rintro e w1 ⟨rfl, b1⟩); have s1 := s0.next b1; have y0 := keep_cell b1 x0; have y1 := keep_cell b1 x1; have y2 := keep_cell b1 x2; have y3 := keep_cell b1 x3; have y4 := keep_cell b1 x4; have y5 := keep_cell b1 x5) | (go_at_call 55; (go_loud (with_reducible refine (rput_st s1 m0 (by omega) 12289 (by decide) 2 (by decide) 2 rfl).mono ?_); rintro e w2 ⟨a2, c2, rfl, g2, b2, s2⟩); have p0 := keep_cell b2 y0; have p1 := keep_cell b2 y1; have p2 := keep_cell b2 y2; have p3 := keep_cell b2 y3; have p4 := keep_cell b2 y4; have p5 := keep_cell b2 y5) | (go_at_call 55; (go_loud (with_reducible refine (rput_st s2 m0 (by omega) 34827 (by decide) 2 (by decide) 2 rfl).mono ?_); rintro e w3 ⟨a3, c3, rfl, g3, b3, s3⟩); have q0 := keep_cell b3 p0; have q1 := keep_cell b3 p1; have q2 := keep_cell b3 p2; have q3 := keep_cell b3 p3; have q4 := keep_cell b3 p4; have q5 := keep_cell b3 p5) | (go_at_call 55; (go_loud (with_reducible refine (rput_st s3 m0 (by omega) (n : Int) (by omega) 2 (by decide) 2 rfl).mono ?_); rintro e w4 ⟨a4, c4, rfl, g4, b4, s4⟩); have r0 := keep_cell b4 q0; have r1 := keep_cell b4 q1; have r2 := keep_cell b4 q2; have r3 := keep_cell b4 q3; have r4 := keep_cell b4 q4; have r5 := keep_cell b4 q5) | (go_at_call 55; (go_loud (with_reducible refine (rput_st s4 m0 (by omega) call (by omega) 2 (by decide) 2 rfl).mono ?_); rintro e w5 ⟨a5, c5, rfl, g5, b5, s5⟩); have t0 := keep_cell b5 r0; have t1 := keep_cell b5 r1; have t2 := keep_cell b5 r2; have t3 := keep_cell b5 r3; have t4 := keep_cell b5 r4; have t5 := keep_cell b5 r5) | (go_at_call 55; (go_loud (with_reducible refine (rput_st s5 m0 (by omega) seq hq 4 (by decide) 4 rfl).mono ?_); rintro e w6 ⟨a6, c6, rfl, g6, b6, s6⟩); have u0 := keep_cell b6 t0; have u1 := keep_cell b6 t1; have u2 := keep_cell b6 t2; have u3 := keep_cell b6 t3; have u4 := keep_cell b6 t4; have u5 := keep_cell b6 t5) | (at_builtin; go_loud (refine wpList_append_nums rfl (.tmp 45) _ 22 rfl w5.heap.size 5 i0 (.int .u8 0) 1 Try.underlying22 hi hi0 hi1 hi2 rfl _ _ _ rfl g6 _ _ _ _ _ rfl (s6.get (.tail _ (.tail _ (.tail _ (.tail _ (.tail _ (.tail _ M.out))))))) (by unfold maxLen; omega) (by omega) b6.size ?_); go_loud (intro v9 w9 g9 r9)))
        go_ret
        have b9 := own_below g6 b6 r9 b6.size
        obtain ⟨a9, c9, rfl⟩ := own_slice g9
        refine ⟨a9, _, c9, rfl, ?_⟩
        have sF := (s5.next b9).push (own_nums g9)
        have e : grB call true seq false ack l = ([] ++ beB 2 12289 ++ beB 2 34827 ++ beB 2 (n : Int) ++ beB 2 call ++ beB 4 seq) ++ l := by rw [HG.out]; simp [headT, numsT, bitsT]
        rw [e]
        exact ⟨sF.below, fun z hz => sF.all z (by rcases List.mem_cons.1 hz with h | h; (exact h ▸ .head _); exact .tail _ ((.tail _ (.tail _ (.tail _ (.tail _ (.tail _ h)))))))⟩
      · go_enter Try.func25, Try.ntmps25
        go_upto_region 1 with fail
        rw [← HW.out]
        go_wp2_with (first | (go_at_call 27; ((with_reducible refine (RR.out _).mono ?_); rintro e w1 ⟨rfl, b1⟩); have s1 := s0.next b1; have y0 := keep_cell b1 x0; have y1 := keep_cell b1 x1; have y2 := keep_cell b1 x2; have y3 := keep_cell b1 x3; have y4 := keep_cell b1 x4; have y5 := keep_cell b1 x5) | (go_at_call 55; (go_loud (with_reducible refine (rput_st s1 m0 (by omega) 12417 (by decide) 2 (by decide) 2 rfl).mono ?_); rintro e w2 ⟨a2, c2, rfl, g2, b2, s2⟩); have p0 := keep_cell b2 y0; have p1 := keep_cell b2 y1; have p2 := keep_cell b2 y2; have p3 := keep_cell b2 y3; have p4 := keep_cell b2 y4; have p5 := keep_cell b2 y5) | (go_at_call 55; (go_loud (with_reducible refine (rput_st s2 m0 (by omega) 34827 (by decide) 2 (by decide) 2 rfl).mono ?_); rintro e w3 ⟨a3, c3, rfl, g3, b3, s3⟩); have q0 := keep_cell b3 p0; have q1 := keep_cell b3 p1; have q2 := keep_cell b3 p2; have q3 := keep_cell b3 p3; have q4 := keep_cell b3 p4; have q5 := keep_cell b3 p5) | (go_at_call 55; (go_loud (with_reducible refine (rput_st s3 m0 (by omega) (n : Int) (by omega) 2 (by decide) 2 rfl).mono ?_); rintro e w4 ⟨a4, c4, rfl, g4, b4, s4⟩); have r0 := keep_cell b4 q0; have r1 := keep_cell b4 q1; have r2 := keep_cell b4 q2; have r3 := keep_cell b4 q3; have r4 := keep_cell b4 q4; have r5 := keep_cell b4 q5) | (go_at_call 55; (go_loud (with_reducible refine (rput_st s4 m0 (by omega) call (by omega) 2 (by decide) 2 rfl).mono ?_); rintro e w5 ⟨a5, c5, rfl, g5, b5, s5⟩); have t0 := keep_cell b5 r0; have t1 := keep_cell b5 r1; have t2 := keep_cell b5 r2; have t3 := keep_cell b5 r3; have t4 := keep_cell b5 r4; have t5 := keep_cell b5 r5) | (go_at_call 55; (go_loud (with_reducible refine (rput_st s5 m0 (by omega) seq hq 4 (by decide) 4 rfl).mono ?_); rintro e w6 ⟨a6, c6, rfl, g6, b6, s6⟩); have u0 := keep_cell b6 t0; have u1 := keep_cell b6 t1; have u2 := keep_cell b6 t2; have u3 := keep_cell b6 t3; have u4 := keep_cell b6 t4; have u5 := keep_cell b6 t5) | (go_at_call 55; (go_loud (with_reducible refine (rput_st s6 m0 (by omega) ack hk 4 (by decide) 4 rfl).mono ?_); rintro e w7 ⟨a7, c7, rfl, g7, b7, s7⟩); have v0 := keep_cell b7 u0; have v1 := keep_cell b7 u1; have v2 := keep_cell b7 u2; have v3 := keep_cell b7 u3; have v4 := keep_cell b7 u4; have v5 := keep_cell b7 u5) | (at_builtin; go_loud (refine wpList_append_nums rfl (.tmp 45) _ 22 rfl w6.heap.size 5 i0 (.int .u8 0) 1 Try.underlying22 hi hi0 hi1 hi2 rfl _ _ _ rfl g7 _ _ _ _ _ rfl (s7.get (.tail _ (.tail _ (.tail _ (.tail _ (.tail _ (.tail _ (.tail _ M.out)))))))) (by unfold maxLen; omega) (by omega) b7.size ?_); go_loud (intro v9 w9 g9 r9)))
        go_ret
        have b9 := own_below g7 b7 r9 b7.size
        obtain ⟨a9, c9, rfl⟩ := own_slice g9
        refine ⟨a9, _, c9, rfl, ?_⟩
        have sF := (s6.next b9).push (own_nums g9)
        have e : grB call true seq true ack l = ([] ++ beB 2 12417 ++ beB 2 34827 ++ beB 2 (n : Int) ++ beB 2 call ++ beB 4 seq ++ beB 4 ack) ++ l := by rw [HG.out]; simp [headT, numsT, bitsT]
        rw [e]
        exact ⟨sF.below, fun z hz => sF.all z (by rcases List.mem_cons.1 hz with h | h; (exact h ▸ .head _); exact .tail _ ((.tail _ (.tail _ (.tail _ (.tail _ (.tail _ (.tail _ h))))))))⟩

end Go.Proofs.Ytgoldoaigijmoaa.grc
