/- The contracts of package frame, and of the document's own answers: a frame's bytes, the frame of bytes. -/
import Derived.Test.YtgoldoaigijmoaaBeLaw
import Derived.Test.YtgoldoaigijmoaaBeBad
import Derived.Test.YtgoldoaigijmoaaSlice8
import Derived.Test.YtgoldoaigijmoaaSt
import Derived.Deep.DeepCutAuto
namespace Go.Proofs.Ytgoldoaigijmoaa.frc
open Go.RowKit
open Go.Proofs.Ytgoldoaigijmoaa.kit Go.Proofs.Ytgoldoaigijmoaa.bec
set_option linter.unusedVariables false

/-- a frame's bytes -/
def headB (p : Int) (bare : Bool) : List Int := if !bare || decide (p = 49185) then [255, 3] else []
def protoB (p : Int) (short : Bool) : List Int := if short && decide (p < 256) then [p] else [p / 256, p % 256]
def frB (p : Int) (bare short : Bool) (d : List Int) : List Int := headB p bare ++ protoB p short ++ d
theorem be2 (p : Int) (h : 0 ≤ p ∧ p ≤ 65535) : beB 2 p = [p / 256, p % 256] := by
  simp only [beB, Int.reducePow]
  congr 1
  · omega
  · congr 1; omega
theorem be1 (p : Int) (h : 0 ≤ p ∧ p ≤ 255) : beB 1 p = [p] := by
  simp only [beB, Int.reducePow]
  congr 1; omega
def BytesPost (L : List Int) (w : World) (e : Ending) (w' : World) : Prop := ∃ a n c, e = .returned (.slice a n c) ∧ Nums .u8 w' w'.heap.size a n c L ∧ Below w.heap.size w w'
abbrev bx (W : World) (p : Int) (a : Option Addr) (n cap : Nat) : World := W.alloc (.cells #[.int .u16 p, .slice a n cap] 54)
theorem nil8 (W : World) : Nums .u8 W W.heap.size none 0 0 [] := Nums.empty (Nat.zero_le _) (fun _ => rfl)


/-- a number put behind a row of a state's -/
theorem put16_st {w W : World} {L : List Sl} {a : Option Addr} {n c : Nat} {l : List Int} (h : St w W L) (hm : (a, n, c, l) ∈ L) (hn : n ≤ 10000) (p : Int) (hp : 0 ≤ p ∧ p ≤ 65535) :
    Calls Try.prog 54 #[.slice a n c, .int .u16 p] W fun e W' => ∃ a' c', e = .returned (.slice a' (n + 2) c') ∧ W'.ownsRow W.heap.size 5 1 (.slice a' (n + 2) c') (n + 2) ((l ++ [p / 256, p % 256]).map (Value.int .u8)) ∧ Below W.heap.size W W' ∧ St w W' ((a', n + 2, c', l ++ [p / 256, p % 256]) :: L) :=
  (put16_any W (h.get hm) (by omega) (Nat.le_refl _) p hp.1 hp.2).mono fun e W' ⟨a', c', he, ho, hb⟩ => by rw [be2 p hp] at ho; exact ⟨a', c', he, ho, hb, h.own ho hb⟩
theorem put8_st {w W : World} {L : List Sl} {a : Option Addr} {n c : Nat} {l : List Int} (h : St w W L) (hm : (a, n, c, l) ∈ L) (hn : n ≤ 10000) (p : Int) (hp : 0 ≤ p ∧ p ≤ 255) :
    Calls Try.prog 68 #[.slice a n c, .int .u8 p] W fun e W' => ∃ a' c', e = .returned (.slice a' (n + 1) c') ∧ W'.ownsRow W.heap.size 5 1 (.slice a' (n + 1) c') (n + 1) ((l ++ [p]).map (Value.int .u8)) ∧ Below W.heap.size W W' ∧ St w W' ((a', n + 1, c', l ++ [p]) :: L) :=
  (put8_any W (h.get hm) (by omega) (Nat.le_refl _) p hp.1 hp.2).mono fun e W' ⟨a', c', he, ho, hb⟩ => by rw [be1 p hp] at ho; exact ⟨a', c', he, ho, hb, h.own ho hb⟩

set_option maxRecDepth 20000 in
set_option maxHeartbeats 1000000 in
theorem build_any {w W : World} {L : List Sl} {a : Option Addr} {n c : Nat} {l : List Int} (h : St w W L) (hm : (a, n, c, l) ∈ L) (hn : n ≤ 2000) (p : Int) (hp : 0 ≤ p ∧ p ≤ 65535) (bare short : Bool) :
    Calls Try.prog 37 #[.agg #[.int .u16 p, .slice a n c], .bool bare, .bool short] W fun e W' => ∃ a' n' c', e = .returned (.slice a' n' c') ∧ St w W' ((a', n', c', frB p bare short l) :: L) := by
  obtain ⟨i0, hi, hi0, hi1, hi2⟩ := info_parts Try.info_u8
  have c1 : (W.alloc (.cells #[.int .u16 p, .slice a n c] 54)).cell? ⟨W.heap.size, 1, none⟩ = some (.slice a n c) := by simp [go_sem]
  have c0 : (W.alloc (.cells #[.int .u16 p, .slice a n c] 54)).cell? ⟨W.heap.size, 0, none⟩ = some (.int .u16 p) := by simp [go_sem]
  have s0 := (h.next ((Below.refl _ _).alloc (Nat.le_refl _) (.cells #[.int .u16 p, .slice a n c] 54))).nil
  have M := hid hm
  have C0 := hid c0
  have C1 := hid c1
  have hw8 : p < 256 → IntKind.u8.wrap p = p := fun h => by rw [IntKind.wrap_u8']; omega
  clear h hm c0 c1
  have wz := ((Below.refl W.heap.size W).alloc (Nat.le_refl _) (.cells #[.int .u16 p, .slice a n c] 54)).size
  by_cases h1 : bare = false ∨ p = 49185
  · have HH := hid (show headB p bare = [255, 3] by unfold headB; rcases h1 with rfl | rfl <;> simp)
    by_cases h2 : short = true ∧ p < 256
    · obtain ⟨rfl, h2⟩ := h2
      have HP := hid (show protoB p true = [p] by unfold protoB; simp [h2])
      have hw := hw8 h2
      obtain rfl : bare = false := by rcases h1 with h | h; exact h; omega
      clear h1 hw8
      go_enter Try.func37, Try.ntmps37
      go_wp2_with (first | (go_at_call 54; ((with_reducible refine (put16_st s0 m0 (by omega) 65283 (by omega)).mono ?_); rintro e w1 ⟨a1, c1, rfl, g1, b1, s1⟩); have d0 := keep_cell b1 C0.out; have d1 := keep_cell b1 C1.out) | (go_at_call 68; ((with_reducible refine (put8_st s1 m0 (by omega) p (by omega)).mono ?_); rintro e w2 ⟨a2, c2, rfl, g2, b2, s2⟩); have d2 := keep_cell b2 d1; have t2 := b2.size) | (at_builtin; go_loud (refine wpList_append_nums rfl (.tmp 32) _ 22 rfl w1.heap.size 5 i0 (.int .u8 0) 1 Try.underlying22 hi hi0 hi1 hi2 rfl _ _ _ rfl g2 _ _ _ _ _ rfl (s2.get (.tail _ (.tail _ (.tail _ M.out)))) (by unfold maxLen; omega) (by omega) (by omega) ?_); go_loud (intro v3 w3 g3 r3)))
      go_ret
      obtain ⟨a3, c3, rfl⟩ := own_slice g3
      refine ⟨a3, _, c3, rfl, ?_⟩
      have sF := St.app s1.tl.tl g2 b2 g3 r3
      unfold frB
      rw [HH.out, HP.out]
      exact sF
    · have HP := hid (show protoB p short = [p / 256, p % 256] by unfold protoB; rw [if_neg (by simpa using h2)])
      clear hw8
      rcases h1 with rfl | rfl
      all_goals (try cases bare)
      all_goals (cases short)
      all_goals try (have h3 : ¬ p < 256 := fun h => h2 ⟨rfl, h⟩)
      all_goals clear h2
      all_goals
        go_enter Try.func37, Try.ntmps37
        go_wp2_with (first | (go_at_call 54; ((with_reducible refine (put16_st s0 m0 (by omega) 65283 (by omega)).mono ?_); rintro e w1 ⟨a1, c1, rfl, g1, b1, s1⟩); have d0 := keep_cell b1 C0.out; have d1 := keep_cell b1 C1.out) | (go_at_call 54; ((with_reducible refine (put16_st s1 m0 (by omega) _ (by omega)).mono ?_); rintro e w2 ⟨a2, c2, rfl, g2, b2, s2⟩); have d2 := keep_cell b2 d1; have t2 := b2.size) | (at_builtin; go_loud (refine wpList_append_nums rfl (.tmp 32) _ 22 rfl w1.heap.size 5 i0 (.int .u8 0) 1 Try.underlying22 hi hi0 hi1 hi2 rfl _ _ _ rfl g2 _ _ _ _ _ rfl (s2.get (.tail _ (.tail _ (.tail _ M.out)))) (by unfold maxLen; omega) (by omega) (by omega) ?_); go_loud (intro v3 w3 g3 r3)))
        go_ret
        obtain ⟨a3, c3, rfl⟩ := own_slice g3
        refine ⟨a3, _, c3, rfl, ?_⟩
        have sF := St.app s1.tl.tl g2 b2 g3 r3
        unfold frB
        rw [HH.out, HP.out]
        exact sF
  · obtain rfl : bare = true := by cases bare; exact absurd (.inl rfl) h1; rfl
    have h4 : p ≠ 49185 := fun h => h1 (.inr h)
    have h5 : (p == 49185) = false := by simp [h4]
    have HH := hid (show headB p true = [] by unfold headB; simp [h4])
    clear h1 h4
    by_cases h2 : short = true ∧ p < 256
    · obtain ⟨rfl, h2⟩ := h2
      have HP := hid (show protoB p true = [p] by unfold protoB; simp [h2])
      have hw := hw8 h2
      clear hw8
      go_enter Try.func37, Try.ntmps37
      go_wp2_with (first | (go_at_call 68; ((with_reducible refine (put8_st s0 m0 (by omega) p (by omega)).mono ?_); rintro e w2 ⟨a2, c2, rfl, g2, b2, s2⟩); have d2 := keep_cell b2 C1.out; have t2 := b2.size) | (at_builtin; go_loud (refine wpList_append_nums rfl (.tmp 32) _ 22 rfl (W.alloc (.cells #[.int .u16 p, .slice a n c] 54)).heap.size 5 i0 (.int .u8 0) 1 Try.underlying22 hi hi0 hi1 hi2 rfl _ _ _ rfl g2 _ _ _ _ _ rfl (s2.get (.tail _ (.tail _ M.out))) (by unfold maxLen; omega) (by omega) (by omega) ?_); go_loud (intro v3 w3 g3 r3)))
      go_ret
      obtain ⟨a3, c3, rfl⟩ := own_slice g3
      refine ⟨a3, _, c3, rfl, ?_⟩
      have sF := St.app s0.tl g2 b2 g3 r3
      unfold frB
      rw [HH.out, HP.out]
      exact sF
    · have HP := hid (show protoB p short = [p / 256, p % 256] by unfold protoB; rw [if_neg (by simpa using h2)])
      clear hw8
      cases short
      all_goals try (have h3 : ¬ p < 256 := fun h => h2 ⟨rfl, h⟩)
      all_goals clear h2
      all_goals
        go_enter Try.func37, Try.ntmps37
        go_wp2_with (first | (go_at_call 54; ((with_reducible refine (put16_st s0 m0 (by omega) p (by omega)).mono ?_); rintro e w2 ⟨a2, c2, rfl, g2, b2, s2⟩); have d2 := keep_cell b2 C1.out; have t2 := b2.size) | (at_builtin; go_loud (refine wpList_append_nums rfl (.tmp 32) _ 22 rfl (W.alloc (.cells #[.int .u16 p, .slice a n c] 54)).heap.size 5 i0 (.int .u8 0) 1 Try.underlying22 hi hi0 hi1 hi2 rfl _ _ _ rfl g2 _ _ _ _ _ rfl (s2.get (.tail _ (.tail _ M.out))) (by unfold maxLen; omega) (by omega) (by omega) ?_); go_loud (intro v3 w3 g3 r3)))
        go_ret
        obtain ⟨a3, c3, rfl⟩ := own_slice g3
        refine ⟨a3, _, c3, rfl, ?_⟩
        have sF := St.app s0.tl g2 b2 g3 r3
        unfold frB
        rw [HH.out, HP.out]
        exact sF
end Go.Proofs.Ytgoldoaigijmoaa.frc
