/- A call of both: the program's numbers and the document's. -/
import Derived.Test.YtcbfebbnelofpaaMagic
import Derived.Deep.RegionWith
import Derived.BigQuiet
import Derived.Deep.QuietTactic
namespace Go.Proofs.Ytcbfebbnelofpaa.mgc
open Go.RowKit
open Go.Proofs.Ytcbfebbnelofpaa.kit Go.Proofs.Ytcbfebbnelofpaa.mgm
set_option linter.unusedVariables false
/-- the same numbers wait in both -/
structure MS (w wr : World) (g1 g2 : Nat) (q : List Int) (k : Nat) : Prop where
  b : Below w.heap.size w wr
  p : Has wr g1 q k
  r : RHas wr g2 g1 q k
  h1 : w.heap.size ≤ g1
  h2 : w.heap.size ≤ g2
  l1 : g1 < wr.heap.size
  ne : g2 ≠ g1
/-- the program's has gone on -/
structure MM (w wr : World) (g1 g2 : Nat) (q q' : List Int) (k k' : Nat) : Prop where
  b : Below w.heap.size w wr
  p : Has wr g1 q' k'
  r : RHas wr g2 g1 q k
  h1 : w.heap.size ≤ g1
  h2 : w.heap.size ≤ g2
  l1 : g1 < wr.heap.size
  ne : g2 ≠ g1
theorem MS.next {w wr w' : World} {g1 g2 : Nat} {q : List Int} {k : Nat} (h : MS w wr g1 g2 q k) (hb : Below wr.heap.size wr w') : MS w w' g1 g2 q k :=
  ⟨h.b.trans (hb.mono h.b.size), h.p.next hb, h.r.next hb, h.h1, h.h2, Nat.lt_of_lt_of_le h.l1 hb.size, h.ne⟩
theorem MS.did {w wr w' : World} {g1 g2 : Nat} {q q' : List Int} {k k' : Nat} (h : MS w wr g1 g2 q k) (d : Did wr w' g1 q' k') : MM w w' g1 g2 q q' k k' :=
  ⟨gb_below h.b d.only h.b.size h.h1, d.has, h.r.grown d.only h.ne, h.h1, h.h2, Nat.lt_of_lt_of_le h.l1 d.only.size, h.ne⟩
theorem MM.did {w wr w' : World} {g1 g2 : Nat} {q q' : List Int} {k k' : Nat} (h : MM w wr g1 g2 q q' k k') (d : RDid wr w' g2 g1 q' k') : MS w w' g1 g2 q' k' :=
  ⟨gb_below h.b d.only h.b.size h.h2, h.p.grown d.only h.ne.symm, d.has, h.h1, h.h2, Nat.lt_of_lt_of_le h.l1 d.only.size, h.ne⟩
def StepPost (w : World) (g1 g2 k : Nat) (e : Ending) (w' : World) : Prop := e = .returned (.bool true) ∧ ∃ q' k', k' ≤ k + 2 ∧ MS w w' g1 g2 q' k'
theorem smk_le (q : List Int) (k : Nat) : smk q k ≤ k + 2 := by unfold smk; split <;> omega
set_option maxHeartbeats 2000000 in
theorem step_any {w W : World} {g1 g2 : Nat} {q : List Int} {k : Nat} (h : MS w W g1 g2 q k) (hk : k < 900) (kd n : Int) (h0 : 0 ≤ kd) :
    Calls Try.prog 12 #[.pointer (some ⟨g1, 0, none⟩), .pointer (some ⟨g2, 0, none⟩), .agg #[.int .i64 kd, .int .u32 n]] W (StepPost w g1 g2 k) := by
  have HB := hid (show MS w (W.alloc (.cells #[.int .i64 kd, .int .u32 n] 34)) g1 g2 q k from h.next ((Below.refl _ _).alloc (Nat.le_refl _) _))
  have HX := hid (Box.made W #[.int .i64 kd, .int .u32 n] 34)
  have hl1 := h.l1
  clear h
  by_cases h23 : kd % 5 = 2 ∨ kd % 5 = 3
  · have K1 := hid (fun w h => next_any w g1 q k h (by omega))
    have K2 := hid (fun w h => rnext_any w g2 g1 q k h (by omega))
    obtain ⟨v, hv⟩ : ∃ v, v = nx q k := ⟨_, rfl⟩
    rw [← hv] at K1 K2
    clear hv
    by_cases h2 : kd % 5 = 2
    · have b2 : ((kd % 5) == 2) = true := by simpa using h2
      clear h23 h2
      go_enter Try.func12, Try.ntmps12
      go_wp2_with (first | (go_at_call 63; ((with_reducible refine (K1.out _ HB.out.p).mono ?_); rintro e w1 ⟨rfl, h1⟩; have H1 := hid (HB.out.did h1); clear h1)) | (go_at_call 64; ((with_reducible refine (K2.out _ H1.out.r).mono ?_); rintro e w2 ⟨rfl, h2⟩; have H2 := hid (H1.out.did h2); clear h2)))
      go_ret
      exact ⟨rfl, _, _, by omega, H2.out⟩
    · have b2 : ((kd % 5) == 2) = false := by simpa using h2
      have b3 : ((kd % 5) == 3) = true := by simp; omega
      clear h23 h2
      go_enter Try.func12, Try.ntmps12
      go_wp2_with (first | (go_at_call 63; ((with_reducible refine (K1.out _ HB.out.p).mono ?_); rintro e w1 ⟨rfl, h1⟩; have H1 := hid (HB.out.did h1); clear h1)) | (go_at_call 64; ((with_reducible refine (K2.out _ H1.out.r).mono ?_); rintro e w2 ⟨rfl, h2⟩; have H2 := hid (H1.out.did h2); clear h2)))
      go_ret
      exact ⟨rfl, _, _, by omega, H2.out⟩
  · have b2 : ((kd % 5) == 2) = false := by simp; omega
    have b3 : ((kd % 5) == 3) = false := by simp; omega
    by_cases h4 : kd % 5 = 4
    · have b4 : ((kd % 5) == 4) = true := by simpa using h4
      clear h23 h4
      have K1 := hid (fun w h => some_any w g1 q k h (by omega))
      have K2 := hid (fun w h => rsome_any w g2 g1 q k h (by omega))
      unfold SomeOf at K1
      unfold RSomeOf at K2
      have hle := smk_le q k
      obtain ⟨v, hv⟩ : ∃ v, v = sm q k := ⟨_, rfl⟩
      rw [← hv] at K1 K2
      clear hv
      obtain ⟨q', hq'⟩ : ∃ v, v = smq q k := ⟨_, rfl⟩
      obtain ⟨k', hk'⟩ : ∃ v, v = smk q k := ⟨_, rfl⟩
      rw [← hq', ← hk'] at K1 K2
      rw [← hk'] at hle
      clear hq' hk'
      go_enter Try.func12, Try.ntmps12
      go_wp2_with (first | (go_at_call 65; ((with_reducible refine (K1.out _ HB.out.p).mono ?_); rintro e w1 ⟨rfl, h1⟩; have H1 := hid (HB.out.did h1); clear h1)) | (go_at_call 66; ((with_reducible refine (K2.out _ H1.out.r).mono ?_); rintro e w2 ⟨rfl, h2⟩; have H2 := hid (H1.out.did h2); clear h2)))
      go_ret
      exact ⟨rfl, q', k', hle, H2.out⟩
    · have b4 : ((kd % 5) == 4) = false := by simpa using h4
      clear h23 h4
      have c1 := HX.out.at_ 1 _ rfl
      by_cases hq : q.length < 64
      · go_enter Try.func12, Try.ntmps12
        go_upto_region 7 with fail
        have K1 := hid (fun w h => add_yes w g1 q k n h hq)
        have K2 := hid (fun w h ho => radd_yes w g2 g1 q k n h hq ho)
        have hn1 : W.heap.size ≠ g1 := by omega
        go_region_with (first | (go_at_call 67; ((with_reducible refine (K1.out _ (HB.out.next (Below.refl _ _).drew).p).mono ?_); rintro e w1 ⟨rfl, h1⟩; have x1 := (HX.out.next (Below.refl _ _).drew).grown h1.only hn1; have x2 := x1.at_ 1 _ rfl; have H1 := hid ((HB.out.next (Below.refl _ _).drew).did h1); have l1 := Nat.lt_of_lt_of_le (HB.out.next (Below.refl _ _).drew).l1 h1.only.size; clear x1 h1)) | (go_at_call 68; ((with_reducible refine (K2.out _ H1.out.r l1).mono ?_); rintro e w2 ⟨rfl, h2⟩; have H2 := hid (H1.out.did h2); clear h2)))
        all_goals go_wp2_with fail
        all_goals go_ret
        all_goals exact ⟨rfl, _, _, by omega, H2.out⟩
      · have hle := HB.out.r.le64
        have hq64 : q.length = 64 := by omega
        have HQ := hid hq64
        clear hq hq64 hle
        go_enter Try.func12, Try.ntmps12
        go_upto_region 7 with fail
        go_quiet ((first | (go_at_call 67; exact quiet_l (add_no _ _ _ _ _ (HB.out.next (below_drewN (Below.refl _ _) _)).p HQ.out)) | (go_at_call 68; exact quiet_l (radd_no _ _ _ _ _ _ (HB.out.next (below_drewN (Below.refl _ _) _)).r HQ.out))))
        go_wp2_with fail
        go_ret
        exact ⟨rfl, _, _, by omega, HB.out.next (below_drewN (Below.refl _ _) _)⟩
end Go.Proofs.Ytcbfebbnelofpaa.mgc
