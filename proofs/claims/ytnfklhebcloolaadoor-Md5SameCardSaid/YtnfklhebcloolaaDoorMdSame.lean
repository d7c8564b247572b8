/- md5.Same: are two rows of bytes the same? -/
import Derived.Test.YtnfklhebcloolaaDoorKit
import Derived.Test.YtnfklhebcloolaaDoorNums
import Derived.Test.YtnfklhebcloolaaDoorOct
import Derived.Test.YtnfklhebcloolaaDoorRegion
namespace Go.Proofs.YtnfklhebcloolaaDoor.mdc
open Go.RowKit
open Go.Proofs.YtnfklhebcloolaaDoor.kit
set_option linter.unusedVariables false
set_option linter.unusedSimpArgs false
/-- the ors of what differs, of the first i -/
def dif (l m : List Int) : Nat → Nat
  | 0 => 0
  | i + 1 => dif l m i ||| ((l.getD i 0).toNat ^^^ (m.getD i 0).toNat)
theorem dif_lt (l m : List Int) (h1 : Oct l) (h2 : Oct m) (i : Nat) : dif l m i < 256 := by
  induction i with
  | zero => exact Nat.zero_lt_succ _
  | succ i ih =>
    have a1 := h1.at i
    have a2 := h2.at i
    exact Nat.or_lt_two_pow (n := 8) ih (Nat.xor_lt_two_pow (n := 8) (by omega) (by omega))
theorem xor_zero_iff (a b : Nat) : a ^^^ b = 0 ↔ a = b := by
  constructor
  · intro h
    have : a ^^^ b ^^^ b = 0 ^^^ b := by rw [h]
    rwa [Nat.xor_assoc, Nat.xor_self, Nat.xor_zero, Nat.zero_xor] at this
  · rintro rfl; exact Nat.xor_self _
theorem dif_zero (l m : List Int) (h1 : Oct l) (h2 : Oct m) (i : Nat) : dif l m i = 0 ↔ ∀ j, j < i → l.getD j 0 = m.getD j 0 := by
  induction i with
  | zero => exact ⟨fun _ j hj => absurd hj (Nat.not_lt_zero _), fun _ => rfl⟩
  | succ i ih =>
    have a1 := h1.at i
    have a2 := h2.at i
    show dif l m i ||| _ = 0 ↔ _
    rw [Nat.or_eq_zero_iff, ih, xor_zero_iff]
    constructor
    · rintro ⟨g1, g2⟩ j hj
      rcases Nat.lt_succ_iff_lt_or_eq.1 hj with h | rfl
      · exact g1 j h
      · omega
    · intro g
      exact ⟨fun j hj => g j (by omega), by rw [g i (by omega)]⟩
theorem dif_same (l m : List Int) (h1 : Oct l) (h2 : Oct m) (h : l.length = m.length) : dif l m l.length = 0 ↔ l = m := by
  rw [dif_zero l m h1 h2]
  constructor
  · intro g
    refine List.ext_getElem h fun j hj hk => ?_
    have := g j hj
    rw [List.getD_eq_getElem?_getD, List.getD_eq_getElem?_getD, List.getElem?_eq_getElem hj, List.getElem?_eq_getElem hk] at this
    exact this
  · rintro rfl j _; rfl
set_option maxHeartbeats 1000000 in
theorem same_any {B n m cap cap2 : Nat} {a b : Option Addr} {l1 l2 : List Int} (w : World) (h1 : Nums .u8 w B a n cap l1) (h2 : Nums .u8 w B b m cap2 l2) (hO1 : Oct l1) (hO2 : Oct l2) (hB : B ≤ w.heap.size) :
    Calls Tryd.prog 12 #[.slice a n cap, .slice b m cap2] w fun e w' => e = .returned (.bool (decide (l1 = l2))) ∧ Below w.heap.size w w' := by
  have N1 := hid h1
  have N2 := hid h2
  have hl1 := hid h1.len
  have hl2 := hid h2.len
  have b1 := h1.le
  have b2 := h1.max
  have b3 := h2.le
  have b4 := h2.max
  unfold maxLen at b2 b4
  clear h1 h2
  by_cases hnm : n = m
  · subst hnm
    go_enter Tryd.func12, Tryd.ntmps12
    have HD := hid (fun i => dif_lt l1 l2 hO1 hO2 i)
    have HI := hid (dif_same l1 l2 hO1 hO2 (by rw [hl1.out, hl2.out]))
    have A1 := hid (fun i => hO1.at i)
    have A2 := hid (fun i => hO2.at i)
    clear hO1 hO2
    go_wp2_with fail
    go_loopw [5, 15] (fun dv iv wr => ∃ i : Nat, i ≤ n ∧ iv = .int .i64 i ∧ dv = .int .u8 (dif l1 l2 i : Nat) ∧ Hid (Below w.heap.size w wr)) (fun _ iv _ => n - (intOf iv).toNat)
    case atStart => exact ⟨0, Nat.zero_le _, rfl, rfl, hid (Below.refl _ _)⟩
    case round =>
      obtain ⟨i, hi, rfl, rfl, HB⟩ := hrel
      by_cases hlt : i < n
      · obtain ⟨g1, o1, rfl, _, _, c1⟩ := (N1.out.below (HB.out.mono hB)).cells (by omega)
        obtain ⟨g2, o2, rfl, _, _, c2⟩ := (N2.out.below (HB.out.mono hB)).cells (by omega)
        have y1 := c1 i hlt
        have y2 := c2 i hlt
        have k1 := A1.out i
        have k2 := A2.out i
        have k3 := HD.out i
        have HS : Hid (dif l1 l2 (i + 1) = dif l1 l2 i ||| ((l1.getD i 0).toNat ^^^ (l2.getD i 0).toNat)) := rfl
        obtain ⟨x, hx⟩ : ∃ x : Nat, l1.getD i 0 = x := ⟨(l1.getD i 0).toNat, by omega⟩
        obtain ⟨y, hy⟩ : ∃ y : Nat, l2.getD i 0 = y := ⟨(l2.getD i 0).toNat, by omega⟩
        obtain ⟨d, hd⟩ : ∃ d : Nat, d = dif l1 l2 i := ⟨_, rfl⟩
        rw [hx] at y1 k1 HS
        rw [hy] at y2 k2 HS
        rw [← hd] at k3 HS ⊢
        rw [Int.toNat_natCast, Int.toNat_natCast] at HS
        have e1 := u8_xor_nat x y (by omega) (by omega)
        have k4 : x ^^^ y < 256 := Nat.xor_lt_two_pow (n := 8) (by omega) (by omega)
        have e2 := u8_or_nat d (x ^^^ y) (by omega) k4
        clear c1 c2 hx hy hd
        go_wp2_with fail
        go_roundw
        case rel => exact ⟨i + 1, by omega, by go_num, by rw [HS.out], HB⟩
        case measure => simp [intOf]; omega
      · have hin : i = n := by omega
        have H0 := HI.out
        rw [hl1.out, ← hin] at H0
        have k3 := HD.out i
        clear hin
        obtain ⟨d, hd⟩ : ∃ d : Nat, d = dif l1 l2 i := ⟨_, rfl⟩
        rw [← hd] at H0 k3 ⊢
        have H1 := hid H0
        clear H0 hd
        go_wp2_with fail
        go_ret
        exact ⟨ret_bool (by have := H1.out; by_cases h : l1 = l2 <;> simp_all), HB.out⟩
  · have hne : ¬ (n : Int) = m := by omega
    go_enter Tryd.func12, Tryd.ntmps12
    have hll : Hid (decide (l1 = l2) = false) := hid (decide_eq_false (fun h => hnm (by rw [← hl1.out, ← hl2.out, h])))
    go_wp2_with fail
    go_ret
    exact ⟨by rw [hll.out]; rfl, Below.refl _ _⟩
end Go.Proofs.YtnfklhebcloolaaDoor.mdc
