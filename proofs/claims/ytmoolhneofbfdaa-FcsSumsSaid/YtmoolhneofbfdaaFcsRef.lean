/- The contract of the document's own sum: bit by bit, in a row of sixteen. -/
import Derived.Test.YtmoolhneofbfdaaFcs
import Derived.RegionTactic
import Derived.ChangeAlike
namespace Go.Proofs.Ytmoolhneofbfdaa.fcc
open Go.RowKit
open Go.Proofs.Ytmoolhneofbfdaa.kit Go.Proofs.Ytmoolhneofbfdaa.fcm
set_option linter.unusedVariables false
set_option linter.unusedSimpArgs false

/-- an array of numbers in a block of its own reads as f -/
structure Arr (w : World) (g n : Nat) (f : Nat → Int) : Prop where
  cells : ∀ j, j < n → w.cell? ⟨g, j, none⟩ = some (.int .i64 (f j))
  free : ∀ j, w.frozen? ⟨g, j, none⟩ = false
theorem Arr.set {w : World} {g n i : Nat} {f : Nat → Int} (h : Arr w g n f) (hi : i < n) (v : Int) : Arr (w.setCell ⟨g, i, none⟩ (.int .i64 v)) g n (fun j => if j = i then v else f j) := by
  refine ⟨fun j hj => ?_, fun j => frozen_set (h.free j)⟩
  by_cases e : j = i
  · subst e; simp only [if_true]; exact cell_same (h.cells j hj)
  · simp only [if_neg e]; exact cell_other (h.cells j hj) (fun h => e h.symm)
theorem Arr.congr {w : World} {g n : Nat} {f f' : Nat → Int} (h : Arr w g n f) (e : ∀ j, j < n → f j = f' j) : Arr w g n f' :=
  ⟨fun j hj => by rw [← e j hj]; exact h.cells j hj, h.free⟩
theorem below_set {B : Nat} {a w : World} (h : Below B a w) {p : Addr} (hp : B ≤ p.block) (v : Value) : Below B a (w.setCell p v) := h.setCell hp v

/-- bit j of a sum -/
def bt (s j : Nat) : Int := ((s / 2 ^ j % 2 : Nat) : Int)
theorem bt_bd (s j : Nat) : 0 ≤ bt s j ∧ bt s j ≤ 1 := by unfold bt; omega
theorem bt_eq (s j : Nat) : bt s j = if s.testBit j then 1 else 0 := by
  unfold bt
  rw [Nat.testBit_eq_decide_div_mod_eq]
  rcases Nat.mod_two_eq_zero_or_one (s / 2 ^ j) with h | h <;> simp [h]
theorem bt_zero {s j : Nat} (h : s < 2 ^ j) : bt s j = 0 := by unfold bt; rw [Nat.div_eq_of_lt h]; rfl
/-- what the row holds behind a bit -/
theorem bt_step (s : Nat) (b : Bool) (out : Int) (h16 : s < 65536) (ho : out = (bt s 0 + if b then 1 else 0) % 2) (j : Nat) (hj : j < 16) :
    (if j = 3 then (bt s 4 + out) % 2 else if j = 10 then (bt s 11 + out) % 2 else if j = 15 then out else bt s (j + 1)) = bt (sb s b) j := by
  have ht : out = if (s.testBit 0 ^^ b) then 1 else 0 := by
    rw [ho, bt_eq]; cases s.testBit 0 <;> cases b <;> rfl
  have h15 : s.testBit 16 = false := Nat.testBit_lt_two_pow (by omega)
  rw [bt_eq (sb s b)]
  unfold sb
  rw [Nat.testBit_xor, Nat.testBit_div_two, ht]
  have hc : j = 0 ∨ j = 1 ∨ j = 2 ∨ j = 3 ∨ j = 4 ∨ j = 5 ∨ j = 6 ∨ j = 7 ∨ j = 8 ∨ j = 9 ∨ j = 10 ∨ j = 11 ∨ j = 12 ∨ j = 13 ∨ j = 14 ∨ j = 15 := by omega
  have k0 : Nat.testBit 33800 0 = false := by decide
  have k1 : Nat.testBit 33800 1 = false := by decide
  have k2 : Nat.testBit 33800 2 = false := by decide
  have k3 : Nat.testBit 33800 3 = true := by decide
  have k4 : Nat.testBit 33800 4 = false := by decide
  have k5 : Nat.testBit 33800 5 = false := by decide
  have k6 : Nat.testBit 33800 6 = false := by decide
  have k7 : Nat.testBit 33800 7 = false := by decide
  have k8 : Nat.testBit 33800 8 = false := by decide
  have k9 : Nat.testBit 33800 9 = false := by decide
  have k10 : Nat.testBit 33800 10 = true := by decide
  have k11 : Nat.testBit 33800 11 = false := by decide
  have k12 : Nat.testBit 33800 12 = false := by decide
  have k13 : Nat.testBit 33800 13 = false := by decide
  have k14 : Nat.testBit 33800 14 = false := by decide
  have k15 : Nat.testBit 33800 15 = true := by decide
  clear ho ht
  simp only [bt_eq]
  generalize (s.testBit 0 ^^ b) = x
  have K : ∀ y : Bool, ((if y = true then (1 : Int) else 0) + if x = true then 1 else 0) % 2 = if (y ^^ x) = true then 1 else 0 := by intro y; cases x <;> cases y <;> rfl
  simp only [K]
  rcases hc with rfl | rfl | rfl | rfl | rfl | rfl | rfl | rfl | rfl | rfl | rfl | rfl | rfl | rfl | rfl | rfl
  all_goals cases x
  all_goals simp [k0, k1, k2, k3, k4, k5, k6, k7, k8, k9, k10, k11, k12, k13, k14, k15, h15]

/-- the place of a bit among bytes -/
theorem bit_at (l : List Int) (k c : Nat) (hc : (l.getD (k / 8) 0) = c) : (bt c (k % 8)) = if bitOf l k then 1 else 0 := by
  rw [bt_eq]; unfold bitOf; rw [hc]; rfl

def zero16 : Nat → Int := fun _ => 0
set_option maxHeartbeats 4000000 in
theorem ref_add {B n cap : Nat} {a : Option Addr} {l : List Int} (w : World) (h : Nums .u8 w B a n cap l) (hO : Oct l) (hn : n ≤ 1000) (hB : B ≤ w.heap.size) (s : Nat) (hs : s < 65536) :
    Calls Try.prog 28 #[.int .u16 s, .slice a n cap] w fun e w' => e = .returned (.int .u16 (crc s (bitOf l) (8 * n) : Nat)) ∧ Below w.heap.size w w' := by
  have HC := hid h.cells
  have HO := hid hO
  clear h hO
  go_enter Try.func28, Try.ntmps28
  go_wp2_with fail
  go_loopw [0, 6] (fun sv iv wr => ∃ i : Nat, i ≤ 16 ∧ iv = .int .i64 i ∧ sv = .int .u16 ((s / 2 ^ i : Nat) : Int) ∧ Arr wr w.heap.size 16 (fun j => if j < i then bt s j else 0) ∧ Below w.heap.size w wr) (fun _ iv _ => 16 - (intOf iv).toNat)
  case atStart =>
    refine ⟨0, by omega, rfl, by simp, ⟨fun j hj => ?_, fun j => ?_⟩, (Below.refl _ _).alloc (Nat.le_refl _) _⟩
    · have hc : j = 0 ∨ j = 1 ∨ j = 2 ∨ j = 3 ∨ j = 4 ∨ j = 5 ∨ j = 6 ∨ j = 7 ∨ j = 8 ∨ j = 9 ∨ j = 10 ∨ j = 11 ∨ j = 12 ∨ j = 13 ∨ j = 14 ∨ j = 15 := by omega
      rcases hc with rfl | rfl | rfl | rfl | rfl | rfl | rfl | rfl | rfl | rfl | rfl | rfl | rfl | rfl | rfl | rfl
      all_goals simp [go_sem]
    · simp [go_sem]
  case round =>
    obtain ⟨i, hi, rfl, rfl, hA, hb⟩ := hrel
    by_cases hlt : i < 16
    · have hfr := hA.free i
      have hc := hA.cells i hlt
      obtain ⟨X, hX⟩ : ∃ X : Nat, X = s / 2 ^ i := ⟨_, rfl⟩
      have hX1 : X < 65536 := by rw [hX]; exact Nat.lt_of_le_of_lt (Nat.div_le_self _ _) hs
      have hA2 := (hA.set hlt ((X : Int) % 2)).congr (f' := fun j => if j < i + 1 then bt s j else 0) (fun j hj => by
        by_cases e : j = i
        · subst e; simp only [if_true]; rw [if_pos (by omega)]; unfold bt; rw [hX]; omega
        · simp only [if_neg e]; by_cases e2 : j < i
          · rw [if_pos e2, if_pos (by omega)]
          · rw [if_neg e2, if_neg (by omega)])
      have HX2 : Hid (((X / 2 : Nat) : Int) = ((s / 2 ^ (i + 1) : Nat) : Int)) := by rw [hX, Nat.div_div_eq_div_mul, ← Nat.pow_succ]; exact rfl
      have HA2 := hid hA2
      rw [← hX]
      clear hA hA2 hX
      go_wp2_with fail
      go_roundw
      case rel => exact ⟨i + 1, by omega, by go_num, by rw [← HX2.out]; go_num, HA2.out, hb.setCell (Nat.le_refl _) _⟩
      case measure => simp [intOf]; omega
    · have hA1 := hA.congr (f' := fun j => bt (crc s (bitOf l) 0) j) (fun j hj => by rw [if_pos (by omega)]; rfl)
      obtain ⟨sx, hsx⟩ : ∃ sx : Nat, sx = s / 2 ^ i := ⟨_, rfl⟩
      rw [← hsx]
      clear hA hsx
      obtain ⟨i0, rfl⟩ : ∃ i0 : Nat, i0 = i := ⟨_, rfl⟩
      go_wp2_with fail
      go_loopw [7, 8, 9, 10, 11] (fun iv _ _ _ _ wr => ∃ i : Nat, i ≤ 8 * n ∧ iv = .int .i64 i ∧ Arr wr w.heap.size 16 (fun j => bt (crc s (bitOf l) i) j) ∧ Below w.heap.size w wr) (fun iv _ _ _ _ _ => 8 * n - (intOf iv).toNat)
      case atStart => exact ⟨0, by omega, rfl, hA1, hb⟩
      case round =>
        clear hA1 hb
        obtain ⟨i, hi, rfl, hA, hb⟩ := hrel
        by_cases hlt : i < 8 * n
        · obtain ⟨q, r, hr, hqr⟩ : ∃ q r : Nat, r < 8 ∧ i = 8 * q + r := ⟨i / 8, i % 8, by omega, by omega⟩
          obtain ⟨b, off, ha, hb1, hb2, hc⟩ := HC.out (by omega)
          subst ha
          have hcx : wr.cell? ⟨b, off + q, none⟩ = some (.int .u8 (l.getD q 0)) := (hb.cell (by show b < w.heap.size; omega)).trans (hc q (by omega))
          have hx0 := HO.out.at q
          obtain ⟨c, hc0⟩ : ∃ c : Nat, l.getD q 0 = c := ⟨(l.getD q 0).toNat, by omega⟩
          rw [hc0] at hcx hx0
          have hBit : bt c r = if bitOf l i then 1 else 0 := by have := bit_at l i c (by rw [show i / 8 = q by omega]; exact hc0); rwa [show i % 8 = r by omega] at this
          have hdiv : (i : Int) / 8 = q := by omega
          have hmod : (i : Int) % 8 = r := by omega
          obtain ⟨S, hS⟩ : ∃ S, S = crc s (bitOf l) i := ⟨_, rfl⟩
          have hS1 : S < 65536 := by rw [hS]; exact crc_lt _ hs _
          rw [← hS] at hA
          have HS := hid hS
          have HBit := hid hBit
          have HX := hid hc0
          clear hS hBit hc0 hc HC hqr
          obtain ⟨wo, rfl⟩ : ∃ wo : World, wo = wr := ⟨_, rfl⟩
          go_wp2_with fail
          go_loop [8, 9] (fun cv kv => ∃ k : Nat, k ≤ r ∧ kv = .int .i64 k ∧ cv = .int .i64 ((c / 2 ^ k : Nat) : Int)) (fun _ kv => r - (intOf kv).toNat)
          case atStart => exact ⟨0, by omega, rfl, by go_num⟩
          case round =>
            obtain ⟨k, hk, rfl, rfl⟩ := hrel
            obtain ⟨C, hC⟩ : ∃ C : Nat, C = c / 2 ^ k := ⟨_, rfl⟩
            have hC1 : C < 256 := by rw [hC]; exact Nat.lt_of_le_of_lt (Nat.div_le_self _ _) (by omega)
            rw [← hC]
            by_cases hkr : k < r
            · have HC2 : Hid (((C / 2 : Nat) : Int) = ((c / 2 ^ (k + 1) : Nat) : Int)) := by rw [hC, Nat.div_div_eq_div_mul, ← Nat.pow_succ]; exact rfl
              clear hC
              go_wp2_with fail
              go_round
              case rel => exact ⟨k + 1, by omega, by go_num, by rw [← HC2.out]; go_num⟩
              case measure => simp [intOf]; omega
            · obtain rfl : k = r := by omega
              have h0 := hA.cells 0 (by omega)
              have hbd0 := bt_bd S 0
              obtain ⟨O, hO⟩ : ∃ O : Int, O = (bt S 0 + C) % 2 := ⟨_, rfl⟩
              have hO1 : O = (bt S 0 + if bitOf l i then 1 else 0) % 2 := by rw [hO, ← HBit.out]; unfold bt; rw [hC]; omega
              obtain ⟨Z, hZ⟩ : ∃ Z : Int, Z = bt S 0 := ⟨_, rfl⟩
              rw [← hZ] at h0 hbd0 hO hO1
              have HO1 := hid hO1
              have HO2 := hid hO
              have HA := hid hA
              have HZ := hid hZ
              have hbdO : 0 ≤ O ∧ O ≤ 1 := by omega
              clear hO1 hO hC hA hZ
              go_wp2_with fail
              rw [← HO2.out]
              clear h0 hcx hx0
              go_loopw [11] (fun kv w2 => ∃ k : Nat, k ≤ 15 ∧ kv = .int .i64 k ∧ Arr w2 w.heap.size 16 (fun j => if j < k then bt S (j + 1) else bt S j) ∧ Below w.heap.size w w2) (fun kv _ => 15 - (intOf kv).toNat)
              case atStart => exact ⟨0, by omega, rfl, HA.out.congr (fun j hj => by simp), hb⟩
              case round =>
                clear hb
                obtain ⟨m, hm, rfl, hA, hb⟩ := hrel
                by_cases hlt : m < 15
                · have h1 := hA.cells (m + 1) (by omega)
                  rw [if_neg (by omega)] at h1
                  have h2 := hA.cells m (by omega)
                  have hfr := hA.free m
                  have hA2 := (hA.set (i := m) (by omega) (bt S (m + 1))).congr (f' := fun j => if j < m + 1 then bt S (j + 1) else bt S j) (fun j hj => by
                    by_cases e : j = m
                    · subst e; simp only [if_true]; rw [if_pos (by omega)]
                    · simp only [if_neg e]; by_cases e2 : j < m
                      · rw [if_pos e2, if_pos (by omega)]
                      · rw [if_neg e2, if_neg (by omega)])
                  have HA2 := hid hA2
                  clear hA hA2
                  go_wp2_with fail
                  go_roundw
                  case rel => exact ⟨m + 1, by omega, by go_num, HA2.out, hb.setCell (Nat.le_refl _) _⟩
                  case measure => simp [intOf]; omega
                · obtain rfl : m = 15 := by omega
                  have hA1 := hA.set (i := 15) (by omega) O
                  have h15 := hA.cells 15 (by omega)
                  have h10 := hA.cells 10 (by omega)
                  have h3 := hA.cells 3 (by omega)
                  have f15 := hA.free 15
                  have f10 := hA.free 10
                  have f3 := hA.free 3
                  simp at h15 h10 h3
                  have b11 := bt_bd S 11
                  have b4 := bt_bd S 4
                  have hA2 := (hA1.set (i := 10) (by omega) ((bt S 11 + O) % 2)).set (i := 3) (by omega) ((bt S 4 + O) % 2)
                  have HA2 := hid hA2
                  clear hA hA1 hA2
                  go_wp2_with fail
                  go_roundw
                  case rel =>
                    refine ⟨i + 1, by omega, by go_num, HA2.out.congr (fun j hj => ?_), ?_⟩
                    · show _ = bt (sb (crc s (bitOf l) i) (bitOf l i)) j
                      rw [← HS.out, ← bt_step S (bitOf l i) O hS1 (by rw [← HZ.out]; exact HO1.out) j hj]
                      by_cases e3 : j = 3
                      · simp [e3]
                      · by_cases e10 : j = 10
                        · simp [e10]
                        · by_cases e15 : j = 15
                          · simp [e15]
                          · simp only [if_neg e3, if_neg e10, if_neg e15]; rw [if_pos (by omega)]
                    · exact ((hb.setCell (Nat.le_refl _) _).setCell (Nat.le_refl _) _).setCell (Nat.le_refl _) _
                  case measure => simp [intOf]; omega
        · obtain rfl : i = 8 * n := by omega
          obtain ⟨S, hS⟩ : ∃ S, S = crc s (bitOf l) (8 * n) := ⟨_, rfl⟩
          have hS1 : S < 65536 := by rw [hS]; exact crc_lt _ hs _
          rw [← hS] at hA
          have HS := hid hS
          clear hS HC
          have HA := hid hA
          clear hA
          go_wp2_with fail
          go_loop [12, 13] (fun nv iv => ∃ i : Nat, i ≤ 16 ∧ iv = .int .i64 ((i : Int) - 1) ∧ nv = .int .u16 ((S / 2 ^ i : Nat) : Int)) (fun _ iv => (intOf iv + 1).toNat)
          case atStart => exact ⟨16, by omega, rfl, by rw [Nat.div_eq_of_lt (by omega)]; rfl⟩
          case round =>
            obtain ⟨i, hi, rfl, rfl⟩ := hrel
            by_cases hip : 0 < i
            · obtain ⟨m, rfl⟩ : ∃ m, i = m + 1 := ⟨i - 1, by omega⟩
              have e1 : ((m + 1 : Nat) : Int) - 1 = m := by omega
              rw [e1]
              have hc := HA.out.cells m (by omega)
              have hbm := bt_bd S m
              obtain ⟨X, hX⟩ : ∃ X : Nat, X = S / 2 ^ (m + 1) := ⟨_, rfl⟩
              have hX1 : X < 32768 := by
                rw [hX, Nat.pow_succ, Nat.mul_comm, ← Nat.div_div_eq_div_mul]; exact Nat.lt_of_le_of_lt (Nat.div_le_self _ _) (by omega)
              have hX2 : Hid (2 * (X : Int) + bt S m = ((S / 2 ^ m : Nat) : Int)) := by
                have e2 : X = S / 2 ^ m / 2 := by rw [hX, Nat.pow_succ, ← Nat.div_div_eq_div_mul]
                show _ = _
                rw [e2]; unfold bt; omega
              rw [← hX]
              obtain ⟨V, hV⟩ : ∃ V, V = bt S m := ⟨_, rfl⟩
              rw [← hV] at hc hbm hX2
              clear hX e1 hV
              go_wp2_with fail
              go_round
              case rel => exact ⟨m, by omega, rfl, by rw [← hX2.out]⟩
              case measure => simp [intOf]
            · obtain rfl : i = 0 := by omega
              go_wp2_with fail
              go_ret
              exact ⟨ret_int (by rw [← HS.out]), hb⟩
end Go.Proofs.Ytmoolhneofbfdaa.fcc
