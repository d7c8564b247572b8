/- The program's Of: rows of bytes, one after another. -/
import Derived.Test.YtnfklhebcloolaaDoorMdSum
namespace Go.Proofs.YtnfklhebcloolaaDoor.mdc
open Go.RowKit
open Go.Proofs.YtnfklhebcloolaaDoor.kit Go.Proofs.YtnfklhebcloolaaDoor.mdm
set_option linter.unusedVariables false
set_option linter.unusedSimpArgs false
set_option maxRecDepth 20000
/-- a slice whose elements are rows of bytes -/
structure Rws (w : World) (a : Option Addr) (n : Nat) (L : List (List Int)) : Prop where
  len : L.length = n
  cells : 0 < n → ∃ b off, a = some ⟨b, off, none⟩ ∧ b < w.heap.size ∧ ∀ i, i < n → ∃ ai ni ci, w.cell? ⟨b, off + i, none⟩ = some (.slice ai ni ci) ∧ Nums .u8 w w.heap.size ai ni ci (L.getD i []) ∧ Oct (L.getD i [])
theorem Rws.next {w w' : World} {a : Option Addr} {n : Nat} {L : List (List Int)} (h : Rws w a n L) (hb : Below w.heap.size w w') : Rws w' a n L :=
  ⟨h.len, fun hp => by
    obtain ⟨b, off, ha, hlt, hc⟩ := h.cells hp
    refine ⟨b, off, ha, Nat.lt_of_lt_of_le hlt hb.size, fun i hi => ?_⟩
    obtain ⟨ai, ni, ci, h1, h2, h3⟩ := hc i hi
    exact ⟨ai, ni, ci, (hb.cell (p := ⟨b, off + i, none⟩) hlt).trans h1, (h2.below hb).mono hb.size, h3⟩⟩
/-- what the steps of Of keep -/
structure So (w wr : World) (m : List Int) : Prop where
  b : Below w.heap.size w wr
  r : Box wr w.heap.size (b16 (List.replicate 16 0))
  c : ∃ y R, Hs wr (w.heap.size + 1) m y R
  T : Tab wr
  t : Tab w
theorem So.write {w wr : World} {m : List Int} (h : So w wr m) (a : Option Addr) (n cap B : Nat) (k : List Int) (hN : Nums .u8 wr B a n cap k) (hO : Oct k) (hB : B ≤ wr.heap.size) (hne : 0 < n → ∀ b o s, a = some ⟨b, o, s⟩ → b ≠ w.heap.size + 1) (htot : m.length + n ≤ 1000000) :
    Calls Tryd.prog 10 #[.pointer (some ⟨w.heap.size + 1, 0, none⟩), .slice a n cap] wr fun e w' => e = .returned (.tuple #[]) ∧ So w w' (m ++ k) := by
  obtain ⟨y, R, hc⟩ := h.c
  have ht := h.t.lt
  refine (write_any wr h.T (w.heap.size + 1) m k y R hc a n cap B hN hO hB hne htot (by omega) (by omega) (by omega)).mono fun e w' ⟨he, h1, h2⟩ => ⟨he, ?_⟩
  exact ⟨gb_below h.b h2 h.b.size (Nat.le_succ _), h.r.grown h2 (by omega), h1, h.T.grown h2 (by omega) (by omega) (by omega), h.t⟩
theorem zero_hash (w : World) (g : Nat) (h : Box w g (hv ⟨0, 0, 0, 0⟩ (List.replicate 64 0) 0)) : Hs w g [] ⟨0, 0, 0, 0⟩ (List.replicate 64 0) :=
  ⟨h, by simp [Q4.ok], fun z hz => by obtain rfl := List.eq_of_mem_replicate hz; omega, by simp, rfl, by simp⟩
theorem flat_take {L : List (List Int)} {i : Nat} (hi : i < L.length) : (L.take (i + 1)).flatten = (L.take i).flatten ++ L.getD i [] := by
  rw [List.take_add_one, List.getElem?_eq_getElem hi, List.flatten_append, List.getD_eq_getElem?_getD, List.getElem?_eq_getElem hi]
  simp
theorem flat_le {L : List (List Int)} (i : Nat) : (L.take i).flatten.length ≤ L.flatten.length := by
  conv => rhs; rw [← List.take_append_drop i L, List.flatten_append, List.length_append]
  omega
theorem nums_lt {w : World} {B n cap : Nat} {a : Option Addr} {l : List Int} {k : IntKind} (h : Nums k w B a n cap l) (hp : 0 < n) : ∀ b o s, a = some ⟨b, o, s⟩ → b < B := by
  obtain ⟨b, off, ha, hb, _⟩ := h.cells hp
  intro b2 o s e
  rw [ha] at e; injection e with e; injection e with e1 _ _; omega
set_option maxHeartbeats 4000000 in
theorem of_any (w : World) (T : Tab w) (a : Option Addr) (n cap : Nat) (L : List (List Int)) (H : Rws w a n L) (hcap : n ≤ maxLen) (htot : L.flatten.length ≤ 500000) :
    Calls Tryd.prog 7 #[.slice a n cap] w (SumOf L.flatten w) := by
  unfold maxLen at hcap
  have HH := hid H
  have HT := hid T
  have HTOT := hid htot
  clear H T htot
  go_enter Tryd.func7, Tryd.ntmps7
  go_upto_region 1 with fail
  change Code.wp _ _ _ _ (w.alloc (.cells (b16 (List.replicate 16 0)).toArray 24))
  have bA := (Below.refl w.heap.size w).alloc (Nat.le_refl _) (.cells (b16 (List.replicate 16 0)).toArray 24)
  have R0 := hid (show Box (w.alloc (.cells (b16 (List.replicate 16 0)).toArray 24)) w.heap.size (b16 (List.replicate 16 0)) from Box.made w _ _)
  have hsz : (w.alloc (.cells (b16 (List.replicate 16 0)).toArray 24)).heap.size = w.heap.size + 1 := by simp
  have BA := hid bA
  have HSZ := hid hsz
  clear bA hsz
  generalize w.alloc (.cells (b16 (List.replicate 16 0)).toArray 24) = W at *
  go_upto_region 2 with fail
  have S0 := hid (show So w (W.alloc (.cells (hv ⟨0, 0, 0, 0⟩ (List.replicate 64 0) 0).toArray 36)) [] from by
    have a1 := (Below.refl W.heap.size W).alloc (Nat.le_refl _) (.cells (hv ⟨0, 0, 0, 0⟩ (List.replicate 64 0) 0).toArray 36)
    have b1 := BA.out.alloc BA.out.size (.cells (hv ⟨0, 0, 0, 0⟩ (List.replicate 64 0) 0).toArray 36)
    refine ⟨b1, R0.out.next a1, ⟨_, _, zero_hash _ _ ?_⟩, HT.out.next b1, HT.out⟩
    have := Box.made W (hv ⟨0, 0, 0, 0⟩ (List.replicate 64 0) 0).toArray 36
    rw [HSZ.out] at this
    simpa using this)
  rw [HSZ.out]
  change Code.wp _ _ _ _ (W.alloc (.cells (hv ⟨0, 0, 0, 0⟩ (List.replicate 64 0) 0).toArray 36))
  generalize W.alloc (.cells (hv ⟨0, 0, 0, 0⟩ (List.replicate 64 0) 0).toArray 36) = W2 at *
  clear R0 BA HSZ
  go_upto_region 3 with fail
  go_loopw [8] (fun iv wr => ∃ i : Nat, i ≤ n ∧ iv = .int .i64 (i : Nat) ∧ Hid (So w wr (L.take i).flatten)) (fun iv _ => n - (intOf iv).toNat)
  case atStart => exact ⟨0, by omega, rfl, S0⟩
  case round =>
    clear S0
    obtain ⟨i, hi, rfl, HS⟩ := hrel
    by_cases hlt : i < n
    · obtain ⟨b, off, ha, hb, hc⟩ := HH.out.cells (by omega)
      subst ha
      obtain ⟨ai, ni, ci, h1, h2, h3⟩ := hc i hlt
      have c1 := (HS.out.b.cell (p := ⟨b, off + i, none⟩) hb).trans h1
      have N1 := hid (h2.below HS.out.b)
      have O1 := hid h3
      have HF := hid (flat_take (L := L) (i := i) (by rw [HH.out.len]; exact hlt))
      have HLE := hid (show (L.take i).flatten.length + ni ≤ 1000000 by
        have e1 := flat_le (L := L) (i + 1)
        rw [HF.out, List.length_append, h2.len] at e1
        have := HTOT.out
        omega)
      clear hc h1 h2 h3
      go_wp2_with (go_at_call 10; ((with_reducible refine (HS.out.write ai ni ci _ _ N1.out O1.out HS.out.b.size (fun hp b o s e => by have := nums_lt N1.out hp b o s e; omega) HLE.out).mono ?_); rintro e w5 ⟨rfl, S5⟩; have S5 := hid S5))
      go_roundw
      case rel => exact ⟨i + 1, by omega, by go_num, hid (by rw [HF.out]; exact S5.out)⟩
      case measure => simp [intOf]; omega
    · obtain rfl : i = n := by omega
      have HFA := hid (show (L.take i).flatten = L.flatten by rw [List.take_of_length_le (by rw [HH.out.len]; omega)])
      rw [HFA.out] at HS
      have KS := hid (show Calls Tryd.prog 11 #[.pointer (some ⟨w.heap.size + 1, 0, none⟩)] wr (SumOf L.flatten wr) from by
        obtain ⟨y, R, hc⟩ := HS.out.c
        exact sum_any wr HS.out.T (w.heap.size + 1) _ y R hc HTOT.out)
      have ONE := hid (show (b16 (md5 L.flatten)).all (·.oneCell') = true by rw [List.all_eq_true]; intro x hx; obtain ⟨y, _, rfl⟩ := List.mem_map.1 hx; rfl)
      have HLn := hid (show (b16 (md5 L.flatten)).length = 16 by simp [b16, md5, dig_len])
      unfold SumOf at KS
      obtain ⟨V, hV⟩ : ∃ V, V = b16 (md5 L.flatten) := ⟨_, rfl⟩
      have HVE := hid hV
      rw [← hV] at KS ONE HLn
      have hz2 := hid (show (Tryd.prog.info? 24).map (·.size) = some V.length by rw [HLn.out]; kernel_rfl)
      have hzl := hid (show (b16 (List.replicate 16 0)).length = V.length by rw [HLn.out]; rfl)
      clear hV HH HFA
      go_wp2_with (first | (go_at_call 11; ((with_reducible refine KS.out.mono ?_); rintro e w6 ⟨rfl, B6⟩; have B6 := hid B6; have R6 := hid (HS.out.r.next B6.out))) | (refine wpList_store_box rfl 24 (.tmp 2) (.tmp 15) rfl w.heap.size _ V rfl rfl R6.out hzl.out hz2.out ONE.out ?_; intro w9 B9 G9))
      have B10 := gb_below (HS.out.b.trans (B6.out.mono HS.out.b.size)) G9.out (Nat.le_trans HS.out.b.size B6.out.size) (Nat.le_refl _)
      have hld := run_loadVar_mid (P := Tryd.prog) w9 w.heap.size 0 24 V (.array 16 5) (box_range B9.out) (by kernel_rfl) rfl hz2.out
      refine bodyPost_ret (v := .agg V.toArray) ?_ rfl ⟨by rw [← HVE.out], B10⟩
      refine (results_cell1 rfl _ _ _).trans ?_
      show ((asAddr (.pointer (some ⟨w.heap.size, 0, none⟩))).run Tryd.prog w9).andThen _ = _
      simp [asAddr, Result.andThen, hld]
end Go.Proofs.YtnfklhebcloolaaDoor.mdc
