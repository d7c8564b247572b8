/- opt: the first option of a type, and whether one is there twice, by the package. -/
import Derived.Test.YtidenjinagpphaaOptFind
import Derived.Test.YtidenjinagpphaaBClone
namespace Go.Proofs.Ytidenjinagpphaa.opc
open Go.RowKit
open Go.Proofs.Ytidenjinagpphaa.kit Go.Proofs.Ytidenjinagpphaa.opm
set_option linter.unusedVariables false
set_option maxRecDepth 20000

def NoO (L : List Opt) (t : Int) (k : Nat) : Prop := ∀ j, j < k → ¬ (L.getD j (0, [])).1 = t
set_option maxHeartbeats 2000000 in
theorem find_any {w : World} {B n cap : Nat} {a : Option Addr} {L : List Opt} (h : Opts w B a n cap L) (hB : B ≤ w.heap.size) (hn : n ≤ 100000) (hd : ∀ o ∈ L, o.2.length ≤ 100000) (t : Int) :
    Calls Try.prog 13 #[.slice a n cap, .int .u8 t] w fun e w' => ∃ a' m c' d, Nums .u8 w' w'.heap.size a' m c' d ∧ Below w.heap.size w w' ∧
      ((e = .returned (.tuple #[.agg #[.int .u8 0, .slice a' m c'], .bool false]) ∧ d = [] ∧ NoO L t n) ∨
       ∃ k, e = .returned (.tuple #[.agg #[.int .u8 t, .slice a' m c'], .bool true]) ∧ k < n ∧ (L.getD k (0, [])).1 = t ∧ (L.getD k (0, [])).2 = d ∧ NoO L t k) := by
  obtain ⟨W1, hW1⟩ : ∃ W1, W1 = w.alloc (.cells #[.int .u8 0, .slice none 0 0] 31) := ⟨_, rfl⟩
  have b1 : Below w.heap.size w W1 := by rw [hW1]; exact (Below.refl _ _).alloc (Nat.le_refl _) _
  have c0 : W1.cell? ⟨w.heap.size, 0, none⟩ = some (.int .u8 0) := by rw [hW1]; simp [go_sem]
  have c1 : W1.cell? ⟨w.heap.size, 1, none⟩ = some (.slice none 0 0) := by rw [hW1]; simp [go_sem]
  have f0 : W1.frozen? ⟨w.heap.size, 0, none⟩ = false := by rw [hW1]; simp [go_sem]
  have f1 : W1.frozen? ⟨w.heap.size, 1, none⟩ = false := by rw [hW1]; simp [go_sem]
  have hlt1 : w.heap.size < W1.heap.size := by rw [hW1]; simp
  have CE : Hid (∀ w3 : World, Below W1.heap.size W1 w3 → w3.cell? ⟨w.heap.size, 0, none⟩ = some (.int .u8 0) ∧ w3.cell? ⟨w.heap.size, 1, none⟩ = some (.slice none 0 0) ∧ w3.frozen? ⟨w.heap.size, 0, none⟩ = false ∧ w3.frozen? ⟨w.heap.size, 1, none⟩ = false) := fun w3 h1 =>
    ⟨keep_cell h1 c0, keep_cell h1 c1, (h1.frozen (p := ⟨w.heap.size, 0, none⟩) hlt1).trans f0, (h1.frozen (p := ⟨w.heap.size, 1, none⟩) hlt1).trans f1⟩
  have HW := hid hW1
  have HB1 := hid b1
  have hle := h.le
  have HH := hid ((h.below (b1.mono hB)).mono (show B ≤ W1.heap.size by omega))
  have HL := hid h.len
  have HD := hid hd
  clear h hW1 b1 c0 c1 f0 f1 hd
  go_enter Try.func13, Try.ntmps13
  go_upto_region 1 with fail
  rw [← HW.out]
  go_wp2_with fail
  go_loopw [7, 10] (fun x7 iv wr => ∃ k : Nat, k ≤ n ∧ iv = .int .i64 (k : Nat) ∧ NoO L t k ∧ Below W1.heap.size W1 wr) (fun _ iv _ => n - (intOf iv).toNat)
  case atStart => exact ⟨0, Nat.zero_le _, rfl, (fun j hj => by omega), Below.refl _ _⟩
  case round =>
    obtain ⟨k, hk, rfl, hno, hb⟩ := hrel
    have NO := hid hno
    have HB := hid hb
    have hbs := hb.size
    clear hno hb
    have hww : IntKind.i64.wrap ((k : Int) + 1) = (k : Int) + 1 := IntWalk.i64_in _ (by omega)
    by_cases hlt : k < n
    · obtain ⟨b, off, aj, nj, cj, ha, h1, h2, h3, h4, h5⟩ := (HH.out.below HB.out).cells k hlt
      subst ha
      have hdl := HD.out (L.getD k (0, [])) (by rw [List.getD_eq_getElem?_getD, List.getElem?_eq_getElem (by rw [HL.out]; exact hlt)]; exact List.getElem_mem _)
      obtain ⟨⟨ty, d⟩, ho⟩ : ∃ o, o = L.getD k (0, []) := ⟨_, rfl⟩
      rw [← ho] at h3 h5 hdl
      have h3' : wr.cell? ⟨b, off + k * 2, none⟩ = some (.int .u8 ty) := h3
      have hnj : nj ≤ 100000 := by have := h5.len; simp only at this hdl; omega
      obtain ⟨W5, hW5⟩ : ∃ W5, W5 = wr.alloc (.cells #[.int .u8 ty, .slice aj nj cj] 31) := ⟨_, rfl⟩
      have b5 : Below wr.heap.size wr W5 := by rw [hW5]; exact (Below.refl _ _).alloc (Nat.le_refl _) _
      have z0 : W5.cell? ⟨wr.heap.size, 0, none⟩ = some (.int .u8 ty) := by rw [hW5]; simp [go_sem]
      have z1 : W5.cell? ⟨wr.heap.size, 1, none⟩ = some (.slice aj nj cj) := by rw [hW5]; simp [go_sem]
      have H5 := hid ((h5.below (b5.mono hbs)).mono (show W1.heap.size ≤ W5.heap.size by have := b5.size; omega))
      have HO := hid ho
      have HB5 := hid (HB.out.trans (b5.mono hbs))
      have HW5 := hid hW5
      clear h3 h5 ho hdl hW5 b5
      cases ht : (ty == t)
      · go_upto_region 4 with fail
        rw [← HW5.out]
        go_wp2_with fail
        go_roundw
        case rel => exact ⟨k + 1, by omega, by go_num, (fun j hj => by
          by_cases hj' : j < k
          · exact NO.out j hj'
          · obtain rfl : j = k := by omega
            rw [← HO.out]; simpa using ht), HB5.out⟩
        case measure => simp [intOf]; omega
      · have hte := hid (show ty = t by simpa using ht)
        go_upto_region 4 with fail
        rw [← HW5.out]
        have hs5 := HB5.out.size
        go_upto_region 6 with (go_at_call 33; ((with_reducible refine (bclone_any _ H5.out (by omega) (Nat.le_refl _)).mono ?_); rintro e w6 ⟨a6, c6, rfl, o6, b6⟩); have HO6 := hid o6; have HB6 := hid (HB5.out.trans (b6.mono hs5)); clear o6 b6; obtain ⟨q0, q1, q2, q3⟩ := CE.out _ HB6.out)
        have q5 : ((w6.setCell ⟨w.heap.size, 0, none⟩ (.int .u8 t)).setCell ⟨w.heap.size, 1, none⟩ (.slice a6 nj c6)).cell? ⟨w.heap.size, 0, none⟩ = some (.int .u8 t) := cell_other (cell_same q0) (by decide)
        have q6 : ((w6.setCell ⟨w.heap.size, 0, none⟩ (.int .u8 t)).setCell ⟨w.heap.size, 1, none⟩ (.slice a6 nj c6)).cell? ⟨w.heap.size, 1, none⟩ = some (.slice a6 nj c6) := cell_same (cell_other q1 (by decide))
        refine bodyPost_ret (v := .tuple #[.agg #[.int .u8 t, .slice a6 nj c6], .bool true]) (by simp [results, Try.results13, go_sem, q5, q6]) rfl ?_
        have ga := gb_setCell (World.grownBy.refl w6 (some w.heap.size)) (p := ⟨w.heap.size, 0, none⟩) rfl (.int .u8 t)
        have gg := gb_setCell ga (p := ⟨w.heap.size, 1, none⟩) rfl (.slice a6 nj c6)
        refine ⟨a6, nj, c6, d, own_nums (HO6.out.kept gg ?_), ((HB1.out.trans (HB6.out.mono HB1.out.size)).setCell (Nat.le_refl _) _).setCell (Nat.le_refl _) _, .inr ⟨k, rfl, hlt, by rw [← HO.out]; exact hte.out, by rw [← HO.out], NO.out⟩⟩
        cases hv : (Value.slice a6 nj c6).ownBlock with
        | none => exact .inl rfl
        | some j => exact .inr (by have := (HO6.out.lt j hv).1; intro e; injection e with e; omega)
    · obtain rfl : k = n := by omega
      obtain ⟨q0, q1, q2, q3⟩ := CE.out _ HB.out
      go_wp2_with fail
      have q5 : ((wr.setCell ⟨w.heap.size, 0, none⟩ (.int .u8 0)).setCell ⟨w.heap.size, 1, none⟩ (.slice none 0 0)).cell? ⟨w.heap.size, 0, none⟩ = some (.int .u8 0) := cell_other (cell_same q0) (by decide)
      have q6 : ((wr.setCell ⟨w.heap.size, 0, none⟩ (.int .u8 0)).setCell ⟨w.heap.size, 1, none⟩ (.slice none 0 0)).cell? ⟨w.heap.size, 1, none⟩ = some (.slice none 0 0) := cell_same (cell_other q1 (by decide))
      refine bodyPost_ret (v := .tuple #[.agg #[.int .u8 0, .slice none 0 0], .bool false]) (by simp [results, Try.results13, go_sem, q5, q6]) rfl ?_
      exact ⟨none, 0, 0, [], Nums.empty (Nat.zero_le _) (fun _ => rfl), ((HB1.out.trans (HB.out.mono HB1.out.size)).setCell (Nat.le_refl _) _).setCell (Nat.le_refl _) _, .inl ⟨rfl, rfl, NO.out⟩⟩
/-- is one type there twice among the first k? -/
def TwiceO (L : List Opt) (k : Nat) : Prop := ∃ j, j < k ∧ ∃ i, i < j ∧ (L.getD i (0, [])).1 = (L.getD j (0, [])).1
theorem Try.zeros256 : Try.zeroCells62 = Array.replicate 256 (Value.bool false) := by kernel_rfl
structure Tab (w wr : World) (L : List Opt) (k : Nat) : Prop where
  cell : ∀ c : Nat, c < 256 → ∃ q, wr.cell? ⟨w.heap.size, c, none⟩ = some (.bool q) ∧ (q = true ↔ ∃ i, i < k ∧ (L.getD i (0, [])).1 = (c : Int))
  fr : ∀ c : Nat, wr.frozen? ⟨w.heap.size, c, none⟩ = false
  lt : w.heap.size < wr.heap.size
  below : Below w.heap.size w wr
theorem Tab.alloc {w wr : World} {L : List Opt} {k : Nat} (h : Tab w wr L k) (o : Obj) : Tab w (wr.alloc o) L k :=
  have hb := (Below.refl wr.heap.size wr).alloc (Nat.le_refl _) o
  ⟨fun c hc => by obtain ⟨q, h1, h2⟩ := h.cell c hc; exact ⟨q, keep_cell hb h1, h2⟩, fun c => (hb.frozen (p := ⟨w.heap.size, c, none⟩) h.lt).trans (h.fr c), Nat.lt_of_lt_of_le h.lt hb.size, h.below.trans (hb.mono h.below.size)⟩
theorem Tab.next {w wr : World} {L : List Opt} {k c : Nat} (h : Tab w wr L k) (hc : c < 256) (hk : (L.getD k (0, [])).1 = (c : Int)) : Tab w (wr.setCell ⟨w.heap.size, c, none⟩ (.bool true)) L (k + 1) := by
  refine ⟨fun d hd => ?_, fun d => frozen_set (h.fr d), by simpa [World.setCell] using h.lt, h.below.setCell (Nat.le_refl _) _⟩
  by_cases e : c = d
  · subst e
    obtain ⟨q, h1, h2⟩ := h.cell c hc
    exact ⟨true, cell_same h1, fun _ => ⟨k, by omega, hk⟩, fun _ => rfl⟩
  · obtain ⟨q, h1, h2⟩ := h.cell d hd
    refine ⟨q, cell_other h1 e, ?_⟩
    rw [h2]
    constructor
    · rintro ⟨i, hi, he⟩; exact ⟨i, by omega, he⟩
    · rintro ⟨i, hi, he⟩
      by_cases hik : i < k
      · exact ⟨i, hik, he⟩
      · obtain rfl : i = k := by omega
        rw [hk] at he; omega
set_option maxHeartbeats 2000000 in
theorem twice_any {w : World} {B n cap : Nat} {a : Option Addr} {L : List Opt} (h : Opts w B a n cap L) (hB : B ≤ w.heap.size) (hn : n ≤ 100000) (ho : ∀ o ∈ L, 0 ≤ o.1 ∧ o.1 ≤ 255) :
    Calls Try.prog 18 #[.slice a n cap] w fun e w' => ∃ r : Bool, e = .returned (.bool r) ∧ (r = true ↔ TwiceO L n) ∧ Below w.heap.size w w' := by
  have hle := h.le
  have HH := hid h
  have HL := hid h.len
  have HO := hid ho
  clear h ho
  go_enter Try.func18, Try.ntmps18
  have T0 : Hid (Tab w (w.alloc (Obj.cells Try.zeroCells62 62)) L 0) := by
    refine ⟨fun c hc => ⟨false, ?_, by simp⟩, fun c => by simp [go_sem], by simp, (Below.refl _ _).alloc (Nat.le_refl _) _⟩
    rw [Try.zeros256]; simp [go_sem, hc]
  go_wp2_with fail
  go_loopw [5, 8] (fun x5 iv wr => ∃ k : Nat, k ≤ n ∧ iv = .int .i64 (k : Nat) ∧ ¬ TwiceO L k ∧ Tab w wr L k) (fun _ iv _ => n - (intOf iv).toNat)
  case atStart => exact ⟨0, Nat.zero_le _, rfl, (fun ⟨j, hj, _⟩ => by omega), T0.out⟩
  case round =>
    clear T0
    obtain ⟨k, hk, rfl, hno, hT⟩ := hrel
    have NO := hid hno
    have HT := hid hT
    have hbs := hT.below.size
    clear hno hT
    have hww : IntKind.i64.wrap ((k : Int) + 1) = (k : Int) + 1 := IntWalk.i64_in _ (by omega)
    by_cases hlt : k < n
    · obtain ⟨b, off, aj, nj, cj, ha, h1, h2, h3, h4, h5⟩ := (HH.out.below (HT.out.below.mono hB)).cells k hlt
      subst ha
      have hty := HO.out (L.getD k (0, [])) (by rw [List.getD_eq_getElem?_getD, List.getElem?_eq_getElem (by rw [HL.out]; exact hlt)]; exact List.getElem_mem _)
      obtain ⟨c, hc⟩ : ∃ c : Nat, (L.getD k (0, [])).1 = (c : Int) := ⟨(L.getD k (0, [])).1.toNat, by omega⟩
      rw [hc] at h3 hty
      have hc256 : c < 256 := by omega
      have HC := hid hc
      clear h5 hc hty
      obtain ⟨W5, hW5⟩ : ∃ W5, W5 = wr.alloc (.cells #[.int .u8 (c : Int), .slice aj nj cj] 31) := ⟨_, rfl⟩
      have z0 : W5.cell? ⟨wr.heap.size, 0, none⟩ = some (.int .u8 (c : Int)) := by rw [hW5]; simp [go_sem]
      have z1 : W5.cell? ⟨wr.heap.size, 1, none⟩ = some (.slice aj nj cj) := by rw [hW5]; simp [go_sem]
      have T5 : Hid (Tab w W5 L k) := by rw [hW5]; exact hid (HT.out.alloc _)
      have HW5 := hid hW5
      clear hW5
      obtain ⟨q, y0, yq⟩ := T5.out.cell c hc256
      have YQ := hid yq
      have f0 := T5.out.fr c
      clear yq
      cases q
      · have T6 := hid (T5.out.next hc256 HC.out)
        go_upto_region 5 with fail
        rw [← HW5.out]
        go_wp2_with fail
        go_roundw
        case rel => exact ⟨k + 1, by omega, by go_num, (by
          rintro ⟨j, hj, i, hi, he⟩
          by_cases hjk : j < k
          · exact NO.out ⟨j, hjk, i, hi, he⟩
          · obtain rfl : j = k := by omega
            have := YQ.out.2 ⟨i, hi, by rw [he]; exact HC.out⟩
            cases this), T6.out⟩
        case measure => simp [intOf]; omega
      · go_upto_region 5 with fail
        rw [← HW5.out]
        go_wp2_with fail
        go_ret
        obtain ⟨i, hi, he⟩ := YQ.out.1 trivial
        exact .inr ⟨rfl, ⟨k, hlt, i, hi, by rw [he]; exact HC.out.symm⟩, T5.out.below⟩
    · obtain rfl : k = n := by omega
      go_wp2_with fail
      go_ret
      exact ⟨false, rfl, ⟨fun h => (by cases h), fun h => absurd h NO.out⟩, HT.out.below⟩
end Go.Proofs.Ytidenjinagpphaa.opc
