/- The contracts of package ring, but for All. -/
import Derived.Test.YtmoolhneofbfdaaInts
import Derived.LoopTactic
import Derived.Deep.QuietTactic
import Derived.BigQuiet
import Derived.Deep.DeepCutAuto
import Derived.ArgAppend
import Derived.WalkSpells
namespace Go.Proofs.Ytmoolhneofbfdaa.rgc
open Go.RowKit
open Go.Proofs.Ytmoolhneofbfdaa.kit
set_option linter.unusedVariables false

def blk (a : Option Addr) : Option Nat := a.map (·.block)

/-- a ring in block g: its row reads as l, in a block of its own (none: it has no array) -/
structure Ring (w : World) (B g : Nat) (most : Int) (a : Option Addr) (n cap : Nat) (l : List Int) : Prop where
  row : w.cell? ⟨g, 0, none⟩ = some (.slice a n cap)
  most : w.cell? ⟨g, 1, none⟩ = some (.int .i64 most)
  free : ∀ j, w.frozen? ⟨g, j, none⟩ = false
  own : B ≤ g
  len : l.length = n
  le : n ≤ cap
  max : cap ≤ maxLen
  nil : a = none → cap = 0
  cells : 0 < cap → ∃ b off, a = some ⟨b, off, none⟩ ∧ B ≤ b ∧ b ≠ g ∧ b < w.heap.size ∧ (∀ j, j < n → w.cell? ⟨b, off + j, none⟩ = some (.int .i64 (l.getD j 0))) ∧
    (∀ j, j < cap → (w.cell? ⟨b, off + j, none⟩).isSome = true) ∧ ∀ j, w.frozen? ⟨b, j, none⟩ = false
  lo : ∀ b, blk a = some b → B ≤ b ∧ b < w.heap.size

/-- of the blocks that were there, the ring's two may have turned, and no other -/
structure Fr (w w' : World) (g : Nat) (a : Option Addr) : Prop where
  os : w'.os = w.os
  tape : w'.tape = w.tape
  output : w'.output = w.output
  size : w.heap.size ≤ w'.heap.size
  block : ∀ i, i < w.heap.size → i ≠ g → blk a ≠ some i → w'.heap[i]? = w.heap[i]?
theorem Fr.refl (w : World) (g : Nat) (a : Option Addr) : Fr w w g a := ⟨rfl, rfl, rfl, Nat.le_refl _, fun _ _ _ _ => rfl⟩
theorem Fr.of_below {w w' : World} {g : Nat} {a : Option Addr} (h : Below w.heap.size w w') : Fr w w' g a := ⟨h.os, h.tape, h.output, h.size, fun i hi _ _ => h.block i hi⟩
theorem Fr.below {w0 w w' : World} {g : Nat} {a : Option Addr} {B : Nat} (h : Fr w w' g a) (hb : Below B w0 w) (hg : B ≤ g) (ha : ∀ b, blk a = some b → B ≤ b) (hB : B ≤ w.heap.size) : Below B w0 w' :=
  ⟨h.os.trans hb.os, h.tape.trans hb.tape, h.output.trans hb.output, Nat.le_trans hb.size h.size, fun i hi => (h.block i (by omega) (by omega) (fun e => by have := ha i e; omega)).trans (hb.block i hi)⟩
theorem len_any (w : World) {B g : Nat} {most : Int} {a : Option Addr} {n cap : Nat} {l : List Int} (h : Ring w B g most a n cap l) :
    Calls Try.prog 22 #[.pointer (some ⟨g, 0, none⟩)] w fun e w' => e = .returned (.int .i64 n) ∧ w = w' := by
  have h0 := h.row
  clear h
  go_enter Try.func22, Try.ntmps22
  go_wp2
  go_ret
  exact ⟨rfl, rfl⟩

theorem room_any (w : World) {B g : Nat} {most : Int} {a : Option Addr} {n cap : Nat} {l : List Int} (h : Ring w B g most a n cap l) (hn : (n : Int) ≤ most) (hm : most ≤ 4096) :
    Calls Try.prog 23 #[.pointer (some ⟨g, 0, none⟩)] w fun e w' => e = .returned (.int .i64 (most - n)) ∧ ∃ m, w' = w.drewN m := by
  have h0 := h.row
  have h1 := h.most
  have hw : IntKind.i64.wrap (most - n) = most - n := IntWalk.i64_in _ (by omega)
  clear h
  go_enter Try.func23, Try.ntmps23
  go_wp2
  go_quiet (fail)
  go_wp2
  go_ret
  exact ⟨rfl, nq, rfl⟩

theorem get_no (w : World) {B g : Nat} {most : Int} {a : Option Addr} {n cap : Nat} {l : List Int} (h : Ring w B g most a n cap l) (i : Int) (hi : i < 0 ∨ n ≤ i) :
    Calls Try.prog 41 #[.pointer (some ⟨g, 0, none⟩), .int .i64 i] w fun e w' => e = .returned (.tuple #[.int .i64 0, .bool false]) ∧ Below w.heap.size w w' := by
  have h0 := h.row
  clear h
  by_cases hi0 : i < 0
  · clear hi
    go_enter Try.func41, Try.ntmps41
    go_wp2
    go_ret2
    exact ⟨rfl, (Below.refl _ _).alloc (Nat.le_refl _) _⟩
  · have hn : (n : Int) ≤ i := by omega
    clear hi
    go_enter Try.func41, Try.ntmps41
    go_wp2
    go_ret2
    exact ⟨rfl, (Below.refl _ _).alloc (Nat.le_refl _) _⟩

theorem get_in (w : World) {B g : Nat} {most : Int} {a : Option Addr} {n cap : Nat} {l : List Int} (h : Ring w B g most a n cap l) (i : Nat) (hi : i < n) :
    Calls Try.prog 41 #[.pointer (some ⟨g, 0, none⟩), .int .i64 i] w fun e w' => e = .returned (.tuple #[.int .i64 (l.getD i 0), .bool true]) ∧ w = w' := by
  have h0 := h.row
  have hle := h.le
  obtain ⟨b, off, ha, _, _, _, hc, _⟩ := h.cells (by omega)
  have hcx := hc i hi
  clear h hc
  subst ha
  obtain ⟨x, hx⟩ : ∃ x, x = l.getD i 0 := ⟨_, rfl⟩
  rw [← hx] at hcx ⊢
  clear hx
  go_enter Try.func41, Try.ntmps41
  go_wp2
  go_ret2
  exact ⟨rfl, rfl⟩

theorem Fr.setCell {w w1 : World} {g : Nat} {a : Option Addr} (h : Fr w w1 g a) {p : Addr} (hp : p.block = g ∨ blk a = some p.block ∨ w.heap.size ≤ p.block) (v : Value) : Fr w (w1.setCell p v) g a :=
  ⟨h.os, h.tape, h.output, by simpa [World.setCell] using h.size, fun i hi h1 h2 => (Below.heap_setCell w1 p v i (by
    rintro rfl
    rcases hp with hp | hp | hp
    · exact h1 hp
    · exact h2 hp
    · omega)).trans (h.block i hi h1 h2)⟩
theorem Fr.alloc {w w1 : World} {g : Nat} {a : Option Addr} (h : Fr w w1 g a) (o : Obj) : Fr w (w1.alloc o) g a :=
  ⟨h.os, h.tape, h.output, by have := h.size; simp; omega, fun i hi h1 h2 => (Below.heap_alloc w1 o i (by have := h.size; omega)).trans (h.block i hi h1 h2)⟩
theorem Fr.drewN {w w1 : World} {g : Nat} {a : Option Addr} (h : Fr w w1 g a) (m : Nat) : Fr w (w1.drewN m) g a := ⟨h.os, h.tape, h.output, h.size, h.block⟩
theorem Fr.grown {w w1 w2 : World} {g : Nat} {a : Option Addr} (h : Fr w w1 g a) (k : w1.grownBy w2 none) : Fr w w2 g a :=
  ⟨k.os.trans h.os, k.tape.trans h.tape, k.output.trans h.output, Nat.le_trans h.size k.size, fun i hi h1 h2 => (k.block i (by have := h.size; omega) (by simp)).trans (h.block i hi h1 h2)⟩

/-- what lies in blocks of its own lies on, where none of them turned -/
theorem Ring.below {w w' : World} {B g : Nat} {most : Int} {a : Option Addr} {n cap : Nat} {l : List Int} (h : Ring w B g most a n cap l) (hb : Below w.heap.size w w') : Ring w' B g most a n cap l := by
  have hg : g < w.heap.size := World.block_lt_of_cell? w _ h.row
  refine ⟨keep_cell hb h.row, keep_cell hb h.most, fun j => (hb.frozen (p := ⟨g, j, none⟩) hg).trans (h.free j), h.own, h.len, h.le, h.max, h.nil, fun hp => ?_, fun b hlb => ⟨(h.lo b hlb).1, Nat.lt_of_lt_of_le (h.lo b hlb).2 hb.size⟩⟩
  obtain ⟨b, off, ha, h1, h2, h3, h4, h5, h6⟩ := h.cells hp
  refine ⟨b, off, ha, h1, h2, Nat.lt_of_lt_of_le h3 hb.size, fun j hj => (hb.cell (p := ⟨b, off + j, none⟩) h3).trans (h4 j hj), fun j hj => ?_, fun j => (hb.frozen (p := ⟨b, j, none⟩) h3).trans (h6 j)⟩
  rw [hb.cell (p := ⟨b, off + j, none⟩) h3]; exact h5 j hj

theorem clear_any (w : World) {B g : Nat} {most : Int} {a : Option Addr} {n cap : Nat} {l : List Int} (h : Ring w B g most a n cap l) :
    Calls Try.prog 42 #[.pointer (some ⟨g, 0, none⟩)] w fun e w' => e = .returned (.tuple #[]) ∧ Ring w' B g most none 0 0 [] ∧ Fr w w' g a := by
  have h0 := h.row
  have hf := h.free 0
  have hm := hid h.most
  have hff := hid h.free
  have ho := h.own
  clear h
  go_enter Try.func42, Try.ntmps42
  go_wp2
  go_end0
  exact ⟨rfl, ⟨cell_same h0, cell_other hm.out (by decide), fun j => frozen_set (hff.out j), ho, rfl, Nat.le_refl _, Nat.zero_le _, fun _ => rfl, fun h => by omega, fun b hb => by cases hb⟩, (Fr.refl w g a).setCell (.inl rfl) _⟩

/-- 'append(xs, x)' where there is room -/
theorem wpList_push {P : Program} {w : World} {ops : Array Oper} {rest : List Oper} {o : Oper} {a : Act} {Q : Exit → Act → World → Prop} (hg : o.guard = none) (s x : Operand) (t : TypeId)
    (hop : o.op = Op.call { callee := Callee.builtin Builtin.append, args := #[s, x], argTypes := #[t, t] }) (e : TypeId) (i : TypeInfo) (h1 : P.underlying t = some (.slice e)) (h2 : P.info? e = some i) (h4 : i.size = 1)
    (b off n cap : Nat) (hs : a.eval s = .slice (some ⟨b, off, none⟩) n cap) (ad c : Nat) {k : IntKind} (y : Int) (hx : a.eval x = .slice (some ⟨ad, 0, none⟩) 1 c) (hc : w.cell? ⟨ad, 0, none⟩ = some (.int k y))
    (hroom : n < cap) (hspare : (w.cell? ⟨b, off + n, none⟩).isSome = true) (hfr : w.frozen? ⟨b, off + n, none⟩ = false)
    (hK : wpList P ops Q rest (a.put o.dst (.slice (some ⟨b, off, none⟩) (n + 1) cap)) (w.setCell ⟨b, off + n, none⟩ (.int k y))) : wpList P ops Q (o :: rest) a w := by
  refine wpList_plain hg fun K hK' => ?_
  have hrun := run_append_room_cells (P := P) w t o.type e i h1 h2 b off n cap ⟨ad, 0, none⟩ 1 c [.int k y] (by simp [h4])
    (fun j u hj => by
      match j, hj with
      | 0, hj => simp at hj; subst hj; exact hc
      | j + 1, hj => simp at hj)
    (by simp [Value.oneCell']) (by omega) (fun j hj => by simp at hj; subst hj; rw [h4]; simpa using hspare) (fun j hj => by simp at hj; subst hj; rw [h4]; simpa using hfr)
  rw [h4, Nat.mul_one] at hrun
  unfold Oper.wp
  simp [execOp, hop, resolve, invoke, builtin, hs, hx, hrun, Result.andThen]
  exact hK' _ _ hK

theorem one_new (W : World) (v : Value) (t : TypeId) : (W.alloc (.cells #[v] t)).cell? ⟨W.heap.size, 0, none⟩ = some v := by simp [go_sem]
def PushPost (B g : Nat) (most : Int) (a : Option Addr) (n : Nat) (l : List Int) (w w' : World) : Prop :=
  ∃ a' cap', Ring w' B g most a' n cap' l ∧ Fr w w' g a ∧ (blk a' = blk a ∨ ∃ b, w.heap.size ≤ b ∧ blk a' = some b)
theorem cell_far {w : World} {p q : Addr} {v : Value} (h : q.block ≠ p.block) : (w.setCell p v).cell? q = w.cell? q := World.cell?_setCell_other w _ _ v (by rintro rfl; exact h rfl)
theorem ring_pushed {w W1 W2 : World} {B g : Nat} {most : Int} {b off n cap : Nat} {l : List Int} {x : Int} (h0 : Ring w B g most (some ⟨b, off, none⟩) n cap l) (hr : n < cap) (hb : Below w.heap.size w W1) (hW : W2 = W1.setCell ⟨b, off + n, none⟩ (.int .i64 x)) :
    W2.cell? ⟨g, 0, none⟩ = some (.slice (some ⟨b, off, none⟩) n cap) ∧ W2.frozen? ⟨g, 0, none⟩ = false ∧ PushPost B g most (some ⟨b, off, none⟩) (n + 1) (l ++ [x]) w (W2.setCell ⟨g, 0, none⟩ (.slice (some ⟨b, off, none⟩) (n + 1) cap)) := by
  have h := h0.below hb
  obtain ⟨b', off', ha, h1, h2, h3, h4, h5, h6⟩ := h.cells (by omega)
  obtain ⟨rfl, rfl⟩ : b = b' ∧ off = off' := by simpa using ha
  have hg : g < W1.heap.size := World.block_lt_of_cell? _ _ h.row
  have hb0 : b < w.heap.size := by
    obtain ⟨b', off', ha, _, _, h3, _⟩ := h0.cells (by omega)
    obtain ⟨rfl, rfl⟩ : b = b' ∧ off = off' := by simpa using ha
    exact h3
  have e0 : W2.cell? ⟨g, 0, none⟩ = some (.slice (some ⟨b, off, none⟩) n cap) := by rw [hW, cell_far (by exact fun e => h2 e.symm)]; exact h.row
  have hS : W1.heap.size = W2.heap.size := by rw [hW]; simp [World.setCell]
  refine ⟨e0, by rw [hW]; exact frozen_set (h.free 0), some ⟨b, off, none⟩, cap, ?_, ?_, .inl rfl⟩
  · refine ⟨cell_same e0, ?_, fun j => frozen_set (by rw [hW]; exact frozen_set (h.free j)), h.own, by rw [List.length_append, h.len]; rfl, by omega, h.max, (fun h => by cases h), fun _ => ⟨b, off, rfl, h1, h2, by simp only [World.setCell] at *; simpa [hW, World.setCell] using h3, fun j hj => ?_, fun j hj => ?_, fun j => ?_⟩, fun b' hb' => ⟨(h0.lo b' hb').1, by have := (h.lo b' hb').2; simp only [World.setCell] at *; simpa [hW, World.setCell] using this⟩⟩
    · exact cell_other (by rw [hW, cell_far (by exact fun e => h2 e.symm)]; exact h.most) (by decide)
    · rw [cell_far (by exact h2), hW]
      by_cases e : j = n
      · subst e
        rw [World.cell?_setCell_same' _ _ _ (h5 j hr), List.getD_eq_getElem?_getD, List.getElem?_append_right (by rw [h.len]; omega), h.len]
        simp
      · rw [cell_other (h4 j (by omega)) (by omega), List.getD_eq_getElem?_getD, List.getD_eq_getElem?_getD, List.getElem?_append_left (by rw [h.len]; omega)]
    · rw [cell_far (by exact h2), hW]
      by_cases e : j = n
      · subst e; rw [World.cell?_setCell_same' _ _ _ (h5 j hr)]; rfl
      · rw [cell_other rfl (by omega)]; exact h5 j hj
    · exact frozen_set (by rw [hW]; exact frozen_set (h6 j))
  · have f := (Fr.of_below (g := g) (a := some ⟨b, off, none⟩) hb).setCell (p := ⟨b, off + n, none⟩) (.inr (.inl rfl)) (.int .i64 x)
    rw [← hW] at f
    exact f.setCell (.inl rfl) _
theorem push_full (w : World) {B g : Nat} {most : Int} {a : Option Addr} {n cap : Nat} {l : List Int} (h : Ring w B g most a n cap l) (hn : (n : Int) = most) (hm : most ≤ 4096) (x : Int) :
    Calls Try.prog 43 #[.pointer (some ⟨g, 0, none⟩), .int .i64 x] w fun e w' => e = .returned (.bool false) ∧ ∃ m, w' = w.drewN m := by
  have H := hid (room_any w h (by omega) hm)
  have he : most - n = 0 := by omega
  rw [he] at H
  clear h hn he
  go_enter Try.func43, Try.ntmps43
  go_wp2_with (go_at_call 23; refine H.out.mono ?_; rintro e w' ⟨rfl, m, rfl⟩)
  go_ret
  exact ⟨rfl, m, rfl⟩

theorem push_room (w : World) {B g : Nat} {most : Int} {a : Option Addr} {n cap : Nat} {l : List Int} (h : Ring w B g most a n cap l) (hn : (n : Int) < most) (hm : most ≤ 4096) (hr : n < cap) (x : Int) :
    Calls Try.prog 43 #[.pointer (some ⟨g, 0, none⟩), .int .i64 x] w fun e w' => e = .returned (.bool true) ∧ PushPost B g most a (n + 1) (l ++ [x]) w w' := by
  obtain ⟨i0, hi, hi0, hi1, hi2⟩ := info_parts Try.info_int
  have H := hid (room_any w h (by omega) hm)
  obtain ⟨b, off, ha, h1, h2, h3, h4, h5, h6⟩ := h.cells (by omega)
  subst ha
  have h0 := h.row
  have hf := h.free 0
  have hg : g < w.heap.size := World.block_lt_of_cell? w _ h.row
  have HR := hid h
  have hne : ((most - n) == 0) = false := by simp; omega
  have H4 := hid h4
  have H5 := hid h5
  have H6 := hid h6
  clear h h4 h5 h6
  go_enter Try.func43, Try.ntmps43
  go_wp2_with (first | (go_at_call 23; refine H.out.mono ?_; rintro e w' ⟨rfl, m, rfl⟩) | (at_builtin; go_loud (refine wpList_push (k := .i64) rfl (.tmp 12) (.tmp 14) 39 rfl 3 i0 Try.underlying39 hi hi1 b off n cap rfl w.heap.size 1 x rfl (one_new (w.drewN m) _ _) hr (by have hB := (below_drewN (Below.refl w.heap.size w) m).alloc (Nat.le_refl _) (.cells #[.int .i64 x] 3); rw [hB.cell (p := ⟨b, off + n, none⟩) h3]; exact H5.out n hr) (by have hB := (below_drewN (Below.refl w.heap.size w) m).alloc (Nat.le_refl _) (.cells #[.int .i64 x] 3); rw [hB.frozen (p := ⟨b, off + n, none⟩) h3]; exact H6.out _) ?_); obtain ⟨W2, hW2⟩ : ∃ W2, W2 = World.setCell (World.alloc (w.drewN m) (.cells #[.int .i64 x] 3)) ⟨b, off + n, none⟩ (.int .i64 x) := ⟨_, rfl⟩; rw [← hW2]; obtain ⟨hc0, hf0, hpost⟩ := ring_pushed HR.out hr ((below_drewN (Below.refl w.heap.size w) m).alloc (Nat.le_refl _) _) hW2; have HP := hid hpost; clear hpost hW2))
  go_ret
  exact ⟨rfl, HP.out⟩

theorem ring_grown {w W1 W2 : World} {B g : Nat} {most : Int} {a : Option Addr} {n cap : Nat} {l : List Int} {x : Int} {e : TypeId} {v' : Value} (h0 : Ring w B g most a n cap l) (hb : Below w.heap.size w W1) (hB : B ≤ w.heap.size)
    (ho : W2.ownsRow W1.heap.size e 1 v' (n + 1) ((l ++ [x]).map (Value.int .i64))) (hg : W1.grownBy W2 none) :
    W2.cell? ⟨g, 0, none⟩ = some (.slice a n cap) ∧ W2.frozen? ⟨g, 0, none⟩ = false ∧ ∃ b c, v' = .slice (some ⟨b, 0, none⟩) (n + 1) c ∧ PushPost B g most a (n + 1) (l ++ [x]) w (W2.setCell ⟨g, 0, none⟩ v') := by
  have hbb : Below w.heap.size w W2 := below_none hb hg hb.size
  have h := h0.below hbb
  have hgl : g < w.heap.size := World.block_lt_of_cell? _ _ h0.row
  rcases ho.2 with ⟨_, h1⟩ | ⟨b, c, cur, hv, hb1, hb2, hnc, hmx, hcs, ht⟩
  · omega
  · subst hv
    have hbg : b ≠ g := by have := hb.size; omega
    have hbl : b < W2.heap.size := (Array.getElem?_eq_some_iff.1 hb2).1
    refine ⟨h.row, h.free 0, b, c, rfl, some ⟨b, 0, none⟩, c, ?_, ?_, .inr ⟨b, by have := hb.size; omega, rfl⟩⟩
    · refine ⟨cell_same h.row, cell_other h.most (by decide), fun j => frozen_set (h.free j), h.own, by rw [List.length_append, h.len]; rfl, hnc, hmx, (fun h => by cases h), fun _ => ⟨b, 0, rfl, by have := hb.size; omega, hbg, by simpa [World.setCell] using hbl, fun j hj => ?_, fun j hj => ?_, fun j => ?_⟩, fun b' hb' => by simp [blk] at hb'; subst hb'; exact ⟨by have := hb.size; omega, by simpa [World.setCell] using hbl⟩⟩
      · rw [cell_far (by exact hbg), Nat.zero_add, ho.cellAt j (by omega), List.getElem?_map, List.getD_eq_getElem?_getD, List.getElem?_eq_getElem (by rw [List.length_append, h.len]; exact hj)]
        rfl
      · rw [cell_far (by exact hbg), Nat.zero_add]
        rw [cell_of_row W2 b j cur e (0, 0) hb2, Array.getElem?_eq_getElem (by rw [hcs]; omega)]
        rfl
      · exact frozen_set (ho.frozenAt j)
    · exact (Fr.of_below hbb).setCell (.inl rfl) _

theorem push_grow (w : World) {B g : Nat} {most : Int} {a : Option Addr} {n cap : Nat} {l : List Int} (h : Ring w B g most a n cap l) (hB : B ≤ w.heap.size) (hn : (n : Int) < most) (hm : most ≤ 4096) (hr : ¬ n < cap) (x : Int) :
    Calls Try.prog 43 #[.pointer (some ⟨g, 0, none⟩), .int .i64 x] w fun e w' => e = .returned (.bool true) ∧ PushPost B g most a (n + 1) (l ++ [x]) w w' := by
  obtain ⟨i0, hi, hi0, hi1, hi2⟩ := info_parts Try.info_int
  have H := hid (room_any w h (by omega) hm)
  have h0 := h.row
  have hle := h.le
  have HR := hid h
  have hne : ((most - n) == 0) = false := by simp; omega
  have hcl : Hid (∀ b, a = some b → ∀ j u, (l.map (Value.int .i64))[j]? = some u → w.cell? (b.add j) = some u) := by
    intro b hb j u hj
    have hjl : j < l.length := by
      have := (List.getElem?_eq_some_iff.1 hj).1; simpa using this
    obtain ⟨b', off, ha, _, _, _, h4, _⟩ := h.cells (by have := h.len; omega)
    rw [ha] at hb; obtain rfl := Option.some.inj hb
    rw [Addr.add_lit, h4 j (by have := h.len; omega)]
    rw [List.getElem?_map, List.getElem?_eq_getElem hjl] at hj
    rw [List.getD_eq_getElem?_getD, List.getElem?_eq_getElem hjl]
    exact hj
  have hnil : Hid (a = none → n = 0 ∧ cap = 0) := by intro hn; have := h.nil hn; exact ⟨by omega, this⟩
  clear h
  go_enter Try.func43, Try.ntmps43
  go_wp2_with (first | (go_at_call 23; refine H.out.mono ?_; rintro e w' ⟨rfl, m, rfl⟩) | (at_builtin; go_loud (refine wpList_append_grows _ rfl (.tmp 12) (.tmp 14) 39 rfl 3 i0 (.int .i64 0) 1 8 Try.underlying39 hi hi0 hi1 hi2 rfl (by decide) a n cap (l.map (Value.int .i64)) rfl hnil.out (by rw [List.length_map, HR.out.len]; omega) (fun b hb j u hj => keep_cell ((below_drewN (Below.refl w.heap.size w) m).alloc (Nat.le_refl _) _) (hcl.out b hb j u hj)) ⟨w.heap.size, 0, none⟩ 1 1 [.int .i64 x] rfl rfl (fun j u hj => by match j, hj with | 0, hj => (simp at hj; subst hj; exact one_new (w.drewN m) _ _) | j + 1, hj => simp at hj) (by simp [Value.oneCell']) (by omega) (by unfold maxLen; omega) (by omega) ?_); go_loud (intro v' W2 g1 g2); go_loud (obtain ⟨hc0, hf0, bb, cc, rfl, hpost⟩ := ring_grown HR.out ((below_drewN (Below.refl w.heap.size w) m).alloc (Nat.le_refl _) _) hB (by rw [List.map_append]; exact g1) g2); have HP := hid hpost; clear hpost g1 g2))
  go_ret
  exact ⟨rfl, HP.out⟩

theorem hnil_some {w : World} {B g : Nat} {most : Int} {a : Option Addr} {n cap : Nat} {l : List Int} (h : Ring w B g most a n cap l) (hp : 0 < n) : ∃ b off, a = some ⟨b, off, none⟩ := by
  obtain ⟨b, off, ha, _⟩ := h.cells (by have := h.le; omega)
  exact ⟨b, off, ha⟩
theorem pop_no (w : World) {B g : Nat} {most : Int} {a : Option Addr} {cap : Nat} {l : List Int} (h : Ring w B g most a 0 cap l) :
    Calls Try.prog 40 #[.pointer (some ⟨g, 0, none⟩)] w fun e w' => e = .returned (.tuple #[.int .i64 0, .bool false]) ∧ Below w.heap.size w w' := by
  have H := hid (get_no w h 0 (.inr (by omega)))
  clear h
  go_enter Try.func40, Try.ntmps40
  go_wp2_with (go_at_call 41; refine H.out.mono ?_; rintro e w' ⟨rfl, hb⟩)
  go_ret2
  exact ⟨rfl, hb⟩
theorem clear_run (w : World) (b off cap : Nat) (hc : (w.cell? ⟨b, off, none⟩).isSome = true) (hf : w.frozen? ⟨b, off, none⟩ = false) (ty : TypeId) :
    (Builtin.clear_ #[39] ty #[.slice (some ⟨b, off, none⟩) 1 cap]).run Try.prog w = .ok (.tuple #[]) (w.setCell ⟨b, off, none⟩ (.int .i64 0)) := by
  have hz : (Builtin.zeroCells (Value.int .i64 0).cells 1).toList = [.int .i64 0] := by kernel_rfl
  have hst := run_storeCells_cells (P := Try.prog) b off [.int .i64 0] 0 w (fun j hj => by simp at hj; subst hj; simpa using hc) (fun j hj => by simp at hj; subst hj; simpa using hf) (by simp [Value.oneCell'])
  simp only [Nat.add_zero] at hst
  have hu := run_underlying (w := w) Try.underlying39
  have hzv := Try.zeroValue3 w
  simp [Builtin.clear_, Sem.run_bind, hu, hzv, hz, hst, Result.andThen]
  rfl
theorem ring_popped {w : World} {B g : Nat} {most : Int} {b off n cap : Nat} {x : Int} {l : List Int} {a' : Option Addr} (h : Ring w B g most (some ⟨b, off, none⟩) (n + 1) cap (x :: l)) (h1 : cap = 1 → a' = some ⟨b, off, none⟩) (h2 : ¬ cap = 1 → a' = some ⟨b, off + 1, none⟩) :
    PushPost B g most (some ⟨b, off, none⟩) n l w ((w.setCell ⟨b, off, none⟩ (.int .i64 0)).setCell ⟨g, 0, none⟩ (.slice a' n (cap - 1))) := by
  have hle := h.le
  have hmx := h.max
  have hln := h.len
  obtain ⟨b', off', ha, k1, k2, k3, k4, k5, k6⟩ := h.cells (by omega)
  obtain ⟨rfl, rfl⟩ : b = b' ∧ off = off' := by simpa using ha
  have e0 : (w.setCell ⟨b, off, none⟩ (.int .i64 0)).cell? ⟨g, 0, none⟩ = some (.slice (some ⟨b, off, none⟩) (n + 1) cap) := by rw [cell_far (by exact fun e => k2 e.symm)]; exact h.row
  refine ⟨a', cap - 1, ⟨cell_same e0, cell_other (by rw [cell_far (by exact fun e => k2 e.symm)]; exact h.most) (by decide), fun j => frozen_set (frozen_set (h.free j)), h.own, by simpa using hln, by omega, Nat.le_trans (Nat.sub_le _ _) hmx, ?_, fun hp => ?_, fun b' hb' => ?_⟩, ?_, ?_⟩
  · intro e
    by_cases hc : cap = 1
    · omega
    · rw [h2 hc] at e; cases e
  · refine ⟨b, off + 1, h2 (by omega), k1, k2, by simpa [World.setCell] using k3, fun j hj => ?_, fun j hj => ?_, fun j => frozen_set (frozen_set (k6 j))⟩
    · rw [cell_far (by exact k2), cell_other rfl (by omega), show off + 1 + j = off + (j + 1) by omega, k4 (j + 1) (by omega)]
      rfl
    · rw [cell_far (by exact k2), cell_other rfl (by omega), show off + 1 + j = off + (j + 1) by omega]
      exact k5 (j + 1) (by omega)
  · by_cases hc : cap = 1
    · rw [h1 hc] at hb'; simp [blk] at hb'; subst hb'; exact ⟨k1, by simpa [World.setCell] using k3⟩
    · rw [h2 hc] at hb'; simp [blk] at hb'; subst hb'; exact ⟨k1, by simpa [World.setCell] using k3⟩
  · exact ((Fr.refl w g _).setCell (p := ⟨b, off, none⟩) (.inr (.inl rfl)) _).setCell (.inl rfl) _
  · left
    by_cases hc : cap = 1
    · rw [h1 hc]
    · rw [h2 hc]; rfl
theorem pop_in (w : World) {B g : Nat} {most : Int} {a : Option Addr} {n cap : Nat} {x : Int} {l : List Int} (h : Ring w B g most a (n + 1) cap (x :: l)) :
    Calls Try.prog 40 #[.pointer (some ⟨g, 0, none⟩)] w fun e w' => e = .returned (.tuple #[.int .i64 x, .bool true]) ∧ PushPost B g most a n l w w' := by
  have H := hid (get_in w h 0 (by omega))
  have HR := hid h
  have hle := h.le
  have hmx := h.max
  unfold maxLen at hmx
  have hnil := hnil_some h (by omega)
  obtain ⟨b, off, rfl⟩ := hnil
  obtain ⟨b', off', ha, h1, h2, h3, h4, h5, h6⟩ := h.cells (by omega)
  obtain ⟨rfl, rfl⟩ : b = b' ∧ off = off' := by simpa using ha
  have hcx : w.cell? ⟨b, off, none⟩ = some (.int .i64 x) := by have := h4 0 (by omega); simpa using this
  have hfx := h6 off
  have hc0 := h.row
  have hf0 := h.free 0
  have hgb : ¬ b = g := h2
  have hclr := clear_run w b off cap (by rw [hcx]; rfl) hfx 0
  have hc1 : (w.setCell ⟨b, off, none⟩ (.int .i64 0)).cell? ⟨g, 0, none⟩ = some (.slice (some ⟨b, off, none⟩) (n + 1) cap) := by rw [cell_far (by exact fun e => h2 e.symm)]; exact hc0
  have hf1 : (w.setCell ⟨b, off, none⟩ (.int .i64 0)).frozen? ⟨g, 0, none⟩ = false := frozen_set hf0
  clear h h4 h5 h6 ha
  by_cases hcap : cap = 1
  · have HP := hid (ring_popped (a' := some ⟨b, off, none⟩) HR.out (fun _ => rfl) (fun h => absurd hcap h))
    obtain rfl : n = 0 := by omega
    subst hcap
    go_enter Try.func40, Try.ntmps40
    go_wp2_with (go_at_call 41; refine H.out.mono ?_; rintro e w' ⟨rfl, rfl⟩)
    go_ret2
    exact ⟨rfl, HP.out⟩
  · have HP := hid (ring_popped (a' := some ⟨b, off + 1, none⟩) HR.out (fun h => absurd h hcap) (fun _ => rfl))
    have hcap1 : ¬ cap ≤ 1 := by omega
    go_enter Try.func40, Try.ntmps40
    go_wp2_with (go_at_call 41; refine H.out.mono ?_; rintro e w' ⟨rfl, rfl⟩)
    go_ret2
    exact ⟨rfl, HP.out⟩

def cl (m : Int) : Int := if m < 0 then 0 else if 4096 < m then 4096 else m
theorem new_any (m : Int) (w : World) : Calls Try.prog 20 #[.int .i64 m] w fun e w' => e = .returned (.pointer (some ⟨w.heap.size, 0, none⟩)) ∧ w' = w.alloc (.cells #[.slice none 0 0, .int .i64 (cl m)] 67) := by
  unfold cl
  by_cases h0 : m < 0
  · go_enter Try.func20, Try.ntmps20
    go_wp2
    go_ret
    exact ⟨rfl, rfl⟩
  · by_cases h1 : 4096 < m
    · go_enter Try.func20, Try.ntmps20
      go_wp2
      go_ret
      exact ⟨rfl, rfl⟩
    · go_enter Try.func20, Try.ntmps20
      go_wp2
      go_ret
      exact ⟨rfl, rfl⟩
theorem new_ring (m : Int) (w : World) (B : Nat) (hB : B ≤ w.heap.size) : Ring (w.alloc (.cells #[.slice none 0 0, .int .i64 (cl m)] 67)) B w.heap.size (cl m) none 0 0 [] :=
  ⟨by simp [go_sem], by simp [go_sem], fun j => by simp [go_sem], hB, rfl, Nat.le_refl _, Nat.zero_le _, fun _ => rfl, fun h => by omega, fun b hb => by cases hb⟩
end Go.Proofs.Ytmoolhneofbfdaa.rgc
