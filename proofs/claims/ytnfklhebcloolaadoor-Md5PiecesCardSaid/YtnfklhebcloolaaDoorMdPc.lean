/- What the law of the pieces keeps; rows of bytes that came in. -/
import Derived.Test.YtnfklhebcloolaaDoorMdEq
import Derived.Test.YtnfklhebcloolaaDoorOpen
import Derived.Test.YtnfklhebcloolaaDoorRegion
namespace Go.Proofs.YtnfklhebcloolaaDoor.mdc
open Go.RowKit Go.ChangeShapes Go.WideShapes Go.Deep
open Go.Proofs.YtnfklhebcloolaaDoor.kit Go.Proofs.YtnfklhebcloolaaDoor.mdm
set_option linter.unusedVariables false
set_option linter.unusedSimpArgs false
set_option maxRecDepth 20000
/-- the law's Hash has the bytes m, its own row the bytes k -/
structure Pc (w wr : World) (m k : List Int) (av : Value) : Prop where
  b : Below w.heap.size w wr
  c : ∃ y R, Hs wr w.heap.size m y R
  o : wr.ownsRow (w.heap.size + 1) 5 1 av k.length (k.map (Value.int .u8))
  T : Tab wr
  t : Tab w
  oct : Oct k
theorem Pc.sz {w wr : World} {m k : List Int} {av : Value} (h : Pc w wr m k av) : w.heap.size + 1 ≤ wr.heap.size := by
  obtain ⟨y, R, hc⟩ := h.c; exact hc.box.lt
theorem own_keep {w w' : World} {base n g : Nat} {e : TypeId} {v : Value} {xs : List Value} (h : w.ownsRow base e 1 v n xs) (hg : w.grownBy w' (some g)) (hb : g < base) : w'.ownsRow base e 1 v n xs := by
  refine h.kept hg ?_
  cases hv : v.ownBlock with
  | none => exact .inl rfl
  | some k => exact .inr (fun e => by injection e with e; have := (h.lt k hv).1; omega)
theorem own_stay {w w' : World} {base n : Nat} {e : TypeId} {v : Value} {xs : List Value} (h : w.ownsRow base e 1 v n xs) (hb : Below w.heap.size w w') : w'.ownsRow base e 1 v n xs := by
  refine ⟨h.1, ?_⟩
  rcases h.2 with hn | ⟨g, cap, cur, rfl, hg, hgg, rest⟩
  · exact .inl hn
  · exact .inr ⟨g, cap, cur, rfl, hg, by rw [hb.block g (Array.getElem?_eq_some_iff.1 hgg).1]; exact hgg, rest⟩
theorem Pc.write {w wr : World} {m k : List Int} {av : Value} (h : Pc w wr m k av) {B n cap : Nat} {a : Option Addr} {c : List Int} (hN : Nums .u8 wr B a n cap c) (hO : Oct c) (hB : B ≤ w.heap.size) (htot : m.length + n ≤ 1000000) :
    Calls Tryd.prog 10 #[.pointer (some ⟨w.heap.size, 0, none⟩), .slice a n cap] wr fun e w' => e = .returned (.tuple #[]) ∧ Pc w w' (m ++ c) k av := by
  obtain ⟨y, R, hc⟩ := h.c
  have ht := h.t.lt
  have hs := h.b.size
  refine (write_any wr h.T w.heap.size m c y R hc a n cap B hN hO (Nat.le_trans hB hs) (fun hp b o s e => by have := nums_lt hN hp b o s e; omega) htot (by omega) (by omega) (by omega)).mono fun e w' ⟨he, h1, h2⟩ => ⟨he, ?_⟩
  exact ⟨gb_below h.b h2 h.b.size (Nat.le_refl _), h1, own_keep h.o h2 (Nat.lt_succ_self _), h.T.grown h2 (by omega) (by omega) (by omega), h.t, h.oct⟩
theorem Pc.next {w wr w' : World} {m k : List Int} {av : Value} (h : Pc w wr m k av) (hb : Below wr.heap.size wr w') : Pc w w' m k av := by
  obtain ⟨y, R, hc⟩ := h.c
  exact ⟨h.b.trans (hb.mono h.b.size), ⟨y, R, hc.next hb⟩, own_stay h.o hb, h.T.next hb, h.t, h.oct⟩
theorem Pc.added {w wr w' : World} {m k c : List Int} {av v : Value} {n : Nat} (h : Pc w wr m k av) (hO : Oct c) (hn : n = (k ++ c).length) (ho : w'.ownsRow (w.heap.size + 1) 5 1 v n ((k ++ c).map (Value.int .u8))) (hg : wr.grownBy w' av.ownBlock) : Pc w w' m (k ++ c) v := by
  subst hn
  have ht := h.t.lt
  have hs := h.sz
  have hb1 : Below (w.heap.size + 1) wr w' := own_below h.o (Below.refl _ _) hg hs
  have hb : Below w.heap.size w w' := h.b.trans (hb1.mono (Nat.le_succ _))
  obtain ⟨y, R, hc⟩ := h.c
  refine ⟨hb, ⟨y, R, ⟨?_, hc.ok, hc.oct, hc.len, hc.nums, hc.rest⟩⟩, ho, h.t.next hb, h.t, fun z hz => ?_⟩
  · have hx := hc.box
    refine ⟨fun j v hv => ?_, fun j => ?_, Nat.lt_of_lt_of_le hx.lt hb1.size⟩
    · exact (hb1.cell (p := ⟨w.heap.size, j, none⟩) (Nat.lt_succ_self _)).trans (hx.at_ j v hv)
    · have h1 := hx.fr j
      unfold World.frozen? at h1 ⊢
      rw [hb1.block w.heap.size (Nat.lt_succ_self _)]; exact h1
  · rcases List.mem_append.1 hz with hz | hz
    · exact h.oct z hz
    · exact hO z hz
theorem Pc.nums {w wr : World} {m k : List Int} {av : Value} (h : Pc w wr m k av) : ∃ a c, av = .slice a k.length c ∧ Nums .u8 wr wr.heap.size a k.length c k := by
  obtain ⟨a, c, rfl⟩ := own_slice h.o
  exact ⟨a, c, rfl, own_nums h.o⟩
theorem Pc.sum {w wr : World} {m k : List Int} {av : Value} (h : Pc w wr m k av) (hn : m.length ≤ 500000) : Calls Tryd.prog 11 #[.pointer (some ⟨w.heap.size, 0, none⟩)] wr (SumOf m wr) := by
  obtain ⟨y, R, hc⟩ := h.c
  exact sum_any wr h.T w.heap.size m y R hc hn
section
variable {P : Program} {w : World} {H : Type} {enc : TypeId × Value → H}
/-- rows of bytes that came in -/
theorem open_rows {t e u : TypeId} {a : Option Addr} {len cap : Nat} {d : DataW H} {p : List MemPlace} (ht : P.underlying t = some (.slice e)) (hC : P.cellsOf e = 1) (hs : P.underlying e = some (.slice u)) (hu : P.underlying u = some (.int .u8)) (hC2 : P.cellsOf u = 1)
    (h : DataW.Trod enc P w 0 (fun _ => true) true t (.slice a len cap) d p) : ∃ L, Rws w a len L := by
  obtain ⟨h1, h2, h3, h4⟩ := slice_cells ht hC (by decide) h
  by_cases hp : 0 < len
  · obtain ⟨b, off, ha, hb, hc⟩ := h4 hp
    have key : ∀ i, i < len → ∃ l ai ni ci, w.cell? ⟨b, off + i, none⟩ = some (.slice ai ni ci) ∧ Nums .u8 w w.heap.size ai ni ci l ∧ Oct l := by
      intro i hi
      obtain ⟨cs, n, y, hl, hcell, hy⟩ := hc i hi
      have h0 := hcell 0 (by decide)
      rw [Nat.mul_one, Nat.add_zero] at h0
      have fin : ∀ ai ni ci, cs = [.slice ai ni ci] → ∃ l ai ni ci, w.cell? ⟨b, off + i, none⟩ = some (.slice ai ni ci) ∧ Nums .u8 w w.heap.size ai ni ci l ∧ Oct l := by
        rintro ai ni ci rfl
        obtain ⟨l, hN, hw⟩ := open_nums hs hu hC2 (⟨n, hy⟩ : DataW.Trod enc P w 0 (fun _ => true) true e (.slice ai ni ci) y.1 y.2)
        exact ⟨l, ai, ni, ci, h0, hN, fun z hz => wf_u8 (hw z hz)⟩
      rcases open_slice hs hy with ⟨hv, _⟩ | ⟨ai, ni, ci, _, _, _, _, hv, _⟩
      · exact fin _ _ _ hv
      · exact fin _ _ _ hv
    refine ⟨(List.range len).map fun i => if h : i < len then (key i h).choose else [], by simp, fun _ => ⟨b, off, ha, hb, fun i hi => ?_⟩⟩
    obtain ⟨ai, ni, ci, k1, k2, k3⟩ := (key i hi).choose_spec
    refine ⟨ai, ni, ci, k1, ?_, ?_⟩ <;> rw [List.getD_eq_getElem?_getD] <;> simp [hi] <;> assumption
  · obtain rfl : len = 0 := by omega
    exact ⟨[], rfl, fun h => absurd h hp⟩
end
end Go.Proofs.YtnfklhebcloolaaDoor.mdc
