/- Slices of numbers, read as lists: what one is, what keeps it, how it is cut; and the laws by which a walk appends to one of its own. -/
import Derived.Test.YtnokfpojgmndmaaKit
import Derived.OwnWalk
import Derived.Laws.AppendOwnNone
namespace Go.Proofs.Ytnokfpojgmndmaa.kit
open Go.RowKit

/-- A slice value of n numbers of kind k, whose cells lie in a block below B, reads as l. -/
structure Nums (k : IntKind) (w : World) (B : Nat) (a : Option Addr) (n cap : Nat) (l : List Int) : Prop where
  len : l.length = n
  le : n ≤ cap
  max : cap ≤ maxLen
  nil : a = none → cap = 0
  cells : 0 < n → ∃ b off, a = some ⟨b, off, none⟩ ∧ b < B ∧ b < w.heap.size ∧ ∀ j, j < n → w.cell? ⟨b, off + j, none⟩ = some (.int k (l.getD j 0))

theorem Nums.below {k : IntKind} {w w' : World} {B : Nat} {a : Option Addr} {n cap : Nat} {l : List Int} (h : Nums k w B a n cap l) (hb : Below B w w') : Nums k w' B a n cap l :=
  ⟨h.len, h.le, h.max, h.nil, fun hp => by
    obtain ⟨b, off, ha, h1, h2, hc⟩ := h.cells hp
    exact ⟨b, off, ha, h1, Nat.lt_of_lt_of_le h2 hb.size, fun j hj => (hb.cell (by exact h1)).trans (hc j hj)⟩⟩
theorem Nums.mono {k : IntKind} {w : World} {B B' : Nat} {a : Option Addr} {n cap : Nat} {l : List Int} (h : Nums k w B a n cap l) (hB : B ≤ B') : Nums k w B' a n cap l :=
  ⟨h.len, h.le, h.max, h.nil, fun hp => by
    obtain ⟨b, off, ha, h1, h2, hc⟩ := h.cells hp
    exact ⟨b, off, ha, by omega, h2, hc⟩⟩
theorem Nums.drew {k : IntKind} {w : World} {B : Nat} {a : Option Addr} {n cap : Nat} {l : List Int} (h : Nums k w B a n cap l) : Nums k w.drew B a n cap l := h.below (Below.refl _ _).drew
theorem Nums.drewN {k : IntKind} {w : World} {B : Nat} {a : Option Addr} {n cap : Nat} {l : List Int} (h : Nums k w B a n cap l) (m : Nat) : Nums k (w.drewN m) B a n cap l := h.below (below_drewN (Below.refl _ _) m)
theorem Nums.empty {k : IntKind} {w : World} {B : Nat} {a : Option Addr} {cap : Nat} (hm : cap ≤ maxLen) (hn : a = none → cap = 0) : Nums k w B a 0 cap [] :=
  ⟨rfl, Nat.zero_le _, hm, hn, fun h => by omega⟩
theorem Nums.take {k : IntKind} {w : World} {B : Nat} {a : Option Addr} {n cap m : Nat} {l : List Int} (h : Nums k w B a n cap l) (hm : m ≤ n) : Nums k w B a m cap (l.take m) :=
  ⟨by rw [List.length_take, h.len]; omega, by have := h.le; omega, h.max, h.nil, fun hp => by
    obtain ⟨b, off, ha, h1, h2, hc⟩ := h.cells (by omega)
    refine ⟨b, off, ha, h1, h2, fun j hj => (hc j (by omega)).trans ?_⟩
    rw [List.getD_eq_getElem?_getD, List.getD_eq_getElem?_getD, List.getElem?_take_of_lt hj]⟩
theorem Nums.drop {k : IntKind} {w : World} {B : Nat} {a a' : Option Addr} {n cap m : Nat} {l : List Int} (h : Nums k w B a n cap l) (hm : m ≤ n)
    (hz : cap = m → a' = a) (hs : ¬ cap = m → a' = a.map (·.add m)) : Nums k w B a' (n - m) (cap - m) (l.drop m) := by
  have hle := h.le
  refine ⟨by rw [List.length_drop, h.len], by omega, Nat.le_trans (Nat.sub_le _ _) h.max, fun e => ?_, fun hp => ?_⟩
  · by_cases hc : cap = m
    · omega
    · rw [hs hc] at e
      have := h.nil (by cases a <;> simp_all)
      omega
  · obtain ⟨b, off, ha, h1, h2, hc⟩ := h.cells (by omega)
    refine ⟨b, off + m, by rw [hs (by omega), ha, Option.map_some, Addr.add_lit], h1, h2, fun j hj => ?_⟩
    rw [Nat.add_assoc, hc (m + j) (by omega)]
    rw [List.getD_eq_getElem?_getD, List.getD_eq_getElem?_getD, List.getElem?_drop]

/-- a slice written out -/
theorem nums_lit {w : World} {k : IntKind} {e : TypeId} {cs : Array Value} {n : Nat} (l : List Int) (hn : l.length = n) (hm : n ≤ maxLen) (h : cs = (l.map (Value.int k)).toArray) :
    Nums k (w.alloc (.cells cs e)) (w.heap.size + 1) (some ⟨w.heap.size, 0, none⟩) n n l := by
  subst h
  refine ⟨hn, Nat.le_refl _, hm, fun h => by (cases h), fun _ => ⟨_, 0, rfl, by omega, by simp, ?_⟩⟩
  intro j hj
  simp [go_sem, List.getElem?_eq_getElem (by omega : j < l.length)]
theorem nums_one {w : World} {k : IntKind} {e : TypeId} {x : Int} : Nums k (w.alloc (.cells #[.int k x] e)) (w.heap.size + 1) (some ⟨w.heap.size, 0, none⟩) 1 1 [x] :=
  nums_lit [x] rfl (show 1 ≤ maxLen by decide) rfl
theorem nums_two {w : World} {k : IntKind} {e : TypeId} {x y : Int} : Nums k (w.alloc (.cells #[.int k x, .int k y] e)) (w.heap.size + 1) (some ⟨w.heap.size, 0, none⟩) 2 2 [x, y] :=
  nums_lit [x, y] rfl (show 2 ≤ maxLen by decide) rfl
/-- what came in -/
theorem row_nums {k : IntKind} {w : World} {a : Option Addr} {len cap : Nat} {zs : List Int}
    (h : (a = none ∧ len = 0 ∧ cap = 0 ∧ zs = []) ∨
      ∃ x, a = some x ∧ len ≤ cap ∧ cap ≤ maxLen ∧ zs.length = cap ∧ (∀ i, i < zs.length → w.cell? (x.add i) = some (.int k (zs.getD i 0))) ∧ ∀ n ∈ zs, (Lit.int k n).wf = true) :
    ∃ l, Nums k w w.heap.size a len cap l ∧ ∀ n ∈ l, (Lit.int k n).wf = true := by
  refine ⟨zs.take len, ⟨?_, ?_, ?_, ?_, fun hp => ?_⟩, ?_⟩
  · have := row_len h; rw [List.length_take]; omega
  · exact (row_len h).1
  · exact (row_len h).2.1
  · rintro rfl; rcases h with ⟨_, _, h, _⟩ | ⟨x, h, _⟩
    · exact h
    · cases h
  · obtain ⟨b, off, ha, hb, hl, hc, _⟩ := row_at h hp
    refine ⟨b, off, ha, hb, hb, fun j hj => (hc j hj).trans ?_⟩
    rw [List.getD_eq_getElem?_getD, List.getD_eq_getElem?_getD, List.getElem?_take_of_lt hj]
  · intro n hn
    rcases h with ⟨_, rfl, _, rfl⟩ | ⟨x, _, _, _, _, _, hw⟩
    · simp at hn
    · exact hw n (List.mem_of_mem_take hn)

/-- The call's own row of numbers reads as a list, too. -/
theorem own_nums {k : IntKind} {w : World} {base : Nat} {e : TypeId} {a : Option Addr} {n cap : Nat} {l : List Int} (h : w.ownsRow base e 1 (.slice a n cap) n (l.map (Value.int k))) :
    Nums k w w.heap.size a n cap l := by
  obtain ⟨h1, h2⟩ := h
  have hl : l.length = n := by simpa using h1
  rcases h2 with ⟨hv, rfl⟩ | ⟨g, c, cur, hv, hbg, hg, hnc, hm, hcs, ht⟩
  · injection hv with h1 h2 h3; subst h1 h3
    exact ⟨hl, Nat.zero_le _, Nat.zero_le _, fun _ => rfl, fun h => by omega⟩
  · injection hv with h1 h2 h3; subst h1 h3
    refine ⟨hl, hnc, hm, (by intro h; cases h), fun hp => ⟨g, 0, rfl, ?_, ?_, fun j hj => ?_⟩⟩
    · exact (Array.getElem?_eq_some_iff.1 hg).1
    · exact (Array.getElem?_eq_some_iff.1 hg).1
    · have hown : w.ownsRow base e 1 (.slice (some ⟨g, 0, none⟩) n cap) n (l.map (Value.int k)) := ⟨by simpa using hl, .inr ⟨g, cap, cur, rfl, hbg, hg, hnc, hm, hcs, ht⟩⟩
      have := hown.cells (g := g) rfl j (.int k (l.getD j 0)) (by rw [List.getElem?_map, List.getD_eq_getElem?_getD, List.getElem?_eq_getElem (by omega)]; rfl)
      rw [Addr.add_lit] at this; exact this

theorem own_slice {w : World} {base : Nat} {e : TypeId} {size : Nat} {v : Value} {n : Nat} {xs : List Value} (h : w.ownsRow base e size v n xs) : ∃ a c, v = .slice a n c := by
  rcases h.2 with ⟨hv, hn⟩ | ⟨g, c, _, hv, _⟩
  · exact ⟨none, 0, by rw [hv, hn]⟩
  · exact ⟨_, c, hv⟩
/-- the rows that a value may turn lie from base on -/
theorem own_below {w0 w w' : World} {base : Nat} {e : TypeId} {size : Nat} {v : Value} {n : Nat} {xs : List Value} (h : w.ownsRow base e size v n xs) (hb : Below base w0 w) (hg : w.grownBy w' v.ownBlock) (hB : base ≤ w.heap.size) : Below base w0 w' :=
  hb.grown hg hB (fun k hk => (h.lt k hk).1)

/-- 'append(own, xs...)', whatever xs is: nil, empty or not. -/
theorem wpList_append_nums {P : Program} {w : World} {ops : Array Oper} {rest : List Oper} {o : Oper} {a : Act} {Q : Exit → Act → World → Prop} (hgd : o.guard = none) (s x : Operand) (t : TypeId)
    (ho : o.op = .call { callee := .builtin .append, args := #[s, x], argTypes := #[t, t] })
    (base : Nat) (e : TypeId) (i : TypeInfo) (z : Value) (bytes : Nat) (ht : P.underlying t = some (.slice e)) (hi : P.info? e = some i) (hz : i.zero = some z)
    (hsize : i.size = 1) (hby : i.bytes = bytes) (hzs : z.cells.size = 1) {k : IntKind}
    (v : Value) (n : Nat) (l : List Int) (hs : a.eval s = v) (hown : w.ownsRow base e 1 v n (l.map (Value.int k)))
    (ao : Option Addr) (m c B : Nat) (l2 : List Int) (hx : a.eval x = .slice ao m c) (hl : Nums k w B ao m c l2)
    (h63 : n + m ≤ maxLen) (hbytes : (n + m) * bytes ≤ 140737488355328) (hbase : base ≤ w.heap.size)
    (h : ∀ v' w', w'.ownsRow base e 1 v' (n + m) ((l ++ l2).map (Value.int k)) → w.grownBy w' v.ownBlock → wpList P ops Q rest (a.put o.dst v') w') : wpList P ops Q (o :: rest) a w := by
  cases ao with
  | none =>
    have hc := hl.nil rfl
    have hm : m = 0 := by have := hl.le; omega
    subst hc hm
    have h2 : l2 = [] := List.eq_nil_of_length_eq_zero hl.len
    subst h2
    refine wpList_append_own_none hgd s x t ho base e i 1 ht hi v n _ hs hown hx (h v w (by simpa using hown) (World.grownBy.refl _ _))
  | some ad =>
    refine wpList_append_own _ hgd s x t ho base e i z 1 bytes ht hi hz hsize hby hzs (by decide) v n _ hs hown ad m c (l2.map (Value.int k)) hx (by rw [List.length_map, hl.len]; omega) ?_ (ints_oneCell _ _) h63 hbytes hbase ?_
    · intro j u hu
      have hj : j < m := by have := (List.getElem?_eq_some_iff.1 hu).1; rw [List.length_map, hl.len] at this; exact this
      obtain ⟨b, off, ha, _, _, hc⟩ := hl.cells (by omega)
      obtain rfl := Option.some.inj ha
      rw [Addr.add_lit, hc j hj]
      rw [List.getElem?_map, List.getElem?_eq_getElem (by rw [hl.len]; exact hj)] at hu
      rw [List.getD_eq_getElem?_getD, List.getElem?_eq_getElem (by rw [hl.len]; exact hj)]
      exact hu
    · intro v' w' h1 h2 _
      exact h v' w' (by simpa using h1) h2
end Go.Proofs.Ytnokfpojgmndmaa.kit
