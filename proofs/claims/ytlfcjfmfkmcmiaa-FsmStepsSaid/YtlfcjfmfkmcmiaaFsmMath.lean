/- The automaton as a table: of each event what each state becomes, and what is done. -/
namespace Go.Proofs.Ytlfcjfmfkmcmiaa.fm
def tab : List (List (Int × Int)) := [
  [(2, 0), (6, 80), (2, 0), (3, 0), (4, 0), (5, 0), (6, 0), (7, 0), (8, 0), (9, 0)],
  [(0, 0), (1, 0), (0, 0), (1, 4), (0, 0), (1, 0), (1, 0), (1, 0), (1, 0), (1, 2)],
  [(1, 4), (1, 0), (6, 80), (3, 0), (5, 0), (5, 0), (6, 0), (7, 0), (8, 0), (9, 0)],
  [(0, 0), (0, 8), (2, 0), (2, 0), (4, 0), (4, 0), (4, 528), (4, 528), (4, 528), (4, 530)],
  [(0, 0), (1, 0), (2, 0), (3, 0), (4, 512), (5, 512), (6, 64), (6, 64), (8, 64), (9, 0)],
  [(0, 0), (1, 0), (2, 0), (3, 0), (2, 8), (3, 8), (3, 8), (3, 8), (3, 8), (9, 0)],
  [(0, 0), (1, 0), (2, 1024), (8, 208), (4, 0), (5, 0), (8, 128), (9, 129), (8, 128), (8, 194)],
  [(0, 0), (1, 0), (2, 1024), (6, 336), (4, 0), (5, 0), (6, 256), (7, 256), (6, 256), (6, 322)],
  [(0, 0), (1, 0), (2, 1024), (3, 1024), (4, 0), (5, 0), (7, 16), (6, 64), (9, 17), (6, 66)],
  [(0, 0), (1, 0), (2, 1024), (3, 1024), (4, 0), (5, 0), (6, 80), (6, 64), (8, 80), (6, 66)],
  [(0, 0), (1, 0), (2, 1024), (3, 1024), (4, 1024), (5, 1024), (6, 1024), (6, 1024), (6, 1024), (5, 1058)],
  [(0, 0), (1, 0), (2, 0), (3, 0), (2, 8), (3, 8), (6, 0), (6, 0), (8, 0), (6, 66)],
  [(0, 0), (1, 0), (2, 2048), (3, 2048), (4, 2048), (5, 2048), (6, 2048), (7, 2048), (8, 2048), (9, 2048)],
  [(0, 0), (1, 0), (2, 0), (3, 0), (4, 0), (5, 0), (6, 0), (6, 0), (8, 0), (9, 0)],
  [(0, 0), (1, 0), (2, 8), (3, 8), (2, 8), (3, 8), (3, 8), (3, 8), (3, 8), (5, 530)],
  [(0, 0), (1, 0), (2, 0), (3, 0), (4, 0), (5, 0), (6, 0), (7, 0), (8, 0), (9, 4096)]]
/-- what state s becomes by event e -/
def toI (s e : Int) : Int := if 0 ≤ s ∧ s ≤ 9 ∧ 0 ≤ e ∧ e ≤ 15 then ((tab.getD e.toNat []).getD s.toNat (s, 0)).1 else s
/-- what is done -/
def actI (s e : Int) : Int := if 0 ≤ s ∧ s ≤ 9 ∧ 0 ≤ e ∧ e ≤ 15 then ((tab.getD e.toNat []).getD s.toNat (s, 0)).2 else 0
/-- is one of some actions in a set? -/
def hasI (a m : Int) : Bool := (a.toNat &&& m.toNat) != 0
theorem to_bd (s e : Int) (h : 0 ≤ s ∧ s ≤ 9) : 0 ≤ toI s e ∧ toI s e ≤ 9 := by
  unfold toI
  split
  · next h =>
    have : (List.range 10).all (fun s => (List.range 16).all fun e => decide (0 ≤ ((tab.getD e []).getD s ((s : Int), 0)).1) && decide (((tab.getD e []).getD s ((s : Int), 0)).1 ≤ 9)) = true := by decide +kernel
    have := List.all_eq_true.1 this s.toNat (List.mem_range.2 (by omega))
    have := List.all_eq_true.1 this e.toNat (List.mem_range.2 (by omega))
    rw [show ((s.toNat : Nat) : Int) = s by omega] at this
    simpa using this
  · omega
theorem act_bd (s e : Int) : 0 ≤ actI s e ∧ actI s e ≤ 8191 := by
  unfold actI
  split
  · next h =>
    have : (List.range 10).all (fun s => (List.range 16).all fun e => decide (0 ≤ ((tab.getD e []).getD s ((s : Int), 0)).2) && decide (((tab.getD e []).getD s ((s : Int), 0)).2 ≤ 8191)) = true := by decide +kernel
    have := List.all_eq_true.1 this s.toNat (List.mem_range.2 (by omega))
    have := List.all_eq_true.1 this e.toNat (List.mem_range.2 (by omega))
    rw [show ((s.toNat : Nat) : Int) = s by omega] at this
    simpa using this
  · omega
/-- LayerUp just where Opened is reached, LayerDown just where it is left -/
theorem ups (s e : Int) : hasI (actI s e) 1 = ((s != 9) && (toI s e == 9)) ∧ hasI (actI s e) 2 = ((s == 9) && (toI s e != 9)) := by
  by_cases h : 0 ≤ s ∧ s ≤ 9 ∧ 0 ≤ e ∧ e ≤ 15
  · have : (List.range 10).all (fun s => (List.range 16).all fun e => (hasI (actI s e) 1 == (((s : Int) != 9) && (toI s e == 9))) && (hasI (actI s e) 2 == (((s : Int) == 9) && (toI s e != 9)))) = true := by decide +kernel
    have := List.all_eq_true.1 this s.toNat (List.mem_range.2 (by omega))
    have := List.all_eq_true.1 this e.toNat (List.mem_range.2 (by omega))
    rw [show ((s.toNat : Nat) : Int) = s by omega, show ((e.toNat : Nat) : Int) = e by omega] at this
    simpa using this
  · unfold actI toI
    rw [if_neg h, if_neg h]
    have e1 : hasI 0 1 = false := by decide
    have e2 : hasI 0 2 = false := by decide
    rw [e1, e2]
    by_cases h9 : s = 9
    · subst h9; simp
    · simp [h9]
/-! two that ack each other -/
def saidI (l : List Int) (a : Int) : List Int := l ++ ((if hasI a 64 then [6] else []) ++ (if hasI a 128 then [8] else []))
/-- all that there may be, how many steps are left at most -/
def allT : List ((Int × Int × List Int × List Int) × Nat) := [((6, 6, [6], [6]), 4), ((8, 6, [], [6, 8]), 3), ((6, 8, [6, 8], []), 3), ((8, 8, [8], [8]), 2), ((9, 8, [], [8]), 1), ((8, 9, [8], []), 1), ((9, 9, [], []), 0)]
def May (a b : Int) (la lb : List Int) (r : Nat) : Prop := ((a, b, la, lb), r) ∈ allT
theorem may_a (a b e : Int) (l lb : List Int) (r : Nat) (h : May a b (e :: l) lb r) : ∃ r', r' < r ∧ May (toI a e) b l (saidI lb (actI a e)) r' := by
  unfold May allT at *
  simp only [List.mem_cons, List.not_mem_nil, or_false, Prod.mk.injEq, List.cons.injEq, reduceCtorEq, false_and, and_false, or_false, false_or] at h
  rcases h with ⟨⟨rfl, rfl, ⟨rfl, rfl⟩, rfl⟩, rfl⟩ | ⟨⟨rfl, rfl, ⟨rfl, rfl⟩, rfl⟩, rfl⟩ | ⟨⟨rfl, rfl, ⟨rfl, rfl⟩, rfl⟩, rfl⟩ | ⟨⟨rfl, rfl, ⟨rfl, rfl⟩, rfl⟩, rfl⟩
  · exact ⟨3, by omega, by decide⟩
  · exact ⟨2, by omega, by decide⟩
  · exact ⟨1, by omega, by decide⟩
  · exact ⟨0, by omega, by decide⟩
theorem may_b (a b e : Int) (l la : List Int) (r : Nat) (h : May a b la (e :: l) r) : ∃ r', r' < r ∧ May a (toI b e) (saidI la (actI b e)) l r' := by
  unfold May allT at *
  simp only [List.mem_cons, List.not_mem_nil, or_false, Prod.mk.injEq, List.cons.injEq, reduceCtorEq, false_and, and_false, or_false, false_or] at h
  rcases h with ⟨⟨rfl, rfl, rfl, ⟨rfl, rfl⟩⟩, rfl⟩ | ⟨⟨rfl, rfl, rfl, ⟨rfl, rfl⟩⟩, rfl⟩ | ⟨⟨rfl, rfl, rfl, ⟨rfl, rfl⟩⟩, rfl⟩ | ⟨⟨rfl, rfl, rfl, ⟨rfl, rfl⟩⟩, rfl⟩
  · exact ⟨3, by omega, by decide⟩
  · exact ⟨2, by omega, by decide⟩
  · exact ⟨1, by omega, by decide⟩
  · exact ⟨0, by omega, by decide⟩
theorem may_end (a b : Int) (r : Nat) (h : May a b [] [] r) : a = 9 ∧ b = 9 := by
  unfold May allT at *
  simp at h
  exact ⟨h.1.1, h.1.2⟩
theorem may_bd (a b : Int) (la lb : List Int) (r : Nat) (h : May a b la lb r) : la.length ≤ 4 ∧ lb.length ≤ 4 ∧ r ≤ 4 ∧ 0 ≤ a ∧ a ≤ 9 ∧ 0 ≤ b ∧ b ≤ 9 := by
  unfold May allT at *
  simp only [List.mem_cons, List.not_mem_nil, or_false, Prod.mk.injEq] at h
  rcases h with ⟨⟨rfl, rfl, rfl, rfl⟩, rfl⟩ | ⟨⟨rfl, rfl, rfl, rfl⟩, rfl⟩ | ⟨⟨rfl, rfl, rfl, rfl⟩, rfl⟩ | ⟨⟨rfl, rfl, rfl, rfl⟩, rfl⟩ | ⟨⟨rfl, rfl, rfl, rfl⟩, rfl⟩ | ⟨⟨rfl, rfl, rfl, rfl⟩, rfl⟩ | ⟨⟨rfl, rfl, rfl, rfl⟩, rfl⟩ <;> decide
theorem may_start : May (toI 2 2) (toI 2 2) (saidI [] (actI 2 2)) (saidI [] (actI 2 2)) 4 := by unfold May; decide
end Go.Proofs.Ytlfcjfmfkmcmiaa.fm
