/- The mathematics of layer 20: how many packets may be under way. -/
namespace Go.Proofs.Ytlfcjfmfkmcmiaa.wm
/-- a number within bounds -/
def cutI (n lo hi : Int) : Int := if n < lo then lo else if hi < n then hi else n
theorem cut_in (n lo hi : Int) (h : lo ≤ hi) : lo ≤ cutI n lo hi ∧ cutI n lo hi ≤ hi := by unfold cutI; split <;> (try split) <;> omega
/-- how many may be, and how many were acked since it grew: most n, size s, count c -/
def In (n s c : Int) : Prop := 1 ≤ n ∧ n ≤ 16 ∧ 1 ≤ s ∧ s ≤ n ∧ 0 ≤ c ∧ c < s
def s1 (n s c : Int) : Int := if c + 1 = s then (if s < n then s + 1 else s) else s
def c1 (s c : Int) : Int := if c + 1 = s then 0 else c + 1
/-- k acks -/
def sR (n : Int) : Nat → Int → Int → Int
  | 0, s, _ => s
  | k + 1, s, c => sR n k (s1 n s c) (c1 s c)
def cR (n : Int) : Nat → Int → Int → Int
  | 0, _, c => c
  | k + 1, s, c => cR n k (s1 n s c) (c1 s c)
theorem in_ack (n s c : Int) (h : In n s c) : In n (s1 n s c) (c1 s c) := by
  unfold In s1 c1 at *; split <;> (try split) <;> omega
theorem in_acks (n s c : Int) (h : In n s c) (k : Nat) : In n (sR n k s c) (cR n k s c) := by
  induction k generalizing s c with
  | zero => exact h
  | succ k ih => exact ih _ _ (in_ack n s c h)
theorem sR_succ (n : Int) (k : Nat) (s c : Int) : sR n (k + 1) s c = s1 n (sR n k s c) (cR n k s c) := by
  induction k generalizing s c with
  | zero => rfl
  | succ k ih => show sR n (k + 1) (s1 n s c) (c1 s c) = _; rw [ih]; rfl
theorem cR_succ (n : Int) (k : Nat) (s c : Int) : cR n (k + 1) s c = c1 (sR n k s c) (cR n k s c) := by
  induction k generalizing s c with
  | zero => rfl
  | succ k ih => show cR n (k + 1) (s1 n s c) (c1 s c) = _; rw [ih]; rfl
/-- so many were acked, cut to 0 to 16 -/
def kOf (x : Int) : Nat := (cutI x 0 16).toNat
theorem kOf_le (x : Int) : kOf x ≤ 16 ∧ ((kOf x : Nat) : Int) = cutI x 0 16 := by have := cut_in x 0 16 (by omega); unfold kOf; omega
def sS (n s c x : Int) : Int := if x < 0 then (s + 1) / 2 else sR n (kOf x) s c
def cS (n s c x : Int) : Int := if x < 0 then 0 else cR n (kOf x) s c
theorem in_late (n s c : Int) (h : In n s c) : In n ((s + 1) / 2) 0 := by unfold In at *; omega
theorem in_step (n s c x : Int) (h : In n s c) : In n (sS n s c x) (cS n s c x) := by
  unfold sS cS; split
  · exact in_late n s c h
  · exact in_acks n s c h _
theorem in_new (m : Int) : In (cutI m 1 16) ((cutI m 1 16 + 1) / 2) 0 := by have := cut_in m 1 16 (by omega); unfold In; omega
/-! enough acks make it as great as may be -/
theorem up_all : (List.range 17).all (fun n => (List.range 17).all (fun s => (List.range 17).all (fun c => !(decide (1 ≤ n) && decide (1 ≤ s) && decide (s ≤ n) && decide (c < s)) || (decide ((s : Int) < sR n 16 s c) || decide (sR (n : Int) 16 s c = (n : Int)))))) = true := by decide +kernel
theorem up (n s c : Int) (h : In n s c) : s < sR n 16 s c ∨ sR n 16 s c = n := by
  obtain ⟨h1, h2, h3, h4, h5, h6⟩ := h
  have := List.all_eq_true.1 up_all n.toNat (List.mem_range.2 (by omega))
  have := List.all_eq_true.1 this s.toNat (List.mem_range.2 (by omega))
  have := List.all_eq_true.1 this c.toNat (List.mem_range.2 (by omega))
  rw [show ((n.toNat : Nat) : Int) = n by omega, show ((s.toNat : Nat) : Int) = s by omega, show ((c.toNat : Nat) : Int) = c by omega] at this
  have e1 : decide (1 ≤ n.toNat) = true := by simp; omega
  have e2 : decide (1 ≤ s.toNat) = true := by simp; omega
  have e3 : decide (s.toNat ≤ n.toNat) = true := by simp; omega
  have e4 : decide (c.toNat < s.toNat) = true := by simp; omega
  rw [e1, e2, e3, e4] at this
  simpa using this
/-- behind j times 16 acks it is as great as may be, or j greater at least -/
def Far (n : Int) (j : Nat) (s : Int) : Prop := s = n ∨ 1 + (j : Int) ≤ s
theorem far_start (n s c : Int) (h : In n s c) : Far n 0 s := by unfold In Far at *; omega
theorem far_step (n s c : Int) (h : In n s c) (j : Nat) (hf : Far n j s) : Far n (j + 1) (sR n 16 s c) := by
  have h1 := up n s c h
  have h2 := in_acks n s c h 16
  unfold Far In at *
  omega
theorem far_end (n s c : Int) (h : In n s c) (hf : Far n 20 s) : s = n := by unfold Far In at *; omega
end Go.Proofs.Ytlfcjfmfkmcmiaa.wm
