/- Datagrams as lists of numbers: what bytes say; the bytes of one; that one is the other's way back; one hop on. -/
import Derived.Test.YtidenjinagpphabSumMath
namespace Go.Proofs.Ytidenjinagpphab.ipm
open Go.Proofs.Ytidenjinagpphab.kit Go.Proofs.Ytidenjinagpphab.sm
set_option linter.unusedVariables false

structure Dg where
  t : Int
  ttl : Int
  pr : Int
  id : Int
  fr : Int
  src : Int
  dst : Int
  o : List Int
  d : List Int
def Dg.none : Dg := ⟨0, 0, 0, 0, 0, 0, 0, [], []⟩
def w2 (l : List Int) (k : Nat) : Int := 256 * l.getD k 0 + l.getD (k + 1) 0
def w4 (l : List Int) (k : Nat) : Int := 16777216 * l.getD k 0 + 65536 * l.getD (k + 1) 0 + 256 * l.getD (k + 2) 0 + l.getD (k + 3) 0
/-- how many bytes the head has, how many all -/
def hdL (l : List Int) : Nat := 4 * ((l.getD 0 0).toNat % 16)
def alL (l : List Int) : Nat := (w2 l 2).toNat
/-- why bytes are no datagram; 0: they are -/
def whyL (l : List Int) : Int :=
  if l.length < 20 then 10 else if l.getD 0 0 / 16 ≠ 4 ∨ hdL l < 20 ∨ alL l < hdL l then 11 else if l.length < alL l then 10 else if chk (l.take (hdL l)) ≠ 0 then 50 else 0
def dgL (l : List Int) : Dg := ⟨l.getD 1 0, l.getD 8 0, l.getD 9 0, w2 l 4, w2 l 6, w4 l 12, w4 l 16, (l.take (hdL l)).drop 20, (l.take (alL l)).drop (hdL l)⟩
def ipP (l : List Int) : Dg × Int := if whyL l = 0 then (dgL l, 0) else (Dg.none, whyL l)
theorem why_cases (l : List Int) : (l.length < 20 ∧ whyL l = 10) ∨ (¬ l.length < 20 ∧ (l.getD 0 0 / 16 ≠ 4 ∨ hdL l < 20 ∨ alL l < hdL l) ∧ whyL l = 11) ∨ (¬ l.length < 20 ∧ l.getD 0 0 / 16 = 4 ∧ 20 ≤ hdL l ∧ hdL l ≤ alL l ∧ l.length < alL l ∧ whyL l = 10) ∨
    (¬ l.length < 20 ∧ l.getD 0 0 / 16 = 4 ∧ 20 ≤ hdL l ∧ hdL l ≤ alL l ∧ alL l ≤ l.length ∧ chk (l.take (hdL l)) ≠ 0 ∧ whyL l = 50) ∨ (¬ l.length < 20 ∧ l.getD 0 0 / 16 = 4 ∧ 20 ≤ hdL l ∧ hdL l ≤ alL l ∧ alL l ≤ l.length ∧ chk (l.take (hdL l)) = 0 ∧ whyL l = 0) := by
  unfold whyL
  by_cases h1 : l.length < 20
  · left; exact ⟨h1, by rw [if_pos h1]⟩
  · right
    rw [if_neg h1]
    by_cases h2 : l.getD 0 0 / 16 ≠ 4 ∨ hdL l < 20 ∨ alL l < hdL l
    · left; exact ⟨h1, h2, by rw [if_pos h2]⟩
    · right
      rw [if_neg h2]
      have a1 : l.getD 0 0 / 16 = 4 := Decidable.byContradiction fun h => h2 (.inl h)
      have a2 : 20 ≤ hdL l := Nat.le_of_not_lt fun h => h2 (.inr (.inl h))
      have a3 : hdL l ≤ alL l := Nat.le_of_not_lt fun h => h2 (.inr (.inr h))
      by_cases h3 : l.length < alL l
      · left; exact ⟨h1, a1, a2, a3, h3, by rw [if_pos h3]⟩
      · right
        rw [if_neg h3]
        by_cases h4 : chk (l.take (hdL l)) ≠ 0
        · left; exact ⟨h1, a1, a2, a3, by omega, h4, by rw [if_pos h4]⟩
        · right; exact ⟨h1, a1, a2, a3, by omega, Decidable.byContradiction h4, by rw [if_neg h4]⟩
/-- a head's bytes, its checksum 0 -/
def head0 (D : Dg) : List Int :=
  [64 + ((20 + D.o.length : Nat) : Int) / 4, D.t, ((20 + D.o.length + D.d.length : Nat) : Int) / 256, ((20 + D.o.length + D.d.length : Nat) : Int) % 256, D.id / 256, D.id % 256, D.fr / 256, D.fr % 256, D.ttl, D.pr, 0, 0,
    D.src / 16777216, D.src / 65536 % 256, D.src / 256 % 256, D.src % 256, D.dst / 16777216, D.dst / 65536 % 256, D.dst / 256 % 256, D.dst % 256] ++ D.o
def sealL (l : List Int) (c : Nat) : List Int := word2 l 5 ((c : Int) / 256) ((c : Int) % 256)
def ipB (D : Dg) : List Int := sealL (head0 D) (chk (head0 D)) ++ D.d
def Dg.fits (D : Dg) : Prop := D.o.length ≤ 40 ∧ (20 + D.o.length) % 4 = 0
instance (D : Dg) : Decidable D.fits := inferInstanceAs (Decidable (_ ∧ _))
structure Dg.Ok (D : Dg) : Prop where
  t : 0 ≤ D.t ∧ D.t ≤ 255
  ttl : 0 ≤ D.ttl ∧ D.ttl ≤ 255
  pr : 0 ≤ D.pr ∧ D.pr ≤ 255
  id : 0 ≤ D.id ∧ D.id ≤ 65535
  fr : 0 ≤ D.fr ∧ D.fr ≤ 65535
  src : 0 ≤ D.src ∧ D.src ≤ 4294967295
  dst : 0 ≤ D.dst ∧ D.dst ≤ 4294967295
  o : Oct D.o
  d : Oct D.d
theorem head0_len (D : Dg) : (head0 D).length = 20 + D.o.length := by simp [head0]; omega
theorem head0_oct {D : Dg} (h : D.Ok) (ho : D.o.length ≤ 300) (hd : D.d.length ≤ 60000) : Oct (head0 D) := by
  intro x hx
  have h1 := h.t
  have h2 := h.ttl
  have h3 := h.pr
  have h4 := h.id
  have h5 := h.fr
  have h6 := h.src
  have h7 := h.dst
  unfold head0 at hx
  rcases List.mem_append.1 hx with hx | hx
  · simp only [List.mem_cons, List.not_mem_nil, or_false] at hx
    rcases hx with rfl | rfl | rfl | rfl | rfl | rfl | rfl | rfl | rfl | rfl | rfl | rfl | rfl | rfl | rfl | rfl | rfl | rfl | rfl | rfl <;> omega
  · exact h.o x hx
end Go.Proofs.Ytidenjinagpphab.ipm
