/- ip4: what was built is parsed as it was, whatever stands behind it. -/
import Derived.Test.YtidenjinagpphaaIp4Math
namespace Go.Proofs.Ytidenjinagpphaa.ipm
open Go.Proofs.Ytidenjinagpphaa.kit Go.Proofs.Ytidenjinagpphaa.sm
set_option linter.unusedVariables false
set_option linter.unusedSimpArgs false
set_option maxRecDepth 20000

def headC (D : Dg) (ck : Nat) : List Int :=
  [64 + ((20 + D.o.length : Nat) : Int) / 4, D.t, ((20 + D.o.length + D.d.length : Nat) : Int) / 256, ((20 + D.o.length + D.d.length : Nat) : Int) % 256, D.id / 256, D.id % 256, D.fr / 256, D.fr % 256, D.ttl, D.pr, (ck : Int) / 256, (ck : Int) % 256,
    D.src / 16777216, D.src / 65536 % 256, D.src / 256 % 256, D.src % 256, D.dst / 16777216, D.dst / 65536 % 256, D.dst / 256 % 256, D.dst % 256]
theorem seal_head (D : Dg) (ck : Nat) : sealL (head0 D) ck = headC D ck ++ D.o := by simp [sealL, word2, head0, headC]
theorem head0_word (D : Dg) : word2 (head0 D) 5 0 0 = head0 D := by simp [word2, head0]
theorem seal_right (D : Dg) : chk (sealL (head0 D) (chk (head0 D))) = 0 := by
  have h := sealed (head0 D) 5 (by rw [head0_len]; omega) ((chk (head0 D) : Int) / 256) ((chk (head0 D) : Int) % 256) (by rw [head0_word]; omega) (by rw [head0_word]; omega)
  rw [head0_word] at h
  exact h
theorem ip_back {D : Dg} (hok : D.Ok) (hf : D.fits) (hd : D.d.length ≤ 3000) (r : List Int) : ipP (ipB D ++ r) = (D, 0) := by
  obtain ⟨ck, hck⟩ : ∃ ck, ck = chk (head0 D) := ⟨_, rfl⟩
  have hr := seal_right D
  have e : ipB D ++ r = headC D ck ++ (D.o ++ (D.d ++ r)) := by unfold ipB; rw [← hck, seal_head]; simp
  rw [← hck, seal_head] at hr
  rw [e]
  obtain ⟨h1, h2⟩ := hf
  obtain ⟨no, hno⟩ : ∃ no, no = D.o.length := ⟨_, rfl⟩
  obtain ⟨nd, hnd⟩ : ∃ nd, nd = D.d.length := ⟨_, rfl⟩
  have i1 := hok.id
  have i2 := hok.fr
  have i3 := hok.src
  have i4 := hok.dst
  rw [← hno] at h1 h2
  rw [← hnd] at hd
  have hH : hdL (headC D ck ++ (D.o ++ (D.d ++ r))) = 20 + no := by
    unfold hdL headC; rw [← hno]; simp; omega
  have hA : alL (headC D ck ++ (D.o ++ (D.d ++ r))) = 20 + no + nd := by
    unfold alL w2 headC; rw [← hno, ← hnd]; simp; omega
  have hl : (headC D ck ++ (D.o ++ (D.d ++ r))).length = 20 + (no + (nd + r.length)) := by
    simp [headC]; omega
  have hc20 : (headC D ck).length = 20 := rfl
  have t1 : (headC D ck ++ (D.o ++ (D.d ++ r))).take (20 + no) = headC D ck ++ D.o := by
    rw [← List.append_assoc]; exact List.take_left' (by rw [List.length_append, hc20, hno])
  have hy : whyL (headC D ck ++ (D.o ++ (D.d ++ r))) = 0 := by
    unfold whyL
    rw [if_neg (by rw [hl]; omega), hH, hA, if_neg, if_neg (by rw [hl]; omega), t1, if_neg (by rw [hr]; decide)]
    intro h
    rcases h with h | h | h
    · apply h; unfold headC; rw [← hno]; simp; omega
    · omega
    · omega
  unfold ipP
  rw [if_pos hy]
  congr 1
  have t2 : ((headC D ck ++ (D.o ++ (D.d ++ r))).take (20 + no)).drop 20 = D.o := by rw [t1]; exact List.drop_left' hc20
  have t3 : ((headC D ck ++ (D.o ++ (D.d ++ r))).take (20 + no + nd)).drop (20 + no) = D.d := by
    have e2 : headC D ck ++ (D.o ++ (D.d ++ r)) = (headC D ck ++ D.o ++ D.d) ++ r := by simp
    rw [e2, List.take_left' (by rw [List.length_append, List.length_append, hc20, hno, hnd])]
    exact List.drop_left' (by rw [List.length_append, hc20, hno])
  unfold dgL
  rw [hH, hA, t2, t3]
  cases D with
  | mk t ttl pr id fr src dst o d =>
    simp only [headC, w2, w4, List.cons_append, List.nil_append, List.getD_cons_zero, List.getD_cons_succ]
    simp only at i1 i2 i3 i4
    congr 1 <;> omega
end Go.Proofs.Ytidenjinagpphaa.ipm
