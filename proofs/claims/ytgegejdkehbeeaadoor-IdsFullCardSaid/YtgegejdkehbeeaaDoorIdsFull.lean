/- Where all but a few are given out: the arithmetic. -/
import Derived.Test.YtgegejdkehbeeaaDoorIdsLaid
import Derived.Test.YtgegejdkehbeeaaDoorIdsIdx
import Derived.Test.YtgegejdkehbeeaaDoorOpen
import Derived.Deep.DeepCutAuto
import Derived.LoopTactic
import Derived.StillTailTactics
namespace Go.Proofs.YtgegejdkehbeeaaDoor.idf
open Go.RowKit
set_option linter.unusedVariables false
set_option linter.unusedSimpArgs false
open Go.Proofs.YtgegejdkehbeeaaDoor.kit Go.Proofs.YtgegejdkehbeeaaDoor.pop Go.Proofs.YtgegejdkehbeeaaDoor.idc Go.Proofs.YtgegejdkehbeeaaDoor.idx
/-- is a number one of those that stay free -/
def inL (l : List Int) (m : Nat) : Bool := decide (1 ≤ m ∧ (m : Int) ∈ l)
/-- how many of those below n stay free -/
def mu (l : List Int) (n : Nat) : Nat := pc (inL l) n
/-- the set behind the numbers below n -/
def Filled (W : Nat → Nat) (l : List Int) (n : Nat) : Prop := ∀ m, m < 65536 → tk W m = (decide (1 ≤ m ∧ m < n) && !(inL l m))
theorem filled_none (l : List Int) : Filled (fun _ => 0) l 1 := fun m _ => by rw [tk_none]; symm; simp; omega
theorem filled_in {W : Nat → Nat} {l : List Int} {n : Nat} (h : Filled W l n) (hn : 1 ≤ n) (hl : (n : Int) ∈ l) : Filled W l (n + 1) := fun m hm => by
  rw [h m hm]
  by_cases e : m = n
  · subst e; simp [inL, hl, hn]
  · have : (m < n + 1) ↔ m < n := by omega
    simp [this]
theorem filled_out {W : Nat → Nat} {l : List Int} {n : Nat} (h : Filled W l n) (hn : 1 ≤ n) (hl : (n : Int) ∉ l) : Filled (took W n) l (n + 1) := fun m hm => by
  rw [tk_took]
  unfold upd
  by_cases e : m = n
  · subst e; simp [inL, hl, hn]
  · rw [if_neg e, h m hm]
    have : (m < n + 1) ↔ m < n := by omega
    simp [this]
theorem filled_at {W : Nat → Nat} {l : List Int} {n : Nat} (h : Filled W l n) (hn : n < 65536) : tk W n = false := by rw [h n hn]; simp
theorem mu_in {l : List Int} {n : Nat} (hn : 1 ≤ n) (hl : (n : Int) ∈ l) : mu l (n + 1) = mu l n + 1 := by
  have : inL l n = true := by simp [inL, hn, hl]
  show pc (inL l) n + (inL l n).toNat = _; rw [this]; rfl
theorem mu_out {l : List Int} {n : Nat} (hl : (n : Int) ∉ l) : mu l (n + 1) = mu l n := by
  have : inL l n = false := by simp [inL, hl]
  show pc (inL l) n + (inL l n).toNat = _; rw [this]; rfl
theorem mu_le (l : List Int) (n : Nat) : mu l n ≤ n := pc_le _ _
/-- where a number comes, going round -/
def key (fr m : Nat) : Nat := if m < fr then m + 65536 else m
structure LeftIds (W : Nat → Nat) (l : List Int) (fr : Nat) (last : Int) (c : Nat) : Prop where
  zero : tk W 0 = false
  mem : ∀ m, 1 ≤ m → m < 65536 → tk W m = false → (m : Int) ∈ l ∧ last < (key fr m : Nat)
  cnt : pc (tk W) 65536 + c = 65535
theorem pc_split {f g : Nat → Bool} (N : Nat) (h0 : f 0 = false) (g0 : g 0 = false) (h : ∀ m, 1 ≤ m → m < N → f m = !(g m)) : ∀ n, 1 ≤ n → n ≤ N → pc f n + pc g n + 1 = n
  | 0, h1, _ => by omega
  | 1, _, _ => by simp [pc, h0, g0]
  | n + 2, _, hn => by
    have ih := pc_split N h0 g0 h (n + 1) (by omega) (by omega)
    have e := h (n + 1) (by omega) (by omega)
    show pc f (n + 1) + (f (n + 1)).toNat + (pc g (n + 1) + (g (n + 1)).toNat) + 1 = n + 2
    rw [e]; cases g (n + 1) <;> simp <;> omega
theorem left_start {W : Nat → Nat} {l : List Int} {fr N : Nat} (hN : N = 65536) (h : Filled W l N) : LeftIds W l fr (-1) (mu l N) := by
  subst hN
  refine ⟨by rw [h 0 (by omega)]; rfl, fun m h1 h2 ht => ?_, ?_⟩
  · rw [h m h2] at ht
    have : inL l m = true := by simpa [h1, h2] using ht
    unfold inL at this
    exact ⟨(of_decide_eq_true this).2, by omega⟩
  · have := pc_split (f := tk W) (g := inL l) 65536 (by rw [h 0 (by omega)]; rfl) (by simp [inL]) (fun m h1 h2 => by rw [h m h2]; simp [h1, h2]) 65536 (by omega) (by omega)
    show pc (tk W) 65536 + pc (inL l) 65536 = 65535
    omega
theorem least (f : Nat → Bool) (lo : Nat) : ∀ hi, (∃ m, lo ≤ m ∧ m < hi ∧ f m = false) → ∃ n, lo ≤ n ∧ n < hi ∧ f n = false ∧ ∀ m, lo ≤ m → m < n → f m = true
  | 0, ⟨m, _, h, _⟩ => by omega
  | hi + 1, ⟨m, h1, h2, h3⟩ => by
    by_cases e : ∃ m, lo ≤ m ∧ m < hi ∧ f m = false
    · obtain ⟨n, a, b, c, d⟩ := least f lo hi e
      exact ⟨n, a, by omega, c, d⟩
    · have all : ∀ m, lo ≤ m → m < hi → f m = true := fun m a b => by
        cases hf : f m with
        | true => rfl
        | false => exact absurd ⟨m, a, b, hf⟩ e
      have : m = hi := by
        rcases Nat.lt_or_ge m hi with h | h
        · rw [all m h1 h] at h3; cases h3
        · omega
      subst this
      exact ⟨m, h1, h2, h3, all⟩
theorem all_or (f : Nat → Bool) (lo hi : Nat) : (∃ m, lo ≤ m ∧ m < hi ∧ f m = false) ∨ ∀ m, lo ≤ m → m < hi → f m = true := by
  by_cases e : ∃ m, lo ≤ m ∧ m < hi ∧ f m = false
  · exact .inl e
  · exact .inr fun m a b => by
      cases hf : f m with
      | true => rfl
      | false => exact absurd ⟨m, a, b, hf⟩ e
theorem pc_rest {f : Nat → Bool} (N : Nat) (h0 : f 0 = false) (hN : 1 ≤ N) (h : ∀ m, 1 ≤ m → m < N → f m = true) : pc f N + 1 = N := by
  have := pc_split (f := f) (g := fun _ => false) N h0 rfl (fun m a b => by rw [h m a b]; rfl) N hN (Nat.le_refl _)
  rw [pc_none (f := fun _ => false) (fun _ _ => rfl)] at this; omega
theorem left_end {W : Nat → Nat} {l : List Int} {fr : Nat} {last : Int} (h : LeftIds W l fr last 0) : ∀ m, 1 ≤ m → m < 65536 → tk W m = true := by
  rcases all_or (tk W) 1 65536 with ⟨m, h1, h2, h3⟩ | h4
  · exfalso
    have u := pc_upd (tk W) m true 65536
    rw [if_pos h2, if_pos h2, h3] at u
    have z := pc_upd (upd (tk W) m true) 0 true 65536
    rw [if_pos (by omega), if_pos (by omega)] at z
    have z0 : upd (tk W) m true 0 = false := by unfold upd; rw [if_neg (by omega)]; exact h.zero
    rw [z0] at z
    have := pc_le (upd (upd (tk W) m true) 0 true) 65536
    have := h.cnt
    simp at u z
    omega
  · exact h4
theorem left_more {W : Nat → Nat} {l : List Int} {fr c : Nat} {last : Int} (h : LeftIds W l fr last (c + 1)) : ∃ m, 1 ≤ m ∧ m < 65536 ∧ tk W m = false := by
  rcases all_or (tk W) 1 65536 with h1 | h4
  · exact h1
  · have := pc_rest 65536 h.zero (by omega) h4
    have := h.cnt; omega
/-- the next one: the first free, going round -/
theorem left_next {W : Nat → Nat} {l : List Int} {fr c : Nat} {last : Int} (h : LeftIds W l fr last (c + 1)) : ∃ n, 1 ≤ n ∧ n < 65536 ∧ tk W n = false ∧ LeftIds (took W n) l fr (key fr n : Nat) c ∧
    ((max fr 1 ≤ n ∧ ∀ m, max fr 1 ≤ m → m < n → tk W m = true) ∨ ((∀ m, max fr 1 ≤ m → m < 65536 → tk W m = true) ∧ ∀ m, 1 ≤ m → m < n → tk W m = true)) := by
  have nxt : ∀ n, 1 ≤ n → n < 65536 → tk W n = false → (∀ m, 1 ≤ m → m < 65536 → tk W m = false → m ≠ n → key fr n < key fr m) → LeftIds (took W n) l fr (key fr n : Nat) c := fun n h1 h2 h3 h4 => by
    refine ⟨by rw [tk_took]; unfold upd; rw [if_neg (by omega)]; exact h.zero, fun m a b ht => ?_, ?_⟩
    · rw [tk_took] at ht
      unfold upd at ht
      by_cases e : m = n
      · rw [if_pos e] at ht; cases ht
      · rw [if_neg e] at ht
        exact ⟨(h.mem m a b ht).1, by have := h4 m a b ht e; omega⟩
    · have u := pc_upd (tk W) n true 65536
      rw [if_pos h2, if_pos h2, h3] at u
      have := h.cnt
      rw [tk_took]; simp at u; omega
  rcases all_or (tk W) (max fr 1) 65536 with h1 | h1
  · obtain ⟨n, a, b, d, e⟩ := least (tk W) (max fr 1) 65536 h1
    refine ⟨n, by omega, b, d, nxt n (by omega) b d (fun m m1 m2 m3 m4 => ?_), .inl ⟨a, e⟩⟩
    unfold key; rw [if_neg (by omega)]
    split
    · omega
    · have : ¬ m < n := fun hlt => by rw [e m (by omega) hlt] at m3; cases m3
      omega
  · obtain ⟨n, a, b, d, e⟩ := least (tk W) 1 65536 (left_more h)
    refine ⟨n, a, b, d, nxt n a b d (fun m m1 m2 m3 m4 => ?_), .inr ⟨h1, e⟩⟩
    have k1 : ∀ x, 1 ≤ x → x < 65536 → tk W x = false → x < fr := fun x x1 x2 x3 => by
      rcases Nat.lt_or_ge x fr with hx | hx
      · exact hx
      · rw [h1 x (by omega) x2] at x3; cases x3
    unfold key; rw [if_pos (k1 n a b d), if_pos (k1 m m1 m2 m3)]
    have : ¬ m < n := fun hlt => by rw [e m m1 hlt] at m3; cases m3
    omega
theorem fresh_of2 {g : Nat} {W : Nat → Nat} (from_ n : Nat) (hf : from_ < 65536) (w : World)
    (hK : Calls Tryd.prog 36 #[.pointer (some ⟨g, 0, none⟩), .int .u16 n] w fun e w' => e = .returned (.bool true) ∧ Turned w w' g (took W n))
    (hF : 1 ≤ from_ ∧ Calls Tryd.prog 60 #[.pointer (some ⟨g, 0, none⟩), .int .u16 from_] w fun e w' => e = .returned (.tuple #[.int .u16 0, .bool false]) ∧ w' = w)
    (hF2 : Calls Tryd.prog 60 #[.pointer (some ⟨g, 0, none⟩), .int .u16 (1 : Int)] w fun e w' => e = .returned (.tuple #[.int .u16 n, .bool true]) ∧ w' = w) :
    Calls Tryd.prog 37 #[.pointer (some ⟨g, 0, none⟩), .int .u16 from_] w fun e w' => e = .returned (.tuple #[.int .u16 n, .bool true]) ∧ Turned w w' g (took W n) := by
  have HK := hid hK
  have HF := hid hF.2
  have HF2 := hid hF2
  have h1 : (1 : Int) ≤ from_ := by have := hF.1; omega
  clear hF hK hF2
  go_enter Tryd.func37, Tryd.ntmps37
  go_wp2_with (first | (go_at_call 60; first | (with_reducible refine HF.out.mono ?_; rintro e w' ⟨rfl, rfl⟩) | (with_reducible refine HF2.out.mono ?_; rintro e w' ⟨rfl, rfl⟩)) | (go_at_call 36; with_reducible refine HK.out.mono ?_; rintro e w1 ⟨rfl, hTu⟩))
  go_ret2
  exact ⟨rfl, by assumption⟩
end Go.Proofs.YtgegejdkehbeeaaDoor.idf
