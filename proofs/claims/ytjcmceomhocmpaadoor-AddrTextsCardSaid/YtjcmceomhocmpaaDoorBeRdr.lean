/- The contracts of be's Reader, and of the document's own: what is read, and what is left. -/
import Derived.Test.YtjcmceomhocmpaaDoorBe
import Derived.Laws.BitsAllLaws
namespace Go.Proofs.YtjcmceomhocmpaaDoor.bec
open Go.RowKit
open Go.Proofs.YtjcmceomhocmpaaDoor.kit
set_option linter.unusedVariables false

/-- A reader at block g: what is left, in blocks below D; whether it is bad. -/
structure RdrAt (w : World) (g D : Nat) (bad : Bool) (l : List Int) : Prop where
  left : ∃ a n cap, w.cell? ⟨g, 0, none⟩ = some (.slice a n cap) ∧ Nums .u8 w D a n cap l
  isBad : w.cell? ⟨g, 1, none⟩ = some (.bool bad)
  f0 : w.frozen? ⟨g, 0, none⟩ = false
  f1 : w.frozen? ⟨g, 1, none⟩ = false
  lt : g < w.heap.size
  dle : D ≤ g

theorem RdrAt.below {w w' : World} {g D B : Nat} {bad : Bool} {l : List Int} (h : RdrAt w g D bad l) (hb : Below B w w') (hg : g < B) : RdrAt w' g D bad l := by
  obtain ⟨⟨a, n, cap, hc, hn⟩, h1, h2, h3, h4, h5⟩ := h
  exact ⟨⟨a, n, cap, (hb.cell (p := ⟨g, 0, none⟩) hg).trans hc, hn.below (hb.mono (by omega))⟩, (hb.cell (p := ⟨g, 1, none⟩) hg).trans h1, (hb.frozen (p := ⟨g, 0, none⟩) hg).trans h2, (hb.frozen (p := ⟨g, 1, none⟩) hg).trans h3, Nat.lt_of_lt_of_le h4 hb.size, h5⟩
theorem RdrAt.other {w w' : World} {g g' D : Nat} {bad : Bool} {l : List Int} (h : RdrAt w g D bad l) (hb : w.grownBy w' (some g')) (hg : g' ≠ g) (hD : D ≤ g') : RdrAt w' g D bad l := by
  obtain ⟨⟨a, n, cap, hc, hn⟩, h1, h2, h3, h4, h5⟩ := h
  have hB : Below D w w' := gb_below (Below.refl _ _) hb (by omega) hD
  exact ⟨⟨a, n, cap, gb_cell hb hc (by simpa using fun h => hg h.symm), hn.below hB⟩, gb_cell hb h1 (by simpa using fun h => hg h.symm), (gb_frozen hb (p := ⟨g, 0, none⟩) h4 (by simpa using fun h => hg h.symm)).trans h2,
    (gb_frozen hb (p := ⟨g, 1, none⟩) h4 (by simpa using fun h => hg h.symm)).trans h3, Nat.lt_of_lt_of_le h4 hb.size, h5⟩
theorem RdrAt.drewN {w : World} {g D : Nat} {bad : Bool} {l : List Int} (h : RdrAt w g D bad l) (k : Nat) : RdrAt (w.drewN k) g D bad l :=
  h.below (below_drewN (Below.refl (g + 1) _) k) (Nat.lt_succ_self _)
theorem RdrAt.made {w : World} {a : Option Addr} {n cap : Nat} {e : TypeId} {l : List Int} (h : Nums .u8 w w.heap.size a n cap l) :
    RdrAt (w.alloc (.cells #[.slice a n cap, .bool false] e)) w.heap.size w.heap.size false l :=
  ⟨⟨a, n, cap, by simp [go_sem], h.below ((Below.refl _ _).alloc (Nat.le_refl _) _)⟩, by simp [go_sem], by simp [go_sem], by simp [go_sem], by simp, Nat.le_refl _⟩
theorem RdrAt.setBad {w : World} {g D : Nat} {bad : Bool} {l : List Int} (h : RdrAt w g D bad l) (b : Bool) :
    RdrAt (w.setCell ⟨g, 1, none⟩ (.bool b)) g D b l := by
  obtain ⟨⟨a, n, cap, hc, hn⟩, h1, h2, h3, h4, h5⟩ := h
  exact ⟨⟨a, n, cap, cell_other hc (by decide), hn.below ((Below.refl _ _).setCell h5 _)⟩, cell_same h1, frozen_set h2, frozen_set h3, by simpa [World.setCell] using h4, h5⟩
theorem RdrAt.setLeft {w : World} {g D : Nat} {bad : Bool} {l l' : List Int} {a : Option Addr} {n cap : Nat} (h : RdrAt w g D bad l) (hl : Nums .u8 w D a n cap l') :
    RdrAt (w.setCell ⟨g, 0, none⟩ (.slice a n cap)) g D bad l' := by
  obtain ⟨⟨_, _, _, hc, hn⟩, h1, h2, h3, h4, h5⟩ := h
  exact ⟨⟨a, n, cap, cell_same hc, hl.below ((Below.refl _ _).setCell h5 _)⟩, cell_other h1 (by decide), frozen_set h2, frozen_set h3, by simpa [World.setCell] using h4, h5⟩

/-- is there enough? -/
def okR (bad : Bool) (l : List Int) (m : Int) : Bool := !bad && decide (0 ≤ m ∧ m ≤ l.length)
def gotR (bad : Bool) (l : List Int) (m : Int) : List Int := if okR bad l m then l.take m.toNat else []
def leftR (bad : Bool) (l : List Int) (m : Int) : List Int := if okR bad l m then l.drop m.toNat else l

/-- what a reader's turn leaves -/
def NextPost (g D : Nat) (bad : Bool) (l : List Int) (m : Int) (w : World) (v : Value) (w' : World) : Prop :=
  ∃ a n c, v = .slice a n c ∧ Nums .u8 w' D a n c (gotR bad l m) ∧ RdrAt w' g D (!okR bad l m) (leftR bad l m) ∧ w.grownBy w' (some g)

theorem next_end_no {w : World} {g D : Nat} {bad : Bool} {l : List Int} {m : Int} (h : RdrAt w g D bad l) (hok : okR bad l m = false) :
    NextPost g D bad l m w (.slice none 0 0) (w.setCell ⟨g, 1, none⟩ (.bool true)) := by
  refine ⟨none, 0, 0, rfl, ?_, ?_, gb_setCell (World.grownBy.refl _ _) rfl _⟩
  · unfold gotR; rw [hok]; exact Nums.empty (Nat.zero_le _) (fun _ => rfl)
  · unfold leftR; rw [hok]; exact h.setBad true
theorem next_end_yes {w : World} {g D : Nat} {l : List Int} {m : Nat} {a a1 a2 : Option Addr} {n cap cap1 : Nat} (h : RdrAt w g D false l) (hn : Nums .u8 w D a n cap l) (hm : m ≤ n) (h1 : a1 = a) (hc1 : cap1 = cap)
    (h2 : cap = m → a2 = a) (h3 : ¬ cap = m → a2 = a.map (·.add m)) :
    NextPost g D false l m w (.slice a1 m cap1) (w.setCell ⟨g, 0, none⟩ (.slice a2 (n - m) (cap - m))) := by
  subst h1 hc1
  have hok : okR false l m = true := by unfold okR; simp; rw [hn.len]; omega
  refine ⟨a1, m, cap1, rfl, ?_, ?_, gb_setCell (World.grownBy.refl _ _) rfl _⟩
  · unfold gotR; rw [hok]; exact (hn.take hm).below ((Below.refl _ _).setCell h.dle _)
  · unfold leftR; rw [hok]; exact h.setLeft (hn.drop hm h2 h3)

theorem next_any (w : World) (g D : Nat) (bad : Bool) (l : List Int) (m : Int) (h : RdrAt w g D bad l) :
    Calls Tryd.prog 55 #[.pointer (some ⟨g, 0, none⟩), .int .i64 m] w fun e w' => ∃ v, e = .returned v ∧ NextPost g D bad l m w v w' := by
  obtain ⟨⟨a, n, cap, hc, hn⟩, hb, hf0, hf1, hlt, hD⟩ := id h
  have hlen := hn.len
  have hle := hn.le
  have hmx := hn.max
  unfold maxLen at hmx
  have HN := hid hn
  have HL := hid hlen
  clear hn hlen
  cases bad with
  | true =>
    have hok : okR true l m = false := by simp [okR]
    have HO := hid (next_end_no h hok)
    clear hok h
    go_enter Tryd.func55, Tryd.ntmps55
    go_wp2
    go_ret
    exact ⟨_, rfl, HO.out⟩
  | false =>
    by_cases hm0 : m < 0
    · have hok : okR false l m = false := by simp [okR]; omega
      have HO := hid (next_end_no h hok)
      clear hok h
      go_enter Tryd.func55, Tryd.ntmps55
      go_wp2
      go_ret
      exact ⟨_, rfl, HO.out⟩
    · by_cases hm1 : (n : Int) < m
      · have hok : okR false l m = false := by simp [okR]; intro _; rw [HL.out]; exact hm1
        have HO := hid (next_end_no h hok)
        clear hok h
        go_enter Tryd.func55, Tryd.ntmps55
        go_wp2
        go_ret
        exact ⟨_, rfl, HO.out⟩
      · obtain ⟨k, rfl⟩ : ∃ k : Nat, m = k := ⟨m.toNat, by omega⟩
        have HH := hid h
        clear h
        go_enter Tryd.func55, Tryd.ntmps55
        go_wp2
        all_goals go_ret
        · have h : cap = k := by assumption
          subst h
          have := next_end_yes HH.out HN.out (m := cap) (by omega) rfl rfl (fun _ => rfl) (fun h => absurd rfl h)
          rw [Nat.sub_self] at this
          exact ⟨_, rfl, this⟩
        · have h : ¬ cap = k := by assumption
          exact ⟨_, rfl, next_end_yes HH.out HN.out (by omega) rfl rfl (fun h' => absurd h' h) (fun _ => rfl)⟩

theorem new_any (w : World) (a : Option Addr) (n cap : Nat) :
    Calls Tryd.prog 31 #[.slice a n cap] w fun e w' => e = .returned (.pointer (some ⟨w.heap.size, 0, none⟩)) ∧ w.alloc (.cells #[.slice a n cap, .bool false] 74) = w' := by
  go_enter Tryd.func31, Tryd.ntmps31
  go_wp2
  go_ret
  exact ⟨rfl, rfl⟩


/-- bytes as a number -/
def numB (l : List Int) : Int := l.foldl (fun n b => n * 256 + b) 0
def Byt (l : List Int) : Prop := ∀ x ∈ l, 0 ≤ x ∧ x ≤ 255
theorem numB_snoc (l : List Int) (b : Int) : numB (l ++ [b]) = numB l * 256 + b := by simp [numB, List.foldl_append]
theorem Byt.getD {l : List Int} (h : Byt l) (j : Nat) : 0 ≤ l.getD j 0 ∧ l.getD j 0 ≤ 255 := by
  rw [List.getD_eq_getElem?_getD]
  by_cases hj : j < l.length
  · rw [List.getElem?_eq_getElem hj]; exact h _ (List.getElem_mem hj)
  · rw [List.getElem?_eq_none (by omega)]; simp
theorem Byt.take {l : List Int} (h : Byt l) (j : Nat) : Byt (l.take j) := fun x hx => h x (List.mem_of_mem_take hx)
theorem Byt.drop {l : List Int} (h : Byt l) (j : Nat) : Byt (l.drop j) := fun x hx => h x (List.mem_of_mem_drop hx)
theorem numB_bd (l : List Int) (h : Byt l) (k : Nat) (hk : k ≤ l.length) : 0 ≤ numB (l.take k) ∧ numB (l.take k) < 256 ^ k := by
  induction k with
  | zero => simp [numB]
  | succ k ih =>
    have := ih (by omega)
    have hb := h.getD k
    rw [take_getD (by omega), numB_snoc, Int.pow_succ]
    omega

theorem or_byte (N y : Int) (h0 : 0 ≤ N) (h1 : N < 72057594037927936) (hy : 0 ≤ y ∧ y ≤ 255) : bits .or .u64 (IntKind.u64.wrap (N * 256)) y = N * 256 + y := by
  have e : IntKind.u64.wrap (N * 256) = N * 256 := IntWalk.u64_in _ (by omega)
  rw [e, u64_or _ _ (by omega) (by omega) (by omega) (by omega)]
  obtain ⟨M, rfl⟩ : ∃ M : Nat, N = M := ⟨N.toNat, by omega⟩
  obtain ⟨z, rfl⟩ : ∃ z : Nat, y = z := ⟨y.toNat, by omega⟩
  have e1 : ((M : Int) * 256).toNat = M <<< 8 := by rw [Nat.shiftLeft_eq]; omega
  rw [e1, Int.toNat_natCast, ← Nat.shiftLeft_add_eq_or_of_lt (by omega : z < 2 ^ 8), Nat.shiftLeft_eq]
  omega
theorem pow_le56 {N : Int} {k : Nat} (h : N < 256 ^ k) (hk : k ≤ 7) : N < 72057594037927936 := by
  have hc : k = 0 ∨ k = 1 ∨ k = 2 ∨ k = 3 ∨ k = 4 ∨ k = 5 ∨ k = 6 ∨ k = 7 := by omega
  rcases hc with rfl | rfl | rfl | rfl | rfl | rfl | rfl | rfl
  all_goals (simp only [Int.reducePow] at h; omega)
def okN (bad : Bool) (l : List Int) (m : Int) : Bool := okR bad l m && decide (1 ≤ m ∧ m ≤ 8)
def valN (bad : Bool) (l : List Int) (m : Int) : Int := if okN bad l m then numB (l.take m.toNat) else 0
def leftN (bad : Bool) (l : List Int) (m : Int) : List Int := if okN bad l m then l.drop m.toNat else l
def NumPost (g D : Nat) (bad : Bool) (l : List Int) (m : Int) (w : World) (x : Int) (w' : World) : Prop :=
  x = valN bad l m ∧ RdrAt w' g D (!okN bad l m) (leftN bad l m) ∧ w.grownBy w' (some g)

theorem num_any (w : World) (g D : Nat) (bad : Bool) (l : List Int) (m : Int) (h : RdrAt w g D bad l) (hb : Byt l) :
    Calls Tryd.prog 42 #[.pointer (some ⟨g, 0, none⟩), .int .i64 m] w fun e w' => ∃ x, e = .returned (.int .u64 x) ∧ NumPost g D bad l m w x w' := by
  by_cases hm : 1 ≤ m ∧ m ≤ 8
  · have hd : decide (1 ≤ m ∧ m ≤ 8) = true := by simp; omega
    have HH := hid h
    clear h
    go_enter Tryd.func42, Tryd.ntmps42
    go_wp2_with (first | (go_at_call 41; refine (fits_any _ _).mono ?_; rintro e w' ⟨rfl, rfl⟩) | (go_at_call 55; go_loud (refine (next_any _ g D bad l m HH.out).mono ?_); go_loud (rintro e w1 ⟨v, rfl, a, n, c, rfl, h1, h2, h3⟩)))
    obtain ⟨L, hL⟩ : ∃ L, L = gotR bad l m := ⟨_, rfl⟩
    rw [← hL] at h1
    have hLB : Byt L := by rw [hL]; unfold gotR; split; exact hb.take _; intro x hx; cases hx
    have hL8 : L.length ≤ 8 := by rw [hL]; unfold gotR; split; (rw [List.length_take]; omega); simp
    have hV : valN bad l m = numB L := by
      rw [hL]; unfold valN okN gotR; rw [hd]; simp; split <;> simp [numB]
    have hn := h1.len
    have HC := hid h1.cells
    have HV := hid hV
    have hOK : okN bad l m = okR bad l m := by unfold okN; rw [hd]; simp
    have hLF : leftN bad l m = leftR bad l m := by unfold leftN leftR; rw [hOK]
    rw [← hOK, ← hLF] at h2
    clear hOK hLF
    have HB := hid (numB_bd L hLB)
    have HG := hid hLB.getD
    have HLn := hid hn
    have hn8 : n ≤ 8 := by omega
    clear h1 hLB hL8 hV hL HH hn
    go_loop [5, 18] (fun nv iv => ∃ k : Nat, k ≤ n ∧ iv = .int .i64 k ∧ nv = .int .u64 (numB (L.take k))) (fun _ iv => n - (intOf iv).toNat)
    case atStart => exact ⟨0, Nat.zero_le _, rfl, by simp [numB]⟩
    case round =>
      obtain ⟨k, hk, rfl, rfl⟩ := hrel
      by_cases hlt : k < n
      · obtain ⟨b, off, ha, hb1, hb2, hc⟩ := HC.out (by omega)
        subst ha
        have hcx := hc k hlt
        have hbd := HB.out k (by rw [HLn.out]; omega)
        have hg := HG.out k
        obtain ⟨y, hy⟩ : ∃ y, y = L.getD k 0 := ⟨_, rfl⟩
        rw [← hy] at hcx hg
        have HY := hid hy
        obtain ⟨N, hN⟩ : ∃ N, N = numB (L.take k) := ⟨_, rfl⟩
        rw [← hN] at hbd
        rw [← hN]
        have HNN := hid hN
        clear hy hN hc HC HB
        have HOR := hid (or_byte N y hbd.1 (pow_le56 hbd.2 (by omega)) hg)
        go_wp2
        go_round
        case rel => exact ⟨k + 1, by omega, by go_num, by rw [HOR.out, take_getD (by rw [HLn.out]; omega), numB_snoc, ← HY.out, ← HNN.out]⟩
        case measure => simp [intOf]; omega
      · obtain rfl : k = n := by omega
        go_wp2
        go_ret
        exact ⟨_, rfl, by rw [HV.out, List.take_of_length_le (by rw [HLn.out]; omega)], h2, h3⟩
  · have hd : decide (1 ≤ m ∧ m ≤ 8) = false := by simp; omega
    have hb1 := h.isBad
    have hf1 := h.f1
    have hR := hid (h.setBad true)
    have hok : okN bad l m = false := by unfold okN; rw [hd]; simp
    have hG := hid (gb_setCell (World.grownBy.refl w (some g)) (p := ⟨g, 1, none⟩) rfl (.bool true))
    have HOK := hid hok
    clear hok h
    go_enter Tryd.func42, Tryd.ntmps42
    go_wp2_with (first | (go_at_call 41; refine (fits_any _ _).mono ?_; rintro e w' ⟨rfl, rfl⟩) | (go_at_call 55; go_loud (refine (next_any _ g D true l m hR.out).mono ?_); go_loud (rintro e w1 ⟨v, rfl, a, n, c, rfl, h1, h2, h3⟩)))
    have e1 : gotR true l m = [] := by simp [gotR, okR]
    have e2 : leftR true l m = l := by simp [leftR, okR]
    have e3 : (!okR true l m) = (!okN bad l m) := by rw [HOK.out]; simp [okR]
    have e4 : leftN bad l m = l := by unfold leftN; rw [HOK.out]; simp
    have e5 : valN bad l m = 0 := by unfold valN; rw [HOK.out]; simp
    rw [e1] at h1
    rw [e2, e3] at h2
    have hn : n = 0 := h1.len.symm
    have H2 := hid h2
    have H3 := hid (gb_trans hG.out h3)
    have E4 := hid e4
    have E5 := hid e5
    clear h1 h2 h3 e1 e2 e3 e4 e5
    subst hn
    go_loop [5, 18] (fun nv iv => iv = .int .i64 0 ∧ nv = .int .u64 0) (fun _ iv => 0)
    case atStart => exact ⟨rfl, rfl⟩
    case round =>
      obtain ⟨rfl, rfl⟩ := hrel
      go_wp2
      go_ret
      exact ⟨0, rfl, E5.out.symm, by rw [E4.out]; exact H2.out, H3.out⟩
end Go.Proofs.YtjcmceomhocmpaaDoor.bec
