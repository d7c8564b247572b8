/- Bytes as figures: the arithmetic, without the program. -/
import Derived.WalkKit
import Derived.Laws.BytesArg
import Derived.Lib.Bytealg
import Derived.Laws.Strings
namespace Go.Proofs.Ytnokfpojgmndmaa.hxm
set_option linter.unusedVariables false
set_option linter.unusedSimpArgs false

/-- a number below 16 as a figure -/
def fig (n : Int) : Int := if n < 10 then 48 + n else 87 + n
theorem fig_bd (n : Int) (h0 : 0 ≤ n) (h : n < 16) : 48 ≤ fig n ∧ fig n ≤ 102 := by unfold fig; split <;> omega
/-- a byte's two figures -/
def two (x : Int) : List Int := [fig (x / 16), fig (x % 16)]
def textI (l : List Int) : List Int := l.flatMap two
theorem textI_snoc (l : List Int) (x : Int) : textI (l ++ [x]) = textI l ++ two x := by simp [textI]
theorem textI_len (l : List Int) : (textI l).length = 2 * l.length := by
  induction l with
  | nil => rfl
  | cons x l ih => simp only [textI, List.flatMap_cons, List.length_append, List.length_cons] at *; rw [ih]; simp [two]; omega

/-- what a figure stands for; -1: it is none -/
def unfig (c : Int) : Int := if 48 ≤ c ∧ c ≤ 57 then c - 48 else if 97 ≤ c ∧ c ≤ 102 then c - 87 else -1
theorem unfig_bd (c : Int) : -1 ≤ unfig c ∧ unfig c < 16 := by unfold unfig; split <;> (try split) <;> omega
theorem unfig_fig (n : Int) (h0 : 0 ≤ n) (h1 : n < 16) : unfig (fig n) = n := by unfold unfig fig; split <;> split <;> (try split) <;> omega
theorem fig_unfig (c : Int) (h : 0 ≤ unfig c) : fig (unfig c) = c := by unfold unfig fig at *; split <;> split at * <;> (try split at *) <;> omega
/-- the k-th pair of figures: are they; and what it stands for -/
def okP (l : List Int) (k : Nat) : Prop := 0 ≤ unfig (l.getD (2 * k) 0) ∧ 0 ≤ unfig (l.getD (2 * k + 1) 0)
def valP (l : List Int) (k : Nat) : Int := 16 * unfig (l.getD (2 * k) 0) + unfig (l.getD (2 * k + 1) 0)
def vals (l : List Int) (n : Nat) : List Int := (List.range n).map (valP l)
theorem vals_len (l : List Int) (n : Nat) : (vals l n).length = n := by simp [vals]
theorem vals_succ (l : List Int) (n : Nat) : vals l (n + 1) = vals l n ++ [valP l n] := by simp [vals, List.range_succ]
/-- the bytes of figures are there -/
def Figs (l : List Int) : Prop := l.length % 2 = 0 ∧ ∀ k, k < l.length / 2 → okP l k
/-- the bytes of a text -/
def nums (s : ByteArray) : List Int := s.data.toList.map fun c => (c.toNat : Int)
theorem nums_len (s : ByteArray) : (nums s).length = s.size := by unfold nums; rw [List.length_map, Array.length_toList]; rfl
theorem nums_bd (s : ByteArray) (x : Int) (h : x ∈ nums s) : 0 ≤ x ∧ x ≤ 255 := by
  obtain ⟨c, _, rfl⟩ := List.mem_map.1 h
  have := c.toNat_lt
  omega
theorem nums_at (s : ByteArray) (k : Nat) (h : k < s.size) : ((s[k]'h).toNat : Int) = (nums s).getD k 0 := by
  have hk : k < s.data.toList.length := by rw [Array.length_toList]; exact h
  rw [List.getD_eq_getElem?_getD]
  unfold nums
  rw [List.getElem?_map, List.getElem?_eq_getElem hk]
  rfl
theorem nums_str (l : List Int) (h : ∀ x ∈ l, 0 ≤ x ∧ x ≤ 255) : nums (strOfNums l) = l := by
  unfold nums
  rw [strOfNums_data, List.map_map]
  conv => rhs; rw [← List.map_id l]
  apply List.map_congr_left
  intro x hx
  have := h x hx
  simp only [Function.comp, id]
  rw [UInt8.toNat_ofNat']
  omega
theorem str_nums (s : ByteArray) : strOfNums (nums s) = s := by
  unfold strOfNums nums
  rw [List.map_map]
  have : (fun n : Int => UInt8.ofNat n.toNat) ∘ (fun c : UInt8 => (c.toNat : Int)) = id := by funext c; simp
  rw [this]
  simp
theorem index_figs : ∀ c : Fin 256, Lib.indexByte [48, 49, 50, 51, 52, 53, 54, 55, 56, 57, 97, 98, 99, 100, 101, 102] (c.val.toUInt8) = unfig (c.val : Int) := by decide +kernel
theorem index_fig (c : Int) (h0 : 0 ≤ c) (h1 : c ≤ 255) : Lib.indexByte [48, 49, 50, 51, 52, 53, 54, 55, 56, 57, 97, 98, 99, 100, 101, 102] c.toNat.toUInt8 = unfig c := by
  have h := index_figs ⟨c.toNat, by omega⟩
  have e : ((c.toNat : Nat) : Int) = c := by omega
  simp only [e] at h
  exact h
theorem nums_extract (s : ByteArray) (t : Nat) (h : t + 2 ≤ s.size) : nums (s.extract t (t + 2)) = [(nums s).getD t 0, (nums s).getD (t + 1) 0] := by
  have h1 : (nums s).length = s.size := nums_len s
  have e : nums (s.extract t (t + 2)) = ((nums s).drop t).take 2 := by
    unfold nums
    rw [ByteArray.data_extract, Array.toList_extract, List.extract_eq_take_drop, List.map_take, List.map_drop]
    congr 1
    omega
  rw [e, List.drop_eq_getElem_cons (by omega : t < (nums s).length), List.drop_eq_getElem_cons (by omega : t + 1 < (nums s).length)]
  rw [List.getD_eq_getElem?_getD, List.getD_eq_getElem?_getD, List.getElem?_eq_getElem (by omega : t < (nums s).length), List.getElem?_eq_getElem (by omega : t + 1 < (nums s).length)]
  rfl
theorem pair_eq (s : ByteArray) (t : Nat) (h : t + 2 ≤ s.size) (c : Int) (h0 : 0 ≤ c) (h1 : c < 256) :
    strOfNums (textI [c]) = s.extract t (t + 2) ↔ (0 ≤ unfig ((nums s).getD t 0) ∧ 0 ≤ unfig ((nums s).getD (t + 1) 0) ∧ c = 16 * unfig ((nums s).getD t 0) + unfig ((nums s).getD (t + 1) 0)) := by
  have hE := nums_extract s t h
  have e1 : textI [c] = [fig (c / 16), fig (c % 16)] := by simp [textI, two]
  have f1 := fig_bd (c / 16) (by omega) (by omega)
  have f2 := fig_bd (c % 16) (by omega) (by omega)
  have hT : ∀ x ∈ textI [c], 0 ≤ x ∧ x ≤ 255 := by
    rw [e1]; intro x hx
    simp only [List.mem_cons, List.not_mem_nil, or_false] at hx
    rcases hx with rfl | rfl <;> omega
  constructor
  · intro hs
    have h2 := congrArg nums hs
    rw [nums_str _ hT, hE, e1] at h2
    injection h2 with h3 h4
    injection h4 with h4 _
    rw [← h3, ← h4, unfig_fig _ (by omega) (by omega), unfig_fig _ (by omega) (by omega)]
    omega
  · rintro ⟨a, b, hc⟩
    have b1 := unfig_bd ((nums s).getD t 0)
    have b2 := unfig_bd ((nums s).getD (t + 1) 0)
    rw [← str_nums (s.extract t (t + 2)), hE, e1]
    have d1 : c / 16 = unfig ((nums s).getD t 0) := by omega
    have d2 : c % 16 = unfig ((nums s).getD (t + 1) 0) := by omega
    rw [d1, d2, fig_unfig _ a, fig_unfig _ b]
theorem str_eq_true {a b : ByteArray} (h : a = b) : (a.toList == b.toList) = true := by rw [h]; exact beq_self_eq_true _
theorem str_eq_false {a b : ByteArray} (h : ¬ a = b) : (a.toList == b.toList) = false := by
  rw [beq_eq_false_iff_ne]
  intro e
  rw [ByteArray.toList_eq, ByteArray.toList_eq] at e
  exact h (ByteArray.ext (Array.toList_inj.1 e))
theorem textI_at (l : List Int) (k : Nat) (h : k < l.length) : (textI l).getD (2 * k) 0 = fig (l.getD k 0 / 16) ∧ (textI l).getD (2 * k + 1) 0 = fig (l.getD k 0 % 16) := by
  induction l generalizing k with
  | nil => simp at h
  | cons x l ih =>
    have e : textI (x :: l) = fig (x / 16) :: fig (x % 16) :: textI l := by simp [textI, two]
    rw [e]
    cases k with
    | zero => exact ⟨rfl, rfl⟩
    | succ k =>
      have := ih k (by simpa using h)
      rw [show 2 * (k + 1) = 2 * k + 1 + 1 by omega, show 2 * k + 1 + 1 + 1 = (2 * k + 1) + 1 + 1 by omega]
      simpa using this
theorem textI_oct (l : List Int) (h : ∀ x ∈ l, 0 ≤ x ∧ x ≤ 255) : ∀ x ∈ textI l, 0 ≤ x ∧ x ≤ 255 := by
  intro x hx
  obtain ⟨y, hy, hxy⟩ := List.mem_flatMap.1 hx
  have hb := h y hy
  have f1 := fig_bd (y / 16) (by omega) (by omega)
  have f2 := fig_bd (y % 16) (by omega) (by omega)
  simp only [two, List.mem_cons, List.not_mem_nil, or_false] at hxy
  rcases hxy with rfl | rfl <;> omega
theorem textI_figs (l : List Int) (h : ∀ x ∈ l, 0 ≤ x ∧ x ≤ 255) : Figs (textI l) ∧ (textI l).length / 2 = l.length ∧ vals (textI l) l.length = l := by
  have hl := textI_len l
  have hb : ∀ k, k < l.length → 0 ≤ l.getD k 0 ∧ l.getD k 0 ≤ 255 := fun k hk => by
    rw [List.getD_eq_getElem?_getD, List.getElem?_eq_getElem hk]; exact h _ (List.getElem_mem _)
  refine ⟨⟨by omega, fun k hk => ?_⟩, by omega, ?_⟩
  · have hk' : k < l.length := by omega
    have := textI_at l k hk'
    have := hb k hk'
    unfold okP
    rw [(textI_at l k hk').1, (textI_at l k hk').2, unfig_fig _ (by omega) (by omega), unfig_fig _ (by omega) (by omega)]
    omega
  · apply List.ext_getElem
    · simp [vals]
    · intro k h1 h2
      have hb' := hb k h2
      simp only [vals, List.getElem_map, List.getElem_range]
      unfold valP
      rw [(textI_at l k h2).1, (textI_at l k h2).2, unfig_fig _ (by omega) (by omega), unfig_fig _ (by omega) (by omega)]
      rw [List.getD_eq_getElem?_getD, List.getElem?_eq_getElem h2]
      rw [List.getD_eq_getElem?_getD, List.getElem?_eq_getElem h2] at hb'
      simp only [Option.getD_some] at hb' ⊢
      omega
end Go.Proofs.Ytnokfpojgmndmaa.hxm
