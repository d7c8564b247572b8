/- What the library's pieces between blanks are: those of the bytes. -/
import Derived.Lib.FieldsP
import Derived.Test.YtnokfpojgmndmaaSplU
namespace Go.Proofs.Ytnokfpojgmndmaa.wdu
open Go.Proofs.Ytnokfpojgmndmaa.spc
set_option linter.unusedVariables false
set_option linter.unusedSimpArgs false
/-- a decoded letter is a blank just where the byte is; no other letter has that byte -/
theorem dec32 (s : ByteArray) (i : Nat) (h : i < s.size) : ((s.get! i).toNat = 32 → Utf8.decode s i = (32, 1)) ∧
    ((s.get! i).toNat ≠ 32 → (Utf8.decode s i).1 ≠ 32 ∧ 1 ≤ (Utf8.decode s i).2 ∧ i + (Utf8.decode s i).2 ≤ s.size ∧ ∀ j, j < (Utf8.decode s i).2 → (s.get! (i + j)).toNat ≠ 32) := by
  obtain ⟨b0, hb0⟩ : ∃ b, b = (s.get! i).toNat := ⟨_, rfl⟩
  obtain ⟨b1, hb1⟩ : ∃ b, b = (s.get! (i + 1)).toNat := ⟨_, rfl⟩
  obtain ⟨b2, hb2⟩ : ∃ b, b = (s.get! (i + 2)).toNat := ⟨_, rfl⟩
  obtain ⟨b3, hb3⟩ : ∃ b, b = (s.get! (i + 3)).toNat := ⟨_, rfl⟩
  have one : ∀ (r : Nat), (b0 = 32 → r = 32) → (b0 ≠ 32 → r ≠ 32) → Utf8.decode s i = (r, 1) → ((s.get! i).toNat = 32 → Utf8.decode s i = (32, 1)) ∧
      ((s.get! i).toNat ≠ 32 → (Utf8.decode s i).1 ≠ 32 ∧ 1 ≤ (Utf8.decode s i).2 ∧ i + (Utf8.decode s i).2 ≤ s.size ∧ ∀ j, j < (Utf8.decode s i).2 → (s.get! (i + j)).toNat ≠ 32) := by
    intro r h1 h2 he
    rw [he, ← hb0]
    refine ⟨fun k => by rw [h1 k], fun k => ⟨h2 k, Nat.le_refl _, by show i + 1 ≤ _; omega, fun j hj => ?_⟩⟩
    have : j = 0 := by show j = 0; have : j < 1 := hj; omega
    rw [this, Nat.add_zero, ← hb0]; exact k
  have e : Utf8.decode s i = (if b0 < 0x80 then (b0, 1)
    else if b0 / 32 == 6 && (decide (i + 1 < s.size) && b1 / 64 == 2) then (if (b0 % 32) * 64 + b1 % 64 ≥ 0x80 then ((b0 % 32) * 64 + b1 % 64, 2) else (65533, 1))
    else if b0 / 16 == 14 && (decide (i + 1 < s.size) && b1 / 64 == 2) && (decide (i + 2 < s.size) && b2 / 64 == 2) then (if (b0 % 16) * 4096 + (b1 % 64) * 64 + b2 % 64 ≥ 0x800 && Utf8.valid ((b0 % 16) * 4096 + (b1 % 64) * 64 + b2 % 64) then ((b0 % 16) * 4096 + (b1 % 64) * 64 + b2 % 64, 3) else (65533, 1))
    else if b0 / 8 == 30 && (decide (i + 1 < s.size) && b1 / 64 == 2) && (decide (i + 2 < s.size) && b2 / 64 == 2) && (decide (i + 3 < s.size) && b3 / 64 == 2) then (if (b0 % 8) * 262144 + (b1 % 64) * 4096 + (b2 % 64) * 64 + b3 % 64 ≥ 0x10000 && Utf8.valid ((b0 % 8) * 262144 + (b1 % 64) * 4096 + (b2 % 64) * 64 + b3 % 64) then ((b0 % 8) * 262144 + (b1 % 64) * 4096 + (b2 % 64) * 64 + b3 % 64, 4) else (65533, 1))
    else (65533, 1)) := by
    subst hb0 hb1 hb2 hb3
    rfl
  by_cases c0 : b0 < 128
  · exact one b0 (fun k => k) (fun k => k) (by rw [e, if_pos c0])
  · rw [if_neg c0] at e
    have bad : Utf8.decode s i = (65533, 1) → _ := one 65533 (fun k => by omega) (fun _ => by decide)
    split at e
    · rename_i c1
      simp only [Bool.and_eq_true, beq_iff_eq, decide_eq_true_eq] at c1
      split at e
      · rename_i c2
        refine ⟨fun k => by omega, fun _ => ?_⟩
        rw [e]
        refine ⟨by show _ ≠ 32; omega, by show 1 ≤ 2; omega, by show i + 2 ≤ _; omega, fun j hj => ?_⟩
        have hj : j < 2 := hj
        have : j = 0 ∨ j = 1 := by omega
        rcases this with rfl | rfl
        · rw [Nat.add_zero, ← hb0]; omega
        · rw [← hb1]; omega
      · exact bad e
    · split at e
      · rename_i c1
        simp only [Bool.and_eq_true, beq_iff_eq, decide_eq_true_eq] at c1
        split at e
        · rename_i c2
          simp only [Bool.and_eq_true, decide_eq_true_eq] at c2
          refine ⟨fun k => by omega, fun _ => ?_⟩
          rw [e]
          refine ⟨by show _ ≠ 32; omega, by show 1 ≤ 3; omega, by show i + 3 ≤ _; omega, fun j hj => ?_⟩
          have hj : j < 3 := hj
          have : j = 0 ∨ j = 1 ∨ j = 2 := by omega
          rcases this with rfl | rfl | rfl
          · rw [Nat.add_zero, ← hb0]; omega
          · rw [← hb1]; omega
          · rw [← hb2]; omega
        · exact bad e
      · split at e
        · rename_i c1
          simp only [Bool.and_eq_true, beq_iff_eq, decide_eq_true_eq] at c1
          split at e
          · rename_i c2
            simp only [Bool.and_eq_true, decide_eq_true_eq] at c2
            refine ⟨fun k => by omega, fun _ => ?_⟩
            rw [e]
            refine ⟨by show _ ≠ 32; omega, by show 1 ≤ 4; omega, by show i + 4 ≤ _; omega, fun j hj => ?_⟩
            have hj : j < 4 := hj
            have : j = 0 ∨ j = 1 ∨ j = 2 ∨ j = 3 := by omega
            rcases this with rfl | rfl | rfl | rfl
            · rw [Nat.add_zero, ← hb0]; omega
            · rw [← hb1]; omega
            · rw [← hb2]; omega
            · rw [← hb3]; omega
          · exact bad e
        · exact bad e
theorem spU_run (c : UInt8) (x y : List UInt8) (h : c ∉ x) : ∀ one, spU c (x ++ y) one = spU c y (one ++ x) := by
  induction x with
  | nil => intro one; simp
  | cons a r ih =>
    intro one
    have hx : ¬ a = c := fun e => h (by rw [e]; exact List.mem_cons_self)
    rw [List.cons_append, spU, if_neg hx, ih (fun e => h (List.mem_cons_of_mem _ e))]
    simp
def wordsU (l one : List UInt8) : List (List UInt8) := (spU 32 l one).filter fun x => !x.isEmpty
theorem ext_list (s : ByteArray) (a b : Nat) : (s.extract a b).data.toList = (s.data.toList.take b).drop a := by
  rw [Lib.extract_data]; simp [List.drop_take]
theorem get_at (s : ByteArray) (i : Nat) (h : i < s.data.toList.length) : s.get! i = s.data.toList[i] := by
  have h2 : i < s.data.size := by simpa using h
  show s.data[i]! = _
  rw [getElem!_pos s.data i h2]
  simp
def stOne (l : List UInt8) (pos : Nat) : Option Nat → List UInt8
  | some a => (l.take pos).drop a
  | none => []
def pieces (s : ByteArray) (x : List (Nat × Nat)) : List ByteArray := x.map fun y => s.extract y.1 y.2
theorem ext_one (s : ByteArray) (a b : Nat) : s.extract a b = ⟨((s.data.toList.take b).drop a).toArray⟩ := by
  apply ByteArray.ext
  apply Array.toList_inj.1
  rw [ext_list]
theorem spans_end (s : ByteArray) (f pos : Nat) (st : Option Nat) (acc : List (Nat × Nat)) (hp : pos = s.size) (hst : ∀ a, st = some a → a < pos) :
    pieces s (Lib.closeSpans s (Lib.spansFromP (fun r => r == 32) s f pos st acc)) = pieces s acc ++ bas (wordsU (s.data.toList.drop pos) (stOne s.data.toList pos st)) := by
  have hl : s.data.toList.length = s.size := rfl
  rw [Lib.spansFromP_end _ _ _ _ _ _ (by omega), List.drop_eq_nil_of_le (by omega)]
  cases st with
  | none => simp [Lib.closeSpans, wordsU, spU, stOne, bas]
  | some a =>
    have ha := hst a rfl
    have hne : ((s.data.toList.take pos).drop a).isEmpty = false := by
      rw [List.isEmpty_eq_false_iff]
      intro e
      have := congrArg List.length e
      simp at this
      omega
    simp only [Lib.closeSpans, pieces, List.map_append, List.map_cons, List.map_nil, stOne, wordsU, spU]
    rw [List.filter_cons, hne]
    simp only [Bool.not_false, if_true, List.filter_nil, bas, List.map_cons, List.map_nil]
    rw [ext_one, hp]
theorem spans_is (s : ByteArray) : ∀ (f pos : Nat) (st : Option Nat) (acc : List (Nat × Nat)), s.size - pos ≤ f → pos ≤ s.size → (∀ a, st = some a → a < pos) →
    pieces s (Lib.closeSpans s (Lib.spansFromP (fun r => r == 32) s f pos st acc)) = pieces s acc ++ bas (wordsU (s.data.toList.drop pos) (stOne s.data.toList pos st)) := by
  have hl : s.data.toList.length = s.size := rfl
  intro f
  induction f with
  | zero => intro pos st acc h1 h2 h3; exact spans_end s 0 pos st acc (by omega) h3
  | succ f ih =>
    intro pos st acc h1 h2 h3
    by_cases hp : pos < s.size
    · obtain ⟨d1, d2⟩ := dec32 s pos hp
      have hga := get_at s pos (by omega)
      have hdr : s.data.toList.drop pos = s.data.toList[pos]'(by omega) :: s.data.toList.drop (pos + 1) := List.drop_eq_getElem_cons (by omega)
      by_cases hb : (s.get! pos).toNat = 32
      · have hd := d1 hb
        have hc : s.data.toList[pos]'(by omega) = (32 : UInt8) := by rw [← hga]; exact UInt8.toNat_inj.1 hb
        rw [hc] at hdr
        have hun : Lib.spansFromP (fun r => r == 32) s (f + 1) pos st acc = match st with
            | some a => Lib.spansFromP (fun r => r == 32) s f (pos + 1) none (acc ++ [(a, pos)])
            | none => Lib.spansFromP (fun r => r == 32) s f (pos + 1) none acc := by
          conv => lhs; rw [Lib.spansFromP.eq_def]
          show (if pos < s.size then _ else _) = _
          rw [if_pos hp, hd]; cases st <;> simp
        rw [hun]
        cases st with
        | none =>
          show pieces s (Lib.closeSpans s (Lib.spansFromP (fun r => r == 32) s f (pos + 1) none acc)) = _
          rw [ih (pos + 1) none acc (by omega) (by omega) (fun a e => by cases e), hdr]
          simp [stOne, wordsU, spU]
        | some a =>
          have ha := h3 a rfl
          show pieces s (Lib.closeSpans s (Lib.spansFromP (fun r => r == 32) s f (pos + 1) none (acc ++ [(a, pos)]))) = _
          rw [ih (pos + 1) none (acc ++ [(a, pos)]) (by omega) (by omega) (fun a e => by cases e), hdr]
          have hne : ((s.data.toList.take pos).drop a).isEmpty = false := by
            rw [List.isEmpty_eq_false_iff]
            intro e
            have := congrArg List.length e
            simp at this
            omega
          simp only [stOne, wordsU, spU, if_true]
          rw [List.filter_cons, hne]
          simp only [Bool.not_false, if_true, bas, List.map_cons, pieces, List.map_append, List.map_nil, List.append_assoc, List.cons_append, List.nil_append]
          rw [ext_one]
      · obtain ⟨e1, e2, e3, e4⟩ := d2 hb
        obtain ⟨n, hn⟩ : ∃ n, n = (Utf8.decode s pos).2 := ⟨_, rfl⟩
        obtain ⟨r, hr⟩ : ∃ r, r = (Utf8.decode s pos).1 := ⟨_, rfl⟩
        have hd : Utf8.decode s pos = (r, n) := by rw [hn, hr]
        rw [← hn] at e2 e3 e4
        rw [← hr] at e1
        have hrb : (r == 32) = false := by rw [beq_eq_false_iff_ne]; exact e1
        have hun : Lib.spansFromP (fun r => r == 32) s (f + 1) pos st acc = match st with
            | some a => Lib.spansFromP (fun r => r == 32) s f (pos + n) (some a) acc
            | none => Lib.spansFromP (fun r => r == 32) s f (pos + n) (some pos) acc := by
          conv => lhs; rw [Lib.spansFromP.eq_def]
          show (if pos < s.size then _ else _) = _
          rw [if_pos hp, hd]
          simp only [hrb]
          cases st <;> simp
        have hfree : (32 : UInt8) ∉ (s.data.toList.drop pos).take n := by
          intro hm
          obtain ⟨j, hj, hje⟩ := List.mem_iff_getElem.1 hm
          have hj1 : j < n := by simp at hj; omega
          have := e4 j hj1
          rw [get_at s (pos + j) (by omega)] at this
          apply this
          simp at hje
          rw [show s.data.toList[pos + j]'(by omega) = s.data[pos + j]'(by have : s.data.size = s.size := rfl; omega) by simp, hje]; rfl
        have hsp : ∀ one, wordsU (s.data.toList.drop pos) one = wordsU (s.data.toList.drop (pos + n)) (one ++ (s.data.toList.drop pos).take n) := by
          intro one
          unfold wordsU
          conv => lhs; rw [← List.take_append_drop n (s.data.toList.drop pos)]
          rw [spU_run 32 _ _ hfree, List.drop_drop]
        have htk : s.data.toList.take (pos + n) = s.data.toList.take pos ++ (s.data.toList.drop pos).take n := List.take_add
        rw [hun, hsp]
        cases st with
        | none =>
          show pieces s (Lib.closeSpans s (Lib.spansFromP (fun r => r == 32) s f (pos + n) (some pos) acc)) = _
          rw [ih (pos + n) (some pos) acc (by omega) e3 (fun a e => by injection e; omega)]
          simp only [stOne, List.nil_append]
          rw [htk, List.drop_left' (by rw [List.length_take]; omega)]
        | some a =>
          have ha := h3 a rfl
          show pieces s (Lib.closeSpans s (Lib.spansFromP (fun r => r == 32) s f (pos + n) (some a) acc)) = _
          rw [ih (pos + n) (some a) acc (by omega) e3 (fun b e => by injection e; omega)]
          simp only [stOne]
          rw [htk, List.drop_append_of_le_length (by rw [List.length_take]; omega)]
    · exact spans_end s (f + 1) pos st acc (by omega) h3
theorem fields_is (s : ByteArray) : Lib.goFieldsP (fun r => r == 32) s = bas (wordsU s.data.toList []) := by
  have := spans_is s s.size 0 none [] (by omega) (by omega) (fun a e => by cases e)
  simpa [pieces, stOne, Lib.goFieldsP, Lib.spansOfP] using this
end Go.Proofs.Ytnokfpojgmndmaa.wdu
