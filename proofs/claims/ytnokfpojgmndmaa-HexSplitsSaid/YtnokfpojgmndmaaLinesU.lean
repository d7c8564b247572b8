/- The lines of a text, each with its byte 10: mathematics, and the library's iterator. -/
import Derived.Test.YtnokfpojgmndmaaSplU
import Derived.Test.YtnokfpojgmndmaaSeq
import Derived.Test.YtnokfpojgmndmaaRange1
import Derived.Test.YtnokfpojgmndmaaTailC
import Derived.Test.YtnokfpojgmndmaaShelf
import Derived.OneCell
import Derived.Sort.CutIn
namespace Go.Proofs.Ytnokfpojgmndmaa.lnu
open Go.RowKit Go.Shelf
open Go.Proofs.Ytnokfpojgmndmaa.kit Go.Proofs.Ytnokfpojgmndmaa.spc
set_option linter.unusedVariables false
set_option linter.unusedSimpArgs false
attribute [local go_sem] Oper.semAt_some
theorem ext_of (s : ByteArray) (a b : Nat) : s.extract a b = ⟨((s.data.toList.take b).drop a).toArray⟩ := by
  apply ByteArray.ext
  apply Array.toList_inj.1
  rw [Lib.extract_data]; simp [List.drop_take]
theorem ext_to (r : List UInt8) (i : Nat) : (⟨r.toArray⟩ : ByteArray).extract 0 i = ⟨(r.take i).toArray⟩ := by rw [ext_of]; simp
theorem ext_from (r : List UInt8) (i : Nat) : (⟨r.toArray⟩ : ByteArray).extract i r.length = ⟨(r.drop i).toArray⟩ := by rw [ext_of]; simp
def lnU : List UInt8 → List UInt8 → List (List UInt8)
  | [], one => if one.isEmpty then [] else [one]
  | x :: r, one => if x = 10 then (one ++ [10]) :: lnU r [] else lnU r (one ++ [x])
theorem lnU_free (l : List UInt8) (h : 10 ∉ l) : ∀ one, lnU l one = if (one ++ l).isEmpty then [] else [one ++ l] := by
  induction l with
  | nil => intro one; simp [lnU]
  | cons x r ih =>
    intro one
    have hx : ¬ x = 10 := fun e => h (by rw [e]; exact List.mem_cons_self)
    rw [lnU, if_neg hx, ih (fun e => h (List.mem_cons_of_mem _ e))]
    simp
theorem lnU_at (x y : List UInt8) (h : 10 ∉ x) : ∀ one, lnU (x ++ 10 :: y) one = (one ++ x ++ [10]) :: lnU y [] := by
  induction x with
  | nil => intro one; simp [lnU]
  | cons a r ih =>
    intro one
    have hx : ¬ a = 10 := fun e => h (by rw [e]; exact List.mem_cons_self)
    rw [List.cons_append, lnU, if_neg hx, ih (fun e => h (List.mem_cons_of_mem _ e))]
    simp
theorem idx_at {l : List UInt8} {i : Nat} (h : Lib.indexByte l 10 = (i : Int)) : 10 ∉ l.take i ∧ l = l.take i ++ 10 :: l.drop (i + 1) ∧ i < l.length := by
  obtain ⟨h1, h2⟩ := Lib.indexByte_some h
  have hi : i < l.length := (List.getElem?_eq_some_iff.1 h1).1
  refine ⟨fun hm => ?_, ?_, hi⟩
  · obtain ⟨k, hk, he⟩ := List.mem_iff_getElem.1 hm
    have hk2 : k < i := by simp at hk; omega
    apply h2 k hk2
    rw [List.getElem?_eq_getElem (by omega)]
    simp at he
    rw [he]
  · conv => lhs; rw [← List.take_append_drop i l]
    rw [List.drop_eq_getElem_cons hi]
    have := (List.getElem?_eq_some_iff.1 h1).2
    rw [this]
theorem idx_take {l : List UInt8} {i : Nat} (h : Lib.indexByte l 10 = (i : Int)) : l.take (i + 1) = l.take i ++ [10] := by rw [List.take_add_one, (Lib.indexByte_some h).1]; rfl
theorem idx_none {l : List UInt8} (h : Lib.indexByte l 10 = -1) : 10 ∉ l := by
  intro hm
  obtain ⟨k, hk, he⟩ := List.mem_iff_getElem.1 hm
  exact Lib.indexByte_none h k (by rw [List.getElem?_eq_getElem hk, he])
theorem idx_cases (l : List UInt8) : Lib.indexByte l 10 = -1 ∨ ∃ i : Nat, Lib.indexByte l 10 = (i : Int) := by
  induction l with
  | nil => left; rfl
  | cons b r ih =>
    have e : Lib.indexByte (b :: r) 10 = if b == 10 then 0 else if Lib.indexByte r 10 == -1 then -1 else Lib.indexByte r 10 + 1 := rfl
    rw [e]
    by_cases hb : (b == 10) = true
    · rw [if_pos hb]; exact .inr ⟨0, rfl⟩
    · rw [if_neg hb]
      rcases ih with h | ⟨i, h⟩
      · rw [h]; left; rfl
      · rw [h]
        have : ((i : Int) == -1) = false := by rw [beq_eq_false_iff_ne]; omega
        rw [this]; exact .inr ⟨i + 1, rfl⟩
/-- block Bs bears what is left -/
def Left (w : World) (Bs : Nat) (r : List UInt8) : Prop := w.heap[Bs]? = some (.cells #[.string ⟨r.toArray⟩] 9 (0, 0))
def rem (w : World) (Bs : Nat) : Nat := match w.cell? ⟨Bs, 0, none⟩ with | some (.string s) => s.size | _ => 0
theorem Left.cell {w : World} {Bs : Nat} {r : List UInt8} (h : Left w Bs r) : w.cell? ⟨Bs, 0, none⟩ = some (.string ⟨r.toArray⟩) := by
  unfold Left at h; unfold World.cell?; simp [h]
theorem Left.rem {w : World} {Bs : Nat} {r : List UInt8} (h : Left w Bs r) : rem w Bs = r.length := by
  unfold lnu.rem; rw [h.cell]; rfl
theorem Left.fr {w : World} {Bs : Nat} {r : List UInt8} (h : Left w Bs r) : w.frozen? ⟨Bs, 0, none⟩ = false := by
  unfold Left at h; unfold World.frozen?; simp [h]
theorem Left.lt {w : World} {Bs : Nat} {r : List UInt8} (h : Left w Bs r) : Bs < w.heap.size := (Array.getElem?_eq_some_iff.1 h).1
theorem Left.kept {w w' : World} {Bs : Nat} {r : List UInt8} (h : Left w Bs r) (k : w'.heap[Bs]? = w.heap[Bs]?) : Left w' Bs r := k.trans h
theorem Left.set {w : World} {Bs : Nat} {r : List UInt8} (h : Left w Bs r) (q : List UInt8) : Left (w.setCell ⟨Bs, 0, none⟩ (.string ⟨q.toArray⟩)) Bs q := one_setCell h
/-- what a round keeps: that block -/
def Ks (Bs : Nat) (A B : World) : Prop := B.heap[Bs]? = A.heap[Bs]?
set_option maxRecDepth 100000 in
set_option maxHeartbeats 2000000 in
theorem lines1_in (n : Nat) (hn : 2 ≤ n) (l Bs : Nat) (s : List UInt8) (hs : s.length ≤ 1000) (J : List ByteArray → World → Prop) (W : World) (hBs : Bs < W.heap.size) (hJ : ∀ z A B, J z A → A.grownBy B (some Bs) → J z B)
    (hY : ∀ pre x W1, J pre W1 → pre.length < 1002 → x.size ≤ 1000 → YieldAt Fence.wide (n - 1) Try.prog l #[.string x] W1 fun e W' => e = .returned (.bool true) ∧ J (pre ++ [x]) W' ∧ Ks Bs W1 W')
    (hL : Left W Bs s) (h0 : J [] W) :
    CallsIn Fence.wide n Try.prog 16 #[.func (.yield l) #[] #[], .pointer (some ⟨Bs, 0, none⟩)] W fun e W' => (∃ v, e = .returned v) ∧ ∃ xs, xs = bas (lnU s []) ∧ J xs W' := by
  have h1n : 1 ≤ n := by omega
  refine callsIn_of_wp Try.func16 rfl trivial ?_ rfl
  simp only [Try.ntmps16, List.size_toArray, List.length_cons, List.length_nil, Nat.reduceAdd, Nat.reduceSub, Array.replicate_succ, Array.replicate_zero, List.push_toArray, List.append_toArray, List.nil_append, List.cons_append]
  gi_wp2
  gi_loopw [] (fun wr => ∃ (pre : List (List UInt8)) (r : List UInt8), lnU s [] = pre ++ lnU r [] ∧ pre.length + r.length ≤ 1000 ∧ Hid (J (bas pre) wr) ∧ Hid (Left wr Bs r) ∧ Hid (Bs < wr.heap.size)) (fun wr => rem wr Bs)
  case atStart => exact ⟨[], s, rfl, by simpa using hs, hid h0, hid hL, hid hBs⟩
  case round =>
    clear h0 hL hBs
    obtain ⟨pre, r, hp, hlen, HJ, HL, HB⟩ := hrel
    have c0 := HL.out.cell
    have f0 := HL.out.fr
    have HP := hid hp
    clear hp
    by_cases hr : r = []
    · subst hr
      gi_wp2
      go_end0
      refine ⟨⟨_, rfl⟩, _, rfl, ?_⟩
      have e := HP.out
      simp only [lnU, List.isEmpty_nil, if_true, List.append_nil] at e
      rw [e]; exact HJ.out
    · have hrl : 0 < r.length := by cases r with
        | nil => exact absurd rfl hr
        | cons a t => simp
      have hsz : (⟨r.toArray⟩ : ByteArray).size = r.length := rfl
      have hpos : (0 : Int) < (r.length : Int) := by omega
      have KI := hid (fun (M : World) => (Try.strings_IndexByte ⟨r.toArray⟩ 10 M).mono (R' := fun e w' => e = .returned (.int .i64 (Lib.indexByte r 10)) ∧ M = w') (fun e w' ⟨he, hw⟩ => ⟨he, hw.symm⟩))
      rcases idx_cases r with hx | ⟨i, hx⟩
      · have hfree := hid (idx_none hx)
        rw [hx] at KI
        have HX := hid hx
        have L5 := hid (HL.out.set [])
        have J5 := hid (hJ _ wr _ HJ.out (gb_setCell (World.grownBy.refl wr (some Bs)) (p := ⟨Bs, 0, none⟩) rfl (.string ⟨#[]⟩)))
        obtain ⟨fn, tmps, assign, body, hy, hRd⟩ := hY (bas pre) ⟨r.toArray⟩ _ J5.out (by simp [bas]; omega) (by show r.length ≤ 1000; omega)
        clear hx hr
        gi_wp2_with (refine ⟨trivial, ?_⟩; gi_at_call 17; refine (callsIn_wide.2 (KI.out _)).mono ?_; rintro e w3 ⟨rfl, rfl⟩)
        refine hRd.mono ?_
        rintro e W3 ⟨rfl, hJ3, hk3⟩
        have J3 := hid hJ3
        have L3 := hid (L5.out.kept hk3)
        clear hJ3 hk3 hRd hy
        gi_wp2
        go_roundw
        case rel => exact ⟨pre ++ [r], [], by rw [HP.out, lnU_free r hfree.out]; cases r with
          | nil => exact absurd hrl (by simp)
          | cons a t => simp [lnU], by simp; omega, hid (by have := J3.out; simpa [bas] using this), L3, hid L3.out.lt⟩
        case measure => rw [L3.out.rem, HL.out.rem]; simp; omega
      · obtain ⟨g1, g2, g3⟩ := idx_at hx
        have HG1 := hid g1
        have HSG := hid (show lnU r [] = (r.take i ++ [10]) :: lnU (r.drop (i + 1)) [] from by
          have := lnU_at (r.take i) (r.drop (i + 1)) g1 []
          rw [← g2] at this
          simpa using this)
        have HTK := hid (idx_take hx)
        rw [hx] at KI
        have hii : (0 : Int) ≤ (i : Int) := by omega
        have L5 := hid (HL.out.set (r.drop (i + 1)))
        clear hx hr g1 g2
        gi_upto_region 4 with (refine ⟨trivial, ?_⟩; gi_at_call 17; refine (callsIn_wide.2 (KI.out _)).mono ?_; rintro e w3 ⟨rfl, rfl⟩)
        have z0 := After.cell c0
        have hi1 : (i : Int) + 1 ≤ (r.length : Int) := by omega
        have hi1n : i + 1 ≤ r.length := by omega
        refine wpIn_wide.2 ?_
        refine wp_region_after_tail wr 9 (by kernel_rfl) (by kernel_rfl) ((Below.refl _ _).drew) ?_
        simp only [List.take_succ_cons, List.take_zero, List.drop_succ_cons, List.drop_zero]
        repeat (go_big_quiet_step (fail))
        refine wpQuiet_nil ?_
        intro w5 hw'
        obtain ⟨N3, e3⟩ := hw'
        have b5 : Below wr.heap.size wr w5 := by rw [e3]; exact N3.h
        clear e3 N3 z0
        have LA := hid (HL.out.kept (b5.block Bs HB.out))
        have c5 := LA.out.cell
        have f5 := LA.out.fr
        have L5 := hid (LA.out.set (r.drop (i + 1)))
        have J5 := hid (hJ _ _ _ (hJ _ wr _ HJ.out (gb_of_below b5 (some Bs))) (gb_setCell (World.grownBy.refl w5 (some Bs)) (p := ⟨Bs, 0, none⟩) rfl (.string ⟨(r.drop (i + 1)).toArray⟩)))
        obtain ⟨fn, tmps, assign, body, hy, hRd⟩ := hY (bas pre) ⟨(r.take (i + 1)).toArray⟩ _ J5.out (by simp [bas]; omega) (by show (r.take (i + 1)).length ≤ 1000; simp; omega)
        rw [ext_to, ext_from]
        go_wp2_with fail
        gi_wp2
        refine hRd.mono ?_
        rintro e W3 ⟨rfl, hJ3, hk3⟩
        have J3 := hid hJ3
        have L3 := hid (L5.out.kept hk3)
        clear hJ3 hk3 hRd hy
        gi_wp2
        go_roundw
        case rel => exact ⟨pre ++ [r.take i ++ [10]], r.drop (i + 1), by rw [HP.out, HSG.out]; simp, by simp; omega, hid (by have := J3.out; rw [HTK.out] at this; simpa [bas] using this), L3, hid L3.out.lt⟩
        case measure => rw [L3.out.rem, HL.out.rem]; simp; omega
end Go.Proofs.Ytnokfpojgmndmaa.lnu
