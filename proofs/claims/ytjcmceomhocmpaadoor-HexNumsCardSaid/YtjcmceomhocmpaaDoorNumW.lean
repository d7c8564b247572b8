/- The contract of hex.Num, and of the document's own. -/
import Derived.Test.YtjcmceomhocmpaaDoorStrNums
import Derived.Test.YtjcmceomhocmpaaDoorNumMath
import Derived.Test.YtjcmceomhocmpaaDoorShelf
import Derived.Lib.SmallJoins
import Derived.Lib.AppendIntMem
import Derived.Deep.RegionHeld3
namespace Go.Proofs.YtjcmceomhocmpaaDoor.nmc
open Go.RowKit
open Go.Proofs.YtjcmceomhocmpaaDoor.kit Go.Proofs.YtjcmceomhocmpaaDoor.hxm Go.Proofs.YtjcmceomhocmpaaDoor.hxt Go.Proofs.YtjcmceomhocmpaaDoor.nmm
open Go.Lib (decDigits)
set_option linter.unusedVariables false
set_option linter.unusedSimpArgs false

theorem var_below {P : Program} {w w' : World} {nm : String} {cs : Array Value} (h : w.var? P nm = some cs) (hb : Below w.heap.size w w') : w'.var? P nm = some cs := by
  unfold World.var? at h ⊢
  cases hg : P.globalNamed nm with
  | none => rw [hg] at h; cases h
  | some g =>
    rw [hg] at h
    simp only [Option.bind_some] at h ⊢
    have hlt : g < w.heap.size := by
      rcases Nat.lt_or_ge g w.heap.size with h' | h'
      · exact h'
      · rw [Array.getElem?_eq_none h'] at h; cases h
    rw [hb.block g hlt]
    exact h
def decS (u : Nat) : ByteArray := ⟨(decDigits u).toArray⟩

theorem num_tab (n : Int) (h0 : -9223372036854775808 ≤ n) (h1 : n ≤ 9223372036854775807) (w : World) (hT0 : Lib.TabIs Tryd.prog w "internal/strconv.uint64pow10" .u64 Lib.pow10Tab) :
    Calls Tryd.prog 15 #[.int .i64 n] w fun e w' => e = .returned (.string (decS n.toNat)) ∧ Below w.heap.size w w' := by
  have HT := hid hT0
  have key : ∀ m : Int, 0 ≤ m → m ≤ 9223372036854775807 → Calls Tryd.prog 24 #[.int .i64 m] w fun e w' => e = .returned (.string (decS m.toNat)) ∧ Below w.heap.size w w' := fun m hm0 hm1 =>
    (Tryd.strconv_Itoa m (by omega) hm1 w HT.out).mono fun e w' ⟨he, k, os, hw⟩ => ⟨by rw [he]; unfold Lib.itoa decS; rw [if_neg (by omega)], by rw [hw]; exact Lib.below_grow _ _ (Nat.le_refl _) _ _⟩
  have HK := hid key
  clear hT0 key
  have e : n.toNat = (max n 0).toNat := by omega
  have HE := hid e
  clear e
  go_enter Tryd.func15, Tryd.ntmps15
  go_wp2_with (go_at_call 24; refine (HK.out _ (by omega) (by omega)).mono ?_; rintro e w' ⟨rfl, hb⟩)
  go_ret
  exact ⟨by rw [HE.out]; rfl, hb⟩

theorem keep_alloc {w W : World} {o : Obj} (h : Below w.heap.size w W) : Below w.heap.size w (W.alloc o) := h.alloc h.size _
theorem dec_str {u : Nat} (h : u < 10) : strOfNums [48 + (u : Int)] = decS u := by
  unfold decS; rw [dec_lt h]; unfold strOfNums
  have : (48 + (u : Int)).toNat = 48 + u := by omega
  simp [this]
theorem dec_cat {u : Nat} (h : ¬ u < 10) : decS (u / 10) ++ strOfNums [48 + (u : Int) % 10] = decS u := by
  unfold decS; rw [dec_ge h]; unfold strOfNums
  have : (48 + (u : Int) % 10).toNat = 48 + u % 10 := by omega
  rw [ByteArray.mk_append_mk]
  simp only [List.map_cons, List.map_nil, this]
theorem decS_size (u : Nat) (h : u < 10000000000000000000) : (decS u).size ≤ 19 := by
  have := dec_len u 19 (by decide) (by omega)
  show (decDigits u).toArray.size ≤ 19
  simpa using this

set_option maxRecDepth 100000 in
set_option maxHeartbeats 1000000 in
theorem ref_num (u : Nat) : ∀ (w : World), u ≤ 9223372036854775807 → Calls Tryd.prog 16 #[.int .i64 u] w fun e w' => e = .returned (.string (decS u)) ∧ Below w.heap.size w w' := by
  induction u using Nat.strongRecOn with
  | ind u ih =>
    intro w hu
    by_cases h10 : u < 10
    · have hcv := conv_nums (nums_lit (w := w) (k := .u8) (e := 5) (cs := #[.int .u8 (48 + (u : Int))]) [48 + (u : Int)] (n := 1) rfl (by decide) rfl)
      have hd := hid (dec_str h10)
      have h10' : (u : Int) < 10 := by omega
      clear ih hu
      go_enter Tryd.func16, Tryd.ntmps16
      go_wp2
      rw [hd.out]
      go_ret
      exact ⟨rfl, (Below.refl _ _).alloc (Nat.le_refl _) _⟩
    · have IH := hid (show ∀ w' : World, Calls Tryd.prog 16 #[.int .i64 ((u : Int) / 10)] w' fun e w'' => e = .returned (.string (decS (u / 10))) ∧ Below w'.heap.size w' w'' from fun w' => by
        have e : (u : Int) / 10 = ((u / 10 : Nat) : Int) := by omega
        rw [e]; exact ih (u / 10) (by omega) w' (by omega))
      have hd := hid (dec_cat h10)
      have h10' : ¬ (u : Int) < 10 := by omega
      have hw1 : IntKind.i64.wrap ((u : Int).tdiv 10) = (u : Int) / 10 := by rw [Int.tdiv_eq_ediv_of_nonneg (by omega)]; exact IntWalk.i64_in _ (by omega)
      have hw2 : IntKind.i64.wrap ((u : Int) / 10) = (u : Int) / 10 := IntWalk.i64_in _ (by omega)
      have hw3 : (u : Int).tmod 10 = (u : Int) % 10 := Int.tmod_eq_emod_of_nonneg (by omega)
      have hw4 : IntKind.i64.wrap (48 + (u : Int) % 10) = 48 + (u : Int) % 10 := IntWalk.i64_in _ (by omega)
      have hw5 : IntKind.u8.wrap (48 + (u : Int) % 10) = 48 + (u : Int) % 10 := by rw [IntKind.wrap_u8]; omega
      have hw6 : (48 + (u : Int) % 10) % 256 = 48 + (u : Int) % 10 := by omega
      have hcv := fun (W : World) => conv_nums (nums_lit (w := W) (k := .u8) (e := 5) (cs := #[.int .u8 (48 + (u : Int) % 10)]) [48 + (u : Int) % 10] (n := 1) rfl (by decide) rfl)
      have hcvd := fun (W : World) => conv_nums (nums_lit (w := W) (k := .u8) (e := 5) (cs := #[.int .u8 (48 + (u : Int) % 10)]) [48 + (u : Int) % 10] (n := 1) rfl (by decide) rfl).drew
      have hsz : (decS (u / 10)).size ≤ 19 := decS_size _ (by omega)
      have hs1 : ¬ 9223372036854775807 < (decS (u / 10)).size + (strOfNums [48 + (u : Int) % 10]).size := by rw [strOfNums_size]; simp; omega
      clear ih hsz
      go_enter Tryd.func16, Tryd.ntmps16
      go_wp2_with fail
      go_region_with ((go_at_call 16; refine (IH.out _).mono ?_; rintro e w1 ⟨rfl, hg⟩; try (have hcv2 := conv_nums (((nums_lit (w := w) (k := .u8) (e := 5) (cs := #[.int .u8 (48 + (u : Int) % 10)]) [48 + (u : Int) % 10] (n := 1) rfl (by decide) rfl).drew).below (hg.mono (by simp))))))
      all_goals
        rw [hd.out]
        clear hcv hcvd hw1 hw2 hw3 hw4 hw5 hw6 hs1
        go_wp2_with fail
        go_ret
        exact ⟨rfl, by first | exact (Below.refl w.heap.size w).drew.trans hg | exact ((Below.refl w.heap.size w).drew.trans hg).alloc (by have := hg.size; simpa using this) _ | exact (((Below.refl w.heap.size w).alloc (Nat.le_refl _) _).drew).trans (hg.mono (by simp))⟩

/-- what is read: the number of digits, or that there is none -/
def NumPost (l : List UInt8) (ok no : Value) (w : World) (e : Ending) (w' : World) : Prop :=
  Below w.heap.size w w' ∧ ((∃ n : Nat, IsNum l n ∧ e = .returned (.tuple #[.int .i64 n, ok])) ∨ ((¬ ∃ n, IsNum l n) ∧ e = .returned (.tuple #[.int .i64 0, no])))
theorem str_eq_true {a b : ByteArray} (h : a = b) : (a.toList == b.toList) = true := by rw [h]; exact beq_self_eq_true _
theorem str_eq_false {a b : ByteArray} (h : ¬ a = b) : (a.toList == b.toList) = false := by
  rw [beq_eq_false_iff_ne]
  intro e
  rw [ByteArray.toList_eq, ByteArray.toList_eq] at e
  exact h (ByteArray.ext (Array.toList_inj.1 e))
theorem decS_eq {s : ByteArray} {u : Nat} : decS u = s ↔ s.data.toList = decDigits u := by
  unfold decS
  constructor
  · intro h; rw [← h]
  · intro h; apply ByteArray.ext; apply Array.toList_inj.1; simp [h]

end Go.Proofs.YtjcmceomhocmpaaDoor.nmc
