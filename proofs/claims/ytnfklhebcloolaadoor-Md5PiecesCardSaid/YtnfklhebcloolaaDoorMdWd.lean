/- The program's words of a block. -/
import Derived.Test.YtnfklhebcloolaaDoorMdN
namespace Go.Proofs.YtnfklhebcloolaaDoor.mdc
open Go.RowKit
open Go.Proofs.YtnfklhebcloolaaDoor.kit Go.Proofs.YtnfklhebcloolaaDoor.mdm
set_option linter.unusedVariables false
set_option linter.unusedSimpArgs false
set_option maxRecDepth 20000
def bt (P : List Int) (k : Nat) : Nat := (P.getD k 0).toNat
/-- word j out of the first i bytes -/
def pw (P : List Int) (i j : Nat) : Nat := (if 4 * j < i then bt P (4 * j) else 0) + (if 4 * j + 1 < i then 256 * bt P (4 * j + 1) else 0) + (if 4 * j + 2 < i then 65536 * bt P (4 * j + 2) else 0) + (if 4 * j + 3 < i then 16777216 * bt P (4 * j + 3) else 0)
def wl (P : List Int) (i : Nat) : List Value := (List.range 16).map fun j => Value.int .u32 (pw P i j : Nat)
theorem pw_all (P : List Int) (j : Nat) (hj : j < 16) : pw P 64 j = word P j := by
  unfold pw word bt
  rw [if_pos (by omega), if_pos (by omega), if_pos (by omega), if_pos (by omega)]
theorem pw_other (P : List Int) (i j : Nat) (h : j ≠ i / 4) : pw P (i + 1) j = pw P i j := by
  unfold pw
  by_cases h1 : j < i / 4
  · repeat rw [if_pos (by omega)]
  · repeat rw [if_neg (by omega)]
theorem pw_step (P : List Int) (hP : Oct P) (i : Nat) : pw P i (i / 4) < 2 ^ (8 * (i % 4)) ∧ pw P (i + 1) (i / 4) = pw P i (i / 4) + bt P i * 2 ^ (8 * (i % 4)) := by
  have hb : ∀ k, bt P k ≤ 255 := fun k => by have := hP.at k; unfold bt; omega
  have h0 := hb (4 * (i / 4))
  have h1 := hb (4 * (i / 4) + 1)
  have h2 := hb (4 * (i / 4) + 2)
  have hc : i % 4 = 0 ∨ i % 4 = 1 ∨ i % 4 = 2 ∨ i % 4 = 3 := by omega
  rcases hc with h | h | h | h
  · have e : bt P i = bt P (4 * (i / 4)) := by congr 1; omega
    rw [h, e]; unfold pw; constructor
    · repeat rw [if_neg (by omega)]
      decide
    · rw [if_pos (show 4 * (i / 4) < i + 1 by omega)]; repeat rw [if_neg (by omega)]
      simp
  · have e : bt P i = bt P (4 * (i / 4) + 1) := by congr 1; omega
    rw [h, e]; unfold pw; constructor
    · rw [if_pos (show 4 * (i / 4) < i by omega)]; repeat rw [if_neg (by omega)]
      omega
    · rw [if_pos (show 4 * (i / 4) < i + 1 by omega), if_pos (show 4 * (i / 4) < i by omega), if_pos (show 4 * (i / 4) + 1 < i + 1 by omega)]; repeat rw [if_neg (by omega)]
      omega
  · have e : bt P i = bt P (4 * (i / 4) + 2) := by congr 1; omega
    rw [h, e]; unfold pw; constructor
    · rw [if_pos (show 4 * (i / 4) < i by omega), if_pos (show 4 * (i / 4) + 1 < i by omega)]; repeat rw [if_neg (by omega)]
      omega
    · rw [if_pos (show 4 * (i / 4) < i + 1 by omega), if_pos (show 4 * (i / 4) < i by omega), if_pos (show 4 * (i / 4) + 1 < i + 1 by omega), if_pos (show 4 * (i / 4) + 1 < i by omega), if_pos (show 4 * (i / 4) + 2 < i + 1 by omega)]; repeat rw [if_neg (by omega)]
      omega
  · have e : bt P i = bt P (4 * (i / 4) + 3) := by congr 1; omega
    rw [h, e]; unfold pw; constructor
    · rw [if_pos (show 4 * (i / 4) < i by omega), if_pos (show 4 * (i / 4) + 1 < i by omega), if_pos (show 4 * (i / 4) + 2 < i by omega), if_neg (by omega)]
      omega
    · rw [if_pos (show 4 * (i / 4) < i + 1 by omega), if_pos (show 4 * (i / 4) < i by omega), if_pos (show 4 * (i / 4) + 1 < i + 1 by omega), if_pos (show 4 * (i / 4) + 1 < i by omega), if_pos (show 4 * (i / 4) + 2 < i + 1 by omega), if_pos (show 4 * (i / 4) + 2 < i by omega), if_pos (show 4 * (i / 4) + 3 < i + 1 by omega), if_neg (by omega)]
      omega
theorem or_add (a b m : Nat) (h : a < 2 ^ m) : a ||| b * 2 ^ m = a + b * 2 ^ m := by
  have := Nat.shiftLeft_add_eq_or_of_lt h b
  rw [Nat.shiftLeft_eq] at this
  rw [Nat.or_comm, ← this, Nat.add_comm]
theorem wl_at (P : List Int) (i k : Nat) (hk : k < 16) : (wl P i)[k]? = some (.int .u32 (pw P i k : Nat)) := by
  unfold wl; simp [hk]
theorem wl_succ (P : List Int) (i : Nat) (hi : i < 64) : (wl P i).set (i / 4) (.int .u32 (pw P (i + 1) (i / 4) : Nat)) = wl P (i + 1) := by
  refine List.ext_getElem? fun j => ?_
  by_cases hj : j < 16
  · rw [wl_at _ _ _ hj]
    by_cases h : i / 4 = j
    · subst h
      rw [List.getElem?_set_self (by simp [wl]; omega)]
    · rw [List.getElem?_set_ne h, wl_at _ _ _ hj, pw_other P i j (fun e => h e.symm)]
  · rw [List.getElem?_eq_none (by simp [wl]; omega), List.getElem?_eq_none (by simp [wl]; omega)]
theorem idx64 (V : Array Value) (k : Nat) (v : Value) (hk : k < 64) (hV : V.size = 64) (hv : V[k]? = some v) (hc : v.cells.size = 1) (w : World) : (Instr.index 33 (.agg V) (.int .i64 (k : Nat))).run Tryd.prog w = .ok v w := by
  have h1 : (k : Int) < 64 := by omega
  have h2 := Tryd.underlying33
  have h3 : Tryd.prog.cellsOf 5 = 1 := by kernel_rfl
  simp [Instr.index, run_underlying h2, asIntOf, go_sem, h1, h3]
  rw [if_pos hk, hv]
  rfl
theorem b16_at (P : List Int) (k : Nat) (hk : k < P.length) : (b16 P)[k]? = some (.int .u8 (P.getD k 0)) := by
  unfold b16
  rw [List.getElem?_map, List.getD_eq_getElem?_getD, List.getElem?_eq_getElem hk]; rfl
theorem wl_0 (P : List Int) : wl P 0 = (List.replicate 16 (.int .u32 0)) := rfl
theorem wl_zero (P : List Int) : (wl P 0).toArray = #[.int .u32 0, .int .u32 0, .int .u32 0, .int .u32 0, .int .u32 0, .int .u32 0, .int .u32 0, .int .u32 0, .int .u32 0, .int .u32 0, .int .u32 0, .int .u32 0, .int .u32 0, .int .u32 0, .int .u32 0, .int .u32 0] := rfl
/-- what the loop of words keeps -/
structure Wk (w wr : World) (P : List Int) (i : Nat) : Prop where
  b : Below w.heap.size w wr
  r : Box wr (w.heap.size + 1) (wl P 0)
  n : Box wr (w.heap.size + 1 + 1) (wl P i)
theorem Wk.next {w wr w' : World} {P : List Int} {i : Nat} (h : Wk w wr P i) (hb : Below wr.heap.size wr w') : Wk w w' P i := ⟨h.b.trans (hb.mono h.b.size), h.r.next hb, h.n.next hb⟩
set_option maxHeartbeats 1000000 in
theorem words_any (w : World) (P : List Int) (hP : Oct P) (hl : P.length = 64) (V : Array Value) (hV : V = (b16 P).toArray) :
    Calls Tryd.prog 43 #[.agg V] w fun e w' => e = .returned (.agg (wl P 64).toArray) ∧ Below w.heap.size w w' := by
  have HV := hid hV
  have HP := hid hP
  have hVs : V.size = 64 := by rw [hV]; simp [b16, hl]
  have hVl := hid (show V.toList = b16 P by rw [hV])
  have IX := hid (fun k (hk : k < 64) w => idx64 V k (.int .u8 (P.getD k 0)) hk hVs (by rw [hV, List.getElem?_toArray]; exact b16_at P k (by omega)) rfl w)
  have K0 : Hid (Wk w (((w.alloc (.cells V 33)).alloc (.cells (wl P 0).toArray 82)).alloc (.cells (wl P 0).toArray 82)) P 0) := hid (by
    have b1 := (Below.refl w.heap.size w).alloc (Nat.le_refl _) (.cells V 33)
    have b2 := b1.alloc b1.size (.cells (wl P 0).toArray 82)
    refine ⟨b2.alloc b2.size _, ?_, ?_⟩
    · have := (Box.made (w.alloc (.cells V 33)) (wl P 0).toArray 82).next ((Below.refl _ _).alloc (Nat.le_refl _) (.cells (wl P 0).toArray 82)); simpa only [World.size_alloc] using this
    · have := Box.made ((w.alloc (.cells V 33)).alloc (.cells (wl P 0).toArray 82)) (wl P 0).toArray 82; simpa only [World.size_alloc] using this)
  have V0 := hid (show Box (((w.alloc (.cells V 33)).alloc (.cells (wl P 0).toArray 82)).alloc (.cells (wl P 0).toArray 82)) w.heap.size (b16 P) by
    have := ((Box.made w V 33).next ((Below.refl _ _).alloc (Nat.le_refl _) (.cells (wl P 0).toArray 82))).next ((Below.refl _ _).alloc (Nat.le_refl _) (.cells (wl P 0).toArray 82))
    rw [hVl.out] at this; exact this)
  clear hP hV
  go_enter Tryd.func43, Tryd.ntmps43
  go_upto_region 2 with fail
  change Code.wp _ _ _ _ (((w.alloc (.cells V 33)).alloc (.cells (wl P 0).toArray 82)).alloc (.cells (wl P 0).toArray 82))
  generalize (((w.alloc (.cells V 33)).alloc (.cells (wl P 0).toArray 82)).alloc (.cells (wl P 0).toArray 82)) = W at *
  have hra := hid (show W.rangeAt w.heap.size 0 (b16 P) from fun j v hv => by rw [Nat.zero_add]; exact V0.out.at_ j v hv)
  have hz2 := hid (show (Tryd.prog.info? 33).map (·.size) = some (b16 P).length by rw [show (b16 P).length = 64 by simp [b16, hl]]; kernel_rfl)
  go_upto_region 3 with (refine wpList_load_mid rfl 33 (.tmp 1) rfl w.heap.size 0 rfl (b16 P) (.array 64 5) hra.out (by kernel_rfl) rfl hz2.out ?_)
  rw [← HV.out]
  clear V0 hra hz2
  go_loopw [4, 5, 7] (fun _ _ iv wr => ∃ i : Nat, i ≤ 64 ∧ iv = .int .i64 i ∧ Hid (Wk w wr P i)) (fun _ _ iv _ => 64 - (intOf iv).toNat)
  case atStart => exact ⟨0, by omega, rfl, K0⟩
  case round =>
    clear K0
    obtain ⟨i, hi, rfl, HK⟩ := hrel
    by_cases hlt : i < 64
    · have hix := IX.out i hlt
      have HWS := hid (wl_succ P i hlt)
      obtain ⟨pl, ps⟩ := pw_step P HP.out i
      have hb := HP.out.at i
      have q0 := wl_at P i (i / 4) (by omega)
      have hbt : P.getD i 0 = (bt P i : Nat) := by unfold bt; omega
      rw [hbt] at hix hb
      clear hbt
      obtain ⟨v, hv⟩ : ∃ v, v = pw P i (i / 4) := ⟨_, rfl⟩
      obtain ⟨c, hc⟩ : ∃ c, c = bt P i := ⟨_, rfl⟩
      obtain ⟨k, hk⟩ : ∃ k, k = i / 4 := ⟨_, rfl⟩
      obtain ⟨m, hm⟩ : ∃ m, m = i % 4 := ⟨_, rfl⟩
      rw [← hv] at pl ps q0
      rw [← hc] at ps hix hb
      rw [← hk] at ps q0 HWS
      rw [← hm] at ps pl
      rw [ps] at HWS
      have hor := or_add v c (8 * m) pl
      have hm4 : m < 4 := by omega
      have hk4 : k < 16 := by omega
      have h24 : 2 ^ (8 * m) ≤ 16777216 := by
        have : m = 0 ∨ m = 1 ∨ m = 2 ∨ m = 3 := by omega
        rcases this with rfl | rfl | rfl | rfl <;> decide
      have hcb : c * 2 ^ (8 * m) ≤ 255 * 16777216 := Nat.mul_le_mul (by omega) h24
      have hkx : (i : Int) / 4 = (k : Int) := by omega
      have him : (i : Int) % 4 = (m : Int) := by omega
      clear hv hc hk hm ps
      have y0 := HK.out.n.at_ k _ q0
      have z0 := After.cell y0
      have hx0 := u32_or_nat v (c * 2 ^ (8 * m)) (by omega) (by omega)
      rw [hor] at hx0
      go_upto_region 5 with fail
      refine wp_region_after_tail wr 11 (by kernel_rfl) (by kernel_rfl) ((Below.refl _ _).drew) ?_
      simp only [List.take_succ_cons, List.take_zero, List.drop_succ_cons, List.drop_zero]
      have hp2 : (c : Int) * 2 ^ (8 * m) % 4294967296 = ((c * 2 ^ (8 * m) : Nat) : Int) := by
        have e : (c : Int) * 2 ^ (8 * m) = ((c * 2 ^ (8 * m) : Nat) : Int) := by rw [Int.natCast_mul, Int.natCast_pow]; rfl
        rw [e]; exact Int.emod_eq_of_lt (by omega) (by omega)
      obtain ⟨z, hz⟩ : ∃ z, z = c * 2 ^ (8 * m) := ⟨_, rfl⟩
      rw [← hz] at hp2 hx0 HWS hcb
      clear hz hor
      repeat (go_big_quiet_step (fail))
      refine wpQuiet_nil ?_
      intro w3 hw'
      obtain ⟨N3, e3⟩ := hw'
      have b3 : Below wr.heap.size wr w3 := by rw [e3]; exact N3.h
      clear e3 N3 z0 y0 hx0 hp2 hcb h24 pl hix hb
      have k3 := HK.out.next b3
      have n0 := k3.n.at_ k _ q0
      have f0 := k3.n.fr k
      have K3 := hid k3
      clear k3 b3 HK q0
      go_wp2_with fail
      go_roundw
      case rel => exact ⟨i + 1, by omega, by go_num, hid ⟨K3.out.b.setCell (p := ⟨w.heap.size + 1 + 1, k, none⟩) (show w.heap.size ≤ w.heap.size + 1 + 1 by omega) _, K3.out.r.other (by omega) _, by rw [← HWS.out]; exact K3.out.n.set k _⟩⟩
      case measure => simp [intOf]; omega
    · obtain rfl : i = 64 := by omega
      have HO := hid HK.out.n
      have HRS := hid HK.out.r
      have HBW := hid HK.out.b
      clear HK IX
      have HLn := hid (show (wl P 64).length = 16 by simp [wl])
      have ONE := hid (show (wl P 64).all (·.oneCell') = true by rw [List.all_eq_true]; intro x hx; obtain ⟨y, _, rfl⟩ := List.mem_map.1 hx; rfl)
      obtain ⟨U, hU⟩ : ∃ U, U = wl P 64 := ⟨_, rfl⟩
      rw [← hU] at HO HLn ONE
      have HVE := hid hU
      clear hU
      have hra := hid (show wr.rangeAt (w.heap.size + 1 + 1) 0 U from fun j v hv => by rw [Nat.zero_add]; exact HO.out.at_ j v hv)
      have hth := hid (show wr.there (w.heap.size + 1) 0 U.length from fun j hj => ⟨by rw [Nat.zero_add]; have := HRS.out.at_ j _ (wl_at P 0 j (by rw [HLn.out] at hj; exact hj)); rw [this]; rfl, by rw [Nat.zero_add]; exact HRS.out.fr j⟩)
      have hz2 := hid (show (Tryd.prog.info? 82).map (·.size) = some U.length by rw [HLn.out]; kernel_rfl)
      clear HO HRS
      go_wp2_with (first | ((refine wpList_load_mid rfl 82 (.tmp 3) rfl (w.heap.size + 1 + 1) 0 rfl U (.array 16 31) hra.out (by kernel_rfl) rfl hz2.out ?_)) | (refine wpList_store_new rfl 82 (.tmp 2) (.tmp 24) rfl (w.heap.size + 1) U rfl rfl hth.out hz2.out ONE.out w.heap.size w HBW.out (Nat.le_succ _) ?_; intro w9 R9 B9 T9; clear T9))
      have hld := run_loadVar_mid (P := Tryd.prog) w9 (w.heap.size + 1) 0 82 U (.array 16 31) R9.out (by kernel_rfl) rfl hz2.out
      refine bodyPost_ret (v := .agg U.toArray) ?_ rfl ⟨by rw [← HVE.out], B9.out⟩
      refine (results_cell1 rfl _ _ _).trans ?_
      show ((asAddr (.pointer (some ⟨w.heap.size + 1, 0, none⟩))).run Tryd.prog w9).andThen _ = _
      simp [asAddr, Result.andThen, hld]
end Go.Proofs.YtnfklhebcloolaaDoor.mdc
