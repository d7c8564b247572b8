/- The program's digest of its numbers. -/
import Derived.Test.YtnfklhebcloolaaDoorMdN
namespace Go.Proofs.YtnfklhebcloolaaDoor.mdc
open Go.RowKit
open Go.Proofs.YtnfklhebcloolaaDoor.kit Go.Proofs.YtnfklhebcloolaaDoor.mdm
set_option linter.unusedVariables false
set_option linter.unusedSimpArgs false
set_option maxRecDepth 20000
theorem ds_set (S : Q4) (i : Nat) (hi : i < 16) : (b16 (ds S i)).set i (.int .u8 ((qv S (i / 4) / 2 ^ (8 * (i % 4)) % 256 : Nat) : Int)) = b16 (ds S (i + 1)) := by
  revert i
  apply lt16
  simp [b16, ds, dig, leB, qv, Nat.div_div_eq_div_mul, List.replicate]
/-- what the loop of digest keeps -/
structure Dk (w wr : World) (g i : Nat) (S : Q4) : Prop where
  b : Below w.heap.size w wr
  r : Box wr w.heap.size (b16 (List.replicate 16 0))
  o : Box wr (w.heap.size + 1) (b16 (ds S i))
  n : Box wr g (q4 .u32 S)
set_option maxHeartbeats 1000000 in
theorem digest_any (w : World) (T : Tab w) (g : Nat) (x : Q4) (P : List Int) (t : Nat) (hx : x.ok) (HB : Box w g (hv x P t)) :
    Calls Tryd.prog 24 #[.pointer (some ⟨g, 0, none⟩)] w fun e w' => e = .returned (.agg (b16 (dig (add4 mdm.start x))).toArray) ∧ Below w.heap.size w w' := by
  have HN := hid (fun w' (b : Below w.heap.size w w') => numbers_any w' (T.next b) g x P t hx (HB.next b))
  obtain ⟨S, hS⟩ : ∃ S, S = add4 mdm.start x := ⟨_, rfl⟩
  have hok : S.ok := by rw [hS]; exact add_ok _ _
  rw [← hS] at HN ⊢
  clear hS T HB hx
  have b2 := ((Below.refl w.heap.size w).alloc (Nat.le_refl _) (.cells (b16 (List.replicate 16 0)).toArray 24))
  have b3 := hid (b2.alloc b2.size (.cells (b16 (ds S 0)).toArray 24))
  have r0 := hid ((Box.made w (b16 (List.replicate 16 0)).toArray 24).next ((Below.refl _ _).alloc (Nat.le_refl _) (.cells (b16 (ds S 0)).toArray 24)))
  have o0 := hid (show Box ((w.alloc (.cells (b16 (List.replicate 16 0)).toArray 24)).alloc (.cells (b16 (ds S 0)).toArray 24)) (w.heap.size + 1) (b16 (ds S 0)) by
    have := Box.made (w.alloc (.cells (b16 (List.replicate 16 0)).toArray 24)) (b16 (ds S 0)).toArray 24; simpa only [World.size_alloc] using this)
  clear b2
  go_enter Tryd.func24, Tryd.ntmps24
  go_upto_region 2 with fail
  change Code.wp _ _ _ _ ((w.alloc (.cells (b16 (List.replicate 16 0)).toArray 24)).alloc (.cells (b16 (ds S 0)).toArray 24))
  generalize (w.alloc (.cells (b16 (List.replicate 16 0)).toArray 24)).alloc (.cells (b16 (ds S 0)).toArray 24) = W at *
  unfold q4 at HN
  go_upto_region 3 with (go_at_call 44; ((with_reducible refine (HN.out W b3.out).mono ?_); rintro e w1 ⟨rfl, b4⟩))
  have D0 := hid (show Dk w (w1.alloc (.cells (q4 .u32 S).toArray 32)) w1.heap.size 0 S from by
    have b5 := (b3.out.trans (b4.mono b3.out.size))
    have b6 := b4.alloc b4.size (.cells (q4 .u32 S).toArray 32)
    exact ⟨b5.alloc b5.size _, r0.out.next b6, o0.out.next b6, by have := Box.made w1 (q4 .u32 S).toArray 32; simpa using this⟩)
  have hsz : w.heap.size + 1 < w1.heap.size := Nat.lt_of_lt_of_le o0.out.lt b4.size
  clear HN b3 b4 r0 o0
  change Code.wp _ _ _ _ (w1.alloc (.cells (q4 .u32 S).toArray 32))
  generalize w1.alloc (.cells (q4 .u32 S).toArray 32) = wx at *
  generalize w1.heap.size = g2 at *
  have hok := hid hok
  go_wp2_with fail
  go_loopw [5, 8] (fun _ iv wr => ∃ i : Nat, i ≤ 16 ∧ iv = .int .i64 i ∧ Hid (Dk w wr g2 i S)) (fun _ iv _ => 16 - (intOf iv).toNat)
  case atStart => exact ⟨0, by omega, rfl, D0⟩
  case round =>
    clear D0
    obtain ⟨i, hi, rfl, HD⟩ := hrel
    by_cases hlt : i < 16
    · have HDS := hid (ds_set S i hlt)
      have hq4 := q4u_at S (i / 4) (by omega)
      have hvb := qv_lt hok.out (i / 4)
      obtain ⟨v, hv⟩ : ∃ v, v = qv S (i / 4) := ⟨_, rfl⟩
      obtain ⟨k, hk⟩ : ∃ k, k = i / 4 := ⟨_, rfl⟩
      obtain ⟨m, hm⟩ : ∃ m, m = i % 4 := ⟨_, rfl⟩
      rw [← hv] at hq4 HDS hvb
      rw [← hk] at hq4
      rw [← hm] at HDS
      have hd : (b16 (ds S i))[i]? = some ((b16 (ds S i)).getD i undef) := by
        have : i < (b16 (ds S i)).length := by simp [b16, ds, dig_len]; omega
        rw [List.getD_eq_getElem?_getD, List.getElem?_eq_getElem this]; rfl
      have y0 := HD.out.n.at_ k _ hq4
      have y1 := HD.out.o.at_ i _ hd
      have f1 := HD.out.o.fr i
      have hk4 : k < 4 := by omega
      have hm4 : m < 4 := by omega
      have hix : (i : Int) / 4 = (k : Int) := by omega
      have him : (i : Int) % 4 = (m : Int) := by omega
      clear hd hq4 hv hk hm
      have hcast : (v : Int) / 2 ^ (8 * m) % 256 = ((v / 2 ^ (8 * m) % 256 : Nat) : Int) := by rw [Int.natCast_emod, Int.natCast_ediv, Int.natCast_pow]; rfl
      have HC := hid hcast
      clear hcast
      go_wp2_with fail
      rw [HC.out]
      go_roundw
      case rel => exact ⟨i + 1, by omega, by go_num, hid ⟨HD.out.b.setCell (p := ⟨w.heap.size + 1, i, none⟩) (Nat.le_succ _) _, HD.out.r.other (by omega) _, by rw [← HDS.out]; exact HD.out.o.set i _, HD.out.n.other (by omega) _⟩⟩
      case measure => simp [intOf]; omega
    · obtain rfl : i = 16 := by omega
      have HO16 := hid (show Box wr (w.heap.size + 1) (b16 (dig S)) by have := HD.out.o; rw [ds_16] at this; exact this)
      have HRS := hid HD.out.r
      have HBW := hid HD.out.b
      clear HD hsz hok
      have HLn := hid (show (b16 (dig S)).length = 16 by simp [b16, dig_len])
      have ONE := hid (show (b16 (dig S)).all (·.oneCell') = true by rw [List.all_eq_true]; intro x hx; obtain ⟨y, _, rfl⟩ := List.mem_map.1 hx; rfl)
      obtain ⟨V, hV⟩ : ∃ V, V = b16 (dig S) := ⟨_, rfl⟩
      rw [← hV] at HO16 HLn ONE
      have HVE := hid hV
      clear hV
      have hra := hid (show wr.rangeAt (w.heap.size + 1) 0 V from fun j v hv => by rw [Nat.zero_add]; exact HO16.out.at_ j v hv)
      have hth := hid (show wr.there w.heap.size 0 V.length from fun j hj => ⟨by rw [Nat.zero_add]; have := HRS.out.at_ j (.int .u8 0) (zeros_at16 j (by rw [HLn.out] at hj; exact hj)); rw [this]; rfl, by rw [Nat.zero_add]; exact HRS.out.fr j⟩)
      have hz2 := hid (show (Tryd.prog.info? 24).map (·.size) = some V.length by rw [HLn.out]; kernel_rfl)
      clear HO16 HRS
      go_wp2_with (first | ((refine wpList_load_mid rfl 24 (.tmp 3) rfl (w.heap.size + 1) 0 rfl V (.array 16 5) hra.out (by kernel_rfl) rfl hz2.out ?_)) | (refine wpList_store_new rfl 24 (.tmp 2) (.tmp 23) rfl w.heap.size V rfl rfl hth.out hz2.out ONE.out w.heap.size w HBW.out (Nat.le_refl _) ?_; intro w9 R9 B9 T9; clear T9))
      have hld := run_loadVar_mid (P := Tryd.prog) w9 w.heap.size 0 24 V (.array 16 5) R9.out (by kernel_rfl) rfl hz2.out
      refine bodyPost_ret (v := .agg V.toArray) ?_ rfl ⟨by rw [← HVE.out], B9.out⟩
      refine (results_cell1 rfl _ _ _).trans ?_
      show ((asAddr (.pointer (some ⟨w.heap.size, 0, none⟩))).run Tryd.prog w9).andThen _ = _
      simp [asAddr, Result.andThen, hld]
end Go.Proofs.YtnfklhebcloolaaDoor.mdc
