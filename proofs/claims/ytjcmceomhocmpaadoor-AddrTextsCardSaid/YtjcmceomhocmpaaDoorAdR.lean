/- The program's and the document's Read of an address. -/
import Derived.Test.YtjcmceomhocmpaaDoorSplU
import Derived.Test.YtjcmceomhocmpaaDoorAddr
import Derived.Test.YtjcmceomhocmpaaDoorNum
import Derived.Test.YtjcmceomhocmpaaDoorNumRef
import Derived.Test.YtjcmceomhocmpaaDoorCells
import Derived.LoopTactic
namespace Go.Proofs.YtjcmceomhocmpaaDoor.adc
open Go.RowKit
open Go.Lib (decDigits)
open Go.Proofs.YtjcmceomhocmpaaDoor.kit Go.Proofs.YtjcmceomhocmpaaDoor.bec Go.Proofs.YtjcmceomhocmpaaDoor.nmc Go.Proofs.YtjcmceomhocmpaaDoor.nmm Go.Proofs.YtjcmceomhocmpaaDoor.hxt Go.Proofs.YtjcmceomhocmpaaDoor.hxm Go.Proofs.YtjcmceomhocmpaaDoor.spc
set_option linter.unusedVariables false
set_option linter.unusedSimpArgs false
set_option maxRecDepth 20000
theorem num_same {l : List UInt8} {n m : Nat} (h : IsNum l n) (k : IsNum l m) : n = m := dec_inj (h.2.symm.trans k.2)
theorem num_yes {l : List UInt8} {ok no : Value} {w w' : World} {e : Ending} {n : Nat} (h : NumPost l ok no w e w') (hn : IsNum l n) : e = .returned (.tuple #[.int .i64 (n : Nat), ok]) ∧ Below w.heap.size w w' := by
  obtain ⟨hb, ⟨m, hm, he⟩ | ⟨hno, _⟩⟩ := h
  · rw [num_same hn hm]; exact ⟨he, hb⟩
  · exact absurd ⟨n, hn⟩ hno
theorem num_not {l : List UInt8} {ok no : Value} {w w' : World} {e : Ending} (h : NumPost l ok no w e w') (hn : ¬ ∃ n, IsNum l n) : e = .returned (.tuple #[.int .i64 0, no]) ∧ Below w.heap.size w w' := by
  obtain ⟨hb, ⟨m, hm, he⟩ | ⟨hno, he⟩⟩ := h
  · exact absurd ⟨m, hm⟩ hn
  · exact ⟨he, hb⟩
/-- the pieces are the bytes of an address -/
def Adr (P : List (List UInt8)) (x : Nat) : Prop := ∃ n0 n1 n2 n3 : Nat, n0 ≤ 255 ∧ n1 ≤ 255 ∧ n2 ≤ 255 ∧ n3 ≤ 255 ∧ P = [decDigits n0, decDigits n1, decDigits n2, decDigits n3] ∧ x = ((n0 * 256 + n1) * 256 + n2) * 256 + n3
theorem adr_len {P : List (List UInt8)} (h : P.length ≠ 4) : ¬ ∃ x, Adr P x := by
  rintro ⟨x, n0, n1, n2, n3, _, _, _, _, rfl, _⟩; exact h rfl
theorem adr_at {P : List (List UInt8)} {i : Nat} (hi : i < 4) (h : ∀ n, IsNum (P.getD i []) n → 255 < n) : ¬ ∃ x, Adr P x := by
  rintro ⟨x, n0, n1, n2, n3, h0, h1, h2, h3, rfl, _⟩
  have hc : i = 0 ∨ i = 1 ∨ i = 2 ∨ i = 3 := by omega
  rcases hc with rfl | rfl | rfl | rfl
  · have := h n0 ⟨by omega, rfl⟩; omega
  · have := h n1 ⟨by omega, rfl⟩; omega
  · have := h n2 ⟨by omega, rfl⟩; omega
  · have := h n3 ⟨by omega, rfl⟩; omega
theorem adr_same {P : List (List UInt8)} {x y : Nat} (h : Adr P x) (k : Adr P y) : x = y := by
  obtain ⟨a0, a1, a2, a3, _, _, _, _, h1, rfl⟩ := h
  obtain ⟨b0, b1, b2, b3, _, _, _, _, k1, rfl⟩ := k
  rw [h1] at k1
  injection k1 with e0 k1
  injection k1 with e1 k1
  injection k1 with e2 k1
  injection k1 with e3 _
  rw [dec_inj e0, dec_inj e1, dec_inj e2, dec_inj e3]
theorem adr_lt {P : List (List UInt8)} {x : Nat} (h : Adr P x) : x ≤ 4294967295 := by
  obtain ⟨a0, a1, a2, a3, _, _, _, _, _, rfl⟩ := h; omega
def AdrPost (P : List (List UInt8)) (ok no : Value) (w : World) (e : Ending) (w' : World) : Prop :=
  Below w.heap.size w w' ∧ ((∃ x : Nat, Adr P x ∧ e = .returned (.tuple #[.int .u32 (x : Nat), ok])) ∨ ((¬ ∃ x, Adr P x) ∧ e = .returned (.tuple #[.int .u32 0, no])))
/-- what has been read of the pieces -/
structure Got (P : List (List UInt8)) (N : List Nat) (i : Nat) : Prop where
  len : N.length = i
  le : ∀ n ∈ N, n ≤ 255
  eq : P.take i = N.map decDigits
theorem Got.nil (P : List (List UInt8)) : Got P [] 0 := ⟨rfl, (fun n hn => by cases hn), by simp⟩
theorem Got.next {P : List (List UInt8)} {N : List Nat} {i n : Nat} (h : Got P N i) (hi : i < P.length) (hn : IsNum (P.getD i []) n) (hl : n ≤ 255) : Got P (N ++ [n]) (i + 1) := by
  refine ⟨by simp [h.len], fun m hm => ?_, ?_⟩
  · rcases List.mem_append.1 hm with hm | hm
    · exact h.le m hm
    · simp at hm; omega
  · rw [List.take_add_one, List.getElem?_eq_getElem hi, h.eq]
    have := hn.2
    rw [List.getD_eq_getElem?_getD, List.getElem?_eq_getElem hi] at this
    simp only [Option.getD_some] at this
    rw [this]; simp
theorem Got.all {P : List (List UInt8)} {N : List Nat} (h : Got P N 4) (hP : P.length = 4) : ∃ n0 n1 n2 n3 : Nat, N = [n0, n1, n2, n3] ∧ n0 ≤ 255 ∧ n1 ≤ 255 ∧ n2 ≤ 255 ∧ n3 ≤ 255 ∧ Adr P (((n0 * 256 + n1) * 256 + n2) * 256 + n3) := by
  have he := h.eq
  have hle := h.le
  have hlen := h.len
  match N, hlen with
  | [n0, n1, n2, n3], _ =>
    have q0 := hle n0 (by simp)
    have q1 := hle n1 (by simp)
    have q2 := hle n2 (by simp)
    have q3 := hle n3 (by simp)
    refine ⟨n0, n1, n2, n3, rfl, q0, q1, q2, q3, n0, n1, n2, n3, q0, q1, q2, q3, ?_, rfl⟩
    rw [List.take_of_length_le (by omega)] at he
    exact he
theorem pieces_len (c : UInt8) (s : ByteArray) : Lib.countB s ⟨#[c]⟩ + 1 = (spU c s.data.toList []).length := by
  have h1 := Lib.splitB_all ⟨#[c]⟩ (Nat.le_refl 1) 0 _ s rfl
  rw [splitB_is] at h1
  rw [← h1]; simp [bas]
/-- strings.Split at one byte -/
theorem split_call (c : UInt8) (s : ByteArray) (m : Int) (w : World) (hs : s.size ≤ 100000) (hm : w.cell? ⟨2, 0, none⟩ = some (.int .i64 m)) :
    Calls Tryd.prog 18 #[.string s, .string ⟨#[c]⟩] w fun e w' => e = .returned (.slice (some ⟨w.heap.size, 0, none⟩) (spU c s.data.toList []).length (spU c s.data.toList []).length) ∧ w' = w.alloc (.cells ((bas (spU c s.data.toList [])).map Value.string).toArray 9) := by
  have := Tryd.strings_Split s ⟨#[c]⟩ m w (by omega) hm (Nat.le_refl 1)
  rw [splitB_is, pieces_len] at this
  exact this
theorem bas_at (P : List (List UInt8)) (j : Nat) (h : j < P.length) : (bas P)[j]? = some ⟨(P.getD j []).toArray⟩ := by
  unfold bas
  rw [List.getElem?_map, List.getD_eq_getElem?_getD, List.getElem?_eq_getElem h]; rfl
def c4 (N : List Nat) (i : Nat) : List Value := N.map (fun (n : Nat) => Value.int .u8 (n : Nat)) ++ List.replicate (4 - i) (.int .u8 0)
theorem c4_set (N : List Nat) (i n : Nat) (h : N.length = i) (hi : i < 4) : (c4 N i).set i (.int .u8 (n : Nat)) = c4 (N ++ [n]) (i + 1) := by
  unfold c4
  rw [List.set_append_right _ _ (by simp [h]), List.length_map, h, Nat.sub_self, show 4 - i = (4 - (i + 1)) + 1 by omega, List.replicate_succ, List.set_cons_zero]
  simp
theorem c4_at (N : List Nat) (i : Nat) (h : N.length = i) (hi : i < 4) : (c4 N i)[i]? = some (.int .u8 0) := by
  unfold c4
  rw [List.getElem?_append_right (by simp [h]), List.length_map, h, Nat.sub_self, List.getElem?_replicate, if_pos (by omega)]
set_option maxHeartbeats 2000000 in
theorem read_any (s : ByteArray) (hs : s.size ≤ 1000) (m : Int) (w : World) (hm : w.cell? ⟨2, 0, none⟩ = some (.int .i64 m)) (hL : LaidF w) (hp : ∀ p ∈ spU 46 s.data.toList [], p.length ≤ 1000) :
    Calls Tryd.prog 5 #[.string s] w (AdrPost (spU 46 s.data.toList []) (.int .i64 0) (.int .i64 11) w) := by
  have KS := hid (split_call 46 s m w (by omega) hm)
  have HL := hid hL
  have HP := hid hp
  obtain ⟨P, hP⟩ : ∃ P, P = spU 46 s.data.toList [] := ⟨_, rfl⟩
  rw [← hP] at KS HP ⊢
  clear hP hL hp hm
  obtain ⟨W, hW⟩ : ∃ W, W = w.alloc (.cells ((bas P).map Value.string).toArray 9) := ⟨_, rfl⟩
  rw [← hW] at KS
  have BW := hid (show Below w.heap.size w W by rw [hW]; exact (Below.refl _ _).alloc (Nat.le_refl _) _)
  have hc := hid (show ∀ j, j < P.length → W.cell? ⟨w.heap.size, j, none⟩ = some (.string ⟨(P.getD j []).toArray⟩) from fun j hj => by
    have := (Box.made w ((bas P).map Value.string).toArray 9).at_ j (.string ⟨(P.getD j []).toArray⟩) (by simp [bas_at P j hj])
    rw [hW]; exact this)
  have hlt := hid (show w.heap.size < W.heap.size by rw [hW]; simp)
  clear hW
  by_cases h4 : P.length = 4
  · have hne : (((4 : Nat) : Int) != 4) = false := by decide
    rw [h4] at KS hc
    have H4 := hid h4
    have KR := hid (fun (i : Nat) (hi : i < 4) (M : World) (hb : Below w.heap.size w M) => read_num ⟨(P.getD i []).toArray⟩ (by
      have : (P.getD i []).length ≤ 1000 := HP.out _ (by rw [List.getD_eq_getElem?_getD, List.getElem?_eq_getElem (by omega)]; exact List.getElem_mem _)
      exact this) M (HL.out.next hb))
    clear h4
    go_enter Tryd.func5, Tryd.ntmps5
    go_upto_region 4 with (go_at_call 18; ((with_reducible refine KS.out.mono ?_); rintro e w3 ⟨rfl, rfl⟩))
    go_upto_region 5 with fail
    have B0 := hid (Box.made w3 (c4 [] 0).toArray 30)
    have A0 := hid ((Below.refl w3.heap.size w3).alloc (Nat.le_refl _) (.cells (c4 [] 0).toArray 30))
    change Code.wp _ _ _ _ (w3.alloc (.cells (c4 [] 0).toArray 30))
    obtain ⟨g, hg⟩ : ∃ g, g = w3.heap.size := ⟨_, rfl⟩
    rw [← hg] at B0 ⊢
    generalize w3.alloc (.cells (c4 [] 0).toArray 30) = wx at *
    have HG := hid hg
    clear hg KS
    go_upto_region 6 with fail
    go_loopw [17] (fun iv wr => ∃ (i : Nat) (N : List Nat), i ≤ 4 ∧ iv = .int .i64 (i : Nat) ∧ Hid (Below w3.heap.size w3 wr) ∧ Hid (Box wr g (c4 N i)) ∧ Hid (Got P N i)) (fun iv _ => 4 - (intOf iv).toNat)
    case atStart => exact ⟨0, [], by omega, rfl, A0, B0, hid (Got.nil P)⟩
    case round =>
      clear A0 B0
      obtain ⟨i, N, hi, rfl, HB, HX, HGT⟩ := hrel
      by_cases hlt4 : i < 4
      · have hiP : i < P.length := by rw [H4.out]; exact hlt4
        have c0 := (HB.out.cell (p := ⟨w.heap.size, i, none⟩) hlt.out).trans (hc.out i hlt4)
        have HBW := hid (BW.out.trans (HB.out.mono BW.out.size))
        have KI := hid (KR.out i hlt4 wr HBW.out)
        obtain ⟨p, hp⟩ : ∃ p, p = P.getD i [] := ⟨_, rfl⟩
        rw [← hp] at c0 KI
        have HPI := hid hp
        clear hp
        by_cases hn : ∃ n, IsNum p n
        · obtain ⟨n, hn⟩ := hn
          have HNN := hid hn
          clear hn
          by_cases hbig : n ≤ 255
          · have HN2 := hid (HGT.out.next hiP (by rw [← HPI.out]; exact HNN.out) hbig)
            have HSE := hid (c4_set N i n HGT.out.len hlt4)
            have HAT := hid (c4_at N i HGT.out.len hlt4)
            have hgt : ¬ 255 < n := by omega
            clear hiP
            go_wp2_with (go_at_call 13; ((with_reducible refine KI.out.mono ?_); intro y w5 hpost; obtain ⟨rfl, b5⟩ := num_yes hpost HNN.out; have X5 := hid (HX.out.next b5); have x0 := X5.out.at_ i _ HAT.out; have f0 := X5.out.fr i; have B5 := hid (HB.out.trans (b5.mono HB.out.size)); clear b5 hpost))
            go_roundw
            case rel => exact ⟨i + 1, N ++ [n], by omega, by go_num, hid (B5.out.setCell (p := ⟨g, i, none⟩) (by rw [HG.out]; exact Nat.le_refl _) _), hid (by rw [← HSE.out]; exact X5.out.set i _), HN2⟩
            case measure => simp [intOf]; omega
          · have HNO := hid (adr_at (P := P) hlt4 (fun q hq => by rw [← HPI.out] at hq; rw [num_same hq HNN.out]; omega))
            have hgt : 255 < n := by omega
            clear hbig hiP
            go_wp2_with (go_at_call 13; ((with_reducible refine KI.out.mono ?_); intro y w5 hpost; obtain ⟨rfl, b5⟩ := num_yes hpost HNN.out; have B5 := hid (HBW.out.trans (b5.mono HBW.out.size)); clear b5 hpost))
            exact bodyPost_ret (v := .tuple #[.int .u32 0, .int .i64 11]) (by simp [results, Tryd.results5, go_sem]) rfl ⟨B5.out, .inr ⟨HNO.out, rfl⟩⟩
        · have HNO := hid (adr_at (P := P) hlt4 (fun q hq => absurd ⟨q, by rw [← HPI.out] at hq; exact hq⟩ hn))
          have HNN := hid hn
          clear hn hiP
          go_wp2_with (go_at_call 13; ((with_reducible refine KI.out.mono ?_); intro y w5 hpost; obtain ⟨rfl, b5⟩ := num_not hpost HNN.out; have B5 := hid (HBW.out.trans (b5.mono HBW.out.size)); clear b5 hpost))
          exact bodyPost_ret (v := .tuple #[.int .u32 0, .int .i64 11]) (by simp [results, Tryd.results5, go_sem]) rfl ⟨B5.out, .inr ⟨HNO.out, rfl⟩⟩
      · obtain rfl : i = 4 := by omega
        obtain ⟨n0, n1, n2, n3, rfl, q0, q1, q2, q3, hA⟩ := HGT.out.all H4.out
        have HA := hid hA
        have KO := hid (fun M => of_any n0 n1 n2 n3 (by omega) (by omega) (by omega) (by omega) M)
        have z0 := HX.out.at_ 0 (.int .u8 (n0 : Nat)) rfl
        have z1 := HX.out.at_ 1 (.int .u8 (n1 : Nat)) rfl
        have z2 := HX.out.at_ 2 (.int .u8 (n2 : Nat)) rfl
        have z3 := HX.out.at_ 3 (.int .u8 (n3 : Nat)) rfl
        have HBW := hid (BW.out.trans (HB.out.mono BW.out.size))
        obtain ⟨x, hx⟩ : ∃ x, x = ((n0 * 256 + n1) * 256 + n2) * 256 + n3 := ⟨_, rfl⟩
        rw [← hx] at HA KO
        clear hx hA q0 q1 q2 q3
        go_wp2_with (go_at_call 10; ((with_reducible refine (KO.out _).mono ?_); rintro y w5 ⟨rfl, b5⟩; have B5 := hid (HBW.out.trans (b5.mono HBW.out.size)); clear b5))
        exact bodyPost_ret (v := .tuple #[.int .u32 (x : Nat), .int .i64 0]) (by simp [results, Tryd.results5, go_sem]) rfl ⟨B5.out, .inl ⟨x, HA.out, rfl⟩⟩
  · have HN := hid (adr_len h4)
    have hne : ((P.length : Int) != 4) = true := by simp; omega
    generalize hn : P.length = n at *
    clear hn h4
    go_enter Tryd.func5, Tryd.ntmps5
    go_wp2_with (go_at_call 18; ((with_reducible refine KS.out.mono ?_); rintro e w3 ⟨rfl, rfl⟩))
    exact bodyPost_ret (v := .tuple #[.int .u32 0, .int .i64 11]) (by simp [results, Tryd.results5, go_sem]) rfl ⟨BW.out, .inr ⟨HN.out, rfl⟩⟩
end Go.Proofs.YtjcmceomhocmpaaDoor.adc
