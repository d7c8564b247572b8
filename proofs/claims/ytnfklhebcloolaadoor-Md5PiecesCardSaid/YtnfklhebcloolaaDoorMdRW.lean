/- The document's own bytes with what stands behind them; its digest. -/
import Derived.Test.YtnfklhebcloolaaDoorMdRB
import Derived.Test.YtnfklhebcloolaaDoorRegion
namespace Go.Proofs.YtnfklhebcloolaaDoor.mdc
open Go.RowKit
open Go.Proofs.YtnfklhebcloolaaDoor.kit Go.Proofs.YtnfklhebcloolaaDoor.mdm
set_option linter.unusedVariables false
set_option linter.unusedSimpArgs false
set_option maxRecDepth 20000
theorem leB_snoc (j N : Nat) : leB (j + 1) N = leB j N ++ [((N / 256 ^ j % 256 : Nat) : Int)] := by
  induction j generalizing N with
  | zero => simp [leB]
  | succ j ih =>
    show ((N % 256 : Nat) : Int) :: leB (j + 1) (N / 256) = (((N % 256 : Nat) : Int) :: leB j (N / 256)) ++ _
    rw [ih, List.cons_append, Nat.div_div_eq_div_mul, Nat.pow_succ, Nat.mul_comm 256]
theorem rep_snoc (j : Nat) : List.replicate (j + 1) (0 : Int) = List.replicate j 0 ++ [0] := List.replicate_succ'
def padA (l : List Int) (j : Nat) : List Int := l ++ [128] ++ List.replicate j 0
def padB (l : List Int) (j : Nat) : List Int := padA l (zeros l.length) ++ leB j (8 * l.length)
theorem padA_succ (l : List Int) (j : Nat) : padA l (j + 1) = padA l j ++ [0] := by simp [padA, rep_snoc]
theorem padB_succ (l : List Int) (j : Nat) : padB l (j + 1) = padB l j ++ [((8 * l.length / 256 ^ j % 256 : Nat) : Int)] := by simp [padB, leB_snoc]
theorem padA_len (l : List Int) (j : Nat) : (padA l j).length = l.length + 1 + j := by simp [padA]; omega
theorem padB_len (l : List Int) (j : Nat) : (padB l j).length = l.length + 1 + zeros l.length + j := by unfold padB; rw [List.length_append, padA_len, leB_len]
theorem pad_is (l : List Int) : pad l = padB l 8 := rfl
theorem zeros_at (n j : Nat) (h : j ≤ zeros n) : ((n + 1 + j) % 64 = 56) ↔ j = zeros n := by unfold zeros at *; omega
theorem zeros_lt (n : Nat) : zeros n < 64 := Nat.mod_lt _ (by decide)
theorem own_slice {w : World} {base : Nat} {e : TypeId} {v : Value} {n : Nat} {xs : List Value} (h : w.ownsRow base e 1 v n xs) : ∃ a c, v = .slice a n c := by
  obtain ⟨h1, h2⟩ := h
  rcases h2 with ⟨hv, rfl⟩ | ⟨g, c, cur, hv, _⟩
  · exact ⟨_, _, hv⟩
  · exact ⟨_, _, hv⟩
/-- what the loops of the pad keep -/
def PadAt (w : World) (base : Nat) (l : List Int) (ov : Value) (m : Nat) (wr : World) : Prop := wr.ownsRow base 5 1 ov m (l.map (Value.int .u8)) ∧ Below base w wr
def lenOf : Value → Nat
  | .slice _ n _ => n
  | _ => 0
def PadPost (w : World) (l : List Int) (e : Ending) (w' : World) : Prop := ∃ a m c, e = .returned (.slice a m c) ∧ w'.ownsRow w.heap.size 5 1 (.slice a m c) m ((pad l).map (Value.int .u8)) ∧ Below w.heap.size w w'
set_option maxHeartbeats 1000000 in
theorem whole_any {B n cap : Nat} {a : Option Addr} {l : List Int} (w : World) (h : Nums .u8 w B a n cap l) (hB : B ≤ w.heap.size) (hn : n ≤ 100000) :
    Calls Tryd.prog 21 #[.slice a n cap] w (PadPost w l) := by
  obtain ⟨i0, hi, hi0, hi1, hi2⟩ := info_parts Tryd.info_u8
  have HN := hid h
  have HL := hid h.len
  have HZ := hid (zeros_at n)
  have hz := zeros_lt n
  have HP := hid (pad_is l)
  clear h
  have R0 := hid (World.ownsRow_made w (e := 5) (size := 1) #[] 0 (Nat.le_refl _) (by decide) rfl)
  go_enter Tryd.func21, Tryd.ntmps21
  go_upto_region 2 with (first | (at_builtin; (refine wpList_append_nums rfl (.tmp 6) _ 22 rfl w.heap.size 5 i0 (.int .u8 0) 1 Tryd.underlying22 hi hi0 hi1 hi2 rfl _ 0 [] rfl R0.out a n cap B l rfl (HN.out.below ((Below.refl _ _).alloc hB _)) (by unfold maxLen; omega) (by omega) (by simp) ?_); intro v1 w1 h1 h2; have b1 := hid (own_below (w0 := w) R0.out ((Below.refl _ _).alloc (Nat.le_refl _) _) h2 (by simp)); have O1 := hid (show w1.ownsRow w.heap.size 5 1 v1 n (l.map (Value.int .u8)) by simpa using h1); clear h1 h2) | (at_builtin; (refine wpList_append_nums rfl (.tmp 8) _ 22 rfl w.heap.size 5 i0 (.int .u8 0) 1 Tryd.underlying22 hi hi0 hi1 hi2 rfl _ n l rfl (O1.out.alloc _) _ 1 1 _ _ rfl nums_one (by unfold maxLen; omega) (by omega) (by have := b1.out.size; simp; omega) ?_); intro v2 w2 h1 h2; have b2 := hid (own_below (O1.out.alloc _) (b1.out.alloc b1.out.size _) h2 (by have := b1.out.size; simp; omega)); have O2 := hid h1; clear h1 h2))
  have K0 : Hid (w2.ownsRow w.heap.size 5 1 v2 (n + 1 + 0) ((padA l 0).map (Value.int .u8))) := hid (by have := O2.out; unfold padA; simpa using this)
  clear O1 O2 b1 R0
  go_wp2_with fail
  go_loopw [3] (fun ov wr => ∃ (j : Nat) (a' : Option Addr) (c' : Nat), j ≤ zeros n ∧ ov = .slice a' (n + 1 + j) c' ∧ Hid (wr.ownsRow w.heap.size 5 1 ov (n + 1 + j) ((padA l j).map (Value.int .u8))) ∧ Hid (Below w.heap.size w wr)) (fun ov _ => n + 65 - lenOf ov)
  case atStart => obtain ⟨a', c', rfl⟩ := own_slice K0.out; exact ⟨0, a', c', Nat.zero_le _, rfl, K0, b2⟩
  case round =>
    clear K0 b2
    obtain ⟨j, a', c', hj, rfl, O, HB⟩ := hrel
    have hz2 := HZ.out j hj
    have hm : ((n : Int) + 1 + j).tmod 64 = ((n + 1 + j) % 64 : Nat) := by rw [Int.tmod_eq_emod_of_nonneg (by omega)]; omega
    by_cases he : j = zeros n
    · have h56 : (n + 1 + j) % 64 = 56 := hz2.2 he
      have hm2 : ((n : Int) + 1 + j).tmod 64 = 56 := by omega
      have HE := hid he
      clear hz2 he h56 hm
      have hu : IntKind.u64.wrap (8 * (n : Int)) = 8 * (n : Int) := by rw [IntKind.wrap_u64]; omega
      go_wp2_with fail
      clear hm2 hu
      go_loopw [3, 4, 5] (fun ov nv iv wr => ∃ (i N : Nat) (a' : Option Addr) (c' : Nat), i ≤ 8 ∧ iv = .int .i64 i ∧ nv = .int .u64 (N : Nat) ∧ Hid (N = 8 * l.length / 256 ^ i) ∧ ov = .slice a' (n + 1 + j + i) c' ∧ Hid (PadAt w w.heap.size (padB l i) ov (n + 1 + j + i) wr)) (fun _ _ iv _ => 8 - (intOf iv).toNat)
      case atStart =>
        refine ⟨0, 8 * n, a', c', by omega, rfl, ?_, hid (by rw [HL.out]; simp), rfl, hid ⟨?_, HB.out⟩⟩
        · simp
        · have := O.out; unfold padB; rw [HL.out, ← HE.out]; simpa [leB] using this
      case round =>
        clear O HB
        obtain ⟨i, N, a2, c2, hi8, rfl, rfl, HN2, rfl, HA⟩ := hrel
        have O := HA.out.1
        have hb4 := HA.out.2
        by_cases hlt : i < 8
        · have hw1 : IntKind.u8.wrap ((N % 256 : Nat) : Int) = ((N % 256 : Nat) : Int) := by rw [IntKind.wrap_u8]; omega
          have hNb : N ≤ 800000 := by have h1 := HN2.out; have h2 := HL.out; have h3 := Nat.div_le_self (8 * l.length) (256 ^ i); omega
          have hw2 : IntKind.u64.wrap ((N : Int) / 256) = (N : Int) / 256 := by rw [IntKind.wrap_u64]; omega
          go_wp2_with (at_builtin; go_loud (refine wpList_append_nums rfl (.tmp 26) _ 22 rfl w.heap.size 5 i0 (.int .u8 0) 1 Tryd.underlying22 hi hi0 hi1 hi2 rfl _ (n + 1 + j + i) (padB l i) rfl (O.alloc _) _ 1 1 _ _ rfl nums_one (by unfold maxLen; omega) (by omega) (by have := hb4.size; simp; omega) ?_); go_loud (intro v1 w3 g1 g2))
          have b5 := hid (own_below (O.alloc _) (hb4.alloc hb4.size _) g2 (by have := hb4.size; simp; omega))
          have G1 := hid g1
          clear g1 g2 hb4 hw1
          go_roundw
          case rel =>
            obtain ⟨a3, c3, rfl⟩ := own_slice G1.out
            refine ⟨i + 1, N / 256, a3, c3, by omega, by go_num, by go_num, hid ?_, rfl, hid ⟨?_, b5.out⟩⟩
            · rw [HN2.out, Nat.div_div_eq_div_mul, Nat.pow_succ]
            · have := G1.out; rw [padB_succ, ← HN2.out]; exact this
          case measure => simp [intOf]; omega
        · have h8 : i = 8 := by omega
          subst h8
          go_wp2_with fail
          refine bodyPost_ret (v := .slice a2 (n + 1 + j + 8) c2) (by simp [results, Tryd.results21, go_sem]) rfl ⟨a2, _, c2, rfl, ?_, HA.out.2⟩
          rw [HP.out]
          exact HA.out.1
    · have h56 : ¬ (n + 1 + j) % 64 = 56 := fun h => he (hz2.1 h)
      have hm2 : (((n : Int) + 1 + j) % 64 != 56) = true := by simp only [bne_iff_ne, ne_eq]; omega
      have hjl : j + 1 ≤ zeros n := by omega
      have hb4 := HB.out
      clear hz2 he h56 hm
      go_wp2_with (at_builtin; go_loud (refine wpList_append_nums rfl (.tmp 15) _ 22 rfl w.heap.size 5 i0 (.int .u8 0) 1 Tryd.underlying22 hi hi0 hi1 hi2 rfl _ (n + 1 + j) (padA l j) rfl (O.out.alloc _) _ 1 1 _ _ rfl nums_one (by unfold maxLen; omega) (by omega) (by have := hb4.size; simp; omega) ?_); go_loud (intro v1 w3 g1 g2))
      have b5 := hid (own_below (O.out.alloc _) (hb4.alloc hb4.size _) g2 (by have := hb4.size; simp; omega))
      have G1 := hid g1
      clear g1 g2 hb4 hm2
      go_roundw
      case rel => obtain ⟨a3, c3, rfl⟩ := own_slice G1.out; exact ⟨j + 1, a3, c3, hjl, rfl, hid (by have := G1.out; rw [padA_succ]; exact this), b5⟩
      case measure => obtain ⟨a3, c3, rfl⟩ := own_slice G1.out; simp [lenOf]; omega
end Go.Proofs.YtnfklhebcloolaaDoor.mdc
