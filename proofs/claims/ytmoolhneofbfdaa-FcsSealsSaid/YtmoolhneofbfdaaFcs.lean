/- The contracts of package fcs. -/
import Derived.Test.YtmoolhneofbfdaaBytes
import Derived.Test.YtmoolhneofbfdaaFcsMath
import Derived.Laws.BitsAll
import Derived.LoopTactic
namespace Go.Proofs.Ytmoolhneofbfdaa.fcc
open Go.RowKit
open Go.Proofs.Ytmoolhneofbfdaa.kit Go.Proofs.Ytmoolhneofbfdaa.fcm
set_option linter.unusedVariables false

def Oct (l : List Int) : Prop := ∀ x ∈ l, 0 ≤ x ∧ x ≤ 255
theorem Oct.at {l : List Int} (h : Oct l) (k : Nat) : 0 ≤ l.getD k 0 ∧ l.getD k 0 ≤ 255 := by
  rw [List.getD_eq_getElem?_getD]
  by_cases hk : k < l.length
  · rw [List.getElem?_eq_getElem hk]; exact h _ (List.getElem_mem _)
  · rw [List.getElem?_eq_none (by omega)]; decide

theorem step_val (T : Nat) (h : T < 65536) : bits BinOp.xor IntKind.u16 ((T : Int) / 2) (IntKind.u16.wrap (33800 * bits BinOp.and IntKind.u16 (T : Int) 1)) = ((sb T false : Nat) : Int) := by
  have e1 : bits BinOp.and IntKind.u16 (T : Int) 1 = ((T % 2 : Nat) : Int) := by
    have := u16_and_nat T 1 h (by decide)
    rw [nat_mask1] at this; exact this
  have e2 : IntKind.u16.wrap (33800 * ((T % 2 : Nat) : Int)) = ((33800 * (T % 2) : Nat) : Int) := by rw [IntKind.wrap_u16]; omega
  have e3 : (T : Int) / 2 = ((T / 2 : Nat) : Int) := by omega
  rw [e1, e2, e3, u16_xor_nat _ _ (by omega) (by omega), sb_false]
theorem add_any {B n cap : Nat} {a : Option Addr} {l : List Int} (w : World) (h : Nums .u8 w B a n cap l) (hO : Oct l) (s : Nat) (hs : s < 65536) :
    Calls Try.prog 27 #[.int .u16 s, .slice a n cap] w fun e w' => e = .returned (.int .u16 (crc s (bitOf l) (8 * n) : Nat)) ∧ w = w' := by
  have hm : n ≤ 9223372036854775807 := by have := h.le; have := h.max; unfold maxLen at this; omega
  have HC := hid h.cells
  have HO := hid hO
  clear h hO
  go_enter Try.func27, Try.ntmps27
  go_wp2
  go_loop [0, 10] (fun sv iv => ∃ k : Nat, k ≤ n ∧ iv = .int .i64 k ∧ sv = .int .u16 (crc s (bitOf l) (8 * k) : Nat)) (fun _ iv => n - (intOf iv).toNat)
  case atStart => exact ⟨0, Nat.zero_le _, rfl, rfl⟩
  case round =>
    obtain ⟨k, hk, rfl, rfl⟩ := hrel
    by_cases hlt : k < n
    · obtain ⟨b, off, ha, hb1, hb2, hc⟩ := HC.out (by omega)
      subst ha
      have hcx := hc k hlt
      clear hc HC
      have hx := HO.out.at k
      obtain ⟨c, hc0⟩ : ∃ c : Nat, l.getD k 0 = c := ⟨(l.getD k 0).toNat, by omega⟩
      rw [hc0] at hcx hx
      have hc1 : c < 256 := by omega
      have HS := hid (crc_step s l k c (by rw [hc0]; rfl) hc1)
      clear hc0 hx
      obtain ⟨S, hS⟩ : ∃ S, S = crc s (bitOf l) (8 * k) := ⟨_, rfl⟩
      have hS1 : S < 65536 := by rw [hS]; exact crc_lt _ hs _
      rw [← hS] at HS ⊢
      clear hS
      go_wp2
      go_loop [0, 18] (fun sv iv => ∃ j : Nat, j ≤ 8 ∧ iv = .int .i64 j ∧ sv = .int .u16 (crc (S ^^^ c) (fun _ => false) j : Nat)) (fun _ iv => 8 - (intOf iv).toNat)
      case atStart => exact ⟨0, Nat.zero_le _, rfl, by rw [u16_xor_nat S c hS1 (by omega)]; rfl⟩
      case round =>
        obtain ⟨j, hj, rfl, rfl⟩ := hrel
        by_cases hjl : j < 8
        · have hT0 : S ^^^ c < 65536 := Nat.xor_lt_two_pow (n := 16) (by omega) (by omega)
          obtain ⟨T, hT⟩ : ∃ T, T = crc (S ^^^ c) (fun _ => false) j := ⟨_, rfl⟩
          have hT1 : T < 65536 := by rw [hT]; exact crc_lt _ hT0 _
          have HT := hid hT
          rw [← hT]
          clear hT
          go_wp2
          go_round
          case rel => exact ⟨j + 1, by omega, by go_num, by rw [step_val T hT1]; simp only [crc]; rw [← HT.out]⟩
          case measure => simp [intOf]; omega
        · obtain rfl : j = 8 := by omega
          rw [HS.out]
          go_wp2
          go_round
          case rel => exact ⟨k + 1, by omega, by go_num, rfl⟩
          case measure => simp [intOf]; omega
    · obtain rfl : k = n := by omega
      go_wp2
      go_ret
      exact ⟨rfl, rfl⟩

/-- the two bytes of a sum, the low one first -/
def sealB (s : Nat) : List Int := [(((65535 - s) % 256 : Nat) : Int), (((65535 - s) / 256 : Nat) : Int)]
/-- the sum of bytes -/
def sumB (l : List Int) : Nat := crc 65535 (bitOf l) (8 * l.length)
theorem sumB_lt (l : List Int) : sumB l < 65536 := crc_lt _ (by decide) _
theorem nums_two {w : World} {k : IntKind} {e : TypeId} {x y : Int} : Nums k (w.alloc (.cells #[.int k x, .int k y] e)) (w.heap.size + 1) (some ⟨w.heap.size, 0, none⟩) 2 2 [x, y] :=
  nums_lit [x, y] rfl (by decide) rfl

theorem seal_val (S : Nat) (h : S < 65536) :
    [bits BinOp.xor IntKind.u16 (if IntKind.u16.signed = true then -1 else IntKind.u16.max) (S : Int) % 256,
      bits BinOp.xor IntKind.u16 (if IntKind.u16.signed = true then -1 else IntKind.u16.max) (S : Int) / 256 % 256] = sealB S := by
  have e : bits BinOp.xor IntKind.u16 (if IntKind.u16.signed = true then -1 else IntKind.u16.max) (S : Int) = ((65535 - S : Nat) : Int) := by
    have := u16_xor_nat 65535 S (by decide) h
    have e2 : 65535 ^^^ S = 65535 - S := by
      have h1 := congrArg BitVec.toNat (BitVec.not_def (x := BitVec.ofNat 16 S))
      rw [BitVec.toNat_not, BitVec.toNat_xor, BitVec.toNat_allOnes, BitVec.toNat_ofNat, Nat.mod_eq_of_lt (by omega)] at h1
      exact h1.symm
    rw [e2] at this
    exact this
  rw [e]
  unfold sealB
  congr 1
  congr 1
  omega
theorem seal_any {B n cap : Nat} {a : Option Addr} {l : List Int} (w : World) (h : Nums .u8 w B a n cap l) (hO : Oct l) (hn : n ≤ 1000) (hB : B ≤ w.heap.size) :
    Calls Try.prog 30 #[.slice a n cap] w fun e w' => ∃ a' c', e = .returned (.slice a' (n + 2) c') ∧
      w'.ownsRow w.heap.size 5 1 (.slice a' (n + 2) c') (n + 2) ((l ++ sealB (sumB l)).map (Value.int .u8)) ∧ Below w.heap.size w w' := by
  obtain ⟨i0, hi, hi0, hi1, hi2⟩ := info_parts Try.info_u8
  have hlen := h.len
  obtain ⟨S, hS⟩ : ∃ S, S = sumB l := ⟨_, rfl⟩
  have hS1 : S < 65536 := by rw [hS]; exact sumB_lt l
  have HA := hid (show _ from fun (w' : World) (h' : Nums .u8 w' B a n cap l) => (add_any w' h' hO 65535 (by decide)))
  have hA : Hid (crc 65535 (bitOf l) (8 * n) = S) := by rw [hS]; unfold sumB; rw [hlen]; exact rfl
  have HN := hid (h.below (Below.refl _ _))
  rw [← hS]
  clear h hS hlen
  go_enter Try.func30, Try.ntmps30
  go_wp2_with (first | (go_at_call 27; go_loud (refine (HA.out _ HN.out).mono ?_); go_loud (rintro e w' ⟨rfl, rfl⟩); rw [hA.out]) | (at_make; go_loud (refine wpList_make_own _ rfl _ _ _ rfl w.heap.size 5 i0 (.int .u8 0) 1 Try.underlying22 hi hi0 hi1 .i64 .i64 _ (n + 2) rfl rfl (by omega) (by rw [hi2]; omega) (by unfold maxLen; omega) (Nat.le_refl _) ?_); go_loud (intro w1 h1 h2)) | (at_builtin; refine wpList_append_nums rfl (.tmp 11) _ 22 rfl w.heap.size 5 i0 (.int .u8 0) 1 Try.underlying22 hi hi0 hi1 hi2 rfl _ 0 [] rfl h1 a n cap B l rfl (HN.out.below (below_none (Below.refl _ _) h2 hB)) (by unfold maxLen; omega) (by omega) h2.size ?_; go_loud (intro v' w2 h3 h4); go_loud (simp only [Nat.zero_add, List.nil_append] at h3); have hb1 := below_none (Below.refl w.heap.size w) h2 (Nat.le_refl _); have hb2 := own_below h1 hb1 h4 h2.size; have hs2 := hb2.size) | (at_builtin; go_loud (refine wpList_append_nums rfl (.tmp 14) _ 22 rfl w.heap.size 5 i0 (.int .u8 0) 1 Try.underlying22 hi hi0 hi1 hi2 rfl _ n l rfl (h3.alloc _) _ 2 2 _ _ rfl nums_two (by unfold maxLen; omega) (by omega) (by simp; omega) ?_); go_loud (intro v1 w3 g1 g2)))
  go_ret
  have hb3 := own_below (h3.alloc _) (hb2.alloc hs2 _) g2 (by simp; omega)
  obtain ⟨a', c', rfl⟩ := own_slice g1
  rw [seal_val S hS1, List.map_append] at g1
  exact ⟨a', c', rfl, g1, hb3⟩

theorem open_bad {B n cap : Nat} {a : Option Addr} {l : List Int} (w : World) (h : Nums .u8 w B a n cap l) (hO : Oct l) (hbad : ¬ (2 ≤ n ∧ sumB l = 61624)) :
    Calls Try.prog 32 #[.slice a n cap] w fun e w' => e = .returned (.tuple #[.slice none 0 0, .bool false]) ∧ w = w' := by
  have hlen := h.len
  have hm : n ≤ 9223372036854775807 := by have := h.le; have := h.max; unfold maxLen at this; omega
  have HA := hid (show _ from fun (w' : World) (h' : Nums .u8 w' B a n cap l) => (add_any w' h' hO 65535 (by decide)))
  have hA : Hid (crc 65535 (bitOf l) (8 * n) = sumB l) := by unfold sumB; rw [hlen]; exact rfl
  have HN := hid (h.below (Below.refl _ _))
  clear h hlen
  by_cases h2 : n < 2
  · clear hbad
    go_enter Try.func32, Try.ntmps32
    go_wp2
    go_ret2
    exact ⟨rfl, rfl⟩
  · obtain ⟨S, hS⟩ : ∃ S, S = sumB l := ⟨_, rfl⟩
    rw [← hS] at hA hbad
    have hd : ((S : Int) != 61624) = true := by simp; omega
    clear hS hbad
    go_enter Try.func32, Try.ntmps32
    go_wp2_with (first | (go_at_call 27; go_loud (refine (HA.out _ HN.out).mono ?_); go_loud (rintro e w' ⟨rfl, rfl⟩); rw [hA.out]))
    go_ret2
    exact ⟨rfl, rfl⟩

theorem open_good {B n cap : Nat} {a : Option Addr} {l : List Int} (w : World) (h : Nums .u8 w B a n cap l) (hO : Oct l) (hn : n ≤ 2000) (hB : B ≤ w.heap.size) (h2 : 2 ≤ n) (hg : sumB l = 61624) :
    Calls Try.prog 32 #[.slice a n cap] w fun e w' => ∃ a' c', e = .returned (.tuple #[.slice a' (n - 2) c', .bool true]) ∧
      w'.ownsRow w.heap.size 5 1 (.slice a' (n - 2) c') (n - 2) ((l.take (n - 2)).map (Value.int .u8)) ∧ Below w.heap.size w w' := by
  obtain ⟨i0, hi, hi0, hi1, hi2⟩ := info_parts Try.info_u8
  have hlen := h.len
  have hle := h.le
  have HA := hid (show _ from fun (w' : World) (h' : Nums .u8 w' B a n cap l) => (add_any w' h' hO 65535 (by decide)))
  have hA : Hid (crc 65535 (bitOf l) (8 * n) = 61624) := by rw [← hg]; unfold sumB; rw [hlen]; exact rfl
  have HN := hid (h.below (Below.refl _ _))
  have HT := hid (h.take (m := n - 2) (by omega))
  clear h hlen hg
  go_enter Try.func32, Try.ntmps32
  go_wp2_with (first | (go_at_call 27; go_loud (refine (HA.out _ HN.out).mono ?_); go_loud (rintro e w' ⟨rfl, rfl⟩); rw [hA.out]) | (at_builtin; go_loud (refine wpList_append_nums rfl _ _ 22 rfl w.heap.size 5 i0 (.int .u8 0) 1 Try.underlying22 hi hi0 hi1 hi2 rfl _ 0 [] rfl (World.ownsRow_nil _ _ _ _) a (n - 2) cap B _ rfl HT.out (by unfold maxLen; omega) (by omega) (Nat.le_refl _) ?_); go_loud (intro v' w2 h3 h4)))
  go_ret2
  simp only [Nat.zero_add, List.nil_append] at h3
  have hb := own_below (w0 := w) (World.ownsRow_nil w w.heap.size 5 1) (Below.refl _ _) h4 (Nat.le_refl _)
  obtain ⟨a', c', rfl⟩ := own_slice h3
  exact ⟨a', c', rfl, h3, hb⟩

theorem equal_same {B1 B2 n1 n2 c1 c2 : Nat} {a1 a2 : Option Addr} {l1 l2 : List Int} (w : World) (h1 : Nums .u8 w B1 a1 n1 c1 l1) (h2 : Nums .u8 w B2 a2 n2 c2 l2) (h : l1 = l2) :
    Calls Try.prog 12 #[.slice a1 n1 c1, .slice a2 n2 c2] w fun e w' => e = .returned (.bool true) ∧ ∃ m, w' = w.drewN m :=
  (equal_any w h1 h2).mono fun e w' hh => ⟨by rw [hh.1]; simp [h], hh.2⟩
theorem oct_nil : Oct [] := by intro x hx; cases hx
theorem alive_any (w : World) : Calls Try.prog 29 #[] w fun e w' => e = .returned (.bool true) ∧ Below w.heap.size w w' := by
  have h0 : Nums .u8 w w.heap.size none 0 0 [] := Nums.empty (Nat.zero_le _) (fun _ => rfl)
  have H0 := hid h0
  clear h0
  go_enter Try.func29, Try.ntmps29
  go_wp2_with (first | (go_at_call 30; go_loud (refine (seal_any w H0.out oct_nil (by omega) (Nat.le_refl _)).mono ?_); go_loud (rintro e w1 ⟨a1, c1, rfl, h1, h2⟩); simp only [Nat.zero_add, List.nil_append] at h1) | (go_at_call 12; go_loud (refine (equal_same _ ((own_nums h1).below ((Below.refl _ _).alloc (Nat.le_refl _) _)) (nums_lit [0, 0] rfl (by decide) rfl) (by decide)).mono ?_); go_loud (rintro e w2 ⟨rfl, m, rfl⟩)))
  go_ret
  exact ⟨rfl, below_drewN (h2.alloc h2.size _) m⟩
end Go.Proofs.Ytmoolhneofbfdaa.fcc
