/- The contracts of package sum. -/
import Derived.Test.YtidenjinagpphabSumMath
import Derived.Laws.BitsAll
import Derived.LoopTactic
import Derived.Deep.DeepCutAuto
namespace Go.Proofs.Ytidenjinagpphab.sc
open Go.RowKit
open Go.Proofs.Ytidenjinagpphab.kit Go.Proofs.Ytidenjinagpphab.sm
set_option linter.unusedVariables false
set_option linter.unusedSimpArgs false

theorem fold_any (n : Nat) (hn : n < 4294967296) (w : World) :
    Calls Try.prog 105 #[.int .u32 n] w fun e w' => e = .returned (.int .u32 (fd n : Nat)) ∧ w' = w := by
  go_enter Try.func105, Try.ntmps105
  go_wp2
  go_loopw [0] (fun v wr => ∃ m : Nat, m < 4294967296 ∧ v = .int .u32 m ∧ fd m = fd n ∧ wr = w) (fun v _ => (intOf v).toNat)
  case atStart => exact ⟨n, hn, rfl, rfl, rfl⟩
  case round =>
    obtain ⟨m, hm, rfl, hf, rfl⟩ := hrel
    have HF := hid hf
    clear hf
    by_cases hlt : 65535 < m
    · have e1 : bits BinOp.and IntKind.u32 (m : Int) 65535 = ((m % 65536 : Nat) : Int) := by rw [← nat_mask16]; exact u32_and_nat m 65535 hm (by decide)
      go_wp2
      go_roundw
      case rel => exact ⟨m / 65536 + m % 65536, by omega, by go_num, by rw [fd_step]; exact HF.out, trivial⟩
      case measure => simp [intOf]; omega
    · have E1 := hid (show ((m : Nat) : Int) = ((fd n : Nat) : Int) by rw [← HF.out, fd_small (by omega)])
      go_wp2
      go_ret
      exact ⟨ret_int E1.out, rfl⟩
theorem fold_is (x : Int) (n : Nat) (hx : x = n) (hn : n < 4294967296) (w : World) :
    Calls Try.prog 105 #[.int .u32 x] w fun e w' => e = .returned (.int .u32 (fd n : Nat)) ∧ w' = w := by rw [hx]; exact fold_any n hn w
/-- a sum so far, as a value -/
def sv (F : Nat) (o : Bool) : Value := .agg #[.int .u32 (F : Nat), .bool o]
/-- what Add keeps, round by round -/
structure Adds (w wr : World) (F : Nat) (o : Bool) : Prop where
  below : Below w.heap.size w wr
  c0 : wr.cell? ⟨w.heap.size, 0, none⟩ = some (.int .u32 (F : Nat))
  c1 : wr.cell? ⟨w.heap.size, 1, none⟩ = some (.bool o)
  r0 : wr.cell? ⟨w.heap.size + 1, 0, none⟩ = some (.int .u32 0)
  r1 : wr.cell? ⟨w.heap.size + 1, 1, none⟩ = some (.bool false)
  f0 : ∀ i, wr.frozen? ⟨w.heap.size, i, none⟩ = false
  f1 : ∀ i, wr.frozen? ⟨w.heap.size + 1, i, none⟩ = false
theorem adds_start (w : World) (F : Nat) (hF : F ≤ 65535) (l : List Int) (p : Nat) : Adds w ((w.alloc (.cells #[.int .u32 (F : Nat), .bool (p % 2 == 1)] 209)).alloc (.cells #[.int .u32 0, .bool false] 209)) (fd (F + tot l p 0)) ((p + 0) % 2 == 1) := by
  have e : fd (F + tot l p 0) = F := fd_small (by simp only [tot]; omega)
  rw [e]
  refine ⟨((Below.refl _ _).alloc (Nat.le_refl _) _).alloc (by simp) _, ?_, ?_, ?_, ?_, ?_, ?_⟩ <;> simp [go_sem]
theorem Adds.next {w wr : World} {F : Nat} {o : Bool} (h : Adds w wr F o) (G : Nat) (q : Bool) : Adds w ((wr.setCell ⟨w.heap.size, 0, none⟩ (.int .u32 (G : Nat))).setCell ⟨w.heap.size, 1, none⟩ (.bool q)) G q :=
  ⟨(h.below.setCell (Nat.le_refl _) _).setCell (Nat.le_refl _) _, cell_other (cell_same h.c0) (by decide), cell_same (cell_other h.c1 (by decide)),
    (World.cell?_setCell_other _ _ _ _ (by simp)).trans ((World.cell?_setCell_other _ _ _ _ (by simp)).trans h.r0), (World.cell?_setCell_other _ _ _ _ (by simp)).trans ((World.cell?_setCell_other _ _ _ _ (by simp)).trans h.r1),
    fun i => frozen_set (frozen_set (h.f0 i)), fun i => frozen_set (frozen_set (h.f1 i))⟩
theorem add_any {B n cap : Nat} {a : Option Addr} {l : List Int} (w : World) (h : Nums .u8 w B a n cap l) (hO : Oct l) (F p : Nat) (hF : F ≤ 65535) (hB : B ≤ w.heap.size) :
    Calls Try.prog 139 #[sv F (p % 2 == 1), .slice a n cap] w fun e w' => e = .returned (sv (fd (F + tot l p n)) ((p + n) % 2 == 1)) ∧ Below w.heap.size w w' := by
  have hm : n ≤ 9223372036854775807 := by have := h.le; have := h.max; unfold maxLen at this; omega
  have HN := hid (h.below (Below.refl _ _))
  have HO := hid hO
  clear h hO
  unfold sv
  go_enter Try.func139, Try.ntmps139
  go_wp2
  go_loopw [10] (fun iv wr => ∃ k : Nat, k ≤ n ∧ iv = .int .i64 k ∧ Hid (Adds w wr (fd (F + tot l p k)) ((p + k) % 2 == 1))) (fun iv _ => n - (intOf iv).toNat)
  case atStart => exact ⟨0, Nat.zero_le _, rfl, hid (adds_start w F hF l p)⟩
  case round =>
    obtain ⟨k, hk, rfl, HA⟩ := hrel
    by_cases hlt : k < n
    · have hx := HO.out.at k
      obtain ⟨b, off, ha, hb1, hb2, hc⟩ := (HN.out.below (HA.out.below.mono hB)).cells (by omega)
      have hcx := hc k hlt
      clear hc
      subst ha
      obtain ⟨c, hc0⟩ : ∃ c : Nat, l.getD k 0 = c := ⟨(l.getD k 0).toNat, by omega⟩
      have HB := hid (show tot l p (k + 1) = tot l p k + bit (p + k) c by simp only [tot]; rw [hc0])
      rw [hc0] at hcx hx
      clear hc0
      obtain ⟨G, hG⟩ : ∃ G, G = fd (F + tot l p k) := ⟨_, rfl⟩
      have hG1 : G ≤ 65535 := by rw [hG]; exact fd_le _
      have hs := hid (show fd (G + bit (p + k) c) = fd (F + tot l p (k + 1)) by rw [hG, fd_add, HB.out, Nat.add_assoc])
      rw [← hG] at HA
      clear hG HB
      have h0 := HA.out.c0
      have h4 := HA.out.f0
      by_cases ho : ((p + k) % 2 == 1) = true
      · have h1 := HA.out.c1
        rw [ho] at h1
        have HS := hid (show fd (G + c) = fd (F + tot l p (k + 1)) by rw [← hs.out]; unfold bit; rw [if_pos (by simpa using ho)]; rfl)
        have HP := hid (show (false : Bool) = ((p + (k + 1)) % 2 == 1) by symm; simp at ho ⊢; omega)
        clear hs ho
        go_wp2_with (go_at_call 105; refine (fold_is _ (G + c) (by omega) (by omega) _).mono ?_; rintro e w' ⟨rfl, rfl⟩)
        go_roundw
        case rel => exact ⟨k + 1, by omega, by go_num, by rw [← HS.out, ← HP.out]; exact hid (HA.out.next _ _)⟩
        case measure => simp [intOf]; omega
      · have h1 := HA.out.c1
        have ho : ((p + k) % 2 == 1) = false := by simpa using ho
        rw [ho] at h1
        have HS := hid (show fd (G + 256 * c) = fd (F + tot l p (k + 1)) by rw [← hs.out]; unfold bit; rw [if_neg (by simpa using ho)]; rfl)
        have HP := hid (show (true : Bool) = ((p + (k + 1)) % 2 == 1) by symm; simp at ho ⊢; omega)
        clear hs ho
        go_wp2_with (go_at_call 105; refine (fold_is _ (G + 256 * c) (by omega) (by omega) _).mono ?_; rintro e w' ⟨rfl, rfl⟩)
        go_roundw
        case rel => exact ⟨k + 1, by omega, by go_num, by rw [← HS.out, ← HP.out]; exact hid (HA.out.next _ _)⟩
        case measure => simp [intOf]; omega
    · obtain rfl : k = n := by omega
      have h0 := HA.out.c0
      have h1 := HA.out.c1
      have h2 := HA.out.r0
      have h3 := HA.out.r1
      have h4 := HA.out.f1
      go_wp2
      have hb := ((HA.out.below.setCell (p := ⟨w.heap.size + 1, 0, none⟩) (by simp) (.int .u32 (fd (F + tot l p k) : Nat))).setCell (p := ⟨w.heap.size + 1, 1, none⟩) (by simp) (.bool ((p + k) % 2 == 1)))
      have q0 := cell_other (i := 1) (v := .bool ((p + k) % 2 == 1)) (cell_same (v := .int .u32 (fd (F + tot l p k) : Nat)) h2) (by decide)
      have q1 := cell_same (v := .bool ((p + k) % 2 == 1)) (cell_other (i := 0) (v := .int .u32 (fd (F + tot l p k) : Nat)) h3 (by decide))
      refine bodyPost_ret (v := .agg #[.int .u32 (fd (F + tot l p k) : Nat), .bool ((p + k) % 2 == 1)]) (by simp [results, Try.results139, go_sem, q0, q1]) rfl ⟨rfl, hb⟩
theorem value_any (F : Nat) (o : Bool) (hF : F ≤ 65535) (w : World) :
    Calls Try.prog 140 #[sv F o] w fun e w' => e = .returned (.int .u16 (65535 - F : Nat)) ∧ Below w.heap.size w w' := by
  unfold sv
  have e1 : (65535 : Int) - F = ((65535 - F : Nat) : Int) := by omega
  go_enter Try.func140, Try.ntmps140
  go_wp2
  go_ret
  exact ⟨ret_int (by omega), (Below.refl _ _).alloc (Nat.le_refl _) _⟩
theorem add_is {B n cap : Nat} {a : Option Addr} {l : List Int} (w : World) (h : Nums .u8 w B a n cap l) (hO : Oct l) (F p G : Nat) (o q : Bool) (v : Value) (hv : v = sv F o) (ho : o = (p % 2 == 1)) (hq : ((p + n) % 2 == 1) = q) (hG : fd (F + tot l p n) = G) (hF : F ≤ 65535) (hB : B ≤ w.heap.size) :
    Calls Try.prog 139 #[v, .slice a n cap] w fun e w' => e = .returned (sv G q) ∧ Below w.heap.size w w' := by
  subst hv ho hq hG
  exact add_any w h hO F p hF hB
theorem of_any {B n cap : Nat} {a : Option Addr} {l : List Int} (w : World) (h : Nums .u8 w B a n cap l) (hO : Oct l) (hB : B ≤ w.heap.size) :
    Calls Try.prog 104 #[.slice a n cap] w fun e w' => e = .returned (.int .u16 (chk l : Nat)) ∧ Below w.heap.size w w' := by
  have HC := hid (show 65535 - fd (tot l 0 n) = chk l by unfold chk sumOf; rw [h.len])
  have HN := hid (h.below (Below.refl _ _))
  have HO := hid hO
  clear h hO
  go_enter Try.func104, Try.ntmps104
  go_wp2_with (first | (go_at_call 139; refine (add_is w HN.out HO.out 0 0 _ _ _ _ rfl rfl rfl rfl (by omega) hB).mono ?_; rintro e w1 ⟨rfl, b1⟩) | (go_at_call 140; refine (value_any _ _ (fd_le _) _).mono ?_; rintro e w2 ⟨rfl, b2⟩))
  go_ret
  exact ⟨ret_int (by rw [← HC.out]), b1.trans (b2.mono b1.size)⟩
theorem right_any {B n cap : Nat} {a : Option Addr} {l : List Int} (w : World) (h : Nums .u8 w B a n cap l) (hO : Oct l) (hB : B ≤ w.heap.size) :
    Calls Try.prog 98 #[.slice a n cap] w fun e w' => e = .returned (.bool (chk l == 0)) ∧ Below w.heap.size w w' := by
  have HN := hid (h.below (Below.refl _ _))
  have HO := hid hO
  clear h hO
  go_enter Try.func98, Try.ntmps98
  go_wp2_with (go_at_call 104; refine (of_any w HN.out HO.out hB).mono ?_; rintro e w1 ⟨rfl, b1⟩)
  go_ret
  exact ⟨ret_bool (show (((chk l : Nat) : Int) == 0) = (chk l == 0) by rw [Bool.eq_iff_iff, beq_iff_eq, beq_iff_eq]; omega), b1⟩
theorem turned_any (c x y : Nat) (hc : c ≤ 65535) (hx : x ≤ 65535) (hy : y ≤ 65535) (w : World) :
    Calls Try.prog 69 #[.int .u16 c, .int .u16 x, .int .u16 y] w fun e w' => e = .returned (.int .u16 (65535 - fd ((65535 - c) + (65535 - x) + y) : Nat)) ∧ w' = w := by
  have n1 : ∀ z : Nat, z ≤ 65535 → bits BinOp.xor IntKind.u16 (if IntKind.u16.signed = true then -1 else IntKind.u16.max) (z : Int) = ((65535 - z : Nat) : Int) := by
    intro z hz
    have h1 := u16_xor_nat 65535 z (by decide) (by omega)
    have e2 : 65535 ^^^ z = 65535 - z := by
      have h1 := congrArg BitVec.toNat (BitVec.not_def (x := BitVec.ofNat 16 z))
      rw [BitVec.toNat_not, BitVec.toNat_xor, BitVec.toNat_allOnes, BitVec.toNat_ofNat, Nat.mod_eq_of_lt (by omega)] at h1
      exact h1.symm
    rw [e2] at h1
    exact h1
  have n2 := n1 c hc
  have n3 := n1 x hx
  have hl := fd_le ((65535 - c) + (65535 - x) + y)
  clear n1
  go_enter Try.func69, Try.ntmps69
  go_wp2_with (go_at_call 105; refine (fold_is _ ((65535 - c) + (65535 - x) + y) (by omega) (by omega) _).mono ?_; rintro e w' ⟨rfl, rfl⟩)
  go_ret
  exact ⟨ret_int (by omega), rfl⟩
end Go.Proofs.Ytidenjinagpphab.sc
