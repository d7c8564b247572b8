/- The contracts of package addr: bytes, texts. -/
import Derived.Test.YtjcmceomhocmpaaDoorBeRdr2
import Derived.Test.YtjcmceomhocmpaaDoorNumW
import Derived.Laws.Rows
import Derived.Laws.Cover3
import Derived.Laws.OwnMore
namespace Go.Proofs.YtjcmceomhocmpaaDoor.adc
open Go.RowKit
open Go.Lib (decDigits)
open Go.Proofs.YtjcmceomhocmpaaDoor.kit Go.Proofs.YtjcmceomhocmpaaDoor.bec Go.Proofs.YtjcmceomhocmpaaDoor.nmc Go.Proofs.YtjcmceomhocmpaaDoor.nmm Go.Proofs.YtjcmceomhocmpaaDoor.hxt
set_option linter.unusedVariables false
set_option linter.unusedSimpArgs false

/-- the four bytes of an address -/
def by_ (x : Nat) (j : Nat) : Nat := x / 256 ^ (3 - j) % 256
def arr4 (x : Nat) : Array Value := #[.int .u8 (by_ x 0 : Nat), .int .u8 (by_ x 1 : Nat), .int .u8 (by_ x 2 : Nat), .int .u8 (by_ x 3 : Nat)]
theorem by_lt (x j : Nat) : by_ x j < 256 := Nat.mod_lt _ (by decide)
theorem beB4 (x : Nat) : beB 4 (x : Int) = [((by_ x 0 : Nat) : Int), ((by_ x 1 : Nat) : Int), ((by_ x 2 : Nat) : Int), ((by_ x 3 : Nat) : Int)] := by
  simp only [beB, by_]
  simp
theorem own_some {W : World} {base e n cap : Nat} {a : Option Addr} {xs : List Value} (h : W.ownsRow base e 1 (.slice a n cap) n xs) (hn : 0 < n) : ∃ g, a = some ⟨g, 0, none⟩ ∧ base ≤ g := by
  rcases h.2 with ⟨_, h0⟩ | ⟨g, c, _, hv, hg, _⟩
  · omega
  · injection hv with h1 _ _; exact ⟨g, h1, hg⟩
theorem own4 {W : World} {base e g cap : Nat} {l : List Int} {b0 b1 b2 b3 : Nat} (hl : l = [(b0 : Int), (b1 : Int), (b2 : Int), (b3 : Int)]) (h : W.ownsRow base e 1 (.slice (some ⟨g, 0, none⟩) (0 + 4) cap) (0 + 4) (([] ++ l).map (Value.int .u8))) :
    W.cell? ⟨g, 0, none⟩ = some (.int .u8 b0) ∧ W.cell? ⟨g, 1, none⟩ = some (.int .u8 b1) ∧ W.cell? ⟨g, 2, none⟩ = some (.int .u8 b2) ∧ W.cell? ⟨g, 3, none⟩ = some (.int .u8 b3) := by
  subst hl
  exact ⟨h.cellAt 0 (by decide), h.cellAt 1 (by decide), h.cellAt 2 (by decide), h.cellAt 3 (by decide)⟩
theorem put4 {W : World} {g : Nat} {u0 u1 u2 u3 v0 v1 v2 v3 : Value} (h0 : W.cell? ⟨g, 0, none⟩ = some u0) (h1 : W.cell? ⟨g, 1, none⟩ = some u1) (h2 : W.cell? ⟨g, 2, none⟩ = some u2) (h3 : W.cell? ⟨g, 3, none⟩ = some u3) :
    ((((W.setCell ⟨g, 0, none⟩ v0).setCell ⟨g, 1, none⟩ v1).setCell ⟨g, 2, none⟩ v2).setCell ⟨g, 3, none⟩ v3).cell? ⟨g, 0, none⟩ = some v0 ∧
    ((((W.setCell ⟨g, 0, none⟩ v0).setCell ⟨g, 1, none⟩ v1).setCell ⟨g, 2, none⟩ v2).setCell ⟨g, 3, none⟩ v3).cell? ⟨g, 1, none⟩ = some v1 ∧
    ((((W.setCell ⟨g, 0, none⟩ v0).setCell ⟨g, 1, none⟩ v1).setCell ⟨g, 2, none⟩ v2).setCell ⟨g, 3, none⟩ v3).cell? ⟨g, 2, none⟩ = some v2 ∧
    ((((W.setCell ⟨g, 0, none⟩ v0).setCell ⟨g, 1, none⟩ v1).setCell ⟨g, 2, none⟩ v2).setCell ⟨g, 3, none⟩ v3).cell? ⟨g, 3, none⟩ = some v3 :=
  ⟨cell_other (cell_other (cell_other (cell_same h0) (by decide)) (by decide)) (by decide), cell_other (cell_other (cell_same (cell_other h1 (by decide))) (by decide)) (by decide),
    cell_other (cell_same (cell_other (cell_other h2 (by decide)) (by decide))) (by decide), cell_same (cell_other (cell_other (cell_other h3 (by decide)) (by decide)) (by decide))⟩
theorem bytes_any (x : Nat) (hx : x ≤ 4294967295) (w : World) :
    Calls Tryd.prog 8 #[.int .u32 x] w fun e w' => e = .returned (.agg (arr4 x)) ∧ Below w.heap.size w w' := by
  have HP := hid (show _ from fun (W : World) => put32_any W (Nums.empty (k := .u8) (B := 0) (w := W) (cap := 0) (a := none) (Nat.zero_le _) (fun _ => rfl)) (by omega) (Nat.zero_le _) x (by omega) (by omega))
  have hat := fun (w : World) (g c : Nat) => run_arrayAt (P := Tryd.prog) w 30 5 4 (some ⟨g, 0, none⟩) 4 c Tryd.underlying30 (by decide)
  have HB := hid (beB4 x)
  obtain ⟨b0, h0⟩ : ∃ b, by_ x 0 = b := ⟨_, rfl⟩
  obtain ⟨b1, h1⟩ : ∃ b, by_ x 1 = b := ⟨_, rfl⟩
  obtain ⟨b2, h2⟩ : ∃ b, by_ x 2 = b := ⟨_, rfl⟩
  obtain ⟨b3, h3⟩ : ∃ b, by_ x 3 = b := ⟨_, rfl⟩
  unfold arr4
  rw [h0, h1, h2, h3] at HB ⊢
  clear h0 h1 h2 h3
  go_enter Tryd.func8, Tryd.ntmps8
  go_upto_region 1 with fail
  have B0 := hid ((Below.refl w.heap.size w).alloc (Nat.le_refl _) (.cells #[.int .u8 0, .int .u8 0, .int .u8 0, .int .u8 0] 30))
  have D0 : ∀ j, j < 4 → (w.alloc (.cells #[.int .u8 0, .int .u8 0, .int .u8 0, .int .u8 0] 30)).cell? ⟨w.heap.size, j, none⟩ = some (.int .u8 0) := by
    intro j hj
    have : j = 0 ∨ j = 1 ∨ j = 2 ∨ j = 3 := by omega
    rcases this with rfl | rfl | rfl | rfl <;> simp [go_sem]
  have F0 : ∀ i, (w.alloc (.cells #[.int .u8 0, .int .u8 0, .int .u8 0, .int .u8 0] 30)).frozen? ⟨w.heap.size, i, none⟩ = false := by simp [go_sem]
  have hsz : w.heap.size < (w.alloc (.cells #[.int .u8 0, .int .u8 0, .int .u8 0, .int .u8 0] 30)).heap.size := by simp
  generalize w.alloc (.cells #[.int .u8 0, .int .u8 0, .int .u8 0, .int .u8 0] 30) = W at *
  have D0 := hid D0
  have F0 := hid F0
  go_wp2_with (go_at_call 21; (with_reducible refine (HP.out _).mono ?_); rintro e wa ⟨a', c', rfl, ho, ba⟩; obtain ⟨g, hag, hg⟩ := own_some ho (by omega); rw [hag] at ho ⊢; clear hag; have ho' := own4 HB.out ho; have k0 := fun j hj => (ba.cell (p := ⟨w.heap.size, j, none⟩) hsz).trans (D0.out j hj); have k1 := fun i => (ba.frozen (p := ⟨w.heap.size, i, none⟩) hsz).trans (F0.out i); have m0 := ho'.1; have m1 := ho'.2.1; have m2 := ho'.2.2.1; have m3 := ho'.2.2.2; have z0 := k0 0 (by decide); have z1 := k0 1 (by decide); have z2 := k0 2 (by decide); have z3 := k0 3 (by decide); clear ho ho' k0)
  have q := put4 (v0 := .int .u8 b0) (v1 := .int .u8 b1) (v2 := .int .u8 b2) (v3 := .int .u8 b3) z0 z1 z2 z3
  have q0 := q.1
  have q1 := q.2.1
  have q2 := q.2.2.1
  have q3 := q.2.2.2
  have hb := B0.out.trans (ba.mono B0.out.size)
  refine bodyPost_ret (v := .agg #[.int .u8 b0, .int .u8 b1, .int .u8 b2, .int .u8 b3]) (by simp [results, Tryd.results8, go_sem, q0, q1, q2, q3]) rfl ⟨rfl, (((hb.setCell (Nat.le_refl _) _).setCell (Nat.le_refl _) _).setCell (Nat.le_refl _) _).setCell (Nat.le_refl _) _⟩
theorem lit4_oct {b0 b1 b2 b3 : Nat} (h0 : b0 < 256) (h1 : b1 < 256) (h2 : b2 < 256) (h3 : b3 < 256) : Byt [(b0 : Int), (b1 : Int), (b2 : Int), (b3 : Int)] := by
  intro y hy
  simp only [List.mem_cons, List.not_mem_nil, or_false] at hy
  rcases hy with rfl | rfl | rfl | rfl <;> omega
theorem num4 (b0 b1 b2 b3 : Nat) : valN false [(b0 : Int), (b1 : Int), (b2 : Int), (b3 : Int)] 4 = ((((b0 * 256 + b1) * 256 + b2) * 256 + b3 : Nat) : Int) := by
  show numB [(b0 : Int), (b1 : Int), (b2 : Int), (b3 : Int)] = _
  simp only [numB, List.foldl]
  omega
theorem of_call {b0 b1 b2 b3 : Nat} (h0 : b0 < 256) (h1 : b1 < 256) (h2 : b2 < 256) (h3 : b3 < 256) (w : World) (e : TypeId) :
    Calls Tryd.prog 22 #[.slice (some ⟨w.heap.size, 0, none⟩) 4 4] (w.alloc (.cells #[.int .u8 b0, .int .u8 b1, .int .u8 b2, .int .u8 b3] e)) fun e w' => e = .returned (.int .u32 (((b0 * 256 + b1) * 256 + b2) * 256 + b3 : Nat)) ∧ Below w.heap.size w w' :=
  (get32_any _ (nums_lit [(b0 : Int), (b1 : Int), (b2 : Int), (b3 : Int)] rfl (show 4 ≤ maxLen by decide) rfl) (by simp) (lit4_oct h0 h1 h2 h3)).mono fun e w' h => by
    rw [num4] at h
    exact ⟨h.1, ((Below.refl w.heap.size w).alloc (Nat.le_refl _) _).trans (h.2.mono (by simp))⟩
theorem of_any (b0 b1 b2 b3 : Nat) (h0 : b0 < 256) (h1 : b1 < 256) (h2 : b2 < 256) (h3 : b3 < 256) (w : World) :
    Calls Tryd.prog 10 #[.agg #[.int .u8 b0, .int .u8 b1, .int .u8 b2, .int .u8 b3]] w fun e w' => e = .returned (.int .u32 (((b0 * 256 + b1) * 256 + b2) * 256 + b3 : Nat)) ∧ Below w.heap.size w w' := by
  have HC := hid (show _ from fun (W : World) (e : TypeId) => of_call h0 h1 h2 h3 W e)
  obtain ⟨z, hz⟩ : ∃ z, ((b0 * 256 + b1) * 256 + b2) * 256 + b3 = z := ⟨_, rfl⟩
  rw [hz] at HC ⊢
  clear hz
  go_enter Tryd.func10, Tryd.ntmps10
  go_wp2_with (go_at_call 22; (with_reducible refine (HC.out _ _).mono ?_); rintro e wa ⟨rfl, ba⟩)
  go_ret
  exact ⟨rfl, ba⟩
theorem ref_bytes (x : Nat) (hx : x ≤ 4294967295) (w : World) :
    Calls Tryd.prog 9 #[.int .u32 x] w fun e w' => e = .returned (.agg (arr4 x)) ∧ Below w.heap.size w w' := by
  have e0 : (x : Int) / 16777216 = (by_ x 0 : Nat) := by unfold by_; omega
  have e1 : (x : Int) / 65536 % 256 = (by_ x 1 : Nat) := by unfold by_; omega
  have e2 : (x : Int) / 256 % 256 = (by_ x 2 : Nat) := by unfold by_; omega
  have e3 : (x : Int) % 256 = (by_ x 3 : Nat) := by unfold by_; omega
  unfold arr4
  go_enter Tryd.func9, Tryd.ntmps9
  go_wp2
  refine bodyPost_ret (v := .agg #[.int .u8 (by_ x 0 : Nat), .int .u8 (by_ x 1 : Nat), .int .u8 (by_ x 2 : Nat), .int .u8 (by_ x 3 : Nat)]) (by simp [results, Tryd.results9, go_sem]) rfl ⟨rfl, (Below.refl _ _).alloc (Nat.le_refl _) _⟩
/-- an address as a text -/
def parts (x : Nat) : List ByteArray := [decS (by_ x 0), decS (by_ x 1), decS (by_ x 2), decS (by_ x 3)]
def addrT (x : Nat) : ByteArray := ⟨(Lib.join ((parts x).map (·.data.toList)) [46]).toArray⟩
theorem num_byte (b : Nat) (hb : b < 256) (w : World) (hT : Lib.TabIs Tryd.prog w "internal/strconv.uint64pow10" .u64 Lib.pow10Tab) :
    Calls Tryd.prog 15 #[.int .i64 b] w fun e w' => e = .returned (.string (decS b)) ∧ Below w.heap.size w w' := by
  have h := num_tab (b : Int) (by omega) (by omega) w hT
  rw [show ((b : Int)).toNat = b by omega] at h
  exact h
theorem tab_below {w w' : World} (hT : Lib.TabIs Tryd.prog w "internal/strconv.uint64pow10" .u64 Lib.pow10Tab) (hb : Below w.heap.size w w') : Lib.TabIs Tryd.prog w' "internal/strconv.uint64pow10" .u64 Lib.pow10Tab := var_below hT hb
structure PartsAt (w wr : World) (x k : Nat) : Prop where
  below : Below w.heap.size w wr
  lt : w.heap.size < wr.heap.size
  cells : ∀ j, j < 4 → wr.cell? ⟨w.heap.size, j, none⟩ = some (.string (if j < k then decS (by_ x j) else ⟨#[]⟩))
  free : ∀ j, wr.frozen? ⟨w.heap.size, j, none⟩ = false
theorem PartsAt.next {w wr wa : World} {x k : Nat} (h : PartsAt w wr x k) (hk : k < 4) (hb : Below wr.heap.size wr wa) : PartsAt w (wa.setCell ⟨w.heap.size, k, none⟩ (.string (decS (by_ x k)))) x (k + 1) := by
  refine ⟨(h.below.trans (hb.mono h.below.size)).setCell (Nat.le_refl _) _, by have := h.lt; have := hb.size; simp [World.setCell]; omega, fun j hj => ?_, fun j => frozen_set ((hb.frozen (p := ⟨w.heap.size, j, none⟩) h.lt).trans (h.free j))⟩
  have hc := (hb.cell (p := ⟨w.heap.size, j, none⟩) h.lt).trans (h.cells j hj)
  by_cases e : j = k
  · subst e; rw [if_pos (by omega)]; exact cell_same hc
  · rw [cell_other hc (fun e' => e e'.symm)]
    have : (j < k + 1) = (j < k) := by apply propext; omega
    simp only [this]
theorem PartsAt.hit {w wr wa : World} {x k : Nat} (h : PartsAt w wr x k) (hk : k < 4) (hb : Below wr.heap.size wr wa) : wa.cell? ⟨w.heap.size, k, none⟩ = some (.string ⟨#[]⟩) ∧ wa.frozen? ⟨w.heap.size, k, none⟩ = false := by
  have hc := (hb.cell (p := ⟨w.heap.size, k, none⟩) h.lt).trans (h.cells k hk)
  rw [if_neg (by omega)] at hc
  exact ⟨hc, (hb.frozen (p := ⟨w.heap.size, k, none⟩) h.lt).trans (h.free k)⟩
theorem parts_start (w : World) (x : Nat) {wa : World} (hb : Below (w.heap.size + 1) (w.alloc (.cells #[.string ⟨#[]⟩, .string ⟨#[]⟩, .string ⟨#[]⟩, .string ⟨#[]⟩] 46)) wa) : PartsAt w wa x 0 := by
  refine ⟨((Below.refl _ _).alloc (Nat.le_refl _) _).trans (hb.mono (by omega)), by have := hb.size; simp at this; omega, fun j hj => ?_, fun j => ?_⟩
  · rw [if_neg (by omega), hb.cell (p := ⟨w.heap.size, j, none⟩) (by simp)]
    have : j = 0 ∨ j = 1 ∨ j = 2 ∨ j = 3 := by omega
    rcases this with rfl | rfl | rfl | rfl <;> simp [go_sem]
  · rw [hb.frozen (p := ⟨w.heap.size, j, none⟩) (by simp)]; simp [go_sem]
theorem dig_len (b : Nat) (h : b < 256) : (decS b).data.toList.length ≤ 3 := by
  have := dec_len b 3 (by decide) (by omega)
  unfold decS; simpa using this
theorem join4 (a b c d s : List UInt8) : Lib.join [a, b, c, d] s = a ++ (s ++ (b ++ (s ++ (c ++ (s ++ d))))) := by simp [Lib.join, List.intercalate, List.intersperse]
theorem join_len (x : Nat) : (Lib.join ((parts x).map (·.data.toList)) [46]).length ≤ 140737488355328 := by
  have h0 := dig_len _ (by_lt x 0)
  have h1 := dig_len _ (by_lt x 1)
  have h2 := dig_len _ (by_lt x 2)
  have h3 := dig_len _ (by_lt x 3)
  simp only [parts, List.map]
  rw [join4]
  simp only [List.length_append, List.length_cons, List.length_nil]
  omega
theorem join_parts {w wr : World} {x : Nat} (h : PartsAt w wr x 4) :
    Calls Tryd.prog 20 #[.slice (some ⟨w.heap.size, 0, none⟩) 4 4, .string ⟨#[46]⟩] wr fun e w' => e = .returned (.string (addrT x)) ∧ Below wr.heap.size wr w' :=
  Tryd.strings_Join w.heap.size 0 4 (parts x) ⟨#[46]⟩ wr (fun j y hj => by
    have hj4 : j < 4 := by have := (List.getElem?_eq_some_iff.1 hj).1; exact this
    have hc := h.cells j hj4
    rw [if_pos hj4] at hc
    rw [Nat.zero_add, hc]
    have : j = 0 ∨ j = 1 ∨ j = 2 ∨ j = 3 := by omega
    rcases this with rfl | rfl | rfl | rfl <;> (simp [parts] at hj; rw [hj])) h.lt (show 4 ≤ _ by omega) (show 4 ≤ 4 by omega) (join_len x)
theorem text_any (x : Nat) (hx : x ≤ 4294967295) (w : World) (hT : Lib.TabIs Tryd.prog w "internal/strconv.uint64pow10" .u64 Lib.pow10Tab) :
    Calls Tryd.prog 7 #[.int .u32 x] w fun e w' => e = .returned (.string (addrT x)) ∧ Below w.heap.size w w' := by
  have HB := hid (show _ from fun (W : World) => bytes_any x hx W)
  have HT := hid (fun (W : World) (h : Below w.heap.size w W) (k : Nat) => num_byte (by_ x k) (by_lt x k) W (tab_below hT h))
  clear hT hx
  have l0 := by_lt x 0
  have l1 := by_lt x 1
  have l2 := by_lt x 2
  have l3 := by_lt x 3
  have i0 : ∀ w, (Instr.index 30 (.agg (arr4 x)) (.int .i64 0)).run Tryd.prog w = .ok (.int .u8 (by_ x 0 : Nat)) w := fun _ => by kernel_rfl
  have i1 : ∀ w, (Instr.index 30 (.agg (arr4 x)) (.int .i64 1)).run Tryd.prog w = .ok (.int .u8 (by_ x 1 : Nat)) w := fun _ => by kernel_rfl
  have i2 : ∀ w, (Instr.index 30 (.agg (arr4 x)) (.int .i64 2)).run Tryd.prog w = .ok (.int .u8 (by_ x 2 : Nat)) w := fun _ => by kernel_rfl
  have i3 : ∀ w, (Instr.index 30 (.agg (arr4 x)) (.int .i64 3)).run Tryd.prog w = .ok (.int .u8 (by_ x 3 : Nat)) w := fun _ => by kernel_rfl
  go_enter Tryd.func7, Tryd.ntmps7
  go_wp2_with (go_at_call 8; (with_reducible refine (HB.out _).mono ?_); rintro e wa ⟨rfl, ba⟩)
  have HS := hid (parts_start w x (by simpa using ba))
  clear ba
  go_loopw [8] (fun iv wr => ∃ k : Nat, k ≤ 4 ∧ iv = .int .i64 k ∧ Hid (PartsAt w wr x k)) (fun iv _ => 4 - (intOf iv).toNat)
  case atStart => exact ⟨0, by omega, rfl, HS⟩
  case round =>
    clear HS
    obtain ⟨k, hk, rfl, HP⟩ := hrel
    by_cases hlt : k < 4
    · have hcase : k = 0 ∨ k = 1 ∨ k = 2 ∨ k = 3 := by omega
      rcases hcase with rfl | rfl | rfl | rfl
      all_goals
        go_wp2_with (go_at_call 15; (with_reducible refine (HT.out _ HP.out.below _).mono ?_); rintro e wb ⟨rfl, bb⟩; have hh := HP.out.hit (by omega) bb; have hh1 := hh.1; have hh2 := hh.2; clear hh)
        go_roundw
        case rel => (refine ⟨_, ?_, rfl, hid (HP.out.next (by omega) bb)⟩; decide)
        case measure => simp [intOf]
    · obtain rfl : k = 4 := by omega
      have HJ := hid (join_parts HP.out)
      clear i0 i1 i2 i3 l0 l1 l2 l3
      go_wp2_with (go_at_call 20; (with_reducible refine HJ.out.mono ?_); rintro e wb ⟨rfl, bb⟩)
      go_ret
      exact ⟨rfl, HP.out.below.trans (bb.mono HP.out.below.size)⟩
theorem ex_text : ((addrT 167772161).toList == [49, 48, 46, 48, 46, 48, 46, 49]) = true := by
  have hb : by_ 167772161 0 = 10 ∧ by_ 167772161 1 = 0 ∧ by_ 167772161 2 = 0 ∧ by_ 167772161 3 = 1 := by decide
  have e : addrT 167772161 = ⟨#[49, 48, 46, 48, 46, 48, 46, 49]⟩ := by
    unfold addrT parts
    rw [hb.1, hb.2.1, hb.2.2.1, hb.2.2.2]
    simp only [List.map]
    rw [join4]
    unfold decS
    have d0 : decDigits 0 = [48] := by rw [dec_lt (by decide)]; rfl
    have d1 : decDigits 1 = [49] := by rw [dec_lt (by decide)]; rfl
    have d10 : decDigits 10 = [49, 48] := by rw [dec_ge (by decide), show 10 / 10 = 1 by decide, d1]; rfl
    rw [d0, d1, d10]; rfl
  rw [e]; decide +kernel
theorem text_is (xi : Int) (x : Nat) (hxi : xi = x) (hx : x ≤ 4294967295) (s : ByteArray) (hs : addrT x = s) (w : World) (hT : Lib.TabIs Tryd.prog w "internal/strconv.uint64pow10" .u64 Lib.pow10Tab) :
    Calls Tryd.prog 7 #[.int .u32 xi] w fun e w' => e = .returned (.string s) ∧ Below w.heap.size w w' := by subst hs hxi; exact text_any x hx w hT
theorem alive_any (w : World) (hT : Lib.TabIs Tryd.prog w "internal/strconv.uint64pow10" .u64 Lib.pow10Tab) : Calls Tryd.prog 12 #[] w fun e w' => e = .returned (.bool true) ∧ Below w.heap.size w w' := by
  obtain ⟨s, hs⟩ : ∃ s, addrT 167772161 = s := ⟨_, rfl⟩
  have he := ex_text
  rw [hs] at he
  have HC := hid (text_is 167772161 167772161 rfl (by decide) s hs w hT)
  have HE := hid he
  clear he hs hT
  go_enter Tryd.func12, Tryd.ntmps12
  go_wp2_with (go_at_call 7; (with_reducible refine HC.out.mono ?_); rintro e wb ⟨rfl, bb⟩)
  go_ret
  exact ⟨ret_bool HE.out, bb⟩
end Go.Proofs.YtjcmceomhocmpaaDoor.adc
