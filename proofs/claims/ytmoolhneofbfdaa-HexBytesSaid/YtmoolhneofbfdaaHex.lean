/- The contracts of package hex, and of the document's own figures. -/
import Derived.Test.YtmoolhneofbfdaaOct
import Derived.Test.YtmoolhneofbfdaaHexMath
import Derived.Test.YtmoolhneofbfdaaShelfIdx
import Derived.Laws.BitsAll
import Derived.LoopTactic
import Derived.StillTailTactics
import Derived.Deep.RegionHeld3
import Derived.Test.YtmoolhneofbfdaaRegion
import Derived.Laws.Concat
import Derived.Deep.DeepCutAuto
namespace Go.Proofs.Ytmoolhneofbfdaa.hxc
open Go.RowKit
open Go.Proofs.Ytmoolhneofbfdaa.kit Go.Proofs.Ytmoolhneofbfdaa.hxm
set_option linter.unusedVariables false


/-- bytes as a string -/
theorem conv_nums {w : World} {B n cap : Nat} {a : Option Addr} {l : List Int} (h : Nums .u8 w B a n cap l) :
    (convert 22 9 (.slice a n cap)).run Try.prog w = .ok (.string (strOfNums l)) w := by
  cases a with
  | none =>
    have hc := h.nil rfl
    have hm : n = 0 := by have := h.le; omega
    subst hc hm
    have hl : l = [] := List.eq_nil_of_length_eq_zero h.len
    subst hl
    exact run_convert_bytes_nil w 22 5 Try.underlying22 Try.underlying5 0 0 9 Try.underlying9
  | some ad =>
    by_cases hn : 0 < n
    · obtain ⟨b, off, ha, _, _, hc⟩ := h.cells hn
      obtain rfl := Option.some.inj ha
      exact run_convert_bytes_arg w 22 5 Try.underlying22 Try.underlying5 b off n cap l h.len hc 9 Try.underlying9
    · obtain rfl : n = 0 := by omega
      have hl : l = [] := List.eq_nil_of_length_eq_zero h.len
      subst hl
      rw [run_convert_bytes_string w 22 9 5 (some ad) 0 cap Try.underlying22 Try.underlying5 Try.underlying9]
      rw [run_bytesToString w ad 0 cap [] (run_loadCells_list (P := Try.prog) w ad [] (fun j v hj => by simp at hj))]
      rfl

theorem fig_any (n : Int) (h0 : 0 ≤ n) (hn : n < 16) (w : World) : Calls Try.prog 34 #[.int .i64 n] w fun e w' => e = .returned (.string (strOfNums [fig n])) ∧ Below w.heap.size w w' := by
  by_cases h10 : n < 10
  · have hcv := conv_nums (nums_lit (w := w) (k := .u8) (e := 5) (cs := #[.int .u8 (48 + n)]) [48 + n] (n := 1) rfl (by decide) rfl)
    have hf : Hid (48 + n = fig n) := by unfold fig; rw [if_pos h10]; exact rfl
    go_enter Try.func34, Try.ntmps34
    go_wp2
    rw [hf.out]
    go_ret
    exact ⟨rfl, (Below.refl _ _).alloc (Nat.le_refl _) _⟩
  · have hcv := conv_nums (nums_lit (w := w) (k := .u8) (e := 5) (cs := #[.int .u8 (87 + n)]) [87 + n] (n := 1) rfl (by decide) rfl)
    have hf : Hid (87 + n = fig n) := by unfold fig; rw [if_neg h10]; exact rfl
    go_enter Try.func34, Try.ntmps34
    go_wp2
    rw [hf.out]
    go_ret
    exact ⟨rfl, (Below.refl _ _).alloc (Nat.le_refl _) _⟩

theorem str_add (a b : List Int) : strOfNums a ++ strOfNums b = strOfNums (a ++ b) := by
  unfold strOfNums; rw [ByteArray.mk_append_mk, List.map_append]

theorem run_add (a b : List Int) (h : a.length + b.length ≤ 100000) (w : World) : (Op.stringOp .add (strOfNums a) (strOfNums b)).run Try.prog w = .ok (.string (strOfNums (a ++ b))) w := by
  rw [run_string_add_sum (w := w) _ _ (by rw [strOfNums_size, strOfNums_size]; omega), str_add]
theorem ref_text {B n cap : Nat} {a : Option Addr} {l : List Int} (w : World) (h : Nums .u8 w B a n cap l) (hO : Oct l) (hn : n ≤ 1000) (hB : B ≤ w.heap.size) :
    Calls Try.prog 11 #[.slice a n cap] w fun e w' => e = .returned (.string (strOfNums (textI l))) ∧ Below w.heap.size w w' := by
  have hlen := hid h.len
  have HC := hid h.cells
  have HO := hid hO
  clear h hO
  have hstr := hid (show (Value.string { data := #[] }) = .string (strOfNums (textI (l.take 0))) from rfl)
  go_enter Try.func11, Try.ntmps11
  go_wp2
  go_loopw [3, 4] (fun sv iv wr => ∃ k : Nat, k ≤ n ∧ iv = .int .i64 k ∧ sv = .string (strOfNums (textI (l.take k))) ∧ Below w.heap.size w wr) (fun _ iv _ => n - (intOf iv).toNat)
  case atStart => exact ⟨0, Nat.zero_le _, rfl, hstr.out, Below.refl _ _⟩
  case round =>
    clear hstr
    obtain ⟨k, hk, rfl, rfl, hb⟩ := hrel
    by_cases hlt : k < n
    · obtain ⟨b, off, ha, hb1, hb2, hc⟩ := HC.out (by omega)
      subst ha
      have hcx : wr.cell? ⟨b, off + k, none⟩ = some (.int .u8 (l.getD k 0)) := (hb.cell (by show b < w.heap.size; omega)).trans (hc k hlt)
      have hx := HO.out.at k
      obtain ⟨x, hx0⟩ : ∃ x : Nat, l.getD k 0 = x := ⟨(l.getD k 0).toNat, by omega⟩
      rw [hx0] at hcx hx
      have HX := hid hx0
      clear hx0 hc HC
      go_wp2_with fail
      have hw1 : IntKind.i64.wrap (x : Int) = x := IntWalk.i64_in _ (by omega)
      have hw2 : IntKind.i64.wrap ((x : Int).tdiv 16) = (x : Int) / 16 := by rw [Int.tdiv_eq_ediv_of_nonneg (by omega)]; exact IntWalk.i64_in _ (by omega)
      have hw3 : (x : Int).tmod 16 = (x : Int) % 16 := Int.tmod_eq_emod_of_nonneg (by omega)
      have hw4 : IntKind.i64.wrap ((x : Int) / 16) = (x : Int) / 16 := IntWalk.i64_in _ (by omega)
      have hq0 : 0 ≤ (x : Int) / 16 := by omega
      have hq1 : (x : Int) / 16 < 16 := by omega
      have hq2 : 0 ≤ (x : Int) % 16 := by omega
      have hq3 : (x : Int) % 16 < 16 := by omega
      have hs1 : ¬ 9223372036854775807 < (strOfNums [fig ((x : Int) / 16)]).size + (strOfNums [fig ((x : Int) % 16)]).size := by rw [strOfNums_size, strOfNums_size]; simp
      have hs2 : ¬ 9223372036854775807 < (strOfNums (textI (l.take k))).size + ((strOfNums [fig ((x : Int) / 16)]).size + (strOfNums [fig ((x : Int) % 16)]).size) := by rw [strOfNums_size, strOfNums_size, strOfNums_size, textI_len]; have := List.length_take_le k l; simp; omega
      go_region_held3 (fun w' => w'.cell? ⟨b, off + k, none⟩ = some (.int .u8 x) ∧ Below w.heap.size w w') (first | exact ⟨hcx, hb.drew⟩ | exact keep2 (by assumption) (by assumption) | go_keep) ((go_at_call 34; refine (fig_any _ (by assumption) (by assumption) _).mono ?_; rintro e w1 ⟨rfl, hg⟩))
      have HB := hid (And.right (show w1.cell? ⟨b, off + k, none⟩ = some (.int .u8 x) ∧ Below w.heap.size w w1 by assumption))
      clear hw1 hw2 hw3 hw4 hs1 hs2 hcx
      go_wp2_with fail
      go_roundw
      case rel => exact ⟨k + 1, by omega, by go_num, by rw [str_add, str_add, take_getD (by rw [hlen.out]; omega), textI_snoc, HX.out]; rfl, HB.out⟩
      case measure => simp [intOf]; omega
    · obtain rfl : k = n := by omega
      go_wp2
      go_ret
      exact ⟨by rw [List.take_of_length_le (by rw [hlen.out]; omega)]; rfl, hb⟩

theorem figs_at (n : Int) (h0 : 0 ≤ n) (h1 : n < 16) (h : n.toNat < ByteArray.size ⟨#[48, 49, 50, 51, 52, 53, 54, 55, 56, 57, 97, 98, 99, 100, 101, 102]⟩) :
    (((⟨#[48, 49, 50, 51, 52, 53, 54, 55, 56, 57, 97, 98, 99, 100, 101, 102]⟩ : ByteArray)[n.toNat]'h).toNat : Int) = fig n := by
  have hc : n = 0 ∨ n = 1 ∨ n = 2 ∨ n = 3 ∨ n = 4 ∨ n = 5 ∨ n = 6 ∨ n = 7 ∨ n = 8 ∨ n = 9 ∨ n = 10 ∨ n = 11 ∨ n = 12 ∨ n = 13 ∨ n = 14 ∨ n = 15 := by omega
  rcases hc with rfl | rfl | rfl | rfl | rfl | rfl | rfl | rfl | rfl | rfl | rfl | rfl | rfl | rfl | rfl | rfl <;> rfl
theorem text_any {B n cap : Nat} {a : Option Addr} {l : List Int} (w : World) (h : Nums .u8 w B a n cap l) (hO : Oct l) (hn : n ≤ 1000) (hB : B ≤ w.heap.size) :
    Calls Try.prog 9 #[.slice a n cap] w fun e w' => e = .returned (.string (strOfNums (textI l))) ∧ Below w.heap.size w w' := by
  obtain ⟨i0, hi, hi0, hi1, hi2⟩ := info_parts Try.info_u8
  have hlen := hid h.len
  have HC := hid h.cells
  have HO := hid hO
  clear h hO
  go_enter Try.func9, Try.ntmps9
  go_wp2_with (at_make; go_loud (refine wpList_make_own _ rfl _ _ _ rfl w.heap.size 5 i0 (.int .u8 0) 1 Try.underlying22 hi hi0 hi1 .i64 .i64 _ (2 * n) rfl rfl (by omega) (by rw [hi2]; omega) (by unfold maxLen; omega) (Nat.le_refl _) ?_); go_loud (intro w1 h1 h2))
  have hb1 := below_none (Below.refl w.heap.size w) h2 (Nat.le_refl _)
  go_loopw [3, 12] (fun sv iv wr => ∃ k : Nat, k ≤ n ∧ iv = .int .i64 k ∧ wr.ownsRow w.heap.size 5 1 sv (2 * k) ((textI (l.take k)).map (Value.int .u8)) ∧ Below w.heap.size w wr) (fun _ iv _ => n - (intOf iv).toNat)
  case atStart => exact ⟨0, Nat.zero_le _, rfl, h1, hb1⟩
  case round =>
    clear h1 h2 hb1
    obtain ⟨k, hk, rfl, hown, hb⟩ := hrel
    by_cases hlt : k < n
    · obtain ⟨b, off, ha, hb1, hb2, hc⟩ := HC.out (by omega)
      subst ha
      have hcx : wr.cell? ⟨b, off + k, none⟩ = some (.int .u8 (l.getD k 0)) := (hb.cell (by show b < w.heap.size; omega)).trans (hc k hlt)
      have hx := HO.out.at k
      obtain ⟨x, hx0⟩ : ∃ x : Nat, l.getD k 0 = x := ⟨(l.getD k 0).toNat, by omega⟩
      rw [hx0] at hcx hx
      have HX := hid hx0
      clear hx0 hc HC
      go_wp2_with fail
      have hxa : bits BinOp.and IntKind.u8 (x : Int) 15 = (x : Int) % 16 := u8_and15 _ (by omega) (by omega)
      have hq0 : 0 ≤ (x : Int) / 16 := by omega
      have hq1 : (x : Int) / 16 < 16 := by omega
      have hq2 : 0 ≤ (x : Int) % 16 := by omega
      have hq3 : (x : Int) % 16 < 16 := by omega
      have HOwn := hid hown
      clear hown
      go_region_law (refine step_append_nums rfl (.tmp 16) (.tmp 23) 22 rfl w.heap.size 5 i0 (.int .u8 0) 1 Try.underlying22 hi hi0 hi1 hi2 rfl _ (2 * k) _ rfl (HOwn.out.alloc _).drew _ 2 2 _ _ rfl nums_two.drew (by unfold maxLen; omega) (by omega) (by have := hb.size; simp; omega) ?_; intro v1 w3 g1 g2)
      all_goals
        rw [figs_at _ hq0 hq1, figs_at _ hq2 hq3] at g1
        have hb3 := own_below ((HOwn.out.alloc _).drew) ((hb.alloc hb.size _).drew) g2 (by have := hb.size; simp; omega)
        have e1 : textI (l.take k) ++ [fig ((x : Int) / 16), fig ((x : Int) % 16)] = textI (l.take (k + 1)) := by rw [take_getD (by rw [hlen.out]; omega), textI_snoc, HX.out]; rfl
        have e2 : 2 * k + 2 = 2 * (k + 1) := by omega
        rw [e1, e2] at g1
        have G1 := hid g1
        clear g1 g2 e1 e2 hcx HOwn hxa
        go_wp2_with fail
        go_roundw
        case rel => exact ⟨k + 1, by omega, by go_num, G1.out, hb3⟩
        case measure => simp [intOf]; omega
    · obtain rfl : k = n := by omega
      rw [List.take_of_length_le (by rw [hlen.out]; omega)] at hown
      obtain ⟨a', c', rfl⟩ := own_slice hown
      have hcv := conv_nums (own_nums hown)
      go_wp2
      go_ret
      exact ⟨rfl, hb⟩

/-- what is read: the bytes of figures, or that there are none -/
def ReadPost (l : List Int) (ok no : Value) (w : World) (e : Ending) (w' : World) : Prop :=
  Below w.heap.size w w' ∧ ((Figs l ∧ ∃ a c, e = .returned (.tuple #[.slice a (l.length / 2) c, ok]) ∧ Nums .u8 w' w'.heap.size a (l.length / 2) c (vals l (l.length / 2))) ∨
    (¬ Figs l ∧ e = .returned (.tuple #[.slice none 0 0, no])))
theorem join4 (h l : Int) (h0 : 0 ≤ h) (h1 : h < 16) (l0 : 0 ≤ l) (l1 : l < 16) : bits BinOp.or IntKind.i64 (h * 16) l = 16 * h + l := by
  have := bits_join .i64 63 (by decide) (fun n h0 h1 => IntWalk.i64_in _ (by omega)) 4 (h * 16) l (by omega) (by omega) (by omega) l0 (by omega) (by omega)
  omega

theorem index_is (c x : Int) (h : c = x) (h0 : 0 ≤ x ∧ x ≤ 255) (w : World) :
    Calls Try.prog 33 #[.string ⟨#[48, 49, 50, 51, 52, 53, 54, 55, 56, 57, 97, 98, 99, 100, 101, 102]⟩, .int .u8 c] w fun e w' => e = .returned (.int .i64 (unfig x)) ∧ w = w' :=
  (shf.index_byte _ _ w).mono fun e w' ⟨he, hw⟩ => ⟨by rw [he, h, ← index_fig x h0.1 h0.2], hw.symm⟩
set_option maxHeartbeats 1000000 in
theorem read_any (s : ByteArray) (hs : s.size ≤ 1000) (w : World) :
    Calls Try.prog 10 #[.string s] w (ReadPost (nums s) (.int .i64 0) (.int .i64 11) w) := by
  obtain ⟨i0, hi, hi0, hi1, hi2⟩ := info_parts Try.info_u8
  have hln := nums_len s
  by_cases hev : s.size % 2 = 0
  · obtain ⟨m, hm⟩ : ∃ m, s.size = 2 * m := ⟨s.size / 2, by omega⟩
    have HM := hid hm
    have hm2 : (s.size : Int) % 2 = 0 := by omega
    have hm3 : (s.size : Int) / 2 = m := by omega
    have HLn := hid hln
    clear hm hln hev
    go_enter Try.func10, Try.ntmps10
    go_wp2_with (at_make; go_loud (refine wpList_make_own _ rfl _ _ _ rfl w.heap.size 5 i0 (.int .u8 0) 1 Try.underlying22 hi hi0 hi1 .i64 .i64 _ m rfl rfl (by omega) (by rw [hi2]; omega) (by unfold maxLen; omega) (Nat.le_refl _) ?_); go_loud (intro w1 h1 h2))
    have hb1 := below_none (Below.refl w.heap.size w) h2 (Nat.le_refl _)
    clear h2
    go_loopw [4, 5, 6, 7] (fun ov iv _ _ wr => ∃ j t : Nat, t = 2 * j ∧ j ≤ m ∧ iv = .int .i64 t ∧ wr.ownsRow w.heap.size 5 1 ov j ((vals (nums s) j).map (Value.int .u8)) ∧ (∀ k, k < j → okP (nums s) k) ∧ Below w.heap.size w wr) (fun _ iv _ _ _ => 2 * m - (intOf iv).toNat)
    case atStart => exact ⟨0, 0, rfl, Nat.zero_le _, rfl, h1, fun k hk => by omega, hb1⟩
    case round =>
      clear h1 hb1
      obtain ⟨j, t, ht, hj, rfl, hown, hok, hb⟩ := hrel
      have HOK := hid hok
      clear hok
      have hsz : s.size = 2 * m := HM.out
      by_cases hlt : j < m
      · have ht1 : t < s.size := by omega
        have ht2 : t + 1 < s.size := by omega
        have HT := hid ht
        have hmm : (t : Int) < s.size := by omega
        obtain ⟨x1, hx1⟩ : ∃ x1, x1 = (nums s).getD t 0 := ⟨_, rfl⟩
        obtain ⟨x2, hx2⟩ : ∃ x2, x2 = (nums s).getD (t + 1) 0 := ⟨_, rfl⟩
        have hbd1 : Hid (0 ≤ x1 ∧ x1 ≤ 255) := by rw [hx1, ← nums_at s t ht1]; have := (s[t]).toNat_lt; exact ⟨by omega, by omega⟩
        have hbd2 : Hid (0 ≤ x2 ∧ x2 ≤ 255) := by rw [hx2, ← nums_at s (t + 1) ht2]; have := (s[t + 1]).toNat_lt; exact ⟨by omega, by omega⟩
        have HX1 := hid hx1
        have HX2 := hid hx2
        obtain ⟨u1, hu1⟩ : ∃ u1, u1 = unfig x1 := ⟨_, rfl⟩
        obtain ⟨u2, hu2⟩ : ∃ u2, u2 = unfig x2 := ⟨_, rfl⟩
        have hb1 : -1 ≤ u1 ∧ u1 < 16 := by rw [hu1]; exact unfig_bd _
        have hb2 : -1 ≤ u2 ∧ u2 < 16 := by rw [hu2]; exact unfig_bd _
        have HU1 := hid hu1
        have HU2 := hid hu2
        have HSZ := hid hsz
        clear hx1 hx2 hu1 hu2 ht hsz
        go_upto_region 9 with (go_at_call 33; first | ((with_reducible refine (index_is _ x1 (by rw [HX1.out]; exact nums_at s t ht1) hbd1.out _).mono ?_); rintro e w' ⟨rfl, rfl⟩; rw [← HU1.out]) | (refine (index_is _ x2 (by rw [HX2.out]; exact nums_at s (t + 1) ht2) hbd2.out _).mono ?_; rintro e w' ⟨rfl, rfl⟩; rw [← HU2.out]))
        by_cases hbad : u1 < 0 ∨ u2 < 0
        · have HBad : Hid (¬ Figs (nums s)) := by
            intro hG
            have h1 := HT.out
            have h2 := HSZ.out
            have h3 := hG.2 j (by rw [HLn.out]; omega)
            unfold okP at h3
            rw [← h1, ← HX1.out, ← HX2.out, ← HU1.out, ← HU2.out] at h3
            omega
          by_cases hu1 : u1 < 0
          · go_wp2_with fail
            go_ret2
            exact ⟨hb, .inr ⟨HBad.out, rfl⟩⟩
          · have hu2 : u2 < 0 := by omega
            clear hbad
            go_wp2_with fail
            go_ret2
            exact ⟨hb, .inr ⟨HBad.out, rfl⟩⟩
        · have hu1 : 0 ≤ u1 := by omega
          have hu2 : 0 ≤ u2 := by omega
          have hju := join4 u1 u2 hu1 (by omega) hu2 (by omega)
          have hju2 : bits BinOp.or IntKind.i64 (u1 * 16) u2 % 256 = 16 * u1 + u2 := by rw [hju]; omega
          have HJ := hid hju2
          clear hbad hju hju2
          go_upto_region 11 with fail
          go_wp2_with (at_builtin; go_loud (refine wpList_append_nums rfl (.tmp 37) _ 22 rfl w.heap.size 5 i0 (.int .u8 0) 1 Try.underlying22 hi hi0 hi1 hi2 rfl _ j _ rfl (hown.alloc _) _ 1 1 _ _ rfl nums_one (by unfold maxLen; omega) (by omega) (by have := hb.size; simp; omega) ?_); go_loud (intro v1 w3 g1 g2))
          have hb3 := own_below (hown.alloc _) (hb.alloc hb.size _) g2 (by have := hb.size; simp; omega)
          have G1 := hid g1
          clear g1 g2 hown
          go_roundw
          case rel =>
            refine ⟨j + 1, t + 2, by have := HT.out; omega, by omega, by go_num, ?_, ?_, hb3⟩
            · rw [vals_succ]
              have e : valP (nums s) j = 16 * u1 + u2 := by unfold valP; rw [← HT.out, ← HX1.out, ← HX2.out, ← HU1.out, ← HU2.out]
              rw [e]
              have := G1.out
              first | exact this | (rw [HJ.out] at this; exact this)
            · intro k hk
              by_cases e : k = j
              · subst e; unfold okP; rw [← HT.out, ← HX1.out, ← HX2.out, ← HU1.out, ← HU2.out]; exact ⟨hu1, hu2⟩
              · exact HOK.out k (by omega)
          case measure => simp [intOf]; have := HT.out; omega
      · obtain rfl : j = m := by omega
        have HG : Hid (Figs (nums s)) := ⟨by rw [HLn.out]; omega, fun k hk => HOK.out k (by rw [HLn.out] at hk; omega)⟩
        have hl2 : (nums s).length / 2 = j := by rw [HLn.out]; omega
        have HL2 := hid hl2
        have hmm : ¬ (t : Int) < s.size := by omega
        clear hl2
        go_wp2_with fail
        go_ret2
        obtain ⟨a', c', rfl⟩ := own_slice hown
        exact ⟨hb, .inl ⟨HG.out, a', c', by rw [HL2.out]; rfl, by rw [HL2.out]; exact own_nums hown⟩⟩
  · have hm2 : (s.size : Int) % 2 = 1 := by omega
    have HBad : Hid (¬ Figs (nums s)) := by intro hG; have := hG.1; rw [hln] at this; omega
    clear hln hev
    go_enter Try.func10, Try.ntmps10
    go_wp2_with fail
    go_ret2
    exact ⟨Below.refl _ _, .inr ⟨HBad.out, rfl⟩⟩
end Go.Proofs.Ytmoolhneofbfdaa.hxc
