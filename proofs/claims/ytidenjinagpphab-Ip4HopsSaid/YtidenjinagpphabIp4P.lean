/- ip4: the contracts of measure and Parse. -/
import Derived.Test.YtidenjinagpphabIp4
import Derived.Test.YtidenjinagpphabRdrList
import Derived.Test.YtidenjinagpphabQuietC
import Derived.Laws.BitsAll
namespace Go.Proofs.Ytidenjinagpphab.ipc
open Go.RowKit
open Go.Proofs.Ytidenjinagpphab.kit Go.Proofs.Ytidenjinagpphab.bec Go.Proofs.Ytidenjinagpphab.ipm Go.Proofs.Ytidenjinagpphab.sm Go.Proofs.Ytidenjinagpphab.sc
set_option linter.unusedVariables false
set_option maxRecDepth 20000

theorem drop_cons {l : List Int} {k : Nat} (h : k < l.length) : l.drop k = l.getD k 0 :: l.drop (k + 1) := by
  rw [List.drop_eq_getElem_cons h, List.getD_eq_getElem?_getD, List.getElem?_eq_getElem h]; rfl
theorem u8_at (w : World) (g D : Nat) (l : List Int) (k : Nat) (hk : k + 1 ≤ l.length) (h : RdrAt w g D false (l.drop k)) (hb : Byt l) (x : Int) (hx : l.getD k 0 = x) :
    Calls Try.prog 59 #[.pointer (some ⟨g, 0, none⟩)] w fun e w' => e = .returned (.int .u8 x) ∧ RdrAt w' g D false (l.drop (k + 1)) ∧ w.grownBy w' (some g) := by
  have hb2 := hb.drop k
  rw [drop_cons (by omega)] at h hb2
  subst hx
  exact u8_cons w g D _ _ h hb2
theorem u16_at (w : World) (g D : Nat) (l : List Int) (k : Nat) (hk : k + 2 ≤ l.length) (h : RdrAt w g D false (l.drop k)) (hb : Byt l) (x : Int) (hx : w2 l k = x) :
    Calls Try.prog 60 #[.pointer (some ⟨g, 0, none⟩)] w fun e w' => e = .returned (.int .u16 x) ∧ RdrAt w' g D false (l.drop (k + 2)) ∧ w.grownBy w' (some g) :=
  (u16_any w g D false _ h (hb.drop k)).mono fun e w' ⟨q, he, hq, hr, hg⟩ => by
    have h1 : okN false (l.drop k) 2 = true := by simp [okN, okR]; omega
    have h2 : valN false (l.drop k) 2 = x := by
      unfold valN; rw [h1, ← hx, drop_cons (by omega), drop_cons (k := k + 1) (by omega)]; simp [numB, w2]; omega
    have h3 : leftN false (l.drop k) 2 = l.drop (k + 2) := by unfold leftN; rw [h1]; simp [List.drop_drop]
    rw [h2] at hq; rw [h1, h3] at hr; subst hq; exact ⟨he, hr, hg⟩
theorem u32_at (w : World) (g D : Nat) (l : List Int) (k : Nat) (hk : k + 4 ≤ l.length) (h : RdrAt w g D false (l.drop k)) (hb : Byt l) (x : Int) (hx : w4 l k = x) :
    Calls Try.prog 61 #[.pointer (some ⟨g, 0, none⟩)] w fun e w' => e = .returned (.int .u32 x) ∧ RdrAt w' g D false (l.drop (k + 4)) ∧ w.grownBy w' (some g) :=
  (u32_any w g D false _ h (hb.drop k)).mono fun e w' ⟨q, he, hq, hr, hg⟩ => by
    have h1 : okN false (l.drop k) 4 = true := by simp [okN, okR]; omega
    have h2 : valN false (l.drop k) 4 = x := by
      unfold valN; rw [h1, ← hx, drop_cons (by omega), drop_cons (k := k + 1) (by omega), show k + 1 + 1 = k + 2 from rfl, drop_cons (k := k + 2) (by omega), show k + 2 + 1 = k + 3 from rfl, drop_cons (k := k + 3) (by omega)]; simp [numB, w4]; omega
    have h3 : leftN false (l.drop k) 4 = l.drop (k + 4) := by unfold leftN; rw [h1]; simp [List.drop_drop]
    rw [h2] at hq; rw [h1, h3] at hr; subst hq; exact ⟨he, hr, hg⟩
theorem get16_at (w : World) {B n cap : Nat} {a : Option Addr} {l : List Int} (h : Nums .u8 w B a n cap l) (hB : B ≤ w.heap.size) (hb : Byt l) (hn : 2 ≤ n) (x : Int) (hx : w2 l 0 = x) :
    Calls Try.prog 70 #[.slice a n cap] w fun e w' => e = .returned (.int .u16 x) ∧ Below w.heap.size w w' :=
  (get16_any w h hB hb).mono fun e w' ⟨he, hw⟩ => ⟨by
    have hl := h.len
    have h1 : okN false l 2 = true := by simp [okN, okR]; omega
    have h2 : valN false l 2 = x := by
      unfold valN; rw [h1, ← hx]
      match l, hl with
      | p :: q :: r, _ => simp [numB, w2]; omega
      | [p], hl => simp at hl; omega
      | [], hl => simp at hl; omega
    rw [he, h2], hw⟩
theorem w2_drop (l : List Int) (k : Nat) : w2 (l.drop k) 0 = w2 l k := by unfold w2; simp [List.getD_eq_getElem?_getD, List.getElem?_drop]
theorem and15 (x : Int) (h : 0 ≤ x ∧ x ≤ 255) : bits .and .u8 x 15 = x % 16 := by
  rw [u8_and x 15 h.1 (by omega) (by omega) (by omega)]
  obtain ⟨k, rfl⟩ : ∃ k : Nat, x = k := ⟨x.toNat, by omega⟩
  have hk : ∀ y : Fin 256, y.val &&& 15 = y.val % 16 := by decide +kernel
  have := hk ⟨k, by omega⟩
  have e : (k : Int).toNat &&& (15 : Int).toNat = k % 16 := this
  rw [e]; omega
theorem and240 (x : Int) (h : 0 ≤ x ∧ x ≤ 255) : bits .and .u8 x 240 = x / 16 * 16 := by
  rw [u8_and x 240 h.1 (by omega) (by omega) (by omega)]
  obtain ⟨k, rfl⟩ : ∃ k : Nat, x = k := ⟨x.toNat, by omega⟩
  have hk : ∀ y : Fin 256, y.val &&& 240 = y.val / 16 * 16 := by decide +kernel
  have := hk ⟨k, by omega⟩
  have e : (k : Int).toNat &&& (240 : Int).toNat = k / 16 * 16 := this
  rw [e]; omega
def MPost (W0 : World) (L : List Sl) (h al : Nat) (y : Int) (e : Ending) (W' : World) : Prop := e = .returned (.tuple #[.int .i64 (h : Nat), .int .i64 (al : Nat), .int .i64 y]) ∧ St W0 W' L
def MPostI (W0 : World) (L : List Sl) (hd al : Nat) (y : Int) (e : Ending) (W' : World) : Prop := MPost W0 L (if y = 0 then hd else 0) (if y = 0 then al else 0) y e W'
theorem mpost_err {W0 W' : World} {L : List Sl} {hd al : Nat} {y : Int} (E : Int) (hy : y = E) (hE : E ≠ 0) (hs : St W0 W' L) : MPostI W0 L hd al y (.returned (.tuple #[.int .i64 0, .int .i64 0, .int .i64 E])) W' := by
  subst hy; unfold MPostI; rw [if_neg hE, if_neg hE]; exact ⟨rfl, hs⟩
theorem mpost_ok {W0 W' : World} {L : List Sl} {hd al : Nat} {y : Int} (hy : y = 0) (hs : St W0 W' L) : MPostI W0 L hd al y (.returned (.tuple #[.int .i64 (hd : Nat), .int .i64 (al : Nat), .int .i64 0])) W' := by
  subst hy; unfold MPostI; rw [if_pos rfl, if_pos rfl]; exact ⟨rfl, hs⟩
theorem measure_short {W0 W : World} {L : List Sl} {a : Option Addr} {n c : Nat} (h : St W0 W L) (hn : n < 20) :
    Calls Try.prog 57 #[.slice a n c] W (MPost W0 L 0 0 10) := by
  have HS := hid h
  have h1' : (n : Int) < 20 := by omega
  clear h
  go_enter Try.func57, Try.ntmps57
  go_wp2_with fail
  refine bodyPost_ret (v := .tuple #[.int .i64 0, .int .i64 0, .int .i64 10]) (by simp [results, Try.results57, go_sem]) rfl ?_
  exact ⟨rfl, HS.out⟩
set_option maxHeartbeats 2000000 in
theorem measure_long {W0 W : World} {L : List Sl} {a : Option Addr} {n c : Nat} {l : List Int} (h : St W0 W L) (hm : (a, n, c, l) ∈ L) (hb : Oct l) (hn : n ≤ 100000) (h20 : ¬ n < 20) :
    Calls Try.prog 57 #[.slice a n c] W (MPostI W0 L (hdL l) (alL l) (whyL l)) := by
  have N := h.get hm
  have hle := N.le
  have hmx := N.max
  have hlen := N.len
  unfold maxLen at hmx
  have HS := hid h
  obtain ⟨b, off, ha, hb1, hb2, hc⟩ := N.cells (by omega)
  subst ha
  have hx0 := hb.at 0
  have k0 : W.cell? ⟨b, off, none⟩ = some (.int .u8 (l.getD 0 0)) := hc 0 (by omega)
  obtain ⟨x0, hx0e⟩ : ∃ x0, x0 = l.getD 0 0 := ⟨_, rfl⟩
  obtain ⟨s, hse⟩ : ∃ s, s = w2 l 2 := ⟨_, rfl⟩
  have hs1 : 0 ≤ s ∧ s ≤ 65535 := by have := hb.at 2; have := hb.at (2 + 1); rw [hse]; unfold w2; omega
  obtain ⟨hd, hhd⟩ : ∃ hd, hd = hdL l := ⟨_, rfl⟩
  obtain ⟨al, hal⟩ : ∃ al, al = alL l := ⟨_, rfl⟩
  rw [← hx0e] at k0 hx0
  have hdq : x0 % 16 * 4 = (hd : Int) := by rw [hhd, hx0e]; unfold hdL; rw [← hx0e]; omega
  have hals : s = (al : Int) := by rw [hal]; unfold alL; rw [← hse]; omega
  have N2 : Nums .u8 W W.heap.size (some ⟨b, off + 2, none⟩) (n - 2) (c - 2) (l.drop 2) := N.drop (by omega) (fun h => by omega) (fun h => by simp [Addr.add])
  have HG := hid (fun (M : After W) => after_call (get16_at M.w (N2.below M.h) M.h.size (Byt.drop (l := l) hb 2) (by omega) s (by rw [w2_drop, hse])))
  have HL := hid hlen
  have HB := hid hb
  have HN := hid N
  have HX0 := hid hx0e
  rw [← hhd, ← hal]
  have WC := hid (why_cases l)
  rw [← hhd, ← hal, ← hx0e, hlen] at WC
  obtain ⟨y, hy⟩ : ∃ y, y = whyL l := ⟨_, rfl⟩
  rw [← hy] at WC
  rw [← hy]
  have hc2 : ¬ c = 2 := by omega
  have e15 := and15 x0 hx0
  have e240 := and240 x0 hx0
  obtain ⟨q, hq⟩ : ∃ q, q = x0 % 16 := ⟨_, rfl⟩
  obtain ⟨v, hv⟩ : ∃ v, v = x0 / 16 * 16 := ⟨_, rfl⟩
  have hqb : 0 ≤ q ∧ q ≤ 15 := by omega
  rw [← hq] at e15 hdq
  rw [← hv] at e240
  have HV := hid hv
  have wq : IntKind.i64.wrap (q * 4) = (hd : Int) := by rw [← hdq]; exact IntWalk.i64_in _ (by omega)
  have hdb : hd ≤ 60 := by omega
  subst hals
  have K0 := After.cell k0
  have h20' : ¬ (n : Int) < 20 := by omega
  have hn0 : 0 < n := by omega
  have hn2 : (2 : Int) ≤ n := by omega
  clear hc N2 N hlen hb hx0e hse hhd hal hy hq hv h hm h20
  go_enter Try.func57, Try.ntmps57
  go_upto_region 3 with fail
  refine wp_region_after W (by kernel_rfl) (by kernel_rfl) ((Below.refl _ _).drew) ?_
  repeat (go_big_quiet_step (exact HG.out _))
  refine wpQuiet_nil ?_
  intro _ hw'
  obtain ⟨⟨w3, b3⟩, hw3⟩ := hw'
  have hw3' : w3 = _ := hw3.symm
  clear hw3
  subst hw3'
  have k3 := keep_cell b3 k0
  have S3 := hid (HS.out.next b3)
  have hl3 := b3.size
  have N3 := hid ((HN.out.below b3).mono b3.size)
  clear K0 HG k0 b3 e15 hdq wq hqb
  rcases WC.out with ⟨h1, _⟩ | ⟨_, h2, hw⟩ | ⟨_, h2, h3, h4, h5, hw⟩ | ⟨_, h2, h3, h4, h5, h6, hw⟩ | ⟨_, h2, h3, h4, h5, h6, hw⟩
  · omega
  · have HY := hid hw
    clear WC hw
    by_cases hx4 : x0 / 16 = 4
    · have hv : (v != 64) = false := by have := HV.out; simp; omega
      by_cases hd20 : hd < 20
      · have hd20' : (hd : Int) < 20 := by omega
        clear hx4 h2 hd20
        go_wp2_with fail
        refine bodyPost_ret (v := .tuple #[.int .i64 0, .int .i64 0, .int .i64 11]) (by simp [results, Try.results57, go_sem]) rfl ?_
        exact mpost_err 11 HY.out (by decide) S3.out
      · have hd20' : ¬ (hd : Int) < 20 := by omega
        have had : (al : Int) < hd := by omega
        clear hx4 h2 hd20
        go_wp2_with fail
        refine bodyPost_ret (v := .tuple #[.int .i64 0, .int .i64 0, .int .i64 11]) (by simp [results, Try.results57, go_sem]) rfl ?_
        exact mpost_err 11 HY.out (by decide) S3.out
    · have hv : (v != 64) = true := by have := HV.out; simp; omega
      clear hx4 h2
      go_wp2_with fail
      refine bodyPost_ret (v := .tuple #[.int .i64 0, .int .i64 0, .int .i64 11]) (by simp [results, Try.results57, go_sem]) rfl ?_
      exact mpost_err 11 HY.out (by decide) S3.out
  · have HY := hid hw
    have hv : (v != 64) = false := by have := HV.out; simp; omega
    have hd20' : ¬ (hd : Int) < 20 := by omega
    have had : ¬ (al : Int) < hd := by omega
    have hna : (n : Int) < al := by omega
    clear WC hw h2 h3 h4 h5
    go_wp2_with fail
    refine bodyPost_ret (v := .tuple #[.int .i64 0, .int .i64 0, .int .i64 10]) (by simp [results, Try.results57, go_sem]) rfl ?_
    exact mpost_err 10 HY.out (by decide) S3.out
  · have HY := hid hw
    have hv : (v != 64) = false := by have := HV.out; simp; omega
    have hd20' : ¬ (hd : Int) < 20 := by omega
    have had : ¬ (al : Int) < hd := by omega
    have hna : ¬ (n : Int) < al := by omega
    have hdc : hd ≤ c := by omega
    have hck : (chk (l.take hd) == 0) = false := by simpa using h6
    have HR := hid (hck ▸ sc.right_any w3 (N3.out.take (m := hd) (by omega)) (fun x hx => HB.out x (List.mem_of_mem_take hx)) (Nat.le_refl _))
    have hsl := slice_to (some ⟨b, off, none⟩) n c hd hdc
    clear WC hw h2 h3 h4 h5 h6 hck
    go_wp2_with (go_at_call 98; ((with_reducible refine HR.out.mono ?_); rintro e w4 ⟨rfl, b4⟩))
    refine bodyPost_ret (v := .tuple #[.int .i64 0, .int .i64 0, .int .i64 50]) (by simp [results, Try.results57, go_sem]) rfl ?_
    exact mpost_err 50 HY.out (by decide) (S3.out.next b4)
  · have HY := hid hw
    have hv : (v != 64) = false := by have := HV.out; simp; omega
    have hd20' : ¬ (hd : Int) < 20 := by omega
    have had : ¬ (al : Int) < hd := by omega
    have hna : ¬ (n : Int) < al := by omega
    have hdc : hd ≤ c := by omega
    have hck : (chk (l.take hd) == 0) = true := by simpa using h6
    have HR := hid (hck ▸ sc.right_any w3 (N3.out.take (m := hd) (by omega)) (fun x hx => HB.out x (List.mem_of_mem_take hx)) (Nat.le_refl _))
    have hsl := slice_to (some ⟨b, off, none⟩) n c hd hdc
    clear WC hw h2 h3 h4 h5 h6 hck
    go_wp2_with (go_at_call 98; ((with_reducible refine HR.out.mono ?_); rintro e w4 ⟨rfl, b4⟩))
    refine bodyPost_ret (v := .tuple #[.int .i64 (hd : Nat), .int .i64 (al : Nat), .int .i64 0]) (by simp [results, Try.results57, go_sem]) rfl ?_
    exact mpost_ok HY.out (S3.out.next b4)
theorem measure_any {W0 W : World} {L : List Sl} {a : Option Addr} {n c : Nat} {l : List Int} (h : St W0 W L) (hm : (a, n, c, l) ∈ L) (hb : Oct l) (hn : n ≤ 100000) :
    Calls Try.prog 57 #[.slice a n c] W (MPost W0 L (if whyL l = 0 then hdL l else 0) (if whyL l = 0 then alL l else 0) (whyL l)) := by
  by_cases h20 : n < 20
  · have hw : whyL l = 10 := by unfold whyL; rw [if_pos (by rw [(h.get hm).len]; exact h20)]
    rw [hw]
    exact measure_short h h20
  · exact measure_long h hm hb hn h20
end Go.Proofs.Ytidenjinagpphab.ipc
