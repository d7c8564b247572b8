/- greh: that the package lives; the contracts as its laws call them. -/
import Derived.Test.YtgoldoaigijmoaaGreh2
import Derived.Test.YtgoldoaigijmoaaGrehM
import Derived.Test.YtgoldoaigijmoaaStrNums
namespace Go.Proofs.Ytgoldoaigijmoaa.grc
open Go.RowKit
open Go.Proofs.Ytgoldoaigijmoaa.kit Go.Proofs.Ytgoldoaigijmoaa.bec Go.Proofs.Ytgoldoaigijmoaa.hxt Go.Proofs.Ytgoldoaigijmoaa.hxm
set_option linter.unusedVariables false
set_option maxRecDepth 20000

theorem st_base {w W : World} {L : List Sl} (h : St w W L) : St W W L := ⟨Below.refl _ _, h.all⟩
theorem st_on {w W W' : World} {L L' : List Sl} (h : St w W L) (k : St W W' L') : St w W' L' := ⟨h.below.trans (k.below.mono h.below.size), k.all⟩
theorem equal_st {w W : World} {L : List Sl} {B1 B2 n1 n2 c1 c2 : Nat} {a1 a2 : Option Addr} {l1 l2 : List Int} (h : St w W L) (h1 : Nums .u8 W B1 a1 n1 c1 l1) (h2 : Nums .u8 W B2 a2 n2 c2 l2) (he : l1 = l2) :
    Calls Try.prog 14 #[.slice a1 n1 c1, .slice a2 n2 c2] W fun e W' => e = .returned (.bool true) ∧ St w W' L :=
  (equal_same W h1 h2 he).mono fun e W' ⟨he, m, hm⟩ => ⟨he, by subst hm; exact h.next (below_drewN (Below.refl _ _) m)⟩
theorem same_st {w W : World} {L : List Sl} {a a2 : Option Addr} {n c n2 c2 : Nat} {l : List Int} (h : St w W L) (hm : (a, n, c, l) ∈ L) (hm2 : (a2, n2, c2, l) ∈ L) (call : Int) (hs : Bool) (seq : Int) (ha : Bool) (ack : Int) :
    Calls Try.prog 30 #[.agg #[.int .u16 call, .bool hs, .int .u32 seq, .bool ha, .int .u32 ack, .slice a n c], .agg #[.int .u16 call, .bool hs, .int .u32 seq, .bool ha, .int .u32 ack, .slice a2 n2 c2]] W fun e W' => e = .returned (.bool true) ∧ St w W' L := by
  have b1 := (Below.refl W.heap.size W).alloc (Nat.le_refl _) (.cells #[.int .u16 call, .bool hs, .int .u32 seq, .bool ha, .int .u32 ack, .slice a n c] 45)
  have b2 := b1.alloc b1.size (.cells #[.int .u16 call, .bool hs, .int .u32 seq, .bool ha, .int .u32 ack, .slice a2 n2 c2] 45)
  have s2 := hid (h.next b2)
  have k1 := conv_nums ((h.next b2).get hm)
  have k2 := conv_nums ((h.next b2).get hm2)
  clear h hm hm2 b1 b2
  go_enter Try.func30, Try.ntmps30
  go_wp2
  go_ret
  exact ⟨rfl, s2.out⟩
theorem alive_st {w W : World} {L : List Sl} (h : St w W L) : Calls Try.prog 28 #[] W fun e W' => e = .returned (.bool true) ∧ St w W' L := by
  have s0 := hid h.nil
  have NL := hid (fun w1 : World => nums_lit (w := w1) (k := .u8) (e := 5) (cs := #[.int .u8 32, .int .u8 129, .int .u8 136, .int .u8 11, .int .u8 0, .int .u8 0, .int .u8 0, .int .u8 7, .int .u8 0, .int .u8 0, .int .u8 0, .int .u8 5]) (n := 12) [32, 129, 136, 11, 0, 0, 0, 7, 0, 0, 0, 5] rfl (by decide) rfl)
  clear h
  go_enter Try.func28, Try.ntmps28
  go_wp2_with (first | (go_at_call 24; ((with_reducible refine (build_any s0.out m0 (by decide) 7 (by decide) false 0 (by decide) true 5 (by decide)).mono ?_); rintro e w1 ⟨a1, n1, c1, rfl, s1⟩)) | (go_at_call 14; go_loud (with_reducible refine (equal_st (s1.tl.tl.next ((Below.refl _ _).alloc (Nat.le_refl _) _)) ((s1.get m0).below ((Below.refl _ _).alloc (Nat.le_refl _) _)) (NL.out _) (by decide)).mono ?_); rintro e w2 ⟨rfl, s2⟩))
  go_ret
  exact ⟨rfl, s2⟩
end Go.Proofs.Ytgoldoaigijmoaa.grc
