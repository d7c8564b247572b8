/- ip4: are two datagrams the same? -/
import Derived.Test.YtidenjinagpphabIp4Q
import Derived.Test.YtidenjinagpphabStrNums
namespace Go.Proofs.Ytidenjinagpphab.ipc
open Go.RowKit
open Go.Proofs.Ytidenjinagpphab.kit Go.Proofs.Ytidenjinagpphab.bec Go.Proofs.Ytidenjinagpphab.ipm Go.Proofs.Ytidenjinagpphab.hxt Go.Proofs.Ytidenjinagpphab.hxm
set_option linter.unusedVariables false
set_option maxRecDepth 20000
set_option maxHeartbeats 2000000 in
theorem same_st {w W : World} {L : List Sl} {ao ad ao2 ad2 : Option Addr} {no co nd cd no2 co2 nd2 cd2 : Nat} {lo ld : List Int} (h : St w W L) (h1 : (ao, no, co, lo) ∈ L) (h2 : (ad, nd, cd, ld) ∈ L) (h3 : (ao2, no2, co2, lo) ∈ L) (h4 : (ad2, nd2, cd2, ld) ∈ L) (t ttl pr id fr src dst : Int) :
    Calls Try.prog 13 #[.agg #[.int .u8 t, .int .u8 ttl, .int .u8 pr, .int .u16 id, .int .u16 fr, .int .u32 src, .int .u32 dst, .slice ao no co, .slice ad nd cd], .agg #[.int .u8 t, .int .u8 ttl, .int .u8 pr, .int .u16 id, .int .u16 fr, .int .u32 src, .int .u32 dst, .slice ao2 no2 co2, .slice ad2 nd2 cd2]] W fun e W' => e = .returned (.bool true) ∧ St w W' L := by
  obtain ⟨W1, hW1⟩ : ∃ W1, W1 = W.alloc (.cells #[.int .u8 t, .int .u8 ttl, .int .u8 pr, .int .u16 id, .int .u16 fr, .int .u32 src, .int .u32 dst, .slice ao no co, .slice ad nd cd] 27) := ⟨_, rfl⟩
  have b1 : Below W.heap.size W W1 := by rw [hW1]; exact (Below.refl _ _).alloc (Nat.le_refl _) _
  have k1 : Box W1 W.heap.size [.int .u8 t, .int .u8 ttl, .int .u8 pr, .int .u16 id, .int .u16 fr, .int .u32 src, .int .u32 dst, .slice ao no co, .slice ad nd cd] := by rw [hW1]; exact Box.made _ _ _
  have z1 : W1.heap.size = W.heap.size + 1 := by rw [hW1]; simp
  obtain ⟨W2, hW2⟩ : ∃ W2, W2 = W1.alloc (.cells #[.int .u8 t, .int .u8 ttl, .int .u8 pr, .int .u16 id, .int .u16 fr, .int .u32 src, .int .u32 dst, .slice ao2 no2 co2, .slice ad2 nd2 cd2] 27) := ⟨_, rfl⟩
  have b2 : Below W1.heap.size W1 W2 := by rw [hW2]; exact (Below.refl _ _).alloc (Nat.le_refl _) _
  have k2 : Box W2 W1.heap.size [.int .u8 t, .int .u8 ttl, .int .u8 pr, .int .u16 id, .int .u16 fr, .int .u32 src, .int .u32 dst, .slice ao2 no2 co2, .slice ad2 nd2 cd2] := by rw [hW2]; exact Box.made _ _ _
  rw [z1] at k2
  have k1 := k1.next b2
  have x0 := k1.at_ 0 _ rfl
  have x1 := k1.at_ 1 _ rfl
  have x2 := k1.at_ 2 _ rfl
  have x3 := k1.at_ 3 _ rfl
  have x4 := k1.at_ 4 _ rfl
  have x5 := k1.at_ 5 _ rfl
  have x6 := k1.at_ 6 _ rfl
  have x7 := k1.at_ 7 _ rfl
  have x8 := k1.at_ 8 _ rfl
  have y0 := k2.at_ 0 _ rfl
  have y1 := k2.at_ 1 _ rfl
  have y2 := k2.at_ 2 _ rfl
  have y3 := k2.at_ 3 _ rfl
  have y4 := k2.at_ 4 _ rfl
  have y5 := k2.at_ 5 _ rfl
  have y6 := k2.at_ 6 _ rfl
  have y7 := k2.at_ 7 _ rfl
  have y8 := k2.at_ 8 _ rfl
  have s2 := (h.next b1).next b2
  have S2 := hid s2
  have q1 := conv_nums (s2.get h1)
  have q2 := conv_nums (s2.get h2)
  have q3 := conv_nums (s2.get h3)
  have q4 := conv_nums (s2.get h4)
  have HW1 := hid hW1
  have HW2 := hid hW2
  have Z1 := hid z1
  clear h h1 h2 h3 h4 b1 b2 k1 k2 s2 hW1 hW2 z1
  go_enter Try.func13, Try.ntmps13
  go_upto_region 1 with fail
  rw [← HW1.out, ← HW2.out]
  go_wp2_with fail
  go_ret
  exact ⟨rfl, S2.out⟩
/-- what a parser hands back, written out -/
theorem ipost_open {t ttl pr id fr src dst : Int} {lo ld : List Int} {E : Int} {w W' : World} {L : List Sl} {e : Ending} (h : IPost (⟨t, ttl, pr, id, fr, src, dst, lo, ld⟩, E) w L e W') :
    ∃ ao no co ad nd cd, e = .returned (.tuple #[.agg #[.int .u8 t, .int .u8 ttl, .int .u8 pr, .int .u16 id, .int .u16 fr, .int .u32 src, .int .u32 dst, .slice ao no co, .slice ad nd cd], .int .i64 E]) ∧ St w W' ((ao, no, co, lo) :: (ad, nd, cd, ld) :: L) := h
end Go.Proofs.Ytidenjinagpphab.ipc
