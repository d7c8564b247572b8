/- The document's Text of an address; what is read of it. -/
import Derived.Test.YtjcmceomhocmpaaDoorAdRR
import Derived.Test.YtjcmceomhocmpaaDoorQuietC
namespace Go.Proofs.YtjcmceomhocmpaaDoor.adc
open Go.RowKit
open Go.Lib (decDigits)
open Go.Proofs.YtjcmceomhocmpaaDoor.kit Go.Proofs.YtjcmceomhocmpaaDoor.bec Go.Proofs.YtjcmceomhocmpaaDoor.nmc Go.Proofs.YtjcmceomhocmpaaDoor.nmm Go.Proofs.YtjcmceomhocmpaaDoor.hxt Go.Proofs.YtjcmceomhocmpaaDoor.hxm Go.Proofs.YtjcmceomhocmpaaDoor.spc Go.Proofs.YtjcmceomhocmpaaDoor.spm
set_option linter.unusedVariables false
set_option linter.unusedSimpArgs false
set_option maxRecDepth 20000
theorem cat_list (a b : ByteArray) : (a ++ b).data.toList = a.data.toList ++ b.data.toList := by simp
theorem cat4 (x : Nat) : decS (by_ x 0) ++ ⟨#[46]⟩ ++ decS (by_ x 1) ++ ⟨#[46]⟩ ++ decS (by_ x 2) ++ ⟨#[46]⟩ ++ decS (by_ x 3) = addrT x := by
  apply ByteArray.ext
  apply Array.toList_inj.1
  unfold addrT parts
  simp only [List.map]
  rw [join4]
  simp only [cat_list, List.append_assoc]
theorem dec_size (b : Nat) (h : b ≤ 255) : (decS b).size ≤ 3 := by
  have := dig_len b (by omega)
  exact this
set_option maxHeartbeats 2000000 in
theorem rtext_any (x : Nat) (hx : x ≤ 4294967295) (w : World) : Calls Tryd.prog 11 #[.int .u32 (x : Nat)] w fun e w' => e = .returned (.string (addrT x)) ∧ Below w.heap.size w w' := by
  have HB := hid (ref_bytes x hx w)
  have H4 := hid (cat4 x)
  have q0 : by_ x 0 ≤ 255 := by have := by_lt x 0; omega
  have q1 : by_ x 1 ≤ 255 := by have := by_lt x 1; omega
  have q2 : by_ x 2 ≤ 255 := by have := by_lt x 2; omega
  have q3 : by_ x 3 ≤ 255 := by have := by_lt x 3; omega
  rw [← H4.out]
  unfold arr4 at HB
  generalize by_ x 0 = b0 at *
  generalize by_ x 1 = b1 at *
  generalize by_ x 2 = b2 at *
  generalize by_ x 3 = b3 at *
  clear H4 hx
  have KN := hid (fun (b : Nat) (hb : b ≤ 255) (w : World) => ref_num b w (by omega))
  have s0 := dec_size b0 q0
  have s1 := dec_size b1 q1
  have s2 := dec_size b2 q2
  have s3 := dec_size b3 q3
  have KN0 := hid (KN.out b0 q0)
  have KN1 := hid (KN.out b1 q1)
  have KN2 := hid (KN.out b2 q2)
  have KN3 := hid (KN.out b3 q3)
  generalize decS b0 = d0 at *
  generalize decS b1 = d1 at *
  generalize decS b2 = d2 at *
  generalize decS b3 = d3 at *
  clear KN
  go_enter Tryd.func11, Tryd.ntmps11
  go_upto_region 2 with (go_at_call 9; ((with_reducible refine HB.out.mono ?_); rintro e w1 ⟨rfl, bb⟩; have B1 := hid bb; clear bb))
  have X := Box.made w1 #[.int .u8 (b0 : Nat), .int .u8 (b1 : Nat), .int .u8 (b2 : Nat), .int .u8 (b3 : Nat)] 30
  have B2 := hid (B1.out.alloc B1.out.size (.cells #[.int .u8 (b0 : Nat), .int .u8 (b1 : Nat), .int .u8 (b2 : Nat), .int .u8 (b3 : Nat)] 30))
  generalize w1.alloc (.cells #[.int .u8 (b0 : Nat), .int .u8 (b1 : Nat), .int .u8 (b2 : Nat), .int .u8 (b3 : Nat)] 30) = W at *
  have k0 := After.cell (X.at_ 0 _ rfl)
  have k1 := After.cell (X.at_ 1 _ rfl)
  have k2 := After.cell (X.at_ 2 _ rfl)
  have k3 := After.cell (X.at_ 3 _ rfl)
  clear HB X
  refine wp_region_after W (by kernel_rfl) (by kernel_rfl) ((Below.refl _ _).drew) ?_
  repeat (go_big_quiet_step (first | with_reducible exact after_call (KN0.out _) | with_reducible exact after_call (KN1.out _) | with_reducible exact after_call (KN2.out _) | with_reducible exact after_call (KN3.out _)))
  refine wpQuiet_nil ?_
  rintro _ ⟨⟨w3, b3⟩, rfl⟩
  go_wp2
  go_ret
  exact ⟨rfl, B2.out.trans (b3.mono B2.out.size)⟩
end Go.Proofs.YtjcmceomhocmpaaDoor.adc
