/- The Text of a prefix, the program's and the document's. -/
import Derived.Test.YtnfklhebcloolabDoorCiRR2
namespace Go.Proofs.YtnfklhebcloolabDoor.cic
open Go.RowKit
open Go.Lib (decDigits)
open Go.Proofs.YtnfklhebcloolabDoor.kit Go.Proofs.YtnfklhebcloolabDoor.cim Go.Proofs.YtnfklhebcloolabDoor.adc Go.Proofs.YtnfklhebcloolabDoor.nmc Go.Proofs.YtnfklhebcloolabDoor.nmm Go.Proofs.YtnfklhebcloolabDoor.spc
set_option linter.unusedVariables false
set_option linter.unusedSimpArgs false
set_option maxRecDepth 20000
theorem addr_size (x : Nat) : (addrT x).size ≤ 140737488355328 := by
  have := join_len x
  have e : (addrT x).data.toList = Lib.join ((parts x).map (·.data.toList)) [46] := by unfold addrT; simp
  have h : (addrT x).size = (addrT x).data.toList.length := rfl
  rw [h, e]; exact this
theorem ctext_any (a : Nat) (b : Int) (ha : a ≤ 4294967295) (hb0 : -9223372036854775808 ≤ b) (hb1 : b ≤ 9223372036854775807) (w : World) (hL : LaidF w) :
    Calls Tryd.prog 24 #[pf a b] w fun e w' => e = .returned (.string (pfT a b)) ∧ Below w.heap.size w w' := by
  obtain ⟨W, hW, k0, k1, bW⟩ := boxed w a b
  have K0 := After.cell k0
  have K1 := After.cell k1
  have KA := hid (fun (M : After W) => after_call (text_any a ha M.w ((hL.next bW).next M.h).tab))
  have KN := hid (fun (M : After W) => after_call (num_any b hb0 hb1 M.w ((hL.next bW).next M.h)))
  have s0 := addr_size a
  have s1 := decS_size b.toNat (by omega)
  unfold pf pfT
  generalize addrT a = d0 at *
  generalize decS b.toNat = d1 at *
  clear hb0 hb1 ha hL
  go_enter Tryd.func24, Tryd.ntmps24
  go_upto_region 1 with fail
  rw [← hW]
  refine wp_region_after W (by kernel_rfl) (by kernel_rfl) ((Below.refl _ _).drew) ?_
  repeat (go_big_quiet_step (first | with_reducible exact KA.out _ | with_reducible exact KN.out _))
  refine wpQuiet_nil ?_
  rintro _ ⟨⟨w3, b3⟩, rfl⟩
  go_wp2
  go_ret
  exact ⟨rfl, bW.trans (b3.mono bW.size)⟩
theorem rnum_any (b : Int) (hb1 : b ≤ 9223372036854775807) (w : World) : Calls Tryd.prog 48 #[.int .i64 b] w fun e w' => e = .returned (.string (decS b.toNat)) ∧ Below w.heap.size w w' := by
  by_cases h : b < 0
  · have := ref_num_neg b h w
    rw [show (0 : Nat) = b.toNat by omega] at this
    exact this
  · have := ref_num b.toNat w (by omega)
    rw [show ((b.toNat : Nat) : Int) = b by omega] at this
    exact this
theorem rctext_any (a : Nat) (b : Int) (ha : a ≤ 4294967295) (hb1 : b ≤ 9223372036854775807) (w : World) :
    Calls Tryd.prog 25 #[pf a b] w fun e w' => e = .returned (.string (pfT a b)) ∧ Below w.heap.size w w' := by
  obtain ⟨W, hW, k0, k1, bW⟩ := boxed w a b
  have K0 := After.cell k0
  have K1 := After.cell k1
  have KA := hid (fun (M : After W) => after_call (rtext_any a ha M.w))
  have KN := hid (fun (M : After W) => after_call (rnum_any b hb1 M.w))
  have s0 := addr_size a
  have s1 := decS_size b.toNat (by omega)
  unfold pf pfT
  generalize addrT a = d0 at *
  generalize decS b.toNat = d1 at *
  clear hb1 ha
  go_enter Tryd.func25, Tryd.ntmps25
  go_upto_region 1 with fail
  rw [← hW]
  refine wp_region_after W (by kernel_rfl) (by kernel_rfl) ((Below.refl _ _).drew) ?_
  repeat (go_big_quiet_step (first | with_reducible exact KA.out _ | with_reducible exact KN.out _))
  refine wpQuiet_nil ?_
  rintro _ ⟨⟨w3, b3⟩, rfl⟩
  go_wp2
  go_ret
  exact ⟨rfl, bW.trans (b3.mono bW.size)⟩
end Go.Proofs.YtnfklhebcloolabDoor.cic
