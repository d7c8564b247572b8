/- The program's Cover. -/
import Derived.Test.YtnfklhebcloolabDoorCiRow
import Derived.Deep.DeepCutAuto
import Derived.LoopTactic
namespace Go.Proofs.YtnfklhebcloolabDoor.cic
open Go.RowKit
open Go.Proofs.YtnfklhebcloolabDoor.kit Go.Proofs.YtnfklhebcloolabDoor.cim
set_option linter.unusedVariables false
set_option linter.unusedSimpArgs false
set_option maxRecDepth 20000
theorem Tab.next {w w' : World} (h : Tab w) (hb : Below w.heap.size w w') : Tab w' := fun j hj => keep_cell hb (h j hj)
theorem min_if (c b f : Nat) (hb : 1 ≤ b) (h : (f = c ∧ f ≤ b - 1) ∨ (f = b - 1 ∧ f ≤ c)) : min (c : Int) ((b : Int) - 1) = (f : Int) := by omega
theorem wrap_pow (p f : Nat) (hp : p ≤ 4294967296) (hf : 2 ^ f ≤ 4294967296) : IntKind.u64.wrap ((p : Int) + IntKind.u64.wrap (2 ^ f)) = ((p + 2 ^ f : Nat) : Int) := by
  have e : (2 : Int) ^ f = ((2 ^ f : Nat) : Int) := by rw [Int.natCast_pow]; rfl
  rw [e]
  generalize 2 ^ f = q at *
  rw [IntKind.wrap_u64, IntKind.wrap_u64]
  omega
/-- what Cover hands back -/
def CovP (w : World) (a e : Nat) (x : Ending) (w' : World) : Prop := ∃ v L, x = .returned v ∧ OwnP w' w.heap.size v L ∧ CovIs a e L ∧ Below w.heap.size w w'
set_option maxHeartbeats 2000000 in
theorem cover_any (a t : Nat) (ha : a < 4294967296) (ht : t < 4294967296) (w : World) (T : Tab w) : Calls Tryd.prog 18 #[.int .u32 (a : Nat), .int .u32 (t : Nat)] w (CovP w a (t + 1)) := by
  have HT := hid T
  obtain ⟨i0, hi, hi0, hi1, hi2⟩ := info_parts Tryd.info_pf
  clear T
  go_enter Tryd.func18, Tryd.ntmps18
  go_upto_region 3 with fail
  obtain ⟨e, he⟩ : ∃ e, e = t + 1 := ⟨_, rfl⟩
  have he2 : (t : Int) + 1 = (e : Int) := by omega
  rw [he2]
  have heb : e ≤ 4294967296 := by omega
  have HE := hid he
  clear he he2 ht
  go_loopw [5, 6] (fun ov av wr => ∃ (k p : Nat) (L : List (Nat × Nat)) (v : Value), a ≤ p ∧ p ≤ 4294967296 ∧ L.length ≤ 4294967296 ∧ av = .int .u64 (p : Nat) ∧ v = ov ∧ Hid (st a e k = (p, L)) ∧ Hid (OwnP wr w.heap.size v L) ∧ Hid (Below w.heap.size w wr)) (fun _ av _ => e - (intOf av).toNat)
  case atStart => exact ⟨0, a, [], _, Nat.le_refl _, by omega, by simp, rfl, rfl, hid rfl, hid (OwnP.nil _ _), hid (Below.refl _ _)⟩
  case round =>
    obtain ⟨k, p, L, v, h1, h2, h3, rfl, rfl, HS, HO, HB⟩ := hrel
    by_cases hlt : p < e
    · obtain ⟨c, hc⟩ : ∃ c, c = Lib.ctz 64 (p + 4294967296) := ⟨_, rfl⟩
      obtain ⟨b, hb⟩ : ∃ b, b = Lib.bitLen (e - p) := ⟨_, rfl⟩
      obtain ⟨hc32, hb1, hb33, hf⟩ := prog_best p e c b hlt heb hc hb
      obtain ⟨f, hfp⟩ : ∃ f, f = pick p e := ⟨_, rfl⟩
      have hfor : (f = c ∧ f ≤ b - 1) ∨ (f = b - 1 ∧ f ≤ c) := by
        rcases Nat.le_total c (b - 1) with h | h
        · left; have := hf c (.inl ⟨rfl, h⟩); omega
        · right; have := hf (b - 1) (.inr ⟨rfl, h⟩); omega
      have HMI := hid (min_if c b f hb1 hfor)
      have hB := pick_best p e hlt
      rw [← hfp] at hB
      obtain ⟨hf32, ⟨_, hfe⟩, _⟩ := hB
      have hor : bits BinOp.or IntKind.u64 (p : Int) 4294967296 = ((p + 4294967296 : Nat) : Int) := by
        rw [← or_add p (by omega)]; exact u64_or_nat p 4294967296 (by omega) (by omega)
      obtain ⟨x, hx⟩ : ∃ x, x = p + 4294967296 := ⟨_, rfl⟩
      have KT := hid (tz_any x (by omega) (by omega) wr (HT.out.next HB.out))
      have KL := hid (show Calls Tryd.prog 33 #[.int .u64 ((e : Int) - (p : Int))] wr fun y w' => y = .returned (.int .i64 (b : Nat)) ∧ wr = w' by
        rw [show (e : Int) - (p : Int) = ((e - p : Nat) : Int) by omega, hb]
        exact len64_any (e - p) (by omega) (by omega) wr)
      rw [← hx] at hor hc
      rw [← hc] at KT
      have HX := hid hx
      have HF := hid hfp
      clear hc hb hf hfor hx hfp
      go_upto_region 5 with (first | (go_at_call 32; ((with_reducible refine KT.out.mono ?_); rintro y w3 ⟨rfl, rfl⟩)) | (go_at_call 33; ((with_reducible refine KL.out.mono ?_); rintro y w4 ⟨rfl, rfl⟩)))
      rw [HMI.out]
      clear KT KL HMI hor hc32 hb1 hb33
      obtain ⟨g, hg⟩ : ∃ g, g = 32 - f := ⟨_, rfl⟩
      have hg2 : (32 : Int) - (f : Int) = (g : Int) := by omega
      have HG := hid hg
      have BX := hid (Box.made wr #[.int .u32 (p : Nat), .int .i64 (g : Nat)] 25)
      have HO2 := hid (HO.out.below ((Below.refl _ _).alloc (Nat.le_refl _) (.cells #[.int .u32 (p : Nat), .int .i64 (g : Nat)] 25)))
      have HB2 := hid (HB.out.alloc HB.out.size (.cells #[.int .u32 (p : Nat), .int .i64 (g : Nat)] 25))
      have hpb : p < 4294967296 := by omega
      clear hg
      go_upto_region 6 with (at_builtin; go_loud (refine wpList_append_pf rfl (.tmp 26) (.tmp 32) 34 rfl w.heap.size i0 Tryd.underlying34 hi hi0 hi1 hi2 v L rfl HO2.out ⟨wr.heap.size, 0, none⟩ p g rfl (BX.out.at_ 0 _ rfl) (BX.out.at_ 1 _ rfl) h3 HB2.out.size ?_); go_loud (intro v3 w3 O3 G3); have O3 := hid O3; have B3 := hid (own_p_below HO2.out HB2.out G3 HB2.out.size); clear G3)
      have hq : 2 ^ f ≤ 4294967296 := Nat.pow_le_pow_right (n := 2) (by decide) (show f ≤ 32 by omega)
      have HW := hid (wrap_pow p f h2 hq)
      have HQ0 := hid (show 0 < 2 ^ f from Nat.pow_pos (by decide))
      have HS2 := hid (show st a e (k + 1) = (p + 2 ^ f, L ++ [(p, g)]) from by
        have := st_on (a := a) (e := e) (k := k) (by rw [HS.out]; exact hlt)
        rw [this, HS.out]
        show (p + 2 ^ pick p e, L ++ [(p, 32 - pick p e)]) = _
        rw [← HF.out, ← HG.out])
      have HLE := hid (show p + 2 ^ f ≤ e ∧ (L ++ [(p, g)]).length + a ≤ p + 2 ^ f from by
        have := st_le (show a ≤ e by omega) (k + 1)
        rw [HS2.out] at this
        exact this.2)
      clear HO2 HB2 BX hg2 hfe hq
      go_wp2_with fail
      rw [HW.out]
      have q1 := HLE.out
      have q2 := HQ0.out
      generalize 2 ^ f = q at *
      constructor
      · exact ⟨k + 1, p + q, L ++ [(p, g)], v3, by omega, by omega, by omega, rfl, rfl, HS2, O3, B3⟩
      · simp [intOf]; omega
    · obtain ⟨a3, c3, rfl⟩ := HO.out.slice
      go_wp2_with fail
      go_ret
      exact ⟨_, L, rfl, HO.out, ⟨k, by rw [← HE.out, HS.out]; show e ≤ p; omega, by rw [← HE.out, HS.out]⟩, HB.out⟩
end Go.Proofs.YtnfklhebcloolabDoor.cic
