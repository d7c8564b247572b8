/- The document's Cover. -/
import Derived.Test.YtnfklhebcloolabDoorCiCover
import Derived.Test.YtnfklhebcloolabDoorCi3
namespace Go.Proofs.YtnfklhebcloolabDoor.cic
open Go.RowKit
open Go.Proofs.YtnfklhebcloolabDoor.kit Go.Proofs.YtnfklhebcloolabDoor.cim
set_option linter.unusedVariables false
set_option linter.unusedSimpArgs false
set_option maxRecDepth 20000
theorem ok_div (p e q i : Nat) (hq : q = 2 ^ (32 - i)) : Ok p e (32 - i) ↔ (p % q = 0 ∧ p + q ≤ e) := by
  unfold Ok
  rw [← hq]
  exact ⟨fun ⟨h1, h2⟩ => ⟨Nat.mod_eq_zero_of_dvd h1, h2⟩, fun ⟨h1, h2⟩ => ⟨Nat.dvd_of_mod_eq_zero h1, h2⟩⟩
set_option maxHeartbeats 2000000 in
theorem rcover_any (a t : Nat) (ha : a < 4294967296) (ht : t < 4294967296) (w : World) : Calls Tryd.prog 19 #[.int .i64 (a : Nat), .int .i64 (t : Nat)] w (CovP w a (t + 1)) := by
  obtain ⟨i0, hi, hi0, hi1, hi2⟩ := info_parts Tryd.info_pf
  go_enter Tryd.func19, Tryd.ntmps19
  go_upto_region 2 with fail
  obtain ⟨e, he⟩ : ∃ e, e = t + 1 := ⟨_, rfl⟩
  have heb : e ≤ 4294967296 := by omega
  have HE := hid he
  go_loopw [0, 5] (fun av ov wr => ∃ (k p : Nat) (L : List (Nat × Nat)) (v : Value), a ≤ p ∧ p ≤ 4294967296 ∧ L.length ≤ 4294967296 ∧ av = .int .i64 (p : Nat) ∧ v = ov ∧ Hid (st a e k = (p, L)) ∧ Hid (OwnP wr w.heap.size v L) ∧ Hid (Below w.heap.size w wr)) (fun av _ _ => e - (intOf av).toNat)
  case atStart => exact ⟨0, a, [], _, Nat.le_refl _, by omega, by simp, rfl, rfl, hid rfl, hid (OwnP.nil _ _), hid (Below.refl _ _)⟩
  case round =>
    obtain ⟨k, p, L, v, h1, h2, h3, rfl, rfl, HS, HO, HB⟩ := hrel
    by_cases hlt : p ≤ t
    · have hpe : p < e := by omega
      clear he
      go_upto_region 4 with fail
      go_loopw [6] (fun bv wx => ∃ i : Nat, i ≤ 32 ∧ bv = .int .i64 (i : Nat) ∧ Hid (∀ g, 32 - i < g → g ≤ 32 → ¬ Ok p e g) ∧ wr = wx) (fun bv _ => 32 - (intOf bv).toNat)
      case atStart => exact ⟨0, by omega, rfl, hid (fun g h1 h2 => by omega), rfl⟩
      case round =>
        obtain ⟨i, hi32, rfl, HN, rfl⟩ := hrel
        have KM := hid (fun w => size_any i hi32 w)
        have hq0 := pow_pos i
        have hq1 := pow_le i
        have HOK := hid (ok_div p e (2 ^ (32 - i)) i rfl)
        have HQ1 := hid (show i = 32 → 2 ^ (32 - i) = 1 from fun h => by rw [h])
        obtain ⟨q, hq⟩ : ∃ q, q = 2 ^ (32 - i) := ⟨_, rfl⟩
        rw [← hq] at KM HOK HQ1 hq0 hq1
        have htm : (p : Int).tmod (q : Int) = ((p % q : Nat) : Int) := by rw [Int.tmod_eq_emod_of_nonneg (by omega)]; omega
        have hne : ¬ (q : Int) = 0 := by omega
        have HQ := hid hq
        clear hq
        by_cases hm : p % q = 0
        · rw [hm] at htm
          have HM := hid hm
          clear hm
          by_cases hgt : p + q ≤ e
          · have d0 : decide ((t : Int) < (p : Int) + (q : Int) - 1) = false := by simp; have := HE.out; omega
            have HF := hid (show pick p e = 32 - i from by
              refine (Best.eq ⟨by omega, HOK.out.2 ⟨HM.out, hgt⟩, HN.out⟩ (pick_best p e hpe)).symm)
            have HS2 := hid (show st a e (k + 1) = (p + q, L ++ [(p, i)]) from by
              have := st_on (a := a) (e := e) (k := k) (by rw [HS.out]; exact hpe)
              rw [this, HS.out]
              show (p + 2 ^ pick p e, L ++ [(p, 32 - pick p e)]) = _
              rw [HF.out, ← HQ.out, show 32 - (32 - i) = i by omega])
            have HLE := hid (show p + q ≤ e ∧ (L ++ [(p, i)]).length + a ≤ p + q from by
              have := st_le (show a ≤ e by omega) (k + 1)
              rw [HS2.out] at this
              exact this.2)
            have BX := hid (Box.made wr #[.int .u32 (p : Nat), .int .i64 (i : Nat)] 25)
            have HO2 := hid (HO.out.below ((Below.refl _ _).alloc (Nat.le_refl _) (.cells #[.int .u32 (p : Nat), .int .i64 (i : Nat)] 25)))
            have HB2 := hid (HB.out.alloc HB.out.size (.cells #[.int .u32 (p : Nat), .int .i64 (i : Nat)] 25))
            go_wp2_with (first | (go_at_call 27; ((with_reducible refine (KM.out wr).mono ?_); rintro y w3 ⟨rfl, rfl⟩)) | (at_builtin; go_loud (refine wpList_append_pf rfl (.tmp 26) (.tmp 31) 34 rfl w.heap.size i0 Tryd.underlying34 hi hi0 hi1 hi2 v L rfl HO2.out ⟨wr.heap.size, 0, none⟩ p i rfl (BX.out.at_ 0 _ rfl) (BX.out.at_ 1 _ rfl) h3 HB2.out.size ?_); go_loud (intro v3 w4 O3 G3); have O3 := hid O3; have B3 := hid (own_p_below HO2.out HB2.out G3 HB2.out.size); clear G3) | (go_at_call 27; ((with_reducible refine (KM.out w4).mono ?_); rintro y w5 ⟨rfl, rfl⟩)))
            have q1 := HLE.out
            constructor
            · exact ⟨k + 1, p + q, L ++ [(p, i)], v3, by omega, by omega, by omega, by go_num, rfl, HS2, O3, B3⟩
            · simp [intOf]; omega
          · have d0 : decide ((t : Int) < (p : Int) + (q : Int) - 1) = true := by simp; have := HE.out; omega
            have hi : i < 32 := by
              rcases Nat.lt_or_ge i 32 with h | h
              · exact h
              · have := HQ1.out (by omega); omega
            have HN2 := hid (show ∀ g, 32 - (i + 1) < g → g ≤ 32 → ¬ Ok p e g from fun g g1 g2 => by
              by_cases hg : g = 32 - i
              · rw [hg, HOK.out]; rintro ⟨_, h⟩; exact hgt h
              · exact HN.out g (by omega) g2)
            clear hgt
            go_wp2_with (go_at_call 27; ((with_reducible refine (KM.out _).mono ?_); rintro y w3 ⟨rfl, rfl⟩))
            go_roundw
            case rel => exact ⟨i + 1, by omega, by go_num, HN2, trivial⟩
            case measure => simp [intOf]; omega
        · have d0 : (((p % q : Nat) : Int) != 0) = true := by simp; omega
          obtain ⟨m, hmm⟩ : ∃ m, m = p % q := ⟨_, rfl⟩
          rw [← hmm] at htm d0
          have hi : i < 32 := by
            rcases Nat.lt_or_ge i 32 with h | h
            · exact h
            · have := HQ1.out (by omega); rw [this] at hm; omega
          have HN2 := hid (show ∀ g, 32 - (i + 1) < g → g ≤ 32 → ¬ Ok p e g from fun g g1 g2 => by
            by_cases hg : g = 32 - i
            · rw [hg, HOK.out]; rintro ⟨h, _⟩; exact hm h
            · exact HN.out g (by omega) g2)
          clear hm hmm
          go_wp2_with (go_at_call 27; ((with_reducible refine (KM.out _).mono ?_); rintro y w3 ⟨rfl, rfl⟩))
          go_roundw
          case rel => exact ⟨i + 1, by omega, by go_num, HN2, trivial⟩
          case measure => simp [intOf]; omega
    · obtain ⟨a3, c3, rfl⟩ := HO.out.slice
      clear he
      go_wp2_with fail
      go_ret
      exact ⟨_, L, rfl, HO.out, ⟨k, by rw [← HE.out, HS.out]; show e ≤ p; have := HE.out; omega, by rw [← HE.out, HS.out]⟩, HB.out⟩
end Go.Proofs.YtnfklhebcloolabDoor.cic
