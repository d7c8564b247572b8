/- The document's Read of a prefix, whatever the text. -/
import Derived.Test.YtnfklhebcloolabDoorCiRR
namespace Go.Proofs.YtnfklhebcloolabDoor.cic
open Go.RowKit
open Go.Lib (decDigits)
open Go.Proofs.YtnfklhebcloolabDoor.kit Go.Proofs.YtnfklhebcloolabDoor.cim Go.Proofs.YtnfklhebcloolabDoor.adc Go.Proofs.YtnfklhebcloolabDoor.nmc Go.Proofs.YtnfklhebcloolabDoor.nmm Go.Proofs.YtnfklhebcloolabDoor.spc
set_option linter.unusedVariables false
set_option linter.unusedSimpArgs false
set_option maxRecDepth 20000
theorem mkR {s : ByteArray} (hs : s.size ≤ 1000) {w : World} {x y : List UInt8} (hx : x.length ≤ 1000) (hy : y.length ≤ 1000) (hP : spU 47 s.data.toList [] = [x, y])
    {a n : Nat} {oa on : Bool} (hA : (Adr (spU 46 x []) a ∧ oa = true) ∨ ((¬ ∃ a, Adr (spU 46 x []) a) ∧ a = 0 ∧ oa = false)) (hN : (IsNum y n ∧ on = true) ∨ ((¬ ∃ n, IsNum y n) ∧ n = 0 ∧ on = false)) : RrK s [x, y] a n oa on w := by
  refine ⟨fun W hb => ?_, fun W => ?_, fun W => ?_⟩
  · have := rsplit_call 47 s (by omega) 47 rfl W
    rw [hP] at this
    exact this
  · refine (rread_any ⟨x.toArray⟩ hx W (fun p hp => by have := spU_le 46 x [] p hp; simp at this; omega)).mono fun e w' hp => ?_
    rcases hA with ⟨h1, rfl⟩ | ⟨h1, rfl, rfl⟩
    · exact adr_yes hp h1
    · exact adr_not hp h1
  · refine (ref_readnum ⟨y.toArray⟩ hy W).mono fun e w' hp => ?_
    rcases hN with ⟨h1, rfl⟩ | ⟨h1, rfl, rfl⟩
    · exact num_yes hp h1
    · exact num_not hp h1
theorem rcread_any (s : ByteArray) (hs : s.size ≤ 1000) (w : World) : Calls Tryd.prog 23 #[.string s] w (PfxPost s.data.toList (.bool true) (.bool false) w) := by
  have hl : s.data.toList.length ≤ 1000 := hs
  by_cases h2 : (spU 47 s.data.toList []).length = 2
  · obtain ⟨x, y, h1, he, hP⟩ : ∃ x y, 47 ∉ x ∧ s.data.toList = x ++ 47 :: y ∧ spU 47 s.data.toList [] = [x, y] := by
      rcases cut_is 47 s.data.toList with ⟨k1, _⟩ | ⟨x, y, k1, k2, _⟩
      · rw [spU_free 47 _ k1] at h2; simp at h2
      · refine ⟨x, y, k1, k2, ?_⟩
        rw [k2, spU_at 47 x y k1] at h2 ⊢
        rcases cut_is 47 y with ⟨j1, _⟩ | ⟨u, v, j1, j2, _⟩
        · rw [spU_free 47 y j1]; rfl
        · rw [j2, spU_at 47 u v j1] at h2
          have := spU_ne 47 v []
          cases hv : spU 47 v [] with
          | nil => exact absurd hv this
          | cons q r => rw [hv] at h2; simp at h2
    have hlen : s.data.toList.length = x.length + 1 + y.length := by rw [he]; simp; omega
    have hF : ∀ a n, Pfx s.data.toList a n → Adr (spU 46 x []) a ∧ IsNum y n ∧ rightB a (n : Nat) = true := by
      rintro a n ⟨x', y', k1, k2, k3, k4, k5⟩
      obtain ⟨rfl, rfl⟩ := cut_same h1 k1 (he.symm.trans k2)
      exact ⟨k3, k4, k5⟩
    by_cases hA : ∃ a, Adr (spU 46 x []) a
    · obtain ⟨a, ha⟩ := hA
      have hal := adr_lt ha
      by_cases hN : ∃ n, IsNum y n
      · obtain ⟨n, hn⟩ := hN
        have K := mkR (w := w) hs (by omega) (by omega) hP (.inl ⟨ha, rfl⟩) (.inl ⟨hn, rfl⟩)
        cases hr : rightB a (n : Nat)
        · refine (rcread_3 rfl (by omega) hr K).mono fun e w' ⟨he, hb⟩ => ⟨hb, .inr ⟨?_, he⟩⟩
          rintro ⟨b, k, hp⟩
          obtain ⟨k1, k2, k3⟩ := hF b k hp
          rw [adr_same k1 ha, num_same k2 hn, hr] at k3
          cases k3
        · exact (rcread_4 rfl (by omega) hr K).mono fun e w' ⟨he2, hb⟩ => ⟨hb, .inl ⟨a, n, ⟨x, y, h1, he, ha, hn, hr⟩, he2⟩⟩
      · have K := mkR (w := w) hs (by omega) (by omega) hP (.inl ⟨ha, rfl⟩) (.inr ⟨hN, rfl, rfl⟩)
        refine (rcread_2 rfl K).mono fun e w' ⟨he, hb⟩ => ⟨hb, .inr ⟨?_, he⟩⟩
        rintro ⟨b, k, hp⟩
        exact hN ⟨k, (hF b k hp).2.1⟩
    · obtain ⟨n, on, hn⟩ : ∃ (n : Nat) (on : Bool), (IsNum y n ∧ on = true) ∨ ((¬ ∃ n, IsNum y n) ∧ n = 0 ∧ on = false) := by
        by_cases hN : ∃ n, IsNum y n
        · obtain ⟨n, hn⟩ := hN; exact ⟨n, true, .inl ⟨hn, rfl⟩⟩
        · exact ⟨0, false, .inr ⟨hN, rfl, rfl⟩⟩
      have K := mkR (w := w) hs (by omega) (by omega) hP (.inr ⟨hA, rfl, rfl⟩) hn
      refine (rcread_1 rfl K).mono fun e w' ⟨he, hb⟩ => ⟨hb, .inr ⟨?_, he⟩⟩
      rintro ⟨b, k, hp⟩
      exact hA ⟨b, (hF b k hp).1⟩
  · have key : ∀ W, Below w.heap.size w W → Calls Tryd.prog 42 #[.string s, .int .u8 47] W fun e w' => ∃ a cap, e = .returned (.slice a (spU 47 s.data.toList []).length cap) ∧ Strs w' w'.heap.size a (spU 47 s.data.toList []).length cap (bas (spU 47 s.data.toList [])) ∧ Below W.heap.size W w' := fun W _ => rsplit_call 47 s (by omega) 47 rfl W
    refine (rcread_0' h2 key).mono fun e w' ⟨he, hb⟩ => ⟨hb, .inr ⟨?_, he⟩⟩
    rintro ⟨a, n, x, y, k1, k2, k3, k4, _⟩
    apply h2
    rw [k2, spU_at 47 x y k1, spU_free 47 y (num_free k4 47 (by decide))]
    rfl
/-! texts, and what is read of them -/
def pfT (a : Nat) (b : Int) : ByteArray := addrT a ++ ⟨#[47]⟩ ++ decS b.toNat
theorem addr_list (x : Nat) : (addrT x).data.toList = decDigits (by_ x 0) ++ 46 :: (decDigits (by_ x 1) ++ 46 :: (decDigits (by_ x 2) ++ 46 :: decDigits (by_ x 3))) := by
  unfold addrT parts
  simp only [List.map]
  rw [join4]
  unfold decS
  simp
theorem dec_free (n : Nat) (c : UInt8) (hc : c.toNat < 48) : c ∉ decDigits n := fun hm => by have := (dec_digit n c hm).1; omega
theorem by_sum (x : Nat) (hx : x ≤ 4294967295) : x = ((by_ x 0 * 256 + by_ x 1) * 256 + by_ x 2) * 256 + by_ x 3 := by unfold by_; omega
theorem adr_text (x : Nat) (hx : x ≤ 4294967295) : Adr (spU 46 (addrT x).data.toList []) x := by
  refine ⟨by_ x 0, by_ x 1, by_ x 2, by_ x 3, by have := by_lt x 0; omega, by have := by_lt x 1; omega, by have := by_lt x 2; omega, by have := by_lt x 3; omega, ?_, by_sum x hx⟩
  rw [addr_list, spU_at _ _ _ (dec_free _ _ (by decide)), spU_at _ _ _ (dec_free _ _ (by decide)), spU_at _ _ _ (dec_free _ _ (by decide)), spU_free _ _ (dec_free _ _ (by decide))]
  rfl
theorem pfx_text {a : Nat} {b : Nat} (ha : a ≤ 4294967295) (hb : b ≤ 32) (hr : rightB a (b : Nat) = true) : Pfx (pfT a (b : Nat)).data.toList a b := by
  refine ⟨(addrT a).data.toList, decDigits b, ?_, ?_, adr_text a ha, ⟨by omega, rfl⟩, hr⟩
  · rw [addr_list]
    simp only [List.mem_append, List.mem_cons, not_or]
    exact ⟨dec_free _ _ (by decide), by decide, dec_free _ _ (by decide), by decide, dec_free _ _ (by decide), by decide, dec_free _ _ (by decide)⟩
  · unfold pfT decS
    simp
end Go.Proofs.YtnfklhebcloolabDoor.cic
