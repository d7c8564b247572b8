/- The program's Read of a prefix, whatever the text. -/
import Derived.Test.YtnfklhebcloolabDoorCiRd
namespace Go.Proofs.YtnfklhebcloolabDoor.cic
open Go.RowKit
open Go.Lib (decDigits)
open Go.Proofs.YtnfklhebcloolabDoor.kit Go.Proofs.YtnfklhebcloolabDoor.cim Go.Proofs.YtnfklhebcloolabDoor.adc Go.Proofs.YtnfklhebcloolabDoor.nmc Go.Proofs.YtnfklhebcloolabDoor.nmm Go.Proofs.YtnfklhebcloolabDoor.spc
set_option linter.unusedVariables false
set_option linter.unusedSimpArgs false
set_option maxRecDepth 20000
theorem mkK {s : ByteArray} (hs : s.size ≤ 1000) {m : Int} {w : World} (hm : w.cell? ⟨1, 0, none⟩ = some (.int .i64 m)) (hL : LaidF w) {x y : List UInt8} {f : Bool} (hc : Lib.cut s.data.toList [47] = (x, y, f)) (hx : x.length ≤ 1000) (hy : y.length ≤ 1000)
    {a n : Nat} {ea en : Int} (hA : (Adr (spU 46 x []) a ∧ ea = 0) ∨ ((¬ ∃ a, Adr (spU 46 x []) a) ∧ a = 0 ∧ ea = 11)) (hN : (IsNum y n ∧ en = 0) ∨ ((¬ ∃ n, IsNum y n) ∧ n = 0 ∧ en = 11)) : RdK s ⟨x.toArray⟩ ⟨y.toArray⟩ f a n ea en w := by
  refine ⟨fun W hb => ?_, fun W hb => ?_, fun W hb => ?_⟩
  · have := Tryd.strings_Cut s ⟨#[47]⟩ m W (by omega) (keep_cell hb hm)
    rw [show (⟨#[47]⟩ : ByteArray).data.toList = [47] from rfl, hc] at this
    exact this.mono fun e w' ⟨he, k, hk⟩ => ⟨he, by rw [hk]; exact below_drewN (Below.refl _ _) k⟩
  · have := read_any ⟨x.toArray⟩ hx m W (keep_cell hb hm) (hL.next hb) (fun p hp => by have := spU_le 46 x [] p hp; simp at this; omega)
    refine this.mono fun e w' hp => ?_
    rcases hA with ⟨h1, rfl⟩ | ⟨h1, rfl, rfl⟩
    · exact adr_yes hp h1
    · exact adr_not hp h1
  · have := read_num ⟨y.toArray⟩ hy W (hL.next hb)
    refine this.mono fun e w' hp => ?_
    rcases hN with ⟨h1, rfl⟩ | ⟨h1, rfl, rfl⟩
    · exact num_yes hp h1
    · exact num_not hp h1
theorem cread_any (s : ByteArray) (hs : s.size ≤ 1000) (m : Int) (w : World) (hm : w.cell? ⟨1, 0, none⟩ = some (.int .i64 m)) (hL : LaidF w) :
    Calls Tryd.prog 22 #[.string s] w (PfxPost s.data.toList (.int .i64 0) (.int .i64 11) w) := by
  have hl : s.data.toList.length ≤ 1000 := hs
  -- what the two pieces are
  obtain ⟨x, y, f, hc, hx, hy, hP, hF⟩ : ∃ x y f, Lib.cut s.data.toList [47] = (x, y, f) ∧ x.length ≤ 1000 ∧ y.length ≤ 1000 ∧ (∀ a n, Pfx s.data.toList a n → Adr (spU 46 x []) a ∧ IsNum y n ∧ rightB a (n : Nat) = true) ∧ (∀ a n, Adr (spU 46 x []) a → IsNum y n → rightB a (n : Nat) = true → Pfx s.data.toList a n) := by
    rcases cut_is 47 s.data.toList with ⟨h1, h2⟩ | ⟨x, y, h1, h2, h3⟩
    · refine ⟨_, _, _, h2, hl, by simp, fun a n hp => ?_, fun a n _ hn _ => absurd hn (num_nil n)⟩
      obtain ⟨x', y', _, e, _⟩ := hp
      exact absurd (by rw [e]; simp) h1
    · have hlen : s.data.toList.length = x.length + 1 + y.length := by rw [h2]; simp; omega
      refine ⟨x, y, true, h3, by omega, by omega, fun a n hp => ?_, fun a n k1 k2 k3 => ⟨x, y, h1, h2, k1, k2, k3⟩⟩
      obtain ⟨x', y', k1, k2, k3, k4, k5⟩ := hp
      obtain ⟨rfl, rfl⟩ := cut_same h1 k1 (h2.symm.trans k2)
      exact ⟨k3, k4, k5⟩
  by_cases hA : ∃ a, Adr (spU 46 x []) a
  · obtain ⟨a, ha⟩ := hA
    have hal := adr_lt ha
    by_cases hN : ∃ n, IsNum y n
    · obtain ⟨n, hn⟩ := hN
      have K := mkK hs hm hL hc hx hy (.inl ⟨ha, rfl⟩) (.inl ⟨hn, rfl⟩)
      cases hr : rightB a (n : Nat)
      · refine (cread_3 (by omega) hr K).mono fun e w' ⟨he, hb⟩ => ⟨hb, .inr ⟨?_, he⟩⟩
        rintro ⟨b, k, hp⟩
        obtain ⟨k1, k2, k3⟩ := hP b k hp
        rw [adr_same k1 ha, num_same k2 hn, hr] at k3
        cases k3
      · exact (cread_4 (by omega) hr K).mono fun e w' ⟨he, hb⟩ => ⟨hb, .inl ⟨a, n, hF a n ha hn hr, he⟩⟩
    · have K := mkK hs hm hL hc hx hy (.inl ⟨ha, rfl⟩) (.inr ⟨hN, rfl, rfl⟩)
      refine (cread_2 K).mono fun e w' ⟨he, hb⟩ => ⟨hb, .inr ⟨?_, he⟩⟩
      rintro ⟨b, k, hp⟩
      exact hN ⟨k, (hP b k hp).2.1⟩
  · obtain ⟨n, en, hn⟩ : ∃ (n : Nat) (en : Int), (IsNum y n ∧ en = 0) ∨ ((¬ ∃ n, IsNum y n) ∧ n = 0 ∧ en = 11) := by
      by_cases hN : ∃ n, IsNum y n
      · obtain ⟨n, hn⟩ := hN; exact ⟨n, 0, .inl ⟨hn, rfl⟩⟩
      · exact ⟨0, 11, .inr ⟨hN, rfl, rfl⟩⟩
    have K := mkK hs hm hL hc hx hy (.inr ⟨hA, rfl, rfl⟩) hn
    refine (cread_1 K).mono fun e w' ⟨he, hb⟩ => ⟨hb, .inr ⟨?_, he⟩⟩
    rintro ⟨b, k, hp⟩
    exact hA ⟨b, (hP b k hp).1⟩
end Go.Proofs.YtnfklhebcloolabDoor.cic
