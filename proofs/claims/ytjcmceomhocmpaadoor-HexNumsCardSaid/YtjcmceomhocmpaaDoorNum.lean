/- The contract of hex.ReadNum. -/
import Derived.Test.YtjcmceomhocmpaaDoorNumW
namespace Go.Proofs.YtjcmceomhocmpaaDoor.nmc
open Go.RowKit
open Go.Proofs.YtjcmceomhocmpaaDoor.kit Go.Proofs.YtjcmceomhocmpaaDoor.hxm Go.Proofs.YtjcmceomhocmpaaDoor.hxt Go.Proofs.YtjcmceomhocmpaaDoor.nmm
open Go.Lib (decDigits)
set_option linter.unusedVariables false
set_option linter.unusedSimpArgs false

/-- what the listed variables hold -/
structure LaidF (w : World) : Prop where
  tab : Lib.TabIs Tryd.prog w "internal/strconv.uint64pow10" .u64 Lib.pow10Tab
  syn : ∃ tp p, w.var? Tryd.prog "strconv.ErrSyntax" = some #[.iface tp p]
  rng : ∃ tp p, w.var? Tryd.prog "strconv.ErrRange" = some #[.iface tp p]
theorem LaidF.next {w w' : World} (h : LaidF w) (hb : Below w.heap.size w w') : LaidF w' :=
  ⟨var_below h.tab hb, by obtain ⟨tp, p, h1⟩ := h.syn; exact ⟨tp, p, var_below h1 hb⟩, by obtain ⟨tp, p, h1⟩ := h.rng; exact ⟨tp, p, var_below h1 hb⟩⟩
theorem num_any (n : Int) (h0 : -9223372036854775808 ≤ n) (h1 : n ≤ 9223372036854775807) (w : World) (hL : LaidF w) :
    Calls Tryd.prog 15 #[.int .i64 n] w fun e w' => e = .returned (.string (decS n.toNat)) ∧ Below w.heap.size w w' := num_tab n h0 h1 w hL.tab
set_option maxRecDepth 100000 in
theorem read_num (s : ByteArray) (hs : s.size ≤ 1000) (w : World) (hL : LaidF w) :
    Calls Tryd.prog 13 #[.string s] w (NumPost s.data.toList (.int .i64 0) (.int .i64 11) w) := by
  by_cases hok : ∃ v, Lib.atoiAll s.data.toList = .ok v
  · obtain ⟨v, hA⟩ := hok
    have key : Calls Tryd.prog 23 #[.string s] w fun e w' => e = .returned (.tuple #[.int .i64 v, .nilIface]) ∧ Below w.heap.size w w' :=
      (Tryd.strconv_Atoi_ok s (by omega) v hA w).mono fun e w' ⟨he, hw⟩ => ⟨he, by
        rcases hw with rfl | ⟨t, rfl⟩
        · exact Below.refl _ _
        · exact Go.Joins.below_bytesWorld _ _ _ _ (Nat.le_refl _)⟩
    have hvb := atoi_bd hA
    have huniq : ∀ n, IsNum s.data.toList n → v = (n : Int) := fun n ⟨h1, h2⟩ => by
      have := atoi_dec n (by omega)
      rw [← h2, hA] at this
      injection this
    have HK := hid key
    have HU := hid huniq
    clear key huniq
    by_cases hbig : 1099511627776 < v
    · have HNo : Hid (¬ ∃ n, IsNum s.data.toList n) := by
        rintro ⟨n, hn⟩; have := HU.out n hn; have := hn.1; omega
      clear hA hvb
      go_enter Tryd.func13, Tryd.ntmps13
      go_wp2_with (go_at_call 23; refine HK.out.mono ?_; rintro e wa ⟨rfl, hb⟩)
      go_ret2
      exact ⟨hb, .inr ⟨HNo.out, rfl⟩⟩
    · obtain ⟨hv0, hv1⟩ := hvb
      have HL := hid hL
      by_cases hE : decS v.toNat = s
      · have hv : 0 ≤ v := by
          rcases Int.lt_or_le v 0 with h | h
          · exfalso
            rw [show v.toNat = 0 by omega] at hE
            have := decS_eq.1 hE
            rw [this, atoi_dec 0 (by omega)] at hA
            injection hA with hA
            omega
          · exact h
        have hT := str_eq_true hE
        have HN : Hid (IsNum s.data.toList v.toNat) := ⟨by omega, decS_eq.1 hE⟩
        have hve : Hid (v = ((v.toNat : Nat) : Int)) := by show _ = _; omega
        clear hA hE hL
        go_enter Tryd.func13, Tryd.ntmps13
        go_wp2_with (first | (go_at_call 23; refine HK.out.mono ?_; rintro e wa ⟨rfl, hb⟩) | (go_at_call 15; refine (num_any v hv0 hv1 _ (HL.out.next hb)).mono ?_; rintro e wb ⟨rfl, hb2⟩))
        go_ret2
        exact ⟨keep_below hb2 hb, .inl ⟨v.toNat, HN.out, by rw [← hve.out]; rfl⟩⟩
      · have hT := str_eq_false hE
        have HNo : Hid (¬ ∃ n, IsNum s.data.toList n) := by
          rintro ⟨n, hn⟩
          have h1 := HU.out n hn
          apply hE
          rw [decS_eq, show v.toNat = n by omega]
          exact hn.2
        clear hA hE hL
        go_enter Tryd.func13, Tryd.ntmps13
        go_wp2_with (first | (go_at_call 23; refine HK.out.mono ?_; rintro e wa ⟨rfl, hb⟩) | (go_at_call 15; refine (num_any v hv0 hv1 _ (HL.out.next hb)).mono ?_; rintro e wb ⟨rfl, hb2⟩))
        go_ret2
        exact ⟨keep_below hb2 hb, .inr ⟨HNo.out, rfl⟩⟩
  · by_cases hA : Lib.atoiAll s.data.toList = .range
    · have HNo : Hid (¬ ∃ n, IsNum s.data.toList n) := by
        rintro ⟨n, hn⟩
        have := atoi_dec n (by have := hn.1; omega)
        rw [← hn.2, hA] at this; cases this
      obtain ⟨tp, p, hv⟩ := hL.rng
      have HK := hid (Tryd.strconv_Atoi_range_var s (by omega) hA tp p w hv)
      clear hA hL hv hok
      go_enter Tryd.func13, Tryd.ntmps13
      go_wp2_with (go_at_call 23; refine HK.out.mono ?_; rintro e wa ⟨N, rfl, _, _, hb⟩)
      go_ret2
      exact ⟨hb, .inr ⟨HNo.out, rfl⟩⟩
    · have HNo : Hid (¬ ∃ n, IsNum s.data.toList n) := by
        rintro ⟨n, hn⟩
        have := atoi_dec n (by have := hn.1; omega)
        rw [← hn.2] at this; exact hok ⟨_, this⟩
      obtain ⟨tp, p, hv⟩ := hL.syn
      have HK := hid (Tryd.strconv_Atoi_neither_var s (by omega) (fun v h => hok ⟨v, h⟩) hA tp p w hv)
      clear hA hL hv hok
      go_enter Tryd.func13, Tryd.ntmps13
      go_wp2_with (go_at_call 23; refine HK.out.mono ?_; rintro e wa ⟨N, rfl, _, _, hb⟩)
      go_ret2
      exact ⟨hb, .inr ⟨HNo.out, rfl⟩⟩
end Go.Proofs.YtjcmceomhocmpaaDoor.nmc
