/- The contract of the document's own reading of figures. -/
import Derived.Test.YtmoolhneofbfdaaHex
namespace Go.Proofs.Ytmoolhneofbfdaa.hxc
open Go.RowKit
open Go.Proofs.Ytmoolhneofbfdaa.kit Go.Proofs.Ytmoolhneofbfdaa.hxm
set_option linter.unusedVariables false

theorem keep_alloc {w W : World} {o : Obj} (h : Below w.heap.size w W) : Below w.heap.size w (W.alloc o) := h.alloc h.size _
/-- one byte in a slice of its own -/
theorem ref_text1 (x : Int) (hx : 0 ≤ x ∧ x ≤ 255) (b : Nat) (w : World) (h : w.cell? ⟨b, 0, none⟩ = some (.int .u8 x)) :
    Calls Try.prog 11 #[.slice (some ⟨b, 0, none⟩) 1 1] w fun e w' => e = .returned (.string (strOfNums (textI [x]))) ∧ Below w.heap.size w w' := by
  have hb := World.block_lt_of_cell? _ _ h
  refine ref_text (B := w.heap.size) w ⟨rfl, by omega, by decide, fun h => by (cases h), fun _ => ⟨b, 0, rfl, hb, hb, fun j hj => ?_⟩⟩ (fun y hy => ?_) (by omega) (Nat.le_refl _)
  · obtain rfl : j = 0 := by omega
    exact h
  · simp only [List.mem_cons, List.not_mem_nil, or_false] at hy
    subst hy; exact hx
set_option maxRecDepth 100000 in
set_option maxHeartbeats 2000000 in
theorem ref_read (s : ByteArray) (hs : s.size ≤ 1000) (w : World) :
    Calls Try.prog 13 #[.string s] w (ReadPost (nums s) (.bool true) (.bool false) w) := by
  obtain ⟨i0, hi, hi0, hi1, hi2⟩ := info_parts Try.info_u8
  have HLn := hid (nums_len s)
  go_enter Try.func13, Try.ntmps13
  go_wp2_with fail
  go_loopw [4, 5, 6, 7] (fun ov iv _ _ wr => ∃ j t : Nat, t = 2 * j ∧ t ≤ s.size + 1 ∧ iv = .int .i64 t ∧ wr.ownsRow w.heap.size 5 1 ov j ((vals (nums s) j).map (Value.int .u8)) ∧ (∀ k, k < j → okP (nums s) k) ∧ (t ≤ s.size) ∧ Below w.heap.size w wr) (fun _ iv _ _ _ => s.size - (intOf iv).toNat)
  case atStart => exact ⟨0, 0, rfl, Nat.zero_le _, rfl, World.ownsRow_nil _ _ _ _, fun k hk => by omega, Nat.zero_le _, Below.refl _ _⟩
  case round =>
    obtain ⟨j, t, ht, hj, rfl, hown, hok, htl, hb⟩ := hrel
    have HOK := hid hok
    have HT := hid ht
    clear hok ht
    by_cases hlt : t < s.size
    · have hmm : (t : Int) < s.size := by omega
      by_cases hp : t + 2 ≤ s.size
      · have hmm2 : (t : Int) + 2 ≤ s.size := by omega
        have HPair := hid (pair_eq s t hp)
        obtain ⟨u1, hu1⟩ : ∃ u1, u1 = unfig ((nums s).getD t 0) := ⟨_, rfl⟩
        obtain ⟨u2, hu2⟩ : ∃ u2, u2 = unfig ((nums s).getD (t + 1) 0) := ⟨_, rfl⟩
        have hb1 : -1 ≤ u1 ∧ u1 < 16 := by rw [hu1]; exact unfig_bd _
        have hb2 : -1 ≤ u2 ∧ u2 < 16 := by rw [hu2]; exact unfig_bd _
        rw [← hu1, ← hu2] at HPair
        have HU1 := hid hu1
        have HU2 := hid hu2
        have hjb : j ≤ 1000 := by have := HT.out; omega
        clear hu1 hu2
        by_cases hk : 0 ≤ u1 ∧ 0 ≤ u2
        · obtain ⟨V, hV⟩ : ∃ V : Nat, (V : Int) = 16 * u1 + u2 := ⟨(16 * u1 + u2).toNat, by omega⟩
          have hV1 : V < 256 := by omega
          have HV : Hid (valP (nums s) j = V) := by unfold valP; rw [← HT.out, ← HU1.out, ← HU2.out, hV]; exact rfl
          have HK := hid hk
          have HV2 := hid hV
          clear hk hV
          go_wp2_with fail
          go_loopw [4, 6, 7] (fun ov fv cv wq => ∃ c : Nat, c ≤ 256 ∧ cv = .int .i64 c ∧ Below w.heap.size w wq ∧ ((c ≤ V ∧ fv = .bool false ∧ wq.ownsRow w.heap.size 5 1 ov j ((vals (nums s) j).map (Value.int .u8))) ∨ (V < c ∧ fv = .bool true ∧ wq.ownsRow w.heap.size 5 1 ov (j + 1) ((vals (nums s) (j + 1)).map (Value.int .u8))))) (fun _ _ cv _ => 256 - (intOf cv).toNat)
          case atStart => exact ⟨0, by omega, rfl, hb, .inl ⟨by omega, rfl, hown⟩⟩
          case round =>
            clear hown hb
            obtain ⟨wo, rfl⟩ : ∃ wo : World, wo = wr := ⟨_, rfl⟩
            obtain ⟨c, hc, rfl, hb, hcase⟩ := hrel
            by_cases hcl : c < 256
            · rcases hcase with ⟨hcV, rfl, hown⟩ | ⟨hcV, rfl, hown⟩
              · have hsz := hb.size
                have HOwn := hid hown
                have HB := hid hb
                clear hown hb
                go_wp2_with fail
                have hwc : IntKind.u8.wrap (c : Int) = c := by rw [IntKind.wrap_u8]; omega
                have hwt : IntKind.i64.wrap ((t : Int) + 2) = (t : Int) + 2 := IntWalk.i64_in _ (by omega)
                have hs0 : (0 : Int) ≤ t := by omega
                have hs1 : (t : Int) ≤ t + 2 := by omega
                have hs3 : ((t : Int) + 2).toNat = t + 2 := by omega
                have hs4 : (0 : Int) ≤ (c : Int) := by omega
                have hs5 : (c : Int) ≤ 255 := by omega
                go_region_held3 (fun w' => Below wo.heap.size wo w') (first | exact (Below.refl _ _).drew | exact keep_below (by assumption) (by assumption) | exact keep_alloc (by assumption) | go_keep) ((go_at_call 11; ((with_reducible refine (ref_text1 _ ⟨by assumption, by assumption⟩ _ _ (by simp [go_sem])).mono ?_); rintro e w1 ⟨rfl, hg⟩)))
                have HB1 := hid (show Below wo.heap.size wo w1 by assumption)
                clear hwc hwt hs0 hs1 hs3 hs4 hs5
                by_cases hcv : c = V
                · have hE := str_eq_true ((HPair.out c (by omega) (by omega)).2 ⟨HK.out.1, HK.out.2, by rw [hcv]; exact HV2.out⟩)
                  have HCV := hid hcv
                  rw [hE]
                  clear hE hcv
                  have hb4 := HB.out.trans (HB1.out.mono hsz)
                  have hO2 := HOwn.out.kept (gb_of_below HB1.out none) (Classical.em _)
                  go_wp2_with (at_builtin; go_loud (refine wpList_append_nums rfl (.tmp 39) _ 22 rfl w.heap.size 5 i0 (.int .u8 0) 1 Try.underlying22 hi hi0 hi1 hi2 rfl _ j _ rfl (hO2.alloc _) _ 1 1 _ _ rfl nums_one (by unfold maxLen; omega) (by omega) (by have := hb4.size; simp; omega) ?_); go_loud (intro v1 w3 g1 g2))
                  have hb5 := own_below (hO2.alloc _) (hb4.alloc hb4.size _) g2 (by have := hb4.size; simp; omega)
                  have G1 := hid g1
                  clear g1 g2 hO2
                  go_roundw
                  case rel => exact ⟨c + 1, by omega, by go_num, hb5, .inr ⟨by have := HCV.out; omega, rfl, by have := G1.out; rw [vals_succ, HV.out, ← HCV.out]; exact this⟩⟩
                  case measure => simp [intOf]; omega
                · have hE := str_eq_false (fun h => hcv (by have := ((HPair.out c (by omega) (by omega)).1 h).2.2; have := HV2.out; omega))
                  rw [hE]
                  clear hE
                  have hb4 := HB.out.trans (HB1.out.mono hsz)
                  have hO2 := HOwn.out.kept (gb_of_below HB1.out none) (Classical.em _)
                  go_wp2_with fail
                  go_roundw
                  case rel => exact ⟨c + 1, by omega, by go_num, hb4, .inl ⟨by omega, rfl, hO2⟩⟩
                  case measure => simp [intOf]; omega
              · have HOwn := hid hown
                clear hown
                go_wp2_with fail
                go_quiet (fail)
                go_wp2_with fail
                go_roundw
                case rel => exact ⟨c + 1, by omega, by go_num, below_drewN hb nq, .inr ⟨by omega, rfl, HOwn.out.kept (gb_of_below (below_drewN (Below.refl _ _) nq) none) (Classical.em _)⟩⟩
                case measure => simp [intOf]; omega
            · rcases hcase with ⟨hcV, rfl, hown⟩ | ⟨hcV, rfl, hown⟩
              · exfalso; omega
              · have HOwn := hid hown
                have hcl2 : ¬ (c : Int) < 256 := by omega
                clear hown
                go_wp2_with fail
                go_roundw
                case rel =>
                  refine ⟨j + 1, t + 2, by have := HT.out; omega, by omega, by go_num, HOwn.out, fun k hk => ?_, by omega, hb⟩
                  by_cases e : k = j
                  · subst e; unfold okP; rw [← HT.out, ← HU1.out, ← HU2.out]; exact HK.out
                  · exact HOK.out k (by omega)
                case measure => simp [intOf]; omega
        · have HBad : Hid (¬ Figs (nums s)) := by
            intro hG
            have h1 := HT.out
            have h3 := hG.2 j (by rw [HLn.out]; omega)
            unfold okP at h3
            rw [← h1, ← HU1.out, ← HU2.out] at h3
            exact hk h3
          have HK := hid hk
          clear hk hown
          go_wp2_with fail
          go_loopw [4, 6, 7] (fun ov fv cv wq => ∃ c : Nat, c ≤ 256 ∧ cv = .int .i64 c ∧ Below w.heap.size w wq ∧ fv = .bool false) (fun _ _ cv _ => 256 - (intOf cv).toNat)
          case atStart => exact ⟨0, by omega, rfl, hb, rfl⟩
          case round =>
            clear hb
            obtain ⟨wo, rfl⟩ : ∃ wo : World, wo = wr := ⟨_, rfl⟩
            obtain ⟨c, hc, rfl, hb, rfl⟩ := hrel
            by_cases hcl : c < 256
            · have hsz := hb.size
              have HB := hid hb
              clear hb
              go_wp2_with fail
              have hwc : IntKind.u8.wrap (c : Int) = c := by rw [IntKind.wrap_u8]; omega
              have hwt : IntKind.i64.wrap ((t : Int) + 2) = (t : Int) + 2 := IntWalk.i64_in _ (by omega)
              have hs0 : (0 : Int) ≤ t := by omega
              have hs1 : (t : Int) ≤ t + 2 := by omega
              have hs3 : ((t : Int) + 2).toNat = t + 2 := by omega
              have hs4 : (0 : Int) ≤ (c : Int) := by omega
              have hs5 : (c : Int) ≤ 255 := by omega
              go_region_held3 (fun w' => Below wo.heap.size wo w') (first | exact (Below.refl _ _).drew | exact keep_below (by assumption) (by assumption) | exact keep_alloc (by assumption) | go_keep) ((go_at_call 11; ((with_reducible refine (ref_text1 _ ⟨by assumption, by assumption⟩ _ _ (by simp [go_sem])).mono ?_); rintro e w1 ⟨rfl, hg⟩)))
              have HB1 := hid (show Below wo.heap.size wo w1 by assumption)
              clear hwc hwt hs0 hs1 hs3 hs4 hs5
              have hE := str_eq_false (fun h => HK.out (by have := (HPair.out c (by omega) (by omega)).1 h; exact ⟨this.1, this.2.1⟩))
              rw [hE]
              clear hE
              have hb4 := HB.out.trans (HB1.out.mono hsz)
              go_wp2_with fail
              go_roundw
              case rel => exact ⟨c + 1, by omega, by go_num, hb4, rfl⟩
              case measure => simp [intOf]; omega
            · have hcl2 : ¬ (c : Int) < 256 := by omega
              go_wp2_with fail
              go_ret2
              exact ⟨hb, .inr ⟨HBad.out, rfl⟩⟩
      · have hmm2 : ¬ (t : Int) + 2 ≤ s.size := by omega
        have HBad : Hid (¬ Figs (nums s)) := by intro hG; have := hG.1; rw [HLn.out] at this; have := HT.out; omega
        have HOwn := hid hown
        clear hown
        go_wp2_with fail
        go_loopw [4, 6, 7] (fun ov fv cv wq => fv = .bool false ∧ cv = .int .i64 0 ∧ wq = wr) (fun _ _ _ _ => 0)
        case atStart => exact ⟨rfl, rfl, rfl⟩
        case round =>
          obtain ⟨rfl, rfl, rfl⟩ := hrel
          go_wp2_with fail
          go_ret2
          exact ⟨hb, .inr ⟨HBad.out, rfl⟩⟩
    · have hmm : ¬ (t : Int) < s.size := by omega
      obtain rfl : t = s.size := by omega
      have HG : Hid (Figs (nums s)) := ⟨by rw [HLn.out]; have := HT.out; omega, fun k hk => HOK.out k (by rw [HLn.out] at hk; have := HT.out; omega)⟩
      have hl2 : (nums s).length / 2 = j := by rw [HLn.out]; have := HT.out; omega
      have HL2 := hid hl2
      clear hl2
      go_wp2_with fail
      go_ret2
      obtain ⟨a', c', rfl⟩ := own_slice hown
      exact ⟨hb, .inl ⟨HG.out, a', c', by rw [HL2.out]; rfl, by rw [HL2.out]; exact own_nums hown⟩⟩
end Go.Proofs.Ytmoolhneofbfdaa.hxc
