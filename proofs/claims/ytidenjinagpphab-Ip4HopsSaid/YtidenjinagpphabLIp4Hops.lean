/- catwalklaw13.Ip4Hops answers true at every input, and leaves its arguments as they were. No condition. -/
import Derived.Test.YtidenjinagpphabRows
import Derived.WalkKit
import Derived.ProofKit
import Derived.OpenShut
import Derived.ShutString
import Derived.ChangeOld
import Derived.Below
import Derived.Test.YtidenjinagpphabIp4R
import Derived.Test.YtidenjinagpphabIp4S
import Derived.Test.YtidenjinagpphabIp4H
import Derived.Deep.DeepCutAuto
namespace Go.Proofs.Ytidenjinagpphab.ip4Hops
open Go.ChangeShapes Go.WideShapes Go.ChangeAt Go.RowKit
open Go.ChangeMaps (open_string shut_string)
set_option linter.unusedVariables false

theorem own : ownKnob Try.prog.godebug = none := by kernel_rfl
theorem laidOut : laidOutB Try.prog = true := by kernel_rfl

/-- WHAT THE WALK IS TOLD OF A SLICE OF INTEGERS THAT CAME IN: it is nil; or it leads to a row of 'cap' cells, the numbers 'zs' (the first 'len' are its elements, the rest its spare room), each fitting its kind. -/
def IsRow (k : IntKind) (w : World) (a : Option Addr) (len cap : Nat) (zs : List Int) : Prop :=
  (a = none ∧ len = 0 ∧ cap = 0 ∧ zs = []) ∨
  ∃ x, a = some x ∧ len ≤ cap ∧ cap ≤ maxLen ∧ zs.length = cap ∧ (∀ i, i < zs.length → w.cell? (x.add i) = some (.int k (zs.getD i 0))) ∧ ∀ n ∈ zs, (Lit.int k n).wf = true

open Go.Proofs.Ytidenjinagpphab.kit Go.Proofs.Ytidenjinagpphab.bec Go.Proofs.Ytidenjinagpphab.ipm Go.Proofs.Ytidenjinagpphab.ipc Go.Proofs.Ytidenjinagpphab.sm Go.Proofs.Ytidenjinagpphab.sc
theorem hop_oct {l : List Int} (hb : Oct l) (h8 : 2 ≤ l.getD 8 0) : Oct (hopL l) := by
  have b8 := hb.at 8
  have ht : turnL l ≤ 65535 := by unfold turnL; omega
  unfold hopL sealL
  exact word2_oct (fun z hz => by rcases List.mem_or_eq_of_mem_set hz with hz | rfl; exact hb z hz; omega) 5 (by omega) (by omega)
theorem ipp_back {l : List Int} (hb : Oct l) (hy : whyL l = 0) (h8 : 2 ≤ l.getD 8 0) {t ttl pr id fr src dst : Int} {lo ld : List Int} (hD : Dg.mk t ttl pr id fr src dst lo ld = dgL l) : ipP (hopL l) = (Dg.mk t (ttl - 1) pr id fr src dst lo ld, 0) := by
  rw [hop_back hb hy h8, ← hD]

/-! ### STEP 1: THE WALK: the Go text returns true, AND WRITES NOTHING THAT WAS THERE: 'Below w.heap.size w w'' (Derived/Below.lean: '.refl', '.alloc', '.drew', '.setCell' at a new block, '.trans'). Open each 'IsRow' by 'rcases' AHEAD of 'go_enter'; part every test ahead of the walk. -/
set_option maxHeartbeats 2000000 in
theorem walk (a0 : Option Addr) (len0 cap0 : Nat) (z0 : List Int) (w : World) (w0 : IsRow .u8 w a0 len0 cap0 z0) :
    Calls Try.prog 4 #[.slice a0 len0 cap0] w fun e w' => e = .returned (.bool true) ∧ Below w.heap.size w w' := by
  obtain ⟨l, hN, hwf⟩ := row_nums w0
  have hO : Oct l := fun x hx => wf_u8 (hwf x hx)
  clear w0 hwf
  have hle := hN.le
  have hmx := hN.max
  unfold maxLen at hmx
  by_cases hbig : 2000 < len0
  · clear hN hO
    go_enter Try.func4, Try.ntmps4
    go_wp2
    go_ret
    exact ⟨rfl, Below.refl _ _⟩
  · have s0 : St w w [(a0, len0, cap0, l)] := (St.start w).push hN
    have hlen := hid hN.len
    have HO := hid hO
    have S0 := hid s0
    clear hN hO s0
    by_cases hy : whyL l = 0
    · have HP := fun (w W : World) (L : List Sl) (h : St w W L) (hm : (a0, len0, cap0, l) ∈ L) => rparse_any h hm HO.out (by omega)
      rw [show ipP l = (dgL l, 0) by unfold ipP; rw [if_pos hy]] at HP
      obtain ⟨D, hD⟩ : ∃ D, D = dgL l := ⟨_, rfl⟩
      rw [← hD] at HP
      have httl0 : D.ttl = l.getD 8 0 := by rw [hD]; rfl
      have hb8 := HO.out.at 8
      obtain ⟨t, ttl, pr, id, fr, src, dst, lo, ld⟩ := D
      have HR := hid (fun (w W : World) (L : List Sl) (h : St w W L) (hm : (a0, len0, cap0, l) ∈ L) => (HP w W L h hm).mono fun _ _ h => ipost_open h)
      have httl : ttl = l.getD 8 0 := httl0
      clear httl0
      rw [← httl] at hb8
      by_cases h8 : ttl < 2
      · have HH := hid (hop_no S0.out m0 HO.out (by omega) (.inr (by rw [← httl]; exact h8)))
        clear hy hD httl HP
        go_enter Try.func4, Try.ntmps4
        go_upto_region 5 with (first | (go_at_call 15; ((with_reducible refine HH.out.mono ?_); rintro e wa ⟨rfl, s1⟩)) | (go_at_call 12; ((with_reducible refine (HR.out _ _ _ s1 m0).mono ?_); rintro e wb ⟨ao, no, co, ad, nd, cd, rfl, s2⟩)))
        obtain ⟨WB, hWB⟩ : ∃ WB, WB = wb.alloc (.cells #[.int .u8 t, .int .u8 ttl, .int .u8 pr, .int .u16 id, .int .u16 fr, .int .u32 src, .int .u32 dst, .slice ao no co, .slice ad nd cd] 27) := ⟨_, rfl⟩
        have bB : Below wb.heap.size wb WB := by rw [hWB]; exact (Below.refl _ _).alloc (Nat.le_refl _) _
        have kB : Box WB wb.heap.size [.int .u8 t, .int .u8 ttl, .int .u8 pr, .int .u16 id, .int .u16 fr, .int .u32 src, .int .u32 dst, .slice ao no co, .slice ad nd cd] := by rw [hWB]; exact Box.made _ _ _
        have x1 := kB.at_ 1 _ rfl
        have s3 := s2.next bB
        have HWB := hid hWB
        clear hWB bB kB s1 s2 HH HR
        rw [← HWB.out]
        go_wp2_with (go_at_call 14; ((with_reducible refine (ipc.alive_st s3).mono ?_); rintro e wd ⟨rfl, s6⟩))
        go_ret
        exact ⟨rfl, s6.below⟩
      · have h8' : 2 ≤ l.getD 8 0 := by rw [← httl]; omega
        have HH := hid (hop_yes S0.out m0 HO.out (by omega) hy h8')
        have hOH := hop_oct HO.out h8'
        have HB := hid (fun (w W : World) (L : List Sl) (a : Option Addr) (c : Nat) (h : St w W L) (hm : (a, len0, c, hopL l) ∈ L) => ((ipp_back HO.out hy h8' hD) ▸ rparse_from h hm hOH (by omega)).mono fun _ _ h => ipostF_open h)
        have hw8 : IntKind.u8.wrap (ttl - 1) = ttl - 1 := by rw [IntKind.wrap_u8']; omega
        clear hy hD httl HP h8' hOH
        go_enter Try.func4, Try.ntmps4
        go_upto_region 5 with (first | (go_at_call 15; ((with_reducible refine HH.out.mono ?_); rintro e wa ⟨ah, ch, rfl, s1⟩)) | (go_at_call 12; ((with_reducible refine (HR.out _ _ _ s1 m1).mono ?_); rintro e wb ⟨ao, no, co, ad, nd, cd, rfl, s2⟩)))
        obtain ⟨WB, hWB⟩ : ∃ WB, WB = wb.alloc (.cells #[.int .u8 t, .int .u8 ttl, .int .u8 pr, .int .u16 id, .int .u16 fr, .int .u32 src, .int .u32 dst, .slice ao no co, .slice ad nd cd] 27) := ⟨_, rfl⟩
        have bB : Below wb.heap.size wb WB := by rw [hWB]; exact (Below.refl _ _).alloc (Nat.le_refl _) _
        have kB : Box WB wb.heap.size [.int .u8 t, .int .u8 ttl, .int .u8 pr, .int .u16 id, .int .u16 fr, .int .u32 src, .int .u32 dst, .slice ao no co, .slice ad nd cd] := by rw [hWB]; exact Box.made _ _ _
        have x1 := kB.at_ 1 _ rfl
        have s3 := s2.next bB
        have NO0 := hid (s2.get m0)
        have ND0 := hid (s2.get m1)
        have HS2 := hid s2.below
        have HbB := hid bB
        have HWB := hid hWB
        have KB := hid kB
        clear hWB bB kB s1 s2 HH HR
        rw [← HWB.out]
        go_upto_region 8 with (go_at_call 12; ((with_reducible refine (HB.out _ _ _ _ _ (st_base s3) m2).mono ?_); rintro e wc ⟨ao2, no2, co2, ad2, nd2, cd2, rfl, hf1, hf2, s4⟩))
        have szB : WB.heap.size = wb.heap.size + 1 := by rw [HWB.out]; simp
        have HbC := hid s4.below
        obtain ⟨WC, hWC⟩ : ∃ WC, WC = wc.alloc (.cells #[.int .u8 t, .int .u8 (ttl - 1), .int .u8 pr, .int .u16 id, .int .u16 fr, .int .u32 src, .int .u32 dst, .slice ao2 no2 co2, .slice ad2 nd2 cd2] 27) := ⟨_, rfl⟩
        have bC : Below wc.heap.size wc WC := by rw [hWC]; exact (Below.refl _ _).alloc (Nat.le_refl _) _
        have kC : Box WC wc.heap.size [.int .u8 t, .int .u8 (ttl - 1), .int .u8 pr, .int .u16 id, .int .u16 fr, .int .u32 src, .int .u32 dst, .slice ao2 no2 co2, .slice ad2 nd2 cd2] := by rw [hWC]; exact Box.made _ _ _
        have kB := (KB.out.next s4.below).next bC
        have HbCC := hid bC
        have s5 := (st_on s3 s4).next bC
        have hlt := KB.out.lt
        have hne : wc.heap.size ≠ wb.heap.size := by have := s4.below.size; omega
        have x1 := kB.at_ 1 _ rfl
        have f1 := kB.fr 1
        have HWC := hid hWC
        have KC := hid kC
        have KB2 := hid kB
        have S5 := hid s5
        have S3 := hid s3
        clear hWC bC kC kB s3 s4 s5
        rw [← HWC.out]
        go_upto_region 9 with fail
        have gs := gb_setCell (World.grownBy.refl WC (some wb.heap.size)) (p := ⟨wb.heap.size, 1, none⟩) rfl (.int .u8 (ttl - 1))
        have kB : Box (WC.setCell ⟨wb.heap.size, 1, none⟩ (.int .u8 (ttl - 1))) wb.heap.size [.int .u8 t, .int .u8 (ttl - 1), .int .u8 pr, .int .u16 id, .int .u16 fr, .int .u32 src, .int .u32 dst, .slice ao no co, .slice ad nd cd] := KB2.out.set 1 (.int .u8 (ttl - 1))
        have kC := KC.out.grown gs hne
        have nO2 := (nums_grown (S5.out.get m0) gs (fun b o s hb => by have := hf1 b o s hb; omega)).mono gs.size
        have nD2 := (nums_grown (S5.out.get m1) gs (fun b o s hb => by have := hf2 b o s hb; omega)).mono gs.size
        have bWC : Below wb.heap.size wb WC := HbB.out.trans ((HbC.out.mono HbB.out.size).trans ((HbCC.out).mono (Nat.le_trans HbB.out.size HbC.out.size)))
        obtain ⟨WF, hWF⟩ : ∃ WF, WF = WC.setCell ⟨wb.heap.size, 1, none⟩ (.int .u8 (ttl - 1)) := ⟨_, rfl⟩
        have bF : Below wb.heap.size wb WF := by rw [hWF]; exact bWC.setCell (Nat.le_refl _) _
        rw [← hWF] at kB kC nO2 nD2
        have nO1 := (NO0.out.below bF).mono bF.size
        have nD1 := (ND0.out.below bF).mono bF.size
        have sF : St WF WF [(ao, no, co, lo), (ad, nd, cd, ld), (ao2, no2, co2, lo), (ad2, nd2, cd2, ld)] := ((((St.start WF).push nD2).push nO2).push nD1).push nO1
        have BF := hid (HS2.out.trans (bF.mono HS2.out.size))
        clear x1
        have x0 := kB.at_ 0 _ rfl
        have x1 := kB.at_ 1 _ rfl
        have x2 := kB.at_ 2 _ rfl
        have x3 := kB.at_ 3 _ rfl
        have x4 := kB.at_ 4 _ rfl
        have x5 := kB.at_ 5 _ rfl
        have x6 := kB.at_ 6 _ rfl
        have x7 := kB.at_ 7 _ rfl
        have x8 := kB.at_ 8 _ rfl
        have y0 := kC.at_ 0 _ rfl
        have y1 := kC.at_ 1 _ rfl
        have y2 := kC.at_ 2 _ rfl
        have y3 := kC.at_ 3 _ rfl
        have y4 := kC.at_ 4 _ rfl
        have y5 := kC.at_ 5 _ rfl
        have y6 := kC.at_ 6 _ rfl
        have y7 := kC.at_ 7 _ rfl
        have y8 := kC.at_ 8 _ rfl
        have HWF := hid hWF
        have hbf := BF.out.size
        clear hWF kB kC nO1 nD1 nO2 nD2 bF bWC gs f1 hf1 hf2
        rw [← HWF.out]
        go_wp2_with (first | (go_at_call 13; ((with_reducible refine (same_st sF m0 m1 m2 m3 t (ttl - 1) pr id fr src dst).mono ?_); rintro e wg ⟨rfl, s10⟩)) | (go_at_call 14; ((with_reducible refine (ipc.alive_st s10).mono ?_); rintro e wd ⟨rfl, s11⟩)))
        go_ret
        exact ⟨rfl, BF.out.trans (s11.below.mono hbf)⟩
    · have HP := fun (w W : World) (L : List Sl) (h : St w W L) (hm : (a0, len0, cap0, l) ∈ L) => rparse_any h hm HO.out (by omega)
      obtain ⟨y, hye⟩ : ∃ y, y = whyL l := ⟨_, rfl⟩
      rw [show ipP l = (Dg.mk 0 0 0 0 0 0 0 [] [], y) by unfold ipP; rw [if_neg hy, hye]; rfl] at HP
      have HR := hid (fun (w W : World) (L : List Sl) (h : St w W L) (hm : (a0, len0, cap0, l) ∈ L) => (HP w W L h hm).mono fun _ _ h => ipost_open h)
      have HH := hid (hop_no S0.out m0 HO.out (by omega) (.inl hy))
      have hyb : (y != 0) = true := by rw [hye]; simpa using hy
      clear hy hye HP
      go_enter Try.func4, Try.ntmps4
      go_upto_region 5 with (first | (go_at_call 15; ((with_reducible refine HH.out.mono ?_); rintro e wa ⟨rfl, s1⟩)) | (go_at_call 12; ((with_reducible refine (HR.out _ _ _ s1 m0).mono ?_); rintro e wb ⟨ao, no, co, ad, nd, cd, rfl, s2⟩)))
      have s3 := s2.next ((Below.refl wb.heap.size wb).alloc (Nat.le_refl _) (.cells #[.int .u8 0, .int .u8 0, .int .u8 0, .int .u16 0, .int .u16 0, .int .u32 0, .int .u32 0, .slice ao no co, .slice ad nd cd] 27))
      clear s1 s2 HH HR
      go_wp2_with (go_at_call 14; ((with_reducible refine (ipc.alive_st s3).mono ?_); rintro e wd ⟨rfl, s6⟩))
      go_ret
      exact ⟨rfl, s6.below⟩

/-! ### THE ROW's STEP: WRITTEN OUT: LEAVE IT -/
set_option maxRecDepth 100000 in
theorem lifted (os : Os) (started : os.Started) (H : Type) (enc : TypeId × Value → H) :
    ReturnsInHanded {} Try.checked os 4 .any (Rows.ip4HopsSpec.pre6 enc Try.prog Try.f4 Rows.ip4HopsRow.domain false) (Rows.ip4HopsSpec.post enc Try.prog Try.f4 false true false false) := by
  refine returnsInHanded_of_change (C := Try.checked) own started (by kernel_rfl) Try.func4
    (ChangeSpec.witness6 (enc := enc) (C := Try.checked) false ⟨#[], #[.slice none 0 0], []⟩ 8 (by kernel_rfl) (by kernel_rfl) (by kernel_rfl) (by kernel_rfl)) ?_
  intro W base args ds gs before hval0 hW hcnd _
  have hval : ∀ (j : Nat) t v, Try.f4.params[j]? = some t → args[j]? = some v → Value.okWide Try.prog W .any base t v := hval0
  have hW' := hW
  obtain ⟨p, q, hA0, hV, rfl, hfz, hnd⟩ := hW
  have hA : DataW.TrodAll enc Try.prog W 0 (fun _ => true) true Try.f4.params.toList args.toList ds p := hA0
  rw [Try.params4] at hA hval
  obtain ⟨v0, vs0, d0, ds0, p0, q0, hargs, rfl, rfl, h0, r0⟩ := trodAll_cons hA
  obtain ⟨rfl, rfl, rfl⟩ := trodAll_nil r0
  obtain rfl : args = #[v0] := by cases args; simp_all
  obtain ⟨rfl, rfl⟩ := trodVars_none hV
  obtain ⟨a0, len0, cap0, rfl⟩ := okWide_slice Try.underlying22 (hval 0 22 v0 rfl rfl)
  have k0 := h0
  have lt0 : ∀ x ∈ p0, x.block < W.heap.size := by obtain ⟨m, hm⟩ := k0; exact DataW.trod_lt m _ _ _ hm
  obtain ⟨z0, w0⟩ : ∃ zs, IsRow .u8 W a0 len0 cap0 zs := by
    obtain ⟨fuel, hf⟩ := h0
    rcases open_ints Try.underlying22 Try.underlying5 (by kernel_rfl) hf with ⟨hcs, _⟩ | ⟨x, l, c, zs, hcs, _, hl, hm, hz, _, hcell, hwz⟩
    · simp [Value.cells] at hcs
      obtain ⟨rfl, rfl, rfl⟩ := hcs
      exact ⟨[], .inl ⟨rfl, rfl, rfl, rfl⟩⟩
    · simp [Value.cells] at hcs
      obtain ⟨rfl, rfl, rfl⟩ := hcs
      exact ⟨zs, .inr ⟨_, rfl, hl, hm, by simpa using hz, hcell, hwz⟩⟩
  clear hA0 hval0
  refine (walk a0 len0 cap0 z0 W w0).mono fun e W' ⟨he, bel⟩ => ?_
  subst he
  exact ⟨_, rfl, _, _, _, [], _, [], hW', trodAll_mk1 (shut_bool Try.underlying4 _), (trodAll_cons_mk (Below.trod laidOut (by kernel_rfl) (of_decide_eq_true (by kernel_rfl)) k0 bel lt0) trodAll_mk0), rfl, bel.frame _, fun h => by cases h⟩

theorem over : Rows.ip4HopsRow.holds Try.pinned (OpenSpec.ofChange Rows.ip4HopsSpec) :=
  OpenClaim.holds_of_wide 4 Try.f4 rfl rfl rfl rfl rfl rfl rfl ⟨rfl, rfl, rfl, rfl, rfl⟩ rfl rfl rfl rfl rfl (by kernel_rfl) Try.func4 (by kernel_rfl)
    (of_decide_eq_true (by kernel_rfl)) (by unfold Func.isWrapper; first | (rw [if_pos (by decide +kernel)]; kernel_rfl) | (rw [if_neg (by decide +kernel)]; exact ⟨rfl, rfl⟩))
    (fun os started H enc _ => lifted os started H enc)

/-- ████ THE STATEMENT ████ -/
theorem proved : Rows.Ip4HopsSaid := over
end Go.Proofs.Ytidenjinagpphab.ip4Hops
