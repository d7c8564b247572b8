/- catwalklaw13.Ip4Parses answers true at every input, and leaves its arguments as they were. No condition. -/
import Derived.Test.YtidenjinagpphabRows
import Derived.WalkKit
import Derived.ProofKit
import Derived.OpenShut
import Derived.ShutString
import Derived.ChangeOld
import Derived.Below
import Derived.Test.YtidenjinagpphabIp4R
import Derived.Test.YtidenjinagpphabIp4S
import Derived.Deep.DeepCutAuto
namespace Go.Proofs.Ytidenjinagpphab.ip4Parses
open Go.ChangeShapes Go.WideShapes Go.ChangeAt Go.RowKit
open Go.ChangeMaps (open_string shut_string)
set_option linter.unusedVariables false

theorem own : ownKnob Try.prog.godebug = none := by kernel_rfl
theorem laidOut : laidOutB Try.prog = true := by kernel_rfl

/-- WHAT THE WALK IS TOLD OF A SLICE OF INTEGERS THAT CAME IN: it is nil; or it leads to a row of 'cap' cells, the numbers 'zs' (the first 'len' are its elements, the rest its spare room), each fitting its kind. -/
def IsRow (k : IntKind) (w : World) (a : Option Addr) (len cap : Nat) (zs : List Int) : Prop :=
  (a = none ∧ len = 0 ∧ cap = 0 ∧ zs = []) ∨
  ∃ x, a = some x ∧ len ≤ cap ∧ cap ≤ maxLen ∧ zs.length = cap ∧ (∀ i, i < zs.length → w.cell? (x.add i) = some (.int k (zs.getD i 0))) ∧ ∀ n ∈ zs, (Lit.int k n).wf = true

open Go.Proofs.Ytidenjinagpphab.kit Go.Proofs.Ytidenjinagpphab.bec Go.Proofs.Ytidenjinagpphab.ipm Go.Proofs.Ytidenjinagpphab.ipc

/-! ### STEP 1: THE WALK: the Go text returns true, AND WRITES NOTHING THAT WAS THERE: 'Below w.heap.size w w'' (Derived/Below.lean: '.refl', '.alloc', '.drew', '.setCell' at a new block, '.trans'). Open each 'IsRow' by 'rcases' AHEAD of 'go_enter'; part every test ahead of the walk. -/
set_option maxHeartbeats 1000000 in
theorem walk (a0 : Option Addr) (len0 cap0 : Nat) (z0 : List Int) (w : World) (w0 : IsRow .u8 w a0 len0 cap0 z0) :
    Calls Try.prog 3 #[.slice a0 len0 cap0] w fun e w' => e = .returned (.bool true) ∧ Below w.heap.size w w' := by
  obtain ⟨l, hN, hwf⟩ := row_nums w0
  have hO : Oct l := fun x hx => wf_u8 (hwf x hx)
  clear w0 hwf
  have hle := hN.le
  have hmx := hN.max
  unfold maxLen at hmx
  by_cases hbig : 2000 < len0
  · clear hN hO
    go_enter Try.func3, Try.ntmps3
    go_wp2
    go_ret
    exact ⟨rfl, Below.refl _ _⟩
  · have s0 : St w w [(a0, len0, cap0, l)] := (St.start w).push hN
    obtain ⟨T, hT⟩ : ∃ T, T = ipP l := ⟨_, rfl⟩
    have hp := hT ▸ parse_any s0 m0 hO (by omega)
    have hr := fun (w W : World) (L : List Sl) (h : St w W L) (hm : (a0, len0, cap0, l) ∈ L) => hT ▸ rparse_any h hm hO (by omega)
    obtain ⟨⟨t, ttl, pr, id, fr, src, dst, lo, ld⟩, E⟩ := T
    have HP := hid (hp.mono fun _ _ h => ipost_open h)
    have HR := hid (fun (w W : World) (L : List Sl) (h : St w W L) (hm : (a0, len0, cap0, l) ∈ L) => (hr w W L h hm).mono fun _ _ h => ipost_open h)
    clear hN hO hT hp hr
    go_enter Try.func3, Try.ntmps3
    go_upto_region 4 with (go_at_call 11; ((with_reducible refine HP.out.mono ?_); rintro e wa ⟨ao, no, co, ad, nd, cd, rfl, s1⟩))
    obtain ⟨WA, hWA⟩ : ∃ WA, WA = wa.alloc (.cells #[.int .u8 t, .int .u8 ttl, .int .u8 pr, .int .u16 id, .int .u16 fr, .int .u32 src, .int .u32 dst, .slice ao no co, .slice ad nd cd] 27) := ⟨_, rfl⟩
    have bA : Below wa.heap.size wa WA := by rw [hWA]; exact (Below.refl _ _).alloc (Nat.le_refl _) _
    have kA : Box WA wa.heap.size [.int .u8 t, .int .u8 ttl, .int .u8 pr, .int .u16 id, .int .u16 fr, .int .u32 src, .int .u32 dst, .slice ao no co, .slice ad nd cd] := by rw [hWA]; exact Box.made _ _ _
    have s2 := s1.next bA
    have HWA := hid hWA
    have KA := hid kA
    clear hWA bA kA s1 HP
    rw [← HWA.out]
    go_upto_region 5 with (go_at_call 12; ((with_reducible refine (HR.out _ _ _ (st_base s2) m2).mono ?_); rintro e wb ⟨ao2, no2, co2, ad2, nd2, cd2, rfl, s3⟩))
    obtain ⟨WB, hWB⟩ : ∃ WB, WB = wb.alloc (.cells #[.int .u8 t, .int .u8 ttl, .int .u8 pr, .int .u16 id, .int .u16 fr, .int .u32 src, .int .u32 dst, .slice ao2 no2 co2, .slice ad2 nd2 cd2] 27) := ⟨_, rfl⟩
    have bB : Below wb.heap.size wb WB := by rw [hWB]; exact (Below.refl _ _).alloc (Nat.le_refl _) _
    have kB : Box WB wb.heap.size [.int .u8 t, .int .u8 ttl, .int .u8 pr, .int .u16 id, .int .u16 fr, .int .u32 src, .int .u32 dst, .slice ao2 no2 co2, .slice ad2 nd2 cd2] := by rw [hWB]; exact Box.made _ _ _
    have kA := (KA.out.next s3.below).next bB
    have s4 := (st_on s2 s3).next bB
    have x0 := kA.at_ 0 _ rfl
    have x1 := kA.at_ 1 _ rfl
    have x2 := kA.at_ 2 _ rfl
    have x3 := kA.at_ 3 _ rfl
    have x4 := kA.at_ 4 _ rfl
    have x5 := kA.at_ 5 _ rfl
    have x6 := kA.at_ 6 _ rfl
    have x7 := kA.at_ 7 _ rfl
    have x8 := kA.at_ 8 _ rfl
    have y0 := kB.at_ 0 _ rfl
    have y1 := kB.at_ 1 _ rfl
    have y2 := kB.at_ 2 _ rfl
    have y3 := kB.at_ 3 _ rfl
    have y4 := kB.at_ 4 _ rfl
    have y5 := kB.at_ 5 _ rfl
    have y6 := kB.at_ 6 _ rfl
    have y7 := kB.at_ 7 _ rfl
    have y8 := kB.at_ 8 _ rfl
    have HWB := hid hWB
    clear hWB bB kA kB s2 s3 HR
    rw [← HWB.out]
    go_wp2_with (first | (go_at_call 13; ((with_reducible refine (same_st s4 m2 m3 m0 m1 t ttl pr id fr src dst).mono ?_); rintro e wc ⟨rfl, s5⟩)) | (go_at_call 14; ((with_reducible refine (ipc.alive_st s5).mono ?_); rintro e wd ⟨rfl, s6⟩)))
    go_ret
    exact ⟨rfl, s6.below⟩

/-! ### THE ROW's STEP: WRITTEN OUT: LEAVE IT -/
set_option maxRecDepth 100000 in
theorem lifted (os : Os) (started : os.Started) (H : Type) (enc : TypeId × Value → H) :
    ReturnsInHanded {} Try.checked os 3 .any (Rows.ip4ParsesSpec.pre6 enc Try.prog Try.f3 Rows.ip4ParsesRow.domain false) (Rows.ip4ParsesSpec.post enc Try.prog Try.f3 false true false false) := by
  refine returnsInHanded_of_change (C := Try.checked) own started (by kernel_rfl) Try.func3
    (ChangeSpec.witness6 (enc := enc) (C := Try.checked) false ⟨#[], #[.slice none 0 0], []⟩ 8 (by kernel_rfl) (by kernel_rfl) (by kernel_rfl) (by kernel_rfl)) ?_
  intro W base args ds gs before hval0 hW hcnd _
  have hval : ∀ (j : Nat) t v, Try.f3.params[j]? = some t → args[j]? = some v → Value.okWide Try.prog W .any base t v := hval0
  have hW' := hW
  obtain ⟨p, q, hA0, hV, rfl, hfz, hnd⟩ := hW
  have hA : DataW.TrodAll enc Try.prog W 0 (fun _ => true) true Try.f3.params.toList args.toList ds p := hA0
  rw [Try.params3] at hA hval
  obtain ⟨v0, vs0, d0, ds0, p0, q0, hargs, rfl, rfl, h0, r0⟩ := trodAll_cons hA
  obtain ⟨rfl, rfl, rfl⟩ := trodAll_nil r0
  obtain rfl : args = #[v0] := by cases args; simp_all
  obtain ⟨rfl, rfl⟩ := trodVars_none hV
  obtain ⟨a0, len0, cap0, rfl⟩ := okWide_slice Try.underlying22 (hval 0 22 v0 rfl rfl)
  have k0 := h0
  have lt0 : ∀ x ∈ p0, x.block < W.heap.size := by obtain ⟨m, hm⟩ := k0; exact DataW.trod_lt m _ _ _ hm
  obtain ⟨z0, w0⟩ : ∃ zs, IsRow .u8 W a0 len0 cap0 zs := by
    obtain ⟨fuel, hf⟩ := h0
    rcases open_ints Try.underlying22 Try.underlying5 (by kernel_rfl) hf with ⟨hcs, _⟩ | ⟨x, l, c, zs, hcs, _, hl, hm, hz, _, hcell, hwz⟩
    · simp [Value.cells] at hcs
      obtain ⟨rfl, rfl, rfl⟩ := hcs
      exact ⟨[], .inl ⟨rfl, rfl, rfl, rfl⟩⟩
    · simp [Value.cells] at hcs
      obtain ⟨rfl, rfl, rfl⟩ := hcs
      exact ⟨zs, .inr ⟨_, rfl, hl, hm, by simpa using hz, hcell, hwz⟩⟩
  clear hA0 hval0
  refine (walk a0 len0 cap0 z0 W w0).mono fun e W' ⟨he, bel⟩ => ?_
  subst he
  exact ⟨_, rfl, _, _, _, [], _, [], hW', trodAll_mk1 (shut_bool Try.underlying4 _), (trodAll_cons_mk (Below.trod laidOut (by kernel_rfl) (of_decide_eq_true (by kernel_rfl)) k0 bel lt0) trodAll_mk0), rfl, bel.frame _, fun h => by cases h⟩

theorem over : Rows.ip4ParsesRow.holds Try.pinned (OpenSpec.ofChange Rows.ip4ParsesSpec) :=
  OpenClaim.holds_of_wide 3 Try.f3 rfl rfl rfl rfl rfl rfl rfl ⟨rfl, rfl, rfl, rfl, rfl⟩ rfl rfl rfl rfl rfl (by kernel_rfl) Try.func3 (by kernel_rfl)
    (of_decide_eq_true (by kernel_rfl)) (by unfold Func.isWrapper; first | (rw [if_pos (by decide +kernel)]; kernel_rfl) | (rw [if_neg (by decide +kernel)]; exact ⟨rfl, rfl⟩))
    (fun os started H enc _ => lifted os started H enc)

/-- ████ THE STATEMENT ████ -/
theorem proved : Rows.Ip4ParsesSaid := over
end Go.Proofs.Ytidenjinagpphab.ip4Parses
