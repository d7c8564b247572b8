/- The program's Hash in memory; its numbers. -/
import Derived.Test.YtnfklhebcloolaaDoorMdRO
import Derived.Test.YtnfklhebcloolaaDoorMdLaid
namespace Go.Proofs.YtnfklhebcloolaaDoor.mdc
open Go.RowKit
open Go.Proofs.YtnfklhebcloolaaDoor.kit Go.Proofs.YtnfklhebcloolaaDoor.mdm
set_option linter.unusedVariables false
set_option linter.unusedSimpArgs false
set_option maxRecDepth 20000
/-- a Hash: what was added, the part, how many were taken -/
def hv (x : Q4) (P : List Int) (t : Nat) : List Value := q4 .u32 x ++ b16 P ++ [.int .u64 (t : Nat)]
theorem hv_add (x : Q4) (P : List Int) (t k : Nat) (hk : k < 4) : (hv x P t)[k]? = some (.int .u32 (qv x k : Nat)) := by
  have hc : k = 0 ∨ k = 1 ∨ k = 2 ∨ k = 3 := by omega
  rcases hc with rfl | rfl | rfl | rfl <;> rfl
def ns (x : Q4) (i : Nat) : Q4 := ⟨if 0 < i then (mdm.start.a + x.a) % 4294967296 else 0, if 1 < i then (mdm.start.b + x.b) % 4294967296 else 0, if 2 < i then (mdm.start.c + x.c) % 4294967296 else 0, if 3 < i then (mdm.start.d + x.d) % 4294967296 else 0⟩
theorem ns_succ (x : Q4) (i : Nat) (hi : i < 4) : (q4 .u32 (ns x i)).set i (.int .u32 (((S0.getD i 0 + qv x i) % 4294967296 : Nat) : Int)) = q4 .u32 (ns x (i + 1)) := by
  have hc : i = 0 ∨ i = 1 ∨ i = 2 ∨ i = 3 := by omega
  rcases hc with rfl | rfl | rfl | rfl <;> simp [q4, ns, qv, S0, mdm.start]
theorem ns_4 (x : Q4) : ns x 4 = add4 mdm.start x := by simp [ns, add4]
theorem q4u_at (x : Q4) (k : Nat) (hk : k < 4) : (q4 .u32 x)[k]? = some (.int .u32 (qv x k : Nat)) := by
  have hc : k = 0 ∨ k = 1 ∨ k = 2 ∨ k = 3 := by omega
  rcases hc with rfl | rfl | rfl | rfl <;> rfl
/-- what the loop of numbers keeps -/
structure Nk (w wr : World) (g : Nat) (x y : Q4) (P : List Int) (t : Nat) : Prop where
  b : Below w.heap.size w wr
  r : Box wr w.heap.size (q4 .u32 ⟨0, 0, 0, 0⟩)
  n : Box wr (w.heap.size + 1) (q4 .u32 y)
  h : Box wr g (hv x P t)
  T : Tab wr
theorem Nk.next {w wr w' : World} {g : Nat} {x y : Q4} {P : List Int} {t : Nat} (h : Nk w wr g x y P t) (hb : Below wr.heap.size wr w') : Nk w w' g x y P t :=
  ⟨h.b.trans (hb.mono h.b.size), h.r.next hb, h.n.next hb, h.h.next hb, h.T.next hb⟩
theorem S0_lt (i : Nat) : S0.getD i 0 < 4294967296 := by
  by_cases h : i < 4
  · have hc : i = 0 ∨ i = 1 ∨ i = 2 ∨ i = 3 := by omega
    rcases hc with rfl | rfl | rfl | rfl <;> decide
  · have : S0.getD i 0 = 0 := by rw [List.getD_eq_getElem?_getD, List.getElem?_eq_none (by show 4 ≤ i; omega)]; rfl
    omega
set_option maxHeartbeats 1000000 in
theorem numbers_any (w : World) (T : Tab w) (g : Nat) (x : Q4) (P : List Int) (t : Nat) (hx : x.ok) (HB : Box w g (hv x P t)) :
    Calls Tryd.prog 44 #[.pointer (some ⟨g, 0, none⟩)] w fun e w' => e = .returned (.agg (q4 .u32 (add4 mdm.start x)).toArray) ∧ Below w.heap.size w w' := by
  have hgl := HB.lt
  have K0 : Hid (Nk w ((w.alloc (.cells (q4 .u32 ⟨0, 0, 0, 0⟩).toArray 32)).alloc (.cells (q4 .u32 (ns x 0)).toArray 32)) g x (ns x 0) P t) := hid (by
    have b1 := (Below.refl w.heap.size w).alloc (Nat.le_refl _) (.cells (q4 .u32 ⟨0, 0, 0, 0⟩).toArray 32)
    have b2 := b1.alloc b1.size (.cells (q4 .u32 (ns x 0)).toArray 32)
    refine ⟨b2, (Box.made w _ _).next ((Below.refl _ _).alloc (Nat.le_refl _) _), ?_, HB.next b2, T.next b2⟩
    have := Box.made (w.alloc (.cells (q4 .u32 ⟨0, 0, 0, 0⟩).toArray 32)) (q4 .u32 (ns x 0)).toArray 32; simp only [World.size_alloc] at this; exact this)
  have HX := hid hx
  have HT := hid T.lt
  clear T HB hx
  go_enter Tryd.func44, Tryd.ntmps44
  go_wp2_with fail
  change Code.wp _ _ _ _ ((w.alloc (.cells (q4 .u32 ⟨0, 0, 0, 0⟩).toArray 32)).alloc (.cells (q4 .u32 (ns x 0)).toArray 32))
  generalize (w.alloc (.cells (q4 .u32 ⟨0, 0, 0, 0⟩).toArray 32)).alloc (.cells (q4 .u32 (ns x 0)).toArray 32) = W at *
  go_loopw [4, 5] (fun _ iv wr => ∃ i : Nat, i ≤ 4 ∧ iv = .int .i64 i ∧ Hid (Nk w wr g x (ns x i) P t)) (fun _ iv _ => 4 - (intOf iv).toNat)
  case atStart => exact ⟨0, by omega, rfl, K0⟩
  case round =>
    clear K0
    obtain ⟨i, hi, rfl, HK⟩ := hrel
    by_cases hlt : i < 4
    · have HNS := hid (ns_succ x i hlt)
      have y0 := HK.out.T.s i hlt
      have y1 := HK.out.h.at_ i _ (hv_add x P t i hlt)
      have z0 := After.cell y0
      have z1 := After.cell y1
      have k0 := S0_lt i
      have k1 := qv_lt HX.out i
      have q0 := q4u_at (ns x i) i hlt
      obtain ⟨u, hu⟩ : ∃ u, u = S0.getD i 0 := ⟨_, rfl⟩
      obtain ⟨v, hv⟩ : ∃ v, v = qv x i := ⟨_, rfl⟩
      rw [← hu] at y0 z0 k0 HNS
      rw [← hv] at y1 z1 k1 HNS
      clear hu hv
      have hw1 : IntKind.u32.wrap ((u : Int) + v) = (((u + v) % 4294967296 : Nat) : Int) := by rw [IntKind.wrap_u32]; omega
      obtain ⟨r, hr⟩ : ∃ r, r = (u + v) % 4294967296 := ⟨_, rfl⟩
      rw [← hr] at hw1 HNS
      clear hr
      go_upto_region 5 with fail
      refine wp_region_after_tail wr 11 (by kernel_rfl) (by kernel_rfl) ((Below.refl _ _).drew) ?_
      simp only [List.take_succ_cons, List.take_zero, List.drop_succ_cons, List.drop_zero]
      repeat (go_big_quiet_step (fail))
      refine wpQuiet_nil ?_
      intro w3 hw'
      obtain ⟨N3, e3⟩ := hw'
      have b3 : Below wr.heap.size wr w3 := by rw [e3]; exact N3.h
      clear e3 N3 z0 z1 y0 y1 hw1
      have k3 := HK.out.next b3
      have n0 := k3.n.at_ i _ q0
      have f0 := k3.n.fr i
      have K3 := hid k3
      clear k3 b3 HK q0
      go_wp2_with fail
      go_roundw
      case rel => exact ⟨i + 1, by omega, by go_num, hid ⟨K3.out.b.setCell (p := ⟨w.heap.size + 1, i, none⟩) (Nat.le_succ _) _, K3.out.r.other (by omega) _, by rw [← HNS.out]; exact K3.out.n.set i _, K3.out.h.other (by omega) _, K3.out.T.below (B := w.heap.size) ((Below.refl _ _).setCell (p := ⟨w.heap.size + 1, i, none⟩) (Nat.le_succ _) _) HT.out.1 HT.out.2.1 HT.out.2.2 (W := w)⟩⟩
      case measure => simp [intOf]; omega
    · have hi4 : i = 4 := by omega
      subst hi4
      have HA := hid (ns_4 x)
      obtain ⟨y, hy⟩ : ∃ y, y = ns x 4 := ⟨_, rfl⟩
      rw [← hy] at HK HA
      clear hy
      have y0 := HK.out.n.at_ 0 (.int .u32 (y.a : Nat)) rfl
      have y1 := HK.out.n.at_ 1 (.int .u32 (y.b : Nat)) rfl
      have y2 := HK.out.n.at_ 2 (.int .u32 (y.c : Nat)) rfl
      have y3 := HK.out.n.at_ 3 (.int .u32 (y.d : Nat)) rfl
      have u0 := HK.out.r.at_ 0 _ rfl
      have u1 := HK.out.r.at_ 1 _ rfl
      have u2 := HK.out.r.at_ 2 _ rfl
      have u3 := HK.out.r.at_ 3 _ rfl
      have f0 := HK.out.r.fr 0
      have f1 := HK.out.r.fr 1
      have f2 := HK.out.r.fr 2
      have f3 := HK.out.r.fr 3
      go_wp2_with fail
      obtain ⟨q0, q1, q2, q3⟩ := ret4 HK.out.r rfl (.int .u32 (y.a : Nat)) (.int .u32 (y.b : Nat)) (.int .u32 (y.c : Nat)) (.int .u32 (y.d : Nat))
      refine bodyPost_ret (v := .agg (q4 .u32 y).toArray) (by simp [results, Tryd.results44, go_sem, q0, q1, q2, q3, q4]) rfl ⟨by rw [HA.out], ?_⟩
      exact (((HK.out.b.setCell (p := ⟨w.heap.size, 0, none⟩) (Nat.le_refl _) _).setCell (p := ⟨w.heap.size, 1, none⟩) (Nat.le_refl _) _).setCell (p := ⟨w.heap.size, 2, none⟩) (Nat.le_refl _) _).setCell (p := ⟨w.heap.size, 3, none⟩) (Nat.le_refl _) _
end Go.Proofs.YtnfklhebcloolaaDoor.mdc
