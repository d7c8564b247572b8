/- catwalklaw01.BeBack answers true at every input, and leaves its arguments as they were. No condition. -/
import Derived.Test.YtecppfdfdabflaaRows
import Derived.WalkKit
import Derived.ProofKit
import Derived.OpenShut
import Derived.ShutString
import Derived.ChangeOld
import Derived.Below
import Derived.Test.YtecppfdfdabflaaBeLaw
import Derived.Deep.DeepCutAuto
import Derived.Deep.RegionHeld3
namespace Go.Proofs.Ytecppfdfdabflaa.beBack
open Go.ChangeShapes Go.WideShapes Go.ChangeAt Go.RowKit
open Go.ChangeMaps (open_string shut_string)
set_option linter.unusedVariables false

theorem own : ownKnob Try.prog.godebug = none := by kernel_rfl
theorem laidOut : laidOutB Try.prog = true := by kernel_rfl

/-- WHAT THE WALK IS TOLD OF A SLICE OF INTEGERS THAT CAME IN: it is nil; or it leads to a row of 'cap' cells, the numbers 'zs' (the first 'len' are its elements, the rest its spare room), each fitting its kind. -/
def IsRow (k : IntKind) (w : World) (a : Option Addr) (len cap : Nat) (zs : List Int) : Prop :=
  (a = none ∧ len = 0 ∧ cap = 0 ∧ zs = []) ∨
  ∃ x, a = some x ∧ len ≤ cap ∧ cap ≤ maxLen ∧ zs.length = cap ∧ (∀ i, i < zs.length → w.cell? (x.add i) = some (.int k (zs.getD i 0))) ∧ ∀ n ∈ zs, (Lit.int k n).wf = true

open Go.Proofs.Ytecppfdfdabflaa.kit Go.Proofs.Ytecppfdfdabflaa.bec
def piece (xs zs : List Int) (i : Nat) : List Int := beB (putLen (zs.getD i 0)) (xs.getD i 0)
/-- what so many numbers from one on are as bytes -/
def encF (xs zs : List Int) : Nat → Nat → List Int
  | _, 0 => []
  | s, c + 1 => piece xs zs s ++ encF xs zs (s + 1) c
theorem encF_snoc (xs zs : List Int) (s c : Nat) : encF xs zs s (c + 1) = encF xs zs s c ++ piece xs zs (s + c) := by
  induction c generalizing s with
  | zero => simp [encF]
  | succ c ih => rw [encF, ih (s + 1), encF, List.append_assoc, show s + 1 + c = s + (c + 1) by omega]
theorem putLen_le (z : Int) : putLen z ≤ 8 := by unfold putLen; split <;> omega
theorem encF_len (xs zs : List Int) (s c : Nat) : (encF xs zs s c).length ≤ 8 * c := by
  induction c generalizing s with
  | zero => simp [encF]
  | succ c ih => have := ih (s + 1); have h := putLen_le (zs.getD s 0); simp only [encF, List.length_append, piece, beB_len]; omega
theorem foldl_num (l : List Int) (a : Int) : l.foldl (fun n b => n * 256 + b) a = a * 256 ^ l.length + numB l := by
  induction l generalizing a with
  | nil => simp [numB]
  | cons x l ih =>
    have e : numB (x :: l) = x * 256 ^ l.length + numB l := by
      unfold numB; rw [List.foldl_cons]; rw [ih]; simp [numB]
    rw [List.foldl_cons, ih, e, List.length_cons, Int.pow_succ, Int.add_mul, Int.mul_assoc, Int.mul_comm 256, Int.add_assoc]
theorem numB_cons (x : Int) (l : List Int) : numB (x :: l) = x * 256 ^ l.length + numB l := by
  have := foldl_num (x :: l) 0
  unfold numB at *
  rw [List.foldl_cons, foldl_num]; simp [numB]
theorem numB_beB (s : Nat) (x : Int) : numB (beB s x) = x % 256 ^ s := by
  induction s with
  | zero => simp [beB, numB, Int.emod_one]
  | succ s ih =>
    have hp : (0 : Int) < 256 ^ s := Int.pow_pos (by decide)
    rw [beB, numB_cons, beB_len, ih, Int.pow_succ]
    have h1 := Int.emod_def x (256 ^ s * 256)
    have h2 := Int.emod_def x (256 ^ s)
    have h3 := Int.emod_def (x / 256 ^ s) 256
    have h4 : x / (256 ^ s * 256) = x / 256 ^ s / 256 := by rw [Int.ediv_ediv_of_nonneg (by omega)]
    rw [h1, h2, h3, h4]
    generalize x / 256 ^ s = q at *
    generalize (256 : Int) ^ s = p at *
    rw [Int.sub_mul, Int.mul_comm q p, Int.mul_comm (256 * (q / 256)) p, Int.mul_assoc p 256]
    omega
theorem beB_byt (s : Nat) (x : Int) : Byt (beB s x) := by
  induction s with
  | zero => intro y hy; cases hy
  | succ s ih =>
    intro y hy
    rcases List.mem_cons.1 hy with h | h
    · subst h; omega
    · exact ih y h
theorem encF_byt (xs zs : List Int) (s c : Nat) : Byt (encF xs zs s c) := by
  induction c generalizing s with
  | zero => intro y hy; cases hy
  | succ c ih =>
    intro y hy
    rcases List.mem_append.1 hy with h | h
    · exact beB_byt _ _ y h
    · exact ih _ y h
/-- reading what was put -/
theorem back (z : Nat) (x : Int) (l : List Int) (h1 : 1 ≤ z) (h8 : z ≤ 8) : okN false (beB z x ++ l) z = true ∧ valN false (beB z x ++ l) z = x % 256 ^ z ∧ leftN false (beB z x ++ l) z = l := by
  have e : okN false (beB z x ++ l) z = true := by unfold okN okR; simp [beB_len]; omega
  have t : (beB z x ++ l).take z = beB z x := List.take_left' (beB_len z x)
  have d : (beB z x ++ l).drop z = l := List.drop_left' (beB_len z x)
  refine ⟨e, ?_, ?_⟩
  · unfold valN; rw [e]; simp [t, numB_beB]
  · unfold leftN; rw [e]; simp [d]
theorem encF_step (xs zs : List Int) (i k : Nat) (h : i < k) : encF xs zs i (k - i) = piece xs zs i ++ encF xs zs (i + 1) (k - (i + 1)) := by
  obtain ⟨d, hd⟩ : ∃ d, k - i = d + 1 := ⟨k - i - 1, by omega⟩
  rw [hd, encF, show k - (i + 1) = d by omega]
theorem pow_bd {m : Nat} (h : m ≤ 7) : (1 : Int) ≤ 256 ^ m ∧ (256 : Int) ^ m ≤ 72057594037927936 := by
  have hc : m = 0 ∨ m = 1 ∨ m = 2 ∨ m = 3 ∨ m = 4 ∨ m = 5 ∨ m = 6 ∨ m = 7 := by omega
  rcases hc with rfl | rfl | rfl | rfl | rfl | rfl | rfl | rfl
  all_goals decide
theorem two_pow_bytes {m : Nat} (h : m ≤ 7) : IntKind.u64.wrap (2 ^ (8 * m)) = 256 ^ m := by
  have hb := pow_bd h
  have e : (2 : Int) ^ (8 * m) = 256 ^ m := by rw [Int.pow_mul]; rfl
  rw [e]
  exact IntWalk.u64_in _ (by omega)
theorem mod8 {x : Int} (h : 0 ≤ x ∧ x ≤ 18446744073709551615) : x % 256 ^ (8 : Int).toNat = x := by
  have e : (256 : Int) ^ (8 : Int).toNat = 18446744073709551616 := by decide
  rw [e]; omega
/-- what holds at each round's head of the reading -/
def Rel2 (xs zs : List Int) (g B k i : Nat) (w w2 : World) : Prop := RdrAt w2 g g false (encF xs zs i (k - i)) ∧ Below B w w2 ∧ B ≤ g
theorem Rel2.skip {xs zs : List Int} {g B k i : Nat} {w w2 : World} (h : Rel2 xs zs g B k i w w2) (hi : i < k) (hz : ¬ (1 ≤ zs.getD i 0 ∧ zs.getD i 0 ≤ 8)) : Rel2 xs zs g B k (i + 1) w w2 := by
  have e : piece xs zs i = [] := by unfold piece putLen; rw [if_neg hz]; rfl
  have := h.1
  rw [encF_step xs zs i k hi, e, List.nil_append] at this
  exact ⟨this, h.2⟩
theorem Rel2.read {xs zs : List Int} {g B k i : Nat} {w w2 w3 : World} {x y z : Int} (h : Rel2 xs zs g B k i w w2) (hi : i < k) (hx : x = xs.getD i 0) (hz : z = zs.getD i 0) (h1 : 1 ≤ z ∧ z ≤ 8)
    (hp : NumPost g g false (encF xs zs i (k - i)) z w2 y w3) : y = x % 256 ^ z.toNat ∧ Rel2 xs zs g B k (i + 1) w w3 := by
  obtain ⟨m, rfl⟩ : ∃ m : Nat, z = m := ⟨z.toNat, by omega⟩
  obtain ⟨p1, p2, p3⟩ := hp
  have e : piece xs zs i = beB m x := by unfold piece putLen; rw [← hz, if_pos h1, ← hx]; rfl
  obtain ⟨b1, b2, b3⟩ := back m x (encF xs zs (i + 1) (k - (i + 1))) (by omega) (by omega)
  rw [encF_step xs zs i k hi, e] at p1 p2
  rw [b2] at p1
  rw [b1, b3] at p2
  exact ⟨p1, p2, gb_below h.2.1 p3 (by have := h.1.lt; have := h.2.2; omega) h.2.2, h.2.2⟩


/-! ### STEP 1: THE WALK: the Go text returns true, AND WRITES NOTHING THAT WAS THERE: 'Below w.heap.size w w'' (Derived/Below.lean: '.refl', '.alloc', '.drew', '.setCell' at a new block, '.trans'). Open each 'IsRow' by 'rcases' AHEAD of 'go_enter'; part every test ahead of the walk. -/
set_option maxHeartbeats 4000000 in
theorem walk (a0 : Option Addr) (len0 cap0 : Nat) (z0 : List Int) (a1 : Option Addr) (len1 cap1 : Nat) (z1 : List Int) (w : World) (w0 : IsRow .u64 w a0 len0 cap0 z0) (w1 : IsRow .i64 w a1 len1 cap1 z1) :
    Calls Try.prog 5 #[.slice a0 len0 cap0, .slice a1 len1 cap1] w fun e w' => e = .returned (.bool true) ∧ Below w.heap.size w w' := by
  obtain ⟨xs, hX, hxw⟩ := row_nums w0
  obtain ⟨zs, hZ, hzw⟩ := row_nums w1
  clear w0 w1
  have hx3 := hX.len
  have hx4 := hX.le
  have hx5 := hX.max
  have hz3 := hZ.len
  have hz4 := hZ.le
  have hz5 := hZ.max
  unfold maxLen at hx5 hz5
  by_cases hbig : 100 < len0
  · clear hX hZ hxw hzw hx3 hz3
    go_enter Try.func5, Try.ntmps5
    go_wp2
    go_ret
    exact ⟨rfl, Below.refl _ _⟩
  · have XC := hid hX.cells
    have ZC := hid hZ.cells
    have X3 := hid hx3
    have Z3 := hid hz3
    have XW := hid hxw
    have ZW := hid hzw
    clear hX hZ hx3 hz3 hxw hzw
    go_enter Try.func5, Try.ntmps5
    go_wp2
    go_loopw [5, 6] (fun bv iv wr => ∃ k a n c, k ≤ len0 ∧ k ≤ len1 ∧ iv = .int .i64 (k : Nat) ∧ bv = .slice a n c ∧ Nums .u8 wr wr.heap.size a n c (encF xs zs 0 k) ∧ Below w.heap.size w wr) (fun _ iv _ => len0 - (intOf iv).toNat)
    case atStart => exact ⟨0, none, 0, 0, Nat.zero_le _, Nat.zero_le _, rfl, rfl, Nums.empty (Nat.zero_le _) (fun _ => rfl), Below.refl _ _⟩
    case round =>
      obtain ⟨k, a, n, c, hk0, hk1, rfl, rfl, hN, hb⟩ := hrel
      have hN8 : n ≤ 800 := by have := hN.len; have := encF_len xs zs 0 k; omega
      have HN := hid hN
      clear hN
      by_cases hlt : k < len0 ∧ k < len1
      · obtain ⟨hl0, hl1⟩ := hlt
        obtain ⟨b0, o0, ha0, hb0, hs0, hc0⟩ := XC.out (by omega)
        obtain ⟨b1, o1, ha1, hb1, hs1, hc1⟩ := ZC.out (by omega)
        subst ha0 ha1
        have hcx : wr.cell? ⟨b0, o0 + k, none⟩ = some (.int .u64 (xs.getD k 0)) := (hb.cell (by exact hb0)).trans (hc0 k hl0)
        have hcz : wr.cell? ⟨b1, o1 + k, none⟩ = some (.int .i64 (zs.getD k 0)) := (hb.cell (by exact hb1)).trans (hc1 k hl1)
        have hxb := wf_u64 (XW.out (xs.getD k 0) (by rw [List.getD_eq_getElem?_getD, List.getElem?_eq_getElem (by rw [X3.out]; omega)]; exact List.getElem_mem _))
        clear hc0 hc1 XC ZC
        obtain ⟨x, hx⟩ : ∃ x, x = xs.getD k 0 := ⟨_, rfl⟩
        obtain ⟨z, hz⟩ : ∃ z, z = zs.getD k 0 := ⟨_, rfl⟩
        rw [← hx] at hcx hxb
        rw [← hz] at hcz
        have HP : Hid (piece xs zs k = beB (putLen z) x) := by unfold piece; rw [hx, hz]; exact rfl
        clear hx hz
        go_wp2_with fail
        go_region_held3 (fun w' => w'.cell? ⟨b0, o0 + k, none⟩ = some (.int .u64 x) ∧ w'.cell? ⟨b1, o1 + k, none⟩ = some (.int .i64 z)) (first | exact ⟨hcx, hcz⟩ | exact ⟨(hg.cell (by exact Nat.lt_of_lt_of_le hb0 hb.size)).trans hcx, (hg.cell (by exact Nat.lt_of_lt_of_le hb1 hb.size)).trans hcz⟩ | go_keep) (first | (go_at_call 16; go_loud (refine (put_any _ HN.out.drew (by omega) (Nat.le_refl _) x hxb.1 hxb.2 z).mono ?_); go_loud (rintro e w1 ⟨a', c', rfl, h1, hg⟩)))
        go_wp2_with fail
        go_roundw
        case rel => exact ⟨k + 1, a', _, c', by omega, by omega, by go_num, rfl, by rw [encF_snoc, Nat.zero_add, HP.out]; exact own_nums h1, hb.drew.trans (Below.mono hg (by exact hb.size))⟩
        case measure => simp [intOf]; omega
      · have hcase : (len0 ≤ k) ∨ (k < len0 ∧ len1 ≤ k) := by omega
        clear hlt
        have hM := RdrAt.made (e := 75) HN.out
        have hR0 : Rel2 xs zs wr.heap.size w.heap.size k 0 w (wr.alloc (.cells #[.slice a n c, .bool false] 75)) := ⟨hM, hb.alloc hb.size _, hb.size⟩
        clear hM HN
        have hbs := hb.size
        obtain ⟨wo, rfl⟩ : ∃ wo : World, wo = wr := ⟨_, rfl⟩
        rcases hcase with hA | hA
        all_goals
          go_wp2_with (go_at_call 21; refine (new_any _ _ _ _).mono ?_; rintro e w1 ⟨rfl, rfl⟩)
          go_loopw [8] (fun iv w2 => ∃ i : Nat, i ≤ k ∧ iv = .int .i64 i ∧ Rel2 xs zs wo.heap.size w.heap.size k i w w2) (fun iv _ => k - (intOf iv).toNat)
          case atStart => exact ⟨0, Nat.zero_le _, rfl, hR0⟩
          case round =>
            clear hR0
            obtain ⟨i, hi, rfl, hR⟩ := hrel
            by_cases hik : i < k
            · obtain ⟨b0, o0, ha0, hb0, hs0, hc0⟩ := XC.out (by omega)
              obtain ⟨b1, o1, ha1, hb1, hs1, hc1⟩ := ZC.out (by omega)
              subst ha0 ha1
              have hcx : wr.cell? ⟨b0, o0 + i, none⟩ = some (.int .u64 (xs.getD i 0)) := (hR.2.1.cell (by exact hb0)).trans (hc0 i (by omega))
              have hcz : wr.cell? ⟨b1, o1 + i, none⟩ = some (.int .i64 (zs.getD i 0)) := (hR.2.1.cell (by exact hb1)).trans (hc1 i (by omega))
              have hxb := wf_u64 (XW.out (xs.getD i 0) (by rw [List.getD_eq_getElem?_getD, List.getElem?_eq_getElem (by rw [X3.out]; omega)]; exact List.getElem_mem _))
              clear hc0 hc1 XC ZC
              obtain ⟨x, hx⟩ : ∃ x, x = xs.getD i 0 := ⟨_, rfl⟩
              obtain ⟨z, hz⟩ : ∃ z, z = zs.getD i 0 := ⟨_, rfl⟩
              rw [← hx] at hcx hxb
              rw [← hz] at hcz
              have HX := hid hx
              have HZ := hid hz
              clear hx hz
              have HR := hid hR
              clear hR
              by_cases hz1 : z < 1
              · go_wp2_with fail
                go_roundw
                case rel => exact ⟨i + 1, by omega, by go_num, HR.out.skip hik (by rw [← HZ.out]; omega)⟩
                case measure => simp [intOf]; omega
              · by_cases hz8 : 8 < z
                · go_wp2_with fail
                  go_roundw
                  case rel => exact ⟨i + 1, by omega, by go_num, HR.out.skip hik (by rw [← HZ.out]; omega)⟩
                  case measure => simp [intOf]; omega
                · by_cases hz7 : z < 8
                  · obtain ⟨P, hP⟩ : ∃ P : Int, P = 256 ^ z.toNat := ⟨_, rfl⟩
                    have hP1 : 1 ≤ P ∧ P ≤ 72057594037927936 := by rw [hP]; exact pow_bd (by omega)
                    have he : IntKind.u64.wrap (2 ^ (8 * z).toNat) = P := by
                      rw [show (8 * z).toNat = 8 * z.toNat by omega, two_pow_bytes (by omega), hP]
                    have HP := hid hP
                    clear hP
                    go_wp2_with (go_at_call 25; go_loud (refine (num_any _ wo.heap.size wo.heap.size false _ z HR.out.1 (encF_byt _ _ _ _)).mono ?_); go_loud (rintro e wb ⟨y, rfl, hp⟩); obtain ⟨hy, hr2⟩ := HR.out.read hik HX.out HZ.out (by omega) hp; rw [← HP.out] at hy; clear hp; have HR2 := hid hr2; clear hr2)
                    go_roundw
                    case rel => exact ⟨i + 1, by omega, by go_num, HR2.out⟩
                    case measure => simp [intOf]; omega
                  · obtain rfl : z = 8 := by omega
                    go_wp2_with (go_at_call 25; go_loud (refine (num_any _ wo.heap.size wo.heap.size false _ 8 HR.out.1 (encF_byt _ _ _ _)).mono ?_); go_loud (rintro e wb ⟨y, rfl, hp⟩); obtain ⟨hy8, hr2⟩ := HR.out.read hik HX.out HZ.out (by omega) hp; have hy : y = x := hy8.trans (mod8 hxb); clear hp hy8; have HR2 := hid hr2; clear hr2)
                    go_roundw
                    case rel => exact ⟨i + 1, by omega, by go_num, HR2.out⟩
                    case measure => simp [intOf]; omega
            · have e0 : k - i = 0 := by omega
              have hR1 := hR.1
              rw [e0] at hR1
              have hR2 := hR.2
              have HR1 := hid hR1
              clear hR hR1
              go_wp2_with (first | (go_at_call 23; go_loud (refine (left_any _ wo.heap.size wo.heap.size false [] HR1.out).mono ?_); go_loud (rintro e wa ⟨rfl, rfl⟩)) | (go_at_call 24; go_loud (refine (bad_any _ wo.heap.size wo.heap.size false [] HR1.out).mono ?_); go_loud (rintro e wa ⟨rfl, rfl⟩)) | (go_at_call 20; go_loud (refine (alive_any _).mono ?_); go_loud (rintro e wa ⟨rfl, h11⟩)))
              go_ret
              exact ⟨rfl, hR2.1.trans (h11.mono hR2.1.size)⟩

/-! ### THE ROW's STEP: WRITTEN OUT: LEAVE IT -/
set_option maxRecDepth 100000 in
theorem lifted (os : Os) (started : os.Started) (H : Type) (enc : TypeId × Value → H) :
    ReturnsInHanded {} Try.checked os 5 .any (Rows.beBackSpec.pre6 enc Try.prog Try.f5 Rows.beBackRow.domain false) (Rows.beBackSpec.post enc Try.prog Try.f5 false true false false) := by
  refine returnsInHanded_of_change (C := Try.checked) own started (by kernel_rfl) Try.func5
    (ChangeSpec.witness6 (enc := enc) (C := Try.checked) false ⟨#[], #[.slice none 0 0, .slice none 0 0], []⟩ 8 (by kernel_rfl) (by kernel_rfl) (by kernel_rfl) (by kernel_rfl)) ?_
  intro W base args ds gs before hval0 hW hcnd _
  have hval : ∀ (j : Nat) t v, Try.f5.params[j]? = some t → args[j]? = some v → Value.okWide Try.prog W .any base t v := hval0
  have hW' := hW
  obtain ⟨p, q, hA0, hV, rfl, hfz, hnd⟩ := hW
  have hA : DataW.TrodAll enc Try.prog W 0 (fun _ => true) true Try.f5.params.toList args.toList ds p := hA0
  rw [Try.params5] at hA hval
  obtain ⟨v0, vs0, d0, ds0, p0, q0, hargs, rfl, rfl, h0, r0⟩ := trodAll_cons hA
  obtain ⟨v1, vs1, d1, ds1, p1, q1, rfl, rfl, rfl, h1, r1⟩ := trodAll_cons r0
  obtain ⟨rfl, rfl, rfl⟩ := trodAll_nil r1
  obtain rfl : args = #[v0, v1] := by cases args; simp_all
  obtain ⟨rfl, rfl⟩ := trodVars_none hV
  obtain ⟨a0, len0, cap0, rfl⟩ := okWide_slice Try.underlying48 (hval 0 48 v0 rfl rfl)
  have k0 := h0
  have lt0 : ∀ x ∈ p0, x.block < W.heap.size := by obtain ⟨m, hm⟩ := k0; exact DataW.trod_lt m _ _ _ hm
  obtain ⟨z0, w0⟩ : ∃ zs, IsRow .u64 W a0 len0 cap0 zs := by
    obtain ⟨fuel, hf⟩ := h0
    rcases open_ints Try.underlying48 Try.underlying23 (by kernel_rfl) hf with ⟨hcs, _⟩ | ⟨x, l, c, zs, hcs, _, hl, hm, hz, _, hcell, hwz⟩
    · simp [Value.cells] at hcs
      obtain ⟨rfl, rfl, rfl⟩ := hcs
      exact ⟨[], .inl ⟨rfl, rfl, rfl, rfl⟩⟩
    · simp [Value.cells] at hcs
      obtain ⟨rfl, rfl, rfl⟩ := hcs
      exact ⟨zs, .inr ⟨_, rfl, hl, hm, by simpa using hz, hcell, hwz⟩⟩
  obtain ⟨a1, len1, cap1, rfl⟩ := okWide_slice Try.underlying49 (hval 1 49 v1 rfl rfl)
  have k1 := h1
  have lt1 : ∀ x ∈ p1, x.block < W.heap.size := by obtain ⟨m, hm⟩ := k1; exact DataW.trod_lt m _ _ _ hm
  obtain ⟨z1, w1⟩ : ∃ zs, IsRow .i64 W a1 len1 cap1 zs := by
    obtain ⟨fuel, hf⟩ := h1
    rcases open_ints Try.underlying49 Try.underlying3 (by kernel_rfl) hf with ⟨hcs, _⟩ | ⟨x, l, c, zs, hcs, _, hl, hm, hz, _, hcell, hwz⟩
    · simp [Value.cells] at hcs
      obtain ⟨rfl, rfl, rfl⟩ := hcs
      exact ⟨[], .inl ⟨rfl, rfl, rfl, rfl⟩⟩
    · simp [Value.cells] at hcs
      obtain ⟨rfl, rfl, rfl⟩ := hcs
      exact ⟨zs, .inr ⟨_, rfl, hl, hm, by simpa using hz, hcell, hwz⟩⟩
  clear hA0 hval0
  refine (walk a0 len0 cap0 z0 a1 len1 cap1 z1 W w0 w1).mono fun e W' ⟨he, bel⟩ => ?_
  subst he
  exact ⟨_, rfl, _, _, _, [], _, [], hW', trodAll_mk1 (shut_bool Try.underlying4 _), (trodAll_cons_mk (Below.trod laidOut (by kernel_rfl) (of_decide_eq_true (by kernel_rfl)) k0 bel lt0) (trodAll_cons_mk (Below.trod laidOut (by kernel_rfl) (of_decide_eq_true (by kernel_rfl)) k1 bel lt1) trodAll_mk0)), rfl, bel.frame _, fun h => by cases h⟩

theorem over : Rows.beBackRow.holds Try.pinned (OpenSpec.ofChange Rows.beBackSpec) :=
  OpenClaim.holds_of_wide 5 Try.f5 rfl rfl rfl rfl rfl rfl rfl ⟨rfl, rfl, rfl, rfl, rfl⟩ rfl rfl rfl rfl rfl (by kernel_rfl) Try.func5 (by kernel_rfl)
    (of_decide_eq_true (by kernel_rfl)) (by unfold Func.isWrapper; first | (rw [if_pos (by decide +kernel)]; kernel_rfl) | (rw [if_neg (by decide +kernel)]; exact ⟨rfl, rfl⟩))
    (fun os started H enc _ => lifted os started H enc)

/-- ████ THE STATEMENT ████ -/
theorem proved : Rows.BeBackSaid := over
end Go.Proofs.Ytecppfdfdabflaa.beBack
