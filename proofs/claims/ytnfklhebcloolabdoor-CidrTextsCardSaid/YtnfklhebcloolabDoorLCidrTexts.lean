/- catwalk's catwalklaw26.CidrTexts answers true at every input, and leaves its arguments as they were. No condition. -/
import Derived.Test.YtnfklhebcloolabDoorRows
import Derived.WalkKit
import Derived.ProofKit
import Derived.OpenShut
import Derived.ShutString
import Derived.ChangeOld
import Derived.Below
import Derived.Test.YtnfklhebcloolabDoorTie
import Derived.Test.YtnfklhebcloolabDoorCards
import Derived.LaidMore
import Derived.LaidLaws
import Derived.Stop.Joined
import Derived.SevenTiedAt
import Derived.Lay
import Derived.Test.YtnfklhebcloolabDoorCiLaid
import Derived.Test.YtnfklhebcloolabDoorCiT
import Derived.Test.YtnfklhebcloolabDoorDoorS
import Derived.Test.YtnfklhebcloolabDoorOpen
import Derived.Deep.DeepCutAuto
import Derived.Lib.LaidTab
namespace Go.Proofs.YtnfklhebcloolabDoor.cidrTexts
open Go.ChangeShapes Go.WideShapes Go.ChangeAt Go.RowKit
open Go.ChangeMaps (open_string shut_string)
set_option linter.unusedVariables false

theorem own : ownKnob Tryd.prog.godebug = none := by kernel_rfl
theorem laidOut : laidOutB Tryd.prog = true := by kernel_rfl

open Go.Proofs.YtnfklhebcloolabDoor.kit Go.Proofs.YtnfklhebcloolabDoor.cim Go.Proofs.YtnfklhebcloolabDoor.cic Go.Proofs.YtnfklhebcloolabDoor.adc Go.Proofs.YtnfklhebcloolabDoor.nmc Go.Proofs.YtnfklhebcloolabDoor.nmm Go.Proofs.YtnfklhebcloolabDoor.spc
theorem laid_texts {W : World} (h : laidMetH Tryd.prog Rows.cidrTextsRow.laid W) : cic.Tab W ∧ LaidF W := by
  rw [MakeChecks.laidMetH_plain _ _ _ (by kernel_rfl)] at h
  obtain ⟨ps, ⟨g0, t0, cs0, f0, p0, q0, hg0, ht0, hv0, hd0, ⟨g1, t1, cs1, f1, p1, q1, hg1, ht1, hv1, hd1, ⟨g2, t2, cs2, f2, p2, q2, hg2, ht2, hv2, hd2, ⟨g3, t3, cs3, f3, p3, q3, hg3, ht3, hv3, hd3, ⟨g4, t4, cs4, f4, p4, q4, hg4, ht4, hv4, hd4, ⟨g5, t5, cs5, f5, p5, q5, hg5, ht5, hv5, hd5, _, _⟩, _⟩, _⟩, _⟩, _⟩, _⟩, _, _⟩ := h
  have e2 : Tryd.prog.globalNamed "internal/strconv.uint64pow10" = some 4 := by kernel_rfl
  have e3 : Tryd.prog.globalNamed "strconv.ErrRange" = some 3 := by kernel_rfl
  have e4 : Tryd.prog.globalNamed "strconv.ErrSyntax" = some 2 := by kernel_rfl
  obtain rfl := Option.some.inj (e2.symm.trans hg2)
  obtain rfl := Option.some.inj (e3.symm.trans hg4)
  obtain rfl := Option.some.inj (e4.symm.trans hg5)
  have u2 : (Tryd.prog.globals[4]?).map (·.type) = some 164 := by kernel_rfl
  have u3 : (Tryd.prog.globals[3]?).map (·.type) = some 87 := by kernel_rfl
  have u4 : (Tryd.prog.globals[2]?).map (·.type) = some 87 := by kernel_rfl
  obtain rfl := Option.some.inj (u2.symm.trans ht2)
  obtain rfl := Option.some.inj (u3.symm.trans ht4)
  obtain rfl := Option.some.inj (u4.symm.trans ht5)
  have c2 : cs2 = (Lib.pow10Tab.map fun z => Value.int .u64 z).toArray := by
    have hd : DataW.trod _ Tryd.prog W 0 _ false f2 164 cs2.toList = some (Lib.tabData .u64 Lib.pow10Tab, p2) := hd2
    have := Lib.cells_of_tab Tryd.underlying164 Tryd.underlying55 (by kernel_rfl) (by kernel_rfl) hd
    rw [← this]
  obtain ⟨_, tp3, v3, c3, _, _⟩ := iface_of_trod Tryd.underlying87 hd4
  obtain ⟨_, tp4, v4, c4, _, _⟩ := iface_of_trod Tryd.underlying87 hd5
  refine ⟨(laid_tab hg1 ht1 hv1 hd1).1, ?_, ⟨tp4, v4, ?_⟩, ⟨tp3, v3, ?_⟩⟩
  · unfold Lib.TabIs; rw [← c2]; exact hv2
  · have : cs5 = #[.iface tp4 v4] := by cases cs5; simp at c4; rw [c4]
    rw [← this]; exact hv5
  · have : cs4 = #[.iface tp3 v3] := by cases cs4; simp at c3; rw [c3]
    rw [← this]; exact hv4
theorem max_cell {w : World} (hS : w.ShapedOpen Tryd.prog) : ∃ m, w.cell? ⟨1, 0, none⟩ = some (.int .i64 m) :=
  Go.Proofs.cell_of_shapedOpen_int (zero := #[.int .i64 0]) (t := 3) hS (of_decide_eq_true (by kernel_rfl)) (by kernel_rfl) rfl (by kernel_rfl) (by kernel_rfl) Tryd.underlying3

set_option maxHeartbeats 4000000 in
set_option maxRecDepth 100000 in
/-- the walk: true, and nothing that was there has turned -/
theorem walk {H : Type} {enc : TypeId × Value → H} {base : Nat} (v0 : Value) (d0 : DataW H) (p0 : List MemPlace) (a1 : ByteArray) (w : World) (w0 : DataW.Trod enc Tryd.prog w 0 (fun _ => true) true 25 v0 d0 p0) (o0 : Value.okWide Tryd.prog w .any base 25 v0) (w1 : a1.size ≤ maxLen) (hS : w.ShapedOpen Tryd.prog) (hL : laidMetH Tryd.prog Rows.cidrTextsRow.laid w) :
    Calls Tryd.prog 6 #[v0, .string a1] w fun e w' => e = .returned (.bool true) ∧ Below w.heap.size w w' := by
  obtain ⟨T, L⟩ := laid_texts hL
  obtain ⟨m, hm⟩ := max_cell hS
  clear hL hS
  obtain ⟨cs0, n0, y0, rfl, hsz0, hy0⟩ := open_struct Tryd.underlying25 o0 w0
  obtain ⟨a0, hf0, ha0⟩ := field_int Tryd.underlying25 hy0 0 _ rfl Tryd.underlying23 (by kernel_rfl)
  obtain ⟨b, hf1, hb⟩ := field_int Tryd.underlying25 hy0 1 _ rfl Tryd.underlying3 (by kernel_rfl)
  obtain rfl := agg2 (hsz0.trans (by kernel_rfl)) hf0 hf1
  obtain ⟨a, rfl⟩ : ∃ a : Nat, a0 = a := ⟨a0.toNat, by have := wf_u32 ha0; omega⟩
  have hal : a ≤ 4294967295 := by have := wf_u32 ha0; omega
  have hbi := wf_i64 hb
  clear w0 o0 hf0 hf1 hy0 hsz0 ha0 hb
  unfold maxLen at w1
  by_cases hbig : 100 < a1.size
  · have hbg : 100 < (a1.size : Int) := by omega
    clear T L hm
    go_enter Tryd.func6, Tryd.ntmps6
    go_wp2
    go_ret
    exact ⟨rfl, (Below.refl _ _).alloc (Nat.le_refl _) _⟩
  · have hbg : ¬ 100 < (a1.size : Int) := by omega
    have CR := hid (fun (s : ByteArray) (hs : s.size ≤ 1000) (M : World) (h : Below w.heap.size w M) => cread_any s hs m M (keep_cell h hm) (L.next h))
    have KT := hid (fun (M : World) (h : Below w.heap.size w M) => ctext_any a b hal hbi.1 hbi.2 M (L.next h))
    have KT2 := hid (fun (M : World) => rctext_any a b hal hbi.2 M)
    have KRi := hid (fun (M : World) => rright_any a b (by omega) M)
    have KA := hid (fun (M : World) (h : Below w.heap.size w M) => alive_any M (T.next h))
    have hts : (pfT a b).size ≤ 1000 := by
      have h1 : (addrT a).data.toList.length ≤ 15 := by
        rw [addr_list]
        have h0 := dec_len _ 3 (by decide) (show by_ a 0 < 10 ^ 3 by have := by_lt a 0; omega)
        have h1 := dec_len _ 3 (by decide) (show by_ a 1 < 10 ^ 3 by have := by_lt a 1; omega)
        have h2 := dec_len _ 3 (by decide) (show by_ a 2 < 10 ^ 3 by have := by_lt a 2; omega)
        have h3 := dec_len _ 3 (by decide) (show by_ a 3 < 10 ^ 3 by have := by_lt a 3; omega)
        simp only [List.length_append, List.length_cons]
        omega
      have h2 := decS_size b.toNat (by omega)
      have e : (pfT a b).size = (pfT a b).data.toList.length := rfl
      have e2 : (pfT a b).data.toList = (addrT a).data.toList ++ ([47] ++ (decS b.toNat).data.toList) := by unfold pfT; simp
      have e3 : (decS b.toNat).data.toList.length = (decS b.toNat).size := rfl
      have e5 : ([47] : List UInt8).length = 1 := rfl
      rw [e, e2, List.length_append, List.length_append, e3, e5]
      omega
    -- what is read of s
    have hS2 : ∃ (qa qn : Nat) (e : Int) (ok : Bool), ((e = 0 ∧ ok = true) ∨ (e = 11 ∧ ok = false)) ∧ (∀ M, Below w.heap.size w M → Calls Tryd.prog 22 #[.string a1] M fun x w' => x = .returned (.tuple #[pf qa (qn : Nat), .int .i64 e]) ∧ Below M.heap.size M w') ∧ (∀ M, Calls Tryd.prog 23 #[.string a1] M fun x w' => x = .returned (.tuple #[pf qa (qn : Nat), .bool ok]) ∧ Below M.heap.size M w') := by
      by_cases hP : ∃ a n, Pfx a1.data.toList a n
      · obtain ⟨qa, qn, hp⟩ := hP
        exact ⟨qa, qn, 0, true, .inl ⟨rfl, rfl⟩, fun M h => (CR.out a1 (by omega) M h).mono fun x w' k => pfx_yes k hp, fun M => (rcread_any a1 (by omega) M).mono fun x w' k => pfx_yes k hp⟩
      · exact ⟨0, 0, 11, false, .inr ⟨rfl, rfl⟩, fun M h => (CR.out a1 (by omega) M h).mono fun x w' k => pfx_not k hP, fun M => (rcread_any a1 (by omega) M).mono fun x w' k => pfx_not k hP⟩
    obtain ⟨qa, qn, e, ok, HEO, KR, KR2⟩ := hS2
    -- what is read of the text
    have hB2 : ∃ (ra rn : Nat) (re : Int), (rightB a b = true → ra = a ∧ ((rn : Nat) : Int) = b ∧ re = 0) ∧ (∀ M, Below w.heap.size w M → Calls Tryd.prog 22 #[.string (pfT a b)] M fun x w' => x = .returned (.tuple #[pf ra (rn : Nat), .int .i64 re]) ∧ Below M.heap.size M w') := by
      by_cases hP : ∃ a' n, Pfx (pfT a b).data.toList a' n
      · obtain ⟨ra, rn, hp⟩ := hP
        refine ⟨ra, rn, 0, fun hr => ?_, fun M h => (CR.out _ hts M h).mono fun x w' k => pfx_yes k hp⟩
        obtain ⟨n, rfl, hn⟩ := right_nat hr
        obtain ⟨h1, h2⟩ := pfx_same hp (pfx_text hal hn hr)
        exact ⟨h1, by rw [h2], rfl⟩
      · refine ⟨0, 0, 11, fun hr => ?_, fun M h => (CR.out _ hts M h).mono fun x w' k => pfx_not k hP⟩
        obtain ⟨n, rfl, hn⟩ := right_nat hr
        exact absurd ⟨a, n, pfx_text hal hn hr⟩ hP
    obtain ⟨ra, rn, re, HRB, KB⟩ := hB2
    have HRB := hid HRB
    have KR := hid KR
    have KR2 := hid KR2
    have KB := hid KB
    have BX := hid (boxed w a b)
    have E1 : ∀ M : World, (Op.equalIn 10000 25 (.agg #[.int .u32 (qa : Nat), .int .i64 (qn : Nat)]) (.agg #[.int .u32 (qa : Nat), .int .i64 (qn : Nat)])).run Tryd.prog M = .ok true M := fun M => (pf_eq _ _ _ _ M).trans (by simp)
    have G1 : Tryd.prog.eqGuardType Tryd.prog.depth 25 = false := by kernel_rfl
    generalize pfT a b = t at *
    obtain ⟨r, hr⟩ : ∃ r, r = rightB a b := ⟨_, rfl⟩
    rw [← hr] at KRi HRB
    unfold pf at *
    clear hr T L hm CR hts hbi hbig w1
    rcases HEO with ⟨rfl, rfl⟩ | ⟨rfl, rfl⟩
    all_goals
      cases r
      · clear HRB
        go_enter Tryd.func6, Tryd.ntmps6
        obtain ⟨W0, hW0, p0, p1, b0⟩ := BX.out
        have B0 := hid b0
        clear b0
        go_upto_region 3 with fail
        rw [← hW0]
        clear hW0
        go_upto_region 4 with (go_at_call 22; ((with_reducible refine (KR.out W0 B0.out).mono ?_); rintro x w1 ⟨rfl, b1⟩; have P0 := keep_cell b1 p0; have P1 := keep_cell b1 p1; have B1 := hid (B0.out.trans (b1.mono B0.out.size)); clear b1))
        have bq := (Below.refl w1.heap.size w1).alloc (Nat.le_refl _) (.cells #[.int .u32 (qa : Nat), .int .i64 (qn : Nat)] 25)
        have BQ := Box.made w1 #[.int .u32 (qa : Nat), .int .i64 (qn : Nat)] 25
        have Q0 := BQ.at_ 0 _ rfl
        have Q1 := BQ.at_ 1 _ rfl
        have R0 := keep_cell bq P0
        have R1 := keep_cell bq P1
        have B2 := hid (B1.out.trans (bq.mono B1.out.size))
        clear bq BQ p0 p1 P0 P1
        generalize w1.alloc (.cells #[.int .u32 (qa : Nat), .int .i64 (qn : Nat)] 25) = W1 at *
        generalize w1.heap.size = gq at *
        go_upto_region 5 with (go_at_call 23; ((with_reducible refine (KR2.out W1).mono ?_); rintro x w2 ⟨rfl, b2⟩; have Q2 := keep_cell b2 Q0; have Q3 := keep_cell b2 Q1; have P0 := keep_cell b2 R0; have P1 := keep_cell b2 R1; have B3 := hid (B2.out.trans (b2.mono B2.out.size)); clear b2))
        have bq := (Below.refl w2.heap.size w2).alloc (Nat.le_refl _) (.cells #[.int .u32 (qa : Nat), .int .i64 (qn : Nat)] 25)
        have BQ := Box.made w2 #[.int .u32 (qa : Nat), .int .i64 (qn : Nat)] 25
        have x0 := After.cell (BQ.at_ 0 _ rfl)
        have x1 := After.cell (BQ.at_ 1 _ rfl)
        have R2 := keep_cell bq P0
        have R3 := keep_cell bq P1
        have z0 := After.cell R2
        have z1 := After.cell R3
        have z2 := After.cell (keep_cell bq Q2)
        have z3 := After.cell (keep_cell bq Q3)
        have B4 := hid (B3.out.trans (bq.mono B3.out.size))
        clear bq BQ Q0 Q1 Q2 Q3 P0 P1 R0 R1
        generalize w2.alloc (.cells #[.int .u32 (qa : Nat), .int .i64 (qn : Nat)] 25) = W2 at *
        generalize w2.heap.size = gx at *
        have KTA := hid (fun (M : After W2) => after_call (KT.out M.w (B4.out.trans (M.h.mono B4.out.size))))
        have KTB := hid (fun (M : After W2) => after_call (KT2.out M.w))
        refine wp_region_after W2 (by kernel_rfl) (by kernel_rfl) ((Below.refl _ _).drew) ?_
        repeat (go_big_quiet_step (first | with_reducible exact KTA.out _ | with_reducible exact KTB.out _))
        refine wpQuiet_nil ?_
        intro w5 hw'
        obtain ⟨N3, e3⟩ := hw'
        have b5 : Below W2.heap.size W2 w5 := by rw [e3]; exact N3.h
        clear e3 N3 z0 z1 z2 z3 x0 x1 KTA KTB
        have P0 := keep_cell b5 R2
        have P1 := keep_cell b5 R3
        have B5 := hid (B4.out.trans (b5.mono B4.out.size))
        clear b5 R2 R3
        go_upto_region 8 with (first | (go_at_call 24; ((with_reducible refine (KT.out w5 B5.out).mono ?_); rintro x w6 ⟨rfl, b6⟩; have P2 := keep_cell b6 P0; have P3 := keep_cell b6 P1; have B6 := hid (B5.out.trans (b6.mono B5.out.size)); clear b6)) | (go_at_call 22; ((with_reducible refine (KB.out w6 B6.out).mono ?_); rintro x w7 ⟨rfl, b7⟩; have P4 := keep_cell b7 P2; have P5 := keep_cell b7 P3; have B7 := hid (B6.out.trans (b7.mono B6.out.size)); clear b7)))
        have bq := (Below.refl w7.heap.size w7).alloc (Nat.le_refl _) (.cells #[.int .u32 (ra : Nat), .int .i64 (rn : Int)] 25)
        have BQ := Box.made w7 #[.int .u32 (ra : Nat), .int .i64 (rn : Int)] 25
        have x0 := BQ.at_ 0 _ rfl
        have x1 := BQ.at_ 1 _ rfl
        have S0 := keep_cell bq P4
        have S1 := keep_cell bq P5
        have B8 := hid (B7.out.trans (bq.mono B7.out.size))
        clear bq BQ P0 P1 P2 P3 P4 P5
        generalize w7.alloc (.cells #[.int .u32 (ra : Nat), .int .i64 (rn : Int)] 25) = W8 at *
        generalize w7.heap.size = gb at *
        go_wp2_with (first | (go_at_call 8; ((with_reducible refine (KRi.out W8).mono ?_); rintro x w9 ⟨rfl, b9⟩; have y0 := keep_cell b9 x0; have y1 := keep_cell b9 x1; have T0 := keep_cell b9 S0; have T1 := keep_cell b9 S1; have B9 := hid (B8.out.trans (b9.mono B8.out.size)); clear b9)) | (go_at_call 16; ((with_reducible refine (KA.out _ B9.out).mono ?_); rintro x wa ⟨rfl, ba⟩; have BA := hid (B9.out.trans (ba.mono B9.out.size)); clear ba)))
        go_ret
        exact ⟨rfl, BA.out⟩
      · obtain ⟨h1, h2, h3⟩ := HRB.out rfl
        subst h1 h2 h3
        have E2 : ∀ M : World, (Op.equalIn 10000 25 (.agg #[.int .u32 (ra : Nat), .int .i64 (rn : Nat)]) (.agg #[.int .u32 (ra : Nat), .int .i64 (rn : Nat)])).run Tryd.prog M = .ok true M := fun M => (pf_eq _ _ _ _ M).trans (by simp)
        clear HRB
        go_enter Tryd.func6, Tryd.ntmps6
        obtain ⟨W0, hW0, p0, p1, b0⟩ := BX.out
        have B0 := hid b0
        clear b0
        go_upto_region 3 with fail
        rw [← hW0]
        clear hW0
        go_upto_region 4 with (go_at_call 22; ((with_reducible refine (KR.out W0 B0.out).mono ?_); rintro x w1 ⟨rfl, b1⟩; have P0 := keep_cell b1 p0; have P1 := keep_cell b1 p1; have B1 := hid (B0.out.trans (b1.mono B0.out.size)); clear b1))
        have bq := (Below.refl w1.heap.size w1).alloc (Nat.le_refl _) (.cells #[.int .u32 (qa : Nat), .int .i64 (qn : Nat)] 25)
        have BQ := Box.made w1 #[.int .u32 (qa : Nat), .int .i64 (qn : Nat)] 25
        have Q0 := BQ.at_ 0 _ rfl
        have Q1 := BQ.at_ 1 _ rfl
        have R0 := keep_cell bq P0
        have R1 := keep_cell bq P1
        have B2 := hid (B1.out.trans (bq.mono B1.out.size))
        clear bq BQ p0 p1 P0 P1
        generalize w1.alloc (.cells #[.int .u32 (qa : Nat), .int .i64 (qn : Nat)] 25) = W1 at *
        generalize w1.heap.size = gq at *
        go_upto_region 5 with (go_at_call 23; ((with_reducible refine (KR2.out W1).mono ?_); rintro x w2 ⟨rfl, b2⟩; have Q2 := keep_cell b2 Q0; have Q3 := keep_cell b2 Q1; have P0 := keep_cell b2 R0; have P1 := keep_cell b2 R1; have B3 := hid (B2.out.trans (b2.mono B2.out.size)); clear b2))
        have bq := (Below.refl w2.heap.size w2).alloc (Nat.le_refl _) (.cells #[.int .u32 (qa : Nat), .int .i64 (qn : Nat)] 25)
        have BQ := Box.made w2 #[.int .u32 (qa : Nat), .int .i64 (qn : Nat)] 25
        have x0 := After.cell (BQ.at_ 0 _ rfl)
        have x1 := After.cell (BQ.at_ 1 _ rfl)
        have R2 := keep_cell bq P0
        have R3 := keep_cell bq P1
        have z0 := After.cell R2
        have z1 := After.cell R3
        have z2 := After.cell (keep_cell bq Q2)
        have z3 := After.cell (keep_cell bq Q3)
        have B4 := hid (B3.out.trans (bq.mono B3.out.size))
        clear bq BQ Q0 Q1 Q2 Q3 P0 P1 R0 R1
        generalize w2.alloc (.cells #[.int .u32 (qa : Nat), .int .i64 (qn : Nat)] 25) = W2 at *
        generalize w2.heap.size = gx at *
        have KTA := hid (fun (M : After W2) => after_call (KT.out M.w (B4.out.trans (M.h.mono B4.out.size))))
        have KTB := hid (fun (M : After W2) => after_call (KT2.out M.w))
        refine wp_region_after W2 (by kernel_rfl) (by kernel_rfl) ((Below.refl _ _).drew) ?_
        repeat (go_big_quiet_step (first | with_reducible exact KTA.out _ | with_reducible exact KTB.out _))
        refine wpQuiet_nil ?_
        intro w5 hw'
        obtain ⟨N3, e3⟩ := hw'
        have b5 : Below W2.heap.size W2 w5 := by rw [e3]; exact N3.h
        clear e3 N3 z0 z1 z2 z3 x0 x1 KTA KTB
        have P0 := keep_cell b5 R2
        have P1 := keep_cell b5 R3
        have B5 := hid (B4.out.trans (b5.mono B4.out.size))
        clear b5 R2 R3
        go_upto_region 8 with (first | (go_at_call 24; ((with_reducible refine (KT.out w5 B5.out).mono ?_); rintro x w6 ⟨rfl, b6⟩; have P2 := keep_cell b6 P0; have P3 := keep_cell b6 P1; have B6 := hid (B5.out.trans (b6.mono B5.out.size)); clear b6)) | (go_at_call 22; ((with_reducible refine (KB.out w6 B6.out).mono ?_); rintro x w7 ⟨rfl, b7⟩; have P4 := keep_cell b7 P2; have P5 := keep_cell b7 P3; have B7 := hid (B6.out.trans (b7.mono B6.out.size)); clear b7)))
        have bq := (Below.refl w7.heap.size w7).alloc (Nat.le_refl _) (.cells #[.int .u32 (ra : Nat), .int .i64 (rn : Int)] 25)
        have BQ := Box.made w7 #[.int .u32 (ra : Nat), .int .i64 (rn : Int)] 25
        have x0 := BQ.at_ 0 _ rfl
        have x1 := BQ.at_ 1 _ rfl
        have S0 := keep_cell bq P4
        have S1 := keep_cell bq P5
        have B8 := hid (B7.out.trans (bq.mono B7.out.size))
        clear bq BQ P0 P1 P2 P3 P4 P5
        generalize w7.alloc (.cells #[.int .u32 (ra : Nat), .int .i64 (rn : Int)] 25) = W8 at *
        generalize w7.heap.size = gb at *
        go_wp2_with (first | (go_at_call 8; ((with_reducible refine (KRi.out W8).mono ?_); rintro x w9 ⟨rfl, b9⟩; have y0 := keep_cell b9 x0; have y1 := keep_cell b9 x1; have T0 := keep_cell b9 S0; have T1 := keep_cell b9 S1; have B9 := hid (B8.out.trans (b9.mono B8.out.size)); clear b9)) | (go_at_call 16; ((with_reducible refine (KA.out _ B9.out).mono ?_); rintro x wa ⟨rfl, ba⟩; have BA := hid (B9.out.trans (ba.mono B9.out.size)); clear ba)))
        go_ret
        exact ⟨rfl, BA.out⟩
set_option maxRecDepth 100000 in
theorem lifted (os : Os) (started : os.Started) (H : Type) (enc : TypeId × Value → H) :
    ReturnsInHanded {} Tryd.checked os 6 .any (fun w args => (Rows.cidrTextsSpec.pre enc Tryd.prog Tryd.f6 Rows.cidrTextsRow.domain false w args ∧ laidMetH Tryd.prog Rows.cidrTextsRow.laid w) ∧ sizedMet enc Tryd.prog Tryd.f6 (OpenSpec.ofChange Rows.cidrTextsSpec) false w args) (Rows.cidrTextsSpec.post enc Tryd.prog Tryd.f6 false true false false) := by
  refine kit.returns_shaped (C := Tryd.checked) (X := fun w _ => laidMetH Tryd.prog Rows.cidrTextsRow.laid w) (fun _ _ _ hh h => h.of_heap hh) own started (by kernel_rfl) Tryd.func6
    (ChangeSpec.witness_shaped (enc := enc) (C := Tryd.checked) (os := os) (X := fun w _ => laidMetH Tryd.prog Rows.cidrTextsRow.laid w) false (World.laidAll Tryd.prog os Rows.cidrTextsRow.laid) #[.agg #[.int .u32 0, .int .i64 0], .string ByteArray.empty] 8 (World.laidAll_os _ _ _) (World.shaped_of_ZipB (by kernel_rfl) (by kernel_rfl)) (by kernel_rfl) (by kernel_rfl) (by kernel_rfl) (by rw [MakeChecks.laidMetH_plain _ _ _ (by kernel_rfl)]; exact laidMet_laidAll _ (by kernel_rfl) (by kernel_rfl))) ?_
  intro W base args ds gs before hS hval0 hW hL
  have hval : ∀ (j : Nat) t v, Tryd.f6.params[j]? = some t → args[j]? = some v → Value.okWide Tryd.prog W .any base t v := hval0
  have hW' := hW
  obtain ⟨p, q, hA0, hV, rfl, hfz, hnd⟩ := hW
  have hA : DataW.TrodAll enc Tryd.prog W 0 (fun _ => true) true Tryd.f6.params.toList args.toList ds p := hA0
  rw [Tryd.params6] at hA hval
  obtain ⟨v0, vs0, d0, ds0, p0, q0, hargs, rfl, rfl, h0, r0⟩ := trodAll_cons hA
  obtain ⟨v1, vs1, d1, ds1, p1, q1, rfl, rfl, rfl, h1, r1⟩ := trodAll_cons r0
  obtain ⟨rfl, rfl, rfl⟩ := trodAll_nil r1
  obtain rfl : args = #[v0, v1] := by cases args; simp_all
  obtain ⟨rfl, rfl⟩ := trodVars_none hV
  have k0 := h0
  have o0 := hval 0 25 v0 rfl rfl
  have lt0 : ∀ x ∈ p0, x.block < W.heap.size := by obtain ⟨m, hm⟩ := k0; exact DataW.trod_lt m _ _ _ hm
  obtain ⟨a1, rfl, rfl, rfl, w1⟩ := open_string Tryd.underlying9 (hval 1 9 v1 rfl rfl) h1
  clear hA0 hval0
  refine (walk (H := H) (enc := enc) (base := base) v0 d0 p0 a1 W k0 o0 w1 hS hL).mono fun e W' ⟨he, bel⟩ => ?_
  subst he
  exact ⟨_, rfl, _, _, _, [], _, [], hW', trodAll_mk1 (shut_bool Tryd.underlying4 _), (trodAll_cons_mk (Below.trod laidOut (by kernel_rfl) (of_decide_eq_true (by kernel_rfl)) k0 bel lt0) (trodAll_cons_mk (shut_string Tryd.underlying9 w1) trodAll_mk0)), rfl, bel.frame _, fun h => by cases h⟩

theorem over : Rows.cidrTextsRow.holds Tryd.pinned (OpenSpec.ofChange Rows.cidrTextsSpec) :=
  OpenClaim.holds_of_wide 6 Tryd.f6 rfl rfl rfl rfl rfl rfl rfl ⟨rfl, rfl, rfl, rfl, rfl⟩ rfl rfl rfl rfl rfl (by kernel_rfl) Tryd.func6 (by kernel_rfl)
    (of_decide_eq_true (by kernel_rfl)) (by unfold Func.isWrapper; first | (rw [if_pos (by decide +kernel)]; kernel_rfl) | (rw [if_neg (by decide +kernel)]; exact ⟨rfl, rfl⟩))
    (fun os started H enc _ => lifted os started H enc)

/-- the statement: the card -/
theorem proved : Rows.CidrTextsCardSaid :=
  Claim7.holds_tied_plain_at .later [] [.data, .data, .data, .data, .sentinel, .sentinel, .pinned] true (true, "6d30361f737eb43abe25c6c8673d81e6ee3ec0102be10d81385826ec67d476ec") true
    over (fun _ h => by cases h) (by kernel_rfl) (fun _ h => by cases h) cidrTexts_row_tie rfl ⟨rfl, rfl⟩ (by kernel_rfl) rfl
    (fun f fn hf hfn => by
      obtain rfl : f = 6 := Option.some.inj ((show Tryd.prog.funcNamed "catwalk/catwalklaw26.CidrTexts" = some 6 by kernel_rfl).symm.trans hf) |>.symm
      obtain rfl : fn = Tryd.f6 := (Option.some.inj (Tryd.func6.symm.trans hfn)).symm
      exact ⟨by kernel_rfl, fun j t ht => by
        rw [Tryd.params6] at ht
        have hm : t ∈ [25, 9] := by simpa using Array.mem_of_getElem? ht
        have hall : ([25, 9].all fun u => !Tryd.prog.wantsStandIn u) = true := by kernel_rfl
        exact (show Tryd.prog.wantsStandIn t = false by simpa using List.all_eq_true.1 hall t hm)⟩)
    (by kernel_rfl)
end Go.Proofs.YtnfklhebcloolabDoor.cidrTexts
