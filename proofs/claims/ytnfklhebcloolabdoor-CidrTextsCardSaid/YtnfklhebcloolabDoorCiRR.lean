/- The document's Read of a prefix. -/
import Derived.Test.YtnfklhebcloolabDoorCiRd2
namespace Go.Proofs.YtnfklhebcloolabDoor.cic
open Go.RowKit
open Go.Lib (decDigits)
open Go.Proofs.YtnfklhebcloolabDoor.kit Go.Proofs.YtnfklhebcloolabDoor.cim Go.Proofs.YtnfklhebcloolabDoor.adc Go.Proofs.YtnfklhebcloolabDoor.nmc Go.Proofs.YtnfklhebcloolabDoor.nmm Go.Proofs.YtnfklhebcloolabDoor.spc
set_option linter.unusedVariables false
set_option linter.unusedSimpArgs false
set_option maxRecDepth 20000
structure RrK (s : ByteArray) (P : List (List UInt8)) (a n : Nat) (oa on : Bool) (w : World) : Prop where
  cut : ∀ W, Below w.heap.size w W → Calls Tryd.prog 42 #[.string s, .int .u8 47] W fun e w' => ∃ a cap, e = .returned (.slice a P.length cap) ∧ Strs w' w'.heap.size a P.length cap (bas P) ∧ Below W.heap.size W w'
  adr : ∀ W, Calls Tryd.prog 43 #[.string ⟨(P.getD 0 []).toArray⟩] W fun e w' => e = .returned (.tuple #[.int .u32 (a : Nat), .bool oa]) ∧ Below W.heap.size W w'
  num : ∀ W, Calls Tryd.prog 44 #[.string ⟨(P.getD 1 []).toArray⟩] W fun e w' => e = .returned (.tuple #[.int .i64 (n : Nat), .bool on]) ∧ Below W.heap.size W w'
def RcPost (v : Value) (k : Bool) (w : World) (e : Ending) (w' : World) : Prop := e = .returned (.tuple #[v, .bool k]) ∧ Below w.heap.size w w'
set_option maxHeartbeats 2000000 in
theorem rcread_0' {s : ByteArray} {P : List (List UInt8)} {w : World} (h2 : P.length ≠ 2) (K : ∀ W, Below w.heap.size w W → Calls Tryd.prog 42 #[.string s, .int .u8 47] W fun e w' => ∃ a cap, e = .returned (.slice a P.length cap) ∧ Strs w' w'.heap.size a P.length cap (bas P) ∧ Below W.heap.size W w') : Calls Tryd.prog 23 #[.string s] w (RcPost (pf 0 0) false w) := by
  have KC := hid K
  have B0 := hid ((Below.refl w.heap.size w).alloc (Nat.le_refl _) (.cells #[.int .u32 0, .int .i64 0] 25))
  have X0 := hid (Box.made w #[.int .u32 0, .int .i64 0] 25)
  unfold RcPost pf
  clear K
  have hne : ((P.length : Int) != 2) = true := by simp; omega
  clear h2
  generalize P.length = np at *
  go_enter Tryd.func23, Tryd.ntmps23
  go_upto_region 1 with fail
  generalize w.alloc (.cells #[.int .u32 0, .int .i64 0] 25) = W at *
  go_upto_region 2 with (go_at_call 42; ((with_reducible refine (KC.out W B0.out).mono ?_); rintro e w1 ⟨ad, cap, rfl, hS, b1⟩; have HS := hid hS; have X1 := hid (X0.out.next b1); have B1 := hid (B0.out.trans (b1.mono B0.out.size)); clear b1 hS))
  have y0 := X1.out.at_ 0 _ rfl
  have y1 := X1.out.at_ 1 _ rfl
  have g0 := X1.out.fr 0
  have g1 := X1.out.fr 1
  have Q0 := hid (((X1.out.set 0 (.int .u32 0)).set 1 (.int .i64 0)).at_ 0 (.int .u32 0) rfl)
  have Q1 := hid (((X1.out.set 0 (.int .u32 0)).set 1 (.int .i64 0)).at_ 1 (.int .i64 0) rfl)
  have BZ := hid ((B1.out.setCell (p := ⟨w.heap.size, 0, none⟩) (Nat.le_refl _) (.int .u32 0)).setCell (p := ⟨w.heap.size, 1, none⟩) (Nat.le_refl _) (.int .i64 0))
  go_wp2_with fail
  have q0 := Q0.out
  have q1 := Q1.out
  exact bodyPost_ret (v := .tuple #[.agg #[.int .u32 0, .int .i64 0], .bool false]) (by simp [results, Tryd.results23, go_sem, q0, q1]) rfl ⟨rfl, BZ.out⟩
set_option maxHeartbeats 2000000 in
theorem rcread_1 {s : ByteArray} {P : List (List UInt8)} {a n : Nat} {on : Bool} {w : World} (h2 : P.length = 2) (K : RrK s P a n false on w) : Calls Tryd.prog 23 #[.string s] w (RcPost (pf 0 0) false w) := by
  have KC := hid K.cut
  have KA := hid K.adr
  have KN := hid K.num
  have B0 := hid ((Below.refl w.heap.size w).alloc (Nat.le_refl _) (.cells #[.int .u32 0, .int .i64 0] 25))
  have X0 := hid (Box.made w #[.int .u32 0, .int .i64 0] 25)
  unfold RcPost pf
  clear K
  have HP := hid h2
  rw [h2] at KC
  clear h2
  go_enter Tryd.func23, Tryd.ntmps23
  go_upto_region 1 with fail
  generalize w.alloc (.cells #[.int .u32 0, .int .i64 0] 25) = W at *
  go_upto_region 4 with (go_at_call 42; ((with_reducible refine (KC.out W B0.out).mono ?_); rintro e w1 ⟨ad, cap, rfl, hS, b1⟩; have HS := hid hS; have X1 := hid (X0.out.next b1); have B1 := hid (B0.out.trans (b1.mono B0.out.size)); clear b1 hS))
  obtain ⟨b, off, rfl, hlt, _, hc⟩ := HS.out.cells (by omega)
  have c0 : w1.cell? ⟨b, off, none⟩ = some (.string ⟨(P.getD 0 []).toArray⟩) := by
    have := hc 0 (by omega)
    rw [List.getD_eq_getElem?_getD, bas_at P 0 (by rw [HP.out]; omega)] at this
    simpa using this
  have c1 : w1.cell? ⟨b, off + 1, none⟩ = some (.string ⟨(P.getD 1 []).toArray⟩) := by
    have := hc 1 (by omega)
    rw [List.getD_eq_getElem?_getD, bas_at P 1 (by rw [HP.out]; omega)] at this
    simpa using this
  generalize P.getD 0 [] = x0 at *
  generalize P.getD 1 [] = x1 at *
  clear hc hlt HS HP KC
  go_upto_region 6 with (first | (go_at_call 43; ((with_reducible refine (KA.out w1).mono ?_); rintro e w2 ⟨rfl, b2⟩; have d1 := keep_cell b2 c1; have X2 := hid (X1.out.next b2); have B2 := hid (B1.out.trans (b2.mono B1.out.size)); clear b2)) | (go_at_call 44; ((with_reducible refine (KN.out w2).mono ?_); rintro e w3 ⟨rfl, b3⟩; have X3 := hid (X2.out.next b3); have B3 := hid (B2.out.trans (b3.mono B2.out.size)); clear b3)))
  have bA := (Below.refl w3.heap.size w3).alloc (Nat.le_refl _) (.cells #[.int .u32 (a : Nat), .int .i64 (n : Nat)] 25)
  have PX := Box.made w3 #[.int .u32 (a : Nat), .int .i64 (n : Nat)] 25
  have X4 := hid (X3.out.next bA)
  have B4 := hid (B3.out.trans (bA.mono B3.out.size))
  clear bA X0 X1 X2 X3 B0 B1 B2 B3 KA KN c0 c1 d1
  go_upto_region 7 with fail
  generalize w3.alloc (.cells #[.int .u32 (a : Nat), .int .i64 (n : Nat)] 25) = W4 at *
  have p0 := PX.at_ 0 _ rfl
  have p1 := PX.at_ 1 _ rfl
  have y0 := X4.out.at_ 0 _ rfl
  have y1 := X4.out.at_ 1 _ rfl
  have g0 := X4.out.fr 0
  have g1 := X4.out.fr 1
  have Q0 := hid (((X4.out.set 0 (.int .u32 0)).set 1 (.int .i64 0)).at_ 0 (.int .u32 0) rfl)
  have Q1 := hid (((X4.out.set 0 (.int .u32 0)).set 1 (.int .i64 0)).at_ 1 (.int .i64 0) rfl)
  have BZ := hid ((B4.out.setCell (p := ⟨w.heap.size, 0, none⟩) (Nat.le_refl _) (.int .u32 0)).setCell (p := ⟨w.heap.size, 1, none⟩) (Nat.le_refl _) (.int .i64 0))
  go_wp2_with fail
  have q0 := Q0.out
  have q1 := Q1.out
  exact bodyPost_ret (v := .tuple #[.agg #[.int .u32 0, .int .i64 0], .bool false]) (by simp [results, Tryd.results23, go_sem, q0, q1]) rfl ⟨rfl, BZ.out⟩
set_option maxHeartbeats 2000000 in
theorem rcread_2 {s : ByteArray} {P : List (List UInt8)} {a n : Nat} {w : World} (h2 : P.length = 2) (K : RrK s P a n true false w) : Calls Tryd.prog 23 #[.string s] w (RcPost (pf 0 0) false w) := by
  have KC := hid K.cut
  have KA := hid K.adr
  have KN := hid K.num
  have B0 := hid ((Below.refl w.heap.size w).alloc (Nat.le_refl _) (.cells #[.int .u32 0, .int .i64 0] 25))
  have X0 := hid (Box.made w #[.int .u32 0, .int .i64 0] 25)
  unfold RcPost pf
  clear K
  have HP := hid h2
  rw [h2] at KC
  clear h2
  go_enter Tryd.func23, Tryd.ntmps23
  go_upto_region 1 with fail
  generalize w.alloc (.cells #[.int .u32 0, .int .i64 0] 25) = W at *
  go_upto_region 4 with (go_at_call 42; ((with_reducible refine (KC.out W B0.out).mono ?_); rintro e w1 ⟨ad, cap, rfl, hS, b1⟩; have HS := hid hS; have X1 := hid (X0.out.next b1); have B1 := hid (B0.out.trans (b1.mono B0.out.size)); clear b1 hS))
  obtain ⟨b, off, rfl, hlt, _, hc⟩ := HS.out.cells (by omega)
  have c0 : w1.cell? ⟨b, off, none⟩ = some (.string ⟨(P.getD 0 []).toArray⟩) := by
    have := hc 0 (by omega)
    rw [List.getD_eq_getElem?_getD, bas_at P 0 (by rw [HP.out]; omega)] at this
    simpa using this
  have c1 : w1.cell? ⟨b, off + 1, none⟩ = some (.string ⟨(P.getD 1 []).toArray⟩) := by
    have := hc 1 (by omega)
    rw [List.getD_eq_getElem?_getD, bas_at P 1 (by rw [HP.out]; omega)] at this
    simpa using this
  generalize P.getD 0 [] = x0 at *
  generalize P.getD 1 [] = x1 at *
  clear hc hlt HS HP KC
  go_upto_region 6 with (first | (go_at_call 43; ((with_reducible refine (KA.out w1).mono ?_); rintro e w2 ⟨rfl, b2⟩; have d1 := keep_cell b2 c1; have X2 := hid (X1.out.next b2); have B2 := hid (B1.out.trans (b2.mono B1.out.size)); clear b2)) | (go_at_call 44; ((with_reducible refine (KN.out w2).mono ?_); rintro e w3 ⟨rfl, b3⟩; have X3 := hid (X2.out.next b3); have B3 := hid (B2.out.trans (b3.mono B2.out.size)); clear b3)))
  have bA := (Below.refl w3.heap.size w3).alloc (Nat.le_refl _) (.cells #[.int .u32 (a : Nat), .int .i64 (n : Nat)] 25)
  have PX := Box.made w3 #[.int .u32 (a : Nat), .int .i64 (n : Nat)] 25
  have X4 := hid (X3.out.next bA)
  have B4 := hid (B3.out.trans (bA.mono B3.out.size))
  clear bA X0 X1 X2 X3 B0 B1 B2 B3 KA KN c0 c1 d1
  go_upto_region 7 with fail
  generalize w3.alloc (.cells #[.int .u32 (a : Nat), .int .i64 (n : Nat)] 25) = W4 at *
  have p0 := PX.at_ 0 _ rfl
  have p1 := PX.at_ 1 _ rfl
  have y0 := X4.out.at_ 0 _ rfl
  have y1 := X4.out.at_ 1 _ rfl
  have g0 := X4.out.fr 0
  have g1 := X4.out.fr 1
  have Q0 := hid (((X4.out.set 0 (.int .u32 0)).set 1 (.int .i64 0)).at_ 0 (.int .u32 0) rfl)
  have Q1 := hid (((X4.out.set 0 (.int .u32 0)).set 1 (.int .i64 0)).at_ 1 (.int .i64 0) rfl)
  have BZ := hid ((B4.out.setCell (p := ⟨w.heap.size, 0, none⟩) (Nat.le_refl _) (.int .u32 0)).setCell (p := ⟨w.heap.size, 1, none⟩) (Nat.le_refl _) (.int .i64 0))
  go_wp2_with fail
  have q0 := Q0.out
  have q1 := Q1.out
  exact bodyPost_ret (v := .tuple #[.agg #[.int .u32 0, .int .i64 0], .bool false]) (by simp [results, Tryd.results23, go_sem, q0, q1]) rfl ⟨rfl, BZ.out⟩
set_option maxHeartbeats 2000000 in
theorem rcread_3 {s : ByteArray} {P : List (List UInt8)} {a n : Nat} {w : World} (h2 : P.length = 2) (ha : a < 4294967296) (hr : rightB a (n : Nat) = false) (K : RrK s P a n true true w) : Calls Tryd.prog 23 #[.string s] w (RcPost (pf 0 0) false w) := by
  have KC := hid K.cut
  have KA := hid K.adr
  have KN := hid K.num
  have B0 := hid ((Below.refl w.heap.size w).alloc (Nat.le_refl _) (.cells #[.int .u32 0, .int .i64 0] 25))
  have X0 := hid (Box.made w #[.int .u32 0, .int .i64 0] 25)
  unfold RcPost pf
  clear K
  have HP := hid h2
  rw [h2] at KC
  clear h2
  go_enter Tryd.func23, Tryd.ntmps23
  go_upto_region 1 with fail
  generalize w.alloc (.cells #[.int .u32 0, .int .i64 0] 25) = W at *
  go_upto_region 4 with (go_at_call 42; ((with_reducible refine (KC.out W B0.out).mono ?_); rintro e w1 ⟨ad, cap, rfl, hS, b1⟩; have HS := hid hS; have X1 := hid (X0.out.next b1); have B1 := hid (B0.out.trans (b1.mono B0.out.size)); clear b1 hS))
  obtain ⟨b, off, rfl, hlt, _, hc⟩ := HS.out.cells (by omega)
  have c0 : w1.cell? ⟨b, off, none⟩ = some (.string ⟨(P.getD 0 []).toArray⟩) := by
    have := hc 0 (by omega)
    rw [List.getD_eq_getElem?_getD, bas_at P 0 (by rw [HP.out]; omega)] at this
    simpa using this
  have c1 : w1.cell? ⟨b, off + 1, none⟩ = some (.string ⟨(P.getD 1 []).toArray⟩) := by
    have := hc 1 (by omega)
    rw [List.getD_eq_getElem?_getD, bas_at P 1 (by rw [HP.out]; omega)] at this
    simpa using this
  generalize P.getD 0 [] = x0 at *
  generalize P.getD 1 [] = x1 at *
  clear hc hlt HS HP KC
  go_upto_region 6 with (first | (go_at_call 43; ((with_reducible refine (KA.out w1).mono ?_); rintro e w2 ⟨rfl, b2⟩; have d1 := keep_cell b2 c1; have X2 := hid (X1.out.next b2); have B2 := hid (B1.out.trans (b2.mono B1.out.size)); clear b2)) | (go_at_call 44; ((with_reducible refine (KN.out w2).mono ?_); rintro e w3 ⟨rfl, b3⟩; have X3 := hid (X2.out.next b3); have B3 := hid (B2.out.trans (b3.mono B2.out.size)); clear b3)))
  have bA := (Below.refl w3.heap.size w3).alloc (Nat.le_refl _) (.cells #[.int .u32 (a : Nat), .int .i64 (n : Nat)] 25)
  have PX := Box.made w3 #[.int .u32 (a : Nat), .int .i64 (n : Nat)] 25
  have X4 := hid (X3.out.next bA)
  have B4 := hid (B3.out.trans (bA.mono B3.out.size))
  clear bA X0 X1 X2 X3 B0 B1 B2 B3 KA KN c0 c1 d1
  go_upto_region 7 with fail
  generalize w3.alloc (.cells #[.int .u32 (a : Nat), .int .i64 (n : Nat)] 25) = W4 at *
  have p0 := PX.at_ 0 _ rfl
  have p1 := PX.at_ 1 _ rfl
  have KR := hid (rright_any a (n : Nat) ha W4)
  rw [hr] at KR
  unfold pf at KR
  clear hr
  go_upto_region 8 with (go_at_call 8; ((with_reducible refine KR.out.mono ?_); rintro e w5 ⟨rfl, b5⟩; have X5 := hid (X4.out.next b5); have B5 := hid (B4.out.trans (b5.mono B4.out.size)); have r0 := keep_cell b5 p0; have r1 := keep_cell b5 p1; clear b5))
  have y0 := X5.out.at_ 0 _ rfl
  have y1 := X5.out.at_ 1 _ rfl
  have g0 := X5.out.fr 0
  have g1 := X5.out.fr 1
  have Q0 := hid (((X5.out.set 0 (.int .u32 0)).set 1 (.int .i64 0)).at_ 0 (.int .u32 0) rfl)
  have Q1 := hid (((X5.out.set 0 (.int .u32 0)).set 1 (.int .i64 0)).at_ 1 (.int .i64 0) rfl)
  have BZ := hid ((B5.out.setCell (p := ⟨w.heap.size, 0, none⟩) (Nat.le_refl _) (.int .u32 0)).setCell (p := ⟨w.heap.size, 1, none⟩) (Nat.le_refl _) (.int .i64 0))
  go_wp2_with fail
  have q0 := Q0.out
  have q1 := Q1.out
  exact bodyPost_ret (v := .tuple #[.agg #[.int .u32 0, .int .i64 0], .bool false]) (by simp [results, Tryd.results23, go_sem, q0, q1]) rfl ⟨rfl, BZ.out⟩
set_option maxHeartbeats 2000000 in
theorem rcread_4 {s : ByteArray} {P : List (List UInt8)} {a n : Nat} {w : World} (h2 : P.length = 2) (ha : a < 4294967296) (hr : rightB a (n : Nat) = true) (K : RrK s P a n true true w) : Calls Tryd.prog 23 #[.string s] w (RcPost (pf a (n : Nat)) true w) := by
  have KC := hid K.cut
  have KA := hid K.adr
  have KN := hid K.num
  have B0 := hid ((Below.refl w.heap.size w).alloc (Nat.le_refl _) (.cells #[.int .u32 0, .int .i64 0] 25))
  have X0 := hid (Box.made w #[.int .u32 0, .int .i64 0] 25)
  unfold RcPost pf
  clear K
  have HP := hid h2
  rw [h2] at KC
  clear h2
  go_enter Tryd.func23, Tryd.ntmps23
  go_upto_region 1 with fail
  generalize w.alloc (.cells #[.int .u32 0, .int .i64 0] 25) = W at *
  go_upto_region 4 with (go_at_call 42; ((with_reducible refine (KC.out W B0.out).mono ?_); rintro e w1 ⟨ad, cap, rfl, hS, b1⟩; have HS := hid hS; have X1 := hid (X0.out.next b1); have B1 := hid (B0.out.trans (b1.mono B0.out.size)); clear b1 hS))
  obtain ⟨b, off, rfl, hlt, _, hc⟩ := HS.out.cells (by omega)
  have c0 : w1.cell? ⟨b, off, none⟩ = some (.string ⟨(P.getD 0 []).toArray⟩) := by
    have := hc 0 (by omega)
    rw [List.getD_eq_getElem?_getD, bas_at P 0 (by rw [HP.out]; omega)] at this
    simpa using this
  have c1 : w1.cell? ⟨b, off + 1, none⟩ = some (.string ⟨(P.getD 1 []).toArray⟩) := by
    have := hc 1 (by omega)
    rw [List.getD_eq_getElem?_getD, bas_at P 1 (by rw [HP.out]; omega)] at this
    simpa using this
  generalize P.getD 0 [] = x0 at *
  generalize P.getD 1 [] = x1 at *
  clear hc hlt HS HP KC
  go_upto_region 6 with (first | (go_at_call 43; ((with_reducible refine (KA.out w1).mono ?_); rintro e w2 ⟨rfl, b2⟩; have d1 := keep_cell b2 c1; have X2 := hid (X1.out.next b2); have B2 := hid (B1.out.trans (b2.mono B1.out.size)); clear b2)) | (go_at_call 44; ((with_reducible refine (KN.out w2).mono ?_); rintro e w3 ⟨rfl, b3⟩; have X3 := hid (X2.out.next b3); have B3 := hid (B2.out.trans (b3.mono B2.out.size)); clear b3)))
  have bA := (Below.refl w3.heap.size w3).alloc (Nat.le_refl _) (.cells #[.int .u32 (a : Nat), .int .i64 (n : Nat)] 25)
  have PX := Box.made w3 #[.int .u32 (a : Nat), .int .i64 (n : Nat)] 25
  have X4 := hid (X3.out.next bA)
  have B4 := hid (B3.out.trans (bA.mono B3.out.size))
  clear bA X0 X1 X2 X3 B0 B1 B2 B3 KA KN c0 c1 d1
  go_upto_region 7 with fail
  generalize w3.alloc (.cells #[.int .u32 (a : Nat), .int .i64 (n : Nat)] 25) = W4 at *
  have p0 := PX.at_ 0 _ rfl
  have p1 := PX.at_ 1 _ rfl
  have KR := hid (rright_any a (n : Nat) ha W4)
  rw [hr] at KR
  unfold pf at KR
  clear hr
  go_upto_region 9 with (go_at_call 8; ((with_reducible refine KR.out.mono ?_); rintro e w5 ⟨rfl, b5⟩; have X5 := hid (X4.out.next b5); have B5 := hid (B4.out.trans (b5.mono B4.out.size)); have r0 := keep_cell b5 p0; have r1 := keep_cell b5 p1; clear b5))
  have y0 := X5.out.at_ 0 _ rfl
  have y1 := X5.out.at_ 1 _ rfl
  have g0 := X5.out.fr 0
  have g1 := X5.out.fr 1
  have Q0 := hid (((X5.out.set 0 (.int .u32 (a : Nat))).set 1 (.int .i64 (n : Nat))).at_ 0 (.int .u32 (a : Nat)) rfl)
  have Q1 := hid (((X5.out.set 0 (.int .u32 (a : Nat))).set 1 (.int .i64 (n : Nat))).at_ 1 (.int .i64 (n : Nat)) rfl)
  have BZ := hid ((B5.out.setCell (p := ⟨w.heap.size, 0, none⟩) (Nat.le_refl _) (.int .u32 (a : Nat))).setCell (p := ⟨w.heap.size, 1, none⟩) (Nat.le_refl _) (.int .i64 (n : Nat)))
  go_wp2_with fail
  have q0 := Q0.out
  have q1 := Q1.out
  exact bodyPost_ret (v := .tuple #[.agg #[.int .u32 (a : Nat), .int .i64 (n : Nat)], .bool true]) (by simp [results, Tryd.results23, go_sem, q0, q1]) rfl ⟨rfl, BZ.out⟩
end Go.Proofs.YtnfklhebcloolabDoor.cic
