/- The program's Read of a prefix. -/
import Derived.Test.YtnfklhebcloolabDoorAdT
import Derived.Test.YtnfklhebcloolabDoorCi4
namespace Go.Proofs.YtnfklhebcloolabDoor.cic
open Go.RowKit
open Go.Lib (decDigits)
open Go.Proofs.YtnfklhebcloolabDoor.kit Go.Proofs.YtnfklhebcloolabDoor.cim Go.Proofs.YtnfklhebcloolabDoor.adc Go.Proofs.YtnfklhebcloolabDoor.nmc Go.Proofs.YtnfklhebcloolabDoor.nmm Go.Proofs.YtnfklhebcloolabDoor.spc
set_option linter.unusedVariables false
set_option linter.unusedSimpArgs false
set_option maxRecDepth 20000
theorem spU_le (c : UInt8) (l : List UInt8) : ∀ one, ∀ p ∈ spU c l one, p.length ≤ one.length + l.length := by
  induction l with
  | nil => intro one p hp; simp [spU] at hp; rw [hp]; simp
  | cons x r ih =>
    intro one p hp
    unfold spU at hp
    split at hp
    · rcases List.mem_cons.1 hp with rfl | hp
      · simp
      · have := ih [] p hp; simp at this ⊢; omega
    · have := ih _ p hp; simp at this ⊢; omega
theorem adr_yes {P : List (List UInt8)} {ok no : Value} {w w' : World} {e : Ending} {a : Nat} (h : AdrPost P ok no w e w') (ha : Adr P a) : e = .returned (.tuple #[.int .u32 (a : Nat), ok]) ∧ Below w.heap.size w w' := by
  obtain ⟨hb, ⟨x, hx, he⟩ | ⟨hno, _⟩⟩ := h
  · rw [adr_same ha hx]; exact ⟨he, hb⟩
  · exact absurd ⟨a, ha⟩ hno
theorem adr_not {P : List (List UInt8)} {ok no : Value} {w w' : World} {e : Ending} (h : AdrPost P ok no w e w') (ha : ¬ ∃ a, Adr P a) : e = .returned (.tuple #[.int .u32 0, no]) ∧ Below w.heap.size w w' := by
  obtain ⟨hb, ⟨x, hx, _⟩ | ⟨hno, he⟩⟩ := h
  · exact absurd ⟨x, hx⟩ ha
  · exact ⟨he, hb⟩
theorem num_free {l : List UInt8} {n : Nat} (h : IsNum l n) (c : UInt8) (hc : c.toNat < 48) : c ∉ l := by
  intro hm
  rw [h.2] at hm
  have := (dec_digit n c hm).1
  omega
theorem num_nil (n : Nat) : ¬ IsNum [] n := fun h => dec_ne n h.2.symm
/-- a text of a prefix -/
def Pfx (l : List UInt8) (a n : Nat) : Prop := ∃ x y, 47 ∉ x ∧ l = x ++ 47 :: y ∧ Adr (spU 46 x []) a ∧ IsNum y n ∧ rightB a (n : Nat) = true
theorem cut_same {c : UInt8} {x x' y y' : List UInt8} (h : c ∉ x) (h' : c ∉ x') (e : x ++ c :: y = x' ++ c :: y') : x = x' ∧ y = y' := by
  induction x generalizing x' with
  | nil =>
    cases x' with
    | nil => simp at e; exact ⟨rfl, e⟩
    | cons b t => simp at e; exact absurd (by rw [e.1]; exact List.mem_cons_self) h'
  | cons a r ih =>
    cases x' with
    | nil => simp at e; exact absurd (by rw [← e.1]; exact List.mem_cons_self) h
    | cons b t =>
      simp only [List.cons_append, List.cons.injEq] at e
      obtain ⟨e1, e2⟩ := ih (fun k => h (List.mem_cons_of_mem _ k)) (fun k => h' (List.mem_cons_of_mem _ k)) e.2
      exact ⟨by rw [e.1, e1], e2⟩
theorem pfx_same {l : List UInt8} {a n b m : Nat} (h : Pfx l a n) (k : Pfx l b m) : a = b ∧ n = m := by
  obtain ⟨x, y, h1, h2, h3, h4, _⟩ := h
  obtain ⟨x', y', k1, k2, k3, k4, _⟩ := k
  obtain ⟨rfl, rfl⟩ := cut_same h1 k1 (h2.symm.trans k2)
  exact ⟨adr_same h3 k3, num_same h4 k4⟩
def PfxPost (l : List UInt8) (ok no : Value) (w : World) (e : Ending) (w' : World) : Prop :=
  Below w.heap.size w w' ∧ ((∃ a n : Nat, Pfx l a n ∧ e = .returned (.tuple #[pf a (n : Nat), ok])) ∨ ((¬ ∃ a n, Pfx l a n) ∧ e = .returned (.tuple #[pf 0 0, no])))
theorem pfx_yes {l : List UInt8} {ok no : Value} {w w' : World} {e : Ending} {a n : Nat} (h : PfxPost l ok no w e w') (hp : Pfx l a n) : e = .returned (.tuple #[pf a (n : Nat), ok]) ∧ Below w.heap.size w w' := by
  obtain ⟨hb, ⟨b, m, hx, he⟩ | ⟨hno, _⟩⟩ := h
  · obtain ⟨rfl, rfl⟩ := pfx_same hp hx; exact ⟨he, hb⟩
  · exact absurd ⟨a, n, hp⟩ hno
theorem pfx_not {l : List UInt8} {ok no : Value} {w w' : World} {e : Ending} (h : PfxPost l ok no w e w') (hp : ¬ ∃ a n, Pfx l a n) : e = .returned (.tuple #[pf 0 0, no]) ∧ Below w.heap.size w w' := by
  obtain ⟨hb, ⟨b, m, hx, _⟩ | ⟨hno, he⟩⟩ := h
  · exact absurd ⟨b, m, hx⟩ hp
  · exact ⟨he, hb⟩
/-- what the steps of Read rest on -/
structure RdK (s x y : ByteArray) (f : Bool) (a n : Nat) (ea en : Int) (w : World) : Prop where
  cut : ∀ W, Below w.heap.size w W → Calls Tryd.prog 39 #[.string s, .string ⟨#[47]⟩] W fun e w' => e = .returned (.tuple #[.string x, .string y, .bool f]) ∧ Below W.heap.size W w'
  adr : ∀ W, Below w.heap.size w W → Calls Tryd.prog 40 #[.string x] W fun e w' => e = .returned (.tuple #[.int .u32 (a : Nat), .int .i64 ea]) ∧ Below W.heap.size W w'
  num : ∀ W, Below w.heap.size w W → Calls Tryd.prog 41 #[.string y] W fun e w' => e = .returned (.tuple #[.int .i64 (n : Nat), .int .i64 en]) ∧ Below W.heap.size W w'
def CrPost (v : Value) (k : Int) (w : World) (e : Ending) (w' : World) : Prop := e = .returned (.tuple #[v, .int .i64 k]) ∧ Below w.heap.size w w'
set_option maxHeartbeats 2000000 in
theorem cread_1 {s x y : ByteArray} {f : Bool} {a n : Nat} {en : Int} {w : World} (K : RdK s x y f a n 11 en w) : Calls Tryd.prog 22 #[.string s] w (CrPost (pf 0 0) 11 w) := by
  have KC := hid K.cut
  have KA := hid K.adr
  have KN := hid K.num
  have B0 := hid ((Below.refl w.heap.size w).alloc (Nat.le_refl _) (.cells #[.int .u32 0, .int .i64 0] 25))
  have X0 := hid (Box.made w #[.int .u32 0, .int .i64 0] 25)
  unfold CrPost pf
  clear K
  go_enter Tryd.func22, Tryd.ntmps22
  go_upto_region 1 with fail
  generalize w.alloc (.cells #[.int .u32 0, .int .i64 0] 25) = W at *
  go_upto_region 4 with (first | (go_at_call 39; ((with_reducible refine (KC.out W B0.out).mono ?_); rintro e w1 ⟨rfl, b1⟩; have X1 := hid (X0.out.next b1); have B1 := hid (B0.out.trans (b1.mono B0.out.size)); clear b1)) | (go_at_call 40; ((with_reducible refine (KA.out w1 B1.out).mono ?_); rintro e w2 ⟨rfl, b2⟩; have X2 := hid (X1.out.next b2); have B2 := hid (B1.out.trans (b2.mono B1.out.size)); clear b2)) | (go_at_call 41; ((with_reducible refine (KN.out w2 B2.out).mono ?_); rintro e w3 ⟨rfl, b3⟩; have X3 := hid (X2.out.next b3); have B3 := hid (B2.out.trans (b3.mono B2.out.size)); clear b3)))
  have bA := (Below.refl w3.heap.size w3).alloc (Nat.le_refl _) (.cells #[.int .u32 (a : Nat), .int .i64 (n : Nat)] 25)
  have PX := Box.made w3 #[.int .u32 (a : Nat), .int .i64 (n : Nat)] 25
  have X4 := hid (X3.out.next bA)
  have B4 := hid (B3.out.trans (bA.mono B3.out.size))
  clear bA X0 X1 X2 X3 B0 B1 B2 B3 KC KA KN
  go_upto_region 5 with fail
  generalize w3.alloc (.cells #[.int .u32 (a : Nat), .int .i64 (n : Nat)] 25) = W4 at *
  have p0 := PX.at_ 0 _ rfl
  have p1 := PX.at_ 1 _ rfl
  have y0 := X4.out.at_ 0 _ rfl
  have y1 := X4.out.at_ 1 _ rfl
  have g0 := X4.out.fr 0
  have g1 := X4.out.fr 1
  have Q0 := hid (((X4.out.set 0 (.int .u32 0)).set 1 (.int .i64 0)).at_ 0 (.int .u32 0) rfl)
  have Q1 := hid (((X4.out.set 0 (.int .u32 0)).set 1 (.int .i64 0)).at_ 1 (.int .i64 0) rfl)
  have BZ := hid ((B4.out.setCell (p := ⟨w.heap.size, 0, none⟩) (Nat.le_refl _) (.int .u32 0)).setCell (p := ⟨w.heap.size, 1, none⟩) (Nat.le_refl _) (.int .i64 0))
  go_wp2_with fail
  have q0 := Q0.out
  have q1 := Q1.out
  exact bodyPost_ret (v := .tuple #[.agg #[.int .u32 0, .int .i64 0], .int .i64 11]) (by simp [results, Tryd.results22, go_sem, q0, q1]) rfl ⟨rfl, BZ.out⟩
set_option maxHeartbeats 2000000 in
theorem cread_2 {s x y : ByteArray} {f : Bool} {a n : Nat} {w : World} (K : RdK s x y f a n 0 11 w) : Calls Tryd.prog 22 #[.string s] w (CrPost (pf 0 0) 11 w) := by
  have KC := hid K.cut
  have KA := hid K.adr
  have KN := hid K.num
  have B0 := hid ((Below.refl w.heap.size w).alloc (Nat.le_refl _) (.cells #[.int .u32 0, .int .i64 0] 25))
  have X0 := hid (Box.made w #[.int .u32 0, .int .i64 0] 25)
  unfold CrPost pf
  clear K
  go_enter Tryd.func22, Tryd.ntmps22
  go_upto_region 1 with fail
  generalize w.alloc (.cells #[.int .u32 0, .int .i64 0] 25) = W at *
  go_upto_region 4 with (first | (go_at_call 39; ((with_reducible refine (KC.out W B0.out).mono ?_); rintro e w1 ⟨rfl, b1⟩; have X1 := hid (X0.out.next b1); have B1 := hid (B0.out.trans (b1.mono B0.out.size)); clear b1)) | (go_at_call 40; ((with_reducible refine (KA.out w1 B1.out).mono ?_); rintro e w2 ⟨rfl, b2⟩; have X2 := hid (X1.out.next b2); have B2 := hid (B1.out.trans (b2.mono B1.out.size)); clear b2)) | (go_at_call 41; ((with_reducible refine (KN.out w2 B2.out).mono ?_); rintro e w3 ⟨rfl, b3⟩; have X3 := hid (X2.out.next b3); have B3 := hid (B2.out.trans (b3.mono B2.out.size)); clear b3)))
  have bA := (Below.refl w3.heap.size w3).alloc (Nat.le_refl _) (.cells #[.int .u32 (a : Nat), .int .i64 (n : Nat)] 25)
  have PX := Box.made w3 #[.int .u32 (a : Nat), .int .i64 (n : Nat)] 25
  have X4 := hid (X3.out.next bA)
  have B4 := hid (B3.out.trans (bA.mono B3.out.size))
  clear bA X0 X1 X2 X3 B0 B1 B2 B3 KC KA KN
  go_upto_region 5 with fail
  generalize w3.alloc (.cells #[.int .u32 (a : Nat), .int .i64 (n : Nat)] 25) = W4 at *
  have p0 := PX.at_ 0 _ rfl
  have p1 := PX.at_ 1 _ rfl
  have y0 := X4.out.at_ 0 _ rfl
  have y1 := X4.out.at_ 1 _ rfl
  have g0 := X4.out.fr 0
  have g1 := X4.out.fr 1
  have Q0 := hid (((X4.out.set 0 (.int .u32 0)).set 1 (.int .i64 0)).at_ 0 (.int .u32 0) rfl)
  have Q1 := hid (((X4.out.set 0 (.int .u32 0)).set 1 (.int .i64 0)).at_ 1 (.int .i64 0) rfl)
  have BZ := hid ((B4.out.setCell (p := ⟨w.heap.size, 0, none⟩) (Nat.le_refl _) (.int .u32 0)).setCell (p := ⟨w.heap.size, 1, none⟩) (Nat.le_refl _) (.int .i64 0))
  go_wp2_with fail
  have q0 := Q0.out
  have q1 := Q1.out
  exact bodyPost_ret (v := .tuple #[.agg #[.int .u32 0, .int .i64 0], .int .i64 11]) (by simp [results, Tryd.results22, go_sem, q0, q1]) rfl ⟨rfl, BZ.out⟩
set_option maxHeartbeats 2000000 in
theorem cread_3 {s x y : ByteArray} {f : Bool} {a n : Nat} {w : World} (ha : a < 4294967296) (hr : rightB a (n : Nat) = false) (K : RdK s x y f a n 0 0 w) : Calls Tryd.prog 22 #[.string s] w (CrPost (pf 0 0) 11 w) := by
  have KC := hid K.cut
  have KA := hid K.adr
  have KN := hid K.num
  have B0 := hid ((Below.refl w.heap.size w).alloc (Nat.le_refl _) (.cells #[.int .u32 0, .int .i64 0] 25))
  have X0 := hid (Box.made w #[.int .u32 0, .int .i64 0] 25)
  unfold CrPost pf
  clear K
  go_enter Tryd.func22, Tryd.ntmps22
  go_upto_region 1 with fail
  generalize w.alloc (.cells #[.int .u32 0, .int .i64 0] 25) = W at *
  go_upto_region 4 with (first | (go_at_call 39; ((with_reducible refine (KC.out W B0.out).mono ?_); rintro e w1 ⟨rfl, b1⟩; have X1 := hid (X0.out.next b1); have B1 := hid (B0.out.trans (b1.mono B0.out.size)); clear b1)) | (go_at_call 40; ((with_reducible refine (KA.out w1 B1.out).mono ?_); rintro e w2 ⟨rfl, b2⟩; have X2 := hid (X1.out.next b2); have B2 := hid (B1.out.trans (b2.mono B1.out.size)); clear b2)) | (go_at_call 41; ((with_reducible refine (KN.out w2 B2.out).mono ?_); rintro e w3 ⟨rfl, b3⟩; have X3 := hid (X2.out.next b3); have B3 := hid (B2.out.trans (b3.mono B2.out.size)); clear b3)))
  have bA := (Below.refl w3.heap.size w3).alloc (Nat.le_refl _) (.cells #[.int .u32 (a : Nat), .int .i64 (n : Nat)] 25)
  have PX := Box.made w3 #[.int .u32 (a : Nat), .int .i64 (n : Nat)] 25
  have X4 := hid (X3.out.next bA)
  have B4 := hid (B3.out.trans (bA.mono B3.out.size))
  clear bA X0 X1 X2 X3 B0 B1 B2 B3 KC KA KN
  go_upto_region 5 with fail
  generalize w3.alloc (.cells #[.int .u32 (a : Nat), .int .i64 (n : Nat)] 25) = W4 at *
  have p0 := PX.at_ 0 _ rfl
  have p1 := PX.at_ 1 _ rfl
  have KR := hid (right_any a (n : Nat) ha W4)
  rw [hr] at KR
  unfold pf at KR
  clear hr
  go_upto_region 6 with (go_at_call 7; ((with_reducible refine KR.out.mono ?_); rintro e w5 ⟨rfl, b5⟩; have X5 := hid (X4.out.next b5); have B5 := hid (B4.out.trans (b5.mono B4.out.size)); have r0 := keep_cell b5 p0; have r1 := keep_cell b5 p1; clear b5))
  have y0 := X5.out.at_ 0 _ rfl
  have y1 := X5.out.at_ 1 _ rfl
  have g0 := X5.out.fr 0
  have g1 := X5.out.fr 1
  have Q0 := hid (((X5.out.set 0 (.int .u32 0)).set 1 (.int .i64 0)).at_ 0 (.int .u32 0) rfl)
  have Q1 := hid (((X5.out.set 0 (.int .u32 0)).set 1 (.int .i64 0)).at_ 1 (.int .i64 0) rfl)
  have BZ := hid ((B5.out.setCell (p := ⟨w.heap.size, 0, none⟩) (Nat.le_refl _) (.int .u32 0)).setCell (p := ⟨w.heap.size, 1, none⟩) (Nat.le_refl _) (.int .i64 0))
  go_wp2_with fail
  have q0 := Q0.out
  have q1 := Q1.out
  exact bodyPost_ret (v := .tuple #[.agg #[.int .u32 0, .int .i64 0], .int .i64 11]) (by simp [results, Tryd.results22, go_sem, q0, q1]) rfl ⟨rfl, BZ.out⟩
set_option maxHeartbeats 2000000 in
theorem cread_4 {s x y : ByteArray} {f : Bool} {a n : Nat} {w : World} (ha : a < 4294967296) (hr : rightB a (n : Nat) = true) (K : RdK s x y f a n 0 0 w) : Calls Tryd.prog 22 #[.string s] w (CrPost (pf a (n : Nat)) 0 w) := by
  have KC := hid K.cut
  have KA := hid K.adr
  have KN := hid K.num
  have B0 := hid ((Below.refl w.heap.size w).alloc (Nat.le_refl _) (.cells #[.int .u32 0, .int .i64 0] 25))
  have X0 := hid (Box.made w #[.int .u32 0, .int .i64 0] 25)
  unfold CrPost pf
  clear K
  go_enter Tryd.func22, Tryd.ntmps22
  go_upto_region 1 with fail
  generalize w.alloc (.cells #[.int .u32 0, .int .i64 0] 25) = W at *
  go_upto_region 4 with (first | (go_at_call 39; ((with_reducible refine (KC.out W B0.out).mono ?_); rintro e w1 ⟨rfl, b1⟩; have X1 := hid (X0.out.next b1); have B1 := hid (B0.out.trans (b1.mono B0.out.size)); clear b1)) | (go_at_call 40; ((with_reducible refine (KA.out w1 B1.out).mono ?_); rintro e w2 ⟨rfl, b2⟩; have X2 := hid (X1.out.next b2); have B2 := hid (B1.out.trans (b2.mono B1.out.size)); clear b2)) | (go_at_call 41; ((with_reducible refine (KN.out w2 B2.out).mono ?_); rintro e w3 ⟨rfl, b3⟩; have X3 := hid (X2.out.next b3); have B3 := hid (B2.out.trans (b3.mono B2.out.size)); clear b3)))
  have bA := (Below.refl w3.heap.size w3).alloc (Nat.le_refl _) (.cells #[.int .u32 (a : Nat), .int .i64 (n : Nat)] 25)
  have PX := Box.made w3 #[.int .u32 (a : Nat), .int .i64 (n : Nat)] 25
  have X4 := hid (X3.out.next bA)
  have B4 := hid (B3.out.trans (bA.mono B3.out.size))
  clear bA X0 X1 X2 X3 B0 B1 B2 B3 KC KA KN
  go_upto_region 5 with fail
  generalize w3.alloc (.cells #[.int .u32 (a : Nat), .int .i64 (n : Nat)] 25) = W4 at *
  have p0 := PX.at_ 0 _ rfl
  have p1 := PX.at_ 1 _ rfl
  have KR := hid (right_any a (n : Nat) ha W4)
  rw [hr] at KR
  unfold pf at KR
  clear hr
  go_upto_region 7 with (go_at_call 7; ((with_reducible refine KR.out.mono ?_); rintro e w5 ⟨rfl, b5⟩; have X5 := hid (X4.out.next b5); have B5 := hid (B4.out.trans (b5.mono B4.out.size)); have r0 := keep_cell b5 p0; have r1 := keep_cell b5 p1; clear b5))
  have y0 := X5.out.at_ 0 _ rfl
  have y1 := X5.out.at_ 1 _ rfl
  have g0 := X5.out.fr 0
  have g1 := X5.out.fr 1
  have Q0 := hid (((X5.out.set 0 (.int .u32 (a : Nat))).set 1 (.int .i64 (n : Nat))).at_ 0 (.int .u32 (a : Nat)) rfl)
  have Q1 := hid (((X5.out.set 0 (.int .u32 (a : Nat))).set 1 (.int .i64 (n : Nat))).at_ 1 (.int .i64 (n : Nat)) rfl)
  have BZ := hid ((B5.out.setCell (p := ⟨w.heap.size, 0, none⟩) (Nat.le_refl _) (.int .u32 (a : Nat))).setCell (p := ⟨w.heap.size, 1, none⟩) (Nat.le_refl _) (.int .i64 (n : Nat)))
  go_wp2_with fail
  have q0 := Q0.out
  have q1 := Q1.out
  exact bodyPost_ret (v := .tuple #[.agg #[.int .u32 (a : Nat), .int .i64 (n : Nat)], .int .i64 0]) (by simp [results, Tryd.results22, go_sem, q0, q1]) rfl ⟨rfl, BZ.out⟩
end Go.Proofs.YtnfklhebcloolabDoor.cic
