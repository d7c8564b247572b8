/- catwalk's catwalklaw06.AddrTexts answers true at every input, and leaves its arguments as they were. No condition. -/
import Derived.Test.YtjcmceomhocmpaaDoorRows
import Derived.WalkKit
import Derived.ProofKit
import Derived.OpenShut
import Derived.ShutString
import Derived.ChangeOld
import Derived.Below
import Derived.Test.YtjcmceomhocmpaaDoorTie
import Derived.Test.YtjcmceomhocmpaaDoorCards
import Derived.LaidMore
import Derived.LaidLaws
import Derived.Stop.Joined
import Derived.SevenTiedAt
import Derived.Lay
import Derived.Test.YtjcmceomhocmpaaDoorAdT
import Derived.Test.YtjcmceomhocmpaaDoorArr
import Derived.Test.YtjcmceomhocmpaaDoorDoorS
import Derived.Deep.DeepCutAuto
import Derived.Lib.LaidTab
namespace Go.Proofs.YtjcmceomhocmpaaDoor.addrTexts
open Go.ChangeShapes Go.WideShapes Go.ChangeAt Go.RowKit
open Go.ChangeMaps (open_string shut_string)
set_option linter.unusedVariables false

theorem own : ownKnob Tryd.prog.godebug = none := by kernel_rfl
theorem laidOut : laidOutB Tryd.prog = true := by kernel_rfl

open Go.Proofs.YtjcmceomhocmpaaDoor.kit Go.Proofs.YtjcmceomhocmpaaDoor.adc Go.Proofs.YtjcmceomhocmpaaDoor.nmc Go.Proofs.YtjcmceomhocmpaaDoor.nmm Go.Proofs.YtjcmceomhocmpaaDoor.spc
theorem laid_texts {W : World} (h : laidMetH Tryd.prog Rows.addrTextsRow.laid W) : LaidF W := by
  rw [MakeChecks.laidMetH_plain _ _ _ (by kernel_rfl)] at h
  obtain ⟨ps, ⟨g0, t0, cs0, f0, p0, q0, hg0, ht0, hv0, hd0, ⟨g1, t1, cs1, f1, p1, q1, hg1, ht1, hv1, hd1, ⟨g2, t2, cs2, f2, p2, q2, hg2, ht2, hv2, hd2, ⟨g3, t3, cs3, f3, p3, q3, hg3, ht3, hv3, hd3, ⟨g4, t4, cs4, f4, p4, q4, hg4, ht4, hv4, hd4, ⟨g5, t5, cs5, f5, p5, q5, hg5, ht5, hv5, hd5, _, _⟩, _⟩, _⟩, _⟩, _⟩, _⟩, _, _⟩ := h
  have e2 : Tryd.prog.globalNamed "internal/strconv.uint64pow10" = some 3 := by kernel_rfl
  have e3 : Tryd.prog.globalNamed "strconv.ErrRange" = some 1 := by kernel_rfl
  have e4 : Tryd.prog.globalNamed "strconv.ErrSyntax" = some 0 := by kernel_rfl
  obtain rfl := Option.some.inj (e2.symm.trans hg2)
  obtain rfl := Option.some.inj (e3.symm.trans hg4)
  obtain rfl := Option.some.inj (e4.symm.trans hg5)
  have u2 : (Tryd.prog.globals[3]?).map (·.type) = some 108 := by kernel_rfl
  have u3 : (Tryd.prog.globals[1]?).map (·.type) = some 52 := by kernel_rfl
  have u4 : (Tryd.prog.globals[0]?).map (·.type) = some 52 := by kernel_rfl
  obtain rfl := Option.some.inj (u2.symm.trans ht2)
  obtain rfl := Option.some.inj (u3.symm.trans ht4)
  obtain rfl := Option.some.inj (u4.symm.trans ht5)
  have c2 : cs2 = (Lib.pow10Tab.map fun z => Value.int .u64 z).toArray := by
    have hd : DataW.trod _ Tryd.prog W 0 _ false f2 108 cs2.toList = some (Lib.tabData .u64 Lib.pow10Tab, p2) := hd2
    have := Lib.cells_of_tab Tryd.underlying108 Tryd.underlying63 (by kernel_rfl) (by kernel_rfl) hd
    rw [← this]
  obtain ⟨_, tp3, v3, c3, _, _⟩ := iface_of_trod Tryd.underlying52 hd4
  obtain ⟨_, tp4, v4, c4, _, _⟩ := iface_of_trod Tryd.underlying52 hd5
  refine ⟨?_, ⟨tp4, v4, ?_⟩, ⟨tp3, v3, ?_⟩⟩
  · unfold Lib.TabIs; rw [← c2]; exact hv2
  · have : cs5 = #[.iface tp4 v4] := by cases cs5; simp at c4; rw [c4]
    rw [← this]; exact hv5
  · have : cs4 = #[.iface tp3 v3] := by cases cs4; simp at c3; rw [c3]
    rw [← this]; exact hv4
theorem max_cell {w : World} (hS : w.ShapedOpen Tryd.prog) : ∃ m, w.cell? ⟨2, 0, none⟩ = some (.int .i64 m) :=
  Go.Proofs.cell_of_shapedOpen_int (zero := #[.int .i64 0]) (t := 3) hS (of_decide_eq_true (by kernel_rfl)) (by kernel_rfl) rfl (by kernel_rfl) (by kernel_rfl) Tryd.underlying3
theorem spU_le (c : UInt8) (l : List UInt8) : ∀ one, ∀ p ∈ spU c l one, p.length ≤ one.length + l.length := by
  induction l with
  | nil => intro one p hp; simp [spU] at hp; rw [hp]; simp
  | cons x r ih =>
    intro one p hp
    unfold spU at hp
    split at hp
    · rcases List.mem_cons.1 hp with rfl | hp
      · simp
      · have := ih [] p hp; simp at this ⊢; omega
    · have := ih _ p hp; simp at this ⊢; omega
theorem adr_yes {P : List (List UInt8)} {ok no : Value} {w w' : World} {e : Ending} {a : Nat} (h : AdrPost P ok no w e w') (ha : Adr P a) : e = .returned (.tuple #[.int .u32 (a : Nat), ok]) ∧ Below w.heap.size w w' := by
  obtain ⟨hb, ⟨x, hx, he⟩ | ⟨hno, _⟩⟩ := h
  · rw [adr_same ha hx]; exact ⟨he, hb⟩
  · exact absurd ⟨a, ha⟩ hno
theorem adr_not {P : List (List UInt8)} {ok no : Value} {w w' : World} {e : Ending} (h : AdrPost P ok no w e w') (ha : ¬ ∃ a, Adr P a) : e = .returned (.tuple #[.int .u32 0, no]) ∧ Below w.heap.size w w' := by
  obtain ⟨hb, ⟨x, hx, _⟩ | ⟨hno, he⟩⟩ := h
  · exact absurd ⟨x, hx⟩ ha
  · exact ⟨he, hb⟩
theorem dec_free (n : Nat) (c : UInt8) (hc : c.toNat < 48) : c ∉ Go.Lib.decDigits n := fun hm => by have := (dec_digit n c hm).1; omega
theorem by_sum (x : Nat) (hx : x ≤ 4294967295) : x = ((by_ x 0 * 256 + by_ x 1) * 256 + by_ x 2) * 256 + by_ x 3 := by unfold by_; omega
theorem addr_list (x : Nat) : (addrT x).data.toList = Go.Lib.decDigits (by_ x 0) ++ 46 :: (Go.Lib.decDigits (by_ x 1) ++ 46 :: (Go.Lib.decDigits (by_ x 2) ++ 46 :: Go.Lib.decDigits (by_ x 3))) := by
  unfold addrT parts
  simp only [List.map]
  rw [join4]
  unfold decS
  simp
theorem adr_text (x : Nat) (hx : x ≤ 4294967295) : Adr (spU 46 (addrT x).data.toList []) x := by
  refine ⟨by_ x 0, by_ x 1, by_ x 2, by_ x 3, by have := by_lt x 0; omega, by have := by_lt x 1; omega, by have := by_lt x 2; omega, by have := by_lt x 3; omega, ?_, by_sum x hx⟩
  rw [addr_list, spU_at _ _ _ (dec_free _ _ (by decide)), spU_at _ _ _ (dec_free _ _ (by decide)), spU_at _ _ _ (dec_free _ _ (by decide)), spU_free _ _ (dec_free _ _ (by decide))]
  rfl
theorem addr_short (a : Nat) : (addrT a).size ≤ 1000 := by
  have e : (addrT a).size = (addrT a).data.toList.length := rfl
  rw [e, addr_list]
  have h0 := dec_len _ 3 (by decide) (show by_ a 0 < 10 ^ 3 by have := by_lt a 0; omega)
  have h1 := dec_len _ 3 (by decide) (show by_ a 1 < 10 ^ 3 by have := by_lt a 1; omega)
  have h2 := dec_len _ 3 (by decide) (show by_ a 2 < 10 ^ 3 by have := by_lt a 2; omega)
  have h3 := dec_len _ 3 (by decide) (show by_ a 3 < 10 ^ 3 by have := by_lt a 3; omega)
  simp only [List.length_append, List.length_cons]
  omega

set_option maxHeartbeats 4000000 in
set_option maxRecDepth 100000 in
/-- the walk: true, and nothing that was there has turned -/
theorem walk {H : Type} {enc : TypeId × Value → H} {base : Nat} (a0 : Int) (a1 : ByteArray) (w : World) (w0 : (Lit.int .u32 a0).wf = true) (w1 : a1.size ≤ maxLen) (hS : w.ShapedOpen Tryd.prog) (hL : laidMetH Tryd.prog Rows.addrTextsRow.laid w) :
    Calls Tryd.prog 3 #[.int .u32 a0, .string a1] w fun e w' => e = .returned (.bool true) ∧ Below w.heap.size w w' := by
  have L := laid_texts hL
  obtain ⟨m, hm⟩ := max_cell hS
  clear hL hS
  obtain ⟨x, rfl⟩ : ∃ x : Nat, a0 = x := ⟨a0.toNat, by have := wf_u32 w0; omega⟩
  have hxl : x ≤ 4294967295 := by have := wf_u32 w0; omega
  clear w0
  unfold maxLen at w1
  by_cases hbig : 100 < a1.size
  · have hbg : 100 < (a1.size : Int) := by omega
    clear L hm
    go_enter Tryd.func3, Tryd.ntmps3
    go_wp2
    go_ret
    exact ⟨rfl, Below.refl _ _⟩
  · have hbg : ¬ 100 < (a1.size : Int) := by omega
    have CR := hid (fun (s : ByteArray) (hs : s.size ≤ 1000) (M : World) (h : Below w.heap.size w M) => read_any s hs m M (keep_cell h hm) (L.next h) (fun p hp => by have := spU_le 46 _ [] p hp; have e : s.size = s.data.toList.length := rfl; simp only [List.length_nil] at this; omega))
    have RR := hid (fun (s : ByteArray) (hs : s.size ≤ 1000) (M : World) => rread_any s hs M (fun p hp => by have := spU_le 46 _ [] p hp; have e : s.size = s.data.toList.length := rfl; simp only [List.length_nil] at this; omega))
    have hS2 : ∃ (q : Nat) (e : Int) (ok : Bool), ((e = 0 ∧ ok = true) ∨ (e = 11 ∧ ok = false)) ∧ (∀ M, Below w.heap.size w M → Calls Tryd.prog 5 #[.string a1] M fun y w' => y = .returned (.tuple #[.int .u32 (q : Nat), .int .i64 e]) ∧ Below M.heap.size M w') ∧ (∀ M, Calls Tryd.prog 6 #[.string a1] M fun y w' => y = .returned (.tuple #[.int .u32 (q : Nat), .bool ok]) ∧ Below M.heap.size M w') := by
      by_cases hP : ∃ a, Adr (spU 46 a1.data.toList []) a
      · obtain ⟨q, hp⟩ := hP
        exact ⟨q, 0, true, .inl ⟨rfl, rfl⟩, fun M h => (CR.out a1 (by omega) M h).mono fun y w' k => adr_yes k hp, fun M => (RR.out a1 (by omega) M).mono fun y w' k => adr_yes k hp⟩
      · exact ⟨0, 11, false, .inr ⟨rfl, rfl⟩, fun M h => (CR.out a1 (by omega) M h).mono fun y w' k => adr_not k hP, fun M => (RR.out a1 (by omega) M).mono fun y w' k => adr_not k hP⟩
    obtain ⟨q, e, ok, HEO, KR, KR2⟩ := hS2
    have KR := hid KR
    have KR2 := hid KR2
    have KB := hid (fun (M : World) (h : Below w.heap.size w M) => (CR.out (addrT x) (addr_short x) M h).mono fun y w' k => adr_yes k (adr_text x hxl))
    have KT := hid (fun (M : World) (h : Below w.heap.size w M) => text_any x hxl M (L.next h).tab)
    have KT2 := hid (fun (M : World) => rtext_any x hxl M)
    have KY := hid (fun (M : World) => bytes_any x hxl M)
    have KY2 := hid (fun (M : World) => ref_bytes x hxl M)
    have KO := hid (fun (M : World) => by
      have := of_any (by_ x 0) (by_ x 1) (by_ x 2) (by_ x 3) (by_lt x 0) (by_lt x 1) (by_lt x 2) (by_lt x 3) M
      rw [← by_sum x hxl] at this
      exact this)
    have KA := hid (fun (M : World) (h : Below w.heap.size w M) => alive_any M (L.next h).tab)
    have E1 := fun M : World => arr_same 4 30 Tryd.underlying30 [((by_ x 0 : Nat) : Int), ((by_ x 1 : Nat) : Int), ((by_ x 2 : Nat) : Int), ((by_ x 3 : Nat) : Int)] rfl M
    have G1 : Tryd.prog.eqGuardType Tryd.prog.depth 30 = false := by kernel_rfl
    have E1 : ∀ M : World, (Op.equalIn 10000 30 (.agg (arr4 x)) (.agg (arr4 x))).run Tryd.prog M = .ok true M := E1
    have KO : Hid (∀ M : World, Calls Tryd.prog 10 #[.agg (arr4 x)] M fun e w' => e = .returned (.int .u32 (x : Nat)) ∧ Below M.heap.size M w') := KO
    generalize arr4 x = ar at *
    generalize addrT x = t at *
    have B0 := hid (Below.refl w.heap.size w)
    clear L hm CR RR hbig w1
    rcases HEO with ⟨rfl, rfl⟩ | ⟨rfl, rfl⟩
    all_goals
      go_enter Tryd.func3, Tryd.ntmps3
      go_upto_region 8 with (first | (go_at_call 5; ((with_reducible refine (KR.out w B0.out).mono ?_); rintro y w1 ⟨rfl, b1⟩; have B1 := hid (B0.out.trans (b1.mono B0.out.size)); clear b1)) | (go_at_call 6; ((with_reducible refine (KR2.out w1).mono ?_); rintro y w2 ⟨rfl, b1⟩; have B2 := hid (B1.out.trans (b1.mono B1.out.size)); clear b1)) | (go_at_call 7; ((with_reducible refine (KT.out w2 B2.out).mono ?_); rintro y w3 ⟨rfl, b1⟩; have B3 := hid (B2.out.trans (b1.mono B2.out.size)); clear b1)) | (go_at_call 5; ((with_reducible refine (KB.out w3 B3.out).mono ?_); rintro y w4 ⟨rfl, b1⟩; have B4 := hid (B3.out.trans (b1.mono B3.out.size)); clear b1)))
      clear KR KR2 KB
      go_wp2_with (first | (go_at_call 8; ((with_reducible refine (KY.out w4).mono ?_); rintro y w5 ⟨rfl, b1⟩; have B5 := hid (B4.out.trans (b1.mono B4.out.size)); clear b1)) | (go_at_call 9; ((with_reducible refine (KY2.out w5).mono ?_); rintro y w6 ⟨rfl, b1⟩; have B6 := hid (B5.out.trans (b1.mono B5.out.size)); clear b1)) | (go_at_call 8; ((with_reducible refine (KY.out w6).mono ?_); rintro y w7 ⟨rfl, b1⟩; have B7 := hid (B6.out.trans (b1.mono B6.out.size)); clear b1)) | (go_at_call 10; ((with_reducible refine (KO.out w7).mono ?_); rintro y w8 ⟨rfl, b1⟩; have B8 := hid (B7.out.trans (b1.mono B7.out.size)); clear b1)) | (go_at_call 7; ((with_reducible refine (KT.out w8 B8.out).mono ?_); rintro y w9 ⟨rfl, b1⟩; have B9 := hid (B8.out.trans (b1.mono B8.out.size)); clear b1)) | (go_at_call 11; ((with_reducible refine (KT2.out w9).mono ?_); rintro y wa ⟨rfl, b1⟩; have BA := hid (B9.out.trans (b1.mono B9.out.size)); clear b1)) | (go_at_call 12; ((with_reducible refine (KA.out wa BA.out).mono ?_); rintro y wb ⟨rfl, b1⟩; have BB := hid (BA.out.trans (b1.mono BA.out.size)); clear b1)))
      go_ret
      exact ⟨rfl, BB.out⟩
set_option maxRecDepth 100000 in
theorem lifted (os : Os) (started : os.Started) (H : Type) (enc : TypeId × Value → H) :
    ReturnsInHanded {} Tryd.checked os 3 .any (fun w args => (Rows.addrTextsSpec.pre enc Tryd.prog Tryd.f3 Rows.addrTextsRow.domain false w args ∧ laidMetH Tryd.prog Rows.addrTextsRow.laid w) ∧ sizedMet enc Tryd.prog Tryd.f3 (OpenSpec.ofChange Rows.addrTextsSpec) false w args) (Rows.addrTextsSpec.post enc Tryd.prog Tryd.f3 false true false false) := by
  refine kit.returns_shaped (C := Tryd.checked) (X := fun w _ => laidMetH Tryd.prog Rows.addrTextsRow.laid w) (fun _ _ _ hh h => h.of_heap hh) own started (by kernel_rfl) Tryd.func3
    (ChangeSpec.witness_shaped (enc := enc) (C := Tryd.checked) (os := os) (X := fun w _ => laidMetH Tryd.prog Rows.addrTextsRow.laid w) false (World.laidAll Tryd.prog os Rows.addrTextsRow.laid) #[.int .u32 0, .string ByteArray.empty] 8 (World.laidAll_os _ _ _) (World.shaped_of_ZipB (by kernel_rfl) (by kernel_rfl)) (by kernel_rfl) (by kernel_rfl) (by kernel_rfl) (by rw [MakeChecks.laidMetH_plain _ _ _ (by kernel_rfl)]; exact laidMet_laidAll _ (by kernel_rfl) (by kernel_rfl))) ?_
  intro W base args ds gs before hS hval0 hW hL
  have hval : ∀ (j : Nat) t v, Tryd.f3.params[j]? = some t → args[j]? = some v → Value.okWide Tryd.prog W .any base t v := hval0
  have hW' := hW
  obtain ⟨p, q, hA0, hV, rfl, hfz, hnd⟩ := hW
  have hA : DataW.TrodAll enc Tryd.prog W 0 (fun _ => true) true Tryd.f3.params.toList args.toList ds p := hA0
  rw [Tryd.params3] at hA hval
  obtain ⟨v0, vs0, d0, ds0, p0, q0, hargs, rfl, rfl, h0, r0⟩ := trodAll_cons hA
  obtain ⟨v1, vs1, d1, ds1, p1, q1, rfl, rfl, rfl, h1, r1⟩ := trodAll_cons r0
  obtain ⟨rfl, rfl, rfl⟩ := trodAll_nil r1
  obtain rfl : args = #[v0, v1] := by cases args; simp_all
  obtain ⟨rfl, rfl⟩ := trodVars_none hV
  obtain ⟨a0, rfl, rfl, rfl, w0⟩ := open_int Tryd.underlying23 (hval 0 23 v0 rfl rfl) h0
  obtain ⟨a1, rfl, rfl, rfl, w1⟩ := open_string Tryd.underlying9 (hval 1 9 v1 rfl rfl) h1
  clear hA0 hval0
  refine (walk (H := H) (enc := enc) (base := base) a0 a1 W w0 w1 hS hL).mono fun e W' ⟨he, bel⟩ => ?_
  subst he
  exact ⟨_, rfl, _, _, _, [], _, [], hW', trodAll_mk1 (shut_bool Tryd.underlying4 _), (trodAll_cons_mk (shut_int Tryd.underlying23 w0) (trodAll_cons_mk (shut_string Tryd.underlying9 w1) trodAll_mk0)), rfl, bel.frame _, fun h => by cases h⟩

theorem over : Rows.addrTextsRow.holds Tryd.pinned (OpenSpec.ofChange Rows.addrTextsSpec) :=
  OpenClaim.holds_of_wide 3 Tryd.f3 rfl rfl rfl rfl rfl rfl rfl ⟨rfl, rfl, rfl, rfl, rfl⟩ rfl rfl rfl rfl rfl (by kernel_rfl) Tryd.func3 (by kernel_rfl)
    (of_decide_eq_true (by kernel_rfl)) (by unfold Func.isWrapper; first | (rw [if_pos (by decide +kernel)]; kernel_rfl) | (rw [if_neg (by decide +kernel)]; exact ⟨rfl, rfl⟩))
    (fun os started H enc _ => lifted os started H enc)

/-- the statement: the card -/
theorem proved : Rows.AddrTextsCardSaid :=
  Claim7.holds_tied_plain_at .later [] [.data, .data, .data, .data, .sentinel, .sentinel, .pinned] true (true, "6fe1c6155cbb6149b01d4f4e25e4a8a23bc45326a7bed15d49a19d04146d314b") true
    over (fun _ h => by cases h) (by kernel_rfl) (fun _ h => by cases h) addrTexts_row_tie rfl ⟨rfl, rfl⟩ (by kernel_rfl) rfl
    (fun f fn hf hfn => by
      obtain rfl : f = 3 := Option.some.inj ((show Tryd.prog.funcNamed "catwalk/catwalklaw06.AddrTexts" = some 3 by kernel_rfl).symm.trans hf) |>.symm
      obtain rfl : fn = Tryd.f3 := (Option.some.inj (Tryd.func3.symm.trans hfn)).symm
      exact ⟨by kernel_rfl, fun j t ht => by
        rw [Tryd.params3] at ht
        have hm : t ∈ [23, 9] := by simpa using Array.mem_of_getElem? ht
        have hall : ([23, 9].all fun u => !Tryd.prog.wantsStandIn u) = true := by kernel_rfl
        exact (show Tryd.prog.wantsStandIn t = false by simpa using List.all_eq_true.1 hall t hm)⟩)
    (by kernel_rfl)
end Go.Proofs.YtjcmceomhocmpaaDoor.addrTexts
