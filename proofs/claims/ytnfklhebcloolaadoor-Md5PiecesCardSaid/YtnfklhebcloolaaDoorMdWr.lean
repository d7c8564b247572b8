/- More bytes into a Hash. -/
import Derived.Test.YtnfklhebcloolaaDoorMdBk
import Derived.Test.YtnfklhebcloolaaDoorSlice8
import Derived.Laws.CopyOwn
import Derived.Laws.IdiomCopy
namespace Go.Proofs.YtnfklhebcloolaaDoor.mdc
open Go.RowKit
open Go.Proofs.YtnfklhebcloolaaDoor.kit Go.Proofs.YtnfklhebcloolaaDoor.mdm
set_option linter.unusedVariables false
set_option linter.unusedSimpArgs false
set_option maxRecDepth 20000
/-- cs laid over L from place o on -/
def spl {α : Type} (L : List α) (o : Nat) (cs : List α) : List α := L.take o ++ (cs ++ L.drop (o + cs.length))
theorem spl_nil {α : Type} (L : List α) (o : Nat) : spl L o [] = L := by simp [spl]
theorem spl_cons {α : Type} (L : List α) (o : Nat) (v : α) (cs : List α) (h : o < L.length) : spl (L.set o v) (o + 1) cs = spl L o (v :: cs) := by
  unfold spl
  rw [List.drop_set_of_lt (by omega), List.take_add_one, List.getElem?_set_self h, List.take_set_of_le (by omega)]
  simp [Nat.add_assoc, Nat.add_comm 1]
theorem Box.setCells {g : Nat} (cs : List Value) : ∀ (w : World) (vs : List Value) (o : Nat), Box w g vs → o + cs.length ≤ vs.length → Box (w.setCells g o cs) g (spl vs o cs) ∧ w.grownBy (w.setCells g o cs) (some g) := by
  induction cs with
  | nil => intro w vs o h _; rw [spl_nil]; exact ⟨h, World.grownBy.refl _ _⟩
  | cons v cs ih =>
    intro w vs o h hf
    simp only [List.length_cons] at hf
    have h1 := h.set o v
    obtain ⟨h2, h3⟩ := ih _ _ (o + 1) h1 (by rw [List.length_set]; omega)
    rw [spl_cons _ _ _ _ (by omega)] at h2
    exact ⟨h2, gb_trans (gb_setCell (World.grownBy.refl w (some g)) (p := ⟨g, o, none⟩) rfl v) h3⟩
/-- 'copy' into a block that is known -/
theorem wpList_copy_box {P : Program} {w : World} {ops : Array Oper} {rest : List Oper} {o : Oper} {a : Act} {Q : Exit → Act → World → Prop} (hgd : o.guard = none) (d s : Operand) (dT sT : TypeId)
    (ho : o.op = .call { callee := .builtin .copy, args := #[d, s], argTypes := #[dT, sT] }) (elem : TypeId) (hu : P.underlying dT = some (.slice elem)) (hsz : (P.info? elem).map (·.size) = some 1)
    (g off dLen dCap : Nat) (ad : Addr) (sLen sCap : Nat) (hd : a.eval d = .slice (some ⟨g, off, none⟩) dLen dCap) (hs : a.eval s = .slice (some ad) sLen sCap)
    (vs : List Value) (hB : Box w g vs) (cs : List Value) (hn : cs.length = Nat.min sLen dLen)
    (hsrc : ∀ j v, cs[j]? = some v → w.cell? (ad.add j) = some v) (hfit : off + cs.length ≤ vs.length) (h1 : ∀ v ∈ cs, v.oneCell' = true)
    (h : ∀ w', Hid (Box w' g (spl vs off cs)) → Hid (w.grownBy w' (some g)) → wpList P ops Q rest (a.put o.dst (goInt cs.length)) w') : wpList P ops Q (o :: rest) a w := by
  refine wpList_plain hgd fun K hK => ?_
  have hrun := run_copy_cells (P := P) w dT sT o.type elem g off dLen dCap ad sLen sCap cs hu hsz hn hsrc
    (fun j hj => by have : off + j < vs.length := by omega
                    rw [hB.at_ (off + j) _ (List.getElem?_eq_getElem this)]; rfl) (fun j _ => hB.fr _) h1
  obtain ⟨b1, b2⟩ := Box.setCells cs w vs off hB hfit
  unfold Oper.wp
  simp [execOp, ho, resolve, invoke, builtin, hd, hs, hrun, Result.andThen]
  exact hK _ _ (h _ b1 b2)
/-- the Hash in block g has taken the bytes l -/
structure Hs (w : World) (g : Nat) (l : List Int) (x : Q4) (P : List Int) : Prop where
  box : Box w g (hv x P l.length)
  ok : x.ok
  oct : Oct P
  len : P.length = 64
  nums : add4 mdm.start x = blks mdm.start (l.length / 64) l
  rest : P.take (l.length % 64) = l.drop (64 * (l.length / 64))
theorem hv_spl (x : Q4) (P cs : List Int) (t o : Nat) (hP : P.length = 64) (h : o + cs.length ≤ 64) : spl (hv x P t) (4 + o) (cs.map (Value.int .u8)) = hv x (spl P o cs) t := by
  unfold hv spl b16
  have e4 : (q4 .u32 x).length = 4 := rfl
  rw [List.append_assoc, List.take_append, List.drop_append, e4, List.take_of_length_le (by omega), List.drop_eq_nil_of_le (by omega)]
  rw [show 4 + o - 4 = o by omega, show 4 + o + (cs.map (Value.int .u8)).length - 4 = o + cs.length by simp; omega]
  rw [List.take_append_of_le_length (by simp; omega), List.drop_append_of_le_length (by simp; omega)]
  simp [List.append_assoc]
theorem hv_take (x : Q4) (P : List Int) (t t' : Nat) (hP : P.length = 64) : (hv x P t).set 68 (.int .u64 (t' : Nat)) = hv x P t' := by
  unfold hv
  rw [List.set_append_right _ _ (by simp [q4, b16, hP])]
  simp [q4, b16, hP]
theorem spl_len {α : Type} (L : List α) (o : Nat) (cs : List α) (h : o + cs.length ≤ L.length) : (spl L o cs).length = L.length := by simp [spl]; omega
theorem spl_oct {P cs : List Int} (hP : Oct P) (hc : Oct cs) (o : Nat) : Oct (spl P o cs) := by
  intro x hx
  unfold spl at hx
  rcases List.mem_append.1 hx with hx | hx
  · exact hP x (List.mem_of_mem_take hx)
  · rcases List.mem_append.1 hx with hx | hx
    · exact hc x hx
    · exact hP x (List.mem_of_mem_drop hx)
theorem spl_take (P cs : List Int) (o : Nat) (h : o ≤ P.length) : (spl P o cs).take (o + cs.length) = P.take o ++ cs := by
  unfold spl
  rw [← List.append_assoc, List.take_left' (by simp; omega)]
/-- less than a block -/
theorem fill_part {l cs P : List Int} {x : Q4} (hn : add4 mdm.start x = blks mdm.start (l.length / 64) l) (hr : P.take (l.length % 64) = l.drop (64 * (l.length / 64))) (hP : P.length = 64) (h : l.length % 64 + cs.length < 64) :
    add4 mdm.start x = blks mdm.start ((l ++ cs).length / 64) (l ++ cs) ∧ (spl P (l.length % 64) cs).take ((l ++ cs).length % 64) = (l ++ cs).drop (64 * ((l ++ cs).length / 64)) := by
  have e1 : (l ++ cs).length / 64 = l.length / 64 := by simp; omega
  have e2 : (l ++ cs).length % 64 = l.length % 64 + cs.length := by simp; omega
  rw [e1, e2, blks_take _ _ _ _ (by omega), spl_take _ _ _ (by omega), hr, List.drop_append_of_le_length (by omega)]
  exact ⟨hn, rfl⟩
/-- a block is full -/
theorem fill_whole {l cs P : List Int} {x : Q4} (hn : add4 mdm.start x = blks mdm.start (l.length / 64) l) (hr : P.take (l.length % 64) = l.drop (64 * (l.length / 64))) (hP : P.length = 64) (h : l.length % 64 + cs.length = 64) :
    add4 mdm.start (add4 x (rnds (spl P (l.length % 64) cs) (add4 mdm.start x) 64)) = blks mdm.start ((l ++ cs).length / 64) (l ++ cs) ∧ (spl P (l.length % 64) cs).take ((l ++ cs).length % 64) = (l ++ cs).drop (64 * ((l ++ cs).length / 64)) := by
  have e1 : (l ++ cs).length / 64 = l.length / 64 + 1 := by simp; omega
  have e2 : (l ++ cs).length % 64 = 0 := by simp; omega
  have e3 : spl P (l.length % 64) cs = P.take (l.length % 64) ++ cs := by
    have := spl_take P cs (l.length % 64) (by omega)
    rw [h, List.take_of_length_le (by rw [spl_len _ _ _ (by omega)]; omega)] at this
    exact this
  rw [e1, e2, add_blk, hn, e3, hr]
  refine ⟨?_, ?_⟩
  · rw [blks_snoc, blks_take _ _ _ _ (by omega), List.drop_append_of_le_length (by omega), List.take_of_length_le (by simp; omega)]
  · rw [List.take_zero, List.drop_eq_nil_of_le (by simp; omega)]
end Go.Proofs.YtnfklhebcloolaaDoor.mdc
