/- A region that draws its order, walked by hand up to a call that writes; what is left of it, once it only reads, in the order of the text. -/
import Derived.Test.YtnokfpojgmndmaaNums
import Derived.BigQuiet
import Derived.Deep.RegionWith
import Derived.Deep.RegionLaw
namespace Go.Proofs.Ytnokfpojgmndmaa.kit
open Go.RowKit
set_option linter.unusedVariables false

/-- what is left of a region only reads: one walk, in the order of the text -/
theorem wpAny_rest {P : Program} {ops : Array Oper} {Q : Exit → Act → World → Prop} (l : List Oper) (k fuel : Nat) {listed : Array Bool} {a : Act} {w : World} (hs : Region.noSelect ops = true) (hl : l = ops.toList.drop k) (hf : l.length = fuel)
    (hB : Region.lexFrom .any ops fuel k listed = true)
    (h : wpQuiet P ops (fun w' => ∃ n, w' = w.drewN n) (fun a' => ∀ w', (∃ n, w' = w.drewN n) → Q .normal a' w') l a) : wpAny P .any ops Q fuel listed a w := by
  refine wpAny_of_quiet (C := fun w' => ∃ n, w' = w.drewN n) (Q := fun a' => ∀ w', (∃ n, w' = w.drewN n) → Q .normal a' w') (fun _ w' hw' h => h w' hw') _ _ _ _ ⟨0, rfl⟩ ?_
  subst hf
  exact wpAnyQ_lex hs l k listed a (fun j => by subst hl; simp [List.getElem?_drop]) hB h
/-- one operation alone may come next -/
theorem wpAny_one {P : Program} {ops : Array Oper} {Q : Exit → Act → World → Prop} {md : Region.Mode} {k fuel : Nat} {o : Oper} {listed : Array Bool} {a : Act} {w : World} (hr : Region.ready md ops listed = [k]) (ho : ops[k]? = some o)
    (h : ∀ K' : Act → World → Prop, (∀ a w, wpAny P md ops Q fuel (listed.setIfInBounds k true) a w → K' a w) → if Region.wanted o (yielded ops a.tmps) = true then Oper.wp P o a w K' Q else K' (a.put o.dst undef) w) :
    wpAny P md ops Q (fuel + 1) listed a w := wpAny_ready hr (by simp) (AllReady.cons ho h AllReady.nil)
/-- a step's own ways out, where what is asked of them is nothing -/
theorem upon_q {P : Program} {o : Oper} {a : Act} {K : Act → World → Prop} {Q Q' : Exit → Act → World → Prop} (h : ∀ x a w, x ≠ .normal → Q' x a w → Q x a w) : ∀ r : Result Next, Oper.upon P o a K Q' r → Oper.upon P o a K Q r := by
  intro r hr
  unfold Oper.upon at hr ⊢
  split at hr <;> first | exact hr | exact h _ _ _ (by simp) hr | exact hr.elim | skip
  refine hr.mono ?_
  intro e w' he
  cases e with
  | returned v => exact he
  | panicked c => exact h _ _ _ (by simp) he
  | outgrown => obtain ⟨x, y, hxy⟩ := he; exact ⟨x, y, h _ _ _ (by simp) hxy⟩
/-- what a list of one operation leaves, as one step of a region that draws -/
theorem step_of_list {P : Program} {ops : Array Oper} {o : Oper} {a : Act} {w : World} {K : Act → World → Prop} {Q : Exit → Act → World → Prop} {E : Prop} (hg : o.guard = none)
    (h : ∀ Q' : Exit → Act → World → Prop, (∀ a w, Q' .normal a w = K a w) → wpList P ops Q' [o] a w) : if Region.wanted o (yielded ops a.tmps) = true then Oper.wp P o a w K Q else E := by
  have hw : Region.wanted o (yielded ops a.tmps) = true := by simp [Region.wanted, hg]
  rw [if_pos hw]
  have h1 := h (fun x a w => match x with | .normal => K a w | _ => False) (fun _ _ => rfl)
  simp only [wpList] at h1
  rw [if_pos hw] at h1
  rcases h1 with h1 | ⟨_, x, y, h2⟩
  · exact upon_q (fun x a w hx hq => by cases x <;> first | exact (hx rfl).elim | exact hq.elim) _ h1
  · exact h2.elim
/-- 'append(own, xs...)' as one step of a region that draws -/
theorem step_append_nums {P : Program} {w : World} {ops : Array Oper} {o : Oper} {a : Act} {K : Act → World → Prop} {Q : Exit → Act → World → Prop} {E : Prop} (hgd : o.guard = none) (s x : Operand) (t : TypeId)
    (ho : o.op = .call { callee := .builtin .append, args := #[s, x], argTypes := #[t, t] })
    (base : Nat) (e : TypeId) (i : TypeInfo) (z : Value) (bytes : Nat) (ht : P.underlying t = some (.slice e)) (hi : P.info? e = some i) (hz : i.zero = some z)
    (hsize : i.size = 1) (hby : i.bytes = bytes) (hzs : z.cells.size = 1) {k : IntKind}
    (v : Value) (n : Nat) (l : List Int) (hs : a.eval s = v) (hown : w.ownsRow base e 1 v n (l.map (Value.int k)))
    (ao : Option Addr) (m c B : Nat) (l2 : List Int) (hx : a.eval x = .slice ao m c) (hl : Nums k w B ao m c l2)
    (h63 : n + m ≤ maxLen) (hbytes : (n + m) * bytes ≤ 140737488355328) (hbase : base ≤ w.heap.size)
    (h : ∀ v' w', w'.ownsRow base e 1 v' (n + m) ((l ++ l2).map (Value.int k)) → w.grownBy w' v.ownBlock → K (a.put o.dst v') w') :
    if Region.wanted o (yielded ops a.tmps) = true then Oper.wp P o a w K Q else E :=
  step_of_list hgd fun Q' hQ => wpList_append_nums hgd s x t ho base e i z bytes ht hi hz hsize hby hzs v n l hs hown ao m c B l2 hx hl h63 hbytes hbase fun v' w' h1 h2 => by
    simp only [wpList, hQ]; exact h v' w' h1 h2
end Go.Proofs.Ytnokfpojgmndmaa.kit
