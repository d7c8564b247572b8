/- A region that draws its order, walked by hand up to a call that writes; what is left of it, once it only reads, in the order of the text. -/
import Derived.Test.YtecppfdfdabflaaKit
import Derived.BigQuiet
import Derived.Deep.RegionWith
namespace Go.Proofs.Ytecppfdfdabflaa.kit
open Go.RowKit
set_option linter.unusedVariables false

/-- what is left of a region only reads: one walk, in the order of the text -/
theorem wpAny_rest {P : Program} {ops : Array Oper} {Q : Exit → Act → World → Prop} (l : List Oper) (k fuel : Nat) {listed : Array Bool} {a : Act} {w : World} (hs : Region.noSelect ops = true) (hl : l = ops.toList.drop k) (hf : l.length = fuel)
    (hB : Region.lexFrom .any ops fuel k listed = true)
    (h : wpQuiet P ops (fun w' => ∃ n, w' = w.drewN n) (fun a' => ∀ w', (∃ n, w' = w.drewN n) → Q .normal a' w') l a) : wpAny P .any ops Q fuel listed a w := by
  refine wpAny_of_quiet (C := fun w' => ∃ n, w' = w.drewN n) (Q := fun a' => ∀ w', (∃ n, w' = w.drewN n) → Q .normal a' w') (fun _ w' hw' h => h w' hw') _ _ _ _ ⟨0, rfl⟩ ?_
  subst hf
  exact wpAnyQ_lex hs l k listed a (fun j => by subst hl; simp [List.getElem?_drop]) hB h
/-- one operation alone may come next -/
theorem wpAny_one {P : Program} {ops : Array Oper} {Q : Exit → Act → World → Prop} {md : Region.Mode} {k fuel : Nat} {o : Oper} {listed : Array Bool} {a : Act} {w : World} (hr : Region.ready md ops listed = [k]) (ho : ops[k]? = some o)
    (h : ∀ K' : Act → World → Prop, (∀ a w, wpAny P md ops Q fuel (listed.setIfInBounds k true) a w → K' a w) → if Region.wanted o (yielded ops a.tmps) = true then Oper.wp P o a w K' Q else K' (a.put o.dst undef) w) :
    wpAny P md ops Q (fuel + 1) listed a w := wpAny_ready hr (by simp) (AllReady.cons ho h AllReady.nil)
end Go.Proofs.Ytecppfdfdabflaa.kit
