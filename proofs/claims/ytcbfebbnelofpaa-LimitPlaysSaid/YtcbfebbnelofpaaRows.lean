/-
  No cell of these rows narrows 'for every input' (looked for: loops, veiled, ifaces, maps, wideKeys, modest, calm, conditions, laid).
  DERIVED. THE GIVEN ROWS OF THIS SEAT. 9 by the template 'for every input the law returns true; each argument reads behind the call as it read before'; 0 by the template 'total and deterministic' (their statements: YtcbfebbnelofpaaTotals.lean).
  GIVEN WITH THE SEED: the statements are not yours to turn. If you find one false, say at which input.
  Laid BY PROGRAM, IN A SANDBOX (cutbox-rows.mjs): the forced cells as the released guide's own fill.sh prints them over the translation 5748a67c1bde4bb5… (all of the seat's roots in one cut). By AI agents, Wed Nov 11 2026. No macro, syntax, notation, axiom, sorry.
-/
import Derived.Test.YtcbfebbnelofpaaChecked
import GoSem.Claim
import GoSem.ClaimJoined
import GoSem.ClaimMapViews
import Derived.JoinedTies
import Derived.KernelRfl
namespace Go.Proofs.Ytcbfebbnelofpaa
/- THE CELL 'sum', in the pinned program and in every row, IS THE sha256 OF THE DUMP (.gsa) THAT YtcbfebbnelofpaaProg.lean LOADS. Nothing in Lean hashes anything: it is a label: what it is worth is what the hold of that sum in a sandbox is worth. -/
noncomputable def Try.pinned : Pinned := { name := "ytcbfebbnelofpaa", sum := "5748a67c1bde4bb5d706717211a78bd04e4eb05ec0dbf5c517eb17e9d3800a2c", checked := Try.checked }
namespace Rows
def none {H : Type} : Left H := { results := [], args := [] }

/-- 'catwalklaw22.MagicDraws': WHATEVER THE INPUT: true; the input reads as it did. -/
def magicDrawsSpec : ChangeSpec := { name := "magicDraws", fn := fun _ => fun
  | [d] => { results := [.lit (.bool true)], args := [d] }
  | _ => none }
def magicDrawsRow : OpenClaim := { program := "ytcbfebbnelofpaa", sum := "5748a67c1bde4bb5d706717211a78bd04e4eb05ec0dbf5c517eb17e9d3800a2c", func := "catwalk/catwalklaw22.MagicDraws", spec := "magicDraws", plainKeys := false, apart := false }
def MagicDrawsSaid : Prop := magicDrawsRow.holds Try.pinned (OpenSpec.ofChange magicDrawsSpec)

/-- ITS FALSE NEIGHBOUR: 'it returns false'. Refute it at one input. -/
def magicDrawsWrong : ChangeSpec := { name := "magicDraws", fn := fun _ => fun
  | [d] => { results := [.lit (.bool false)], args := [d] }
  | _ => none }
def MagicDrawsWrongFalsely : Prop := magicDrawsRow.holds Try.pinned (OpenSpec.ofChange magicDrawsWrong)

/-- 'catwalklaw22.MagicLoops': WHATEVER THE INPUT: true; the input reads as it did. -/
def magicLoopsSpec : ChangeSpec := { name := "magicLoops", fn := fun _ => fun
  | [d1, d2] => { results := [.lit (.bool true)], args := [d1, d2] }
  | _ => none }
def magicLoopsRow : OpenClaim := { program := "ytcbfebbnelofpaa", sum := "5748a67c1bde4bb5d706717211a78bd04e4eb05ec0dbf5c517eb17e9d3800a2c", func := "catwalk/catwalklaw22.MagicLoops", spec := "magicLoops", plainKeys := false, apart := false }
def MagicLoopsSaid : Prop := magicLoopsRow.holds Try.pinned (OpenSpec.ofChange magicLoopsSpec)

/-- ITS FALSE NEIGHBOUR: 'it returns false'. Refute it at one input. -/
def magicLoopsWrong : ChangeSpec := { name := "magicLoops", fn := fun _ => fun
  | [d1, d2] => { results := [.lit (.bool false)], args := [d1, d2] }
  | _ => none }
def MagicLoopsWrongFalsely : Prop := magicLoopsRow.holds Try.pinned (OpenSpec.ofChange magicLoopsWrong)

/-- 'catwalklaw23.EchoPlays': WHATEVER THE INPUT: true; the input reads as it did. -/
def echoPlaysSpec : ChangeSpec := { name := "echoPlays", fn := fun _ => fun
  | [d] => { results := [.lit (.bool true)], args := [d] }
  | _ => none }
def echoPlaysRow : OpenClaim := { program := "ytcbfebbnelofpaa", sum := "5748a67c1bde4bb5d706717211a78bd04e4eb05ec0dbf5c517eb17e9d3800a2c", func := "catwalk/catwalklaw23.EchoPlays", spec := "echoPlays", plainKeys := false, apart := false }
def EchoPlaysSaid : Prop := echoPlaysRow.holds Try.pinned (OpenSpec.ofChange echoPlaysSpec)

/-- ITS FALSE NEIGHBOUR: 'it returns false'. Refute it at one input. -/
def echoPlaysWrong : ChangeSpec := { name := "echoPlays", fn := fun _ => fun
  | [d] => { results := [.lit (.bool false)], args := [d] }
  | _ => none }
def EchoPlaysWrongFalsely : Prop := echoPlaysRow.holds Try.pinned (OpenSpec.ofChange echoPlaysWrong)

/-- 'catwalklaw23.EchoFinds': WHATEVER THE INPUT: true; the input reads as it did. -/
def echoFindsSpec : ChangeSpec := { name := "echoFinds", fn := fun _ => fun
  | [d1, d2, d3] => { results := [.lit (.bool true)], args := [d1, d2, d3] }
  | _ => none }
def echoFindsRow : OpenClaim := { program := "ytcbfebbnelofpaa", sum := "5748a67c1bde4bb5d706717211a78bd04e4eb05ec0dbf5c517eb17e9d3800a2c", func := "catwalk/catwalklaw23.EchoFinds", spec := "echoFinds", plainKeys := false, apart := false }
def EchoFindsSaid : Prop := echoFindsRow.holds Try.pinned (OpenSpec.ofChange echoFindsSpec)

/-- ITS FALSE NEIGHBOUR: 'it returns false'. Refute it at one input. -/
def echoFindsWrong : ChangeSpec := { name := "echoFinds", fn := fun _ => fun
  | [d1, d2, d3] => { results := [.lit (.bool false)], args := [d1, d2, d3] }
  | _ => none }
def EchoFindsWrongFalsely : Prop := echoFindsRow.holds Try.pinned (OpenSpec.ofChange echoFindsWrong)

/-- 'catwalklaw24.LimitPlays': WHATEVER THE INPUT: true; the input reads as it did. -/
def limitPlaysSpec : ChangeSpec := { name := "limitPlays", fn := fun _ => fun
  | [d1, d2, d3] => { results := [.lit (.bool true)], args := [d1, d2, d3] }
  | _ => none }
def limitPlaysRow : OpenClaim := { program := "ytcbfebbnelofpaa", sum := "5748a67c1bde4bb5d706717211a78bd04e4eb05ec0dbf5c517eb17e9d3800a2c", func := "catwalk/catwalklaw24.LimitPlays", spec := "limitPlays", plainKeys := false, apart := false }
def LimitPlaysSaid : Prop := limitPlaysRow.holds Try.pinned (OpenSpec.ofChange limitPlaysSpec)

/-- ITS FALSE NEIGHBOUR: 'it returns false'. Refute it at one input. -/
def limitPlaysWrong : ChangeSpec := { name := "limitPlays", fn := fun _ => fun
  | [d1, d2, d3] => { results := [.lit (.bool false)], args := [d1, d2, d3] }
  | _ => none }
def LimitPlaysWrongFalsely : Prop := limitPlaysRow.holds Try.pinned (OpenSpec.ofChange limitPlaysWrong)

/-- 'catwalklaw24.LimitBounds': WHATEVER THE INPUT: true; the input reads as it did. -/
def limitBoundsSpec : ChangeSpec := { name := "limitBounds", fn := fun _ => fun
  | [d1, d2, d3] => { results := [.lit (.bool true)], args := [d1, d2, d3] }
  | _ => none }
def limitBoundsRow : OpenClaim := { program := "ytcbfebbnelofpaa", sum := "5748a67c1bde4bb5d706717211a78bd04e4eb05ec0dbf5c517eb17e9d3800a2c", func := "catwalk/catwalklaw24.LimitBounds", spec := "limitBounds", plainKeys := false, apart := false }
def LimitBoundsSaid : Prop := limitBoundsRow.holds Try.pinned (OpenSpec.ofChange limitBoundsSpec)

/-- ITS FALSE NEIGHBOUR: 'it returns false'. Refute it at one input. -/
def limitBoundsWrong : ChangeSpec := { name := "limitBounds", fn := fun _ => fun
  | [d1, d2, d3] => { results := [.lit (.bool false)], args := [d1, d2, d3] }
  | _ => none }
def LimitBoundsWrongFalsely : Prop := limitBoundsRow.holds Try.pinned (OpenSpec.ofChange limitBoundsWrong)

/-- 'catwalklaw17.TimerPlays': WHATEVER THE INPUT: true; the input reads as it did. -/
def timerPlaysSpec : ChangeSpec := { name := "timerPlays", fn := fun _ => fun
  | [d1, d2] => { results := [.lit (.bool true)], args := [d1, d2] }
  | _ => none }
def timerPlaysRow : OpenClaim := { program := "ytcbfebbnelofpaa", sum := "5748a67c1bde4bb5d706717211a78bd04e4eb05ec0dbf5c517eb17e9d3800a2c", func := "catwalk/catwalklaw17.TimerPlays", spec := "timerPlays", unfollowed := true, recurses := true, plainKeys := false, apart := false }
def TimerPlaysSaid : Prop := timerPlaysRow.holds Try.pinned (OpenSpec.ofChange timerPlaysSpec)

/-- ITS FALSE NEIGHBOUR: 'it returns false'. Refute it at one input. -/
def timerPlaysWrong : ChangeSpec := { name := "timerPlays", fn := fun _ => fun
  | [d1, d2] => { results := [.lit (.bool false)], args := [d1, d2] }
  | _ => none }
def TimerPlaysWrongFalsely : Prop := timerPlaysRow.holds Try.pinned (OpenSpec.ofChange timerPlaysWrong)

/-- 'catwalklaw18.TablePlays': WHATEVER THE INPUT: true; the input reads as it did. -/
def tablePlaysSpec : ChangeSpec := { name := "tablePlays", fn := fun _ => fun
  | [d1, d2, d3] => { results := [.lit (.bool true)], args := [d1, d2, d3] }
  | _ => none }
def tablePlaysRow : OpenClaim := { program := "ytcbfebbnelofpaa", sum := "5748a67c1bde4bb5d706717211a78bd04e4eb05ec0dbf5c517eb17e9d3800a2c", func := "catwalk/catwalklaw18.TablePlays", spec := "tablePlays", unfollowed := true, recurses := true, plainKeys := false, apart := false }
def TablePlaysSaid : Prop := tablePlaysRow.holds Try.pinned (OpenSpec.ofChange tablePlaysSpec)

/-- ITS FALSE NEIGHBOUR: 'it returns false'. Refute it at one input. -/
def tablePlaysWrong : ChangeSpec := { name := "tablePlays", fn := fun _ => fun
  | [d1, d2, d3] => { results := [.lit (.bool false)], args := [d1, d2, d3] }
  | _ => none }
def TablePlaysWrongFalsely : Prop := tablePlaysRow.holds Try.pinned (OpenSpec.ofChange tablePlaysWrong)

/-- 'catwalklaw14.SecretTables': WHATEVER THE INPUT: true; the input reads as it did. -/
def secretTablesSpec : ChangeSpec := { name := "secretTables", fn := fun _ => fun
  | [d1, d2] => { results := [.lit (.bool true)], args := [d1, d2] }
  | _ => none }
def secretTablesRow : OpenClaim := { program := "ytcbfebbnelofpaa", sum := "5748a67c1bde4bb5d706717211a78bd04e4eb05ec0dbf5c517eb17e9d3800a2c", func := "catwalk/catwalklaw14.SecretTables", spec := "secretTables", unfollowed := true, recurses := true, plainKeys := false, apart := false }
def SecretTablesSaid : Prop := secretTablesRow.holds Try.pinned (OpenSpec.ofChange secretTablesSpec)

/-- ITS FALSE NEIGHBOUR: 'it returns false'. Refute it at one input. -/
def secretTablesWrong : ChangeSpec := { name := "secretTables", fn := fun _ => fun
  | [d1, d2] => { results := [.lit (.bool false)], args := [d1, d2] }
  | _ => none }
def SecretTablesWrongFalsely : Prop := secretTablesRow.holds Try.pinned (OpenSpec.ofChange secretTablesWrong)

/- THE SECOND FORM. 'bulk': how many values and letters a reading holds, each counted each time it is reached (what is shared counts as often as it is met; a slice's spare places count too). A statement '..UptoSaid' is the law's where the arguments, and the package variables that the reading takes, are together of bulk at most 1048576: NARROWER than '..Said'. Prove '..Said' where nothing that the law and all that it calls make is longer than what came in: it says more and counts as full. Else prove '..UptoSaid'. A law counts once. -/
mutual
def uptoBulk {H : Type} : DataW H → Nat
  | .lit (.string bytes) => bytes.length + 1
  | .lit _ => 1
  | .nil => 1
  | .ptr d => uptoBulk d + 1
  | .slice elems spare => uptoBulkAll elems + uptoBulkAll spare + 1
  | .agg parts => uptoBulkAll parts + 1
  | .iface _ d => uptoBulk d + 1
  | .map entries => uptoBulkEntries entries + 1
  | .held _ => 1
def uptoBulkAll {H : Type} : List (DataW H) → Nat
  | [] => 0
  | d :: r => uptoBulk d + uptoBulkAll r
def uptoBulkEntries {H : Type} : List (Lit × DataW H) → Nat
  | [] => 0
  | x :: r => uptoBulkEntry x + uptoBulkEntries r
def uptoBulkEntry {H : Type} : Lit × DataW H → Nat
  | (.string bytes, d) => bytes.length + uptoBulk d + 1
  | (_, d) => uptoBulk d + 1
 end
def uptoSmall : (H : Type) → List (DataW H) → Bool := fun _ ds => decide (uptoBulkAll ds ≤ 1048576)
def OpenSpec.upto (s : _root_.Go.ChangeSpec) : _root_.Go.OpenSpec := { _root_.Go.OpenSpec.ofChange s with cond := some uptoSmall }

/-- 'catwalklaw22.MagicDraws', WHERE WHAT IT READS IS OF BULK AT MOST 1048576: true; the input reads as it did. -/
def magicDrawsUptoRow : OpenClaim := { program := "ytcbfebbnelofpaa", sum := "5748a67c1bde4bb5d706717211a78bd04e4eb05ec0dbf5c517eb17e9d3800a2c", func := "catwalk/catwalklaw22.MagicDraws", spec := "magicDraws", plainKeys := false, apart := false, narrowed := true }
def MagicDrawsUptoSaid : Prop := magicDrawsUptoRow.holds Try.pinned (OpenSpec.upto magicDrawsSpec)

/-- 'catwalklaw22.MagicLoops', WHERE WHAT IT READS IS OF BULK AT MOST 1048576: true; the input reads as it did. -/
def magicLoopsUptoRow : OpenClaim := { program := "ytcbfebbnelofpaa", sum := "5748a67c1bde4bb5d706717211a78bd04e4eb05ec0dbf5c517eb17e9d3800a2c", func := "catwalk/catwalklaw22.MagicLoops", spec := "magicLoops", plainKeys := false, apart := false, narrowed := true }
def MagicLoopsUptoSaid : Prop := magicLoopsUptoRow.holds Try.pinned (OpenSpec.upto magicLoopsSpec)

/-- 'catwalklaw23.EchoPlays', WHERE WHAT IT READS IS OF BULK AT MOST 1048576: true; the input reads as it did. -/
def echoPlaysUptoRow : OpenClaim := { program := "ytcbfebbnelofpaa", sum := "5748a67c1bde4bb5d706717211a78bd04e4eb05ec0dbf5c517eb17e9d3800a2c", func := "catwalk/catwalklaw23.EchoPlays", spec := "echoPlays", plainKeys := false, apart := false, narrowed := true }
def EchoPlaysUptoSaid : Prop := echoPlaysUptoRow.holds Try.pinned (OpenSpec.upto echoPlaysSpec)

/-- 'catwalklaw23.EchoFinds', WHERE WHAT IT READS IS OF BULK AT MOST 1048576: true; the input reads as it did. -/
def echoFindsUptoRow : OpenClaim := { program := "ytcbfebbnelofpaa", sum := "5748a67c1bde4bb5d706717211a78bd04e4eb05ec0dbf5c517eb17e9d3800a2c", func := "catwalk/catwalklaw23.EchoFinds", spec := "echoFinds", plainKeys := false, apart := false, narrowed := true }
def EchoFindsUptoSaid : Prop := echoFindsUptoRow.holds Try.pinned (OpenSpec.upto echoFindsSpec)

/-- 'catwalklaw24.LimitPlays', WHERE WHAT IT READS IS OF BULK AT MOST 1048576: true; the input reads as it did. -/
def limitPlaysUptoRow : OpenClaim := { program := "ytcbfebbnelofpaa", sum := "5748a67c1bde4bb5d706717211a78bd04e4eb05ec0dbf5c517eb17e9d3800a2c", func := "catwalk/catwalklaw24.LimitPlays", spec := "limitPlays", plainKeys := false, apart := false, narrowed := true }
def LimitPlaysUptoSaid : Prop := limitPlaysUptoRow.holds Try.pinned (OpenSpec.upto limitPlaysSpec)

/-- 'catwalklaw24.LimitBounds', WHERE WHAT IT READS IS OF BULK AT MOST 1048576: true; the input reads as it did. -/
def limitBoundsUptoRow : OpenClaim := { program := "ytcbfebbnelofpaa", sum := "5748a67c1bde4bb5d706717211a78bd04e4eb05ec0dbf5c517eb17e9d3800a2c", func := "catwalk/catwalklaw24.LimitBounds", spec := "limitBounds", plainKeys := false, apart := false, narrowed := true }
def LimitBoundsUptoSaid : Prop := limitBoundsUptoRow.holds Try.pinned (OpenSpec.upto limitBoundsSpec)

/-- 'catwalklaw17.TimerPlays', WHERE WHAT IT READS IS OF BULK AT MOST 1048576: true; the input reads as it did. -/
def timerPlaysUptoRow : OpenClaim := { program := "ytcbfebbnelofpaa", sum := "5748a67c1bde4bb5d706717211a78bd04e4eb05ec0dbf5c517eb17e9d3800a2c", func := "catwalk/catwalklaw17.TimerPlays", spec := "timerPlays", unfollowed := true, recurses := true, plainKeys := false, apart := false, narrowed := true }
def TimerPlaysUptoSaid : Prop := timerPlaysUptoRow.holds Try.pinned (OpenSpec.upto timerPlaysSpec)

/-- 'catwalklaw18.TablePlays', WHERE WHAT IT READS IS OF BULK AT MOST 1048576: true; the input reads as it did. -/
def tablePlaysUptoRow : OpenClaim := { program := "ytcbfebbnelofpaa", sum := "5748a67c1bde4bb5d706717211a78bd04e4eb05ec0dbf5c517eb17e9d3800a2c", func := "catwalk/catwalklaw18.TablePlays", spec := "tablePlays", unfollowed := true, recurses := true, plainKeys := false, apart := false, narrowed := true }
def TablePlaysUptoSaid : Prop := tablePlaysUptoRow.holds Try.pinned (OpenSpec.upto tablePlaysSpec)

/-- 'catwalklaw14.SecretTables', WHERE WHAT IT READS IS OF BULK AT MOST 1048576: true; the input reads as it did. -/
def secretTablesUptoRow : OpenClaim := { program := "ytcbfebbnelofpaa", sum := "5748a67c1bde4bb5d706717211a78bd04e4eb05ec0dbf5c517eb17e9d3800a2c", func := "catwalk/catwalklaw14.SecretTables", spec := "secretTables", unfollowed := true, recurses := true, plainKeys := false, apart := false, narrowed := true }
def SecretTablesUptoSaid : Prop := secretTablesUptoRow.holds Try.pinned (OpenSpec.upto secretTablesSpec)

end Rows
end Go.Proofs.Ytcbfebbnelofpaa
