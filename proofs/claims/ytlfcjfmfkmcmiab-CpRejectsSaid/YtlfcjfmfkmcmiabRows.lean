/-
  No cell of these rows narrows 'for every input' (looked for: loops, veiled, ifaces, maps, wideKeys, modest, calm, conditions, laid).
  DERIVED. THE GIVEN ROWS OF THIS SEAT. 5 by the template 'for every input the law returns true; each argument reads behind the call as it read before'; 0 by the template 'total and deterministic' (their statements: YtlfcjfmfkmcmiabTotals.lean).
  GIVEN WITH THE SEED: the statements are not yours to turn. If you find one false, say at which input.
  Laid BY PROGRAM, IN A SANDBOX (cutbox-rows.mjs): the forced cells as the released guide's own fill.sh prints them over the translation 692bf0d990156104… (all of the seat's roots in one cut). By AI agents, Wed Nov 11 2026. No macro, syntax, notation, axiom, sorry.
-/
import Derived.Test.YtlfcjfmfkmcmiabChecked
import GoSem.Claim
import GoSem.ClaimJoined
import GoSem.ClaimMapViews
import Derived.JoinedTies
import Derived.KernelRfl
namespace Go.Proofs.Ytlfcjfmfkmcmiab
/- THE CELL 'sum', in the pinned program and in every row, IS THE sha256 OF THE DUMP (.gsa) THAT YtlfcjfmfkmcmiabProg.lean LOADS. Nothing in Lean hashes anything: it is a label: what it is worth is what the hold of that sum in a sandbox is worth. -/
noncomputable def Try.pinned : Pinned := { name := "ytlfcjfmfkmcmiab", sum := "692bf0d990156104b5b8af470305fa5c303cf2b374767b705d218be6cf4897d8", checked := Try.checked }
namespace Rows
def none {H : Type} : Left H := { results := [], args := [] }

/-- 'catwalklaw16.MsgOf': WHATEVER THE INPUT: true; the input reads as it did. -/
def msgOfSpec : ChangeSpec := { name := "msgOf", fn := fun _ => fun
  | [d1, d2] => { results := [.lit (.bool true)], args := [d1, d2] }
  | _ => none }
def msgOfRow : OpenClaim := { program := "ytlfcjfmfkmcmiab", sum := "692bf0d990156104b5b8af470305fa5c303cf2b374767b705d218be6cf4897d8", func := "catwalk/catwalklaw16.MsgOf", spec := "msgOf", recurses := true, plainKeys := false, apart := false }
def MsgOfSaid : Prop := msgOfRow.holds Try.pinned (OpenSpec.ofChange msgOfSpec)

/-- ITS FALSE NEIGHBOUR: 'it returns false'. Refute it at one input. -/
def msgOfWrong : ChangeSpec := { name := "msgOf", fn := fun _ => fun
  | [d1, d2] => { results := [.lit (.bool false)], args := [d1, d2] }
  | _ => none }
def MsgOfWrongFalsely : Prop := msgOfRow.holds Try.pinned (OpenSpec.ofChange msgOfWrong)

/-- 'catwalklaw15.CpRejects': WHATEVER THE INPUT: true; the input reads as it did. -/
def cpRejectsSpec : ChangeSpec := { name := "cpRejects", fn := fun _ => fun
  | [d1, d2, d3] => { results := [.lit (.bool true)], args := [d1, d2, d3] }
  | _ => none }
def cpRejectsRow : OpenClaim := { program := "ytlfcjfmfkmcmiab", sum := "692bf0d990156104b5b8af470305fa5c303cf2b374767b705d218be6cf4897d8", func := "catwalk/catwalklaw15.CpRejects", spec := "cpRejects", plainKeys := false, apart := false }
def CpRejectsSaid : Prop := cpRejectsRow.holds Try.pinned (OpenSpec.ofChange cpRejectsSpec)

/-- ITS FALSE NEIGHBOUR: 'it returns false'. Refute it at one input. -/
def cpRejectsWrong : ChangeSpec := { name := "cpRejects", fn := fun _ => fun
  | [d1, d2, d3] => { results := [.lit (.bool false)], args := [d1, d2, d3] }
  | _ => none }
def CpRejectsWrongFalsely : Prop := cpRejectsRow.holds Try.pinned (OpenSpec.ofChange cpRejectsWrong)

/-- 'catwalklaw14.SecretTables': WHATEVER THE INPUT: true; the input reads as it did. -/
def secretTablesSpec : ChangeSpec := { name := "secretTables", fn := fun _ => fun
  | [d1, d2] => { results := [.lit (.bool true)], args := [d1, d2] }
  | _ => none }
def secretTablesRow : OpenClaim := { program := "ytlfcjfmfkmcmiab", sum := "692bf0d990156104b5b8af470305fa5c303cf2b374767b705d218be6cf4897d8", func := "catwalk/catwalklaw14.SecretTables", spec := "secretTables", unfollowed := true, recurses := true, plainKeys := false, apart := false }
def SecretTablesSaid : Prop := secretTablesRow.holds Try.pinned (OpenSpec.ofChange secretTablesSpec)

/-- ITS FALSE NEIGHBOUR: 'it returns false'. Refute it at one input. -/
def secretTablesWrong : ChangeSpec := { name := "secretTables", fn := fun _ => fun
  | [d1, d2] => { results := [.lit (.bool false)], args := [d1, d2] }
  | _ => none }
def SecretTablesWrongFalsely : Prop := secretTablesRow.holds Try.pinned (OpenSpec.ofChange secretTablesWrong)

/-- 'catwalklaw17.TimerPlays': WHATEVER THE INPUT: true; the input reads as it did. -/
def timerPlaysSpec : ChangeSpec := { name := "timerPlays", fn := fun _ => fun
  | [d1, d2] => { results := [.lit (.bool true)], args := [d1, d2] }
  | _ => none }
def timerPlaysRow : OpenClaim := { program := "ytlfcjfmfkmcmiab", sum := "692bf0d990156104b5b8af470305fa5c303cf2b374767b705d218be6cf4897d8", func := "catwalk/catwalklaw17.TimerPlays", spec := "timerPlays", unfollowed := true, recurses := true, plainKeys := false, apart := false }
def TimerPlaysSaid : Prop := timerPlaysRow.holds Try.pinned (OpenSpec.ofChange timerPlaysSpec)

/-- ITS FALSE NEIGHBOUR: 'it returns false'. Refute it at one input. -/
def timerPlaysWrong : ChangeSpec := { name := "timerPlays", fn := fun _ => fun
  | [d1, d2] => { results := [.lit (.bool false)], args := [d1, d2] }
  | _ => none }
def TimerPlaysWrongFalsely : Prop := timerPlaysRow.holds Try.pinned (OpenSpec.ofChange timerPlaysWrong)

/-- 'catwalklaw18.TablePlays': WHATEVER THE INPUT: true; the input reads as it did. -/
def tablePlaysSpec : ChangeSpec := { name := "tablePlays", fn := fun _ => fun
  | [d1, d2, d3] => { results := [.lit (.bool true)], args := [d1, d2, d3] }
  | _ => none }
def tablePlaysRow : OpenClaim := { program := "ytlfcjfmfkmcmiab", sum := "692bf0d990156104b5b8af470305fa5c303cf2b374767b705d218be6cf4897d8", func := "catwalk/catwalklaw18.TablePlays", spec := "tablePlays", unfollowed := true, recurses := true, plainKeys := false, apart := false }
def TablePlaysSaid : Prop := tablePlaysRow.holds Try.pinned (OpenSpec.ofChange tablePlaysSpec)

/-- ITS FALSE NEIGHBOUR: 'it returns false'. Refute it at one input. -/
def tablePlaysWrong : ChangeSpec := { name := "tablePlays", fn := fun _ => fun
  | [d1, d2, d3] => { results := [.lit (.bool false)], args := [d1, d2, d3] }
  | _ => none }
def TablePlaysWrongFalsely : Prop := tablePlaysRow.holds Try.pinned (OpenSpec.ofChange tablePlaysWrong)

/- THE SECOND FORM. 'bulk': how many values and letters a reading holds, each counted each time it is reached (what is shared counts as often as it is met; a slice's spare places count too). A statement '..UptoSaid' is the law's where the arguments, and the package variables that the reading takes, are together of bulk at most 1048576: NARROWER than '..Said'. Prove '..Said' where nothing that the law and all that it calls make is longer than what came in: it says more and counts as full. Else prove '..UptoSaid'. A law counts once. -/
mutual
def uptoBulk {H : Type} : DataW H → Nat
  | .lit (.string bytes) => bytes.length + 1
  | .lit _ => 1
  | .nil => 1
  | .ptr d => uptoBulk d + 1
  | .slice elems spare => uptoBulkAll elems + uptoBulkAll spare + 1
  | .agg parts => uptoBulkAll parts + 1
  | .iface _ d => uptoBulk d + 1
  | .map entries => uptoBulkEntries entries + 1
  | .held _ => 1
def uptoBulkAll {H : Type} : List (DataW H) → Nat
  | [] => 0
  | d :: r => uptoBulk d + uptoBulkAll r
def uptoBulkEntries {H : Type} : List (Lit × DataW H) → Nat
  | [] => 0
  | x :: r => uptoBulkEntry x + uptoBulkEntries r
def uptoBulkEntry {H : Type} : Lit × DataW H → Nat
  | (.string bytes, d) => bytes.length + uptoBulk d + 1
  | (_, d) => uptoBulk d + 1
 end
def uptoSmall : (H : Type) → List (DataW H) → Bool := fun _ ds => decide (uptoBulkAll ds ≤ 1048576)
def OpenSpec.upto (s : _root_.Go.ChangeSpec) : _root_.Go.OpenSpec := { _root_.Go.OpenSpec.ofChange s with cond := some uptoSmall }

/-- 'catwalklaw16.MsgOf', WHERE WHAT IT READS IS OF BULK AT MOST 1048576: true; the input reads as it did. -/
def msgOfUptoRow : OpenClaim := { program := "ytlfcjfmfkmcmiab", sum := "692bf0d990156104b5b8af470305fa5c303cf2b374767b705d218be6cf4897d8", func := "catwalk/catwalklaw16.MsgOf", spec := "msgOf", recurses := true, plainKeys := false, apart := false, narrowed := true }
def MsgOfUptoSaid : Prop := msgOfUptoRow.holds Try.pinned (OpenSpec.upto msgOfSpec)

/-- 'catwalklaw15.CpRejects', WHERE WHAT IT READS IS OF BULK AT MOST 1048576: true; the input reads as it did. -/
def cpRejectsUptoRow : OpenClaim := { program := "ytlfcjfmfkmcmiab", sum := "692bf0d990156104b5b8af470305fa5c303cf2b374767b705d218be6cf4897d8", func := "catwalk/catwalklaw15.CpRejects", spec := "cpRejects", plainKeys := false, apart := false, narrowed := true }
def CpRejectsUptoSaid : Prop := cpRejectsUptoRow.holds Try.pinned (OpenSpec.upto cpRejectsSpec)

/-- 'catwalklaw14.SecretTables', WHERE WHAT IT READS IS OF BULK AT MOST 1048576: true; the input reads as it did. -/
def secretTablesUptoRow : OpenClaim := { program := "ytlfcjfmfkmcmiab", sum := "692bf0d990156104b5b8af470305fa5c303cf2b374767b705d218be6cf4897d8", func := "catwalk/catwalklaw14.SecretTables", spec := "secretTables", unfollowed := true, recurses := true, plainKeys := false, apart := false, narrowed := true }
def SecretTablesUptoSaid : Prop := secretTablesUptoRow.holds Try.pinned (OpenSpec.upto secretTablesSpec)

/-- 'catwalklaw17.TimerPlays', WHERE WHAT IT READS IS OF BULK AT MOST 1048576: true; the input reads as it did. -/
def timerPlaysUptoRow : OpenClaim := { program := "ytlfcjfmfkmcmiab", sum := "692bf0d990156104b5b8af470305fa5c303cf2b374767b705d218be6cf4897d8", func := "catwalk/catwalklaw17.TimerPlays", spec := "timerPlays", unfollowed := true, recurses := true, plainKeys := false, apart := false, narrowed := true }
def TimerPlaysUptoSaid : Prop := timerPlaysUptoRow.holds Try.pinned (OpenSpec.upto timerPlaysSpec)

/-- 'catwalklaw18.TablePlays', WHERE WHAT IT READS IS OF BULK AT MOST 1048576: true; the input reads as it did. -/
def tablePlaysUptoRow : OpenClaim := { program := "ytlfcjfmfkmcmiab", sum := "692bf0d990156104b5b8af470305fa5c303cf2b374767b705d218be6cf4897d8", func := "catwalk/catwalklaw18.TablePlays", spec := "tablePlays", unfollowed := true, recurses := true, plainKeys := false, apart := false, narrowed := true }
def TablePlaysUptoSaid : Prop := tablePlaysUptoRow.holds Try.pinned (OpenSpec.upto tablePlaysSpec)

end Rows
end Go.Proofs.Ytlfcjfmfkmcmiab
