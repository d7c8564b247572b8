/-
  No cell of these rows narrows 'for every input' (looked for: loops, veiled, ifaces, maps, wideKeys, modest, calm, conditions, laid).
  DERIVED. THE GIVEN ROWS OF THIS SEAT. 8 by the template 'for every input the law returns true; each argument reads behind the call as it read before'; 0 by the template 'total and deterministic' (their statements: YtidenjinagpphabTotals.lean).
  GIVEN WITH THE SEED: the statements are not yours to turn. If you find one false, say at which input.
  Laid BY PROGRAM, IN A SANDBOX (cutbox-rows.mjs): the forced cells as the released guide's own fill.sh prints them over the translation 0f95298765284c08… (all of the seat's roots in one cut). By AI agents, Wed Nov 11 2026. No macro, syntax, notation, axiom, sorry.
-/
import Derived.Test.YtidenjinagpphabChecked
import GoSem.Claim
import GoSem.ClaimJoined
import GoSem.ClaimMapViews
import Derived.JoinedTies
import Derived.KernelRfl
namespace Go.Proofs.Ytidenjinagpphab
/- THE CELL 'sum', in the pinned program and in every row, IS THE sha256 OF THE DUMP (.gsa) THAT YtidenjinagpphabProg.lean LOADS. Nothing in Lean hashes anything: it is a label: what it is worth is what the hold of that sum in a sandbox is worth. -/
noncomputable def Try.pinned : Pinned := { name := "ytidenjinagpphab", sum := "0f95298765284c080dc14ee5bbf981ae2cfdd3b9b2f894c8fb3935da833c4eac", checked := Try.checked }
namespace Rows
def none {H : Type} : Left H := { results := [], args := [] }

/-- 'catwalklaw13.Ip4Parses': WHATEVER THE INPUT: true; the input reads as it did. -/
def ip4ParsesSpec : ChangeSpec := { name := "ip4Parses", fn := fun _ => fun
  | [d] => { results := [.lit (.bool true)], args := [d] }
  | _ => none }
def ip4ParsesRow : OpenClaim := { program := "ytidenjinagpphab", sum := "0f95298765284c080dc14ee5bbf981ae2cfdd3b9b2f894c8fb3935da833c4eac", func := "catwalk/catwalklaw13.Ip4Parses", spec := "ip4Parses", plainKeys := false, apart := false }
def Ip4ParsesSaid : Prop := ip4ParsesRow.holds Try.pinned (OpenSpec.ofChange ip4ParsesSpec)

/-- ITS FALSE NEIGHBOUR: 'it returns false'. Refute it at one input. -/
def ip4ParsesWrong : ChangeSpec := { name := "ip4Parses", fn := fun _ => fun
  | [d] => { results := [.lit (.bool false)], args := [d] }
  | _ => none }
def Ip4ParsesWrongFalsely : Prop := ip4ParsesRow.holds Try.pinned (OpenSpec.ofChange ip4ParsesWrong)

/-- 'catwalklaw13.Ip4Hops': WHATEVER THE INPUT: true; the input reads as it did. -/
def ip4HopsSpec : ChangeSpec := { name := "ip4Hops", fn := fun _ => fun
  | [d] => { results := [.lit (.bool true)], args := [d] }
  | _ => none }
def ip4HopsRow : OpenClaim := { program := "ytidenjinagpphab", sum := "0f95298765284c080dc14ee5bbf981ae2cfdd3b9b2f894c8fb3935da833c4eac", func := "catwalk/catwalklaw13.Ip4Hops", spec := "ip4Hops", plainKeys := false, apart := false }
def Ip4HopsSaid : Prop := ip4HopsRow.holds Try.pinned (OpenSpec.ofChange ip4HopsSpec)

/-- ITS FALSE NEIGHBOUR: 'it returns false'. Refute it at one input. -/
def ip4HopsWrong : ChangeSpec := { name := "ip4Hops", fn := fun _ => fun
  | [d] => { results := [.lit (.bool false)], args := [d] }
  | _ => none }
def Ip4HopsWrongFalsely : Prop := ip4HopsRow.holds Try.pinned (OpenSpec.ofChange ip4HopsWrong)

/-- 'catwalklaw14.SecretTables': WHATEVER THE INPUT: true; the input reads as it did. -/
def secretTablesSpec : ChangeSpec := { name := "secretTables", fn := fun _ => fun
  | [d1, d2] => { results := [.lit (.bool true)], args := [d1, d2] }
  | _ => none }
def secretTablesRow : OpenClaim := { program := "ytidenjinagpphab", sum := "0f95298765284c080dc14ee5bbf981ae2cfdd3b9b2f894c8fb3935da833c4eac", func := "catwalk/catwalklaw14.SecretTables", spec := "secretTables", unfollowed := true, recurses := true, plainKeys := false, apart := false }
def SecretTablesSaid : Prop := secretTablesRow.holds Try.pinned (OpenSpec.ofChange secretTablesSpec)

/-- ITS FALSE NEIGHBOUR: 'it returns false'. Refute it at one input. -/
def secretTablesWrong : ChangeSpec := { name := "secretTables", fn := fun _ => fun
  | [d1, d2] => { results := [.lit (.bool false)], args := [d1, d2] }
  | _ => none }
def SecretTablesWrongFalsely : Prop := secretTablesRow.holds Try.pinned (OpenSpec.ofChange secretTablesWrong)

/-- 'catwalklaw15.CpParses': WHATEVER THE INPUT: true; the input reads as it did. -/
def cpParsesSpec : ChangeSpec := { name := "cpParses", fn := fun _ => fun
  | [d] => { results := [.lit (.bool true)], args := [d] }
  | _ => none }
def cpParsesRow : OpenClaim := { program := "ytidenjinagpphab", sum := "0f95298765284c080dc14ee5bbf981ae2cfdd3b9b2f894c8fb3935da833c4eac", func := "catwalk/catwalklaw15.CpParses", spec := "cpParses", plainKeys := false, apart := false }
def CpParsesSaid : Prop := cpParsesRow.holds Try.pinned (OpenSpec.ofChange cpParsesSpec)

/-- ITS FALSE NEIGHBOUR: 'it returns false'. Refute it at one input. -/
def cpParsesWrong : ChangeSpec := { name := "cpParses", fn := fun _ => fun
  | [d] => { results := [.lit (.bool false)], args := [d] }
  | _ => none }
def CpParsesWrongFalsely : Prop := cpParsesRow.holds Try.pinned (OpenSpec.ofChange cpParsesWrong)

/-- 'catwalklaw15.CpBuilds': WHATEVER THE INPUT: true; the input reads as it did. -/
def cpBuildsSpec : ChangeSpec := { name := "cpBuilds", fn := fun _ => fun
  | [d1, d2] => { results := [.lit (.bool true)], args := [d1, d2] }
  | _ => none }
def cpBuildsRow : OpenClaim := { program := "ytidenjinagpphab", sum := "0f95298765284c080dc14ee5bbf981ae2cfdd3b9b2f894c8fb3935da833c4eac", func := "catwalk/catwalklaw15.CpBuilds", spec := "cpBuilds", plainKeys := false, apart := false }
def CpBuildsSaid : Prop := cpBuildsRow.holds Try.pinned (OpenSpec.ofChange cpBuildsSpec)

/-- ITS FALSE NEIGHBOUR: 'it returns false'. Refute it at one input. -/
def cpBuildsWrong : ChangeSpec := { name := "cpBuilds", fn := fun _ => fun
  | [d1, d2] => { results := [.lit (.bool false)], args := [d1, d2] }
  | _ => none }
def CpBuildsWrongFalsely : Prop := cpBuildsRow.holds Try.pinned (OpenSpec.ofChange cpBuildsWrong)

/-- 'catwalklaw15.CpRejects': WHATEVER THE INPUT: true; the input reads as it did. -/
def cpRejectsSpec : ChangeSpec := { name := "cpRejects", fn := fun _ => fun
  | [d1, d2, d3] => { results := [.lit (.bool true)], args := [d1, d2, d3] }
  | _ => none }
def cpRejectsRow : OpenClaim := { program := "ytidenjinagpphab", sum := "0f95298765284c080dc14ee5bbf981ae2cfdd3b9b2f894c8fb3935da833c4eac", func := "catwalk/catwalklaw15.CpRejects", spec := "cpRejects", plainKeys := false, apart := false }
def CpRejectsSaid : Prop := cpRejectsRow.holds Try.pinned (OpenSpec.ofChange cpRejectsSpec)

/-- ITS FALSE NEIGHBOUR: 'it returns false'. Refute it at one input. -/
def cpRejectsWrong : ChangeSpec := { name := "cpRejects", fn := fun _ => fun
  | [d1, d2, d3] => { results := [.lit (.bool false)], args := [d1, d2, d3] }
  | _ => none }
def CpRejectsWrongFalsely : Prop := cpRejectsRow.holds Try.pinned (OpenSpec.ofChange cpRejectsWrong)

/-- 'catwalklaw17.TimerPlays': WHATEVER THE INPUT: true; the input reads as it did. -/
def timerPlaysSpec : ChangeSpec := { name := "timerPlays", fn := fun _ => fun
  | [d1, d2] => { results := [.lit (.bool true)], args := [d1, d2] }
  | _ => none }
def timerPlaysRow : OpenClaim := { program := "ytidenjinagpphab", sum := "0f95298765284c080dc14ee5bbf981ae2cfdd3b9b2f894c8fb3935da833c4eac", func := "catwalk/catwalklaw17.TimerPlays", spec := "timerPlays", unfollowed := true, recurses := true, plainKeys := false, apart := false }
def TimerPlaysSaid : Prop := timerPlaysRow.holds Try.pinned (OpenSpec.ofChange timerPlaysSpec)

/-- ITS FALSE NEIGHBOUR: 'it returns false'. Refute it at one input. -/
def timerPlaysWrong : ChangeSpec := { name := "timerPlays", fn := fun _ => fun
  | [d1, d2] => { results := [.lit (.bool false)], args := [d1, d2] }
  | _ => none }
def TimerPlaysWrongFalsely : Prop := timerPlaysRow.holds Try.pinned (OpenSpec.ofChange timerPlaysWrong)

/-- 'catwalklaw18.TablePlays': WHATEVER THE INPUT: true; the input reads as it did. -/
def tablePlaysSpec : ChangeSpec := { name := "tablePlays", fn := fun _ => fun
  | [d1, d2, d3] => { results := [.lit (.bool true)], args := [d1, d2, d3] }
  | _ => none }
def tablePlaysRow : OpenClaim := { program := "ytidenjinagpphab", sum := "0f95298765284c080dc14ee5bbf981ae2cfdd3b9b2f894c8fb3935da833c4eac", func := "catwalk/catwalklaw18.TablePlays", spec := "tablePlays", unfollowed := true, recurses := true, plainKeys := false, apart := false }
def TablePlaysSaid : Prop := tablePlaysRow.holds Try.pinned (OpenSpec.ofChange tablePlaysSpec)

/-- ITS FALSE NEIGHBOUR: 'it returns false'. Refute it at one input. -/
def tablePlaysWrong : ChangeSpec := { name := "tablePlays", fn := fun _ => fun
  | [d1, d2, d3] => { results := [.lit (.bool false)], args := [d1, d2, d3] }
  | _ => none }
def TablePlaysWrongFalsely : Prop := tablePlaysRow.holds Try.pinned (OpenSpec.ofChange tablePlaysWrong)

/- THE SECOND FORM. 'bulk': how many values and letters a reading holds, each counted each time it is reached (what is shared counts as often as it is met; a slice's spare places count too). A statement '..UptoSaid' is the law's where the arguments, and the package variables that the reading takes, are together of bulk at most 1048576: NARROWER than '..Said'. Prove '..Said' where nothing that the law and all that it calls make is longer than what came in: it says more and counts as full. Else prove '..UptoSaid'. A law counts once. -/
mutual
def uptoBulk {H : Type} : DataW H → Nat
  | .lit (.string bytes) => bytes.length + 1
  | .lit _ => 1
  | .nil => 1
  | .ptr d => uptoBulk d + 1
  | .slice elems spare => uptoBulkAll elems + uptoBulkAll spare + 1
  | .agg parts => uptoBulkAll parts + 1
  | .iface _ d => uptoBulk d + 1
  | .map entries => uptoBulkEntries entries + 1
  | .held _ => 1
def uptoBulkAll {H : Type} : List (DataW H) → Nat
  | [] => 0
  | d :: r => uptoBulk d + uptoBulkAll r
def uptoBulkEntries {H : Type} : List (Lit × DataW H) → Nat
  | [] => 0
  | x :: r => uptoBulkEntry x + uptoBulkEntries r
def uptoBulkEntry {H : Type} : Lit × DataW H → Nat
  | (.string bytes, d) => bytes.length + uptoBulk d + 1
  | (_, d) => uptoBulk d + 1
 end
def uptoSmall : (H : Type) → List (DataW H) → Bool := fun _ ds => decide (uptoBulkAll ds ≤ 1048576)
def OpenSpec.upto (s : _root_.Go.ChangeSpec) : _root_.Go.OpenSpec := { _root_.Go.OpenSpec.ofChange s with cond := some uptoSmall }

/-- 'catwalklaw13.Ip4Parses', WHERE WHAT IT READS IS OF BULK AT MOST 1048576: true; the input reads as it did. -/
def ip4ParsesUptoRow : OpenClaim := { program := "ytidenjinagpphab", sum := "0f95298765284c080dc14ee5bbf981ae2cfdd3b9b2f894c8fb3935da833c4eac", func := "catwalk/catwalklaw13.Ip4Parses", spec := "ip4Parses", plainKeys := false, apart := false, narrowed := true }
def Ip4ParsesUptoSaid : Prop := ip4ParsesUptoRow.holds Try.pinned (OpenSpec.upto ip4ParsesSpec)

/-- 'catwalklaw13.Ip4Hops', WHERE WHAT IT READS IS OF BULK AT MOST 1048576: true; the input reads as it did. -/
def ip4HopsUptoRow : OpenClaim := { program := "ytidenjinagpphab", sum := "0f95298765284c080dc14ee5bbf981ae2cfdd3b9b2f894c8fb3935da833c4eac", func := "catwalk/catwalklaw13.Ip4Hops", spec := "ip4Hops", plainKeys := false, apart := false, narrowed := true }
def Ip4HopsUptoSaid : Prop := ip4HopsUptoRow.holds Try.pinned (OpenSpec.upto ip4HopsSpec)

/-- 'catwalklaw14.SecretTables', WHERE WHAT IT READS IS OF BULK AT MOST 1048576: true; the input reads as it did. -/
def secretTablesUptoRow : OpenClaim := { program := "ytidenjinagpphab", sum := "0f95298765284c080dc14ee5bbf981ae2cfdd3b9b2f894c8fb3935da833c4eac", func := "catwalk/catwalklaw14.SecretTables", spec := "secretTables", unfollowed := true, recurses := true, plainKeys := false, apart := false, narrowed := true }
def SecretTablesUptoSaid : Prop := secretTablesUptoRow.holds Try.pinned (OpenSpec.upto secretTablesSpec)

/-- 'catwalklaw15.CpParses', WHERE WHAT IT READS IS OF BULK AT MOST 1048576: true; the input reads as it did. -/
def cpParsesUptoRow : OpenClaim := { program := "ytidenjinagpphab", sum := "0f95298765284c080dc14ee5bbf981ae2cfdd3b9b2f894c8fb3935da833c4eac", func := "catwalk/catwalklaw15.CpParses", spec := "cpParses", plainKeys := false, apart := false, narrowed := true }
def CpParsesUptoSaid : Prop := cpParsesUptoRow.holds Try.pinned (OpenSpec.upto cpParsesSpec)

/-- 'catwalklaw15.CpBuilds', WHERE WHAT IT READS IS OF BULK AT MOST 1048576: true; the input reads as it did. -/
def cpBuildsUptoRow : OpenClaim := { program := "ytidenjinagpphab", sum := "0f95298765284c080dc14ee5bbf981ae2cfdd3b9b2f894c8fb3935da833c4eac", func := "catwalk/catwalklaw15.CpBuilds", spec := "cpBuilds", plainKeys := false, apart := false, narrowed := true }
def CpBuildsUptoSaid : Prop := cpBuildsUptoRow.holds Try.pinned (OpenSpec.upto cpBuildsSpec)

/-- 'catwalklaw15.CpRejects', WHERE WHAT IT READS IS OF BULK AT MOST 1048576: true; the input reads as it did. -/
def cpRejectsUptoRow : OpenClaim := { program := "ytidenjinagpphab", sum := "0f95298765284c080dc14ee5bbf981ae2cfdd3b9b2f894c8fb3935da833c4eac", func := "catwalk/catwalklaw15.CpRejects", spec := "cpRejects", plainKeys := false, apart := false, narrowed := true }
def CpRejectsUptoSaid : Prop := cpRejectsUptoRow.holds Try.pinned (OpenSpec.upto cpRejectsSpec)

/-- 'catwalklaw17.TimerPlays', WHERE WHAT IT READS IS OF BULK AT MOST 1048576: true; the input reads as it did. -/
def timerPlaysUptoRow : OpenClaim := { program := "ytidenjinagpphab", sum := "0f95298765284c080dc14ee5bbf981ae2cfdd3b9b2f894c8fb3935da833c4eac", func := "catwalk/catwalklaw17.TimerPlays", spec := "timerPlays", unfollowed := true, recurses := true, plainKeys := false, apart := false, narrowed := true }
def TimerPlaysUptoSaid : Prop := timerPlaysUptoRow.holds Try.pinned (OpenSpec.upto timerPlaysSpec)

/-- 'catwalklaw18.TablePlays', WHERE WHAT IT READS IS OF BULK AT MOST 1048576: true; the input reads as it did. -/
def tablePlaysUptoRow : OpenClaim := { program := "ytidenjinagpphab", sum := "0f95298765284c080dc14ee5bbf981ae2cfdd3b9b2f894c8fb3935da833c4eac", func := "catwalk/catwalklaw18.TablePlays", spec := "tablePlays", unfollowed := true, recurses := true, plainKeys := false, apart := false, narrowed := true }
def TablePlaysUptoSaid : Prop := tablePlaysUptoRow.holds Try.pinned (OpenSpec.upto tablePlaysSpec)

end Rows
end Go.Proofs.Ytidenjinagpphab
