/-
  NARROWER THAN 'FOR EVERY INPUT', by the rows' own cells (each row's printed sentence says how): Md5Of: laid · Md5Pieces: laid · Md5Same: laid · IdsPlays: laid.
  DERIVED. THE GIVEN ROWS OF THIS SEAT. 4 by the template 'for every input the law returns true; each argument reads behind the call as it read before'; 0 by the template 'total and deterministic' (their statements: YtnfklhebcloolaaDoorTotals.lean).
  GIVEN WITH THE SEED: the statements are not yours to turn. If you find one false, say at which input.
  Laid BY PROGRAM, IN A SANDBOX (cutbox-rows.mjs): the forced cells as the released guide's own fill.sh prints them over the translation 6af7313bf034328f… (all of the seat's roots in one cut). By AI agents, Wed Nov 11 2026. No macro, syntax, notation, axiom, sorry.
-/
import Derived.Test.YtnfklhebcloolaaDoorChecked
import GoSem.Claim
import GoSem.ClaimJoined
import GoSem.ClaimMapViews
import Derived.JoinedTies
import Derived.KernelRfl
namespace Go.Proofs.YtnfklhebcloolaaDoor
/- THE CELL 'sum', in the pinned program and in every row, IS THE sha256 OF THE DUMP (.gsa) THAT YtnfklhebcloolaaDoorProg.lean LOADS. Nothing in Lean hashes anything: it is a label: what it is worth is what the hold of that sum in a sandbox is worth. -/
noncomputable def Tryd.pinned : Pinned := { name := "ytnfklhebcloolaadoor", sum := "6af7313bf034328f2cd89de5551ad6493fc3967516886ab1b86e2ce47f853a3c", checked := Tryd.checked }
namespace Rows
def none {H : Type} : Left H := { results := [], args := [] }

/- WHAT THE LISTED PACKAGE-LEVEL VARIABLES READ AS WHEN THE CALL BEGINS. Each datum BY PROGRAM (the guide's laid-datum.mjs) off the statement by which the dump's own 'gosem.cut.vars' lays the variable. In a bare row this is a premise. The card (YtnfklhebcloolaaDoorCards.lean) ties it to the program's text. -/
def laid_catwalk_md5_sines {H : Type} : DataW H := .agg [.lit (.int .u32 3614090360), .lit (.int .u32 3905402710), .lit (.int .u32 606105819), .lit (.int .u32 3250441966), .lit (.int .u32 4118548399), .lit (.int .u32 1200080426), .lit (.int .u32 2821735955), .lit (.int .u32 4249261313), .lit (.int .u32 1770035416), .lit (.int .u32 2336552879), .lit (.int .u32 4294925233), .lit (.int .u32 2304563134), .lit (.int .u32 1804603682), .lit (.int .u32 4254626195), .lit (.int .u32 2792965006), .lit (.int .u32 1236535329), .lit (.int .u32 4129170786), .lit (.int .u32 3225465664), .lit (.int .u32 643717713), .lit (.int .u32 3921069994), .lit (.int .u32 3593408605), .lit (.int .u32 38016083), .lit (.int .u32 3634488961), .lit (.int .u32 3889429448), .lit (.int .u32 568446438), .lit (.int .u32 3275163606), .lit (.int .u32 4107603335), .lit (.int .u32 1163531501), .lit (.int .u32 2850285829), .lit (.int .u32 4243563512), .lit (.int .u32 1735328473), .lit (.int .u32 2368359562), .lit (.int .u32 4294588738), .lit (.int .u32 2272392833), .lit (.int .u32 1839030562), .lit (.int .u32 4259657740), .lit (.int .u32 2763975236), .lit (.int .u32 1272893353), .lit (.int .u32 4139469664), .lit (.int .u32 3200236656), .lit (.int .u32 681279174), .lit (.int .u32 3936430074), .lit (.int .u32 3572445317), .lit (.int .u32 76029189), .lit (.int .u32 3654602809), .lit (.int .u32 3873151461), .lit (.int .u32 530742520), .lit (.int .u32 3299628645), .lit (.int .u32 4096336452), .lit (.int .u32 1126891415), .lit (.int .u32 2878612391), .lit (.int .u32 4237533241), .lit (.int .u32 1700485571), .lit (.int .u32 2399980690), .lit (.int .u32 4293915773), .lit (.int .u32 2240044497), .lit (.int .u32 1873313359), .lit (.int .u32 4264355552), .lit (.int .u32 2734768916), .lit (.int .u32 1309151649), .lit (.int .u32 4149444226), .lit (.int .u32 3174756917), .lit (.int .u32 718787259), .lit (.int .u32 3951481745)]
def laid_catwalk_md5_rolls {H : Type} : DataW H := .agg [.agg [.lit (.int .i64 7), .lit (.int .i64 12), .lit (.int .i64 17), .lit (.int .i64 22)], .agg [.lit (.int .i64 5), .lit (.int .i64 9), .lit (.int .i64 14), .lit (.int .i64 20)], .agg [.lit (.int .i64 4), .lit (.int .i64 11), .lit (.int .i64 16), .lit (.int .i64 23)], .agg [.lit (.int .i64 6), .lit (.int .i64 10), .lit (.int .i64 15), .lit (.int .i64 21)]]
def laid_catwalk_md5_start {H : Type} : DataW H := .agg [.lit (.int .u32 1732584193), .lit (.int .u32 4023233417), .lit (.int .u32 2562383102), .lit (.int .u32 271733878)]
def laid_math_bits_deBruijn64tab {H : Type} : DataW H := .agg [.lit (.int .u8 0), .lit (.int .u8 1), .lit (.int .u8 56), .lit (.int .u8 2), .lit (.int .u8 57), .lit (.int .u8 49), .lit (.int .u8 28), .lit (.int .u8 3), .lit (.int .u8 61), .lit (.int .u8 58), .lit (.int .u8 42), .lit (.int .u8 50), .lit (.int .u8 38), .lit (.int .u8 29), .lit (.int .u8 17), .lit (.int .u8 4), .lit (.int .u8 62), .lit (.int .u8 47), .lit (.int .u8 59), .lit (.int .u8 36), .lit (.int .u8 45), .lit (.int .u8 43), .lit (.int .u8 51), .lit (.int .u8 22), .lit (.int .u8 53), .lit (.int .u8 39), .lit (.int .u8 33), .lit (.int .u8 30), .lit (.int .u8 24), .lit (.int .u8 18), .lit (.int .u8 12), .lit (.int .u8 5), .lit (.int .u8 63), .lit (.int .u8 55), .lit (.int .u8 48), .lit (.int .u8 27), .lit (.int .u8 60), .lit (.int .u8 41), .lit (.int .u8 37), .lit (.int .u8 16), .lit (.int .u8 46), .lit (.int .u8 35), .lit (.int .u8 44), .lit (.int .u8 21), .lit (.int .u8 52), .lit (.int .u8 32), .lit (.int .u8 23), .lit (.int .u8 11), .lit (.int .u8 54), .lit (.int .u8 26), .lit (.int .u8 40), .lit (.int .u8 15), .lit (.int .u8 34), .lit (.int .u8 20), .lit (.int .u8 31), .lit (.int .u8 10), .lit (.int .u8 25), .lit (.int .u8 14), .lit (.int .u8 19), .lit (.int .u8 9), .lit (.int .u8 13), .lit (.int .u8 8), .lit (.int .u8 7), .lit (.int .u8 6)]

/-- 'catwalklaw04.Md5Of': WHATEVER THE INPUT: true; the input reads as it did. -/
def md5OfSpec : ChangeSpec := { name := "md5Of", fn := fun _ => fun
  | [d] => { results := [.lit (.bool true)], args := [d] }
  | _ => none }
def md5OfRow : OpenClaim := { program := "ytnfklhebcloolaadoor", sum := "6af7313bf034328f2cd89de5551ad6493fc3967516886ab1b86e2ce47f853a3c", func := "catwalk/catwalklaw04.Md5Of", spec := "md5Of", named := ["catwalk/md5.sines", "catwalk/md5.rolls", "catwalk/md5.start"], apart := false, laid := [("catwalk/md5.sines", laid_catwalk_md5_sines), ("catwalk/md5.rolls", laid_catwalk_md5_rolls), ("catwalk/md5.start", laid_catwalk_md5_start)] }
def Md5OfSaid : Prop := md5OfRow.holds Tryd.pinned (OpenSpec.ofChange md5OfSpec)

/-- ITS FALSE NEIGHBOUR: 'it returns false'. Refute it at one input. -/
def md5OfWrong : ChangeSpec := { name := "md5Of", fn := fun _ => fun
  | [d] => { results := [.lit (.bool false)], args := [d] }
  | _ => none }
def Md5OfWrongFalsely : Prop := md5OfRow.holds Tryd.pinned (OpenSpec.ofChange md5OfWrong)

/-- 'catwalklaw04.Md5Pieces': WHATEVER THE INPUT: true; the input reads as it did. -/
def md5PiecesSpec : ChangeSpec := { name := "md5Pieces", fn := fun _ => fun
  | [d] => { results := [.lit (.bool true)], args := [d] }
  | _ => none }
def md5PiecesRow : OpenClaim := { program := "ytnfklhebcloolaadoor", sum := "6af7313bf034328f2cd89de5551ad6493fc3967516886ab1b86e2ce47f853a3c", func := "catwalk/catwalklaw04.Md5Pieces", spec := "md5Pieces", named := ["catwalk/md5.sines", "catwalk/md5.rolls", "catwalk/md5.start"], apart := false, laid := [("catwalk/md5.sines", laid_catwalk_md5_sines), ("catwalk/md5.rolls", laid_catwalk_md5_rolls), ("catwalk/md5.start", laid_catwalk_md5_start)] }
def Md5PiecesSaid : Prop := md5PiecesRow.holds Tryd.pinned (OpenSpec.ofChange md5PiecesSpec)

/-- ITS FALSE NEIGHBOUR: 'it returns false'. Refute it at one input. -/
def md5PiecesWrong : ChangeSpec := { name := "md5Pieces", fn := fun _ => fun
  | [d] => { results := [.lit (.bool false)], args := [d] }
  | _ => none }
def Md5PiecesWrongFalsely : Prop := md5PiecesRow.holds Tryd.pinned (OpenSpec.ofChange md5PiecesWrong)

/-- 'catwalklaw04.Md5Same': WHATEVER THE INPUT: true; the input reads as it did. -/
def md5SameSpec : ChangeSpec := { name := "md5Same", fn := fun _ => fun
  | [d1, d2] => { results := [.lit (.bool true)], args := [d1, d2] }
  | _ => none }
def md5SameRow : OpenClaim := { program := "ytnfklhebcloolaadoor", sum := "6af7313bf034328f2cd89de5551ad6493fc3967516886ab1b86e2ce47f853a3c", func := "catwalk/catwalklaw04.Md5Same", spec := "md5Same", named := ["catwalk/md5.sines", "catwalk/md5.rolls", "catwalk/md5.start"], apart := false, laid := [("catwalk/md5.sines", laid_catwalk_md5_sines), ("catwalk/md5.rolls", laid_catwalk_md5_rolls), ("catwalk/md5.start", laid_catwalk_md5_start)] }
def Md5SameSaid : Prop := md5SameRow.holds Tryd.pinned (OpenSpec.ofChange md5SameSpec)

/-- ITS FALSE NEIGHBOUR: 'it returns false'. Refute it at one input. -/
def md5SameWrong : ChangeSpec := { name := "md5Same", fn := fun _ => fun
  | [d1, d2] => { results := [.lit (.bool false)], args := [d1, d2] }
  | _ => none }
def Md5SameWrongFalsely : Prop := md5SameRow.holds Tryd.pinned (OpenSpec.ofChange md5SameWrong)

/-- 'catwalklaw08.IdsPlays': WHATEVER THE INPUT: true; the input reads as it did. -/
def idsPlaysSpec : ChangeSpec := { name := "idsPlays", fn := fun _ => fun
  | [d] => { results := [.lit (.bool true)], args := [d] }
  | _ => none }
def idsPlaysRow : OpenClaim := { program := "ytnfklhebcloolaadoor", sum := "6af7313bf034328f2cd89de5551ad6493fc3967516886ab1b86e2ce47f853a3c", func := "catwalk/catwalklaw08.IdsPlays", spec := "idsPlays", unfollowed := true, recurses := true, named := ["math/bits.deBruijn64tab"], apart := false, laid := [("math/bits.deBruijn64tab", laid_math_bits_deBruijn64tab)] }
def IdsPlaysSaid : Prop := idsPlaysRow.holds Tryd.pinned (OpenSpec.ofChange idsPlaysSpec)

/-- ITS FALSE NEIGHBOUR: 'it returns false'. Refute it at one input. -/
def idsPlaysWrong : ChangeSpec := { name := "idsPlays", fn := fun _ => fun
  | [d] => { results := [.lit (.bool false)], args := [d] }
  | _ => none }
def IdsPlaysWrongFalsely : Prop := idsPlaysRow.holds Tryd.pinned (OpenSpec.ofChange idsPlaysWrong)

/- THE SECOND FORM. 'bulk': how many values and letters a reading holds, each counted each time it is reached (what is shared counts as often as it is met; a slice's spare places count too). A statement '..UptoSaid' is the law's where the arguments, and the package variables that the reading takes, are together of bulk at most 1048576: NARROWER than '..Said'. Prove '..Said' where nothing that the law and all that it calls make is longer than what came in: it says more and counts as full. Else prove '..UptoSaid'. A law counts once. -/
mutual
def uptoBulk {H : Type} : DataW H → Nat
  | .lit (.string bytes) => bytes.length + 1
  | .lit _ => 1
  | .nil => 1
  | .ptr d => uptoBulk d + 1
  | .slice elems spare => uptoBulkAll elems + uptoBulkAll spare + 1
  | .agg parts => uptoBulkAll parts + 1
  | .iface _ d => uptoBulk d + 1
  | .map entries => uptoBulkEntries entries + 1
  | .held _ => 1
def uptoBulkAll {H : Type} : List (DataW H) → Nat
  | [] => 0
  | d :: r => uptoBulk d + uptoBulkAll r
def uptoBulkEntries {H : Type} : List (Lit × DataW H) → Nat
  | [] => 0
  | x :: r => uptoBulkEntry x + uptoBulkEntries r
def uptoBulkEntry {H : Type} : Lit × DataW H → Nat
  | (.string bytes, d) => bytes.length + uptoBulk d + 1
  | (_, d) => uptoBulk d + 1
 end
def uptoSmall : (H : Type) → List (DataW H) → Bool := fun _ ds => decide (uptoBulkAll ds ≤ 1048576)
def OpenSpec.upto (s : _root_.Go.ChangeSpec) : _root_.Go.OpenSpec := { _root_.Go.OpenSpec.ofChange s with cond := some uptoSmall }

/-- 'catwalklaw04.Md5Of', WHERE WHAT IT READS IS OF BULK AT MOST 1048576: true; the input reads as it did. -/
def md5OfUptoRow : OpenClaim := { program := "ytnfklhebcloolaadoor", sum := "6af7313bf034328f2cd89de5551ad6493fc3967516886ab1b86e2ce47f853a3c", func := "catwalk/catwalklaw04.Md5Of", spec := "md5Of", named := ["catwalk/md5.sines", "catwalk/md5.rolls", "catwalk/md5.start"], apart := false, laid := [("catwalk/md5.sines", laid_catwalk_md5_sines), ("catwalk/md5.rolls", laid_catwalk_md5_rolls), ("catwalk/md5.start", laid_catwalk_md5_start)], narrowed := true }
def Md5OfUptoSaid : Prop := md5OfUptoRow.holds Tryd.pinned (OpenSpec.upto md5OfSpec)

/-- 'catwalklaw04.Md5Pieces', WHERE WHAT IT READS IS OF BULK AT MOST 1048576: true; the input reads as it did. -/
def md5PiecesUptoRow : OpenClaim := { program := "ytnfklhebcloolaadoor", sum := "6af7313bf034328f2cd89de5551ad6493fc3967516886ab1b86e2ce47f853a3c", func := "catwalk/catwalklaw04.Md5Pieces", spec := "md5Pieces", named := ["catwalk/md5.sines", "catwalk/md5.rolls", "catwalk/md5.start"], apart := false, laid := [("catwalk/md5.sines", laid_catwalk_md5_sines), ("catwalk/md5.rolls", laid_catwalk_md5_rolls), ("catwalk/md5.start", laid_catwalk_md5_start)], narrowed := true }
def Md5PiecesUptoSaid : Prop := md5PiecesUptoRow.holds Tryd.pinned (OpenSpec.upto md5PiecesSpec)

/-- 'catwalklaw04.Md5Same', WHERE WHAT IT READS IS OF BULK AT MOST 1048576: true; the input reads as it did. -/
def md5SameUptoRow : OpenClaim := { program := "ytnfklhebcloolaadoor", sum := "6af7313bf034328f2cd89de5551ad6493fc3967516886ab1b86e2ce47f853a3c", func := "catwalk/catwalklaw04.Md5Same", spec := "md5Same", named := ["catwalk/md5.sines", "catwalk/md5.rolls", "catwalk/md5.start"], apart := false, laid := [("catwalk/md5.sines", laid_catwalk_md5_sines), ("catwalk/md5.rolls", laid_catwalk_md5_rolls), ("catwalk/md5.start", laid_catwalk_md5_start)], narrowed := true }
def Md5SameUptoSaid : Prop := md5SameUptoRow.holds Tryd.pinned (OpenSpec.upto md5SameSpec)

/-- 'catwalklaw08.IdsPlays', WHERE WHAT IT READS IS OF BULK AT MOST 1048576: true; the input reads as it did. -/
def idsPlaysUptoRow : OpenClaim := { program := "ytnfklhebcloolaadoor", sum := "6af7313bf034328f2cd89de5551ad6493fc3967516886ab1b86e2ce47f853a3c", func := "catwalk/catwalklaw08.IdsPlays", spec := "idsPlays", unfollowed := true, recurses := true, named := ["math/bits.deBruijn64tab"], apart := false, laid := [("math/bits.deBruijn64tab", laid_math_bits_deBruijn64tab)], narrowed := true }
def IdsPlaysUptoSaid : Prop := idsPlaysUptoRow.holds Tryd.pinned (OpenSpec.upto idsPlaysSpec)

end Rows
end Go.Proofs.YtnfklhebcloolaaDoor
