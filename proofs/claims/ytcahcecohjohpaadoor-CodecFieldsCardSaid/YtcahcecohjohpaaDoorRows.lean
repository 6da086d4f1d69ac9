/-
  NARROWER THAN 'FOR EVERY INPUT', by the rows' own cells (each row's printed sentence says how): CodecEncodes: loops, laid · CodecBack: loops, laid · CodecFields: loops, laid.
  DERIVED. THE GIVEN ROWS OF THIS SEAT. 3 by the template 'for every input the law returns true; each argument reads behind the call as it read before'; 0 by the template 'total and deterministic' (their statements: YtcahcecohjohpaaDoorTotals.lean).
  GIVEN WITH THE SEED: the statements are not yours to turn. If you find one false, say at which input.
  Laid BY PROGRAM, IN A SANDBOX (cutbox-rows.mjs): the forced cells as the released guide's own fill.sh prints them over the translation a10a802c3831c125… (all of the seat's roots in one cut). By AI agents, Wed Nov 11 2026. No macro, syntax, notation, axiom, sorry.
-/
import Derived.Test.YtcahcecohjohpaaDoorChecked
import GoSem.Claim
import GoSem.ClaimJoined
import GoSem.ClaimMapViews
import Derived.JoinedTies
import Derived.KernelRfl
namespace Go.Proofs.YtcahcecohjohpaaDoor
/- THE CELL 'sum', in the pinned program and in every row, IS THE sha256 OF THE DUMP (.gsa) THAT YtcahcecohjohpaaDoorProg.lean LOADS. Nothing in Lean hashes anything: it is a label: what it is worth is what the hold of that sum in a sandbox is worth. -/
noncomputable def Tryd.pinned : Pinned := { name := "ytcahcecohjohpaadoor", sum := "a10a802c3831c12534a39221a19b60f63d8f9feb14a35107ca27ede4823dadcf", checked := Tryd.checked }
namespace Rows
def none {H : Type} : Left H := { results := [], args := [] }

/- WHAT THE LISTED PACKAGE-LEVEL VARIABLES READ AS WHEN THE CALL BEGINS. Each datum BY PROGRAM (the guide's laid-datum.mjs) off the statement by which the dump's own 'gosem.cut.vars' lays the variable. In a bare row this is a premise. The card (YtcahcecohjohpaaDoorCards.lean) ties it to the program's text. -/
def laid_bastille_codec_width {H : Type} : DataW H := .agg [.lit (.int .i64 0), .lit (.int .i64 1), .lit (.int .i64 3), .lit (.int .i64 2)]
def laid_bastille_codec_most {H : Type} : DataW H := .agg [.lit (.int .i64 0), .lit (.int .i64 8), .lit (.int .i64 16777215), .lit (.int .i64 4096)]

/-- 'bastillelaw02.CodecEncodes': WHATEVER THE INPUT: true; the input reads as it did. -/
def codecEncodesSpec : ChangeSpec := { name := "codecEncodes", fn := fun _ => fun
  | [d] => { results := [.lit (.bool true)], args := [d] }
  | _ => none }
def codecEncodesRow : OpenClaim := { program := "ytcahcecohjohpaadoor", sum := "a10a802c3831c12534a39221a19b60f63d8f9feb14a35107ca27ede4823dadcf", func := "bastille/bastillelaw02.CodecEncodes", spec := "codecEncodes", recurses := true, named := ["bastille/codec.width", "bastille/codec.most"], loops := true, apart := false, laid := [("bastille/codec.width", laid_bastille_codec_width), ("bastille/codec.most", laid_bastille_codec_most)] }
def CodecEncodesSaid : Prop := codecEncodesRow.holds Tryd.pinned (OpenSpec.ofChange codecEncodesSpec)

/-- ITS FALSE NEIGHBOUR: 'it returns false'. Refute it at one input. -/
def codecEncodesWrong : ChangeSpec := { name := "codecEncodes", fn := fun _ => fun
  | [d] => { results := [.lit (.bool false)], args := [d] }
  | _ => none }
def CodecEncodesWrongFalsely : Prop := codecEncodesRow.holds Tryd.pinned (OpenSpec.ofChange codecEncodesWrong)

/-- 'bastillelaw02.CodecBack': WHATEVER THE INPUT: true; the input reads as it did. -/
def codecBackSpec : ChangeSpec := { name := "codecBack", fn := fun _ => fun
  | [d1, d2] => { results := [.lit (.bool true)], args := [d1, d2] }
  | _ => none }
def codecBackRow : OpenClaim := { program := "ytcahcecohjohpaadoor", sum := "a10a802c3831c12534a39221a19b60f63d8f9feb14a35107ca27ede4823dadcf", func := "bastille/bastillelaw02.CodecBack", spec := "codecBack", unfollowed := true, recurses := true, named := ["bastille/codec.width", "bastille/codec.most"], loops := true, apart := false, laid := [("bastille/codec.width", laid_bastille_codec_width), ("bastille/codec.most", laid_bastille_codec_most)] }
def CodecBackSaid : Prop := codecBackRow.holds Tryd.pinned (OpenSpec.ofChange codecBackSpec)

/-- ITS FALSE NEIGHBOUR: 'it returns false'. Refute it at one input. -/
def codecBackWrong : ChangeSpec := { name := "codecBack", fn := fun _ => fun
  | [d1, d2] => { results := [.lit (.bool false)], args := [d1, d2] }
  | _ => none }
def CodecBackWrongFalsely : Prop := codecBackRow.holds Tryd.pinned (OpenSpec.ofChange codecBackWrong)

/-- 'bastillelaw02.CodecFields': WHATEVER THE INPUT: true; the input reads as it did. -/
def codecFieldsSpec : ChangeSpec := { name := "codecFields", fn := fun _ => fun
  | [d1, d2, d3] => { results := [.lit (.bool true)], args := [d1, d2, d3] }
  | _ => none }
def codecFieldsRow : OpenClaim := { program := "ytcahcecohjohpaadoor", sum := "a10a802c3831c12534a39221a19b60f63d8f9feb14a35107ca27ede4823dadcf", func := "bastille/bastillelaw02.CodecFields", spec := "codecFields", unfollowed := true, recurses := true, named := ["bastille/codec.width", "bastille/codec.most"], loops := true, apart := false, laid := [("bastille/codec.width", laid_bastille_codec_width), ("bastille/codec.most", laid_bastille_codec_most)] }
def CodecFieldsSaid : Prop := codecFieldsRow.holds Tryd.pinned (OpenSpec.ofChange codecFieldsSpec)

/-- ITS FALSE NEIGHBOUR: 'it returns false'. Refute it at one input. -/
def codecFieldsWrong : ChangeSpec := { name := "codecFields", fn := fun _ => fun
  | [d1, d2, d3] => { results := [.lit (.bool false)], args := [d1, d2, d3] }
  | _ => none }
def CodecFieldsWrongFalsely : Prop := codecFieldsRow.holds Tryd.pinned (OpenSpec.ofChange codecFieldsWrong)

/- THE SECOND FORM. 'bulk': how many values and letters a reading holds, each counted each time it is reached (what is shared counts as often as it is met; a slice's spare places count too). A statement '..UptoSaid' is the law's where the arguments, and the package variables that the reading takes, are together of bulk at most 1048576: NARROWER than '..Said'. Prove '..Said' where nothing that the law and all that it calls make is longer than what came in: it says more and counts as full. Else prove '..UptoSaid'. A law counts once. -/
mutual
def uptoBulk {H : Type} : DataW H → Nat
  | .lit (.string bytes) => bytes.length + 1
  | .lit _ => 1
  | .nil => 1
  | .ptr d => uptoBulk d + 1
  | .slice elems spare => uptoBulkAll elems + uptoBulkAll spare + 1
  | .agg parts => uptoBulkAll parts + 1
  | .iface _ d => uptoBulk d + 1
  | .map entries => uptoBulkEntries entries + 1
  | .held _ => 1
def uptoBulkAll {H : Type} : List (DataW H) → Nat
  | [] => 0
  | d :: r => uptoBulk d + uptoBulkAll r
def uptoBulkEntries {H : Type} : List (Lit × DataW H) → Nat
  | [] => 0
  | x :: r => uptoBulkEntry x + uptoBulkEntries r
def uptoBulkEntry {H : Type} : Lit × DataW H → Nat
  | (.string bytes, d) => bytes.length + uptoBulk d + 1
  | (_, d) => uptoBulk d + 1
 end
def uptoSmall : (H : Type) → List (DataW H) → Bool := fun _ ds => decide (uptoBulkAll ds ≤ 1048576)
def OpenSpec.upto (s : _root_.Go.ChangeSpec) : _root_.Go.OpenSpec := { _root_.Go.OpenSpec.ofChange s with cond := some uptoSmall }

/-- 'bastillelaw02.CodecEncodes', WHERE WHAT IT READS IS OF BULK AT MOST 1048576: true; the input reads as it did. -/
def codecEncodesUptoRow : OpenClaim := { program := "ytcahcecohjohpaadoor", sum := "a10a802c3831c12534a39221a19b60f63d8f9feb14a35107ca27ede4823dadcf", func := "bastille/bastillelaw02.CodecEncodes", spec := "codecEncodes", recurses := true, named := ["bastille/codec.width", "bastille/codec.most"], loops := true, apart := false, laid := [("bastille/codec.width", laid_bastille_codec_width), ("bastille/codec.most", laid_bastille_codec_most)], narrowed := true }
def CodecEncodesUptoSaid : Prop := codecEncodesUptoRow.holds Tryd.pinned (OpenSpec.upto codecEncodesSpec)

/-- 'bastillelaw02.CodecBack', WHERE WHAT IT READS IS OF BULK AT MOST 1048576: true; the input reads as it did. -/
def codecBackUptoRow : OpenClaim := { program := "ytcahcecohjohpaadoor", sum := "a10a802c3831c12534a39221a19b60f63d8f9feb14a35107ca27ede4823dadcf", func := "bastille/bastillelaw02.CodecBack", spec := "codecBack", unfollowed := true, recurses := true, named := ["bastille/codec.width", "bastille/codec.most"], loops := true, apart := false, laid := [("bastille/codec.width", laid_bastille_codec_width), ("bastille/codec.most", laid_bastille_codec_most)], narrowed := true }
def CodecBackUptoSaid : Prop := codecBackUptoRow.holds Tryd.pinned (OpenSpec.upto codecBackSpec)

/-- 'bastillelaw02.CodecFields', WHERE WHAT IT READS IS OF BULK AT MOST 1048576: true; the input reads as it did. -/
def codecFieldsUptoRow : OpenClaim := { program := "ytcahcecohjohpaadoor", sum := "a10a802c3831c12534a39221a19b60f63d8f9feb14a35107ca27ede4823dadcf", func := "bastille/bastillelaw02.CodecFields", spec := "codecFields", unfollowed := true, recurses := true, named := ["bastille/codec.width", "bastille/codec.most"], loops := true, apart := false, laid := [("bastille/codec.width", laid_bastille_codec_width), ("bastille/codec.most", laid_bastille_codec_most)], narrowed := true }
def CodecFieldsUptoSaid : Prop := codecFieldsUptoRow.holds Tryd.pinned (OpenSpec.upto codecFieldsSpec)

end Rows
end Go.Proofs.YtcahcecohjohpaaDoor
