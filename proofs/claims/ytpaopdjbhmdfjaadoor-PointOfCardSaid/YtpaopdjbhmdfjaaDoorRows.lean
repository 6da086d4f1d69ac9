/-
  NARROWER THAN 'FOR EVERY INPUT', by the rows' own cells (each row's printed sentence says how): PointOf: laid · PointSums: laid · PointLaws: laid.
  DERIVED. THE GIVEN ROWS OF THIS SEAT. 3 by the template 'for every input the law returns true; each argument reads behind the call as it read before'; 0 by the template 'total and deterministic' (their statements: YtpaopdjbhmdfjaaDoorTotals.lean).
  GIVEN WITH THE SEED: the statements are not yours to turn. If you find one false, say at which input.
  Laid BY PROGRAM, IN A SANDBOX (cutbox-rows.mjs): the forced cells as the released guide's own fill.sh prints them over the translation a4686b85b0489f61… (all of the seat's roots in one cut). By AI agents, Wed Nov 11 2026. No macro, syntax, notation, axiom, sorry.
-/
import Derived.Test.YtpaopdjbhmdfjaaDoorChecked
import GoSem.Claim
import GoSem.ClaimJoined
import GoSem.ClaimMapViews
import Derived.JoinedTies
import Derived.KernelRfl
namespace Go.Proofs.YtpaopdjbhmdfjaaDoor
/- THE CELL 'sum', in the pinned program and in every row, IS THE sha256 OF THE DUMP (.gsa) THAT YtpaopdjbhmdfjaaDoorProg.lean LOADS. Nothing in Lean hashes anything: it is a label: what it is worth is what the hold of that sum in a sandbox is worth. -/
noncomputable def Tryd.pinned : Pinned := { name := "ytpaopdjbhmdfjaadoor", sum := "a4686b85b0489f61e04785673eca2d64fe236179d70ce20b07c88c4baa54e1ad", checked := Tryd.checked }
namespace Rows
def none {H : Type} : Left H := { results := [], args := [] }

/- WHAT THE LISTED PACKAGE-LEVEL VARIABLES READ AS WHEN THE CALL BEGINS. Each datum BY PROGRAM (the guide's laid-datum.mjs) off the statement by which the dump's own 'gosem.cut.vars' lays the variable. In a bare row this is a premise. The card (YtpaopdjbhmdfjaaDoorCards.lean) ties it to the program's text. -/
def laid_bastille_point_d {H : Type} : DataW H := .agg [.lit (.int .u8 163), .lit (.int .u8 120), .lit (.int .u8 89), .lit (.int .u8 19), .lit (.int .u8 202), .lit (.int .u8 77), .lit (.int .u8 235), .lit (.int .u8 117), .lit (.int .u8 171), .lit (.int .u8 216), .lit (.int .u8 65), .lit (.int .u8 65), .lit (.int .u8 77), .lit (.int .u8 10), .lit (.int .u8 112), .lit (.int .u8 0), .lit (.int .u8 152), .lit (.int .u8 232), .lit (.int .u8 121), .lit (.int .u8 119), .lit (.int .u8 121), .lit (.int .u8 64), .lit (.int .u8 199), .lit (.int .u8 140), .lit (.int .u8 115), .lit (.int .u8 254), .lit (.int .u8 111), .lit (.int .u8 43), .lit (.int .u8 238), .lit (.int .u8 108), .lit (.int .u8 3), .lit (.int .u8 82)]
def laid_bastille_point_baseX {H : Type} : DataW H := .agg [.lit (.int .u8 26), .lit (.int .u8 213), .lit (.int .u8 37), .lit (.int .u8 143), .lit (.int .u8 96), .lit (.int .u8 45), .lit (.int .u8 86), .lit (.int .u8 201), .lit (.int .u8 178), .lit (.int .u8 167), .lit (.int .u8 37), .lit (.int .u8 149), .lit (.int .u8 96), .lit (.int .u8 199), .lit (.int .u8 44), .lit (.int .u8 105), .lit (.int .u8 92), .lit (.int .u8 220), .lit (.int .u8 214), .lit (.int .u8 253), .lit (.int .u8 49), .lit (.int .u8 226), .lit (.int .u8 164), .lit (.int .u8 192), .lit (.int .u8 254), .lit (.int .u8 83), .lit (.int .u8 110), .lit (.int .u8 205), .lit (.int .u8 211), .lit (.int .u8 54), .lit (.int .u8 105), .lit (.int .u8 33)]
def laid_bastille_point_baseY {H : Type} : DataW H := .agg [.lit (.int .u8 88), .lit (.int .u8 102), .lit (.int .u8 102), .lit (.int .u8 102), .lit (.int .u8 102), .lit (.int .u8 102), .lit (.int .u8 102), .lit (.int .u8 102), .lit (.int .u8 102), .lit (.int .u8 102), .lit (.int .u8 102), .lit (.int .u8 102), .lit (.int .u8 102), .lit (.int .u8 102), .lit (.int .u8 102), .lit (.int .u8 102), .lit (.int .u8 102), .lit (.int .u8 102), .lit (.int .u8 102), .lit (.int .u8 102), .lit (.int .u8 102), .lit (.int .u8 102), .lit (.int .u8 102), .lit (.int .u8 102), .lit (.int .u8 102), .lit (.int .u8 102), .lit (.int .u8 102), .lit (.int .u8 102), .lit (.int .u8 102), .lit (.int .u8 102), .lit (.int .u8 102), .lit (.int .u8 102)]

/-- 'bastillelaw07.PointOf': WHATEVER THE INPUT: true; the input reads as it did. -/
def pointOfSpec : ChangeSpec := { name := "pointOf", fn := fun _ => fun
  | [d] => { results := [.lit (.bool true)], args := [d] }
  | _ => none }
def pointOfRow : OpenClaim := { program := "ytpaopdjbhmdfjaadoor", sum := "a4686b85b0489f61e04785673eca2d64fe236179d70ce20b07c88c4baa54e1ad", func := "bastille/bastillelaw07.PointOf", spec := "pointOf", named := ["bastille/point.baseX", "bastille/point.baseY", "bastille/point.d"], apart := false, laid := [("bastille/point.d", laid_bastille_point_d), ("bastille/point.baseX", laid_bastille_point_baseX), ("bastille/point.baseY", laid_bastille_point_baseY)] }
def PointOfSaid : Prop := pointOfRow.holds Tryd.pinned (OpenSpec.ofChange pointOfSpec)

/-- ITS FALSE NEIGHBOUR: 'it returns false'. Refute it at one input. -/
def pointOfWrong : ChangeSpec := { name := "pointOf", fn := fun _ => fun
  | [d] => { results := [.lit (.bool false)], args := [d] }
  | _ => none }
def PointOfWrongFalsely : Prop := pointOfRow.holds Tryd.pinned (OpenSpec.ofChange pointOfWrong)

/-- 'bastillelaw07.PointSums': WHATEVER THE INPUT: true; the input reads as it did. -/
def pointSumsSpec : ChangeSpec := { name := "pointSums", fn := fun _ => fun
  | [d1, d2] => { results := [.lit (.bool true)], args := [d1, d2] }
  | _ => none }
def pointSumsRow : OpenClaim := { program := "ytpaopdjbhmdfjaadoor", sum := "a4686b85b0489f61e04785673eca2d64fe236179d70ce20b07c88c4baa54e1ad", func := "bastille/bastillelaw07.PointSums", spec := "pointSums", named := ["bastille/point.baseX", "bastille/point.baseY", "bastille/point.d"], apart := false, laid := [("bastille/point.d", laid_bastille_point_d), ("bastille/point.baseX", laid_bastille_point_baseX), ("bastille/point.baseY", laid_bastille_point_baseY)] }
def PointSumsSaid : Prop := pointSumsRow.holds Tryd.pinned (OpenSpec.ofChange pointSumsSpec)

/-- ITS FALSE NEIGHBOUR: 'it returns false'. Refute it at one input. -/
def pointSumsWrong : ChangeSpec := { name := "pointSums", fn := fun _ => fun
  | [d1, d2] => { results := [.lit (.bool false)], args := [d1, d2] }
  | _ => none }
def PointSumsWrongFalsely : Prop := pointSumsRow.holds Tryd.pinned (OpenSpec.ofChange pointSumsWrong)

/-- 'bastillelaw07.PointLaws': WHATEVER THE INPUT: true; the input reads as it did. -/
def pointLawsSpec : ChangeSpec := { name := "pointLaws", fn := fun _ => fun
  | [d1, d2, d3] => { results := [.lit (.bool true)], args := [d1, d2, d3] }
  | _ => none }
def pointLawsRow : OpenClaim := { program := "ytpaopdjbhmdfjaadoor", sum := "a4686b85b0489f61e04785673eca2d64fe236179d70ce20b07c88c4baa54e1ad", func := "bastille/bastillelaw07.PointLaws", spec := "pointLaws", named := ["bastille/point.baseX", "bastille/point.baseY", "bastille/point.d"], apart := false, laid := [("bastille/point.d", laid_bastille_point_d), ("bastille/point.baseX", laid_bastille_point_baseX), ("bastille/point.baseY", laid_bastille_point_baseY)] }
def PointLawsSaid : Prop := pointLawsRow.holds Tryd.pinned (OpenSpec.ofChange pointLawsSpec)

/-- ITS FALSE NEIGHBOUR: 'it returns false'. Refute it at one input. -/
def pointLawsWrong : ChangeSpec := { name := "pointLaws", fn := fun _ => fun
  | [d1, d2, d3] => { results := [.lit (.bool false)], args := [d1, d2, d3] }
  | _ => none }
def PointLawsWrongFalsely : Prop := pointLawsRow.holds Tryd.pinned (OpenSpec.ofChange pointLawsWrong)

/- THE SECOND FORM. 'bulk': how many values and letters a reading holds, each counted each time it is reached (what is shared counts as often as it is met; a slice's spare places count too). A statement '..UptoSaid' is the law's where the arguments, and the package variables that the reading takes, are together of bulk at most 1048576: NARROWER than '..Said'. Prove '..Said' where nothing that the law and all that it calls make is longer than what came in: it says more and counts as full. Else prove '..UptoSaid'. A law counts once. -/
mutual
def uptoBulk {H : Type} : DataW H → Nat
  | .lit (.string bytes) => bytes.length + 1
  | .lit _ => 1
  | .nil => 1
  | .ptr d => uptoBulk d + 1
  | .slice elems spare => uptoBulkAll elems + uptoBulkAll spare + 1
  | .agg parts => uptoBulkAll parts + 1
  | .iface _ d => uptoBulk d + 1
  | .map entries => uptoBulkEntries entries + 1
  | .held _ => 1
def uptoBulkAll {H : Type} : List (DataW H) → Nat
  | [] => 0
  | d :: r => uptoBulk d + uptoBulkAll r
def uptoBulkEntries {H : Type} : List (Lit × DataW H) → Nat
  | [] => 0
  | x :: r => uptoBulkEntry x + uptoBulkEntries r
def uptoBulkEntry {H : Type} : Lit × DataW H → Nat
  | (.string bytes, d) => bytes.length + uptoBulk d + 1
  | (_, d) => uptoBulk d + 1
 end
def uptoSmall : (H : Type) → List (DataW H) → Bool := fun _ ds => decide (uptoBulkAll ds ≤ 1048576)
def OpenSpec.upto (s : _root_.Go.ChangeSpec) : _root_.Go.OpenSpec := { _root_.Go.OpenSpec.ofChange s with cond := some uptoSmall }

/-- 'bastillelaw07.PointOf', WHERE WHAT IT READS IS OF BULK AT MOST 1048576: true; the input reads as it did. -/
def pointOfUptoRow : OpenClaim := { program := "ytpaopdjbhmdfjaadoor", sum := "a4686b85b0489f61e04785673eca2d64fe236179d70ce20b07c88c4baa54e1ad", func := "bastille/bastillelaw07.PointOf", spec := "pointOf", named := ["bastille/point.baseX", "bastille/point.baseY", "bastille/point.d"], apart := false, laid := [("bastille/point.d", laid_bastille_point_d), ("bastille/point.baseX", laid_bastille_point_baseX), ("bastille/point.baseY", laid_bastille_point_baseY)], narrowed := true }
def PointOfUptoSaid : Prop := pointOfUptoRow.holds Tryd.pinned (OpenSpec.upto pointOfSpec)

/-- 'bastillelaw07.PointSums', WHERE WHAT IT READS IS OF BULK AT MOST 1048576: true; the input reads as it did. -/
def pointSumsUptoRow : OpenClaim := { program := "ytpaopdjbhmdfjaadoor", sum := "a4686b85b0489f61e04785673eca2d64fe236179d70ce20b07c88c4baa54e1ad", func := "bastille/bastillelaw07.PointSums", spec := "pointSums", named := ["bastille/point.baseX", "bastille/point.baseY", "bastille/point.d"], apart := false, laid := [("bastille/point.d", laid_bastille_point_d), ("bastille/point.baseX", laid_bastille_point_baseX), ("bastille/point.baseY", laid_bastille_point_baseY)], narrowed := true }
def PointSumsUptoSaid : Prop := pointSumsUptoRow.holds Tryd.pinned (OpenSpec.upto pointSumsSpec)

/-- 'bastillelaw07.PointLaws', WHERE WHAT IT READS IS OF BULK AT MOST 1048576: true; the input reads as it did. -/
def pointLawsUptoRow : OpenClaim := { program := "ytpaopdjbhmdfjaadoor", sum := "a4686b85b0489f61e04785673eca2d64fe236179d70ce20b07c88c4baa54e1ad", func := "bastille/bastillelaw07.PointLaws", spec := "pointLaws", named := ["bastille/point.baseX", "bastille/point.baseY", "bastille/point.d"], apart := false, laid := [("bastille/point.d", laid_bastille_point_d), ("bastille/point.baseX", laid_bastille_point_baseX), ("bastille/point.baseY", laid_bastille_point_baseY)], narrowed := true }
def PointLawsUptoSaid : Prop := pointLawsUptoRow.holds Tryd.pinned (OpenSpec.upto pointLawsSpec)

end Rows
end Go.Proofs.YtpaopdjbhmdfjaaDoor
