/-
  NARROWER THAN 'FOR EVERY INPUT', by the rows' own cells (each row's printed sentence says how): ScalarTakes: laid · ScalarSums: laid · ScalarLaws: laid.
  DERIVED. THE GIVEN ROWS OF THIS SEAT. 3 by the template 'for every input the law returns true; each argument reads behind the call as it read before'; 0 by the template 'total and deterministic' (their statements: YtcoegehnipldpaaDoorTotals.lean).
  GIVEN WITH THE SEED: the statements are not yours to turn. If you find one false, say at which input.
  Laid BY PROGRAM, IN A SANDBOX (cutbox-rows.mjs): the forced cells as the released guide's own fill.sh prints them over the translation 2cc62d057037d96e… (all of the seat's roots in one cut). By AI agents, Wed Nov 11 2026. No macro, syntax, notation, axiom, sorry.
-/
import Derived.Test.YtcoegehnipldpaaDoorChecked
import GoSem.Claim
import GoSem.ClaimJoined
import GoSem.ClaimMapViews
import Derived.JoinedTies
import Derived.KernelRfl
namespace Go.Proofs.YtcoegehnipldpaaDoor
/- THE CELL 'sum', in the pinned program and in every row, IS THE sha256 OF THE DUMP (.gsa) THAT YtcoegehnipldpaaDoorProg.lean LOADS. Nothing in Lean hashes anything: it is a label: what it is worth is what the hold of that sum in a sandbox is worth. -/
noncomputable def Tryd.pinned : Pinned := { name := "ytcoegehnipldpaadoor", sum := "2cc62d057037d96eebde9a8de102bf1559772850491f13804faf5ee3d9ac0e59", checked := Tryd.checked }
namespace Rows
def none {H : Type} : Left H := { results := [], args := [] }

/- WHAT THE LISTED PACKAGE-LEVEL VARIABLES READ AS WHEN THE CALL BEGINS. Each datum BY PROGRAM (the guide's laid-datum.mjs) off the statement by which the dump's own 'gosem.cut.vars' lays the variable. In a bare row this is a premise. The card (YtcoegehnipldpaaDoorCards.lean) ties it to the program's text. -/
def laid_bastille_scalar_order {H : Type} : DataW H := .agg [.lit (.int .u64 6346243789798364141), .lit (.int .u64 1503914060200516822), .lit (.int .u64 0), .lit (.int .u64 1152921504606846976)]

/-- 'bastillelaw06.ScalarTakes': WHATEVER THE INPUT: true; the input reads as it did. -/
def scalarTakesSpec : ChangeSpec := { name := "scalarTakes", fn := fun _ => fun
  | [d1, d2] => { results := [.lit (.bool true)], args := [d1, d2] }
  | _ => none }
def scalarTakesRow : OpenClaim := { program := "ytcoegehnipldpaadoor", sum := "2cc62d057037d96eebde9a8de102bf1559772850491f13804faf5ee3d9ac0e59", func := "bastille/bastillelaw06.ScalarTakes", spec := "scalarTakes", inPlace := ["math/bits.Sub64"], named := ["bastille/scalar.order"], apart := false, laid := [("bastille/scalar.order", laid_bastille_scalar_order)] }
def ScalarTakesSaid : Prop := scalarTakesRow.holds Tryd.pinned (OpenSpec.ofChange scalarTakesSpec)

/-- ITS FALSE NEIGHBOUR: 'it returns false'. Refute it at one input. -/
def scalarTakesWrong : ChangeSpec := { name := "scalarTakes", fn := fun _ => fun
  | [d1, d2] => { results := [.lit (.bool false)], args := [d1, d2] }
  | _ => none }
def ScalarTakesWrongFalsely : Prop := scalarTakesRow.holds Tryd.pinned (OpenSpec.ofChange scalarTakesWrong)

/-- 'bastillelaw06.ScalarSums': WHATEVER THE INPUT: true; the input reads as it did. -/
def scalarSumsSpec : ChangeSpec := { name := "scalarSums", fn := fun _ => fun
  | [d1, d2, d3] => { results := [.lit (.bool true)], args := [d1, d2, d3] }
  | _ => none }
def scalarSumsRow : OpenClaim := { program := "ytcoegehnipldpaadoor", sum := "2cc62d057037d96eebde9a8de102bf1559772850491f13804faf5ee3d9ac0e59", func := "bastille/bastillelaw06.ScalarSums", spec := "scalarSums", inPlace := ["math/bits.Sub64"], named := ["bastille/scalar.order"], apart := false, laid := [("bastille/scalar.order", laid_bastille_scalar_order)] }
def ScalarSumsSaid : Prop := scalarSumsRow.holds Tryd.pinned (OpenSpec.ofChange scalarSumsSpec)

/-- ITS FALSE NEIGHBOUR: 'it returns false'. Refute it at one input. -/
def scalarSumsWrong : ChangeSpec := { name := "scalarSums", fn := fun _ => fun
  | [d1, d2, d3] => { results := [.lit (.bool false)], args := [d1, d2, d3] }
  | _ => none }
def ScalarSumsWrongFalsely : Prop := scalarSumsRow.holds Tryd.pinned (OpenSpec.ofChange scalarSumsWrong)

/-- 'bastillelaw06.ScalarLaws': WHATEVER THE INPUT: true; the input reads as it did. -/
def scalarLawsSpec : ChangeSpec := { name := "scalarLaws", fn := fun _ => fun
  | [d1, d2, d3] => { results := [.lit (.bool true)], args := [d1, d2, d3] }
  | _ => none }
def scalarLawsRow : OpenClaim := { program := "ytcoegehnipldpaadoor", sum := "2cc62d057037d96eebde9a8de102bf1559772850491f13804faf5ee3d9ac0e59", func := "bastille/bastillelaw06.ScalarLaws", spec := "scalarLaws", inPlace := ["math/bits.Sub64"], unfollowed := true, recurses := true, named := ["bastille/scalar.order"], apart := false, laid := [("bastille/scalar.order", laid_bastille_scalar_order)] }
def ScalarLawsSaid : Prop := scalarLawsRow.holds Tryd.pinned (OpenSpec.ofChange scalarLawsSpec)

/-- ITS FALSE NEIGHBOUR: 'it returns false'. Refute it at one input. -/
def scalarLawsWrong : ChangeSpec := { name := "scalarLaws", fn := fun _ => fun
  | [d1, d2, d3] => { results := [.lit (.bool false)], args := [d1, d2, d3] }
  | _ => none }
def ScalarLawsWrongFalsely : Prop := scalarLawsRow.holds Tryd.pinned (OpenSpec.ofChange scalarLawsWrong)

/- THE SECOND FORM. 'bulk': how many values and letters a reading holds, each counted each time it is reached (what is shared counts as often as it is met; a slice's spare places count too). A statement '..UptoSaid' is the law's where the arguments, and the package variables that the reading takes, are together of bulk at most 1048576: NARROWER than '..Said'. Prove '..Said' where nothing that the law and all that it calls make is longer than what came in: it says more and counts as full. Else prove '..UptoSaid'. A law counts once. -/
mutual
def uptoBulk {H : Type} : DataW H → Nat
  | .lit (.string bytes) => bytes.length + 1
  | .lit _ => 1
  | .nil => 1
  | .ptr d => uptoBulk d + 1
  | .slice elems spare => uptoBulkAll elems + uptoBulkAll spare + 1
  | .agg parts => uptoBulkAll parts + 1
  | .iface _ d => uptoBulk d + 1
  | .map entries => uptoBulkEntries entries + 1
  | .held _ => 1
def uptoBulkAll {H : Type} : List (DataW H) → Nat
  | [] => 0
  | d :: r => uptoBulk d + uptoBulkAll r
def uptoBulkEntries {H : Type} : List (Lit × DataW H) → Nat
  | [] => 0
  | x :: r => uptoBulkEntry x + uptoBulkEntries r
def uptoBulkEntry {H : Type} : Lit × DataW H → Nat
  | (.string bytes, d) => bytes.length + uptoBulk d + 1
  | (_, d) => uptoBulk d + 1
 end
def uptoSmall : (H : Type) → List (DataW H) → Bool := fun _ ds => decide (uptoBulkAll ds ≤ 1048576)
def OpenSpec.upto (s : _root_.Go.ChangeSpec) : _root_.Go.OpenSpec := { _root_.Go.OpenSpec.ofChange s with cond := some uptoSmall }

/-- 'bastillelaw06.ScalarTakes', WHERE WHAT IT READS IS OF BULK AT MOST 1048576: true; the input reads as it did. -/
def scalarTakesUptoRow : OpenClaim := { program := "ytcoegehnipldpaadoor", sum := "2cc62d057037d96eebde9a8de102bf1559772850491f13804faf5ee3d9ac0e59", func := "bastille/bastillelaw06.ScalarTakes", spec := "scalarTakes", inPlace := ["math/bits.Sub64"], named := ["bastille/scalar.order"], apart := false, laid := [("bastille/scalar.order", laid_bastille_scalar_order)], narrowed := true }
def ScalarTakesUptoSaid : Prop := scalarTakesUptoRow.holds Tryd.pinned (OpenSpec.upto scalarTakesSpec)

/-- 'bastillelaw06.ScalarSums', WHERE WHAT IT READS IS OF BULK AT MOST 1048576: true; the input reads as it did. -/
def scalarSumsUptoRow : OpenClaim := { program := "ytcoegehnipldpaadoor", sum := "2cc62d057037d96eebde9a8de102bf1559772850491f13804faf5ee3d9ac0e59", func := "bastille/bastillelaw06.ScalarSums", spec := "scalarSums", inPlace := ["math/bits.Sub64"], named := ["bastille/scalar.order"], apart := false, laid := [("bastille/scalar.order", laid_bastille_scalar_order)], narrowed := true }
def ScalarSumsUptoSaid : Prop := scalarSumsUptoRow.holds Tryd.pinned (OpenSpec.upto scalarSumsSpec)

/-- 'bastillelaw06.ScalarLaws', WHERE WHAT IT READS IS OF BULK AT MOST 1048576: true; the input reads as it did. -/
def scalarLawsUptoRow : OpenClaim := { program := "ytcoegehnipldpaadoor", sum := "2cc62d057037d96eebde9a8de102bf1559772850491f13804faf5ee3d9ac0e59", func := "bastille/bastillelaw06.ScalarLaws", spec := "scalarLaws", inPlace := ["math/bits.Sub64"], unfollowed := true, recurses := true, named := ["bastille/scalar.order"], apart := false, laid := [("bastille/scalar.order", laid_bastille_scalar_order)], narrowed := true }
def ScalarLawsUptoSaid : Prop := scalarLawsUptoRow.holds Tryd.pinned (OpenSpec.upto scalarLawsSpec)

end Rows
end Go.Proofs.YtcoegehnipldpaaDoor
