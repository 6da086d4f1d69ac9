/-
  NARROWER THAN 'FOR EVERY INPUT', by the rows' own cells (each row's printed sentence says how): ChachaBlocks: laid · ChachaHides: laid · ChachaBack: laid.
  DERIVED. THE GIVEN ROWS OF THIS SEAT. 3 by the template 'for every input the law returns true; each argument reads behind the call as it read before'; 0 by the template 'total and deterministic' (their statements: YtcbcahlgafngcaaDoorTotals.lean).
  GIVEN WITH THE SEED: the statements are not yours to turn. If you find one false, say at which input.
  Laid BY PROGRAM, IN A SANDBOX (cutbox-rows.mjs): the forced cells as the released guide's own fill.sh prints them over the translation a11d510bd0d3cbf2… (all of the seat's roots in one cut). By AI agents, Wed Nov 11 2026. No macro, syntax, notation, axiom, sorry.
-/
import Derived.Test.YtcbcahlgafngcaaDoorChecked
import GoSem.Claim
import GoSem.ClaimJoined
import GoSem.ClaimMapViews
import Derived.JoinedTies
import Derived.KernelRfl
namespace Go.Proofs.YtcbcahlgafngcaaDoor
/- THE CELL 'sum', in the pinned program and in every row, IS THE sha256 OF THE DUMP (.gsa) THAT YtcbcahlgafngcaaDoorProg.lean LOADS. Nothing in Lean hashes anything: it is a label: what it is worth is what the hold of that sum in a sandbox is worth. -/
noncomputable def Tryd.pinned : Pinned := { name := "ytcbcahlgafngcaadoor", sum := "a11d510bd0d3cbf2c5fb5ce3d22e72518e4b81cf57e196f0154cea10142577e0", checked := Tryd.checked }
namespace Rows
def none {H : Type} : Left H := { results := [], args := [] }

/- WHAT THE LISTED PACKAGE-LEVEL VARIABLES READ AS WHEN THE CALL BEGINS. Each datum BY PROGRAM (the guide's laid-datum.mjs) off the statement by which the dump's own 'gosem.cut.vars' lays the variable. In a bare row this is a premise. The card (YtcbcahlgafngcaaDoorCards.lean) ties it to the program's text. -/
def laid_bastille_chacha_quarters {H : Type} : DataW H := .agg [.agg [.lit (.int .i64 0), .lit (.int .i64 4), .lit (.int .i64 8), .lit (.int .i64 12)], .agg [.lit (.int .i64 1), .lit (.int .i64 5), .lit (.int .i64 9), .lit (.int .i64 13)], .agg [.lit (.int .i64 2), .lit (.int .i64 6), .lit (.int .i64 10), .lit (.int .i64 14)], .agg [.lit (.int .i64 3), .lit (.int .i64 7), .lit (.int .i64 11), .lit (.int .i64 15)], .agg [.lit (.int .i64 0), .lit (.int .i64 5), .lit (.int .i64 10), .lit (.int .i64 15)], .agg [.lit (.int .i64 1), .lit (.int .i64 6), .lit (.int .i64 11), .lit (.int .i64 12)], .agg [.lit (.int .i64 2), .lit (.int .i64 7), .lit (.int .i64 8), .lit (.int .i64 13)], .agg [.lit (.int .i64 3), .lit (.int .i64 4), .lit (.int .i64 9), .lit (.int .i64 14)]]

/-- 'bastillelaw09.ChachaBlocks': WHATEVER THE INPUT: true; the input reads as it did. -/
def chachaBlocksSpec : ChangeSpec := { name := "chachaBlocks", fn := fun _ => fun
  | [d1, d2] => { results := [.lit (.bool true)], args := [d1, d2] }
  | _ => none }
def chachaBlocksRow : OpenClaim := { program := "ytcbcahlgafngcaadoor", sum := "a11d510bd0d3cbf2c5fb5ce3d22e72518e4b81cf57e196f0154cea10142577e0", func := "bastille/bastillelaw09.ChachaBlocks", spec := "chachaBlocks", unfollowed := true, recurses := true, named := ["bastille/chacha.quarters"], apart := false, laid := [("bastille/chacha.quarters", laid_bastille_chacha_quarters)] }
def ChachaBlocksSaid : Prop := chachaBlocksRow.holds Tryd.pinned (OpenSpec.ofChange chachaBlocksSpec)

/-- ITS FALSE NEIGHBOUR: 'it returns false'. Refute it at one input. -/
def chachaBlocksWrong : ChangeSpec := { name := "chachaBlocks", fn := fun _ => fun
  | [d1, d2] => { results := [.lit (.bool false)], args := [d1, d2] }
  | _ => none }
def ChachaBlocksWrongFalsely : Prop := chachaBlocksRow.holds Tryd.pinned (OpenSpec.ofChange chachaBlocksWrong)

/-- 'bastillelaw09.ChachaHides': WHATEVER THE INPUT: true; the input reads as it did. -/
def chachaHidesSpec : ChangeSpec := { name := "chachaHides", fn := fun _ => fun
  | [d1, d2] => { results := [.lit (.bool true)], args := [d1, d2] }
  | _ => none }
def chachaHidesRow : OpenClaim := { program := "ytcbcahlgafngcaadoor", sum := "a11d510bd0d3cbf2c5fb5ce3d22e72518e4b81cf57e196f0154cea10142577e0", func := "bastille/bastillelaw09.ChachaHides", spec := "chachaHides", unfollowed := true, recurses := true, named := ["bastille/chacha.quarters"], apart := false, laid := [("bastille/chacha.quarters", laid_bastille_chacha_quarters)] }
def ChachaHidesSaid : Prop := chachaHidesRow.holds Tryd.pinned (OpenSpec.ofChange chachaHidesSpec)

/-- ITS FALSE NEIGHBOUR: 'it returns false'. Refute it at one input. -/
def chachaHidesWrong : ChangeSpec := { name := "chachaHides", fn := fun _ => fun
  | [d1, d2] => { results := [.lit (.bool false)], args := [d1, d2] }
  | _ => none }
def ChachaHidesWrongFalsely : Prop := chachaHidesRow.holds Tryd.pinned (OpenSpec.ofChange chachaHidesWrong)

/-- 'bastillelaw09.ChachaBack': WHATEVER THE INPUT: true; the input reads as it did. -/
def chachaBackSpec : ChangeSpec := { name := "chachaBack", fn := fun _ => fun
  | [d1, d2, d3] => { results := [.lit (.bool true)], args := [d1, d2, d3] }
  | _ => none }
def chachaBackRow : OpenClaim := { program := "ytcbcahlgafngcaadoor", sum := "a11d510bd0d3cbf2c5fb5ce3d22e72518e4b81cf57e196f0154cea10142577e0", func := "bastille/bastillelaw09.ChachaBack", spec := "chachaBack", unfollowed := true, recurses := true, named := ["bastille/chacha.quarters"], apart := false, laid := [("bastille/chacha.quarters", laid_bastille_chacha_quarters)] }
def ChachaBackSaid : Prop := chachaBackRow.holds Tryd.pinned (OpenSpec.ofChange chachaBackSpec)

/-- ITS FALSE NEIGHBOUR: 'it returns false'. Refute it at one input. -/
def chachaBackWrong : ChangeSpec := { name := "chachaBack", fn := fun _ => fun
  | [d1, d2, d3] => { results := [.lit (.bool false)], args := [d1, d2, d3] }
  | _ => none }
def ChachaBackWrongFalsely : Prop := chachaBackRow.holds Tryd.pinned (OpenSpec.ofChange chachaBackWrong)

/- THE SECOND FORM. 'bulk': how many values and letters a reading holds, each counted each time it is reached (what is shared counts as often as it is met; a slice's spare places count too). A statement '..UptoSaid' is the law's where the arguments, and the package variables that the reading takes, are together of bulk at most 1048576: NARROWER than '..Said'. Prove '..Said' where nothing that the law and all that it calls make is longer than what came in: it says more and counts as full. Else prove '..UptoSaid'. A law counts once. -/
mutual
def uptoBulk {H : Type} : DataW H → Nat
  | .lit (.string bytes) => bytes.length + 1
  | .lit _ => 1
  | .nil => 1
  | .ptr d => uptoBulk d + 1
  | .slice elems spare => uptoBulkAll elems + uptoBulkAll spare + 1
  | .agg parts => uptoBulkAll parts + 1
  | .iface _ d => uptoBulk d + 1
  | .map entries => uptoBulkEntries entries + 1
  | .held _ => 1
def uptoBulkAll {H : Type} : List (DataW H) → Nat
  | [] => 0
  | d :: r => uptoBulk d + uptoBulkAll r
def uptoBulkEntries {H : Type} : List (Lit × DataW H) → Nat
  | [] => 0
  | x :: r => uptoBulkEntry x + uptoBulkEntries r
def uptoBulkEntry {H : Type} : Lit × DataW H → Nat
  | (.string bytes, d) => bytes.length + uptoBulk d + 1
  | (_, d) => uptoBulk d + 1
 end
def uptoSmall : (H : Type) → List (DataW H) → Bool := fun _ ds => decide (uptoBulkAll ds ≤ 1048576)
def OpenSpec.upto (s : _root_.Go.ChangeSpec) : _root_.Go.OpenSpec := { _root_.Go.OpenSpec.ofChange s with cond := some uptoSmall }

/-- 'bastillelaw09.ChachaBlocks', WHERE WHAT IT READS IS OF BULK AT MOST 1048576: true; the input reads as it did. -/
def chachaBlocksUptoRow : OpenClaim := { program := "ytcbcahlgafngcaadoor", sum := "a11d510bd0d3cbf2c5fb5ce3d22e72518e4b81cf57e196f0154cea10142577e0", func := "bastille/bastillelaw09.ChachaBlocks", spec := "chachaBlocks", unfollowed := true, recurses := true, named := ["bastille/chacha.quarters"], apart := false, laid := [("bastille/chacha.quarters", laid_bastille_chacha_quarters)], narrowed := true }
def ChachaBlocksUptoSaid : Prop := chachaBlocksUptoRow.holds Tryd.pinned (OpenSpec.upto chachaBlocksSpec)

/-- 'bastillelaw09.ChachaHides', WHERE WHAT IT READS IS OF BULK AT MOST 1048576: true; the input reads as it did. -/
def chachaHidesUptoRow : OpenClaim := { program := "ytcbcahlgafngcaadoor", sum := "a11d510bd0d3cbf2c5fb5ce3d22e72518e4b81cf57e196f0154cea10142577e0", func := "bastille/bastillelaw09.ChachaHides", spec := "chachaHides", unfollowed := true, recurses := true, named := ["bastille/chacha.quarters"], apart := false, laid := [("bastille/chacha.quarters", laid_bastille_chacha_quarters)], narrowed := true }
def ChachaHidesUptoSaid : Prop := chachaHidesUptoRow.holds Tryd.pinned (OpenSpec.upto chachaHidesSpec)

/-- 'bastillelaw09.ChachaBack', WHERE WHAT IT READS IS OF BULK AT MOST 1048576: true; the input reads as it did. -/
def chachaBackUptoRow : OpenClaim := { program := "ytcbcahlgafngcaadoor", sum := "a11d510bd0d3cbf2c5fb5ce3d22e72518e4b81cf57e196f0154cea10142577e0", func := "bastille/bastillelaw09.ChachaBack", spec := "chachaBack", unfollowed := true, recurses := true, named := ["bastille/chacha.quarters"], apart := false, laid := [("bastille/chacha.quarters", laid_bastille_chacha_quarters)], narrowed := true }
def ChachaBackUptoSaid : Prop := chachaBackUptoRow.holds Tryd.pinned (OpenSpec.upto chachaBackSpec)

end Rows
end Go.Proofs.YtcbcahlgafngcaaDoor
