/- What the listed variable gives the walks. -/
import Derived.Test.YtcoegehnipldpaaDoorSWalksM
import Derived.Test.YtcoegehnipldpaaDoorRows
import Derived.Lib.LaidTab
namespace Go.Proofs.YtcoegehnipldpaaDoor
open Go.RowKit

theorem gOrder : Tryd.prog.globalNamed "bastille/scalar.order" = some 0 := by kernel_rfl
theorem gOrderType : (Tryd.prog.globals[0]?).map (·.type) = some 44 := by kernel_rfl
theorem cells44 : Tryd.prog.cellsOf 44 = 4 := by kernel_rfl
theorem cells42 : Tryd.prog.cellsOf 42 = 1 := by kernel_rfl
def ORDL : List Int := [6346243789798364141, 1503914060200516822, 0, 1152921504606846976]
theorem ord_eq : ORD = ORDL := by decide +kernel
def tables : List (String × DataW Unit) := [("bastille/scalar.order", Lib.tabData .u64 ORDL)]
theorem tabs_of {W : World} (h : laidMet Tryd.prog tables W) : Tabs W := by
  have hm : Lib.TabIs Tryd.prog W "bastille/scalar.order" .u64 ORDL := Lib.tabIs_of_head gOrder gOrderType Tryd.underlying44 Tryd.underlying42 cells42 cells44 h
  refine ⟨?_, fun i x hi => ?_⟩
  · exact World.block_lt_of_cell? _ _ (hm.cell gOrder 0 (by decide))
  · rw [ord_eq] at hi
    have hl := (List.getElem?_eq_some_iff.1 hi).1
    have := hm.cell gOrder i hl
    rw [this]
    simp [List.getD, hi]
theorem tabs_takes {W : World} (h : laidMetH Tryd.prog Rows.scalarTakesRow.laid W) : Tabs W := tabs_of h
theorem tabs_sums {W : World} (h : laidMetH Tryd.prog Rows.scalarSumsRow.laid W) : Tabs W := tabs_of h
theorem tabs_laws {W : World} (h : laidMetH Tryd.prog Rows.scalarLawsRow.laid W) : Tabs W := tabs_of h
end Go.Proofs.YtcoegehnipldpaaDoor
