/- What the listed variables give the walks. -/
import Derived.Test.YtjgojbjehedpaaaDoorStep
import Derived.Lib.LaidTab
namespace Go.Proofs.YtjgojbjehedpaaaDoor
open Go.RowKit

theorem gFirst : Tryd.prog.globalNamed "bastille/sha.first" = some 0 := by kernel_rfl
theorem gKinds : Tryd.prog.globalNamed "bastille/sha.kinds" = some 1 := by kernel_rfl
theorem gFirstType : (Tryd.prog.globals[0]?).map (·.type) = some 50 := by kernel_rfl
theorem gKindsType : (Tryd.prog.globals[1]?).map (·.type) = some 42 := by kernel_rfl
theorem cells50 : Tryd.prog.cellsOf 50 = 8 := by kernel_rfl
theorem cells42 : Tryd.prog.cellsOf 42 = 80 := by kernel_rfl
theorem cells36 : Tryd.prog.cellsOf 36 = 1 := by kernel_rfl
def tables : List (String × DataW Unit) := [("bastille/sha.first", Lib.tabData .u64 FIRST), ("bastille/sha.kinds", Lib.tabData .u64 KINDS)]
theorem tabs_of {W : World} (h : laidMet Tryd.prog tables W) : Tabs W := by
  have hw : Lib.TabIs Tryd.prog W "bastille/sha.first" .u64 FIRST := Lib.tabIs_of_head gFirst gFirstType Tryd.underlying50 Tryd.underlying36 cells36 cells50 h
  have hm : Lib.TabIs Tryd.prog W "bastille/sha.kinds" .u64 KINDS := by
    obtain ⟨ps, ⟨_, _, _, _, _, _, _, _, _, _, ⟨g', t', cs, fuel, p, q, hg', ht', hvar, hd, _, _⟩, _⟩, _⟩ := h
    obtain rfl := Option.some.inj (gKinds.symm.trans hg')
    obtain rfl := Option.some.inj (gKindsType.symm.trans ht')
    unfold Lib.TabIs
    rw [hvar, ← Lib.cells_of_tab Tryd.underlying42 Tryd.underlying36 cells36 cells42 hd]
  refine ⟨?_, fun i x hi => ?_, fun i x hi => ?_⟩
  · exact World.block_lt_of_cell? _ _ (hm.cell gKinds 0 (by decide))
  · have hl := (List.getElem?_eq_some_iff.1 hi).1
    have := hm.cell gKinds i hl
    rw [this]
    simp [List.getD, hi]
  · have hl := (List.getElem?_eq_some_iff.1 hi).1
    have := hw.cell gFirst i hl
    rw [this]
    simp [List.getD, hi]
theorem tabs_sums {W : World} (h : laidMetH Tryd.prog Rows.shaSumsRow.laid W) : Tabs W := tabs_of h
theorem tabs_parts {W : World} (h : laidMetH Tryd.prog Rows.shaPartsRow.laid W) : Tabs W := tabs_of h
theorem tabs_roots {W : World} (h : laidMetH Tryd.prog Rows.shaRootsRow.laid W) : Tabs W := tabs_of h
theorem tabs_kinds {W : World} (h : laidMetH Tryd.prog Rows.shaKindsRow.laid W) : Tabs W := tabs_of h
end Go.Proofs.YtjgojbjehedpaaaDoor
