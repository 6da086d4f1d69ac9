/- What the listed variables give the walks. -/
import Derived.Test.YtcahcecohjohpaaDoorSpec
import Derived.Lib.LaidTab
namespace Go.Proofs.YtcahcecohjohpaaDoor
open Go.RowKit

theorem gWidth : Tryd.prog.globalNamed "bastille/codec.width" = some 0 := by kernel_rfl
theorem gMost : Tryd.prog.globalNamed "bastille/codec.most" = some 1 := by kernel_rfl
theorem gWidthType : (Tryd.prog.globals[0]?).map (·.type) = some 61 := by kernel_rfl
theorem gMostType : (Tryd.prog.globals[1]?).map (·.type) = some 61 := by kernel_rfl
theorem cells61 : Tryd.prog.cellsOf 61 = 4 := by kernel_rfl
def tables : List (String × DataW Unit) := [("bastille/codec.width", Lib.tabData .i64 [0, 1, 3, 2]), ("bastille/codec.most", Lib.tabData .i64 [0, 8, 16777215, 4096])]
theorem tabs_of {W : World} (h : laidMet Tryd.prog tables W) : Tabs W := by
  have hw : Lib.TabIs Tryd.prog W "bastille/codec.width" .i64 [0, 1, 3, 2] := Lib.tabIs_of_head gWidth gWidthType Tryd.underlying61 Tryd.underlying3 cells3 cells61 h
  have hm : Lib.TabIs Tryd.prog W "bastille/codec.most" .i64 [0, 8, 16777215, 4096] := by
    obtain ⟨ps, ⟨_, _, _, _, _, _, _, _, _, _, ⟨g', t', cs, fuel, p, q, hg', ht', hvar, hd, _, _⟩, _⟩, _⟩ := h
    obtain rfl := Option.some.inj (gMost.symm.trans hg')
    obtain rfl := Option.some.inj (gMostType.symm.trans ht')
    unfold Lib.TabIs
    rw [hvar, ← Lib.cells_of_tab Tryd.underlying61 Tryd.underlying3 cells3 cells61 hd]
  have m1 := hm.cell gMost 1 (by decide)
  refine ⟨World.block_lt_of_cell? _ _ m1, ⟨hw.cell gWidth 1 (by decide), hw.cell gWidth 2 (by decide), hw.cell gWidth 3 (by decide)⟩, m1, hm.cell gMost 2 (by decide), hm.cell gMost 3 (by decide)⟩
theorem tabs_row {W : World} (h : laidMetH Tryd.prog Rows.codecEncodesRow.laid W) : Tabs W := tabs_of h
theorem tabs_rowB {W : World} (h : laidMetH Tryd.prog Rows.codecBackRow.laid W) : Tabs W := tabs_of h
end Go.Proofs.YtcahcecohjohpaaDoor
