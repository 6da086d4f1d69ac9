/- What the listed variables give the walks. -/
import Derived.Test.YtpaopdjbhmdfjaaDoorPRowM
import Derived.Test.YtpaopdjbhmdfjaaDoorRows
import Derived.Lib.LaidTab
namespace Go.Proofs.YtpaopdjbhmdfjaaDoor
open Go.RowKit

theorem gBX : Tryd.prog.globalNamed "bastille/point.baseX" = some 0 := by kernel_rfl
theorem gBY : Tryd.prog.globalNamed "bastille/point.baseY" = some 1 := by kernel_rfl
theorem gD : Tryd.prog.globalNamed "bastille/point.d" = some 2 := by kernel_rfl
theorem gBXType : (Tryd.prog.globals[0]?).map (·.type) = some 22 := by kernel_rfl
theorem gBYType : (Tryd.prog.globals[1]?).map (·.type) = some 22 := by kernel_rfl
theorem gDType : (Tryd.prog.globals[2]?).map (·.type) = some 22 := by kernel_rfl
theorem cells22 : Tryd.prog.cellsOf 22 = 32 := by kernel_rfl
theorem cells5 : Tryd.prog.cellsOf 5 = 1 := by kernel_rfl
theorem lies_of {W : World} {name : String} {g g' : Nat} {t' : TypeId} {zs : List Int} {cs : Array Value} {fuel : Nat} {p : List MemPlace} (hg : Tryd.prog.globalNamed name = some g) (hty : (Tryd.prog.globals[g]?).map (·.type) = some 22) (hz : 0 < zs.length)
    (hg' : Tryd.prog.globalNamed name = some g') (ht' : (Tryd.prog.globals[g']?).map (·.type) = some t') (hvar : W.var? Tryd.prog name = some cs) (hd : DataW.trod (fun _ => ()) Tryd.prog W 0 (fun _ => true) false fuel t' cs.toList = some (Lib.tabData .u8 zs, p)) : Lies W g zs := by
  obtain rfl := Option.some.inj (hg.symm.trans hg')
  obtain rfl := Option.some.inj (hty.symm.trans ht')
  have hm : Lib.TabIs Tryd.prog W name .u8 zs := by
    unfold Lib.TabIs
    rw [hvar, ← Lib.cells_of_tab Tryd.underlying22 Tryd.underlying5 cells5 cells22 hd]
  refine ⟨World.block_lt_of_cell? _ _ (hm.cell hg 0 hz), fun i x hi => ?_⟩
  have hl := (List.getElem?_eq_some_iff.1 hi).1
  have := hm.cell hg i hl
  rw [this]
  simp [List.getD, hi]
def tables : List (String × DataW Unit) := [("bastille/point.d", Lib.tabData .u8 DL), ("bastille/point.baseX", Lib.tabData .u8 BXL), ("bastille/point.baseY", Lib.tabData .u8 BYL)]
theorem tabs_of {W : World} (h : laidMet Tryd.prog tables W) : Tabs W := by
  obtain ⟨ps, ⟨g1, t1, cs1, f1, p1, q1, hg1, ht1, hv1, hd1, ⟨g2, t2, cs2, f2, p2, q2, hg2, ht2, hv2, hd2, ⟨g3, t3, cs3, f3, p3, q3, hg3, ht3, hv3, hd3, _, _⟩, _⟩, _⟩, _⟩ := h
  exact ⟨lies_of gBX gBXType (by decide) hg2 ht2 hv2 hd2, lies_of gBY gBYType (by decide) hg3 ht3 hv3 hd3, lies_of gD gDType (by decide) hg1 ht1 hv1 hd1⟩
theorem tabs_point {W : World} (h : laidMetH Tryd.prog Rows.pointOfRow.laid W) : Tabs W := tabs_of h
theorem tabs_sums {W : World} (h : laidMetH Tryd.prog Rows.pointSumsRow.laid W) : Tabs W := tabs_of h
theorem tabs_laws {W : World} (h : laidMetH Tryd.prog Rows.pointLawsRow.laid W) : Tabs W := tabs_of h
end Go.Proofs.YtpaopdjbhmdfjaaDoor
