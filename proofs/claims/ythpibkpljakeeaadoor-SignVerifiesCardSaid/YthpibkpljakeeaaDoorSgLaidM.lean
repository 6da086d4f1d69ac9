import Derived.Test.YthpibkpljakeeaaDoorG21
import Derived.Test.YthpibkpljakeeaaDoorRows
import Derived.Lib.LaidTab
namespace Go.Proofs.YthpibkpljakeeaaDoor
open Go.RowKit
theorem tab_of {k : IntKind} {W : World} {name : String} {g g' : Nat} {t t' e m : TypeId} {zs : List Int} {cs : Array Value} {fuel : Nat} {p : List MemPlace} (hU : Tryd.prog.underlying t = some (.array m e)) (hE : Tryd.prog.underlying e = some (.int k)) (ce : Tryd.prog.cellsOf e = 1) (ct : Tryd.prog.cellsOf t = m)
   (hg : Tryd.prog.globalNamed name = some g) (hty : (Tryd.prog.globals[g]?).map (·.type) = some t) (hg' : Tryd.prog.globalNamed name = some g') (ht' : (Tryd.prog.globals[g']?).map (·.type) = some t') (hvar : W.var? Tryd.prog name = some cs)
   (hd : DataW.trod (fun _ => ()) Tryd.prog W 0 (fun _ => true) false fuel t' cs.toList = some (Lib.tabData k zs, p)) (hz : 0 < zs.length) : g < W.heap.size ∧ ∀ i x, zs[i]? = some x → W.cell? ⟨g, i, none⟩ = some (.int k x) := by
 obtain rfl := Option.some.inj (hg.symm.trans hg')
 obtain rfl := Option.some.inj (hty.symm.trans ht')
 have hm : Lib.TabIs Tryd.prog W name k zs := by
   unfold Lib.TabIs
   rw [hvar, ← Lib.cells_of_tab hU hE ce ct hd]
 refine ⟨World.block_lt_of_cell? _ _ (hm.cell hg 0 hz), fun i x hi => ?_⟩
 have hl := (List.getElem?_eq_some_iff.1 hi).1
 have := hm.cell hg i hl
 rw [this]
 simp [List.getD, hi]
def ORDL : List Int := [6346243789798364141, 1503914060200516822, 0, 1152921504606846976]
theorem ord_eq : ORD = ORDL := by decide +kernel
def tables : List (String × DataW Unit) := [("bastille/point.d", Lib.tabData .u8 DL), ("bastille/point.baseX", Lib.tabData .u8 BXL), ("bastille/point.baseY", Lib.tabData .u8 BYL), ("bastille/scalar.order", Lib.tabData .u64 ORDL), ("bastille/sha.first", Lib.tabData .u64 FIRST), ("bastille/sha.kinds", Lib.tabData .u64 KINDS)]
theorem tabs_of {W : World} (h : laidMet Tryd.prog tables W) : TabsA W := by
 obtain ⟨ps, ⟨g0, t0, cs0, f0, p0, q0, hg0, ht0, hv0, hd0, ⟨g1, t1, cs1, f1, p1, q1, hg1, ht1, hv1, hd1, ⟨g2, t2, cs2, f2, p2, q2, hg2, ht2, hv2, hd2, ⟨g3, t3, cs3, f3, p3, q3, hg3, ht3, hv3, hd3, ⟨g4, t4, cs4, f4, p4, q4, hg4, ht4, hv4, hd4, ⟨g5, t5, cs5, f5, p5, q5, hg5, ht5, hv5, hd5, _, _⟩, _⟩, _⟩, _⟩, _⟩, _⟩, _⟩ := h
 have x0 := tab_of (t := 22) (e := 5) (m := 32) (g := 2) (zs := DL) (by kernel_rfl) (by kernel_rfl) (by kernel_rfl) (by kernel_rfl) (by kernel_rfl) (by kernel_rfl) hg0 ht0 hv0 hd0 (by decide)
 have x1 := tab_of (t := 22) (e := 5) (m := 32) (g := 0) (zs := BXL) (by kernel_rfl) (by kernel_rfl) (by kernel_rfl) (by kernel_rfl) (by kernel_rfl) (by kernel_rfl) hg1 ht1 hv1 hd1 (by decide)
 have x2 := tab_of (t := 22) (e := 5) (m := 32) (g := 1) (zs := BYL) (by kernel_rfl) (by kernel_rfl) (by kernel_rfl) (by kernel_rfl) (by kernel_rfl) (by kernel_rfl) hg2 ht2 hv2 hd2 (by decide)
 have x3 := tab_of (t := 102) (e := 87) (m := 4) (g := 4) (zs := ORDL) (by kernel_rfl) (by kernel_rfl) (by kernel_rfl) (by kernel_rfl) (by kernel_rfl) (by kernel_rfl) hg3 ht3 hv3 hd3 (by decide)
 have x4 := tab_of (t := 105) (e := 87) (m := 8) (g := 3) (zs := FIRST) (by kernel_rfl) (by kernel_rfl) (by kernel_rfl) (by kernel_rfl) (by kernel_rfl) (by kernel_rfl) hg4 ht4 hv4 hd4 (by decide)
 have x5 := tab_of (t := 117) (e := 87) (m := 80) (g := 5) (zs := KINDS) (by kernel_rfl) (by kernel_rfl) (by kernel_rfl) (by kernel_rfl) (by kernel_rfl) (by kernel_rfl) hg5 ht5 hv5 hd5 (by decide)
 rw [← ord_eq] at x3
 exact ⟨x3, ⟨x1, x2, x0⟩, ⟨x5.1, x4.1⟩, x5.2, x4.2⟩
theorem tabs_signVerifies {W : World} (h : laidMetH Tryd.prog Rows.signVerifiesRow.laid W) : TabsA W := tabs_of h
end Go.Proofs.YthpibkpljakeeaaDoor
