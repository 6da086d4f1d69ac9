/- All quarter rounds of a round. -/
import Derived.Test.YtcbcahlgafngcaaDoorCQuarter
import Derived.Test.YtcbcahlgafngcaaDoorMany
import Derived.Test.YtcbcahlgafngcaaDoorArr
import Derived.Test.YtcbcahlgafngcaaDoorMRow
namespace Go.Proofs.YtcbcahlgafngcaaDoor
open Go Go.RowKit

def QT : List Int := [0, 4, 8, 12, 1, 5, 9, 13, 2, 6, 10, 14, 3, 7, 11, 15, 0, 5, 10, 15, 1, 6, 11, 12, 2, 7, 8, 13, 3, 4, 9, 14]
/-- What the table of quarters holds. -/
def Tabs (w : World) : Prop := 0 < w.heap.size ∧ w.rangeAt 0 0 (ints .i64 QT)
theorem Tabs.below {w w' : World} {B : Nat} (h : Tabs w) (hb : Below B w w') (hB : 0 < B) : Tabs w' :=
  ⟨Nat.lt_of_lt_of_le h.1 hb.size, fun j v hv => (cell_same (hb.block 0 hB)).trans (h.2 j v hv)⟩
theorem Tabs.next {w w' : World} (h : Tabs w) (hb : Below w.heap.size w w') : Tabs w' := h.below hb h.1
theorem Tabs.only {w w' : World} {b : Nat} (h : Tabs w) (hb : Only b w w') (h2 : 0 < b) : Tabs w' :=
  ⟨Nat.lt_of_lt_of_le h.1 hb.size, fun j v hv => (cell_same (hb.block 0 h.1 (by omega))).trans (h.2 j v hv)⟩
theorem Tabs.drew {w : World} (h : Tabs w) : Tabs w.drew := h
theorem info61 : (Tryd.prog.info? 61).map (·.size) = some (ints .i64 QT).length := by kernel_rfl
theorem info60 : (Tryd.prog.info? 60).map (fun i => (i.zero, i.size)) = some (some (.agg (ints .i64 [0, 0, 0, 0]).toArray), 4) := by kernel_rfl
theorem index61 (k : Nat) (hk : k < 8) (w : World) : (Instr.index 61 (.agg (ints .i64 QT).toArray) (.int .i64 (k : Int))).run Tryd.prog w = .ok (.agg (ints .i64 [((QI k).1 : Int), ((QI k).2.1 : Int), ((QI k).2.2.1 : Int), ((QI k).2.2.2 : Int)]).toArray) w := by
  have h : k = 0 ∨ k = 1 ∨ k = 2 ∨ k = 3 ∨ k = 4 ∨ k = 5 ∨ k = 6 ∨ k = 7 := by omega
  have hu : (underlying 61).run Tryd.prog w = .ok (.array 8 60) w := by go_simp
  have hs : (sizeOf 60).run Tryd.prog w = .ok 4 w := by go_simp
  rcases h with rfl | rfl | rfl | rfl | rfl | rfl | rfl | rfl <;> (simp [Instr.index, QI, QS, QT, ints]; go_simp)
theorem QI_lt (k : Nat) : (QI k).1 < 16 ∧ (QI k).2.1 < 16 ∧ (QI k).2.2.1 < 16 ∧ (QI k).2.2.2 < 16 := by
  by_cases h : k < 8
  · have h : k = 0 ∨ k = 1 ∨ k = 2 ∨ k = 3 ∨ k = 4 ∨ k = 5 ∨ k = 6 ∨ k = 7 := by omega
    rcases h with rfl | rfl | rfl | rfl | rfl | rfl | rfl | rfl <;> decide
  · have e : QI k = (0, 0, 0, 0) := by unfold QI; rw [List.getD_eq_getElem?_getD, List.getElem?_eq_none (by simp [QS]; omega)]; rfl
    rw [e]; decide
end Go.Proofs.YtcbcahlgafngcaaDoor
