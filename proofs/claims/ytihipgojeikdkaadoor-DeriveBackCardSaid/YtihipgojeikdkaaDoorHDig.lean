/- What has been taken so far. -/
import Derived.Test.YtihipgojeikdkaaDoorHStep
namespace Go.Proofs.YtihipgojeikdkaaDoor
open Go.RowKit

def INIT : HSt := ⟨FIRST.getD 0 0, FIRST.getD 1 0, FIRST.getD 2 0, FIRST.getD 3 0, FIRST.getD 4 0, FIRST.getD 5 0, FIRST.getD 6 0, FIRST.getD 7 0⟩
set_option maxRecDepth 50000 in
theorem INIT_list : INIT.list = FIRST := rfl
set_option maxRecDepth 50000 in
theorem INIT_ok : INIT.ok := by unfold HSt.ok Wd; decide
/-- The numbers after the full blocks of m. -/
def dgsN (m : List Int) (q : Nat) : HSt := (List.range q).foldl (fun s j => comp s (chunk 128 m j)) INIT
def hdgs (m : List Int) : HSt := dgsN m (m.length / 128)
set_option maxRecDepth 50000 in
theorem dgsN_succ (m : List Int) (q : Nat) : dgsN m (q + 1) = comp (dgsN m q) (chunk 128 m q) := by
  simp [dgsN, List.range_succ]
set_option maxRecDepth 50000 in
theorem dgsN_ok (m : List Int) (q : Nat) : (dgsN m q).ok := by
  cases q with
  | zero => exact INIT_ok
  | succ q => rw [dgsN_succ]; exact comp_ok _ _
set_option maxRecDepth 50000 in
theorem chunk_app {m x : List Int} {j : Nat} (h : (j + 1) * 128 ≤ m.length) : chunk 128 (m ++ x) j = chunk 128 m j := by
  unfold chunk
  rw [List.drop_append_of_le_length (by omega), List.take_append_of_le_length (by simp; omega)]
set_option maxRecDepth 50000 in
theorem dgsN_app (m x : List Int) (q : Nat) (h : q * 128 ≤ m.length) : dgsN (m ++ x) q = dgsN m q := by
  induction q with
  | zero => simp only [dgsN, List.range_zero, List.foldl_nil]
  | succ q ih => rw [dgsN_succ, dgsN_succ, ih (by omega), chunk_app h]
set_option maxRecDepth 50000 in
theorem dgs_ok (m : List Int) : (hdgs m).ok := dgsN_ok _ _

/-- A hasher that has taken m lies in block b. -/
def Abs (w : World) (b : Nat) (m : List Int) : Prop := ∃ blk, Hsh w b (hdgs m) blk (m.length % 128) ∧ blk.take (m.length % 128) = m.drop (m.length / 128 * 128)
set_option maxRecDepth 50000 in
theorem Abs.next {w w' : World} {b : Nat} {m : List Int} (h : Abs w b m) (hb : Below w.heap.size w w') : Abs w' b m := by
  obtain ⟨blk, h1, h2⟩ := h
  exact ⟨blk, h1.next hb, h2⟩
set_option maxRecDepth 50000 in
theorem Abs.lt {w : World} {b : Nat} {m : List Int} (h : Abs w b m) : b < w.heap.size := by
  obtain ⟨blk, h1, h2⟩ := h
  exact h1.lt

set_option maxRecDepth 50000 in
theorem over_take {blk x : List Int} {r : Nat} (h : r + x.length ≤ blk.length) : (over blk r x).take (r + x.length) = blk.take r ++ x := by
  unfold over
  rw [List.take_append_of_le_length (by simp; omega), List.take_of_length_le (by simp; omega)]
set_option maxRecDepth 50000 in
/-- A piece that does not fill the block. -/
theorem more_part {m x blk : List Int} (hl : blk.length = 128) (ht : blk.take (m.length % 128) = m.drop (m.length / 128 * 128)) (h : m.length % 128 + x.length < 128) :
    hdgs (m ++ x) = hdgs m ∧ (m ++ x).length % 128 = m.length % 128 + x.length ∧ (over blk (m.length % 128) x).take ((m ++ x).length % 128) = (m ++ x).drop ((m ++ x).length / 128 * 128) := by
  have e1 : (m ++ x).length % 128 = m.length % 128 + x.length := by rw [List.length_append]; omega
  have e2 : (m ++ x).length / 128 = m.length / 128 := by rw [List.length_append]; omega
  refine ⟨?_, e1, ?_⟩
  · unfold hdgs
    rw [e2]
    exact dgsN_app _ _ _ (Nat.div_mul_le_self _ _)
  · rw [e1, e2, over_take (by omega), ht, List.drop_append_of_le_length (Nat.div_mul_le_self _ _)]
set_option maxRecDepth 50000 in
/-- A piece that fills it. -/
theorem more_full {m x blk : List Int} (hl : blk.length = 128) (ht : blk.take (m.length % 128) = m.drop (m.length / 128 * 128)) (h : m.length % 128 + x.length = 128) :
    hdgs (m ++ x) = comp (hdgs m) (over blk (m.length % 128) x) ∧ (m ++ x).length % 128 = 0 ∧ (over blk (m.length % 128) x).take ((m ++ x).length % 128) = (m ++ x).drop ((m ++ x).length / 128 * 128) := by
  have e1 : (m ++ x).length % 128 = 0 := by rw [List.length_append]; omega
  have e2 : (m ++ x).length / 128 = m.length / 128 + 1 := by rw [List.length_append]; omega
  have e3 : over blk (m.length % 128) x = chunk 128 (m ++ x) (m.length / 128) := by
    have h1 := over_take (blk := blk) (x := x) (r := m.length % 128) (by omega)
    rw [h, List.take_of_length_le (by rw [over_length (by omega)]; omega), ht] at h1
    rw [h1]
    unfold chunk
    rw [List.drop_append_of_le_length (Nat.div_mul_le_self _ _), List.take_of_length_le]
    simp
    omega
  refine ⟨?_, e1, ?_⟩
  · unfold hdgs
    rw [e2, dgsN_succ, dgsN_app _ _ _ (Nat.div_mul_le_self _ _), e3]
  · rw [e1, e2, List.take_zero, List.drop_eq_nil_of_le]
    rw [List.length_append]
    omega
set_option maxRecDepth 50000 in
theorem over_byt {blk x : List Int} (h : HByt blk) (hx : HByt x) (r : Nat) : HByt (over blk r x) := by
  intro y hy
  simp only [over, List.mem_append] at hy
  rcases hy with (hy | hy) | hy
  · exact h y (List.mem_of_mem_take hy)
  · exact hx y hy
  · exact h y (List.mem_of_mem_drop hy)
end Go.Proofs.YtihipgojeikdkaaDoor
