/- Small elements; the bytes of an element; whether it is odd; whether two are equal. -/
import Derived.Test.YtoncinbohfmciaaRed
import Derived.Test.YtoncinbohfmciaaOf
namespace Go.Proofs.Ytoncinbohfmciaa
open Go.RowKit

def smallL (n : Int) : List Int := if 0 ≤ n ∧ n ≤ 65535 then n :: zeros 15 else zeros 16
theorem smallL_length (n : Int) : (smallL n).length = 16 := by unfold smallL; split <;> simp [zeros]
theorem built24 (n : Int) : Try.prog.built 39 [(0, .int .i64 n)] = some (ints .i64 (n :: zeros 15)).toArray := by kernel_rfl
theorem built26 (n : Int) : Try.prog.built 41 [(0, .agg (ints .i64 (n :: zeros 15)).toArray)] = some (ints .i64 (n :: zeros 15)).toArray := by kernel_rfl
theorem built26z : Try.prog.built 41 [] = some (ints .i64 (zeros 16)).toArray := by kernel_rfl
set_option maxRecDepth 4000 in
set_option maxHeartbeats 1000000 in
theorem small_any (n : Int) (w : World) : Calls Try.prog 23 #[.int .i64 n] w fun e w' => e = .returned (.agg (ints .i64 (smallL n)).toArray) ∧ Below w.heap.size w w' := by
  obtain ⟨z24, s24⟩ := zero_of_info inf24
  obtain ⟨z26, s26⟩ := zero_of_info inf26
  have hR := Arr.made w .i64 (zeros 16) 41
  have hW := below_new w (.cells (ints .i64 (zeros 16)).toArray 41)
  by_cases h : 0 ≤ n ∧ n ≤ 65535
  · have e : smallL n = n :: zeros 15 := by unfold smallL; rw [if_pos h]
    have h0 : decide (n < 0) = false := by simp; omega
    have h1 : decide (65535 < n) = false := by simp; omega
    have hs := hR.room (l' := n :: zeros 15) (k' := .i64) rfl
    have hR2 := hR.stored (l' := n :: zeros 15) rfl
    have hW2 := Below.setCells hW (g := w.heap.size) (by omega) 0 (ints .i64 (n :: zeros 15)).toArray.toList
    rw [e]
    clear e h
    have HQ : Hid ((n :: zeros 15).length = 16) := hid rfl
    go_enter Try.func23, Try.ntmps23
    go_wp2_with (first
      | ((with_reducible refine wpList_store_mid (op := ⟨none, .store 41 (.tmp 2) (.tmp 12), _, _, _, _⟩) rfl 41 (.tmp 2) (.tmp 12) rfl w.heap.size 0 (ints .i64 (n :: zeros 15)).toArray rfl ?_ hs (a26 HQ.out) (ints_all _ _) ?_); focus (kernel_rfl)))
    exact ret_rows rfl w.heap.size 0 rfl (ints .i64 (n :: zeros 15)) _ hR2.range Try.underlying41 rfl (l26 HQ.out) rfl ⟨rfl, hW2⟩
  · have e : smallL n = zeros 16 := by unfold smallL; rw [if_neg h]
    have hs := hR.room (l' := zeros 16) (k' := .i64) rfl
    have hR2 := hR.stored (l' := zeros 16) rfl
    have hW2 := Below.setCells hW (g := w.heap.size) (by omega) 0 (ints .i64 (zeros 16)).toArray.toList
    rw [e]
    have HQ : Hid ((zeros 16).length = 16) := hid rfl
    by_cases h2 : n < 0
    · have h0 : decide (n < 0) = true := by simp; omega
      clear e h
      go_enter Try.func23, Try.ntmps23
      go_wp2_with (first
        | ((with_reducible refine wpList_store_mid (op := ⟨none, .store 41 (.tmp 2) (.tmp 9), _, _, _, _⟩) rfl 41 (.tmp 2) (.tmp 9) rfl w.heap.size 0 (ints .i64 (zeros 16)).toArray rfl ?_ hs (a26 HQ.out) (ints_all _ _) ?_); focus (kernel_rfl)))
      exact ret_rows rfl w.heap.size 0 rfl (ints .i64 (zeros 16)) _ hR2.range Try.underlying41 rfl (l26 HQ.out) rfl ⟨rfl, hW2⟩
    · have h0 : decide (n < 0) = false := by simp; omega
      have h1 : decide (65535 < n) = true := by simp; omega
      clear e h h2
      go_enter Try.func23, Try.ntmps23
      go_wp2_with (first
        | ((with_reducible refine wpList_store_mid (op := ⟨none, .store 41 (.tmp 2) (.tmp 9), _, _, _, _⟩) rfl 41 (.tmp 2) (.tmp 9) rfl w.heap.size 0 (ints .i64 (zeros 16)).toArray rfl ?_ hs (a26 HQ.out) (ints_all _ _) ?_); focus (kernel_rfl)))
      exact ret_rows rfl w.heap.size 0 rfl (ints .i64 (zeros 16)) _ hR2.range Try.underlying41 rfl (l26 HQ.out) rfl ⟨rfl, hW2⟩
end Go.Proofs.Ytoncinbohfmciaa
