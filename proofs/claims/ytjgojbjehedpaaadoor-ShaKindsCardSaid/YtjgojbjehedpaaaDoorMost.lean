/- At most: numbers of four words. -/
import Derived.Test.YtjgojbjehedpaaaDoorTimes
namespace Go.Proofs.YtjgojbjehedpaaaDoor
open Go.RowKit
theorem get_ofN (l : List Nat) {i : Nat} (h : i < l.length) : l[i]? = some (l.getD i 0) := by simp [h]
theorem val_cmp (x y : List Nat) (wx : Words x) (wy : Words y) (j a b : Nat) (h : x.drop (j + 1) = y.drop (j + 1)) (ha : x[j]? = some a) (hb : y[j]? = some b) (hn : a ≠ b) :
    val x ≤ val y ↔ a < b := by
  obtain ⟨hjx, hax⟩ := List.getElem?_eq_some_iff.1 ha
  obtain ⟨hjy, hay⟩ := List.getElem?_eq_some_iff.1 hb
  have e1 : x.drop j = a :: x.drop (j + 1) := by rw [List.drop_eq_getElem_cons hjx, hax]
  have e2 : y.drop j = b :: y.drop (j + 1) := by rw [List.drop_eq_getElem_cons hjy, hay]
  have t1 := val_lt (x.take j) (fun v hv => wx v (List.mem_of_mem_take hv))
  have t2 := val_lt (y.take j) (fun v hv => wy v (List.mem_of_mem_take hv))
  rw [List.length_take, Nat.min_eq_left (by omega)] at t1 t2
  rw [val_split x j (by omega), val_split y j (by omega), e1, e2, h]
  simp only [val]
  generalize 18446744073709551616 * val (y.drop (j + 1)) = V
  generalize 18446744073709551616 ^ j = P at *
  constructor
  · intro hle
    apply Nat.lt_of_le_of_ne _ hn
    refine Nat.le_of_not_lt fun hlt => ?_
    have : P * (b + V + 1) ≤ P * (a + V) := Nat.mul_le_mul_left _ (by omega)
    rw [Nat.mul_add P (b + V) 1] at this
    omega
  · intro hlt
    have : P * (a + V + 1) ≤ P * (b + V) := Nat.mul_le_mul_left _ (by omega)
    rw [Nat.mul_add P (a + V) 1] at this
    omega

set_option maxRecDepth 4000 in
set_option maxHeartbeats 1000000 in
theorem most_any (x y : List Nat) (w : World) (lx : x.length = 4) (ly : y.length = 4) (hx : Words x) (hy : Words y) :
    Calls Tryd.prog 32 #[.agg (ints .u64 (nl x)).toArray, .agg (ints .u64 (nl y)).toArray] w fun e w' => e = .returned (.bool (decide (val x ≤ val y))) ∧ Below w.heap.size w w' := by
  have HLX := hid lx
  have HLY := hid ly
  have HX := hid hx
  have HY := hid hy
  have HD : Hid (x.drop 4 = y.drop 4) := hid (by rw [List.drop_eq_nil_of_le (by omega), List.drop_eq_nil_of_le (by omega)])
  clear lx ly hx hy
  go_enter Tryd.func32, Tryd.ntmps32
  go_wp2
  generalize hW : ((w.alloc (.cells (ints .u64 (nl x)).toArray 66)).alloc (.cells (ints .u64 (nl y)).toArray 66)) = W
  have hX : Arr W w.heap.size 0 .u64 (nl x) := by rw [← hW]; exact (Arr.made w .u64 (nl x) 66).alloc _
  have hY : Arr W (w.heap.size + 1) 0 .u64 (nl y) := by
    rw [← hW]
    have h := Arr.made (w.alloc (.cells (ints .u64 (nl x)).toArray 66)) .u64 (nl y) 66
    simpa using h
  have hB : Below w.heap.size w W := by
    rw [← hW]
    exact (below_new w _).alloc (by simp) _
  clear hW
  go_loopw [5] (fun i wr => ∃ j : Nat, j ≤ 4 ∧ i = .int .i64 ((j : Int) - 1) ∧ Below w.heap.size w wr ∧ Arr wr w.heap.size 0 .u64 (nl x) ∧ Arr wr (w.heap.size + 1) 0 .u64 (nl y) ∧ Hid (x.drop j = y.drop j)) (fun i _ => (intOf i + 1).toNat)
  case atStart => exact ⟨4, by omega, rfl, hB, hX, hY, HD⟩
  case round =>
    clear hB hX hY HD
    obtain ⟨j, hj, rfl, hB, hX, hY, HD⟩ := hrel
    cases j with
    | zero =>
      have HV : Hid (val x ≤ val y) := hid (by have h := HD.out; simp only [List.drop_zero] at h; rw [h]; exact Nat.le_refl _)
      go_wp2
      go_ret
      exact ⟨by show Ending.returned (.bool true) = _; rw [decide_eq_true HV.out], hB⟩
    | succ j =>
      have hz : ((j + 1 : Nat) : Int) - 1 = (j : Int) := by omega
      rw [hz]
      have cx := hX.at_ (i := j) (nl_at (by rw [HLX.out]; omega))
      have cy := hY.at_ (i := j) (nl_at (by rw [HLY.out]; omega))
      rw [Nat.zero_add] at cx cy
      have HC := hid (val_cmp x y HX.out HY.out j (x.getD j 0) (y.getD j 0) HD.out (get_ofN x (by rw [HLX.out]; omega)) (get_ofN y (by rw [HLY.out]; omega)))
      have j0 : (0 : Int) ≤ j := by omega
      have j4 : (j : Int) < 4 := by omega
      have HD2 : Hid (x.getD j 0 = y.getD j 0 → x.drop j = y.drop j) := hid fun he => by
        have h1 := get_ofN x (i := j) (by rw [HLX.out]; omega)
        have h2 := get_ofN y (i := j) (by rw [HLY.out]; omega)
        obtain ⟨q1, r1⟩ := List.getElem?_eq_some_iff.1 h1
        obtain ⟨q2, r2⟩ := List.getElem?_eq_some_iff.1 h2
        rw [List.drop_eq_getElem_cons q1, List.drop_eq_getElem_cons q2, r1, r2, HD.out, he]
      generalize x.getD j 0 = a at *
      generalize y.getD j 0 = b at *
      clear HD
      have HW : IntKind.i64.wrap ((j : Int) - 1) = (j : Int) - 1 := IntWalk.i64_in _ (by omega)
      go_wp2
      go_quiet (fail)
      replace hX := hX.drewN nq
      replace hY := hY.drewN nq
      replace hB := below_drewN hB nq
      replace cx : (wr.drewN nq).cell? _ = _ := cx
      replace cy : (wr.drewN nq).cell? _ = _ := cy
      generalize wr.drewN nq = wz at *
      by_cases hab : a = b
      · have hne : ((a : Int) != (b : Int)) = false := by simp [hab]
        go_wp2
        go_roundw
        case rel => exact ⟨j, by omega, rfl, hB, hX, hY, hid (HD2.out hab)⟩
        case measure => simp [intOf]
      · have hne : ((a : Int) != (b : Int)) = true := by simp only [bne_iff_ne]; omega
        have HF : Hid (decide ((a : Int) < (b : Int)) = decide (val x ≤ val y)) := hid (by
          have h := HC.out hab
          by_cases h2 : a < b
          · rw [decide_eq_true (h.2 h2), decide_eq_true (by omega)]
          · rw [decide_eq_false (fun h3 => h2 (h.1 h3)), decide_eq_false (by omega)])
        go_wp2
        go_quiet (fail)
        go_wp2
        go_ret
        exact ⟨by rw [← HF.out]; show Ending.returned (.bool _) = _; simp, below_drewN hB nq⟩
end Go.Proofs.YtjgojbjehedpaaaDoor
