/- The reference's turns, shifts and tables. -/
import Derived.Test.YtihipgojeikdkaaDoorHStep
import Derived.Test.YtihipgojeikdkaaDoorApp
import Derived.Great.BuildSlice
namespace Go.Proofs.YtihipgojeikdkaaDoor
open Go.RowKit

set_option maxRecDepth 50000 in
theorem half_pow {n : Nat} (h : n ≤ 63) : (9223372036854775808 : Int) / 2 ^ n * 2 = 2 ^ (64 - n) := by
  have e : (9223372036854775808 : Int) = 2 ^ n * 2 ^ (63 - n) := by rw [← Int.pow_add, show n + (63 - n) = 63 by omega]; rfl
  have hp := Int.pow_pos (n := 2) (m := n) (by omega)
  rw [e, Int.mul_ediv_cancel_left _ (by omega), show 64 - n = (63 - n) + 1 by omega, Int.pow_succ]

set_option maxRecDepth 50000 in
set_option maxHeartbeats 400000 in
theorem turn_any (x k : Int) (n : Nat) (w : World) (hk : k = n) (hx : Hid (Wd x)) (hn1 : 1 ≤ n) (hn : n ≤ 63) :
    Calls Tryd.prog 33 #[.int .u64 x, .int .i64 k] w fun e w' => e = .returned (.int .u64 (rot x n)) ∧ ∃ m, w' = w.drewN m := by
  subst hk
  have hx0 := hx.out.1
  have hx1 := hx.out.2
  go_enter Tryd.func33, Tryd.ntmps33
  go_wp2
  go_loop [5, 6] (fun s i => ∃ (j : Nat) (S : Int), j ≤ n ∧ i = .int .i64 j ∧ s = .int .u64 S ∧ Hid (S = 2 ^ j)) (fun _ i => n - (intOf i).toNat)
  case atStart => exact ⟨0, 1, by omega, rfl, rfl, hid rfl⟩
  case round =>
    obtain ⟨j, S, hj, rfl, rfl, HS⟩ := hrel
    have hS1 : 1 ≤ S := by have := Int.pow_pos (n := 2) (m := j) (by omega); rw [HS.out]; omega
    have hS2 : S ≤ 9223372036854775808 := by have := pow_mono2 (a := j) (b := 63) (by omega); rw [HS.out]; exact this
    by_cases hlt : j < n
    · have hS3 : S * 2 ≤ 9223372036854775808 := by have := pow_mono2 (a := j + 1) (b := 63) (by omega); rw [Int.pow_succ, ← HS.out] at this; exact this
      go_wp2
      go_round
      case rel => exact ⟨j + 1, S * 2, by omega, by go_num, rfl, by show _ = _; rw [Int.pow_succ, HS.out]⟩
      case measure => simp [intOf]; omega
    · have e : j = n := by omega
      have hS0 : ¬ S = 0 := by omega
      obtain ⟨q, hq⟩ : ∃ q, q = 9223372036854775808 / S * 2 := ⟨_, rfl⟩
      have hq2 : q = 2 ^ (64 - n) := by rw [hq, HS.out, e, half_pow hn]
      obtain ⟨a, b, c, d⟩ := rot_parts (n := n) (by omega) hx.out
      have hwd := rot_wd (n := n) (by omega) hx.out
      unfold rot at hwd
      rw [← e, ← HS.out] at a b c d hwd
      rw [e, ← hq2] at b hwd
      have hm0 : 0 ≤ x % S * q := Int.mul_nonneg c (by rw [hq2]; exact Int.le_of_lt (Int.pow_pos (by omega)))
      obtain ⟨hd, hr⟩ := hwd
      have hfin : Hid (x / S + x % S * q = rot x n) := by show _ = _; unfold rot; rw [hq2, HS.out, e]
      have hqd : 9223372036854775808 / S ≤ 9223372036854775808 := Int.ediv_le_self _ (by omega)
      have hq0 : 0 ≤ 9223372036854775808 / S := Int.ediv_nonneg (by omega) (by omega)
      have hm1 : x % S * q < 18446744073709551616 := by omega
      have hq3 : q ≤ 9223372036854775808 := by have := pow_mono2 (a := 64 - n) (b := 63) (by omega); rw [hq2]; exact this
      have hqp : 0 < q := by rw [hq2]; exact Int.pow_pos (by omega)
      have HQ := hid hq
      clear hq hq2 e
      go_wp2
      go_quiet (fail)
      go_wp2
      go_ret
      refine ⟨ret_int ?_, _, rfl⟩
      show IntKind.u64.wrap (x / S + IntKind.u64.wrap (x % S * IntKind.u64.wrap (9223372036854775808 / S * 2))) = rot x n
      rw [← HQ.out, IntWalk.u64_in q (by omega), IntWalk.u64_in (x % S * q) (by omega), IntWalk.u64_in _ (by omega)]
      exact hfin.out

set_option maxRecDepth 50000 in
theorem rshift_any (x k : Int) (n : Nat) (w : World) (hk : k = n) (hx : Hid (Wd x)) (hn : n ≤ 63) :
    Calls Tryd.prog 34 #[.int .u64 x, .int .i64 k] w fun e w' => e = .returned (.int .u64 (x / 2 ^ n)) ∧ w = w' := by
  subst hk
  go_enter Tryd.func34, Tryd.ntmps34
  go_wp2
  go_loop [0, 5] (fun s i => ∃ (j : Nat) (S : Int), j ≤ n ∧ i = .int .i64 j ∧ s = .int .u64 S ∧ Hid (S = x / 2 ^ j) ∧ 0 ≤ S ∧ S < 18446744073709551616) (fun _ i => n - (intOf i).toNat)
  case atStart => exact ⟨0, x, by omega, rfl, rfl, hid (by simp), hx.out.1, hx.out.2⟩
  case round =>
    obtain ⟨j, S, hj, rfl, rfl, HS, hS0, hS1⟩ := hrel
    by_cases hlt : j < n
    · have h1 : 0 ≤ S / 2 := by omega
      have h3 : S / 2 < 18446744073709551616 := by omega
      have h2 : S / 2 = x / 2 ^ (j + 1) := by rw [HS.out, Int.pow_succ, Int.ediv_ediv_of_nonneg (Int.le_of_lt (Int.pow_pos (by omega)))]
      have H2 := hid h2
      clear h2
      go_wp2
      go_round
      case rel => exact ⟨j + 1, S / 2, by omega, by go_num, rfl, H2, h1, h3⟩
      case measure => simp [intOf]; omega
    · have e : j = n := by omega
      have H : Hid (S = x / 2 ^ n) := by show _ = _; rw [HS.out, e]
      clear e HS
      go_wp2
      go_ret
      exact ⟨ret_int H.out, rfl⟩

set_option maxRecDepth 50000 in
theorem nums_lits (w : World) (k : IntKind) (xs : List Int) (t : TypeId) (c : Array Value) (h : c = (ints k xs).toArray) : Nums (w.alloc (.cells c t)) k (some ⟨w.heap.size, 0, none⟩) xs := by
  subst h; exact (Arr.made w k xs t).nums

set_option maxRecDepth 10000 in
theorem told_any (w : World) : Calls Tryd.prog 29 #[] w fun e w' => ∃ g, e = .returned (.slice (some ⟨g, 0, none⟩) 80 80) ∧ Nums w' .u64 (some ⟨g, 0, none⟩) KINDS ∧ Below w.heap.size w w' := by
  have k1 : (Tryd.prog.info? 61).map (·.size) = some 1 := by kernel_rfl
  have k2 : ((Tryd.prog.info? 61).bind (·.zero)).isSome = true := by kernel_rfl
  have K1 := hid k1
  have K2 := hid k2
  clear k1 k2
  go_enter Tryd.func29, Tryd.ntmps29
  go_wp2_with (refine wpList_buildFlat (o := ⟨some 1, .buildSlice 58 80 _, _, _, _, _⟩) rfl 58 61 80 _ rfl .u64 KINDS Tryd.underlying58 K1.out K2.out rfl (by omega) (by omega) (by kernel_rfl) ?_)
  go_ret
  exact ⟨w.heap.size, rfl, (Arr.made w .u64 KINDS 61).nums, below_new _ _⟩
set_option maxRecDepth 10000 in
theorem begin_any (w : World) : Calls Tryd.prog 31 #[] w fun e w' => ∃ g, e = .returned (.slice (some ⟨g, 0, none⟩) 8 8) ∧ Nums w' .u64 (some ⟨g, 0, none⟩) FIRST ∧ Below w.heap.size w w' := by
  go_enter Tryd.func31, Tryd.ntmps31
  go_wp2
  go_ret
  exact ⟨w.heap.size, rfl, nums_lits w .u64 FIRST 61 _ (by kernel_rfl), below_new _ _⟩

end Go.Proofs.YtihipgojeikdkaaDoor
