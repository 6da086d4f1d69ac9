/- The reference's turn of a word. -/
import Derived.Test.YtcbcahlgafngcaaDoorCMath
namespace Go.Proofs.YtcbcahlgafngcaaDoor
open Go Go.RowKit

theorem pow_le32 {k n : Nat} (h : k ≤ n) : (2 : Int) ^ k ≤ 2 ^ n := pow_mono2 h
set_option maxHeartbeats 400000 in
theorem left_any (x : Int) (n m : Nat) (w : World) (hn : 1 ≤ n ∧ n ≤ 31) (hm : Hid (m = 32 - n)) (hx : Hid (Wd x)) :
    Calls Tryd.prog 16 #[.int .u32 x, .int .i64 (n : Int)] w fun e w' => e = .returned (.int .u32 (rot x m)) ∧ w = w' := by
  go_enter Tryd.func16, Tryd.ntmps16
  go_wp2
  go_loop [5, 6] (fun s i => ∃ (k : Nat) (p : Int), k ≤ n ∧ s = .int .u32 p ∧ Hid (p = 2 ^ k) ∧ i = .int .i64 k) (fun _ i => n - (intOf i).toNat)
  case atStart => exact ⟨0, 1, by omega, rfl, hid (by simp), rfl⟩
  case round =>
    obtain ⟨k, p, hk, rfl, HP, rfl⟩ := hrel
    by_cases hlt : k < n
    · have hlt' : (k : Int) < n := by omega
      have h1 : (p * 2) % 4294967296 = p * 2 := by
        have h2 := pow_mono2 (a := k + 1) (b := 31) (by omega)
        rw [Int.pow_succ, ← HP.out] at h2
        have h3 := pow_pos8 k
        rw [← HP.out] at h3
        omega
      go_wp2
      go_round
      case rel => exact ⟨k + 1, p * 2, by omega, rfl, hid (by rw [HP.out, Int.pow_succ]), by go_num⟩
      case measure => simp [intOf]; omega
    · have e : k = n := by omega
      subst e
      have hp0 : 0 < p := by rw [HP.out]; exact pow_pos8 k
      have hpne : ¬ p = 0 := by omega
      obtain ⟨D, hD⟩ : ∃ D, D = (2 : Int) ^ (32 - k) := ⟨_, rfl⟩
      have hD0 : 0 < D := by rw [hD]; exact pow_pos8 _
      have hDne : ¬ D = 0 := by omega
      have hDl : D < 4294967296 := by
        have := pow_mono2 (a := 32 - k) (b := 31) (by omega)
        rw [← hD] at this
        omega
      have hq : 2147483648 / p * 2 = D := by
        have e1 : (2147483648 : Int) = p * 2 ^ (31 - k) := by rw [HP.out, ← Int.pow_add, show k + (31 - k) = 31 by omega]; rfl
        rw [e1, Int.mul_ediv_cancel_left _ (by omega), hD, show 32 - k = (31 - k) + 1 by omega, Int.pow_succ]
      have hqq : 2147483648 / p * 2 % 4294967296 = D := by rw [hq]; omega
      have htd : x.tdiv D = x / D := Int.tdiv_eq_ediv_of_nonneg hx.out.1
      have HD := hid hD
      clear hD hq
      go_wp2
      go_ret
      refine ⟨ret_int ?_, rfl⟩
      have h := rot_sum (x := x) (n := m) (by rw [hm.out]; omega) hx.out
      have e1 : 32 - m = k := by rw [hm.out]; omega
      rw [e1, ← HP.out, IntKind.wrap_u32, IntKind.wrap_u32] at h
      have e2 : (2 : Int) ^ m = D := by rw [HD.out, hm.out]
      rw [e2] at h
      rw [← h]
      generalize x * p = X at *
      generalize x / D = Y at *
      omega
end Go.Proofs.YtcbcahlgafngcaaDoor
