/- Texts of this proof, laid together: HRot, HWords. -/
import Derived.Test.YtpncohoonfahpaaGreatDoorRows
import Derived.Test.YtpncohoonfahpaaGreatDoorBase
import Derived.Test.YtpncohoonfahpaaGreatDoorHMath
import Derived.BigQuiet
import Derived.Deep.QuietTactic
import Derived.StillTailTactics
import Derived.Test.YtpncohoonfahpaaGreatDoorG1
/- Rotations of words of 64 bits, as package bits has them and as the reference has them. -/
namespace Go.Proofs.YtpncohoonfahpaaGreatDoor
open Go.RowKit

/-- A word of 64 bits. -/
def Wd (x : Int) : Prop := 0 ≤ x ∧ x < 18446744073709551616
set_option maxRecDepth 50000 in
theorem Wd.lo {x : Int} (h : Wd x) : 0 ≤ x := h.1
set_option maxRecDepth 50000 in
theorem Wd.hi {x : Int} (h : Wd x) : x < 18446744073709551616 := h.2
set_option maxRecDepth 50000 in
theorem wd_wrap (x : Int) : Wd (IntKind.u64.wrap x) := by rw [IntKind.wrap_u64]; exact ⟨by omega, by omega⟩

/-- x turned right by n bits, as a word of 64 bits. -/
def rot (x : Int) (n : Nat) : Int := x / 2 ^ n + x % 2 ^ n * 2 ^ (64 - n)
set_option maxRecDepth 50000 in
theorem pow_split {n : Nat} (h : n ≤ 64) : (2 : Int) ^ n * 2 ^ (64 - n) = 18446744073709551616 := by
  rw [← Int.pow_add, show n + (64 - n) = 64 by omega]; rfl
set_option maxRecDepth 50000 in
theorem rot_parts {x : Int} {n : Nat} (h : n ≤ 64) (hx : Wd x) : 0 ≤ x / 2 ^ n ∧ x / 2 ^ n < 2 ^ (64 - n) ∧ 0 ≤ x % 2 ^ n ∧ x % 2 ^ n < 2 ^ n := by
  have hp := Int.pow_pos (n := 2) (m := n) (by omega)
  have hs := pow_split h
  refine ⟨Int.ediv_nonneg hx.1 (by omega), ?_, Int.emod_nonneg _ (by omega), Int.emod_lt_of_pos _ hp⟩
  apply Int.ediv_lt_of_lt_mul hp
  have := hx.2
  rw [Int.mul_comm] at hs
  omega
set_option maxRecDepth 50000 in
theorem rot_wd {x : Int} {n : Nat} (h : n ≤ 64) (hx : Wd x) : Wd (rot x n) := by
  obtain ⟨a, b, c, d⟩ := rot_parts h hx
  have hp := Int.pow_pos (n := 2) (m := 64 - n) (by omega)
  have hs := pow_split h
  unfold rot
  have h1 : 0 ≤ x % 2 ^ n * 2 ^ (64 - n) := Int.mul_nonneg c (by omega)
  have h2 : (x % 2 ^ n + 1) * 2 ^ (64 - n) ≤ 2 ^ n * 2 ^ (64 - n) := Int.mul_le_mul_of_nonneg_right (by omega) (by omega)
  rw [Int.add_mul] at h2
  exact ⟨by omega, by omega⟩
set_option maxRecDepth 50000 in
theorem wrap_mul_pow {x : Int} {n : Nat} (h : n ≤ 64) (_ : Wd x) : IntKind.u64.wrap (x * 2 ^ (64 - n)) = x % 2 ^ n * 2 ^ (64 - n) := by
  rw [IntKind.wrap_u64]
  have hs := pow_split h
  rw [← hs]
  rw [Int.mul_comm x, Int.mul_comm (2 ^ n), Int.mul_emod_mul_of_pos _ _ (Int.pow_pos (by omega)), Int.mul_comm]
set_option maxRecDepth 50000 in
theorem rot_or {x : Int} {n : Nat} (h : n ≤ 64) (hx : Wd x) : bits .or .u64 (IntKind.u64.wrap (x * 2 ^ (64 - n))) (x / 2 ^ n) = rot x n := by
  obtain ⟨a, b, c, d⟩ := rot_parts h hx
  have hr := rot_wd h hx
  have hw := wd_wrap (x * 2 ^ (64 - n))
  have hs := pow_split h
  have hp := Int.pow_pos (n := 2) (m := n) (by omega)
  have hle : x / 2 ^ n ≤ x := Int.ediv_le_self _ hx.1
  have hx2 := hx.2
  rw [u64_or _ _ hw.1 hw.2 a (by omega), wrap_mul_pow h hx, or_apart _ _ _ c a b]
  unfold rot
  omega

def xr (a b : Int) : Int := bits .xor .u64 a b
def an (a b : Int) : Int := bits .and .u64 a b
def hplus (a b : Int) : Int := IntKind.u64.wrap (a + b)
set_option maxRecDepth 50000 in
theorem nat_lt (x : Int) (h : Wd x) : x.toNat < 2 ^ 64 := by have := h.1; have := h.2; omega
set_option maxRecDepth 50000 in
theorem xr_wd {a b : Int} (ha : Wd a) (hb : Wd b) : Wd (xr a b) := by
  unfold xr
  rw [u64_xor _ _ ha.1 ha.2 hb.1 hb.2]
  have := Nat.xor_lt_two_pow (nat_lt a ha) (nat_lt b hb)
  exact ⟨by omega, by omega⟩
set_option maxRecDepth 50000 in
theorem an_wd {a b : Int} (ha : Wd a) (hb : Wd b) : Wd (an a b) := by
  unfold an
  rw [u64_and _ _ ha.1 ha.2 hb.1 hb.2]
  have := Nat.and_lt_two_pow a.toNat (nat_lt b hb)
  exact ⟨by omega, by omega⟩
set_option maxRecDepth 50000 in
theorem plus_wd (a b : Int) : Wd (hplus a b) := wd_wrap _

/-- The amounts by which the hash turns. -/
def Amt (n : Nat) : Prop := n = 14 ∨ n = 18 ∨ n = 41 ∨ n = 28 ∨ n = 34 ∨ n = 39 ∨ n = 1 ∨ n = 8 ∨ n = 19 ∨ n = 61
set_option maxRecDepth 50000 in
theorem Amt.le {n : Nat} (h : Amt n) : n ≤ 64 := by unfold Amt at h; omega

set_option maxRecDepth 50000 in
theorem rl_14 (x : Int) (w : World) (h : Hid (Wd x)) :
    Calls Tryz.prog 245 #[.int .u64 x, .int .i64 (-14)] w fun e w' => e = .returned (.int .u64 (rot x 14)) ∧ w = w' := by
  have k1 : bits .and .u64 (IntKind.u64.wrap (-14)) 63 = 50 := by kernel_rfl
  go_enter Tryz.func245, Tryz.ntmps245
  go_wp2
  go_ret
  exact ⟨ret_int (by have := rot_or (n := 14) (by omega) h.out; simpa using this), rfl⟩
set_option maxRecDepth 50000 in
theorem right_14 (x : Int) (w : World) (h : Hid (Wd x)) :
    Calls Tryz.prog 240 #[.int .u64 x, .int .i64 14] w fun e w' => e = .returned (.int .u64 (rot x 14)) ∧ w = w' := by
  go_enter Tryz.func240, Tryz.ntmps240
  go_wp2_with (go_at_call 245; refine (rl_14 x _ h).mono ?_; rintro e w' ⟨rfl, rfl⟩)
  go_ret
  exact ⟨rfl, rfl⟩
set_option maxRecDepth 50000 in
theorem rl_18 (x : Int) (w : World) (h : Hid (Wd x)) :
    Calls Tryz.prog 245 #[.int .u64 x, .int .i64 (-18)] w fun e w' => e = .returned (.int .u64 (rot x 18)) ∧ w = w' := by
  have k1 : bits .and .u64 (IntKind.u64.wrap (-18)) 63 = 46 := by kernel_rfl
  go_enter Tryz.func245, Tryz.ntmps245
  go_wp2
  go_ret
  exact ⟨ret_int (by have := rot_or (n := 18) (by omega) h.out; simpa using this), rfl⟩
set_option maxRecDepth 50000 in
theorem right_18 (x : Int) (w : World) (h : Hid (Wd x)) :
    Calls Tryz.prog 240 #[.int .u64 x, .int .i64 18] w fun e w' => e = .returned (.int .u64 (rot x 18)) ∧ w = w' := by
  go_enter Tryz.func240, Tryz.ntmps240
  go_wp2_with (go_at_call 245; refine (rl_18 x _ h).mono ?_; rintro e w' ⟨rfl, rfl⟩)
  go_ret
  exact ⟨rfl, rfl⟩
set_option maxRecDepth 50000 in
theorem rl_41 (x : Int) (w : World) (h : Hid (Wd x)) :
    Calls Tryz.prog 245 #[.int .u64 x, .int .i64 (-41)] w fun e w' => e = .returned (.int .u64 (rot x 41)) ∧ w = w' := by
  have k1 : bits .and .u64 (IntKind.u64.wrap (-41)) 63 = 23 := by kernel_rfl
  go_enter Tryz.func245, Tryz.ntmps245
  go_wp2
  go_ret
  exact ⟨ret_int (by have := rot_or (n := 41) (by omega) h.out; simpa using this), rfl⟩
set_option maxRecDepth 50000 in
theorem right_41 (x : Int) (w : World) (h : Hid (Wd x)) :
    Calls Tryz.prog 240 #[.int .u64 x, .int .i64 41] w fun e w' => e = .returned (.int .u64 (rot x 41)) ∧ w = w' := by
  go_enter Tryz.func240, Tryz.ntmps240
  go_wp2_with (go_at_call 245; refine (rl_41 x _ h).mono ?_; rintro e w' ⟨rfl, rfl⟩)
  go_ret
  exact ⟨rfl, rfl⟩
set_option maxRecDepth 50000 in
theorem rl_28 (x : Int) (w : World) (h : Hid (Wd x)) :
    Calls Tryz.prog 245 #[.int .u64 x, .int .i64 (-28)] w fun e w' => e = .returned (.int .u64 (rot x 28)) ∧ w = w' := by
  have k1 : bits .and .u64 (IntKind.u64.wrap (-28)) 63 = 36 := by kernel_rfl
  go_enter Tryz.func245, Tryz.ntmps245
  go_wp2
  go_ret
  exact ⟨ret_int (by have := rot_or (n := 28) (by omega) h.out; simpa using this), rfl⟩
set_option maxRecDepth 50000 in
theorem right_28 (x : Int) (w : World) (h : Hid (Wd x)) :
    Calls Tryz.prog 240 #[.int .u64 x, .int .i64 28] w fun e w' => e = .returned (.int .u64 (rot x 28)) ∧ w = w' := by
  go_enter Tryz.func240, Tryz.ntmps240
  go_wp2_with (go_at_call 245; refine (rl_28 x _ h).mono ?_; rintro e w' ⟨rfl, rfl⟩)
  go_ret
  exact ⟨rfl, rfl⟩
set_option maxRecDepth 50000 in
theorem rl_34 (x : Int) (w : World) (h : Hid (Wd x)) :
    Calls Tryz.prog 245 #[.int .u64 x, .int .i64 (-34)] w fun e w' => e = .returned (.int .u64 (rot x 34)) ∧ w = w' := by
  have k1 : bits .and .u64 (IntKind.u64.wrap (-34)) 63 = 30 := by kernel_rfl
  go_enter Tryz.func245, Tryz.ntmps245
  go_wp2
  go_ret
  exact ⟨ret_int (by have := rot_or (n := 34) (by omega) h.out; simpa using this), rfl⟩
set_option maxRecDepth 50000 in
theorem right_34 (x : Int) (w : World) (h : Hid (Wd x)) :
    Calls Tryz.prog 240 #[.int .u64 x, .int .i64 34] w fun e w' => e = .returned (.int .u64 (rot x 34)) ∧ w = w' := by
  go_enter Tryz.func240, Tryz.ntmps240
  go_wp2_with (go_at_call 245; refine (rl_34 x _ h).mono ?_; rintro e w' ⟨rfl, rfl⟩)
  go_ret
  exact ⟨rfl, rfl⟩
set_option maxRecDepth 50000 in
theorem rl_39 (x : Int) (w : World) (h : Hid (Wd x)) :
    Calls Tryz.prog 245 #[.int .u64 x, .int .i64 (-39)] w fun e w' => e = .returned (.int .u64 (rot x 39)) ∧ w = w' := by
  have k1 : bits .and .u64 (IntKind.u64.wrap (-39)) 63 = 25 := by kernel_rfl
  go_enter Tryz.func245, Tryz.ntmps245
  go_wp2
  go_ret
  exact ⟨ret_int (by have := rot_or (n := 39) (by omega) h.out; simpa using this), rfl⟩
set_option maxRecDepth 50000 in
theorem right_39 (x : Int) (w : World) (h : Hid (Wd x)) :
    Calls Tryz.prog 240 #[.int .u64 x, .int .i64 39] w fun e w' => e = .returned (.int .u64 (rot x 39)) ∧ w = w' := by
  go_enter Tryz.func240, Tryz.ntmps240
  go_wp2_with (go_at_call 245; refine (rl_39 x _ h).mono ?_; rintro e w' ⟨rfl, rfl⟩)
  go_ret
  exact ⟨rfl, rfl⟩
set_option maxRecDepth 50000 in
theorem rl_1 (x : Int) (w : World) (h : Hid (Wd x)) :
    Calls Tryz.prog 245 #[.int .u64 x, .int .i64 (-1)] w fun e w' => e = .returned (.int .u64 (rot x 1)) ∧ w = w' := by
  have k1 : bits .and .u64 (IntKind.u64.wrap (-1)) 63 = 63 := by kernel_rfl
  go_enter Tryz.func245, Tryz.ntmps245
  go_wp2
  go_ret
  exact ⟨ret_int (by have := rot_or (n := 1) (by omega) h.out; simpa using this), rfl⟩
set_option maxRecDepth 50000 in
theorem right_1 (x : Int) (w : World) (h : Hid (Wd x)) :
    Calls Tryz.prog 240 #[.int .u64 x, .int .i64 1] w fun e w' => e = .returned (.int .u64 (rot x 1)) ∧ w = w' := by
  go_enter Tryz.func240, Tryz.ntmps240
  go_wp2_with (go_at_call 245; refine (rl_1 x _ h).mono ?_; rintro e w' ⟨rfl, rfl⟩)
  go_ret
  exact ⟨rfl, rfl⟩
set_option maxRecDepth 50000 in
theorem rl_8 (x : Int) (w : World) (h : Hid (Wd x)) :
    Calls Tryz.prog 245 #[.int .u64 x, .int .i64 (-8)] w fun e w' => e = .returned (.int .u64 (rot x 8)) ∧ w = w' := by
  have k1 : bits .and .u64 (IntKind.u64.wrap (-8)) 63 = 56 := by kernel_rfl
  go_enter Tryz.func245, Tryz.ntmps245
  go_wp2
  go_ret
  exact ⟨ret_int (by have := rot_or (n := 8) (by omega) h.out; simpa using this), rfl⟩
set_option maxRecDepth 50000 in
theorem right_8 (x : Int) (w : World) (h : Hid (Wd x)) :
    Calls Tryz.prog 240 #[.int .u64 x, .int .i64 8] w fun e w' => e = .returned (.int .u64 (rot x 8)) ∧ w = w' := by
  go_enter Tryz.func240, Tryz.ntmps240
  go_wp2_with (go_at_call 245; refine (rl_8 x _ h).mono ?_; rintro e w' ⟨rfl, rfl⟩)
  go_ret
  exact ⟨rfl, rfl⟩
set_option maxRecDepth 50000 in
theorem rl_19 (x : Int) (w : World) (h : Hid (Wd x)) :
    Calls Tryz.prog 245 #[.int .u64 x, .int .i64 (-19)] w fun e w' => e = .returned (.int .u64 (rot x 19)) ∧ w = w' := by
  have k1 : bits .and .u64 (IntKind.u64.wrap (-19)) 63 = 45 := by kernel_rfl
  go_enter Tryz.func245, Tryz.ntmps245
  go_wp2
  go_ret
  exact ⟨ret_int (by have := rot_or (n := 19) (by omega) h.out; simpa using this), rfl⟩
set_option maxRecDepth 50000 in
theorem right_19 (x : Int) (w : World) (h : Hid (Wd x)) :
    Calls Tryz.prog 240 #[.int .u64 x, .int .i64 19] w fun e w' => e = .returned (.int .u64 (rot x 19)) ∧ w = w' := by
  go_enter Tryz.func240, Tryz.ntmps240
  go_wp2_with (go_at_call 245; refine (rl_19 x _ h).mono ?_; rintro e w' ⟨rfl, rfl⟩)
  go_ret
  exact ⟨rfl, rfl⟩
set_option maxRecDepth 50000 in
theorem rl_61 (x : Int) (w : World) (h : Hid (Wd x)) :
    Calls Tryz.prog 245 #[.int .u64 x, .int .i64 (-61)] w fun e w' => e = .returned (.int .u64 (rot x 61)) ∧ w = w' := by
  have k1 : bits .and .u64 (IntKind.u64.wrap (-61)) 63 = 3 := by kernel_rfl
  go_enter Tryz.func245, Tryz.ntmps245
  go_wp2
  go_ret
  exact ⟨ret_int (by have := rot_or (n := 61) (by omega) h.out; simpa using this), rfl⟩
set_option maxRecDepth 50000 in
theorem right_61 (x : Int) (w : World) (h : Hid (Wd x)) :
    Calls Tryz.prog 240 #[.int .u64 x, .int .i64 61] w fun e w' => e = .returned (.int .u64 (rot x 61)) ∧ w = w' := by
  go_enter Tryz.func240, Tryz.ntmps240
  go_wp2_with (go_at_call 245; refine (rl_61 x _ h).mono ?_; rintro e w' ⟨rfl, rfl⟩)
  go_ret
  exact ⟨rfl, rfl⟩
set_option maxRecDepth 50000 in
theorem right_any (x k : Int) (n : Nat) (w : World) (hk : k = n) (h : Hid (Wd x)) (hn : Amt n) :
    Calls Tryz.prog 240 #[.int .u64 x, .int .i64 k] w fun e w' => e = .returned (.int .u64 (rot x n)) ∧ w = w' := by
  subst hk
  rcases hn with rfl | rfl | rfl | rfl | rfl | rfl | rfl | rfl | rfl | rfl
  · exact right_14 x w h
  · exact right_18 x w h
  · exact right_41 x w h
  · exact right_28 x w h
  · exact right_34 x w h
  · exact right_39 x w h
  · exact right_1 x w h
  · exact right_8 x w h
  · exact right_19 x w h
  · exact right_61 x w h
/-- Three turns. -/
def tri (x : Int) (i j k : Nat) : Int := xr (xr (rot x i) (rot x j)) (rot x k)
set_option maxRecDepth 50000 in
theorem tri_wd {x : Int} {i j k : Nat} (h : Wd x) (hi : i ≤ 64) (hj : j ≤ 64) (hk : k ≤ 64) : Wd (tri x i j k) := xr_wd (xr_wd (rot_wd hi h) (rot_wd hj h)) (rot_wd hk h)
set_option maxRecDepth 50000 in
theorem turns_e (x : Int) (w : World) (h : Hid (Wd x)) :
    Calls Tryz.prog 232 #[.int .u64 x, .int .i64 14, .int .i64 18, .int .i64 41] w fun e w' => e = .returned (.int .u64 (tri x 14 18 41)) ∧ w = w' := by
  go_enter Tryz.func232, Tryz.ntmps232
  go_wp2_with (go_at_call 240; (first | (with_reducible refine (right_14 x _ h).mono ?_) | (with_reducible refine (right_18 x _ h).mono ?_) | (with_reducible refine (right_41 x _ h).mono ?_)); rintro e w' ⟨rfl, rfl⟩)
  go_ret
  exact ⟨rfl, rfl⟩
set_option maxRecDepth 50000 in
theorem turns_a (x : Int) (w : World) (h : Hid (Wd x)) :
    Calls Tryz.prog 232 #[.int .u64 x, .int .i64 28, .int .i64 34, .int .i64 39] w fun e w' => e = .returned (.int .u64 (tri x 28 34 39)) ∧ w = w' := by
  go_enter Tryz.func232, Tryz.ntmps232
  go_wp2_with (go_at_call 240; (first | (with_reducible refine (right_28 x _ h).mono ?_) | (with_reducible refine (right_34 x _ h).mono ?_) | (with_reducible refine (right_39 x _ h).mono ?_)); rintro e w' ⟨rfl, rfl⟩)
  go_ret
  exact ⟨rfl, rfl⟩
end Go.Proofs.YtpncohoonfahpaaGreatDoor

/- Lists of words as bytes, and back. -/
namespace Go.Proofs.YtpncohoonfahpaaGreatDoor
open Go.RowKit
set_option maxRecDepth 50000 in
set_option maxHeartbeats 400000 in
theorem wide_any (A : Option Addr) (c : Nat) (b : List Int) (w : World) (h8 : b.length ≤ 8) (hby : HByt b) (hA : Nums w .u8 A b) :
    Calls Tryz.prog 59 #[.slice A b.length c] w fun e w' => ∃ v, e = .returned (.int .u64 v) ∧ Hid (v = hiv b) ∧ Below w.heap.size w w' := by
  go_enter Tryz.func59, Tryz.ntmps59
  go_wp2
  go_loop [3, 4] (fun v i => ∃ (k : Nat) (n : Int), k ≤ b.length ∧ v = .int .u64 n ∧ Hid (n = hiv (b.take k)) ∧ 0 ≤ n ∧ i = .int .i64 k) (fun _ i => b.length - (intOf i).toNat)
  case atStart => exact ⟨0, 0, by omega, rfl, hid (by simp [hiv]), by omega, rfl⟩
  case round =>
    obtain ⟨k, n, hk, rfl, HN, hn0, rfl⟩ := hrel
    by_cases hlt : k < b.length
    · obtain ⟨b1, o1, x, rfl, _, hc1, H1⟩ := hA.get hlt
      have hx := hby.at_ H1.out
      have hx0 := hx.1
      have hx1 := hx.2
      have hk0 : (0 : Int) ≤ k := by omega
      have hk1 : (k : Int) < b.length := by omega
      have hs : hiv (b.take (k + 1)) = 256 * n + x := by rw [take_succ_at H1.out, hiv_snoc, HN.out]
      have hbd := hiv_bd _ (hby.take (k + 1))
      have hp := pow_mono2 (a := 8 * (b.take (k + 1)).length) (b := 64) (by have := List.length_take_le (k + 1) b; omega)
      have hnb : 256 * n + x < 18446744073709551616 := by omega
      have HS := hid hs
      clear hx hs hbd hp
      go_wp2
      go_round
      case rel => exact ⟨k + 1, 256 * n + x, by omega, rfl, hid HS.out.symm, by omega, by go_num⟩
      case measure => simp [intOf]; omega
    · have e : k = b.length := by omega
      subst e
      rw [List.take_length] at HN
      go_wp2
      go_ret
      exact ⟨n, rfl, HN, Below.refl _ _⟩

/-- What Words32 and Words64 give. -/
def WordsPost (k : IntKind) (hi : Bool) (s : Nat) (b : List Int) (w : World) (e : Ending) (w' : World) : Prop :=
  ∃ B d ys E, e = .returned (.tuple #[.slice B ys.length d, .int .i64 E]) ∧ Hid (ys = if b.length % s = 0 then joinB hi s b else []) ∧ Hid (E = if b.length % s = 0 then 0 else 2) ∧ Nums w' k B ys ∧ Below w.heap.size w w'
set_option maxRecDepth 50000 in
set_option maxHeartbeats 400000 in
theorem words64_any (hi : Bool) (A : Option Addr) (c : Nat) (b : List Int) (w : World) (hn : b.length ≤ 4096) (hby : HByt b) (hA : Nums w .u8 A b) :
    Calls Tryz.prog 244 #[.slice A b.length c, .int .i64 8, .int .i64 (ordN hi)] w (WordsPost .u64 hi 8 b w) := by
  by_cases hm : b.length % 8 = 0
  · have HM := hid hm
    have hmi : (b.length : Int) % 8 = 0 := by omega
    clear hm
    go_enter Tryz.func244, Tryz.ntmps244
    go_wp2_with (go_at_call 200; refine (join64 hi A c 8 b _ (by omega) (by omega) hn HM.out hby hA).mono ?_; rintro e w' ⟨B, d, ys, rfl, HY, hN, hb⟩)
    go_ret2
    exact ⟨B, d, ys, 0, rfl, by show _ = _; rw [if_pos HM.out]; exact HY.out, by show _ = _; rw [if_pos HM.out], hN, hb⟩
  · have HM := hid hm
    have hmi : ((b.length : Int) % 8 != 0) = true := by simp; omega
    clear hm
    go_enter Tryz.func244, Tryz.ntmps244
    go_wp2
    go_ret2
    exact ⟨none, 0, [], 2, rfl, by show _ = _; rw [if_neg HM.out], by show _ = _; rw [if_neg HM.out], Nums.nil, Below.refl _ _⟩

set_option maxRecDepth 50000 in
theorem wWords64 (A : Option Addr) (c : Nat) (b : List Int) (w : World) (hn : b.length ≤ 4096) (hby : HByt b) (hA : Nums w .u8 A b) :
    Calls Tryz.prog 239 #[.slice A b.length c] w (WordsPost .u64 true 8 b w) := by
  go_enter Tryz.func239, Tryz.ntmps239
  go_wp2_with (go_at_call 244; refine (words64_any true A c b _ hn hby hA).mono ?_; rintro e w' ⟨B, d, ys, E, rfl, HY, HE, hN, hb⟩)
  go_ret2
  exact ⟨B, d, ys, E, rfl, HY, HE, hN, hb⟩
set_option maxRecDepth 50000 in
theorem wBytes64 (A : Option Addr) (c : Nat) (l : List Int) (w : World) (hn : l.length ≤ 500) (hA : Nums w .u64 A l) :
    Calls Tryz.prog 158 #[.slice A l.length c] w fun e w' => ∃ B d ys, e = .returned (.slice B ys.length d) ∧ Hid (ys = splitB true 8 l) ∧ NumsF w.heap.size w' .u8 B ys ∧ Below w.heap.size w w' := by
  go_enter Tryz.func158, Tryz.ntmps158
  go_wp2_with (go_at_call 202; refine (split64 true A c 8 l _ (by omega) (by omega) (by omega) hA).mono ?_; rintro e w' ⟨B, d, ys, rfl, HY, hN, hb⟩)
  go_ret
  exact ⟨B, d, ys, rfl, HY, hN, hb⟩
set_option maxRecDepth 50000 in
theorem words_n (A : Option Addr) (c : Nat) (b : List Int) (w : World) (hn : b.length = 128) (hby : HByt b) (hA : Nums w .u8 A b) :
    Calls Tryz.prog 239 #[.slice A 128 c] w fun e w' => ∃ B d ys, e = .returned (.tuple #[.slice B 16 d, .int .i64 0]) ∧ Hid (ys = joinB true 8 b) ∧ Hid (ys.length = 16) ∧ Nums w' .u64 B ys ∧ Below w.heap.size w w' := by
  have h := wWords64 A c b w (by omega) hby hA
  rw [hn] at h
  refine h.mono fun e w' ⟨B, d, ys, E, he, hY, hE, hN, hb⟩ => ?_
  have e1 : ys = joinB true 8 b := by rw [hY.out, if_pos (by omega)]
  have e2 : E = 0 := by rw [hE.out, if_pos (by omega)]
  have e3 : ys.length = 16 := by rw [e1, joinB_length]; omega
  exact ⟨B, d, ys, by rw [he, e2, e3], hid e1, hid e3, hN, hb⟩
end Go.Proofs.YtpncohoonfahpaaGreatDoor
