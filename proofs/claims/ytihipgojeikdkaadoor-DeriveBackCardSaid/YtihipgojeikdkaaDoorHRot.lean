/- Rotations of words of 64 bits, as package bits has them and as the reference has them. -/
import Derived.Test.YtihipgojeikdkaaDoorRows
import Derived.Test.YtihipgojeikdkaaDoorBase
import Derived.Test.YtihipgojeikdkaaDoorHMath
import Derived.BigQuiet
import Derived.Deep.QuietTactic
import Derived.StillTailTactics
namespace Go.Proofs.YtihipgojeikdkaaDoor
open Go.RowKit

/-- A word of 64 bits. -/
def Wd (x : Int) : Prop := 0 ≤ x ∧ x < 18446744073709551616
set_option maxRecDepth 50000 in
theorem Wd.lo {x : Int} (h : Wd x) : 0 ≤ x := h.1
set_option maxRecDepth 50000 in
theorem Wd.hi {x : Int} (h : Wd x) : x < 18446744073709551616 := h.2
set_option maxRecDepth 50000 in
theorem wd_wrap (x : Int) : Wd (IntKind.u64.wrap x) := by rw [IntKind.wrap_u64]; exact ⟨by omega, by omega⟩

/-- x turned right by n bits, as a word of 64 bits. -/
def rot (x : Int) (n : Nat) : Int := x / 2 ^ n + x % 2 ^ n * 2 ^ (64 - n)
set_option maxRecDepth 50000 in
theorem pow_split {n : Nat} (h : n ≤ 64) : (2 : Int) ^ n * 2 ^ (64 - n) = 18446744073709551616 := by
  rw [← Int.pow_add, show n + (64 - n) = 64 by omega]; rfl
set_option maxRecDepth 50000 in
theorem rot_parts {x : Int} {n : Nat} (h : n ≤ 64) (hx : Wd x) : 0 ≤ x / 2 ^ n ∧ x / 2 ^ n < 2 ^ (64 - n) ∧ 0 ≤ x % 2 ^ n ∧ x % 2 ^ n < 2 ^ n := by
  have hp := Int.pow_pos (n := 2) (m := n) (by omega)
  have hs := pow_split h
  refine ⟨Int.ediv_nonneg hx.1 (by omega), ?_, Int.emod_nonneg _ (by omega), Int.emod_lt_of_pos _ hp⟩
  apply Int.ediv_lt_of_lt_mul hp
  have := hx.2
  rw [Int.mul_comm] at hs
  omega
set_option maxRecDepth 50000 in
theorem rot_wd {x : Int} {n : Nat} (h : n ≤ 64) (hx : Wd x) : Wd (rot x n) := by
  obtain ⟨a, b, c, d⟩ := rot_parts h hx
  have hp := Int.pow_pos (n := 2) (m := 64 - n) (by omega)
  have hs := pow_split h
  unfold rot
  have h1 : 0 ≤ x % 2 ^ n * 2 ^ (64 - n) := Int.mul_nonneg c (by omega)
  have h2 : (x % 2 ^ n + 1) * 2 ^ (64 - n) ≤ 2 ^ n * 2 ^ (64 - n) := Int.mul_le_mul_of_nonneg_right (by omega) (by omega)
  rw [Int.add_mul] at h2
  exact ⟨by omega, by omega⟩
set_option maxRecDepth 50000 in
theorem wrap_mul_pow {x : Int} {n : Nat} (h : n ≤ 64) (_ : Wd x) : IntKind.u64.wrap (x * 2 ^ (64 - n)) = x % 2 ^ n * 2 ^ (64 - n) := by
  rw [IntKind.wrap_u64]
  have hs := pow_split h
  rw [← hs]
  rw [Int.mul_comm x, Int.mul_comm (2 ^ n), Int.mul_emod_mul_of_pos _ _ (Int.pow_pos (by omega)), Int.mul_comm]
set_option maxRecDepth 50000 in
theorem rot_or {x : Int} {n : Nat} (h : n ≤ 64) (hx : Wd x) : bits .or .u64 (IntKind.u64.wrap (x * 2 ^ (64 - n))) (x / 2 ^ n) = rot x n := by
  obtain ⟨a, b, c, d⟩ := rot_parts h hx
  have hr := rot_wd h hx
  have hw := wd_wrap (x * 2 ^ (64 - n))
  have hs := pow_split h
  have hp := Int.pow_pos (n := 2) (m := n) (by omega)
  have hle : x / 2 ^ n ≤ x := Int.ediv_le_self _ hx.1
  have hx2 := hx.2
  rw [u64_or _ _ hw.1 hw.2 a (by omega), wrap_mul_pow h hx, or_apart _ _ _ c a b]
  unfold rot
  omega

def xr (a b : Int) : Int := bits .xor .u64 a b
def an (a b : Int) : Int := bits .and .u64 a b
def hplus (a b : Int) : Int := IntKind.u64.wrap (a + b)
set_option maxRecDepth 50000 in
theorem nat_lt (x : Int) (h : Wd x) : x.toNat < 2 ^ 64 := by have := h.1; have := h.2; omega
set_option maxRecDepth 50000 in
theorem xr_wd {a b : Int} (ha : Wd a) (hb : Wd b) : Wd (xr a b) := by
  unfold xr
  rw [u64_xor _ _ ha.1 ha.2 hb.1 hb.2]
  have := Nat.xor_lt_two_pow (nat_lt a ha) (nat_lt b hb)
  exact ⟨by omega, by omega⟩
set_option maxRecDepth 50000 in
theorem an_wd {a b : Int} (ha : Wd a) (hb : Wd b) : Wd (an a b) := by
  unfold an
  rw [u64_and _ _ ha.1 ha.2 hb.1 hb.2]
  have := Nat.and_lt_two_pow a.toNat (nat_lt b hb)
  exact ⟨by omega, by omega⟩
set_option maxRecDepth 50000 in
theorem plus_wd (a b : Int) : Wd (hplus a b) := wd_wrap _

/-- The amounts by which the hash turns. -/
def Amt (n : Nat) : Prop := n = 14 ∨ n = 18 ∨ n = 41 ∨ n = 28 ∨ n = 34 ∨ n = 39 ∨ n = 1 ∨ n = 8 ∨ n = 19 ∨ n = 61
set_option maxRecDepth 50000 in
theorem Amt.le {n : Nat} (h : Amt n) : n ≤ 64 := by unfold Amt at h; omega

set_option maxRecDepth 50000 in
theorem rl_14 (x : Int) (w : World) (h : Hid (Wd x)) :
    Calls Tryd.prog 53 #[.int .u64 x, .int .i64 (-14)] w fun e w' => e = .returned (.int .u64 (rot x 14)) ∧ w = w' := by
  have k1 : bits .and .u64 (IntKind.u64.wrap (-14)) 63 = 50 := by kernel_rfl
  go_enter Tryd.func53, Tryd.ntmps53
  go_wp2
  go_ret
  exact ⟨ret_int (by have := rot_or (n := 14) (by omega) h.out; simpa using this), rfl⟩
set_option maxRecDepth 50000 in
theorem right_14 (x : Int) (w : World) (h : Hid (Wd x)) :
    Calls Tryd.prog 51 #[.int .u64 x, .int .i64 14] w fun e w' => e = .returned (.int .u64 (rot x 14)) ∧ w = w' := by
  go_enter Tryd.func51, Tryd.ntmps51
  go_wp2_with (go_at_call 53; refine (rl_14 x _ h).mono ?_; rintro e w' ⟨rfl, rfl⟩)
  go_ret
  exact ⟨rfl, rfl⟩
set_option maxRecDepth 50000 in
theorem rl_18 (x : Int) (w : World) (h : Hid (Wd x)) :
    Calls Tryd.prog 53 #[.int .u64 x, .int .i64 (-18)] w fun e w' => e = .returned (.int .u64 (rot x 18)) ∧ w = w' := by
  have k1 : bits .and .u64 (IntKind.u64.wrap (-18)) 63 = 46 := by kernel_rfl
  go_enter Tryd.func53, Tryd.ntmps53
  go_wp2
  go_ret
  exact ⟨ret_int (by have := rot_or (n := 18) (by omega) h.out; simpa using this), rfl⟩
set_option maxRecDepth 50000 in
theorem right_18 (x : Int) (w : World) (h : Hid (Wd x)) :
    Calls Tryd.prog 51 #[.int .u64 x, .int .i64 18] w fun e w' => e = .returned (.int .u64 (rot x 18)) ∧ w = w' := by
  go_enter Tryd.func51, Tryd.ntmps51
  go_wp2_with (go_at_call 53; refine (rl_18 x _ h).mono ?_; rintro e w' ⟨rfl, rfl⟩)
  go_ret
  exact ⟨rfl, rfl⟩
set_option maxRecDepth 50000 in
theorem rl_41 (x : Int) (w : World) (h : Hid (Wd x)) :
    Calls Tryd.prog 53 #[.int .u64 x, .int .i64 (-41)] w fun e w' => e = .returned (.int .u64 (rot x 41)) ∧ w = w' := by
  have k1 : bits .and .u64 (IntKind.u64.wrap (-41)) 63 = 23 := by kernel_rfl
  go_enter Tryd.func53, Tryd.ntmps53
  go_wp2
  go_ret
  exact ⟨ret_int (by have := rot_or (n := 41) (by omega) h.out; simpa using this), rfl⟩
set_option maxRecDepth 50000 in
theorem right_41 (x : Int) (w : World) (h : Hid (Wd x)) :
    Calls Tryd.prog 51 #[.int .u64 x, .int .i64 41] w fun e w' => e = .returned (.int .u64 (rot x 41)) ∧ w = w' := by
  go_enter Tryd.func51, Tryd.ntmps51
  go_wp2_with (go_at_call 53; refine (rl_41 x _ h).mono ?_; rintro e w' ⟨rfl, rfl⟩)
  go_ret
  exact ⟨rfl, rfl⟩
set_option maxRecDepth 50000 in
theorem rl_28 (x : Int) (w : World) (h : Hid (Wd x)) :
    Calls Tryd.prog 53 #[.int .u64 x, .int .i64 (-28)] w fun e w' => e = .returned (.int .u64 (rot x 28)) ∧ w = w' := by
  have k1 : bits .and .u64 (IntKind.u64.wrap (-28)) 63 = 36 := by kernel_rfl
  go_enter Tryd.func53, Tryd.ntmps53
  go_wp2
  go_ret
  exact ⟨ret_int (by have := rot_or (n := 28) (by omega) h.out; simpa using this), rfl⟩
set_option maxRecDepth 50000 in
theorem right_28 (x : Int) (w : World) (h : Hid (Wd x)) :
    Calls Tryd.prog 51 #[.int .u64 x, .int .i64 28] w fun e w' => e = .returned (.int .u64 (rot x 28)) ∧ w = w' := by
  go_enter Tryd.func51, Tryd.ntmps51
  go_wp2_with (go_at_call 53; refine (rl_28 x _ h).mono ?_; rintro e w' ⟨rfl, rfl⟩)
  go_ret
  exact ⟨rfl, rfl⟩
set_option maxRecDepth 50000 in
theorem rl_34 (x : Int) (w : World) (h : Hid (Wd x)) :
    Calls Tryd.prog 53 #[.int .u64 x, .int .i64 (-34)] w fun e w' => e = .returned (.int .u64 (rot x 34)) ∧ w = w' := by
  have k1 : bits .and .u64 (IntKind.u64.wrap (-34)) 63 = 30 := by kernel_rfl
  go_enter Tryd.func53, Tryd.ntmps53
  go_wp2
  go_ret
  exact ⟨ret_int (by have := rot_or (n := 34) (by omega) h.out; simpa using this), rfl⟩
set_option maxRecDepth 50000 in
theorem right_34 (x : Int) (w : World) (h : Hid (Wd x)) :
    Calls Tryd.prog 51 #[.int .u64 x, .int .i64 34] w fun e w' => e = .returned (.int .u64 (rot x 34)) ∧ w = w' := by
  go_enter Tryd.func51, Tryd.ntmps51
  go_wp2_with (go_at_call 53; refine (rl_34 x _ h).mono ?_; rintro e w' ⟨rfl, rfl⟩)
  go_ret
  exact ⟨rfl, rfl⟩
set_option maxRecDepth 50000 in
theorem rl_39 (x : Int) (w : World) (h : Hid (Wd x)) :
    Calls Tryd.prog 53 #[.int .u64 x, .int .i64 (-39)] w fun e w' => e = .returned (.int .u64 (rot x 39)) ∧ w = w' := by
  have k1 : bits .and .u64 (IntKind.u64.wrap (-39)) 63 = 25 := by kernel_rfl
  go_enter Tryd.func53, Tryd.ntmps53
  go_wp2
  go_ret
  exact ⟨ret_int (by have := rot_or (n := 39) (by omega) h.out; simpa using this), rfl⟩
set_option maxRecDepth 50000 in
theorem right_39 (x : Int) (w : World) (h : Hid (Wd x)) :
    Calls Tryd.prog 51 #[.int .u64 x, .int .i64 39] w fun e w' => e = .returned (.int .u64 (rot x 39)) ∧ w = w' := by
  go_enter Tryd.func51, Tryd.ntmps51
  go_wp2_with (go_at_call 53; refine (rl_39 x _ h).mono ?_; rintro e w' ⟨rfl, rfl⟩)
  go_ret
  exact ⟨rfl, rfl⟩
set_option maxRecDepth 50000 in
theorem rl_1 (x : Int) (w : World) (h : Hid (Wd x)) :
    Calls Tryd.prog 53 #[.int .u64 x, .int .i64 (-1)] w fun e w' => e = .returned (.int .u64 (rot x 1)) ∧ w = w' := by
  have k1 : bits .and .u64 (IntKind.u64.wrap (-1)) 63 = 63 := by kernel_rfl
  go_enter Tryd.func53, Tryd.ntmps53
  go_wp2
  go_ret
  exact ⟨ret_int (by have := rot_or (n := 1) (by omega) h.out; simpa using this), rfl⟩
set_option maxRecDepth 50000 in
theorem right_1 (x : Int) (w : World) (h : Hid (Wd x)) :
    Calls Tryd.prog 51 #[.int .u64 x, .int .i64 1] w fun e w' => e = .returned (.int .u64 (rot x 1)) ∧ w = w' := by
  go_enter Tryd.func51, Tryd.ntmps51
  go_wp2_with (go_at_call 53; refine (rl_1 x _ h).mono ?_; rintro e w' ⟨rfl, rfl⟩)
  go_ret
  exact ⟨rfl, rfl⟩
set_option maxRecDepth 50000 in
theorem rl_8 (x : Int) (w : World) (h : Hid (Wd x)) :
    Calls Tryd.prog 53 #[.int .u64 x, .int .i64 (-8)] w fun e w' => e = .returned (.int .u64 (rot x 8)) ∧ w = w' := by
  have k1 : bits .and .u64 (IntKind.u64.wrap (-8)) 63 = 56 := by kernel_rfl
  go_enter Tryd.func53, Tryd.ntmps53
  go_wp2
  go_ret
  exact ⟨ret_int (by have := rot_or (n := 8) (by omega) h.out; simpa using this), rfl⟩
set_option maxRecDepth 50000 in
theorem right_8 (x : Int) (w : World) (h : Hid (Wd x)) :
    Calls Tryd.prog 51 #[.int .u64 x, .int .i64 8] w fun e w' => e = .returned (.int .u64 (rot x 8)) ∧ w = w' := by
  go_enter Tryd.func51, Tryd.ntmps51
  go_wp2_with (go_at_call 53; refine (rl_8 x _ h).mono ?_; rintro e w' ⟨rfl, rfl⟩)
  go_ret
  exact ⟨rfl, rfl⟩
set_option maxRecDepth 50000 in
theorem rl_19 (x : Int) (w : World) (h : Hid (Wd x)) :
    Calls Tryd.prog 53 #[.int .u64 x, .int .i64 (-19)] w fun e w' => e = .returned (.int .u64 (rot x 19)) ∧ w = w' := by
  have k1 : bits .and .u64 (IntKind.u64.wrap (-19)) 63 = 45 := by kernel_rfl
  go_enter Tryd.func53, Tryd.ntmps53
  go_wp2
  go_ret
  exact ⟨ret_int (by have := rot_or (n := 19) (by omega) h.out; simpa using this), rfl⟩
set_option maxRecDepth 50000 in
theorem right_19 (x : Int) (w : World) (h : Hid (Wd x)) :
    Calls Tryd.prog 51 #[.int .u64 x, .int .i64 19] w fun e w' => e = .returned (.int .u64 (rot x 19)) ∧ w = w' := by
  go_enter Tryd.func51, Tryd.ntmps51
  go_wp2_with (go_at_call 53; refine (rl_19 x _ h).mono ?_; rintro e w' ⟨rfl, rfl⟩)
  go_ret
  exact ⟨rfl, rfl⟩
set_option maxRecDepth 50000 in
theorem rl_61 (x : Int) (w : World) (h : Hid (Wd x)) :
    Calls Tryd.prog 53 #[.int .u64 x, .int .i64 (-61)] w fun e w' => e = .returned (.int .u64 (rot x 61)) ∧ w = w' := by
  have k1 : bits .and .u64 (IntKind.u64.wrap (-61)) 63 = 3 := by kernel_rfl
  go_enter Tryd.func53, Tryd.ntmps53
  go_wp2
  go_ret
  exact ⟨ret_int (by have := rot_or (n := 61) (by omega) h.out; simpa using this), rfl⟩
set_option maxRecDepth 50000 in
theorem right_61 (x : Int) (w : World) (h : Hid (Wd x)) :
    Calls Tryd.prog 51 #[.int .u64 x, .int .i64 61] w fun e w' => e = .returned (.int .u64 (rot x 61)) ∧ w = w' := by
  go_enter Tryd.func51, Tryd.ntmps51
  go_wp2_with (go_at_call 53; refine (rl_61 x _ h).mono ?_; rintro e w' ⟨rfl, rfl⟩)
  go_ret
  exact ⟨rfl, rfl⟩
set_option maxRecDepth 50000 in
theorem right_any (x k : Int) (n : Nat) (w : World) (hk : k = n) (h : Hid (Wd x)) (hn : Amt n) :
    Calls Tryd.prog 51 #[.int .u64 x, .int .i64 k] w fun e w' => e = .returned (.int .u64 (rot x n)) ∧ w = w' := by
  subst hk
  rcases hn with rfl | rfl | rfl | rfl | rfl | rfl | rfl | rfl | rfl | rfl
  · exact right_14 x w h
  · exact right_18 x w h
  · exact right_41 x w h
  · exact right_28 x w h
  · exact right_34 x w h
  · exact right_39 x w h
  · exact right_1 x w h
  · exact right_8 x w h
  · exact right_19 x w h
  · exact right_61 x w h
/-- Three turns. -/
def tri (x : Int) (i j k : Nat) : Int := xr (xr (rot x i) (rot x j)) (rot x k)
set_option maxRecDepth 50000 in
theorem tri_wd {x : Int} {i j k : Nat} (h : Wd x) (hi : i ≤ 64) (hj : j ≤ 64) (hk : k ≤ 64) : Wd (tri x i j k) := xr_wd (xr_wd (rot_wd hi h) (rot_wd hj h)) (rot_wd hk h)
set_option maxRecDepth 50000 in
theorem turns_e (x : Int) (w : World) (h : Hid (Wd x)) :
    Calls Tryd.prog 47 #[.int .u64 x, .int .i64 14, .int .i64 18, .int .i64 41] w fun e w' => e = .returned (.int .u64 (tri x 14 18 41)) ∧ w = w' := by
  go_enter Tryd.func47, Tryd.ntmps47
  go_wp2_with (go_at_call 51; (first | (with_reducible refine (right_14 x _ h).mono ?_) | (with_reducible refine (right_18 x _ h).mono ?_) | (with_reducible refine (right_41 x _ h).mono ?_)); rintro e w' ⟨rfl, rfl⟩)
  go_ret
  exact ⟨rfl, rfl⟩
set_option maxRecDepth 50000 in
theorem turns_a (x : Int) (w : World) (h : Hid (Wd x)) :
    Calls Tryd.prog 47 #[.int .u64 x, .int .i64 28, .int .i64 34, .int .i64 39] w fun e w' => e = .returned (.int .u64 (tri x 28 34 39)) ∧ w = w' := by
  go_enter Tryd.func47, Tryd.ntmps47
  go_wp2_with (go_at_call 51; (first | (with_reducible refine (right_28 x _ h).mono ?_) | (with_reducible refine (right_34 x _ h).mono ?_) | (with_reducible refine (right_39 x _ h).mono ?_)); rintro e w' ⟨rfl, rfl⟩)
  go_ret
  exact ⟨rfl, rfl⟩
end Go.Proofs.YtihipgojeikdkaaDoor
