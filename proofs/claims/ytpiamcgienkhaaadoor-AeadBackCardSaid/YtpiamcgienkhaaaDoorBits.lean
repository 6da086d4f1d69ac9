/- Bits of signed words: a mask of low bits, and the exchange by xor. No condition. -/
import Derived.Laws.BitsAllLaws
namespace Go.Proofs.YtpiamcgienkhaaaDoor
open Go

theorem wrap_toInt (v : BitVec 64) : IntKind.i64.wrap (v.toNat : Int) = v.toInt := by
  have h : v.toNat < 2 ^ 64 := v.isLt
  rw [BitVec.toInt_eq_toNat_cond]
  simp only [IntKind.wrap, IntKind.bits, IntKind.signed]
  simp
  split <;> split <;> omega
theorem bits64 (x y : Int) : bits .and .i64 x y = (BitVec.ofInt 64 x &&& BitVec.ofInt 64 y).toInt ∧ bits .xor .i64 x y = (BitVec.ofInt 64 x ^^^ BitVec.ofInt 64 y).toInt ∧ bits .or .i64 x y = (BitVec.ofInt 64 x ||| BitVec.ofInt 64 y).toInt :=
  ⟨wrap_toInt _, wrap_toInt _, wrap_toInt _⟩
theorem toInt_small (v : BitVec 64) (n : Nat) (h : v.toNat = n) (hn : n < 9223372036854775808) : v.toInt = n := by
  rw [BitVec.toInt_eq_toNat_cond, h]
  rw [if_pos (by omega)]
theorem mask_i64 (t : Int) (n : Nat) (m : Int) (hm : m = 2 ^ n - 1) (hn : n ≤ 62) : bits .and .i64 t m = t % 2 ^ n := by
  subst hm
  have hp : (2 : Nat) ^ n ≤ 2 ^ 62 := Nat.pow_le_pow_right (by omega) hn
  have hp1 : 0 < (2 : Nat) ^ n := Nat.pow_pos (by omega)
  have e : ((2 : Int) ^ n) = ((2 ^ n : Nat) : Int) := by simp
  have hd : (2 : Nat) ^ n ∣ 2 ^ 64 := Nat.pow_dvd_pow 2 (by omega)
  rw [(bits64 _ _).1]
  have h2 : (BitVec.ofInt 64 ((2 : Int) ^ n - 1)).toNat = 2 ^ n - 1 := by
    rw [BitVec.toNat_ofInt, e]
    have : (((2 ^ n : Nat) : Int) - 1) % (2 ^ 64 : Nat) = ((2 ^ n : Nat) : Int) - 1 := Int.emod_eq_of_lt (by omega) (by omega)
    rw [this]; omega
  have h3 : (BitVec.ofInt 64 t &&& BitVec.ofInt 64 ((2 : Int) ^ n - 1)).toNat = (t % 2 ^ n).toNat := by
    rw [BitVec.toNat_and, h2, Nat.and_two_pow_sub_one_eq_mod, BitVec.toNat_ofInt]
    have h4 : ((t % (2 ^ 64 : Nat)).toNat : Int) = t % (2 ^ 64 : Nat) := Int.toNat_of_nonneg (Int.emod_nonneg _ (by decide))
    have h5 : (((t % (2 ^ 64 : Nat)).toNat % 2 ^ n : Nat) : Int) = t % 2 ^ n := by
      rw [Int.natCast_emod, h4, e, Int.emod_emod_of_dvd _ (Int.natCast_dvd_natCast.2 hd)]
    omega
  have h6 : (t % 2 ^ n) < 2 ^ n := Int.emod_lt_of_pos _ (by rw [e]; omega)
  have h7 : 0 ≤ (t % 2 ^ n) := Int.emod_nonneg _ (by rw [e]; omega)
  rw [toInt_small _ _ h3 (by rw [e] at h6; omega)]
  omega
theorem mask16 (t : Int) : bits .and .i64 t 65535 = t % 65536 := mask_i64 t 16 65535 rfl (by omega)
theorem mask15 (t : Int) : bits .and .i64 t 32767 = t % 32768 := mask_i64 t 15 32767 rfl (by omega)
theorem mask1 (t : Int) : bits .and .i64 t 1 = t % 2 := mask_i64 t 1 1 rfl (by omega)
def In64 (x : Int) : Prop := -9223372036854775808 ≤ x ∧ x < 9223372036854775808
theorem toInt_ofInt {x : Int} (h : In64 x) : (BitVec.ofInt 64 x).toInt = x := by
  rw [BitVec.toInt_ofInt]
  exact Int.bmod_eq_of_le (by have := h.1; omega) (by have := h.2; omega)
/-- The exchange, done. -/
theorem xor_yes (x y : Int) (hy : In64 y) : bits .xor .i64 x (bits .and .i64 (-1) (bits .xor .i64 x y)) = y := by
  rw [(bits64 _ _).2.1, (bits64 _ _).1, (bits64 x y).2.1, BitVec.ofInt_toInt, BitVec.ofInt_toInt]
  have h1 : BitVec.ofInt 64 (-1) = BitVec.allOnes 64 := by decide
  rw [h1, BitVec.allOnes_and, ← BitVec.xor_assoc, BitVec.xor_self, BitVec.zero_xor, toInt_ofInt hy]
theorem xor_yes' (x y : Int) (hx : In64 x) : bits .xor .i64 y (bits .and .i64 (-1) (bits .xor .i64 x y)) = x := by
  rw [(bits64 _ _).2.1, (bits64 _ _).1, (bits64 x y).2.1, BitVec.ofInt_toInt, BitVec.ofInt_toInt]
  have h1 : BitVec.ofInt 64 (-1) = BitVec.allOnes 64 := by decide
  rw [h1, BitVec.allOnes_and, BitVec.xor_comm (BitVec.ofInt 64 x), ← BitVec.xor_assoc, BitVec.xor_self, BitVec.zero_xor, toInt_ofInt hx]
/-- The exchange, not done. -/
theorem xor_no (x y z : Int) (hz : In64 z) : bits .xor .i64 z (bits .and .i64 0 (bits .xor .i64 x y)) = z := by
  rw [(bits64 _ _).2.1, (bits64 _ _).1, BitVec.ofInt_toInt]
  have h1 : BitVec.ofInt 64 0 = 0#64 := by decide
  rw [h1, BitVec.zero_and, BitVec.xor_zero, toInt_ofInt hz]
theorem or16 (a b : Int) (ha : 0 ≤ a ∧ a < 256) (hb : 0 ≤ b ∧ b < 256) : bits .or .i64 a (256 * b) = a + 256 * b := by
  obtain ⟨a, rfl⟩ := Int.eq_ofNat_of_zero_le ha.1
  obtain ⟨b, rfl⟩ := Int.eq_ofNat_of_zero_le hb.1
  rw [(bits64 _ _).2.2]
  have e : (256 * (b : Int)) = ((2 ^ 8 * b : Nat) : Int) := by omega
  have h3 : (BitVec.ofInt 64 (a : Int) ||| BitVec.ofInt 64 (256 * (b : Int))).toNat = 2 ^ 8 * b + a := by
    rw [BitVec.toNat_or, e, BitVec.ofInt_natCast, BitVec.ofInt_natCast, BitVec.toNat_ofNat, BitVec.toNat_ofNat, Nat.mod_eq_of_lt (by omega), Nat.mod_eq_of_lt (by omega), Nat.or_comm, ← Nat.two_pow_add_eq_or_of_lt (by omega)]
  rw [toInt_small _ _ h3 (by omega)]
  omega
end Go.Proofs.YtpiamcgienkhaaaDoor
