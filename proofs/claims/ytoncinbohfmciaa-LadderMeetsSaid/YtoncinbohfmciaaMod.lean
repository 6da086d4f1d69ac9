/- Elements modulo the prime: sums, products, powers of what bytes say. -/
import Derived.Test.YtoncinbohfmciaaPow
namespace Go.Proofs.Ytoncinbohfmciaa

/-- The same modulo the prime. -/
def Eqv (a b : Int) : Prop := a % P = b % P
theorem Eqv.refl (a : Int) : Eqv a a := rfl
theorem Eqv.symm {a b : Int} (h : Eqv a b) : Eqv b a := Eq.symm h
theorem Eqv.trans {a b c : Int} (h : Eqv a b) (k : Eqv b c) : Eqv a c := Eq.trans h k
theorem Eqv.of {a b : Int} (h : a = b) : Eqv a b := by rw [h]; rfl
theorem Eqv.add {a b c d : Int} (h : Eqv a b) (k : Eqv c d) : Eqv (a + c) (b + d) := by
  unfold Eqv at *; rw [Int.add_emod, h, k, ← Int.add_emod]
theorem Eqv.sub {a b c d : Int} (h : Eqv a b) (k : Eqv c d) : Eqv (a - c) (b - d) := by
  unfold Eqv at *; rw [Int.sub_emod, h, k, ← Int.sub_emod]
theorem Eqv.mul {a b c d : Int} (h : Eqv a b) (k : Eqv c d) : Eqv (a * c) (b * d) := by
  unfold Eqv at *; rw [Int.mul_emod, h, k, ← Int.mul_emod]
theorem Eqv.pow {a b : Int} (h : Eqv a b) (n : Nat) : Eqv (a ^ n) (b ^ n) := by
  induction n with
  | zero => rw [Int.pow_zero, Int.pow_zero]; exact Eqv.refl _
  | succ n ih => rw [Int.pow_succ, Int.pow_succ]; exact ih.mul h
theorem add_eqv {xs ys : List Int} (hx : El xs) (hy : El ys) : Eqv (ev (cy (plus xs ys))) (ev xs + ev ys) := (addL_el hx hy).2
theorem sub_eqv {xs ys : List Int} (hx : El xs) (hy : El ys) : Eqv (ev (cy (minus xs ys))) (ev xs - ev ys) := (subL_el hx hy).2
theorem neg_eqv {xs : List Int} (hx : El xs) : Eqv (ev (cy (minus (zeros 16) xs))) (- ev xs) := (negL_el hx).2
theorem mul_eqv {xs ys : List Int} (hx : El xs) (hy : El ys) : Eqv (ev (mulL xs ys)) (ev xs * ev ys) := (mulL_el hx hy).2
theorem red_iff {xs ys : List Int} (hx : El xs) (hy : El ys) : red xs = red ys ↔ Eqv (ev xs) (ev ys) := red_eq hx hy

/-- The number of bytes, the lowest first. -/
def bv : List Int → Int
  | [] => 0
  | b :: l => b + 256 * bv l
theorem bv_bd : ∀ l : List Int, Byt l → 0 ≤ bv l ∧ bv l < 256 ^ l.length
  | [], _ => by simp [bv]
  | x :: l, h => by
    have h1 := bv_bd l (fun y hy => h y (by simp [hy]))
    have h2 := h x (by simp)
    simp only [bv, List.length_cons, Int.pow_succ]
    omega
theorem bv_at : ∀ (l : List Int) (j : Nat), Byt l → bv l / 256 ^ j % 256 = l.getD j 0
  | [], j, _ => by simp [bv]
  | x :: l, 0, h => by
    have h2 := h x (by simp)
    simp only [bv, Int.pow_zero, Int.ediv_one]
    simp; omega
  | x :: l, j + 1, h => by
    have h1 := bv_at l j (fun y hy => h y (by simp [hy]))
    have h2 := h x (by simp)
    have e : (x + 256 * bv l) / 256 ^ (j + 1) = bv l / 256 ^ j := by
      have e1 : (x + 256 * bv l) / 256 = bv l := by omega
      rw [Int.pow_succ, Int.mul_comm ((256 : Int) ^ j), ← Int.ediv_ediv_of_nonneg (by omega : (0 : Int) ≤ 256), e1]
    simp only [bv]
    rw [e, h1]
    simp
theorem mod_div_pow (n : Int) (r : Nat) (h : r < 8) : n % 256 / 2 ^ r % 2 = n / 2 ^ r % 2 := by
  have : r = 0 ∨ r = 1 ∨ r = 2 ∨ r = 3 ∨ r = 4 ∨ r = 5 ∨ r = 6 ∨ r = 7 := by omega
  rcases this with rfl | rfl | rfl | rfl | rfl | rfl | rfl | rfl <;> simp <;> omega
theorem pow256 (j : Nat) : (256 : Int) ^ j = 2 ^ (8 * j) := by rw [Int.pow_mul]; rfl
theorem bit_eq (bs : List Int) (hb : Byt bs) (i : Nat) : bitAt bs i = bv bs / 2 ^ i % 2 := by
  unfold bitAt
  rw [← bv_at bs (i / 8) hb, mod_div_pow _ _ (by omega), pow256, Int.ediv_ediv_of_nonneg (Int.le_of_lt (Int.pow_pos (by omega))), ← Int.pow_add]
  congr 3
  omega
/-- Powers, the highest bit first. -/
theorem powL_eqv {xs bs : List Int} (hx : El xs) (hb : Byt bs) (hl : bs.length = 32) (k : Nat) (hk : k ≤ 256) : Eqv (ev (powL xs bs k)) (ev xs ^ (bv bs / 2 ^ (256 - k)).toNat) := by
  have hbd := bv_bd bs hb
  rw [hl, pow256] at hbd
  induction k with
  | zero =>
    have e : bv bs / 2 ^ (256 - 0) = 0 := Int.ediv_eq_zero_of_lt hbd.1 hbd.2
    rw [e]
    show Eqv (ev (smallL 1)) _
    rw [small_ev 1 (by omega)]
    show Eqv 1 (ev xs ^ 0)
    rw [Int.pow_zero]
    exact Eqv.refl _
  | succ k ih =>
    have h1 := ih (by omega)
    have hE := powL_el (bs := bs) hx k
    have hbit := bit_eq bs hb (255 - k)
    have hN : bv bs / 2 ^ (256 - k) = bv bs / 2 ^ (255 - k) / 2 := by
      rw [Int.ediv_ediv_of_nonneg (Int.le_of_lt (Int.pow_pos (by omega))), ← Int.pow_succ]
      congr 2; omega
    have e255 : 256 - (k + 1) = 255 - k := by omega
    rw [e255]
    rw [hN] at h1
    have hn0 : 0 ≤ bv bs / 2 ^ (255 - k) := Int.ediv_nonneg hbd.1 (Int.le_of_lt (Int.pow_pos (by omega)))
    obtain ⟨N, hNe⟩ := Int.eq_ofNat_of_zero_le hn0
    rw [hNe] at h1 hbit ⊢
    have t1 : ((N : Int) / 2).toNat = N / 2 := by omega
    have t2 : ((N : Int)).toNat = N := by omega
    rw [t1] at h1
    rw [t2]
    simp only [powL]
    have hsq := (mul_eqv hE hE).trans (h1.mul h1)
    rw [← Int.pow_add] at hsq
    by_cases hb1 : bitAt bs (255 - k) = 1
    · rw [if_pos hb1]
      have := (mul_eqv (mulL_el hE hE).1 hx).trans (hsq.mul (Eqv.refl _))
      rw [← Int.pow_succ] at this
      have e : (N / 2 + N / 2).succ = N := by omega
      rw [e] at this
      exact this
    · rw [if_neg hb1]
      have e : N / 2 + N / 2 = N := by omega
      rw [e] at hsq
      exact hsq
theorem powL_num {xs bs : List Int} (hx : El xs) (hb : Byt bs) (hl : bs.length = 32) : Eqv (ev (powL xs bs 256)) (ev xs ^ (bv bs).toNat) := by
  have h := powL_eqv hx hb hl 256 (by omega)
  rw [Nat.sub_self, Int.pow_zero, Int.ediv_one] at h
  exact h
end Go.Proofs.Ytoncinbohfmciaa
