/- The product of two elements, as the code makes it: digits, row by row, and the upper half taken down. -/
import Derived.Test.YtoncinbohfmciaaEl
namespace Go.Proofs.Ytoncinbohfmciaa

def rowA (x : Int) (ys : List Int) (i : Nat) (z : List Int) : Nat → List Int
  | 0 => z
  | j + 1 => (rowA x ys i z j).set (i + j) ((rowA x ys i z j).getD (i + j) 0 + x * ys.getD j 0)
def colA (xs ys : List Int) : Nat → List Int
  | 0 => zeros 32
  | i + 1 => rowA (xs.getD i 0) ys i (colA xs ys i) 16
def foldL (z : List Int) : List Int := (List.range 16).map fun i => z.getD i 0 + 38 * z.getD (i + 16) 0
def mulL (xs ys : List Int) : List Int := cy (cy (foldL (colA xs ys 16)))
theorem foldL_length (z : List Int) : (foldL z).length = 16 := by simp [foldL]
theorem foldL_at {z : List Int} {i : Nat} {x y : Int} (h : i < 16) (hx : z[i]? = some x) (hy : z[i + 16]? = some y) : (foldL z)[i]? = some (x + 38 * y) := by simp [foldL, h, List.getD, hx, hy]
theorem mulL_length (xs ys : List Int) : (mulL xs ys).length = 16 := by simp [mulL, cy_length, foldL_length]
theorem rowA_length (x : Int) (ys : List Int) (i : Nat) (z : List Int) (j : Nat) : (rowA x ys i z j).length = z.length := by
  induction j with
  | zero => rfl
  | succ j ih => simp [rowA, ih]
theorem colA_length (xs ys : List Int) (i : Nat) : (colA xs ys i).length = 32 := by
  induction i with
  | zero => simp [colA, zeros_len]
  | succ i ih => simp [colA, rowA_length, ih]
theorem rowA_past (x : Int) (ys : List Int) (i : Nat) (z : List Int) (j k : Nat) (h : i + j ≤ k) : (rowA x ys i z j)[k]? = z[k]? := by
  induction j with
  | zero => rfl
  | succ j ih => simp only [rowA]; rw [List.getElem?_set_ne (by omega), ih (by omega)]
theorem mul_bd {x y b : Int} (hx : -b ≤ x ∧ x ≤ b) (hy : -b ≤ y ∧ y ≤ b) : -(b * b) ≤ x * y ∧ x * y ≤ b * b := by
  have hb : 0 ≤ b := by omega
  have h := Int.natAbs_mul x y
  have h1 : x.natAbs ≤ b.natAbs := by omega
  have h2 : y.natAbs ≤ b.natAbs := by omega
  have h3 := Nat.mul_le_mul h1 h2
  have h4 : ((b.natAbs * b.natAbs : Nat) : Int) = b * b := by rw [Int.natCast_mul, Int.natAbs_of_nonneg hb]
  omega
theorem rowA_bd (x : Int) (ys : List Int) (i : Nat) (z : List Int) (B : Int) (hz : Bd B z) (hx : -70000 ≤ x ∧ x ≤ 70000) (hy : Bd 70000 ys) (hl : ys.length = 16) (j : Nat) (hj : j ≤ 16) : Bd (B + 4900000000) (rowA x ys i z j) := by
  induction j with
  | zero => exact fun v hv => by have := hz v hv; omega
  | succ j ih =>
    simp only [rowA]
    intro v hv
    rcases List.mem_or_eq_of_mem_set hv with h1 | h1
    · exact ih (by omega) v h1
    · have hyj := hy.at_ (getD_some (l := ys) (i := j) (by omega))
      have hp := mul_bd hx hyj
      by_cases hk : i + j < z.length
      · have h0 := hz.at_ (getD_some (l := z) (i := i + j) hk)
        have e : (rowA x ys i z j).getD (i + j) 0 = z.getD (i + j) 0 := by simp only [List.getD, rowA_past x ys i z j (i + j) (by omega)]
        rw [e] at h1
        omega
      · rw [List.set_eq_of_length_le (by rw [rowA_length]; omega)] at hv
        exact ih (by omega) v hv
theorem colA_bd (xs ys : List Int) (hx : Bd 70000 xs) (hy : Bd 70000 ys) (hl : xs.length = 16) (hl2 : ys.length = 16) (i : Nat) (hi : i ≤ 16) : Bd (4900000000 * i) (colA xs ys i) := by
  induction i with
  | zero => exact fun v hv => by have := List.eq_of_mem_replicate hv; omega
  | succ i ih =>
    have h := rowA_bd (xs.getD i 0) ys i (colA xs ys i) _ (ih (by omega)) (hx.at_ (getD_some (by omega))) hy hl2 16 (by omega)
    intro v hv
    have := h v hv
    omega
theorem foldL_bd (z : List Int) (hz : Bd 80000000000 z) (hl : z.length = 32) : Bd 4000000000000 (foldL z) := fun v hv => by
  obtain ⟨i, hi⟩ := List.getElem?_of_mem hv
  have h16 := (List.getElem?_eq_some_iff.1 hi).1
  rw [foldL_length] at h16
  have hx := getD_some (l := z) (i := i) (by omega)
  have hy := getD_some (l := z) (i := i + 16) (by omega)
  rw [foldL_at h16 hx hy] at hi
  injection hi with hi
  have h1 := hz.at_ hx
  have h2 := hz.at_ hy
  omega
/-- What the digits of a row make. -/
theorem rowA_ev (x : Int) (ys : List Int) (i : Nat) (z : List Int) (j : Nat) (hj : j ≤ ys.length) (hz : i + j ≤ z.length) : ev (rowA x ys i z j) = ev z + x * ev (ys.take j) * 65536 ^ i := by
  induction j with
  | zero => simp [rowA, ev]
  | succ j ih =>
    have h1 := ih (by omega) (by omega)
    simp only [rowA]
    rw [ev_set _ _ _ _ (getD_some (by rw [rowA_length]; omega)), h1]
    have e : ev (ys.take (j + 1)) = ev (ys.take j) + ys.getD j 0 * 65536 ^ j := by
      have hj2 := getD_some (l := ys) (i := j) (by omega)
      rw [List.take_add_one, hj2, ev_append]
      simp only [Option.toList_some, ev, List.length_take]
      rw [show min j ys.length = j by omega]
      simp only [Int.mul_zero, Int.add_zero]
      rw [Int.mul_comm (ys.getD j 0)]
    rw [e, Int.pow_add]
    have e2 : (rowA x ys i z j).getD (i + j) 0 + x * ys.getD j 0 - (rowA x ys i z j).getD (i + j) 0 = x * ys.getD j 0 := by omega
    rw [e2, Int.mul_add, Int.add_mul]
    have e3 : x * ys.getD j 0 * (65536 ^ i * 65536 ^ j) = x * (ys.getD j 0 * 65536 ^ j) * 65536 ^ i := by
      rw [← Int.mul_assoc x, Int.mul_assoc (x * ys.getD j 0), Int.mul_comm (65536 ^ i)]
    rw [e3]; omega
theorem take_ev (xs : List Int) (i : Nat) (h : i < xs.length) : ev (xs.take (i + 1)) = ev (xs.take i) + xs.getD i 0 * 65536 ^ i := by
  rw [List.take_add_one, getD_some h, ev_append]
  simp only [Option.toList_some, ev, List.length_take]
  rw [show min i xs.length = i by omega]
  simp only [Int.mul_zero, Int.add_zero]
  rw [Int.mul_comm (xs.getD i 0)]
theorem ev_zeros (n : Nat) : ev (zeros n) = 0 := by
  induction n with
  | zero => rfl
  | succ n ih => simp only [zeros, List.replicate_succ, ev] at ih ⊢; rw [ih]; rfl
theorem colA_ev (xs ys : List Int) (hl : xs.length = 16) (hl2 : ys.length = 16) (i : Nat) (hi : i ≤ 16) : ev (colA xs ys i) = ev (xs.take i) * ev ys := by
  induction i with
  | zero => simp [colA, ev_zeros, ev]
  | succ i ih =>
    have h1 := rowA_ev (xs.getD i 0) ys i (colA xs ys i) 16 (by omega) (by rw [colA_length]; omega)
    rw [List.take_of_length_le (i := 16) (l := ys) (by omega)] at h1
    refine Eq.trans (show ev (colA xs ys (i + 1)) = _ from h1) ?_
    rw [ih (by omega), take_ev xs i (by omega), Int.add_mul]
    rw [Int.mul_assoc (xs.getD i 0), Int.mul_assoc (xs.getD i 0), Int.mul_comm (ev ys)]
/-- Two rows of as many digits, added place by place. -/
theorem ev_zip (n : Nat) (c : Int) : ∀ (a b d : List Int), a.length = n → b.length = n → d.length = n → (∀ (i : Nat) (x y : Int), a[i]? = some x → b[i]? = some y → d[i]? = some (x + c * y)) → ev d = ev a + c * ev b := by
  induction n with
  | zero =>
    intro a b d h1 h2 h3 _
    obtain rfl := List.length_eq_zero_iff.1 h1
    obtain rfl := List.length_eq_zero_iff.1 h2
    obtain rfl := List.length_eq_zero_iff.1 h3
    simp [ev]
  | succ n ih =>
    intro a b d h1 h2 h3 h
    match a, b, d, h1, h2, h3 with
    | x :: a, y :: b, z :: d, h1, h2, h3 =>
      have h0 := h 0 x y rfl rfl
      simp at h0
      have hr := ih a b d (by simpa using h1) (by simpa using h2) (by simpa using h3) (fun i u v hu hv => by simpa using h (i + 1) u v (by simpa using hu) (by simpa using hv))
      simp only [ev, hr, h0, Int.mul_add]
      rw [← Int.mul_assoc, ← Int.mul_assoc, Int.mul_comm c 65536]
      omega
theorem foldL_ev (z : List Int) (hl : z.length = 32) : ev (foldL z) = ev (z.take 16) + 38 * ev (z.drop 16) :=
  ev_zip 16 38 _ _ _ (by simp; omega) (by simp; omega) (foldL_length z) (fun i x y hx hy => by
    have hi : i < 16 := by
      have := (List.getElem?_eq_some_iff.1 hx).1
      simp at this; omega
    refine foldL_at hi ?_ ?_
    · rw [List.getElem?_take, if_pos hi] at hx; exact hx
    · rw [List.getElem?_drop, Nat.add_comm] at hy; exact hy)
end Go.Proofs.Ytoncinbohfmciaa
