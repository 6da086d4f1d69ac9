/- Numbers of words of 64 bits, the lowest first: products, row by row. -/
namespace Go.Proofs.YtjgojbjehedpaaaDoor

/-- The number that words make. -/
def val : List Nat → Nat
  | [] => 0
  | a :: l => a + 18446744073709551616 * val l
def Words (l : List Nat) : Prop := ∀ v ∈ l, v < 18446744073709551616
/-- One step of a row: what is carried, and the word at a place. -/
def stepM (xi yj pos : Nat) (st : List Nat × Nat) : List Nat × Nat :=
  (st.1.set pos ((xi * yj + st.2 + st.1.getD pos 0) % 18446744073709551616), (xi * yj + st.2 + st.1.getD pos 0) / 18446744073709551616)
def rowN (xi : Nat) (y : List Nat) (i : Nat) (z : List Nat) : Nat → List Nat × Nat
  | 0 => (z, 0)
  | j + 1 => stepM xi (y.getD j 0) (i + j) (rowN xi y i z j)
def colN (x y : List Nat) : Nat → List Nat
  | 0 => [0, 0, 0, 0]
  | i + 1 => (rowN (x.getD i 0) y i (colN x y i) (4 - i)).1
def tms (x y : List Nat) : List Nat := colN x y 4

theorem val_set (l : List Nat) : ∀ (p v v0 : Nat), l[p]? = some v0 → val (l.set p v) + v0 * 18446744073709551616 ^ p = val l + v * 18446744073709551616 ^ p := by
  induction l with
  | nil => intro p v v0 h; simp at h
  | cons a l ih =>
    intro p v v0 h
    cases p with
    | zero =>
      simp at h
      subst h
      simp [val]; omega
    | succ p =>
      have h2 := ih p v v0 (by simpa using h)
      simp only [List.set_cons_succ, val, Nat.pow_succ]
      have e : ∀ q : Nat, q * (18446744073709551616 ^ p * 18446744073709551616) = 18446744073709551616 * (q * 18446744073709551616 ^ p) := fun q => by
        rw [← Nat.mul_assoc, Nat.mul_comm]
      rw [e, e]
      omega
theorem val_take_succ (l : List Nat) : ∀ (j v : Nat), l[j]? = some v → val (l.take (j + 1)) = val (l.take j) + v * 18446744073709551616 ^ j := by
  induction l with
  | nil => intro j v h; simp at h
  | cons a l ih =>
    intro j v h
    cases j with
    | zero => simp at h; subst h; simp [val]
    | succ j =>
      have h2 := ih j v (by simpa using h)
      simp only [List.take_succ_cons, val, Nat.pow_succ] at h2 ⊢
      have e : v * (18446744073709551616 ^ j * 18446744073709551616) = 18446744073709551616 * (v * 18446744073709551616 ^ j) := by
        rw [← Nat.mul_assoc, Nat.mul_comm]
      rw [h2, e]
      omega
theorem val_split (l : List Nat) : ∀ j, j ≤ l.length → val l = val (l.take j) + 18446744073709551616 ^ j * val (l.drop j) := by
  induction l with
  | nil => intro j h; simp at h; subst h; simp [val]
  | cons a l ih =>
    intro j h
    cases j with
    | zero => simp [val]
    | succ j =>
      have h2 := ih j (by simpa using h)
      simp only [List.take_succ_cons, List.drop_succ_cons, val, Nat.pow_succ]
      have e : 18446744073709551616 ^ j * 18446744073709551616 * val (l.drop j) = 18446744073709551616 * (18446744073709551616 ^ j * val (l.drop j)) := by
        rw [Nat.mul_comm (18446744073709551616 ^ j), Nat.mul_assoc]
      rw [e, h2]
      omega
theorem val_lt (l : List Nat) (h : Words l) : val l < 18446744073709551616 ^ l.length := by
  induction l with
  | nil => simp [val]
  | cons a l ih =>
    have ha := h a (by simp)
    have h2 := ih (fun v hv => h v (by simp [hv]))
    simp only [val, List.length_cons, Nat.pow_succ]
    have h3 : 18446744073709551616 * (val l + 1) ≤ 18446744073709551616 * 18446744073709551616 ^ l.length := Nat.mul_le_mul_left _ h2
    rw [Nat.mul_comm (18446744073709551616 ^ l.length)]
    omega

theorem rowN_length (xi : Nat) (y : List Nat) (i : Nat) (z : List Nat) (j : Nat) : (rowN xi y i z j).1.length = z.length := by
  induction j with
  | zero => rfl
  | succ j ih => simp only [rowN, stepM, List.length_set, ih]
theorem mul_lt64 {a b : Nat} (ha : a < 18446744073709551616) (hb : b < 18446744073709551616) : a * b ≤ 18446744073709551615 * 18446744073709551615 := Nat.mul_le_mul (by omega) (by omega)
theorem getD_lt {l : List Nat} (h : Words l) (i : Nat) : l.getD i 0 < 18446744073709551616 := by
  rw [List.getD_eq_getElem?_getD]
  cases hx : l[i]? with
  | none => simp
  | some x => exact h x (List.mem_of_getElem? hx)
theorem set_words {l : List Nat} (h : Words l) (p v : Nat) (hv : v < 18446744073709551616) : Words (l.set p v) := fun x hx => by
  rcases List.mem_or_eq_of_mem_set hx with h1 | h1
  · exact h x h1
  · rw [h1]; exact hv
theorem step_words {xi yj pos : Nat} {st : List Nat × Nat} (hx : xi < 18446744073709551616) (hy : yj < 18446744073709551616) (h1 : Words st.1) (h2 : st.2 < 18446744073709551616) :
    Words (stepM xi yj pos st).1 ∧ (stepM xi yj pos st).2 < 18446744073709551616 := by
  have hz := getD_lt h1 pos
  have hm := mul_lt64 hx hy
  refine ⟨set_words h1 _ _ (Nat.mod_lt _ (by omega)), ?_⟩
  show (xi * yj + st.2 + st.1.getD pos 0) / 18446744073709551616 < _
  generalize xi * yj = p at *
  generalize st.1.getD pos 0 = q at *
  omega
theorem rowN_words (xi : Nat) (y : List Nat) (i : Nat) (z : List Nat) (hx : xi < 18446744073709551616) (hy : Words y) (hz : Words z) (j : Nat) : Words (rowN xi y i z j).1 ∧ (rowN xi y i z j).2 < 18446744073709551616 := by
  induction j with
  | zero => exact ⟨hz, by simp [rowN]⟩
  | succ j ih => exact step_words hx (getD_lt hy j) ih.1 ih.2
theorem rowN_val (xi : Nat) (y : List Nat) (i : Nat) (z : List Nat) (j : Nat) (hj : i + j ≤ z.length) (hy : j ≤ y.length) :
    val (rowN xi y i z j).1 + (rowN xi y i z j).2 * 18446744073709551616 ^ (i + j) = val z + xi * 18446744073709551616 ^ i * val (y.take j) := by
  induction j with
  | zero => simp [rowN, val]
  | succ j ih =>
    have h1 := ih (by omega) (by omega)
    have hl := rowN_length xi y i z j
    have hp : (rowN xi y i z j).1[i + j]? = some ((rowN xi y i z j).1.getD (i + j) 0) := by
      rw [List.getD_eq_getElem?_getD, List.getElem?_eq_getElem (by omega)]; rfl
    have hyj : y[j]? = some (y.getD j 0) := by rw [List.getD_eq_getElem?_getD, List.getElem?_eq_getElem (by omega)]; rfl
    rw [val_take_succ y j _ hyj]
    simp only [rowN, stepM]
    generalize rowN xi y i z j = st at *
    have hs := val_set st.1 (i + j) ((xi * y.getD j 0 + st.2 + st.1.getD (i + j) 0) % 18446744073709551616) _ hp
    generalize st.1.getD (i + j) 0 = q at *
    generalize y.getD j 0 = yj at *
    have hdm := Nat.div_add_mod (xi * yj + st.2 + q) 18446744073709551616
    generalize (xi * yj + st.2 + q) % 18446744073709551616 = r at *
    generalize (xi * yj + st.2 + q) / 18446744073709551616 = c at *
    have e : i + (j + 1) = (i + j) + 1 := by omega
    rw [e, Nat.pow_succ, Nat.mul_add]
    have e2 : xi * 18446744073709551616 ^ i * (yj * 18446744073709551616 ^ j) = xi * yj * 18446744073709551616 ^ (i + j) := by
      rw [Nat.pow_add]
      simp only [Nat.mul_assoc, Nat.mul_left_comm]
    rw [e2]
    generalize 18446744073709551616 ^ (i + j) = P at *
    have e3 : c * (P * 18446744073709551616) = 18446744073709551616 * c * P := by
      simp only [Nat.mul_left_comm, Nat.mul_comm]
    have e4 : 18446744073709551616 * c * P + r * P = xi * yj * P + st.2 * P + q * P := by
      rw [← Nat.add_mul, hdm, Nat.add_mul, Nat.add_mul]
    rw [e3]
    omega
theorem colN_length (x y : List Nat) (i : Nat) : (colN x y i).length = 4 := by
  induction i with
  | zero => rfl
  | succ i ih => simp only [colN, rowN_length, ih]
theorem colN_words (x y : List Nat) (hx : Words x) (hy : Words y) (i : Nat) : Words (colN x y i) := by
  induction i with
  | zero => intro v hv; simp [colN] at hv; omega
  | succ i ih => exact (rowN_words _ y i _ (getD_lt hx i) hy ih _).1
theorem colN_val (x y : List Nat) (hx : x.length = 4) (hy : y.length = 4) (i : Nat) (hi : i ≤ 4) : ∃ k, val (colN x y i) + k * 18446744073709551616 ^ 4 = val (x.take i) * val y := by
  induction i with
  | zero => exact ⟨0, by simp [colN, val]⟩
  | succ i ih =>
    obtain ⟨k, hk⟩ := ih (by omega)
    have h1 := rowN_val (x.getD i 0) y i (colN x y i) (4 - i) (by rw [colN_length]; omega) (by omega)
    have hxi : x[i]? = some (x.getD i 0) := by rw [List.getD_eq_getElem?_getD, List.getElem?_eq_getElem (by omega)]; rfl
    have h2 := val_split y (4 - i) (by omega)
    rw [val_take_succ x i _ hxi, Nat.add_mul, ← hk]
    simp only [colN]
    have e : i + (4 - i) = 4 := by omega
    rw [e] at h1
    generalize x.getD i 0 = xi at *
    generalize rowN xi y i (colN x y i) (4 - i) = st at *
    refine ⟨st.2 + k + xi * val (y.drop (4 - i)), ?_⟩
    have e2 : xi * 18446744073709551616 ^ i * val y = xi * 18446744073709551616 ^ i * val (y.take (4 - i)) + xi * val (y.drop (4 - i)) * 18446744073709551616 ^ 4 := by
      rw [h2, Nat.mul_add]
      congr 1
      have e3 : 18446744073709551616 ^ 4 = 18446744073709551616 ^ i * 18446744073709551616 ^ (4 - i) := by rw [← Nat.pow_add, e]
      rw [e3]
      simp only [Nat.mul_assoc, Nat.mul_left_comm, Nat.mul_comm]
    rw [e2, Nat.add_mul, Nat.add_mul]
    generalize 18446744073709551616 ^ 4 = P at *
    omega
theorem tms_length (x y : List Nat) : (tms x y).length = 4 := colN_length x y 4
theorem tms_words (x y : List Nat) (hx : Words x) (hy : Words y) : Words (tms x y) := colN_words x y hx hy 4
theorem tms_val (x y : List Nat) (hx : x.length = 4) (hy : y.length = 4) (wx : Words x) (wy : Words y) : val (tms x y) = val x * val y % 18446744073709551616 ^ 4 := by
  obtain ⟨k, hk⟩ := colN_val x y hx hy 4 (Nat.le_refl _)
  rw [List.take_of_length_le (by omega)] at hk
  have hl := val_lt _ (tms_words x y wx wy)
  rw [tms_length] at hl
  rw [← hk, Nat.add_mul_mod_self_right]
  exact (Nat.mod_eq_of_lt hl).symm
end Go.Proofs.YtjgojbjehedpaaaDoor
