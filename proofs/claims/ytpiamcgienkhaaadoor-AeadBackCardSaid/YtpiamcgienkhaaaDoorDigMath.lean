/- Numbers of digits of 16 bits, the lowest first: products, row by row. -/
namespace Go.Proofs.YtpiamcgienkhaaaDoor

/-- The number that digits make. -/
def dv : List Nat → Nat
  | [] => 0
  | a :: l => a + 65536 * dv l
def Digs (l : List Nat) : Prop := ∀ v ∈ l, v < 65536
/-- One step of a row: what is carried, and the word at a place. -/
def stepD (xi yj pos : Nat) (st : List Nat × Nat) : List Nat × Nat :=
  (st.1.set pos ((xi * yj + st.2 + st.1.getD pos 0) % 65536), (xi * yj + st.2 + st.1.getD pos 0) / 65536)
def rowD (xi : Nat) (y : List Nat) (i : Nat) (z : List Nat) : Nat → List Nat × Nat
  | 0 => (z, 0)
  | j + 1 => stepD xi (y.getD j 0) (i + j) (rowD xi y i z j)
def colD (x y : List Nat) : Nat → List Nat
  | 0 => List.replicate (x.length + y.length) 0
  | i + 1 => (rowD (x.getD i 0) y i (colD x y i) y.length).1.set (i + y.length) ((rowD (x.getD i 0) y i (colD x y i) y.length).1.getD (i + y.length) 0 + (rowD (x.getD i 0) y i (colD x y i) y.length).2)
def digs (x y : List Nat) : List Nat := colD x y x.length

theorem dv_set (l : List Nat) : ∀ (p v v0 : Nat), l[p]? = some v0 → dv (l.set p v) + v0 * 65536 ^ p = dv l + v * 65536 ^ p := by
  induction l with
  | nil => intro p v v0 h; simp at h
  | cons a l ih =>
    intro p v v0 h
    cases p with
    | zero =>
      simp at h
      subst h
      simp [dv]; omega
    | succ p =>
      have h2 := ih p v v0 (by simpa using h)
      simp only [List.set_cons_succ, dv, Nat.pow_succ]
      have e : ∀ q : Nat, q * (65536 ^ p * 65536) = 65536 * (q * 65536 ^ p) := fun q => by
        rw [← Nat.mul_assoc, Nat.mul_comm]
      rw [e, e]
      omega
theorem dv_take_succ (l : List Nat) : ∀ (j v : Nat), l[j]? = some v → dv (l.take (j + 1)) = dv (l.take j) + v * 65536 ^ j := by
  induction l with
  | nil => intro j v h; simp at h
  | cons a l ih =>
    intro j v h
    cases j with
    | zero => simp at h; subst h; simp [dv]
    | succ j =>
      have h2 := ih j v (by simpa using h)
      simp only [List.take_succ_cons, dv, Nat.pow_succ] at h2 ⊢
      have e : v * (65536 ^ j * 65536) = 65536 * (v * 65536 ^ j) := by
        rw [← Nat.mul_assoc, Nat.mul_comm]
      rw [h2, e]
      omega
theorem dv_split (l : List Nat) : ∀ j, j ≤ l.length → dv l = dv (l.take j) + 65536 ^ j * dv (l.drop j) := by
  induction l with
  | nil => intro j h; simp at h; subst h; simp [dv]
  | cons a l ih =>
    intro j h
    cases j with
    | zero => simp [dv]
    | succ j =>
      have h2 := ih j (by simpa using h)
      simp only [List.take_succ_cons, List.drop_succ_cons, dv, Nat.pow_succ]
      have e : 65536 ^ j * 65536 * dv (l.drop j) = 65536 * (65536 ^ j * dv (l.drop j)) := by
        rw [Nat.mul_comm (65536 ^ j), Nat.mul_assoc]
      rw [e, h2]
      omega
theorem dv_lt (l : List Nat) (h : Digs l) : dv l < 65536 ^ l.length := by
  induction l with
  | nil => simp [dv]
  | cons a l ih =>
    have ha := h a (by simp)
    have h2 := ih (fun v hv => h v (by simp [hv]))
    simp only [dv, List.length_cons, Nat.pow_succ]
    have h3 : 65536 * (dv l + 1) ≤ 65536 * 65536 ^ l.length := Nat.mul_le_mul_left _ h2
    rw [Nat.mul_comm (65536 ^ l.length)]
    omega

theorem rowD_length (xi : Nat) (y : List Nat) (i : Nat) (z : List Nat) (j : Nat) : (rowD xi y i z j).1.length = z.length := by
  induction j with
  | zero => rfl
  | succ j ih => simp only [rowD, stepD, List.length_set, ih]
theorem mul_lt16 {a b : Nat} (ha : a < 65536) (hb : b < 65536) : a * b ≤ 65535 * 65535 := Nat.mul_le_mul (by omega) (by omega)
theorem getD_dig {l : List Nat} (h : Digs l) (i : Nat) : l.getD i 0 < 65536 := by
  rw [List.getD_eq_getElem?_getD]
  cases hx : l[i]? with
  | none => simp
  | some x => exact h x (List.mem_of_getElem? hx)
theorem set_digs {l : List Nat} (h : Digs l) (p v : Nat) (hv : v < 65536) : Digs (l.set p v) := fun x hx => by
  rcases List.mem_or_eq_of_mem_set hx with h1 | h1
  · exact h x h1
  · rw [h1]; exact hv
theorem step_digs {xi yj pos : Nat} {st : List Nat × Nat} (hx : xi < 65536) (hy : yj < 65536) (h1 : Digs st.1) (h2 : st.2 < 65536) :
    Digs (stepD xi yj pos st).1 ∧ (stepD xi yj pos st).2 < 65536 := by
  have hz := getD_dig h1 pos
  have hm := mul_lt16 hx hy
  refine ⟨set_digs h1 _ _ (Nat.mod_lt _ (by omega)), ?_⟩
  show (xi * yj + st.2 + st.1.getD pos 0) / 65536 < _
  generalize xi * yj = p at *
  generalize st.1.getD pos 0 = q at *
  omega
theorem rowD_digsL (xi : Nat) (y : List Nat) (i : Nat) (z : List Nat) (hx : xi < 65536) (hy : Digs y) (hz : Digs z) (j : Nat) : Digs (rowD xi y i z j).1 ∧ (rowD xi y i z j).2 < 65536 := by
  induction j with
  | zero => exact ⟨hz, by simp [rowD]⟩
  | succ j ih => exact step_digs hx (getD_dig hy j) ih.1 ih.2
theorem rowD_val (xi : Nat) (y : List Nat) (i : Nat) (z : List Nat) (j : Nat) (hj : i + j ≤ z.length) (hy : j ≤ y.length) :
    dv (rowD xi y i z j).1 + (rowD xi y i z j).2 * 65536 ^ (i + j) = dv z + xi * 65536 ^ i * dv (y.take j) := by
  induction j with
  | zero => simp [rowD, dv]
  | succ j ih =>
    have h1 := ih (by omega) (by omega)
    have hl := rowD_length xi y i z j
    have hp : (rowD xi y i z j).1[i + j]? = some ((rowD xi y i z j).1.getD (i + j) 0) := by
      rw [List.getD_eq_getElem?_getD, List.getElem?_eq_getElem (by omega)]; rfl
    have hyj : y[j]? = some (y.getD j 0) := by rw [List.getD_eq_getElem?_getD, List.getElem?_eq_getElem (by omega)]; rfl
    rw [dv_take_succ y j _ hyj]
    simp only [rowD, stepD]
    generalize rowD xi y i z j = st at *
    have hs := dv_set st.1 (i + j) ((xi * y.getD j 0 + st.2 + st.1.getD (i + j) 0) % 65536) _ hp
    generalize st.1.getD (i + j) 0 = q at *
    generalize y.getD j 0 = yj at *
    have hdm := Nat.div_add_mod (xi * yj + st.2 + q) 65536
    generalize (xi * yj + st.2 + q) % 65536 = r at *
    generalize (xi * yj + st.2 + q) / 65536 = c at *
    have e : i + (j + 1) = (i + j) + 1 := by omega
    rw [e, Nat.pow_succ, Nat.mul_add]
    have e2 : xi * 65536 ^ i * (yj * 65536 ^ j) = xi * yj * 65536 ^ (i + j) := by
      rw [Nat.pow_add]
      simp only [Nat.mul_assoc, Nat.mul_left_comm]
    rw [e2]
    generalize 65536 ^ (i + j) = P at *
    have e3 : c * (P * 65536) = 65536 * c * P := by
      simp only [Nat.mul_left_comm, Nat.mul_comm]
    have e4 : 65536 * c * P + r * P = xi * yj * P + st.2 * P + q * P := by
      rw [← Nat.add_mul, hdm, Nat.add_mul, Nat.add_mul]
    rw [e3]
    omega
theorem colD_length (x y : List Nat) (i : Nat) : (colD x y i).length = x.length + y.length := by
  induction i with
  | zero => simp [colD]
  | succ i ih => simp only [colD, List.length_set, rowD_length, ih]
theorem rowD_past (xi : Nat) (y : List Nat) (i : Nat) (z : List Nat) (j t : Nat) (ht : i + j ≤ t) : (rowD xi y i z j).1.getD t 0 = z.getD t 0 := by
  induction j with
  | zero => rfl
  | succ j ih =>
    simp only [rowD, stepD, List.getD_eq_getElem?_getD]
    rw [List.getElem?_set_ne (by omega), ← List.getD_eq_getElem?_getD, ih (by omega), List.getD_eq_getElem?_getD]
theorem colD_past (x y : List Nat) (i t : Nat) (ht : i + y.length ≤ t) : (colD x y i).getD t 0 = 0 := by
  induction i with
  | zero => simp only [colD, List.getD_eq_getElem?_getD, List.getElem?_replicate]; split <;> rfl
  | succ i ih =>
    simp only [colD]
    rw [List.getD_eq_getElem?_getD, List.getElem?_set_ne (by omega), ← List.getD_eq_getElem?_getD, rowD_past _ _ _ _ _ _ (by omega)]
    exact ih (by omega)
theorem colD_digs (x y : List Nat) (hx : Digs x) (hy : Digs y) (i : Nat) : Digs (colD x y i) := by
  induction i with
  | zero => intro v hv; simp [colD] at hv; omega
  | succ i ih =>
    have h := rowD_digsL (x.getD i 0) y i _ (getD_dig hx i) hy ih y.length
    refine set_digs h.1 _ _ ?_
    rw [rowD_past _ _ _ _ _ _ (Nat.le_refl _), colD_past _ _ _ _ (Nat.le_refl _), Nat.zero_add]
    exact h.2
theorem colD_dv (x y : List Nat) (i : Nat) (hi : i ≤ x.length) : dv (colD x y i) = dv (x.take i) * dv y := by
  induction i with
  | zero =>
    have : ∀ n, dv (List.replicate n 0) = 0 := fun n => by induction n with
      | zero => rfl
      | succ n ih => simp [List.replicate_succ, dv, ih]
    simp [colD, dv, this]
  | succ i ih =>
    have h1 := rowD_val (x.getD i 0) y i (colD x y i) y.length (by rw [colD_length]; omega) (Nat.le_refl _)
    rw [List.take_length, ih (by omega)] at h1
    have hxi : x[i]? = some (x.getD i 0) := by rw [List.getD_eq_getElem?_getD, List.getElem?_eq_getElem (by omega)]; rfl
    rw [dv_take_succ x i _ hxi, Nat.add_mul]
    simp only [colD]
    have hl := rowD_length (x.getD i 0) y i (colD x y i) y.length
    rw [colD_length] at hl
    generalize x.getD i 0 = xi at *
    generalize rowD xi y i (colD x y i) y.length = st at *
    have hp : st.1[i + y.length]? = some (st.1.getD (i + y.length) 0) := by rw [List.getD_eq_getElem?_getD, List.getElem?_eq_getElem (by omega)]; rfl
    have h2 := dv_set st.1 (i + y.length) (st.1.getD (i + y.length) 0 + st.2) _ hp
    rw [Nat.add_mul] at h2
    omega
theorem digs_length (x y : List Nat) : (digs x y).length = x.length + y.length := colD_length x y _
theorem digs_digs (x y : List Nat) (hx : Digs x) (hy : Digs y) : Digs (digs x y) := colD_digs x y hx hy _
theorem digs_dv (x y : List Nat) : dv (digs x y) = dv x * dv y := by
  unfold digs
  rw [colD_dv x y _ (Nat.le_refl _), List.take_length]
end Go.Proofs.YtpiamcgienkhaaaDoor
