import Derived.Test.YthpibkpljakeeaaDoorDigMath
namespace Go.Proofs.YthpibkpljakeeaaDoor
def nl (l : List Nat) : List Int := l.map fun (v : Nat) => (v : Int)
@[simp] theorem nl_length (l : List Nat) : (nl l).length = l.length := by simp [nl]
theorem nl_at {l : List Nat} {i : Nat} (h : i < l.length) : (nl l)[i]? = some ((l.getD i 0 : Nat) : Int) := by simp [nl, h]
theorem nl_set (l : List Nat) (i v : Nat) : (nl l).set i (v : Int) = nl (l.set i v) := by simp [nl]
def ev : List Int → Int
 | [] => 0
 | a :: l => a + 65536 * ev l
theorem ev_nl (l : List Nat) : ev (nl l) = (dv l : Int) := by
 induction l with
 | nil => rfl
 | cons a l ih => simp only [nl, List.map_cons, ev, dv] at ih ⊢; rw [ih]; omega
theorem ev_set (l : List Int) : ∀ (p : Nat) (v v0 : Int), l[p]? = some v0 → ev (l.set p v) = ev l + (v - v0) * 65536 ^ p := by
 induction l with
 | nil => intro p v v0 h; simp at h
 | cons a l ih =>
   intro p v v0 h
   cases p with
   | zero => simp at h; subst h; simp [ev]; omega
   | succ p =>
     have h2 := ih p v v0 (by simpa using h)
     simp only [List.set_cons_succ, ev, h2, Int.pow_succ]
     rw [Int.mul_add]
     have e : (v - v0) * (65536 ^ p * 65536) = 65536 * ((v - v0) * 65536 ^ p) := by rw [← Int.mul_assoc, Int.mul_comm]
     rw [e]; omega
theorem ev_append (a b : List Int) : ev (a ++ b) = ev a + 65536 ^ a.length * ev b := by
 induction a with
 | nil => simp [ev]
 | cons x a ih =>
   simp only [List.cons_append, ev, ih, List.length_cons, Int.pow_succ]
   rw [Int.mul_add, ← Int.mul_assoc, Int.mul_comm 65536 (65536 ^ a.length)]
   omega
def cl (xs : List Int) : Nat → List Int × Int
 | 0 => (xs, 0)
 | i + 1 => ((cl xs i).1.set i (((cl xs i).1.getD i 0 + (cl xs i).2) % 65536), ((cl xs i).1.getD i 0 + (cl xs i).2) / 65536)
def lastOf (xs : List Int) : Int := (cl xs 15).1.getD 15 0 + (cl xs 15).2
def cyA (xs : List Int) : List Int := (cl xs 15).1.set 15 (lastOf xs % 32768)
def cy (xs : List Int) : List Int := (cyA xs).set 0 ((cyA xs).getD 0 0 + 19 * (lastOf xs / 32768))
theorem cl_length (xs : List Int) (i : Nat) : (cl xs i).1.length = xs.length := by
 induction i with
 | zero => rfl
 | succ i ih => simp [cl, ih]
theorem getD_some {l : List Int} {i : Nat} (h : i < l.length) : l[i]? = some (l.getD i 0) := by simp [h]
theorem cl_ev (xs : List Int) (i : Nat) (h : i ≤ xs.length) : ev (cl xs i).1 + 65536 ^ i * (cl xs i).2 = ev xs := by
 induction i with
 | zero => simp [cl]
 | succ i ih =>
   have h1 := ih (by omega)
   have hl : i < (cl xs i).1.length := by rw [cl_length]; omega
   simp only [cl]
   rw [ev_set _ _ _ _ (getD_some hl), ← h1]
   generalize (cl xs i).1.getD i 0 = x
   generalize (cl xs i).2 = o
   have e := Int.emod_add_mul_ediv (x + o) 65536
   generalize (x + o) % 65536 = m at *
   generalize (x + o) / 65536 = q at *
   rw [Int.pow_succ]
   have e2 : (m - x) = o - 65536 * q := by omega
   rw [e2, Int.sub_mul, Int.mul_assoc ((65536 : Int) ^ i), Int.mul_comm o, Int.mul_comm (65536 * q)]
   omega
theorem cl_above (xs : List Int) (i j : Nat) (h : i ≤ j) : (cl xs i).1[j]? = xs[j]? := by
 induction i with
 | zero => rfl
 | succ i ih =>
   simp only [cl]
   rw [List.getElem?_set_ne (by omega), ih (by omega)]
theorem cl_below (xs : List Int) (i j : Nat) (x : Int) (h : j < i) (hx : (cl xs i).1[j]? = some x) : 0 ≤ x ∧ x < 65536 := by
 induction i with
 | zero => omega
 | succ i ih =>
   simp only [cl] at hx
   by_cases e : i = j
   · subst e
     rw [List.getElem?_set] at hx
     simp only [if_true] at hx
     split at hx
     · injection hx with hx; omega
     · cases hx
   · rw [List.getElem?_set_ne e] at hx
     exact ih (by omega) hx
def Bd (b : Int) (xs : List Int) : Prop := ∀ x ∈ xs, -b ≤ x ∧ x ≤ b
theorem Bd.at_ {b : Int} {xs : List Int} (h : Bd b xs) {i : Nat} {x : Int} (hx : xs[i]? = some x) : -b ≤ x ∧ x ≤ b := h x (List.mem_of_getElem? hx)
theorem cl_small (xs : List Int) (h : Bd 1152921504606846976 xs) (i : Nat) (hi : i ≤ xs.length) : -17600000000000 ≤ (cl xs i).2 ∧ (cl xs i).2 ≤ 17600000000000 := by
 induction i with
 | zero => simp [cl]
 | succ i ih =>
   have h1 := ih (by omega)
   have hl : i < xs.length := by omega
   have hx := h.at_ (getD_some hl)
   have e : (cl xs i).1.getD i 0 = xs.getD i 0 := by simp only [List.getD, cl_above xs i i (Nat.le_refl _)]
   simp only [cl, e]
   omega
end Go.Proofs.YthpibkpljakeeaaDoor
