import Derived.Test.YthpibkpljakeeaaGreatDoorSWordM
namespace Go.Proofs.YthpibkpljakeeaaGreatDoor
open Go.RowKit
def bnn : List Nat → Nat
 | [] => 0
 | a :: l => a + 256 * bnn l
def Bys (l : List Nat) : Prop := ∀ v ∈ l, v < 256
theorem bys_at {l : List Nat} (h : Bys l) (i : Nat) : l.getD i 0 < 256 := by
 rw [List.getD_eq_getElem?_getD]
 cases hx : l[i]? with
 | none => simp
 | some x => exact h x (List.mem_of_getElem? hx)
theorem bys_set {l : List Nat} (h : Bys l) (p v : Nat) (hv : v < 256) : Bys (l.set p v) := fun x hx => by
 rcases List.mem_or_eq_of_mem_set hx with h1 | h1
 · exact h x h1
 · rw [h1]; exact hv
theorem bv_nl (l : List Nat) : bv (nl l) = (bnn l : Int) := by
 induction l with
 | nil => rfl
 | cons a l ih =>
   have e : nl (a :: l) = (a : Int) :: nl l := rfl
   rw [e, bv, ih, bnn]; omega
theorem bn_nl (l : List Nat) : bn (nl l) = bnn l := by
 unfold bn
 rw [bv_nl]; simp
theorem byt_nl {l : List Nat} (h : Bys l) : Byt (nl l) := fun x hx => by
 unfold nl at hx
 obtain ⟨v, hv, rfl⟩ := List.mem_map.1 hx
 have := h v hv
 omega
theorem nl_byt {l : List Int} (h : Byt l) : ∃ a : List Nat, nl a = l ∧ a.length = l.length ∧ Bys a := by
 refine ⟨l.map Int.toNat, ?_, by rw [List.length_map], fun v hv => ?_⟩
 · unfold nl
   rw [List.map_map]
   conv => rhs; rw [← List.map_id l]
   refine List.map_congr_left fun x hx => ?_
   have := h x hx
   simp; omega
 · obtain ⟨x, hx, rfl⟩ := List.mem_map.1 hv
   have := h x hx
   omega
theorem bnn_lt (l : List Nat) (h : Bys l) : bnn l < 256 ^ l.length := by
 induction l with
 | nil => simp [bnn]
 | cons a l ih =>
   have ha := h a (by simp)
   have h2 := ih (fun v hv => h v (by simp [hv]))
   simp only [bnn, List.length_cons, Nat.pow_succ]
   omega
theorem bnn_set (l : List Nat) : ∀ (p v v0 : Nat), l[p]? = some v0 → bnn (l.set p v) + v0 * 256 ^ p = bnn l + v * 256 ^ p := by
 induction l with
 | nil => intro p v v0 h; simp at h
 | cons a l ih =>
   intro p v v0 h
   cases p with
   | zero =>
     simp at h
     subst h
     simp [bnn]; omega
   | succ p =>
     have h2 := ih p v v0 (by simpa using h)
     simp only [List.set_cons_succ, bnn, Nat.pow_succ]
     have e : ∀ q : Nat, q * (256 ^ p * 256) = 256 * (q * 256 ^ p) := fun q => by
       rw [← Nat.mul_assoc, Nat.mul_comm]
     rw [e, e]
     omega
def sm (f : Nat → Nat) : Nat → Nat
 | 0 => 0
 | n + 1 => sm f n + f n * 256 ^ n
theorem sm_shift (f : Nat → Nat) (n : Nat) : sm f (n + 1) = f 0 + 256 * sm (fun t => f (t + 1)) n := by
 induction n with
 | zero => simp [sm]
 | succ n ih =>
   rw [sm, ih]
   simp only [sm, Nat.pow_succ, Nat.mul_add]
   have e : f (n + 1) * (256 ^ n * 256) = 256 * (f (n + 1) * 256 ^ n) := by rw [← Nat.mul_assoc, Nat.mul_comm]
   rw [e]; omega
theorem sm_add (f g : Nat → Nat) (n : Nat) : sm (fun t => f t + g t) n = sm f n + sm g n := by
 induction n with
 | zero => rfl
 | succ n ih => simp only [sm, ih, Nat.add_mul]; omega
theorem sm_mul (x : Nat) (f : Nat → Nat) (n : Nat) : sm (fun t => x * f t) n = x * sm f n := by
 induction n with
 | zero => rfl
 | succ n ih => simp only [sm, ih, Nat.mul_add, Nat.mul_assoc]
theorem sm_congr {f g : Nat → Nat} (h : ∀ t, f t = g t) (n : Nat) : sm f n = sm g n := by
 induction n with
 | zero => rfl
 | succ n ih => rw [sm, sm, ih, h]
theorem sm_list : ∀ (l : List Nat) (n : Nat), l.length ≤ n → sm (fun t => l.getD t 0) n = bnn l
 | [], n, _ => by
   have : ∀ n, sm (fun t => ([] : List Nat).getD t 0) n = 0 := fun n => by
     induction n with
     | zero => rfl
     | succ n ih => simp only [sm, ih]; simp
   rw [this]; rfl
 | a :: l, 0, h => by simp at h
 | a :: l, n + 1, h => by
   rw [sm_shift]
   have := sm_list l n (by simpa using h)
   simp only [List.getD_cons_succ, List.getD_cons_zero, this, bnn]
def cvl : List Nat → List Nat → Nat → Nat
 | [], _, _ => 0
 | x :: _, b, 0 => x * b.getD 0 0
 | x :: a, b, t + 1 => x * b.getD (t + 1) 0 + cvl a b t
theorem cvl_cons (x : Nat) (a b : List Nat) (t : Nat) : cvl (x :: a) b t = x * b.getD t 0 + (match t with | 0 => 0 | t + 1 => cvl a b t) := by
 cases t <;> rfl
theorem cvl_sum (b : List Nat) : ∀ (a : List Nat) (n : Nat), a.length + b.length ≤ n → sm (cvl a b) n = bnn a * bnn b
 | [], n, _ => by
   have : ∀ n, sm (cvl [] b) n = 0 := fun n => by
     induction n with
     | zero => rfl
     | succ n ih => rw [sm, ih]; simp [cvl]
   rw [this]; simp [bnn]
 | x :: a, 0, h => by simp at h
 | x :: a, n + 1, h => by
   have h1 := cvl_sum b a n (by simp at h; omega)
   have h2 := sm_list b (n + 1) (by simp at h; omega)
   rw [sm_congr (cvl_cons x a b), sm_add, sm_mul, h2, sm_shift]
   simp only [h1, bnn, Nat.zero_add, Nat.add_mul, Nat.mul_assoc]
def ps (a b : List Nat) (t : Nat) : Nat → Nat
 | 0 => 0
 | j + 1 => ps a b t j + a.getD j 0 * b.getD (t - j) 0
theorem ps_cons (x : Nat) (a b : List Nat) (t : Nat) : ∀ j, ps (x :: a) b (t + 1) (j + 1) = x * b.getD (t + 1) 0 + ps a b t j
 | 0 => by simp [ps]
 | j + 1 => by
   have := ps_cons x a b t j
   rw [ps, this, ps]
   simp only [List.getD_cons_succ, show t + 1 - (j + 1) = t - j by omega]
   omega
theorem ps_nil (b : List Nat) (t : Nat) : ∀ j, ps [] b t j = 0
 | 0 => rfl
 | j + 1 => by rw [ps, ps_nil b t j]; simp
theorem ps_all : ∀ (a b : List Nat) (t : Nat), ps a b t (t + 1) = cvl a b t
 | [], b, t => by rw [ps_nil]; cases t <;> rfl
 | x :: a, b, 0 => by simp [ps, cvl]
 | x :: a, b, t + 1 => by rw [ps_cons, ps_all a b t]; rfl
theorem ps_low (a b : List Nat) (hb : b.length = 32) (t : Nat) : ∀ j, j + 31 ≤ t → ps a b t j = 0
 | 0, _ => rfl
 | j + 1, h => by
   rw [ps, ps_low a b hb t j (by omega)]
   have : b.getD (t - j) 0 = 0 := by rw [List.getD_eq_getElem?_getD, List.getElem?_eq_none (by omega)]; rfl
   rw [this]; simp
theorem ps_high (a b : List Nat) (ha : a.length = 32) (t : Nat) : ∀ d, ps a b t (32 + d) = ps a b t 32
 | 0 => rfl
 | d + 1 => by
   have e : 32 + (d + 1) = (32 + d) + 1 := by omega
   rw [e, ps, ps_high a b ha t d]
   have : a.getD (32 + d) 0 = 0 := by rw [List.getD_eq_getElem?_getD, List.getElem?_eq_none (by omega)]; rfl
   rw [this]; simp
theorem ps_end (a b : List Nat) (ha : a.length = 32) (t j : Nat) (hj : j ≤ 32) (ht : j ≤ t + 1) (h : ¬ (j < 32 ∧ j ≤ t)) : ps a b t j = cvl a b t := by
 rw [← ps_all]
 by_cases h2 : j = t + 1
 · rw [h2]
 · have : j = 32 := by omega
   subst this
   have := ps_high a b ha t (t + 1 - 32)
   rw [show 32 + (t + 1 - 32) = t + 1 by omega] at this
   exact this.symm
theorem ps_bd (a b : List Nat) (ha : Bys a) (hb : Bys b) (t : Nat) : ∀ j, ps a b t j ≤ j * 65025
 | 0 => Nat.le_refl _
 | j + 1 => by
   have h1 := ps_bd a b ha hb t j
   have h2 := bys_at ha j
   have h3 := bys_at hb (t - j)
   have h4 : a.getD j 0 * b.getD (t - j) 0 ≤ 255 * 255 := Nat.mul_le_mul (by omega) (by omega)
   rw [ps]; omega
def LongI (a b c ns : List Nat) (o k : Nat) : Prop := ns.length = 64 ∧ Bys ns ∧ o ≤ 8200 ∧ bnn ns + o * 256 ^ k = sm (fun t => cvl a b t + c.getD t 0) k ∧ ∀ i, k ≤ i → i < 64 → ns[i]? = some 0
theorem bnn_zeros (n : Nat) : bnn (List.replicate n 0) = 0 := by
 induction n with
 | zero => rfl
 | succ n ih => rw [List.replicate_succ, bnn, ih]
theorem LongI.start (a b c : List Nat) : LongI a b c (List.replicate 64 0) 0 0 :=
 ⟨by simp, fun v hv => by have := List.eq_of_mem_replicate hv; omega, by omega, by rw [bnn_zeros]; rfl, fun i _ h => by rw [List.getElem?_replicate, if_pos h]⟩
theorem LongI.step {a b c ns : List Nat} {o k T : Nat} (h : LongI a b c ns o k) (hk : k < 64) (hT : T = o + c.getD k 0 + cvl a b k) (hb : T ≤ 2089300) : LongI a b c (ns.set k (T % 256)) (T / 256) (k + 1) := by
 obtain ⟨h1, h2, h3, h4, h5⟩ := h
 refine ⟨by simp [h1], bys_set h2 _ _ (Nat.mod_lt _ (by omega)), by omega, ?_, fun i hi h6 => ?_⟩
 · have h6 := bnn_set ns k (T % 256) _ (h5 k (Nat.le_refl _) hk)
   have h7 := Nat.div_add_mod T 256
   rw [sm]
   generalize T % 256 = r at *
   generalize T / 256 = q at *
   rw [Nat.pow_succ]
   generalize 256 ^ k = P at *
   have h8 : (256 * q + r) * P = (o + c.getD k 0 + cvl a b k) * P := by rw [h7, hT]
   have h9 : q * (P * 256) = 256 * q * P := by rw [Nat.mul_comm P, ← Nat.mul_assoc, Nat.mul_comm q]
   rw [Nat.add_mul, Nat.add_mul, Nat.add_mul] at h8
   rw [h9, Nat.add_mul]
   omega
 · rw [List.getElem?_set_ne (by omega)]; exact h5 i (by omega) h6
theorem LongI.end_ {a b c ns : List Nat} {o : Nat} (h : LongI a b c ns o 64) (ha : a.length = 32) (hb : b.length = 32) (hc : c.length = 32) (ya : Bys a) (yb : Bys b) (yc : Bys c) : bnn ns = bnn a * bnn b + bnn c := by
 obtain ⟨h1, h2, h3, h4, h5⟩ := h
 rw [sm_add, sm_list c 64 (by omega)] at h4
 have h6 := cvl_sum b a 64 (by omega)
 have h7 : sm (fun t => cvl a b t) 64 = bnn a * bnn b := h6
 rw [h7] at h4
 have la := bnn_lt a ya
 have lb := bnn_lt b yb
 have lc := bnn_lt c yc
 rw [ha] at la
 rw [hb] at lb
 rw [hc] at lc
 have h8 : bnn a * bnn b ≤ (256 ^ 32 - 1) * (256 ^ 32 - 1) := Nat.mul_le_mul (by omega) (by omega)
 have e : o = 0 := by
   generalize bnn a * bnn b = X at *
   simp only [Nat.reducePow, Nat.reduceSub, Nat.reduceMul] at *
   omega
 rw [e] at h4
 omega
end Go.Proofs.YthpibkpljakeeaaGreatDoor
