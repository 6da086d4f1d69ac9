/- Numbers of bytes; digits of eight bits that are carried, and what it does to the number that they make. No program is named. -/
import Derived.Test.YtpiamcgienkhaaaDoorArr
import Derived.Test.YtpiamcgienkhaaaDoorDigMath
namespace Go.Proofs.YtpiamcgienkhaaaDoor
open Go.RowKit

def nl (l : List Nat) : List Int := l.map fun (v : Nat) => (v : Int)
set_option maxRecDepth 50000 in
@[simp] theorem nl_length (l : List Nat) : (nl l).length = l.length := by simp [nl]
theorem nl_at {l : List Nat} {i : Nat} (h : i < l.length) : (nl l)[i]? = some ((l.getD i 0 : Nat) : Int) := by simp [nl, h]
set_option maxRecDepth 50000 in
theorem nl_set (l : List Nat) (i v : Nat) : (nl l).set i (v : Int) = nl (l.set i v) := by simp [nl]
set_option maxRecDepth 50000 in
theorem nl_append (a b : List Nat) : nl (a ++ b) = nl a ++ nl b := by simp [nl]
set_option maxRecDepth 50000 in
theorem nl_snoc (l : List Nat) (v : Nat) : nl l ++ [(v : Int)] = nl (l ++ [v]) := by simp [nl]
def zeros (n : Nat) : List Int := List.replicate n 0
set_option maxRecDepth 50000 in
theorem zeros_len (n : Nat) : (zeros n).length = n := by simp [zeros]
set_option maxRecDepth 50000 in
theorem getD_some {l : List Int} {i : Nat} (h : i < l.length) : l[i]? = some (l.getD i 0) := by simp [h]
def Byt (l : List Int) : Prop := ∀ x ∈ l, 0 ≤ x ∧ x < 256
set_option maxRecDepth 50000 in
theorem Byt.at_ {l : List Int} (h : Byt l) {i : Nat} {x : Int} (hx : l[i]? = some x) : 0 ≤ x ∧ x < 256 := h x (List.mem_of_getElem? hx)
set_option maxRecDepth 50000 in
theorem byt_of_wf {bs : List Int} (h : ∀ x ∈ bs, (Lit.int .u8 x).wf = true) : Byt bs := fun x hx => by
  have h1 := h x hx
  simp [Lit.wf, IntKind.min, IntKind.max, IntKind.bits, IntKind.signed] at h1
  omega
set_option maxRecDepth 50000 in
theorem Byt.app {a b : List Int} (h : Byt a) (k : Byt b) : Byt (a ++ b) := fun x hx => by
  rcases List.mem_append.1 hx with h1 | h1
  · exact h x h1
  · exact k x h1
set_option maxRecDepth 50000 in
theorem Byt.take {a : List Int} (h : Byt a) (n : Nat) : Byt (a.take n) := fun x hx => h x (List.mem_of_mem_take hx)
set_option maxRecDepth 50000 in
theorem Byt.drop {a : List Int} (h : Byt a) (n : Nat) : Byt (a.drop n) := fun x hx => h x (List.mem_of_mem_drop hx)
set_option maxRecDepth 50000 in
theorem byt_zeros (n : Nat) : Byt (zeros n) := fun x hx => by rw [List.eq_of_mem_replicate hx]; omega
/-- The number of digits, the lowest first. -/
def bv : List Int → Int
  | [] => 0
  | b :: l => b + 256 * bv l
set_option maxRecDepth 50000 in
theorem bv_bd : ∀ l : List Int, Byt l → 0 ≤ bv l ∧ bv l < 256 ^ l.length
  | [], _ => by simp [bv]
  | x :: l, h => by
    have h1 := bv_bd l (fun y hy => h y (by simp [hy]))
    have h2 := h x (by simp)
    simp only [bv, List.length_cons, Int.pow_succ]
    omega
set_option maxRecDepth 50000 in
theorem bv_at : ∀ (l : List Int) (j : Nat), Byt l → bv l / 256 ^ j % 256 = l.getD j 0
  | [], j, _ => by simp [bv]
  | x :: l, 0, h => by
    have h2 := h x (by simp)
    simp only [bv, Int.pow_zero, Int.ediv_one]
    simp; omega
  | x :: l, j + 1, h => by
    have h1 := bv_at l j (fun y hy => h y (by simp [hy]))
    have h2 := h x (by simp)
    have e : (x + 256 * bv l) / 256 ^ (j + 1) = bv l / 256 ^ j := by
      have e1 : (x + 256 * bv l) / 256 = bv l := by omega
      rw [Int.pow_succ, Int.mul_comm ((256 : Int) ^ j), ← Int.ediv_ediv_of_nonneg (by omega : (0 : Int) ≤ 256), e1]
    simp only [bv]
    rw [e, h1]
    simp
set_option maxRecDepth 50000 in
theorem bv_set (l : List Int) : ∀ (p : Nat) (v v0 : Int), l[p]? = some v0 → bv (l.set p v) = bv l + (v - v0) * 256 ^ p := by
  induction l with
  | nil => intro p v v0 h; simp at h
  | cons a l ih =>
    intro p v v0 h
    cases p with
    | zero => simp at h; subst h; simp [bv]; omega
    | succ p =>
      have h2 := ih p v v0 (by simpa using h)
      simp only [List.set_cons_succ, bv, h2, Int.pow_succ]
      rw [Int.mul_add]
      have e : (v - v0) * (256 ^ p * 256) = 256 * ((v - v0) * 256 ^ p) := by rw [← Int.mul_assoc, Int.mul_comm]
      rw [e]; omega
set_option maxRecDepth 50000 in
theorem bv_append (a b : List Int) : bv (a ++ b) = bv a + 256 ^ a.length * bv b := by
  induction a with
  | nil => simp [bv]
  | cons x a ih =>
    simp only [List.cons_append, bv, ih, List.length_cons, Int.pow_succ]
    rw [Int.mul_add, ← Int.mul_assoc, Int.mul_comm 256 (256 ^ a.length)]
    omega
set_option maxRecDepth 50000 in
theorem bv_zeros (n : Nat) : bv (zeros n) = 0 := by
  induction n with
  | zero => rfl
  | succ n ih => rw [zeros, List.replicate_succ, bv]; unfold zeros at ih; rw [ih]; rfl
/-- The same as a natural number. -/
def bn (l : List Int) : Nat := (bv l).toNat
set_option maxRecDepth 50000 in
theorem bn_int {l : List Int} (h : Byt l) : (bn l : Int) = bv l := Int.toNat_of_nonneg (bv_bd l h).1
set_option maxRecDepth 50000 in
theorem bn_lt {l : List Int} (h : Byt l) : bn l < 256 ^ l.length := by
  have h1 := (bv_bd l h).2
  rw [← bn_int h] at h1
  have e : ((256 ^ l.length : Nat) : Int) = (256 : Int) ^ l.length := by simp
  rw [← e] at h1
  exact Int.ofNat_lt.1 h1

/-- Carried from the digits below place i. -/
def cl (xs : List Int) : Nat → List Int × Int
  | 0 => (xs, 0)
  | i + 1 => ((cl xs i).1.set i (((cl xs i).1.getD i 0 + (cl xs i).2) % 256), ((cl xs i).1.getD i 0 + (cl xs i).2) / 256)
/-- Carried: the last digit with what comes from below, the digits behind. -/
def lastOf (xs : List Int) : Int := (cl xs 16).1.getD 16 0 + (cl xs 16).2
def cyA (xs : List Int) : List Int := (cl xs 16).1.set 16 (lastOf xs % 4)
def cy (xs : List Int) : List Int := (cyA xs).set 0 ((cyA xs).getD 0 0 + 5 * (lastOf xs / 4))

set_option maxRecDepth 50000 in
theorem cl_length (xs : List Int) (i : Nat) : (cl xs i).1.length = xs.length := by
  induction i with
  | zero => rfl
  | succ i ih => simp [cl, ih]
set_option maxRecDepth 50000 in
theorem cyA_length (xs : List Int) : (cyA xs).length = xs.length := by simp [cyA, cl_length]
set_option maxRecDepth 50000 in
theorem cy_length (xs : List Int) : (cy xs).length = xs.length := by simp [cy, cyA_length]
set_option maxRecDepth 50000 in
theorem cl_bv (xs : List Int) (i : Nat) (h : i ≤ xs.length) : bv (cl xs i).1 + 256 ^ i * (cl xs i).2 = bv xs := by
  induction i with
  | zero => simp [cl]
  | succ i ih =>
    have h1 := ih (by omega)
    have hl : i < (cl xs i).1.length := by rw [cl_length]; omega
    simp only [cl]
    rw [bv_set _ _ _ _ (getD_some hl), ← h1]
    generalize (cl xs i).1.getD i 0 = x
    generalize (cl xs i).2 = o
    have e := Int.emod_add_mul_ediv (x + o) 256
    generalize (x + o) % 256 = m at *
    generalize (x + o) / 256 = q at *
    rw [Int.pow_succ]
    have e2 : (m - x) = o - 256 * q := by omega
    rw [e2, Int.sub_mul, Int.mul_assoc ((256 : Int) ^ i), Int.mul_comm o, Int.mul_comm (256 * q)]
    omega
set_option maxRecDepth 50000 in
/-- The digits above i are as they were; below they are digits. -/
theorem cl_above (xs : List Int) (i j : Nat) (h : i ≤ j) : (cl xs i).1[j]? = xs[j]? := by
  induction i with
  | zero => rfl
  | succ i ih =>
    simp only [cl]
    rw [List.getElem?_set_ne (by omega), ih (by omega)]
set_option maxRecDepth 50000 in
theorem cl_below (xs : List Int) (i j : Nat) (x : Int) (h : j < i) (hx : (cl xs i).1[j]? = some x) : 0 ≤ x ∧ x < 256 := by
  induction i with
  | zero => omega
  | succ i ih =>
    simp only [cl] at hx
    by_cases e : i = j
    · subst e
      rw [List.getElem?_set] at hx
      simp only [if_true] at hx
      split at hx
      · injection hx with hx; omega
      · cases hx
    · rw [List.getElem?_set_ne e] at hx
      exact ih (by omega) hx
/-- What is carried stays small. -/
def Bd (b : Int) (xs : List Int) : Prop := ∀ x ∈ xs, -b ≤ x ∧ x ≤ b
set_option maxRecDepth 50000 in
theorem Bd.at_ {b : Int} {xs : List Int} (h : Bd b xs) {i : Nat} {x : Int} (hx : xs[i]? = some x) : -b ≤ x ∧ x ≤ b := h x (List.mem_of_getElem? hx)
set_option maxRecDepth 50000 in
theorem Bd.set {b : Int} {xs : List Int} (h : Bd b xs) (i : Nat) (x : Int) (hx : -b ≤ x ∧ x ≤ b) : Bd b (xs.set i x) := fun y hy => by
  rcases List.mem_or_eq_of_mem_set hy with h1 | h1
  · exact h y h1
  · rw [h1]; exact hx
set_option maxRecDepth 50000 in
theorem cl_small (xs : List Int) (h : Bd 1152921504606846976 xs) (i : Nat) (hi : i ≤ xs.length) : -4600000000000000 ≤ (cl xs i).2 ∧ (cl xs i).2 ≤ 4600000000000000 := by
  induction i with
  | zero => simp [cl]
  | succ i ih =>
    have h1 := ih (by omega)
    have hl : i < xs.length := by omega
    have hx := h.at_ (getD_some hl)
    have e : (cl xs i).1.getD i 0 = xs.getD i 0 := by simp only [List.getD, cl_above xs i i (Nat.le_refl _)]
    simp only [cl, e]
    omega

/-- Seventeen bytes of a number. -/
def pb (m : Nat) : List Int := (List.range 17).map fun i => ((m / 256 ^ i % 256 : Nat) : Int)
set_option maxRecDepth 50000 in
theorem pb_length (m : Nat) : (pb m).length = 17 := by simp [pb]
set_option maxRecDepth 50000 in
theorem pb_at (m : Nat) {i : Nat} (h : i < 17) : (pb m)[i]? = some ((m / 256 ^ i % 256 : Nat) : Int) := by simp [pb, h]
set_option maxRecDepth 50000 in
theorem pb_byt (m : Nat) : Byt (pb m) := fun x hx => by
  obtain ⟨i, hi⟩ := List.getElem?_of_mem hx
  have h := (List.getElem?_eq_some_iff.1 hi).1
  rw [pb_length] at h
  rw [pb_at m h] at hi
  injection hi with hi
  omega
set_option maxRecDepth 50000 in
/-- Bytes are those of their number. -/
theorem pb_of {l : List Int} (hl : l.length = 17) (hb : Byt l) : pb (bn l) = l := by
  apply List.ext_getElem?
  intro i
  by_cases hi : i < 17
  · rw [pb_at _ hi, getD_some (by omega), ← bv_at l i hb, ← bn_int hb]
    congr 1
  · rw [List.getElem?_eq_none (by rw [pb_length]; omega), List.getElem?_eq_none (by omega)]
set_option maxRecDepth 50000 in
theorem toNat_mod (a : Int) (n : Nat) (h : 0 ≤ a) : (a % (n : Int)).toNat = a.toNat % n := by
  obtain ⟨N, rfl⟩ := Int.eq_ofNat_of_zero_le h
  rw [← Int.natCast_emod]
  rfl
set_option maxRecDepth 50000 in
/-- The bytes of a number make it. -/
theorem range_bv (n : Nat) : ∀ m : Nat, bv ((List.range n).map fun i => ((m / 256 ^ i % 256 : Nat) : Int)) = ((m % 256 ^ n : Nat) : Int) := by
  induction n with
  | zero => intro m; simp [bv, Nat.mod_one]
  | succ n ih =>
    intro m
    rw [List.range_succ, List.map_append, bv_append, ih]
    simp only [List.map_cons, List.map_nil, bv, List.length_map, List.length_range, Int.mul_zero, Int.add_zero]
    rw [Nat.pow_succ, Nat.mod_mul, Int.natCast_add, Int.natCast_mul, Int.natCast_pow]
    rfl
set_option maxRecDepth 50000 in
theorem pb_bv {m : Nat} (h : m < 256 ^ 17) : bv (pb m) = m := by
  unfold pb
  rw [range_bv, Nat.mod_eq_of_lt h]
set_option maxRecDepth 50000 in
theorem pb_bn {m : Nat} (h : m < 256 ^ 17) : bn (pb m) = m := by
  unfold bn
  rw [pb_bv h]; rfl

/-- The prime. -/
def PN : Nat := 1361129467683753853853498429727072845819
set_option maxRecDepth 50000 in
theorem pn_pos : 0 < PN := by decide
set_option maxRecDepth 50000 in
theorem pn_lt {m : Nat} (h : m < PN) : m < 256 ^ 17 := by unfold PN at h; omega
set_option maxRecDepth 50000 in
theorem pmod_lt (m : Nat) : m % PN < 256 ^ 17 := pn_lt (Nat.mod_lt _ pn_pos)
set_option maxRecDepth 50000 in
theorem pmod_bn (m : Nat) : bn (pb (m % PN)) = m % PN := pb_bn (pmod_lt m)
def TT : Int := 1361129467683753853853498429727072845824
set_option maxRecDepth 50000 in
theorem tt16 : (256 : Int) ^ 16 * 4 = TT := by decide
set_option maxRecDepth 50000 in
theorem lastDig {xs : List Int} (hl : xs.length = 17) : ∀ (j : Nat) x, (cyA xs)[j]? = some x → 0 ≤ x ∧ x < 256 ∧ (j = 16 → x < 4) := fun j x hx => by
  unfold cyA at hx
  by_cases e : 16 = j
  · subst e
    rw [List.getElem?_set_self (by rw [cl_length]; omega)] at hx
    injection hx with hx; omega
  · rw [List.getElem?_set_ne e] at hx
    have hj := (List.getElem?_eq_some_iff.1 hx).1
    rw [cl_length] at hj
    have := cl_below xs 16 j x (by omega) hx
    omega
set_option maxRecDepth 50000 in
theorem cyA_byt {xs : List Int} (hl : xs.length = 17) : Byt (cyA xs) := fun x hx => by
  obtain ⟨j, hj⟩ := List.getElem?_of_mem hx
  have := lastDig hl j x hj
  omega
set_option maxRecDepth 50000 in
theorem cyA_bv {xs : List Int} (hl : xs.length = 17) : bv (cyA xs) = bv xs - TT * (lastOf xs / 4) := by
  have h1 := cl_bv xs 16 (by omega)
  have h2 : (cl xs 16).1[16]? = some ((cl xs 16).1.getD 16 0) := getD_some (by rw [cl_length]; omega)
  unfold cyA
  rw [bv_set _ _ _ _ h2, ← h1, ← tt16]
  unfold lastOf
  generalize (cl xs 16).1.getD 16 0 = x
  generalize (cl xs 16).2 = o
  generalize bv (cl xs 16).1 = b
  have e := Int.emod_add_mul_ediv (x + o) 4
  generalize (x + o) % 4 = m at *
  generalize (x + o) / 4 = q at *
  have e2 : m - x = o - 4 * q := by omega
  rw [e2, Int.sub_mul, Int.mul_comm o, Int.mul_comm (4 * q), Int.mul_assoc ((256 : Int) ^ 16)]
  omega
set_option maxRecDepth 50000 in
theorem cyA_lt {xs : List Int} (hl : xs.length = 17) : 0 ≤ bv (cyA xs) ∧ bv (cyA xs) < TT := by
  have hb := cyA_byt hl
  have hL : (cyA xs).length = 17 := by rw [cyA_length, hl]
  have h16 := lastDig hl 16 _ (getD_some (l := cyA xs) (i := 16) (by omega))
  have e : cyA xs = (cyA xs).take 16 ++ [(cyA xs).getD 16 0] := by
    have h0 : (cyA xs).drop 16 = [(cyA xs).getD 16 0] := by
      rw [List.drop_eq_getElem_cons (by omega), List.drop_of_length_le (by omega)]
      simp [List.getD, hL]
    conv => lhs; rw [← List.take_append_drop 16 (cyA xs), h0]
  have h1 := bv_bd _ (hb.take 16)
  have hl16 : ((cyA xs).take 16).length = 16 := by rw [List.length_take, hL]; rfl
  rw [hl16] at h1
  rw [e, bv_append, hl16]
  generalize (cyA xs).getD 16 0 = x at *
  generalize bv ((cyA xs).take 16) = t at *
  simp only [bv, Int.mul_zero, Int.add_zero]
  have e16 : (256 : Int) ^ 16 = 340282366920938463463374607431768211456 := by decide
  rw [e16] at *
  unfold TT
  omega
set_option maxRecDepth 50000 in
/-- Carried: the remainder's digits, and what is above it five times in the lowest one. -/
theorem cy_div {xs : List Int} (hl : xs.length = 17) : lastOf xs / 4 = bv xs / TT ∧ bv (cyA xs) = bv xs % TT := by
  have h1 := cyA_bv hl
  have h2 := cyA_lt hl
  generalize lastOf xs / 4 = q at *
  generalize bv (cyA xs) = r at *
  have hT : (0 : Int) < TT := by decide
  have e : bv xs = r + TT * q := by omega
  rw [e, Int.add_mul_ediv_left _ _ (by omega), Int.ediv_eq_zero_of_lt h2.1 h2.2, Int.add_mul_emod_self_left, Int.emod_eq_of_lt h2.1 h2.2]
  exact ⟨by omega, rfl⟩
set_option maxRecDepth 50000 in
theorem cy_bv {xs : List Int} (hl : xs.length = 17) : bv (cy xs) = bv xs % TT + 5 * (bv xs / TT) := by
  obtain ⟨h1, h2⟩ := cy_div hl
  unfold cy
  rw [bv_set _ _ _ _ (getD_some (by rw [cyA_length]; omega)), h2, h1, Int.pow_zero]
  omega
set_option maxRecDepth 50000 in
/-- Carried digits are small. -/
theorem cy_bd {xs : List Int} (hl : xs.length = 17) {q : Int} (h : -q ≤ bv xs / TT ∧ bv xs / TT ≤ q) : Bd (256 + 5 * q) (cy xs) := by
  obtain ⟨h1, h2⟩ := cy_div hl
  unfold cy
  rw [h1]
  have hb := cyA_byt hl
  refine Bd.set (fun y hy => ?_) 0 _ ?_
  · have := hb y hy; omega
  · have := hb.at_ (getD_some (l := cyA xs) (i := 0) (by rw [cyA_length]; omega))
    omega
set_option maxRecDepth 50000 in
theorem cy_small {xs : List Int} (hl : xs.length = 17) (h : 0 ≤ bv xs ∧ bv xs < TT) : cy xs = pb (bv xs).toNat := by
  obtain ⟨h1, h2⟩ := cy_div hl
  rw [Int.ediv_eq_zero_of_lt h.1 h.2] at h1
  rw [Int.emod_eq_of_lt h.1 h.2] at h2
  have e : cy xs = cyA xs := by
    unfold cy
    rw [h1]
    have hg := getD_some (l := cyA xs) (i := 0) (by rw [cyA_length]; omega)
    apply List.ext_getElem?
    intro i
    by_cases e : 0 = i
    · subst e
      rw [List.getElem?_set_self (by rw [cyA_length]; omega), hg]
      simp
    · rw [List.getElem?_set_ne e]
  rw [e, ← pb_of (l := cyA xs) (by rw [cyA_length, hl]) (cyA_byt hl)]
  unfold bn
  rw [h2]
/-- As number makes it. -/
def d1 (xs : List Int) : List Int := (cy xs).set 0 ((cy xs).getD 0 0 + 5)
def d2 (xs : List Int) : List Int := (cy (d1 xs)).set 0 ((cy (d1 xs)).getD 0 0 - 5)
set_option maxRecDepth 50000 in
theorem d1_length (xs : List Int) : (d1 xs).length = xs.length := by simp [d1, cy_length]
set_option maxRecDepth 50000 in
theorem d2_length (xs : List Int) : (d2 xs).length = xs.length := by simp [d2, cy_length, d1_length]
set_option maxRecDepth 50000 in
theorem bv_get0 {l : List Int} (h : 0 < l.length) (c : Int) : bv (l.set 0 (l.getD 0 0 + c)) = bv l + c := by
  rw [bv_set _ _ _ _ (getD_some h), Int.pow_zero]; omega
set_option maxRecDepth 50000 in
theorem num_all {xs : List Int} (hl : xs.length = 17) (h : 0 ≤ bv xs ∧ bv xs < 1461501637330902918203684832716283019655932542976) :
    Bd 100000000000 (cy xs) ∧ Bd 1000 (cy (d1 xs)) ∧ cy (d2 xs) = pb ((bv xs).toNat % PN) := by
  have hT : TT = 1361129467683753853853498429727072845824 := rfl
  have h1 := cy_bv hl
  have q0 : 0 ≤ bv xs / TT := Int.ediv_nonneg h.1 (by decide)
  have q1 : bv xs / TT ≤ 1073741825 := by rw [hT]; omega
  have c1 : (cy xs).length = 17 := by rw [cy_length, hl]
  have e1 : bv (d1 xs) = bv (cy xs) + 5 := bv_get0 (by omega) 5
  have dm := Int.emod_add_mul_ediv (bv xs) TT
  have rm := Int.emod_lt_of_pos (bv xs) (show (0 : Int) < TT by decide)
  have rn := Int.emod_nonneg (bv xs) (show TT ≠ 0 by decide)
  have l1 : (d1 xs).length = 17 := by rw [d1_length, hl]
  have h2 := cy_bv l1
  have c2 : (cy (d1 xs)).length = 17 := by rw [cy_length, l1]
  have e2 : bv (d2 xs) = bv (cy (d1 xs)) - 5 := by
    have := bv_get0 (l := cy (d1 xs)) (by omega) (-5)
    simpa [d2, Int.sub_eq_add_neg] using this
  have l2 : (d2 xs).length = 17 := by rw [d2_length, hl]
  have k1 : 0 ≤ bv (d1 xs) / TT ∧ bv (d1 xs) / TT ≤ 1 := by
    rw [e1, h1]
    rw [hT] at *
    omega
  have kk : bv (d2 xs) = bv xs % PN := by
    have hP : (PN : Int) = 1361129467683753853853498429727072845819 := rfl
    have hq : bv xs = bv xs % TT + PN * (bv xs / TT) + 5 * (bv xs / TT) := by
      rw [hT] at *; rw [hP]; omega
    have hm : bv xs % (PN : Int) = (bv xs % TT + 5 * (bv xs / TT)) % (PN : Int) := by
      conv => lhs; rw [hq]
      rw [show bv xs % TT + (PN : Int) * (bv xs / TT) + 5 * (bv xs / TT) = bv xs % TT + 5 * (bv xs / TT) + (PN : Int) * (bv xs / TT) by omega, Int.add_mul_emod_self_left]
    rw [hm, e2, h2, e1, h1]
    generalize bv xs / TT = q at *
    generalize bv xs % TT = r at *
    rw [hT] at *
    rw [hP]
    omega
  have hlt : 0 ≤ bv (d2 xs) ∧ bv (d2 xs) < TT := by
    rw [kk]
    have hP : (PN : Int) = 1361129467683753853853498429727072845819 := rfl
    rw [hT, hP]
    omega
  refine ⟨fun x hx => ?_, fun x hx => ?_, ?_⟩
  · have := cy_bd hl (q := 1073741825) ⟨by omega, q1⟩ x hx; omega
  · have := cy_bd l1 (q := 1) ⟨by omega, k1.2⟩ x hx; omega
  · rw [cy_small l2 hlt, kk, toNat_mod _ _ h.1]
end Go.Proofs.YtpiamcgienkhaaaDoor
