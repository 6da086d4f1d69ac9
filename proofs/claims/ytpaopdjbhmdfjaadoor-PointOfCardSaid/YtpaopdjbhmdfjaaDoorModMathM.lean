/- What is above bit 254 of a number of digits, and what is below. -/
import Derived.Test.YtpaopdjbhmdfjaaDoorRefBM
import Derived.Test.YtpaopdjbhmdfjaaDoorCert
namespace Go.Proofs.YtpaopdjbhmdfjaaDoor

/-- What is above the lowest fifteen bits, as digits. -/
def hiL : List Nat → List Nat
  | [] => []
  | a :: r => (a / 32768 + r.getD 0 0 % 32768 * 2) :: hiL r
theorem hiL_length : ∀ l : List Nat, (hiL l).length = l.length
  | [] => rfl
  | a :: r => by simp [hiL, hiL_length r]
theorem hiL_at : ∀ (l : List Nat) (i : Nat), i < l.length → (hiL l)[i]? = some (l.getD i 0 / 32768 + l.getD (i + 1) 0 % 32768 * 2)
  | [], i, h => by simp at h
  | a :: r, 0, _ => by simp [hiL]
  | a :: r, i + 1, h => by
    have := hiL_at r i (by simpa using h)
    simpa [hiL] using this
theorem hiL_digs : ∀ l : List Nat, Digs l → Digs (hiL l)
  | [], _ => fun v hv => by simp [hiL] at hv
  | a :: r, h => fun v hv => by
    have ha := h a (by simp)
    rcases List.mem_cons.1 hv with rfl | h2
    · omega
    · exact hiL_digs r (fun v hv => h v (by simp [hv])) v h2
theorem hiL_dv : ∀ l : List Nat, dv l = l.getD 0 0 % 32768 + 32768 * dv (hiL l)
  | [] => rfl
  | a :: r => by
    have := hiL_dv r
    simp only [dv, hiL, List.getD_cons_zero]
    omega
def lows (xs : List Nat) : List Nat := xs.take 15 ++ [xs.getD 15 0 % 32768]
def highs (xs : List Nat) : List Nat := hiL (xs.drop 15)
theorem lows_length {xs : List Nat} (h : 16 ≤ xs.length) : (lows xs).length = 16 := by simp [lows]; omega
theorem lows_digs {xs : List Nat} (h : Digs xs) : Digs (lows xs) := fun v hv => by
  rcases List.mem_append.1 hv with h1 | h1
  · exact h v (List.mem_of_mem_take h1)
  · simp at h1; omega
theorem highs_length (xs : List Nat) : (highs xs).length = xs.length - 15 := by simp [highs, hiL_length]
theorem highs_digs {xs : List Nat} (h : Digs xs) : Digs (highs xs) := hiL_digs _ (fun v hv => h v (List.mem_of_mem_drop hv))
theorem highs_at {xs : List Nat} {i : Nat} (h : 15 + i < xs.length) : (highs xs)[i]? = some (xs.getD (15 + i) 0 / 32768 + xs.getD (15 + i + 1) 0 % 32768 * 2) := by
  unfold highs
  rw [hiL_at _ _ (by simp; omega)]
  simp [List.getD_eq_getElem?_getD, List.getElem?_drop, Nat.add_assoc]
def Q255 : Nat := 57896044618658097711785492504343953926634992332820282019728792003956564819968
theorem split255 {xs : List Nat} (h : 16 ≤ xs.length) : dv xs = dv (lows xs) + Q255 * dv (highs xs) := by
  rw [dv_split xs 15 (by omega), hiL_dv (xs.drop 15)]
  unfold lows highs
  rw [dv_snoc, List.length_take, Nat.min_eq_left (by omega)]
  have e : (xs.drop 15).getD 0 0 = xs.getD 15 0 := by simp [List.getD_eq_getElem?_getD]
  have e15 : 65536 ^ 15 = 1766847064778384329583297500742918515827483896875618958121606201292619776 := by decide
  rw [e, e15]
  unfold Q255
  omega
theorem lows_lt {xs : List Nat} (h : Digs xs) (hl : 16 ≤ xs.length) : dv (lows xs) < Q255 := by
  unfold lows
  rw [dv_snoc, List.length_take, Nat.min_eq_left (by omega)]
  have t := dv_lt (xs.take 15) (fun v hv => h v (List.mem_of_mem_take hv))
  rw [List.length_take, Nat.min_eq_left (by omega)] at t
  have e15 : 65536 ^ 15 = 1766847064778384329583297500742918515827483896875618958121606201292619776 := by decide
  rw [e15] at *
  unfold Q255
  omega
theorem dv_zero_of {l : List Nat} (h : ∀ v ∈ l, v = 0) : dv l = 0 := by
  induction l with
  | nil => rfl
  | cons a l ih =>
    rw [dv, ih (fun v hv => h v (by simp [hv])), h a (by simp)]
theorem dv_pos_of {l : List Nat} {v : Nat} (h : v ∈ l) (hv : 0 < v) : 0 < dv l := by
  induction l with
  | nil => simp at h
  | cons a l ih =>
    rw [dv]
    rcases List.mem_cons.1 h with rfl | h2
    · omega
    · have := ih h2; omega
theorem dv_zeros (l : List Nat) (n : Nat) : dv (l ++ List.replicate n 0) = dv l := by
  induction n with
  | zero => simp
  | succ n ih => rw [List.replicate_succ', ← List.append_assoc, dv_snoc, ih]; omega
/-- Nineteen times what is above, added digit by digit. -/
def AddI (low hs zs : List Nat) (cy i : Nat) : Prop := zs.length = low.length ∧ Digs zs ∧ cy ≤ 20 ∧ dv zs + cy * 65536 ^ i = dv low + 19 * dv (hs.take i)
theorem AddI.step {low hs zs : List Nat} {cy i n : Nat} (h : AddI low hs zs cy i) (hh : Digs hs) (h1 : i < low.length) (hn : n = zs.getD i 0 + cy + (if i < hs.length then 19 * hs.getD i 0 else 0)) : AddI low hs (zs.set i (n % 65536)) (n / 65536) (i + 1) := by
  obtain ⟨a, b, c, e⟩ := h
  have hz := getD_dig b i
  have hp : zs[i]? = some (zs.getD i 0) := by rw [List.getD_eq_getElem?_getD, List.getElem?_eq_getElem (by omega)]; rfl
  have hx := getD_dig hh i
  refine ⟨by simp [a], set_digs b _ _ (Nat.mod_lt _ (by omega)), ?_, ?_⟩
  · split at hn <;> omega
  · have hs' : dv (hs.take (i + 1)) = dv (hs.take i) + (if i < hs.length then hs.getD i 0 else 0) * 65536 ^ i := by
      split
      · rename_i hi
        exact dv_take_succ hs i _ (by rw [List.getD_eq_getElem?_getD, List.getElem?_eq_getElem hi]; rfl)
      · rename_i hi
        rw [List.take_of_length_le (by omega), List.take_of_length_le (by omega)]; simp
    have h2 := dv_set zs i (n % 65536) _ hp
    have hdm := Nat.div_add_mod n 65536
    have hn2 : n = zs.getD i 0 + cy + 19 * (if i < hs.length then hs.getD i 0 else 0) := by rw [hn]; split <;> rfl
    rw [hs', Nat.pow_succ]
    generalize (if i < hs.length then hs.getD i 0 else 0) = y at *
    generalize zs.getD i 0 = x at *
    generalize n % 65536 = r at *
    generalize n / 65536 = q at *
    generalize 65536 ^ i = P at *
    have h3 : (65536 * q + r) * P = (x + cy + 19 * y) * P := by rw [hdm, hn2]
    have h4 : q * (P * 65536) = 65536 * q * P := by rw [Nat.mul_comm P, ← Nat.mul_assoc, Nat.mul_comm q]
    rw [Nat.add_mul, Nat.add_mul, Nat.add_mul, Nat.mul_assoc 19] at h3
    rw [h4, Nat.mul_add]
    omega
theorem AddI.end_ {low hs zs : List Nat} {cy : Nat} (h : AddI low hs zs cy low.length) (hl : hs.length ≤ low.length) : dv (zs ++ [cy]) = dv low + 19 * dv hs := by
  obtain ⟨a, b, c, e⟩ := h
  rw [List.take_of_length_le hl] at e
  rw [dv_snoc, a, e]
end Go.Proofs.YtpaopdjbhmdfjaaDoor
