import Derived.Test.YthpibkpljakeeaaDoorSMathM
import Derived.Laws.BitsAllLaws
namespace Go.Proofs.YthpibkpljakeeaaDoor
open Go.RowKit
def wv : List Nat → Nat
 | [] => 0
 | a :: l => a + 18446744073709551616 * wv l
def Wds (l : List Nat) : Prop := ∀ v ∈ l, v < 18446744073709551616
theorem wv_set (l : List Nat) : ∀ (p v v0 : Nat), l[p]? = some v0 → wv (l.set p v) + v0 * 18446744073709551616 ^ p = wv l + v * 18446744073709551616 ^ p := by
 induction l with
 | nil => intro p v v0 h; simp at h
 | cons a l ih =>
   intro p v v0 h
   cases p with
   | zero =>
     simp at h
     subst h
     simp [wv]; omega
   | succ p =>
     have h2 := ih p v v0 (by simpa using h)
     simp only [List.set_cons_succ, wv, Nat.pow_succ]
     have e : ∀ q : Nat, q * (18446744073709551616 ^ p * 18446744073709551616) = 18446744073709551616 * (q * 18446744073709551616 ^ p) := fun q => by
       rw [← Nat.mul_assoc, Nat.mul_comm]
     rw [e, e]
     omega
theorem wv_take_succ (l : List Nat) : ∀ (j v : Nat), l[j]? = some v → wv (l.take (j + 1)) = wv (l.take j) + v * 18446744073709551616 ^ j := by
 induction l with
 | nil => intro j v h; simp at h
 | cons a l ih =>
   intro j v h
   cases j with
   | zero => simp at h; subst h; simp [wv]
   | succ j =>
     have h2 := ih j v (by simpa using h)
     simp only [List.take_succ_cons, wv, Nat.pow_succ] at h2 ⊢
     have e : v * (18446744073709551616 ^ j * 18446744073709551616) = 18446744073709551616 * (v * 18446744073709551616 ^ j) := by
       rw [← Nat.mul_assoc, Nat.mul_comm]
     rw [h2, e]
     omega
theorem wv_lt (l : List Nat) (h : Wds l) : wv l < 18446744073709551616 ^ l.length := by
 induction l with
 | nil => simp [wv]
 | cons a l ih =>
   have ha := h a (by simp)
   have h2 := ih (fun v hv => h v (by simp [hv]))
   simp only [wv, List.length_cons, Nat.pow_succ]
   have h3 : 18446744073709551616 * (wv l + 1) ≤ 18446744073709551616 * 18446744073709551616 ^ l.length := Nat.mul_le_mul_left _ h2
   rw [Nat.mul_comm (18446744073709551616 ^ l.length)]
   omega
theorem wds_at {l : List Nat} (h : Wds l) (i : Nat) : l.getD i 0 < 18446744073709551616 := by
 rw [List.getD_eq_getElem?_getD]
 cases hx : l[i]? with
 | none => simp
 | some x => exact h x (List.mem_of_getElem? hx)
theorem wds_set {l : List Nat} (h : Wds l) (p v : Nat) (hv : v < 18446744073709551616) : Wds (l.set p v) := fun x hx => by
 rcases List.mem_or_eq_of_mem_set hx with h1 | h1
 · exact h x h1
 · rw [h1]; exact hv
theorem getD_of {l : List Nat} {i : Nat} (h : i < l.length) : l[i]? = some (l.getD i 0) := by rw [List.getD_eq_getElem?_getD, List.getElem?_eq_getElem h]; rfl
def ShI (ns : List Nat) (b0 : Nat) (zs : List Nat) (b k : Nat) : Prop := zs.length = ns.length ∧ Wds zs ∧ b ≤ 1 ∧ wv zs + b * 18446744073709551616 ^ k = wv ns + wv (ns.take k) + b0 ∧ ∀ i, k ≤ i → zs[i]? = ns[i]?
theorem ShI.at_ {ns zs : List Nat} {b0 b k : Nat} (h : ShI ns b0 zs b k) (hk : k < ns.length) : zs[k]? = some (ns.getD k 0) := by
 rw [h.2.2.2.2 k (Nat.le_refl _), getD_of hk]
theorem sh_sum (x b : Nat) (hx : x < 18446744073709551616) (hb : b ≤ 1) : 2 * x % 18446744073709551616 + b < 18446744073709551616 ∧ x / 9223372036854775808 ≤ 1 ∧ 2 * x % 18446744073709551616 + b + 18446744073709551616 * (x / 9223372036854775808) = 2 * x + b := by
 refine ⟨by omega, by omega, by omega⟩
theorem ShI.step {ns zs : List Nat} {b0 b k x : Nat} (h : ShI ns b0 zs b k) (hk : k < ns.length) (hx : x = ns.getD k 0) (hl : x < 18446744073709551616) : ShI ns b0 (zs.set k (2 * x % 18446744073709551616 + b)) (x / 9223372036854775808) (k + 1) := by
 have hz := h.at_ hk
 obtain ⟨a, w, c, e, r⟩ := h
 obtain ⟨s1, s2, s3⟩ := sh_sum x b hl c
 refine ⟨by simp [a], wds_set w _ _ s1, s2, ?_, fun i hi => ?_⟩
 · have h1 := wv_set zs k (2 * x % 18446744073709551616 + b) _ hz
   have h2 := wv_take_succ ns k _ (getD_of hk)
   rw [← hx] at h1 h2
   rw [h2, Nat.pow_succ]
   generalize 2 * x % 18446744073709551616 + b = r at *
   generalize x / 9223372036854775808 = q at *
   generalize 18446744073709551616 ^ k = P at *
   have h3 : (r + 18446744073709551616 * q) * P = (2 * x + b) * P := by rw [s3]
   have h4 : q * (P * 18446744073709551616) = 18446744073709551616 * q * P := by rw [Nat.mul_comm P, ← Nat.mul_assoc, Nat.mul_comm q]
   rw [Nat.add_mul, Nat.add_mul, Nat.mul_assoc 2] at h3
   rw [h4]
   omega
 · rw [List.getElem?_set_ne (by omega)]; exact r i (by omega)
def W4 (l : List Nat) (m : Nat) : Prop := l.length = 4 ∧ Wds l ∧ wv l = m
theorem p4 : 18446744073709551616 ^ 4 = 115792089237316195423570985008687907853269984665640564039457584007913129639936 := by decide
theorem ShI.end_ {ns zs : List Nat} {b0 b m : Nat} (h : ShI ns b0 zs b 4) (hn : W4 ns m) (hm : m < QN) (hb : b0 ≤ 1) : W4 zs (2 * m + b0) := by
 obtain ⟨a, w, c, e, _⟩ := h
 rw [List.take_of_length_le (by rw [hn.1]; omega), hn.2.2] at e
 refine ⟨by rw [a, hn.1], w, ?_⟩
 unfold QN at hm
 rw [p4] at e
 have hb2 : b = 0 ∨ b = 1 := by omega
 rcases hb2 with rfl | rfl <;> omega
def SbI (ns qs ys : List Nat) (bo k : Nat) : Prop := ys.length = 4 ∧ Wds ys ∧ bo ≤ 1 ∧ wv ys + wv (qs.take k) = wv (ns.take k) + bo * 18446744073709551616 ^ k ∧ ∀ i, k ≤ i → i < 4 → ys[i]? = some 0
theorem sb_sum (x y bo : Nat) (hx : x < 18446744073709551616) (hy : y < 18446744073709551616) (hb : bo ≤ 1) : (x + 18446744073709551616 - y - bo) % 18446744073709551616 < 18446744073709551616 ∧ (if x < y + bo then 1 else 0) ≤ 1 ∧ (x + 18446744073709551616 - y - bo) % 18446744073709551616 + y + bo = x + 18446744073709551616 * (if x < y + bo then 1 else 0) := by
 refine ⟨Nat.mod_lt _ (by omega), ?_, ?_⟩
 · split <;> omega
 · split <;> omega
theorem SbI.step {ns qs ys : List Nat} {bo k x y : Nat} (h : SbI ns qs ys bo k) (hk : k < 4) (hn : ns.length = 4) (hq : qs.length = 4) (hx : x = ns.getD k 0) (hy : y = qs.getD k 0) (xl : x < 18446744073709551616) (yl : y < 18446744073709551616) :
   SbI ns qs (ys.set k ((x + 18446744073709551616 - y - bo) % 18446744073709551616)) (if x < y + bo then 1 else 0) (k + 1) := by
 obtain ⟨a, w, c, e, r⟩ := h
 obtain ⟨s1, s2, s3⟩ := sb_sum x y bo xl yl c
 refine ⟨by simp [a], wds_set w _ _ s1, s2, ?_, fun i hi h4 => ?_⟩
 · have h1 := wv_set ys k ((x + 18446744073709551616 - y - bo) % 18446744073709551616) _ (r k (Nat.le_refl _) hk)
   have h2 := wv_take_succ ns k _ (getD_of (by omega))
   have h3 := wv_take_succ qs k _ (getD_of (by omega))
   rw [← hx] at h2
   rw [← hy] at h3
   rw [h2, h3, Nat.pow_succ]
   generalize (x + 18446744073709551616 - y - bo) % 18446744073709551616 = d at *
   generalize (if x < y + bo then 1 else 0) = q at *
   generalize 18446744073709551616 ^ k = P at *
   have h5 : (d + y + bo) * P = (x + 18446744073709551616 * q) * P := by rw [s3]
   have h4 : q * (P * 18446744073709551616) = 18446744073709551616 * q * P := by rw [Nat.mul_comm P, ← Nat.mul_assoc, Nat.mul_comm q]
   rw [Nat.add_mul, Nat.add_mul, Nat.add_mul] at h5
   rw [h4]
   omega
 · rw [List.getElem?_set_ne (by omega)]; exact r i (by omega) h4
theorem SbI.end_ {ns qs ys : List Nat} {bo m q : Nat} (h : SbI ns qs ys bo 4) (hn : W4 ns m) (hq : W4 qs q) : (bo = 1 ∧ m < q) ∨ (bo = 0 ∧ q ≤ m ∧ W4 ys (m - q)) := by
 obtain ⟨a, w, c, e, _⟩ := h
 rw [List.take_of_length_le (l := qs) (by rw [hq.1]; omega), List.take_of_length_le (l := ns) (by rw [hn.1]; omega), hn.2.2, hq.2.2] at e
 have hl := wv_lt ys w
 rw [a] at hl
 have hb2 : bo = 0 ∨ bo = 1 := by omega
 rcases hb2 with rfl | rfl
 · right
   exact ⟨rfl, by omega, a, w, by omega⟩
 · left
   exact ⟨rfl, by omega⟩
def wdN (m : Nat) : Nat → List Nat
 | 0 => []
 | k + 1 => m % 18446744073709551616 :: wdN (m / 18446744073709551616) k
theorem wdN_spec (k : Nat) : ∀ m, m < 18446744073709551616 ^ k → (wdN m k).length = k ∧ Wds (wdN m k) ∧ wv (wdN m k) = m := by
 induction k with
 | zero => intro m h; simp at h; subst h; exact ⟨rfl, fun v hv => by simp [wdN] at hv, rfl⟩
 | succ k ih =>
   intro m h
   rw [Nat.pow_succ, Nat.mul_comm] at h
   obtain ⟨h1, h2, h3⟩ := ih (m / 18446744073709551616) (by omega)
   refine ⟨by simp [wdN, h1], fun v hv => ?_, ?_⟩
   · rcases List.mem_cons.1 hv with e | e
     · omega
     · exact h2 v e
   · simp only [wdN, wv, h3]; omega
theorem wv_inj : ∀ (a b : List Nat), a.length = b.length → Wds a → Wds b → wv a = wv b → a = b
 | [], [], _, _, _, _ => rfl
 | [], _ :: _, h, _, _, _ => by simp at h
 | _ :: _, [], h, _, _, _ => by simp at h
 | x :: a, y :: b, h, ha, hb, e => by
   have h1 := ha x (by simp)
   have h2 := hb y (by simp)
   simp only [wv] at e
   have h3 := wv_inj a b (by simpa using h) (fun v hv => ha v (by simp [hv])) (fun v hv => hb v (by simp [hv])) (by omega)
   have h4 : x = y := by omega
   rw [h3, h4]
theorem W4.eq {l : List Nat} {m : Nat} (h : W4 l m) : l = wdN m 4 := by
 have hl := wv_lt l h.2.1
 rw [h.1, h.2.2] at hl
 obtain ⟨h1, h2, h3⟩ := wdN_spec 4 m hl
 exact wv_inj _ _ (by rw [h.1, h1]) h.2.1 h2 (by rw [h.2.2, h3])
theorem W4.of {m : Nat} (h : m < 18446744073709551616 ^ 4) : W4 (wdN m 4) m := wdN_spec 4 m h
theorem qn_w : QN < 18446744073709551616 ^ 4 := by decide
theorem W4.modq (m : Nat) : W4 (wdN (m % QN) 4) (m % QN) := .of (Nat.lt_trans (Nat.mod_lt _ qn_pos) qn_w)
theorem wdN_at (m : Nat) : ∀ (k j : Nat), j < k → (wdN m k)[j]? = some (m / 18446744073709551616 ^ j % 18446744073709551616) := by
 intro k
 induction k generalizing m with
 | zero => intro j h; omega
 | succ k ih =>
   intro j h
   cases j with
   | zero => simp [wdN]
   | succ j =>
     simp only [wdN, List.getElem?_cons_succ]
     rw [ih (m / 18446744073709551616) j (by omega), Nat.div_div_eq_div_mul, Nat.pow_succ, Nat.mul_comm]
theorem or_bit (x b : Nat) (_hx : x < 18446744073709551616) (hb : b ≤ 1) : bits .or .u64 (((2 * x % 18446744073709551616 : Nat)) : Int) (b : Int) = ((2 * x % 18446744073709551616 + b : Nat) : Int) := by
 rw [u64_or_nat _ _ (Nat.mod_lt _ (by omega)) (by omega)]
 have e : 2 * x % 18446744073709551616 = 2 ^ 1 * (x % 9223372036854775808) := by omega
 rw [e, ← Nat.two_pow_add_eq_or_of_lt (by omega)]
theorem keep_yes (x y : Nat) (hx : x < 18446744073709551616) (hy : y < 18446744073709551616) : bits .or .u64 (bits .and .u64 (x : Int) 18446744073709551615) (bits .andNot .u64 (y : Int) 18446744073709551615) = (x : Int) := by
 have e : (18446744073709551615 : Int) = ((18446744073709551615 : Nat) : Int) := rfl
 rw [e, u64_and_nat _ _ hx (by omega), u64_andNot_nat _ _ hy (by omega), Nat.sub_self, Nat.and_zero]
 have h2 : x &&& 18446744073709551615 = x := by
   have := Nat.and_two_pow_sub_one_eq_mod x 64
   simp only [Nat.reducePow, Nat.reduceSub] at this
   rw [this, Nat.mod_eq_of_lt hx]
 rw [h2, u64_or_nat _ _ hx (by omega), Nat.or_zero]
theorem keep_no (x y : Nat) (hx : x < 18446744073709551616) (hy : y < 18446744073709551616) : bits .or .u64 (bits .and .u64 (x : Int) 0) (bits .andNot .u64 (y : Int) 0) = (y : Int) := by
 have e : (0 : Int) = ((0 : Nat) : Int) := rfl
 rw [e, u64_and_nat _ _ hx (by omega), u64_andNot_nat _ _ hy (by omega), Nat.and_zero]
 have h2 : y &&& (18446744073709551615 - 0) = y := by
   have := Nat.and_two_pow_sub_one_eq_mod y 64
   simp only [Nat.reducePow, Nat.reduceSub] at this
   rw [Nat.sub_zero, this, Nat.mod_eq_of_lt hy]
 rw [h2, u64_or_nat _ _ (by omega) hy, Nat.zero_or]
end Go.Proofs.YthpibkpljakeeaaDoor
