/- The bytes of a point of the curve tell the point; they are a point's bytes. -/
import Derived.Test.YthpibkpljakeeaaDoorG12
namespace Go.Proofs.YthpibkpljakeeaaDoor
open Go Go.RowKit

/-- The first coordinate. -/
def axP (P : Edw.Pt NT.PN) : Fin NT.PN := -(iF * P.x)
theorem ax_back {n : Nat} [NeZero n] {i x : Fin n} (hi : i * i = -1) : i * -(i * x) = x := by grind
theorem ax_alg {n : Nat} [NeZero n] {i d e x y v : Fin n} (hi : i * i = -1) (he : d = -e) (hO : x * x + y * y = 1 + e * x * x * y * y) (hv : (d * (y * y) + 1) * v = 1) : -(i * x) * -(i * x) = (y * y - 1) * v := by
  have h1 : -(i * x) * -(i * x) = -(x * x) := by clear hO hv; grind
  have h2 : -(x * x) * (d * (y * y) + 1) = y * y - 1 := by rw [he]; clear hv h1; grind
  have h3 : -(x * x) * ((d * (y * y) + 1) * v) = (y * y - 1) * v := by rw [← h2]; clear hO hv h1 h2; grind
  rw [hv] at h3
  rw [h1, ← h3]
  clear hO hv h1 h2 h3; grind
theorem ax_sq {P : Edw.Pt NT.PN} (hP : Edw.On eF P) : axP P * axP P = xxF P.y := ax_alg i_sq de hP (iv_mul (den_ne P.y))
theorem bytesP_is (P : Edw.Pt NT.PN) : bytesP P = pbytes P.y.val (oddB (axP P).val) := rfl
theorem pb_31 {m : Nat} (o : Bool) : (pbytes m o).getD 31 0 = (rbytes m).getD 31 0 + if o then 128 else 0 := by
  cases o with
  | false => show (rbytes m).getD 31 0 = (rbytes m).getD 31 0 + 0; omega
  | true =>
    show ((rbytes m).set 31 _).getD 31 0 = _
    rw [List.getD_eq_getElem?_getD, List.getElem?_set_self (by rw [rbytes_length]; omega)]; rfl
theorem pb_off {m : Nat} (h : m < NT.PN) (o : Bool) : offB (pbytes m o) = rbytes m := by
  have ht := rb_top h
  have hl := rbytes_length m
  unfold offB
  rw [pb_31]
  cases o with
  | false =>
    show (rbytes m).set 31 (((rbytes m).getD 31 0 + 0) % 128) = rbytes m
    have e : ((rbytes m).getD 31 0 + 0) % 128 = (rbytes m).getD 31 0 := by omega
    rw [e]
    apply List.ext_getElem?
    intro i
    by_cases hi : 31 = i
    · subst hi; rw [List.getElem?_set_self (by omega), at31 hl]
    · rw [List.getElem?_set_ne hi]
  | true =>
    show ((rbytes m).set 31 _).set 31 (((rbytes m).getD 31 0 + 128) % 128) = rbytes m
    have e : ((rbytes m).getD 31 0 + 128) % 128 = (rbytes m).getD 31 0 := by omega
    rw [e]
    apply List.ext_getElem?
    intro i
    by_cases hi : 31 = i
    · subst hi; rw [List.getElem?_set_self (by rw [List.length_set]; omega), at31 hl]
    · rw [List.getElem?_set_ne hi, List.getElem?_set_ne hi]
theorem pn_16 : NT.PN < 65536 ^ 16 := by decide
theorem pb_num {m : Nat} (h : m < NT.PN) (o : Bool) : bn (offB (pbytes m o)) = m := by
  rw [pb_off h]; exact bn_rbytes (Nat.lt_trans h pn_16)
theorem pb_bit {m : Nat} (h : m < NT.PN) (o : Bool) : 128 ≤ (pbytes m o).getD 31 0 ↔ o = true := by
  have ht := rb_top h
  rw [pb_31]
  generalize (rbytes m).getD 31 0 = t at *
  cases o
  · rw [show (if false = true then (128 : Int) else 0) = 0 from rfl]
    exact ⟨fun h => by omega, fun h => by cases h⟩
  · rw [show (if true = true then (128 : Int) else 0) = 128 from rfl]
    exact ⟨fun _ => rfl, fun _ => by omega⟩
theorem pb_inj {m k : Nat} (hm : m < NT.PN) (hk : k < NT.PN) {o p : Bool} (h : pbytes m o = pbytes k p) : m = k ∧ o = p := by
  have h1 := pb_num hm o
  have h2 := pb_bit hm o
  rw [h] at h1 h2
  rw [pb_num hk p] at h1
  rw [pb_bit hk p] at h2
  refine ⟨h1.symm, ?_⟩
  cases o <;> cases p <;> simp at h2 <;> rfl
theorem neg_is {n : Nat} [NeZero n] {a b : Fin n} (h : a * a = b * b) : (a - b) * (a + b) = 0 := by grind
theorem eq_of {n : Nat} [NeZero n] {a b : Fin n} (h : a - b = 0) : a = b := by grind
theorem neg_of {n : Nat} [NeZero n] {a b : Fin n} (h : a + b = 0) : a = 0 - b := by grind
theorem odd_nat2 {j p : Nat} (h1 : 0 < j) (h2 : j < p) (hp : p % 2 = 1) (h : j % 2 = 1) : (p - j) % p % 2 = 0 := by
  have e : (p - j) % p = p - j := Nat.mod_eq_of_lt (by omega)
  rw [e]
  omega
/-- The bytes tell the point. -/
theorem bytesP_inj {P Q : Edw.Pt NT.PN} (hP : Edw.On eF P) (hQ : Edw.On eF Q) (h : bytesP P = bytesP Q) : P = Q := by
  rw [bytesP_is, bytesP_is] at h
  obtain ⟨hy, ho⟩ := pb_inj P.y.isLt Q.y.isLt h
  have hy' : P.y = Q.y := Fin.ext hy
  have s1 := ax_sq hP
  have s2 := ax_sq hQ
  rw [hy', ← s2] at s1
  have hx : axP P = axP Q := by
    rcases pn_fld.dom (neg_is s1) with h1 | h1
    · exact eq_of h1
    · have h2 := neg_of h1
      by_cases h0 : axP Q = 0
      · rw [h2, h0]; rfl
      · exfalso
        rw [odd_val, odd_val, decide_eq_decide, h2] at ho
        have h4 : NT.PN % 2 = 1 := by decide
        rcases Nat.mod_two_eq_zero_or_one (axP Q).val with e | e
        · have := ho.1 (neg_odd h0 e)
          omega
        · have h5 := odd_nat2 (fin_pos h0) (axP Q).isLt h4 e
          have h3 := sub_val 0 (axP Q)
          rw [show (0 : Fin NT.PN).val = 0 from rfl, Nat.zero_add] at h3
          rw [h3] at h5
          have := ho.2 e
          omega
  refine Edw.pt_ext ?_ hy'
  have e1 : iF * axP P = P.x := ax_back i_sq
  have e2 : iF * axP Q = Q.x := ax_back i_sq
  rw [← e1, ← e2, hx]
theorem sq_is (a : Fin NT.PN) : isSq (a * a).val = true := by
  have hx := of_bytes a.val a.isLt
  have h1 := (sq_root hx).1
  have h2 := ok_sq (hx.mul hx)
  rw [h1] at h2
  exact h2.symm
/-- They are a point's bytes. -/
theorem bytesP_good {P : Edw.Pt NT.PN} (hP : Edw.On eF P) : ¬ Bad (bytesP P) := by
  rw [bytesP_is]
  have hn := pb_num P.y.isLt (oddB (axP P).val)
  have hph : ph NT.PN (bn (offB (pbytes P.y.val (oddB (axP P).val)))) = P.y := by rw [hn, ph_self]
  intro h
  unfold Bad at h
  rw [hph, hn, pb_bit P.y.isLt, ← ax_sq hP] at h
  rcases h with h | h | ⟨h, ho⟩
  · exact absurd h (Nat.not_le.2 P.y.isLt)
  · rw [sq_is] at h; cases h
  · have h0 : axP P = 0 := by rcases pn_fld.dom h with h | h <;> exact h
    rw [h0] at ho
    exact absurd ho (by decide)
end Go.Proofs.YthpibkpljakeeaaDoor
