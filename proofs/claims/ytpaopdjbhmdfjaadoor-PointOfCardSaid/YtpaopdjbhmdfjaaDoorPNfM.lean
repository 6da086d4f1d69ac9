/- Elements as numbers modulo the prime: what the package of elements returns, told by the field. -/
import Derived.Test.YtpaopdjbhmdfjaaDoorPRowM
import Derived.Test.YtpaopdjbhmdfjaaDoorG6
namespace Go.Proofs.YtpaopdjbhmdfjaaDoor
open Go Go.RowKit

/-- The element's number. -/
@[reducible] def Nf (x : List Int) (a : Fin NT.PN) : Prop := Nm x a.val
theorem Nf.len {x : List Int} {a : Fin NT.PN} (h : Nf x a) : x.length = 16 := h.1.len
theorem iv_ex (a : Fin NT.PN) : ∃ b : Fin NT.PN, b.val = a.val ^ (NT.PN - 2) % NT.PN := ⟨⟨_, Nat.mod_lt _ pn_pos'⟩, rfl⟩
noncomputable def iv (a : Fin NT.PN) : Fin NT.PN := (iv_ex a).choose
theorem iv_val (a : Fin NT.PN) : (iv a).val = a.val ^ (NT.PN - 2) % NT.PN := (iv_ex a).choose_spec
theorem iv_mul {a : Fin NT.PN} (h : a ≠ 0) : a * iv a = 1 := by
  have hf := fermat_inv (fin_pos h) a.isLt
  rw [← iv_val] at hf
  have h1 := ph_one hf
  rw [ph_mul, ph_self, ph_self] at h1
  exact h1
theorem zero_gen {a k : Nat} (h : 0 < k) (ha : a = 0) : a ^ k % NT.PN = 0 := by rw [ha, Nat.zero_pow h, Nat.zero_mod]
theorem k_pos : 0 < NT.PN - 2 := by decide
theorem iv_zero : iv 0 = 0 := Fin.ext ((iv_val 0).trans (zero_gen k_pos rfl))
section
variable {x y bs : List Int} {a b : Fin NT.PN}
theorem nf_add (h : Nf x a) (k : Nf y b) : ∃ v, CallsTo 46 #[.agg (ints .i64 x).toArray, .agg (ints .i64 y).toArray] (.agg (ints .i64 v).toArray) ∧ Nf v (a + b) := ⟨_, c_add h.1 k.1, h.add k⟩
theorem nf_mul (h : Nf x a) (k : Nf y b) : ∃ v, CallsTo 43 #[.agg (ints .i64 x).toArray, .agg (ints .i64 y).toArray] (.agg (ints .i64 v).toArray) ∧ Nf v (a * b) := ⟨_, c_mul h.1 k.1, h.mul k⟩
theorem sub_val (a b : Fin NT.PN) : (a.val + NT.PN - b.val) % NT.PN = (a - b).val := by
  have h := ph_sub (n := NT.PN) (a := a.val) (b := b.val) b.isLt
  rw [ph_self, ph_self] at h
  rw [← h]; rfl
theorem nf_sub (h : Nf x a) (k : Nf y b) : ∃ v, CallsTo 45 #[.agg (ints .i64 x).toArray, .agg (ints .i64 y).toArray] (.agg (ints .i64 v).toArray) ∧ Nf v (a - b) := ⟨_, c_sub h.1 k.1, by
  have := h.sub k
  rwa [sub_val] at this⟩
theorem nf_neg (h : Nf x a) : ∃ v, CallsTo 41 #[.agg (ints .i64 x).toArray] (.agg (ints .i64 v).toArray) ∧ Nf v (0 - a) := ⟨_, c_neg h.1, by
  have := h.neg
  rwa [show (0 : Nat) = (0 : Fin NT.PN).val from rfl, sub_val] at this⟩
theorem nf_inv (h : Nf x a) : ∃ v, CallsTo 48 #[.agg (ints .i64 x).toArray] (.agg (ints .i64 v).toArray) ∧ Nf v (iv a) := ⟨_, c_inv h.1, by
  have := h.inv
  rwa [← iv_val] at this⟩
theorem nf_zero : ∃ v, CallsTo 40 #[.int .i64 0] (.agg (ints .i64 v).toArray) ∧ Nf v 0 := ⟨_, c_small 0, Nm.small 0 (by decide)⟩
theorem nf_one : ∃ v, CallsTo 40 #[.int .i64 1] (.agg (ints .i64 v).toArray) ∧ Nf v 1 := ⟨_, c_small 1, Nm.small 1 (by decide)⟩
theorem nf_zeros : Nf (zeros 16) 0 := Nm.zeros
theorem ph_bn (b : List Int) : (ph NT.PN (bn b)).val = bn b % NT.PN := rfl
theorem ofL_is (hl : bs.length = 32) (hb : Byt bs) (h7 : bs.getD 31 0 < 128) : ofL bs = dgs bs := by
  have h1 := dgs_at bs (i := 15) (by omega)
  have e : (dgs bs).getD 15 0 = bs.getD 30 0 + 256 * bs.getD 31 0 := by rw [List.getD_eq_getElem?_getD, h1]; rfl
  have a1 := hb.at_ (i := 30) (x := bs.getD 30 0) (by rw [List.getD_eq_getElem?_getD, List.getElem?_eq_getElem (by omega)]; rfl)
  have a2 := hb.at_ (i := 31) (x := bs.getD 31 0) (by rw [List.getD_eq_getElem?_getD, List.getElem?_eq_getElem (by omega)]; rfl)
  unfold ofL
  rw [e, Int.emod_eq_of_lt (by omega) (by omega)]
  apply List.ext_getElem?
  intro i
  by_cases hi : 15 = i
  · subst hi
    rw [List.getElem?_set_self (by rw [dgs_length]; omega), h1]
  · rw [List.getElem?_set_ne hi]
theorem ofL_nm (hl : bs.length = 32) (hb : Byt bs) (h7 : bs.getD 31 0 < 128) : Nm (ofL bs) (bn bs % NT.PN) := by
  refine .mk (ofL_el hb) ?_
  rw [ofL_is hl hb h7, dgs_pr hl, pr_ev, Int.natCast_emod, pn_int, bn_int hb]
theorem nf_of (hl : bs.length = 32) (hb : Byt bs) (h7 : bs.getD 31 0 < 128) : ∃ v, CallsTo 36 #[.agg (ints .u8 bs).toArray] (.agg (ints .i64 v).toArray) ∧ Nf v (ph NT.PN (bn bs)) := ⟨_, c_of hl hb, ofL_nm hl hb h7⟩
theorem nf_equal (h : Nf x a) (k : Nf y b) : CallsTo 39 #[.agg (ints .i64 x).toArray, .agg (ints .i64 y).toArray] (.bool (decide (a = b))) := by
  have h1 := h.equal k
  rwa [decide_eq_decide.2 (Fin.val_inj (a := a) (b := b))] at h1
theorem nf_same (h : Nf x a) (k : Nf y b) (e : a = b) : CallsTo 39 #[.agg (ints .i64 x).toArray, .agg (ints .i64 y).toArray] (.bool true) := by
  have h1 := nf_equal h k
  rwa [decide_eq_true e] at h1
theorem nf_other (h : Nf x a) (k : Nf y b) (e : a ≠ b) : CallsTo 39 #[.agg (ints .i64 x).toArray, .agg (ints .i64 y).toArray] (.bool false) := by
  have h1 := nf_equal h k
  rwa [decide_eq_false e] at h1
end
/-- The row of a point by its coordinates' numbers. -/
def Pn (l : List Int) (c : C4 NT.PN) : Prop := ∃ x y z t, l = pt x y z t ∧ Nf x c.x ∧ Nf y c.y ∧ Nf z c.z ∧ Nf t c.t
theorem Pn.len {l : List Int} {c : C4 NT.PN} (h : Pn l c) : l.length = 64 := by
  obtain ⟨x, y, z, t, rfl, h1, h2, h3, h4⟩ := h
  exact pt_len h1.len h2.len h3.len h4.len
theorem pn_none : Pn (zeros 64) noC := ⟨_, _, _, _, pt_zero, nf_zeros, nf_zeros, nf_zeros, nf_zeros⟩
end Go.Proofs.YtpaopdjbhmdfjaaDoor
