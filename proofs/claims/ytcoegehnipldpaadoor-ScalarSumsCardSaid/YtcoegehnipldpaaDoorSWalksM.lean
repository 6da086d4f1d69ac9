/- The three walks, said of any bytes. -/
import Derived.Test.YtcoegehnipldpaaDoorSLawsM
import Derived.Test.YtcoegehnipldpaaDoorSSumsM
import Derived.Test.YtcoegehnipldpaaDoorSTakesM
namespace Go.Proofs.YtcoegehnipldpaaDoor
open Go Go.RowKit

theorem byt_wf {bs : List Int} (h : ∀ x ∈ bs, (Lit.int .u8 x).wf = true) : Byt bs := fun x hx => by
  have h1 := h x hx
  simp [Lit.wf, IntKind.min, IntKind.max, IntKind.bits, IntKind.signed] at h1
  omega
/-- The bytes of a number modulo the order. -/
def sc (m : Nat) : List Int := rbytes (m % QN)
theorem sc_len (m : Nat) : (sc m).length = 32 := rbytes_length _
theorem sc_byt (m : Nat) : Byt (sc m) := rbytes_yt _
theorem sc_bn (m : Nat) : bn (sc m) = m % QN := bn_rbytes (modq_lt m)
theorem sc_eq {m n : Nat} (h : m % QN = n % QN) : sc m = sc n := by unfold sc; rw [h]
section
variable {x y : List Int} {m n r : Nat}
theorem k_add (lx : x.length = 32) (ly : y.length = 32) (yx : Byt x) (yy : Byt y) (h : (bn x + bn y) % QN = r % QN) : CallsT 16 #[.agg (ints .u8 x).toArray, .agg (ints .u8 y).toArray] (.agg (ints .u8 (sc r)).toArray) := by
  rw [← sc_eq h]; exact c_add lx ly yx yy
theorem k_mul (lx : x.length = 32) (ly : y.length = 32) (yx : Byt x) (yy : Byt y) (h : bn x * bn y % QN = r % QN) : CallsT 18 #[.agg (ints .u8 x).toArray, .agg (ints .u8 y).toArray] (.agg (ints .u8 (sc r)).toArray) := by
  rw [← sc_eq h]; exact c_mul lx ly yx yy
theorem k_radd (lx : x.length = 32) (ly : y.length = 32) (yx : Byt x) (yy : Byt y) (h : (bn x + bn y) % QN = r % QN) : CallsT 17 #[.agg (ints .u8 x).toArray, .agg (ints .u8 y).toArray] (.agg (ints .u8 (sc r)).toArray) := by
  rw [← sc_eq h]; exact fun w _ => raddq_walk lx ly yx yy
theorem k_rmul (lx : x.length = 32) (ly : y.length = 32) (yx : Byt x) (yy : Byt y) (h : bn x * bn y % QN = r % QN) : CallsT 19 #[.agg (ints .u8 x).toArray, .agg (ints .u8 y).toArray] (.agg (ints .u8 (sc r)).toArray) := by
  rw [← sc_eq h]; exact fun w _ => rmulq_walk lx ly yx yy
end
theorem zeros_sc : zeros 32 = sc 0 := zeros_bytes
theorem order_bn : bn (rbytes QN) = QN := bn_rbytes qn_lt
theorem neg_sum (A : Nat) : (A + A * (QN - 1) % QN) % QN = 0 % QN := by
  rw [Nat.add_mod_mod, show A + A * (QN - 1) = A * QN by
    have : A * QN = A * (QN - 1 + 1) := rfl
    rw [this, Nat.mul_add, Nat.mul_one, Nat.add_comm], Nat.mul_mod_left]; rfl
theorem scalarLaws_walk (w : World) (ht : Tabs w) (a : List Int) (la : a.length = 32) (wa : ∀ x ∈ a, (Lit.int .u8 x).wf = true) (b : List Int) (lb : b.length = 32) (wb : ∀ x ∈ b, (Lit.int .u8 x).wf = true) (c : List Int) (lc : c.length = 32) (wc : ∀ x ∈ c, (Lit.int .u8 x).wf = true) :
    Calls Tryd.prog 5 #[.agg (ints .u8 a).toArray, .agg (ints .u8 b).toArray, .agg (ints .u8 c).toArray] w fun e w' => e = .returned (.bool true) ∧ Below w.heap.size w w' := by
  have ya := byt_wf wa
  have yb := byt_wf wb
  have yc := byt_wf wc
  refine laws_core w ht la lb lc (sc_len (bn a + bn b)) (sc_len (bn a + bn b + bn c)) (sc_len (bn b + bn c)) (sc_len (bn a * bn b)) (sc_len (bn a * bn b * bn c)) (sc_len (bn b * bn c)) (sc_len (bn a * bn b + bn a * bn c)) (sc_len (bn a * bn c)) (sc_len (bn a * (QN - 1))) (sc_len (bn a)) (rbytes_length QN)
    (k_add la lb ya yb rfl) (k_add lb la yb ya (by rw [Nat.add_comm])) (k_mul la lb ya yb rfl) (k_mul lb la yb ya (by rw [Nat.mul_comm]))
    (k_add (sc_len _) lc (sc_byt _) yc (by rw [sc_bn, Nat.mod_add_mod])) (k_add lb lc yb yc rfl) (k_add la (sc_len _) ya (sc_byt _) (by rw [sc_bn, Nat.add_mod_mod, Nat.add_assoc]))
    (k_mul (sc_len _) lc (sc_byt _) yc (by rw [sc_bn, Nat.mod_mul_mod])) (k_mul lb lc yb yc rfl) (k_mul la (sc_len _) ya (sc_byt _) (by rw [sc_bn, Nat.mul_mod_mod, Nat.mul_assoc]))
    (k_mul la (sc_len _) ya (sc_byt _) (by rw [sc_bn, Nat.mul_mod_mod, Nat.mul_add])) (k_mul la lc ya yc rfl) (k_add (sc_len _) (sc_len _) (sc_byt _) (sc_byt _) (by rw [sc_bn, sc_bn, ← Nat.add_mod]))
    (c_neg la ya) (by rw [zeros_sc]; exact k_add la (sc_len _) ya (sc_byt _) (by rw [sc_bn]; exact neg_sum _))
    (k_add la (zeros_len 32) ya (zeros_byt 32) (by rw [bn_zeros, Nat.add_zero])) (k_mul la one_len ya one_byt (by rw [bn_one, Nat.mul_one])) c_order (by rw [zeros_sc]; exact k_mul (rbytes_length _) la (rbytes_yt _) ya (by rw [order_bn, Nat.mul_mod_right]; rfl))
    (fun w0 h1 h2 => of_yes _ 32 32 a w0 h1 la (by omega) ya h2)
theorem scalarSums_walk (w : World) (ht : Tabs w) (a : List Int) (la : a.length = 32) (wa : ∀ x ∈ a, (Lit.int .u8 x).wf = true) (b : List Int) (lb : b.length = 32) (wb : ∀ x ∈ b, (Lit.int .u8 x).wf = true) (c : List Int) (lc : c.length = 32) (wc : ∀ x ∈ c, (Lit.int .u8 x).wf = true) :
    Calls Tryd.prog 4 #[.agg (ints .u8 a).toArray, .agg (ints .u8 b).toArray, .agg (ints .u8 c).toArray] w fun e w' => e = .returned (.bool true) ∧ Below w.heap.size w w' := by
  have ya := byt_wf wa
  have yb := byt_wf wb
  have yc := byt_wf wc
  refine sums_core w ht la lb lc (sc_len (bn a + bn b)) (sc_len (bn a * bn b)) (sc_len (bn a * bn b + bn c)) (sc_len (bn a * (QN - 1)))
    (k_add la lb ya yb rfl) (k_radd la lb ya yb rfl) (k_mul la lb ya yb rfl) (k_rmul la lb ya yb rfl) (c_muladd la lb lc ya yb yc) (k_radd (sc_len _) lc (sc_byt _) yc (by rw [sc_bn, Nat.mod_add_mod]))
    (by rw [zeros_sc]; exact k_radd (sc_len _) la (sc_byt _) ya (by rw [sc_bn, Nat.add_comm]; exact neg_sum _)) ?_ (c_neg la ya)
  have h := c_right (sc_len (bn a * (QN - 1))) (sc_byt _)
  rw [sc_bn, decide_eq_true (Nat.mod_lt _ qn_pos)] at h
  exact h
theorem scalarTakes_walk (w : World) (ht : Tabs w) (A : Option Addr) (cp : Nat) (bs : List Int) (_ : bs.length ≤ cp) (_ : cp ≤ maxLen) (wb : ∀ x ∈ bs, (Lit.int .u8 x).wf = true) (hA : Nums w .u8 A bs) (c : List Int) (lc : c.length = 32) (wc : ∀ x ∈ c, (Lit.int .u8 x).wf = true) :
    Calls Tryd.prog 3 #[.slice A bs.length cp, .agg (ints .u8 c).toArray] w fun e w' => e = .returned (.bool true) ∧ Below w.heap.size w w' := by
  have yb := byt_wf wb
  have yc := byt_wf wc
  by_cases h : 128 < bs.length
  · exact takes_no w ht A bs.length cp bs hA lc yc (by omega) (fun w0 _ _ => of_no A bs.length cp w0 h)
  · refine takes_yes w ht A bs.length cp bs hA lc yc (sc_len (bn bs)) ?_ (fun w0 h2 => rofq_walk A bs.length cp bs w0 rfl (by omega) yb h2) (by omega) (fun w0 h1 h2 => of_yes A bs.length cp bs w0 h1 rfl (by omega) yb h2)
    have h := c_right (sc_len (bn bs)) (sc_byt _)
    rw [sc_bn, decide_eq_true (Nat.mod_lt _ qn_pos)] at h
    exact h
end Go.Proofs.YtcoegehnipldpaaDoor
