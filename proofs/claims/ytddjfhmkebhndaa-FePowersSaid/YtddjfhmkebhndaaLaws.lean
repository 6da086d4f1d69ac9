/- The laws of a field hold for the elements of any bytes: the Go function FeLaws returns true. -/
import Derived.Test.YtddjfhmkebhndaaLaw7
import Derived.Test.YtddjfhmkebhndaaCalls
namespace Go.Proofs.Ytddjfhmkebhndaa
open Go.RowKit

theorem zero_el : El (smallL 0) := el_set (small_dg 0)
/-- An element with its number. -/
def Ev (l : List Int) (n : Int) : Prop := El l ∧ Eqv (ev l) n
section
variable {x y : List Int} {m n : Int}
theorem Ev.add (h : Ev x m) (k : Ev y n) : Ev (cy (plus x y)) (m + n) := ⟨(addL_el h.1 k.1).1, (add_eqv h.1 k.1).trans (h.2.add k.2)⟩
theorem Ev.sub (h : Ev x m) (k : Ev y n) : Ev (cy (minus x y)) (m - n) := ⟨(subL_el h.1 k.1).1, (sub_eqv h.1 k.1).trans (h.2.sub k.2)⟩
theorem Ev.mul (h : Ev x m) (k : Ev y n) : Ev (mulL x y) (m * n) := ⟨(mulL_el h.1 k.1).1, (mul_eqv h.1 k.1).trans (h.2.mul k.2)⟩
theorem Eqv.neg {a b : Int} (h : Eqv a b) : Eqv (-a) (-b) := by have := (Eqv.refl 0).sub h; simpa using this
theorem Ev.neg (h : Ev x m) : Ev (cy (minus (zeros 16) x)) (-m) := ⟨(negL_el h.1).1, (neg_eqv h.1).trans h.2.neg⟩
theorem Ev.inv (h : Ev x m) : Ev (invL x) (m ^ (NT.PN - 2)) := ⟨invL_el h.1, (inv_eqv h.1).trans (h.2.pow _)⟩
theorem Ev.zero : Ev (smallL 0) 0 := ⟨zero_el, by rw [small_ev 0 (by omega)]; exact Eqv.refl _⟩
theorem Ev.one : Ev (smallL 1) 1 := ⟨one_el, by rw [small_ev 1 (by omega)]; exact Eqv.refl _⟩
theorem Ev.self (h : El x) : Ev x (ev x) := ⟨h, Eqv.refl _⟩
theorem Ev.same (h : Ev x m) (k : Ev y n) (e : Eqv m n) : CallsTo 14 #[.agg (ints .i64 x).toArray, .agg (ints .i64 y).toArray] (.bool true) := c_eq h.1 k.1 (h.2.trans (e.trans k.2.symm))
end
theorem feLaws_walk (W : World) (a : List Int) (la : a.length = 32) (wa : ∀ x ∈ a, (Lit.int .u8 x).wf = true) (b : List Int) (lb : b.length = 32) (wb : ∀ x ∈ b, (Lit.int .u8 x).wf = true) (c : List Int) (lc : c.length = 32) (wc : ∀ x ∈ c, (Lit.int .u8 x).wf = true) :
    Calls Try.prog 7 #[.agg (ints .u8 a).toArray, .agg (ints .u8 b).toArray, .agg (ints .u8 c).toArray] W fun e w' => e = .returned (.bool true) ∧ Below W.heap.size W w' := by
  have ba := byt_of_wf wa
  have bb := byt_of_wf wb
  have bc := byt_of_wf wc
  have hx := Ev.self (ofL_el ba)
  have hy := Ev.self (ofL_el bb)
  have hz := Ev.self (ofL_el bc)
  have ka := c_of la ba
  have kb := c_of lb bb
  have kc := c_of lc bc
  have hzero := Ev.zero
  have hone := Ev.one
  have kz := c_small 0
  have ko := c_small 1
  generalize ev (ofL a) = X at *
  generalize ev (ofL b) = Y at *
  generalize ev (ofL c) = Z at *
  generalize ofL a = x at *
  generalize ofL b = y at *
  generalize ofL c = z at *
  generalize smallL 0 = zero at *
  generalize smallL 1 = one at *
  have hv0 := hx.add hy
  have k0 := c_add hx.1 hy.1
  have hv1 := hy.add hx
  have k1 := c_add hy.1 hx.1
  have hv2 := hx.mul hy
  have k2 := c_mul hx.1 hy.1
  have hv3 := hy.mul hx
  have k3 := c_mul hy.1 hx.1
  have hv4 := hy.add hz
  have k4 := c_add hy.1 hz.1
  have hv5 := hx.mul hv4
  have k5 := c_mul hx.1 hv4.1
  have hv6 := hx.mul hz
  have k6 := c_mul hx.1 hz.1
  have hv7 := hv2.add hv6
  have k7 := c_add hv2.1 hv6.1
  have hv8 := hv2.mul hz
  have k8 := c_mul hv2.1 hz.1
  have hv9 := hy.mul hz
  have k9 := c_mul hy.1 hz.1
  have hv10 := hx.mul hv9
  have k10 := c_mul hx.1 hv9.1
  have hv11 := hx.neg
  have k11 := c_neg hx.1
  have hv12 := hx.add hv11
  have k12 := c_add hx.1 hv11.1
  have hv13 := hx.sub hy
  have k13 := c_sub hx.1 hy.1
  have hv14 := hy.neg
  have k14 := c_neg hy.1
  have hv15 := hx.add hv14
  have k15 := c_add hx.1 hv14.1
  have hv16 := hx.mul hone
  have k16 := c_mul hx.1 hone.1
  have hv17 := hx.add hzero
  have k17 := c_add hx.1 hzero.1
  have hv18 := hx.inv
  have k18 := c_inv hx.1
  have hv19 := hv3.mul hv18
  have k19 := c_mul hv3.1 hv18.1
  have e0 := hv0.same hv1 (Eqv.of (Int.add_comm _ _))
  have e1 := hv2.same hv3 (Eqv.of (Int.mul_comm _ _))
  have e2 := hv5.same hv7 (Eqv.of (Int.mul_add _ _ _))
  have e3 := hv8.same hv10 (Eqv.of (Int.mul_assoc _ _ _))
  have e4 := hv12.same hzero (Eqv.of (by omega))
  have e5 := hv13.same hv15 (Eqv.of (by omega))
  have e6 := hv16.same hx (Eqv.of (by omega))
  have e7 := hv17.same hx (Eqv.of (by omega))
  refine law7_core a b c x y z zero one _ _ _ _ _ _ _ _ _ _ _ _ _ _ _ _ _ _ _ _ W la lb lc hx.1.len hy.1.len hz.1.len hzero.1.len hone.1.len ka kb kc kz ko k0 k1 k2 k3 k4 k5 k6 k7 k8 k9 k10 k11 k12 k13 k14 k15 k16 k17 k18 k19 e0 e1 e2 e3 e4 e5 e6 e7 (decide (red x = red zero)) (c_equal hx.1 hzero.1) (fun h => hv19.same hy ?_)
  have h0 : ¬ Eqv X 0 := fun e => of_decide_eq_false h ((red_iff hx.1 hzero.1).2 (hx.2.trans (e.trans hzero.2.symm)))
  have h1 := (Eqv.refl Y).mul (inv_one h0)
  rw [Int.mul_one, ← Int.mul_assoc] at h1
  exact h1
end Go.Proofs.Ytddjfhmkebhndaa
