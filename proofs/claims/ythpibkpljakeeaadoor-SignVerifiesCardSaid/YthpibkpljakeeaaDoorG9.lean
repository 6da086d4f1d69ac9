/- Texts laid together. -/
import Derived.Test.YthpibkpljakeeaaDoorG8
namespace Go.Proofs.YthpibkpljakeeaaDoor.Edw
structure Fld (n : Nat) [NeZero n] : Prop where
 inv : ∀ x : Fin n, x ≠ 0 → ∃ w, x * w = 1
 two : (2 : Fin n) ≠ 0
structure Pt (n : Nat) where
 x : Fin n
 y : Fin n
section
variable {n : Nat} [NeZero n]
theorem Fld.dom (F : Fld n) {x y : Fin n} (h : x * y = 0) : x = 0 ∨ y = 0 := by
 by_cases hx : x = 0
 · exact .inl hx
 · obtain ⟨w, hw⟩ := F.inv x hx
   right
   have : y = (x * w) * y := by rw [hw]; grind
   rw [this]; grind
theorem Fld.one (F : Fld n) : (1 : Fin n) ≠ 0 := fun h => F.two (by grind)
theorem Fld.mul (F : Fld n) {x y : Fin n} (hx : x ≠ 0) (hy : y ≠ 0) : x * y ≠ 0 := fun h => (F.dom h).elim hx hy
theorem Fld.cancel (F : Fld n) {x y z : Fin n} (hx : x ≠ 0) (h : y * x = z * x) : y = z := by
 obtain ⟨w, hw⟩ := F.inv x hx
 have h1 : y = (y * x) * w := by grind
 have h2 : z = (z * x) * w := by grind
 rw [h1, h2, h]
def On (d : Fin n) (p : Pt n) : Prop := p.x * p.x + p.y * p.y = 1 + d * p.x * p.x * p.y * p.y
def NS (d : Fin n) : Prop := ∀ a b : Fin n, a * a = d * (b * b) → b = 0
open Classical in
noncomputable def inv (x : Fin n) : Fin n := if h : ∃ w, x * w = 1 then h.choose else 0
theorem inv_mul (F : Fld n) {x : Fin n} (hx : x ≠ 0) : x * inv x = 1 := by
 have h := F.inv x hx
 unfold inv
 rw [dif_pos h]
 exact h.choose_spec
noncomputable def add (d : Fin n) (p q : Pt n) : Pt n :=
 ⟨(p.x * q.y + q.x * p.y) * inv (1 + d * p.x * q.x * p.y * q.y), (p.y * q.y - p.x * q.x) * inv (1 - d * p.x * q.x * p.y * q.y)⟩
theorem sq_one {d x1 y1 x2 y2 e : Fin n} (F : Fld n) (ns : NS d) (e1 : x1 * x1 + y1 * y1 = 1 + d * x1 * x1 * y1 * y1) (e2 : x2 * x2 + y2 * y2 = 1 + d * x2 * x2 * y2 * y2) (he : e = d * x1 * x2 * y1 * y2) : e * e ≠ 1 := fun h => by
 have a1 : (x1 + e * y1) * (x1 + e * y1) = d * ((x1 * y1 * (x2 + y2)) * (x1 * y1 * (x2 + y2))) := by grind
 have a2 : (x1 - e * y1) * (x1 - e * y1) = d * ((x1 * y1 * (x2 - y2)) * (x1 * y1 * (x2 - y2))) := by grind
 have b1 := ns _ _ a1
 have b2 := ns _ _ a2
 refine F.two ?_
 have c : 2 * e = d * y2 * (x1 * y1 * (x2 + y2)) + d * y2 * (x1 * y1 * (x2 - y2)) := by rw [he]; grind
 rw [b1, b2] at c
 have c2 : 2 * e = 0 := by grind
 have : (2 : Fin n) = (2 * e) * e := by grind
 rw [this, c2]; grind
theorem den (F : Fld n) {d : Fin n} (ns : NS d) {p q : Pt n} (hp : On d p) (hq : On d q) : 1 + d * p.x * q.x * p.y * q.y ≠ 0 ∧ 1 - d * p.x * q.x * p.y * q.y ≠ 0 := by
 have h := sq_one F ns hp hq rfl
 constructor <;> intro h2 <;> refine h ?_
 · generalize d * p.x * q.x * p.y * q.y = e at *
   grind
 · generalize d * p.x * q.x * p.y * q.y = e at *
   grind
theorem add_x (F : Fld n) {d : Fin n} (ns : NS d) {p q : Pt n} (hp : On d p) (hq : On d q) : (add d p q).x * (1 + d * p.x * q.x * p.y * q.y) = p.x * q.y + q.x * p.y := by
 have h := inv_mul F (den F ns hp hq).1
 unfold add
 generalize inv (1 + d * p.x * q.x * p.y * q.y) = w at *
 show (p.x * q.y + q.x * p.y) * w * (1 + d * p.x * q.x * p.y * q.y) = _
 generalize 1 + d * p.x * q.x * p.y * q.y = t at *
 grind
theorem add_y (F : Fld n) {d : Fin n} (ns : NS d) {p q : Pt n} (hp : On d p) (hq : On d q) : (add d p q).y * (1 - d * p.x * q.x * p.y * q.y) = p.y * q.y - p.x * q.x := by
 have h := inv_mul F (den F ns hp hq).2
 unfold add
 generalize inv (1 - d * p.x * q.x * p.y * q.y) = w at *
 show (p.y * q.y - p.x * q.x) * w * (1 - d * p.x * q.x * p.y * q.y) = _
 generalize 1 - d * p.x * q.x * p.y * q.y = t at *
 grind
theorem on_core {d x1 y1 x2 y2 : Fin n} (e1 : x1 * x1 + y1 * y1 = 1 + d * x1 * x1 * y1 * y1) (e2 : x2 * x2 + y2 * y2 = 1 + d * x2 * x2 * y2 * y2) :
   (x1 * y2 + x2 * y1) * (x1 * y2 + x2 * y1) * ((1 - d * x1 * x2 * y1 * y2) * (1 - d * x1 * x2 * y1 * y2)) + (y1 * y2 - x1 * x2) * (y1 * y2 - x1 * x2) * ((1 + d * x1 * x2 * y1 * y2) * (1 + d * x1 * x2 * y1 * y2)) = (1 + d * x1 * x2 * y1 * y2) * (1 + d * x1 * x2 * y1 * y2) * ((1 - d * x1 * x2 * y1 * y2) * (1 - d * x1 * x2 * y1 * y2)) + d * ((x1 * y2 + x2 * y1) * (x1 * y2 + x2 * y1)) * ((y1 * y2 - x1 * x2) * (y1 * y2 - x1 * x2)) := by grind
theorem add_on (F : Fld n) {d : Fin n} (ns : NS d) {p q : Pt n} (hp : On d p) (hq : On d q) : On d (add d p q) := by
 have hx := add_x F ns hp hq
 have hy := add_y F ns hp hq
 have h0 := den F ns hp hq
 have hc := on_core hp hq
 unfold On
 generalize add d p q = r at *
 generalize 1 + d * p.x * q.x * p.y * q.y = s at *
 generalize 1 - d * p.x * q.x * p.y * q.y = t at *
 rw [← hx, ← hy] at hc
 refine F.cancel (F.mul (F.mul h0.1 h0.1) (F.mul h0.2 h0.2)) ?_
 grind
theorem add_eq (F : Fld n) {d : Fin n} (ns : NS d) {p q r : Pt n} (hp : On d p) (hq : On d q) (hx : r.x * (1 + d * p.x * q.x * p.y * q.y) = p.x * q.y + q.x * p.y) (hy : r.y * (1 - d * p.x * q.x * p.y * q.y) = p.y * q.y - p.x * q.x) : r = add d p q := by
 have h1 := F.cancel (den F ns hp hq).1 (hx.trans (add_x F ns hp hq).symm)
 have h2 := F.cancel (den F ns hp hq).2 (hy.trans (add_y F ns hp hq).symm)
 cases r; simp_all
theorem zero3 (a b c : Fin n) : a * 0 + b * 0 + c * 0 = 0 := by grind
theorem assoc_x {x1 y1 x2 y2 x3 y3 d : Fin n} (z1 : (x1*x1+y1*y1-1-d*x1*x1*y1*y1) = 0) (z2 : (x2*x2+y2*y2-1-d*x2*x2*y2*y2) = 0) (z3 : (x3*x3+y3*y3-1-d*x3*x3*y3*y3) = 0) : ((x1*y2+x2*y1)*(1-d*x1*x2*y1*y2)*y3+x3*(y1*y2-x1*x2)*(1+d*x1*x2*y1*y2))*((1+d*x2*x3*y2*y3)*(1-d*x2*x3*y2*y3)+d*(x2*y3+x3*y2)*(y2*y3-x2*x3)*x1*y1) - ((x2*y3+x3*y2)*(1-d*x2*x3*y2*y3)*y1+x1*(y2*y3-x2*x3)*(1+d*x2*x3*y2*y3))*((1+d*x1*x2*y1*y2)*(1-d*x1*x2*y1*y2)+d*(x1*y2+x2*y1)*(y1*y2-x1*x2)*x3*y3) = 0 := by
 have h : ((x1*y2+x2*y1)*(1-d*x1*x2*y1*y2)*y3+x3*(y1*y2-x1*x2)*(1+d*x1*x2*y1*y2))*((1+d*x2*x3*y2*y3)*(1-d*x2*x3*y2*y3)+d*(x2*y3+x3*y2)*(y2*y3-x2*x3)*x1*y1) - ((x2*y3+x3*y2)*(1-d*x2*x3*y2*y3)*y1+x1*(y2*y3-x2*x3)*(1+d*x2*x3*y2*y3))*((1+d*x1*x2*y1*y2)*(1-d*x1*x2*y1*y2)+d*(x1*y2+x2*y1)*(y1*y2-x1*x2)*x3*y3) =
   (x1*x2*x2*x2*x2*y2*y2*y2*x3*x3*y3*d*d + (-1)*x1*x2*x2*x2*x2*y2*x3*x3*y3*d + (-1)*x1*x2*x2*x2*y2*y2*y2*y2*x3*y3*y3*d*d + (-1)*x1*x2*x2*x2*y2*y2*x3*x3*x3*d + x1*x2*x2*x2*y2*y2*x3*d + x1*x2*x2*y2*y2*y2*y3*y3*y3*d + (-1)*x1*x2*x2*y2*y2*y2*y3*d + x1*x2*y2*y2*y2*y2*x3*y3*y3*d + y1*x2*x2*x2*x2*y2*y2*y2*x3*y3*y3*d*d + (-1)*y1*x2*x2*x2*x2*y2*x3*y3*y3*d + y1*x2*x2*x2*y2*y2*y2*y2*x3*x3*y3*d*d + y1*x2*x2*x2*y2*y2*y3*y3*y3*d + (-1)*y1*x2*x2*x2*y2*y2*y3*d + y1*x2*x2*y2*y2*y2*x3*x3*x3*d + (-1)*y1*x2*x2*y2*y2*y2*x3*d + (-1)*y1*x2*y2*y2*y2*y2*x3*x3*y3*d) * (x1*x1+y1*y1-1-d*x1*x1*y1*y1) + (x1*x1*x1*x2*x2*y2*x3*x3*y3*d + (-1)*x1*x1*x1*x2*y2*y2*x3*y3*y3*d + x1*x1*x1*x2*x3*x3*x3*y3*y3*d + (-1)*x1*x1*x1*x2*x3*x3*x3 + (-1)*x1*x1*x1*x2*x3*y3*y3 + x1*x1*x1*x2*x3 + (-1)*x1*x1*x1*y2*x3*x3*y3*y3*y3*d + x1*x1*x1*y2*x3*x3*y3 + x1*x1*x1*y2*y3*y3*y3 + (-1)*x1*x1*x1*y2*y3 + (-1)*x1*x1*y1*x2*x2*y2*x3*x3*x3*y3*y3*d*d + x1*x1*y1*x2*x2*y2*x3*y3*y3*d + (-1)*x1*x1*y1*x2*y2*y2*x3*x3*y3*y3*y3*d*d + x1*x1*y1*x2*y2*y2*x3*x3*y3*d + (-1)*x1*x1*y1*x2*x3*x3*y3*y3*y3*d + x1*x1*y1*x2*x3*x3*y3 + x1*x1*y1*x2*y3*y3*y3 + (-1)*x1*x1*y1*x2*y3 + (-1)*x1*x1*y1*y2*x3*x3*x3*y3*y3*d + x1*x1*y1*y2*x3*x3*x3 + x1*x1*y1*y2*x3*y3*y3 + (-1)*x1*x1*y1*y2*x3 + (-1)*x1*y1*y1*x2*x2*y2*x3*x3*y3*y3*y3*d*d + x1*y1*y1*x2*x2*y2*x3*x3*y3*d + x1*y1*y1*x2*y2*y2*x3*x3*x3*y3*y3*d*d + (-1)*x1*y1*y1*x2*y2*y2*x3*y3*y3*d + x1*y1*y1*x2*x3*x3*x3*y3*y3*d + (-1)*x1*y1*y1*x2*x3*x3*x3 + (-1)*x1*y1*y1*x2*x3*y3*y3 + x1*y1*y1*x2*x3 + (-1)*x1*y1*y1*y2*x3*x3*y3*y3*y3*d + x1*y1*y1*y2*x3*x3*y3 + x1*y1*y1*y2*y3*y3*y3 + (-1)*x1*y1*y1*y2*y3 + (-1)*x1*x2*x2*y2*x3*x3*y3*d + x1*x2*y2*y2*x3*y3*y3*d + (-1)*x1*x2*x3*x3*x3*y3*y3*d + x1*x2*x3*x3*x3 + x1*x2*x3*y3*y3 + (-1)*x1*x2*x3 + x1*y2*x3*x3*y3*y3*y3*d + (-1)*x1*y2*x3*x3*y3 + (-1)*x1*y2*y3*y3*y3 + x1*y2*y3 + y1*y1*y1*x2*x2*y2*x3*y3*y3*d + y1*y1*y1*x2*y2*y2*x3*x3*y3*d + (-1)*y1*y1*y1*x2*x3*x3*y3*y3*y3*d + y1*y1*y1*x2*x3*x3*y3 + y1*y1*y1*x2*y3*y3*y3 + (-1)*y1*y1*y1*x2*y3 + (-1)*y1*y1*y1*y2*x3*x3*x3*y3*y3*d + y1*y1*y1*y2*x3*x3*x3 + y1*y1*y1*y2*x3*y3*y3 + (-1)*y1*y1*y1*y2*x3 + (-1)*y1*x2*x2*y2*x3*y3*y3*d + (-1)*y1*x2*y2*y2*x3*x3*y3*d + y1*x2*x3*x3*y3*y3*y3*d + (-1)*y1*x2*x3*x3*y3 + (-1)*y1*x2*y3*y3*y3 + y1*x2*y3 + y1*y2*x3*x3*x3*y3*y3*d + (-1)*y1*y2*x3*x3*x3 + (-1)*y1*y2*x3*y3*y3 + y1*y2*x3) * (x2*x2+y2*y2-1-d*x2*x2*y2*y2) + (x1*x1*x1*x2*x2*x2*x3 + (-1)*x1*x1*x1*x2*x2*y2*y3 + x1*x1*x1*x2*y2*y2*x3 + (-1)*x1*x1*x1*x2*x3 + (-1)*x1*x1*x1*y2*y2*y2*y3 + x1*x1*x1*y2*y3 + (-1)*x1*x1*y1*x2*x2*x2*y3 + x1*x1*y1*x2*x2*y2*x3*d + (-1)*x1*x1*y1*x2*x2*y2*x3 + x1*x1*y1*x2*y2*y2*y3*d + (-1)*x1*x1*y1*x2*y2*y2*y3 + x1*x1*y1*x2*y3 + (-1)*x1*x1*y1*y2*y2*y2*x3 + x1*x1*y1*y2*x3 + x1*y1*y1*x2*x2*x2*x3 + x1*y1*y1*x2*x2*y2*y3*d + (-1)*x1*y1*y1*x2*x2*y2*y3 + (-1)*x1*y1*y1*x2*y2*y2*x3*d + x1*y1*y1*x2*y2*y2*x3 + (-1)*x1*y1*y1*x2*x3 + (-1)*x1*y1*y1*y2*y2*y2*y3 + x1*y1*y1*y2*y3 + (-1)*x1*x2*x2*x2*x3 + x1*x2*x2*y2*y3 + (-1)*x1*x2*y2*y2*x3 + x1*x2*x3 + x1*y2*y2*y2*y3 + (-1)*x1*y2*y3 + (-1)*y1*y1*y1*x2*x2*x2*y3 + (-1)*y1*y1*y1*x2*x2*y2*x3 + (-1)*y1*y1*y1*x2*y2*y2*y3 + y1*y1*y1*x2*y3 + (-1)*y1*y1*y1*y2*y2*y2*x3 + y1*y1*y1*y2*x3 + y1*x2*x2*x2*y3 + y1*x2*x2*y2*x3 + y1*x2*y2*y2*y3 + (-1)*y1*x2*y3 + y1*y2*y2*y2*x3 + (-1)*y1*y2*x3) * (x3*x3+y3*y3-1-d*x3*x3*y3*y3) := by
   clear z1 z2 z3
   grind
 rw [h, z1, z2, z3]
 exact zero3 _ _ _
theorem assoc_y {x1 y1 x2 y2 x3 y3 d : Fin n} (z1 : (x1*x1+y1*y1-1-d*x1*x1*y1*y1) = 0) (z2 : (x2*x2+y2*y2-1-d*x2*x2*y2*y2) = 0) (z3 : (x3*x3+y3*y3-1-d*x3*x3*y3*y3) = 0) : ((y1*y2-x1*x2)*(1+d*x1*x2*y1*y2)*y3-(x1*y2+x2*y1)*(1-d*x1*x2*y1*y2)*x3)*((1+d*x2*x3*y2*y3)*(1-d*x2*x3*y2*y3)-d*(x2*y3+x3*y2)*(y2*y3-x2*x3)*x1*y1) - ((y2*y3-x2*x3)*(1+d*x2*x3*y2*y3)*y1-(x2*y3+x3*y2)*(1-d*x2*x3*y2*y3)*x1)*((1+d*x1*x2*y1*y2)*(1-d*x1*x2*y1*y2)-d*(x1*y2+x2*y1)*(y1*y2-x1*x2)*x3*y3) = 0 := by
 have h : ((y1*y2-x1*x2)*(1+d*x1*x2*y1*y2)*y3-(x1*y2+x2*y1)*(1-d*x1*x2*y1*y2)*x3)*((1+d*x2*x3*y2*y3)*(1-d*x2*x3*y2*y3)-d*(x2*y3+x3*y2)*(y2*y3-x2*x3)*x1*y1) - ((y2*y3-x2*x3)*(1+d*x2*x3*y2*y3)*y1-(x2*y3+x3*y2)*(1-d*x2*x3*y2*y3)*x1)*((1+d*x1*x2*y1*y2)*(1-d*x1*x2*y1*y2)-d*(x1*y2+x2*y1)*(y1*y2-x1*x2)*x3*y3) =
   ((-1)*x1*x2*x2*x2*x2*y2*y2*y2*x3*y3*y3*d*d + x1*x2*x2*x2*x2*y2*x3*y3*y3*d + (-1)*x1*x2*x2*x2*y2*y2*y2*y2*x3*x3*y3*d*d + (-1)*x1*x2*x2*x2*y2*y2*y3*y3*y3*d + x1*x2*x2*x2*y2*y2*y3*d + (-1)*x1*x2*x2*y2*y2*y2*x3*x3*x3*d + x1*x2*x2*y2*y2*y2*x3*d + x1*x2*y2*y2*y2*y2*x3*x3*y3*d + y1*x2*x2*x2*x2*y2*y2*y2*x3*x3*y3*d*d + (-1)*y1*x2*x2*x2*x2*y2*x3*x3*y3*d + (-1)*y1*x2*x2*x2*y2*y2*y2*y2*x3*y3*y3*d*d + (-1)*y1*x2*x2*x2*y2*y2*x3*x3*x3*d + y1*x2*x2*x2*y2*y2*x3*d + y1*x2*x2*y2*y2*y2*y3*y3*y3*d + (-1)*y1*x2*x2*y2*y2*y2*y3*d + y1*x2*y2*y2*y2*y2*x3*y3*y3*d) * (x1*x1+y1*y1-1-d*x1*x1*y1*y1) + ((-1)*x1*x1*x1*x2*x2*y2*x3*y3*y3*d + (-1)*x1*x1*x1*x2*y2*y2*x3*x3*y3*d + x1*x1*x1*x2*x3*x3*y3*y3*y3*d + (-1)*x1*x1*x1*x2*x3*x3*y3 + (-1)*x1*x1*x1*x2*y3*y3*y3 + x1*x1*x1*x2*y3 + x1*x1*x1*y2*x3*x3*x3*y3*y3*d + (-1)*x1*x1*x1*y2*x3*x3*x3 + (-1)*x1*x1*x1*y2*x3*y3*y3 + x1*x1*x1*y2*x3 + (-1)*x1*x1*y1*x2*x2*y2*x3*x3*y3*y3*y3*d*d + x1*x1*y1*x2*x2*y2*x3*x3*y3*d + x1*x1*y1*x2*y2*y2*x3*x3*x3*y3*y3*d*d + (-1)*x1*x1*y1*x2*y2*y2*x3*y3*y3*d + x1*x1*y1*x2*x3*x3*x3*y3*y3*d + (-1)*x1*x1*y1*x2*x3*x3*x3 + (-1)*x1*x1*y1*x2*x3*y3*y3 + x1*x1*y1*x2*x3 + (-1)*x1*x1*y1*y2*x3*x3*y3*y3*y3*d + x1*x1*y1*y2*x3*x3*y3 + x1*x1*y1*y2*y3*y3*y3 + (-1)*x1*x1*y1*y2*y3 + x1*y1*y1*x2*x2*y2*x3*x3*x3*y3*y3*d*d + (-1)*x1*y1*y1*x2*x2*y2*x3*y3*y3*d + x1*y1*y1*x2*y2*y2*x3*x3*y3*y3*y3*d*d + (-1)*x1*y1*y1*x2*y2*y2*x3*x3*y3*d + x1*y1*y1*x2*x3*x3*y3*y3*y3*d + (-1)*x1*y1*y1*x2*x3*x3*y3 + (-1)*x1*y1*y1*x2*y3*y3*y3 + x1*y1*y1*x2*y3 + x1*y1*y1*y2*x3*x3*x3*y3*y3*d + (-1)*x1*y1*y1*y2*x3*x3*x3 + (-1)*x1*y1*y1*y2*x3*y3*y3 + x1*y1*y1*y2*x3 + x1*x2*x2*y2*x3*y3*y3*d + x1*x2*y2*y2*x3*x3*y3*d + (-1)*x1*x2*x3*x3*y3*y3*y3*d + x1*x2*x3*x3*y3 + x1*x2*y3*y3*y3 + (-1)*x1*x2*y3 + (-1)*x1*y2*x3*x3*x3*y3*y3*d + x1*y2*x3*x3*x3 + x1*y2*x3*y3*y3 + (-1)*x1*y2*x3 + y1*y1*y1*x2*x2*y2*x3*x3*y3*d + (-1)*y1*y1*y1*x2*y2*y2*x3*y3*y3*d + y1*y1*y1*x2*x3*x3*x3*y3*y3*d + (-1)*y1*y1*y1*x2*x3*x3*x3 + (-1)*y1*y1*y1*x2*x3*y3*y3 + y1*y1*y1*x2*x3 + (-1)*y1*y1*y1*y2*x3*x3*y3*y3*y3*d + y1*y1*y1*y2*x3*x3*y3 + y1*y1*y1*y2*y3*y3*y3 + (-1)*y1*y1*y1*y2*y3 + (-1)*y1*x2*x2*y2*x3*x3*y3*d + y1*x2*y2*y2*x3*y3*y3*d + (-1)*y1*x2*x3*x3*x3*y3*y3*d + y1*x2*x3*x3*x3 + y1*x2*x3*y3*y3 + (-1)*y1*x2*x3 + y1*y2*x3*x3*y3*y3*y3*d + (-1)*y1*y2*x3*x3*y3 + (-1)*y1*y2*y3*y3*y3 + y1*y2*y3) * (x2*x2+y2*y2-1-d*x2*x2*y2*y2) + (x1*x1*x1*x2*x2*x2*y3 + x1*x1*x1*x2*x2*y2*x3 + x1*x1*x1*x2*y2*y2*y3 + (-1)*x1*x1*x1*x2*y3 + x1*x1*x1*y2*y2*y2*x3 + (-1)*x1*x1*x1*y2*x3 + x1*x1*y1*x2*x2*x2*x3 + x1*x1*y1*x2*x2*y2*y3*d + (-1)*x1*x1*y1*x2*x2*y2*y3 + (-1)*x1*x1*y1*x2*y2*y2*x3*d + x1*x1*y1*x2*y2*y2*x3 + (-1)*x1*x1*y1*x2*x3 + (-1)*x1*x1*y1*y2*y2*y2*y3 + x1*x1*y1*y2*y3 + x1*y1*y1*x2*x2*x2*y3 + (-1)*x1*y1*y1*x2*x2*y2*x3*d + x1*y1*y1*x2*x2*y2*x3 + (-1)*x1*y1*y1*x2*y2*y2*y3*d + x1*y1*y1*x2*y2*y2*y3 + (-1)*x1*y1*y1*x2*y3 + x1*y1*y1*y2*y2*y2*x3 + (-1)*x1*y1*y1*y2*x3 + (-1)*x1*x2*x2*x2*y3 + (-1)*x1*x2*x2*y2*x3 + (-1)*x1*x2*y2*y2*y3 + x1*x2*y3 + (-1)*x1*y2*y2*y2*x3 + x1*y2*x3 + y1*y1*y1*x2*x2*x2*x3 + (-1)*y1*y1*y1*x2*x2*y2*y3 + y1*y1*y1*x2*y2*y2*x3 + (-1)*y1*y1*y1*x2*x3 + (-1)*y1*y1*y1*y2*y2*y2*y3 + y1*y1*y1*y2*y3 + (-1)*y1*x2*x2*x2*x3 + y1*x2*x2*y2*y3 + (-1)*y1*x2*y2*y2*x3 + y1*x2*x3 + y1*y2*y2*y2*y3 + (-1)*y1*y2*y3) * (x3*x3+y3*y3-1-d*x3*x3*y3*y3) := by
   clear z1 z2 z3
   grind
 rw [h, z1, z2, z3]
 exact zero3 _ _ _
omit [NeZero n] in
theorem pt_ext {p q : Pt n} (hx : p.x = q.x) (hy : p.y = q.y) : p = q := by
 cases p; cases q; simp_all
theorem comm (d : Fin n) (p q : Pt n) : add d p q = add d q p := by
 have e : d * p.x * q.x * p.y * q.y = d * q.x * p.x * q.y * p.y := by grind
 refine pt_ext ?_ ?_
 · show (p.x * q.y + q.x * p.y) * inv (1 + d * p.x * q.x * p.y * q.y) = (q.x * p.y + p.x * q.y) * inv (1 + d * q.x * p.x * q.y * p.y)
   rw [e, show p.x * q.y + q.x * p.y = q.x * p.y + p.x * q.y by grind]
 · show (p.y * q.y - p.x * q.x) * inv (1 - d * p.x * q.x * p.y * q.y) = (q.y * p.y - q.x * p.x) * inv (1 - d * q.x * p.x * q.y * p.y)
   rw [e, show p.y * q.y - p.x * q.x = q.y * p.y - q.x * p.x by grind]
theorem on_zero {d : Fin n} {p : Pt n} (h : On d p) : p.x*p.x+p.y*p.y-1-d*p.x*p.x*p.y*p.y = 0 := by
 unfold On at h
 generalize p.x = x at *
 generalize p.y = y at *
 grind
theorem up_x {R a b D1 N1 D2 N2 x y d : Fin n} (ax : a * D1 = N1) (ay : b * D2 = N2) (r : R * (1 + d * a * x * b * y) = a * y + x * b) : R * (D1 * D2 + d * N1 * N2 * x * y) = N1 * D2 * y + x * N2 * D1 ∧ D1 * D2 + d * N1 * N2 * x * y = D1 * D2 * (1 + d * a * x * b * y) := by
 subst ax ay
 constructor
 · grind
 · grind
theorem up_y {R a b D1 N1 D2 N2 x y d : Fin n} (ax : a * D1 = N1) (ay : b * D2 = N2) (r : R * (1 - d * a * x * b * y) = b * y - a * x) : R * (D1 * D2 - d * N1 * N2 * x * y) = N2 * D1 * y - N1 * D2 * x ∧ D1 * D2 - d * N1 * N2 * x * y = D1 * D2 * (1 - d * a * x * b * y) := by
 subst ax ay
 constructor
 · grind
 · grind
theorem cross (F : Fld n) {R T u v p q : Fin n} (hu : u ≠ 0) (hv : v ≠ 0) (h1 : R * u = p) (h2 : T * v = q) (h : p * v - q * u = 0) : R = T := by
 refine F.cancel (F.mul hu hv) ?_
 subst h1 h2
 grind
theorem assoc (F : Fld n) {d : Fin n} (ns : NS d) {p q s : Pt n} (hp : On d p) (hq : On d q) (hs : On d s) : add d (add d p q) s = add d p (add d q s) := by
 have hA := add_on F ns hp hq
 have hB := add_on F ns hq hs
 have d1 := den F ns hp hq
 have d2 := den F ns hq hs
 have d3 := den F ns hA hs
 have d4 := den F ns hB hp
 have ux := up_x (add_x F ns hp hq) (add_y F ns hp hq) (add_x F ns hA hs)
 have uy := up_y (add_x F ns hp hq) (add_y F ns hp hq) (add_y F ns hA hs)
 have vx := up_x (add_x F ns hq hs) (add_y F ns hq hs) (add_x F ns hB hp)
 have vy := up_y (add_x F ns hq hs) (add_y F ns hq hs) (add_y F ns hB hp)
 have cx := assoc_x (on_zero hp) (on_zero hq) (on_zero hs)
 have cy := assoc_y (on_zero hp) (on_zero hq) (on_zero hs)
 have hx : (add d (add d p q) s).x = (add d (add d q s) p).x := cross F (by rw [ux.2]; exact F.mul (F.mul d1.1 d1.2) d3.1) (by rw [vx.2]; exact F.mul (F.mul d2.1 d2.2) d4.1) ux.1 vx.1 cx
 have hy : (add d (add d p q) s).y = (add d (add d q s) p).y := cross F (by rw [uy.2]; exact F.mul (F.mul d1.1 d1.2) d3.2) (by rw [vy.2]; exact F.mul (F.mul d2.1 d2.2) d4.2) uy.1 vy.1 cy
 rw [comm d p (add d q s)]
 exact pt_ext hx hy
def O : Pt n := ⟨0, 1⟩
def neg (p : Pt n) : Pt n := ⟨-p.x, p.y⟩
theorem O_on (d : Fin n) : On d (O : Pt n) := by
 show (0 : Fin n) * 0 + 1 * 1 = 1 + d * 0 * 0 * 1 * 1
 grind
theorem neg_on {d : Fin n} {p : Pt n} (h : On d p) : On d (neg p) := by
 unfold On at *
 show (-p.x) * (-p.x) + p.y * p.y = 1 + d * (-p.x) * (-p.x) * p.y * p.y
 grind
theorem O_add (F : Fld n) {d : Fin n} (ns : NS d) {p : Pt n} (hp : On d p) : add d O p = p := by
 refine (add_eq F ns (O_on d) hp ?_ ?_).symm
 · show p.x * (1 + d * 0 * p.x * 1 * p.y) = 0 * p.y + p.x * 1
   grind
 · show p.y * (1 - d * 0 * p.x * 1 * p.y) = 1 * p.y - 0 * p.x
   grind
theorem neg_add (F : Fld n) {d : Fin n} (ns : NS d) {p : Pt n} (hp : On d p) : add d (neg p) p = O := by
 refine (add_eq F ns (neg_on hp) hp ?_ ?_).symm
 · show 0 * (1 + d * (-p.x) * p.x * p.y * p.y) = -p.x * p.y + p.x * p.y
   grind
 · show 1 * (1 - d * (-p.x) * p.x * p.y * p.y) = p.y * p.y - -p.x * p.x
   unfold On at hp
   grind
noncomputable def mul (d : Fin n) : Nat → Pt n → Pt n
 | 0, _ => O
 | k + 1, p => add d (mul d k p) p
theorem mul_on (F : Fld n) {d : Fin n} (ns : NS d) {p : Pt n} (hp : On d p) : ∀ k, On d (mul d k p)
 | 0 => O_on d
 | k + 1 => add_on F ns (mul_on F ns hp k) hp
theorem mul_one (F : Fld n) {d : Fin n} (ns : NS d) {p : Pt n} (hp : On d p) : mul d 1 p = p := O_add F ns hp
theorem mul_add (F : Fld n) {d : Fin n} (ns : NS d) {p : Pt n} (hp : On d p) (j : Nat) : ∀ k, mul d (j + k) p = add d (mul d j p) (mul d k p)
 | 0 => by
   show mul d j p = add d (mul d j p) O
   rw [comm, O_add F ns (mul_on F ns hp j)]
 | k + 1 => by
   show add d (mul d (j + k) p) p = add d (mul d j p) (add d (mul d k p) p)
   rw [mul_add F ns hp j k, assoc F ns (mul_on F ns hp j) (mul_on F ns hp k) hp]
theorem mul_mul (F : Fld n) {d : Fin n} (ns : NS d) {p : Pt n} (hp : On d p) (k : Nat) : ∀ j, mul d j (mul d k p) = mul d (j * k) p
 | 0 => by rw [Nat.zero_mul]; rfl
 | j + 1 => by
   show add d (mul d j (mul d k p)) (mul d k p) = _
   rw [mul_mul F ns hp k j, Nat.add_mul, Nat.one_mul, mul_add F ns hp]
theorem mul_O (F : Fld n) {d : Fin n} (ns : NS d) : ∀ k, mul d k (O : Pt n) = O
 | 0 => rfl
 | k + 1 => by
   show add d (mul d k O) O = O
   rw [mul_O F ns k, O_add F ns (O_on d)]
theorem back (F : Fld n) {d : Fin n} (ns : NS d) {p q : Pt n} (hp : On d p) (hq : On d q) : add d (neg q) (add d q p) = p := by
 rw [← assoc F ns (neg_on hq) hq hp, neg_add F ns hq, O_add F ns hp]
def Rep (s X Z y : Fin n) : Prop := ∃ l : Fin n, l ≠ 0 ∧ X = l * (1 + y) ∧ Z = l * (s * (1 - y))
structure Con (s d k c : Fin n) : Prop where
 one : k * (1 - d) = 1
 sq : s * s = 1
 fit : (s = 1 ∧ k = c + 1) ∨ (s = -1 ∧ k = -c)
theorem not_one (F : Fld n) {d : Fin n} (ns : NS d) (y : Fin n) : 1 - d * y * y ≠ 0 := fun h => by
 have h1 := ns 1 y (by grind)
 rw [h1] at h
 exact F.one (by grind)
theorem k_ne (F : Fld n) {s d k c : Fin n} (h : Con s d k c) : k ≠ 0 := fun e => F.one (by have := h.one; rw [e] at this; grind)
theorem eight (F : Fld n) : (8 : Fin n) ≠ 0 := by
 have h := F.mul (F.mul F.two F.two) F.two
 have e : (2 : Fin n) * 2 * 2 = 8 := by grind
 rwa [e] at h
theorem sixteen (F : Fld n) : (16 : Fin n) ≠ 0 := by
 have h := F.mul (eight F) F.two
 have e : (8 : Fin n) * 2 = 16 := by grind
 rwa [e] at h
theorem pair_core {d x1 y1 x2 y2 : Fin n} (e1 : x1 * x1 + y1 * y1 = 1 + d * x1 * x1 * y1 * y1) (e2 : x2 * x2 + y2 * y2 = 1 + d * x2 * x2 * y2 * y2) :
   (1 - d * x1 * x2 * y1 * y2 + (y1 * y2 - x1 * x2)) * (1 + d * x1 * x2 * y1 * y2 + (y1 * y2 + x1 * x2)) * ((1 - d * y1 * y1) * (1 - d * y2 * y2)) = (y1 + y2) * (y1 + y2) * (1 - d * y1 * y1 * y2 * y2) * (1 - d) ∧
   (1 - d * x1 * x2 * y1 * y2 - (y1 * y2 - x1 * x2)) * (1 + d * x1 * x2 * y1 * y2 - (y1 * y2 + x1 * x2)) * ((1 - d * y1 * y1) * (1 - d * y2 * y2)) = (y1 - y2) * (y1 - y2) * (1 - d * y1 * y1 * y2 * y2) * (1 - d) := by
 have a1 : x1 * x1 * (1 - d * y1 * y1) = 1 - y1 * y1 := by grind
 have a2 : x2 * x2 * (1 - d * y2 * y2) = 1 - y2 * y2 := by grind
 have b : (x1 * x1 * (1 - d * y1 * y1)) * (x2 * x2 * (1 - d * y2 * y2)) = (1 - y1 * y1) * (1 - y2 * y2) := by rw [a1, a2]
 clear a1 a2 e1 e2
 constructor
 · have h : (1 - d * x1 * x2 * y1 * y2 + (y1 * y2 - x1 * x2)) * (1 + d * x1 * x2 * y1 * y2 + (y1 * y2 + x1 * x2)) * ((1 - d * y1 * y1) * (1 - d * y2 * y2)) = (1 + y1 * y2) * (1 + y1 * y2) * ((1 - d * y1 * y1) * (1 - d * y2 * y2)) - (x1 * x1 * (1 - d * y1 * y1)) * (x2 * x2 * (1 - d * y2 * y2)) * ((1 + d * y1 * y2) * (1 + d * y1 * y2)) := by
     clear b
     grind
   rw [h, b]
   clear b h
   grind
 · have h : (1 - d * x1 * x2 * y1 * y2 - (y1 * y2 - x1 * x2)) * (1 + d * x1 * x2 * y1 * y2 - (y1 * y2 + x1 * x2)) * ((1 - d * y1 * y1) * (1 - d * y2 * y2)) = (1 - y1 * y2) * (1 - y1 * y2) * ((1 - d * y1 * y1) * (1 - d * y2 * y2)) - (x1 * x1 * (1 - d * y1 * y1)) * (x2 * x2 * (1 - d * y2 * y2)) * ((1 - d * y1 * y2) * (1 - d * y1 * y2)) := by
     clear b
     grind
   rw [h, b]
   clear b h
   grind
theorem sum_core {d e y1 y2 y0 r a b t : Fin n} (hr : r * (1 - e) = a - b) (h0 : y0 * (1 + e) = a + b) (h1 : (1 - e + (a - b)) * (1 + e + (a + b)) * t = (y1 + y2) * (y1 + y2) * (1 - d * y1 * y1 * y2 * y2) * (1 - d)) (h2 : (1 - e - (a - b)) * (1 + e - (a + b)) * t = (y1 - y2) * (y1 - y2) * (1 - d * y1 * y1 * y2 * y2) * (1 - d)) :
   (1 + r) * (1 + y0) * ((1 - e) * (1 + e) * t) = (y1 + y2) * (y1 + y2) * (1 - d * y1 * y1 * y2 * y2) * (1 - d) ∧ (1 - r) * (1 - y0) * ((1 - e) * (1 + e) * t) = (y1 - y2) * (y1 - y2) * (1 - d * y1 * y1 * y2 * y2) * (1 - d) := by
 rw [← h1, ← h2, ← hr, ← h0]
 clear h1 h2 hr h0
 constructor
 · grind
 · grind
theorem four_sq {s l m y1 y2 X Z X3 Z3 : Fin n} (hs : s = 1 ∨ s = -1) (hX : X = l * (1 + y1)) (hZ : Z = l * (s * (1 - y1))) (hX3 : X3 = m * (1 + y2)) (hZ3 : Z3 = m * (s * (1 - y2))) :
   ((X3 - Z3) * (X + Z) + (X3 + Z3) * (X - Z)) * ((X3 - Z3) * (X + Z) + (X3 + Z3) * (X - Z)) = 16 * (l * l) * (m * m) * ((y1 + y2) * (y1 + y2)) ∧ ((X3 - Z3) * (X + Z) - (X3 + Z3) * (X - Z)) * ((X3 - Z3) * (X + Z) - (X3 + Z3) * (X - Z)) = 16 * (l * l) * (m * m) * ((y1 - y2) * (y1 - y2)) := by
 subst hX hZ hX3 hZ3
 rcases hs with h | h
 · subst h
   constructor
   · grind
   · grind
 · subst h
   constructor
   · grind
   · grind
theorem rep_sum (F : Fld n) {d s k c X Z X3 Z3 u : Fin n} {p q : Pt n} (ns : NS d) (hc : Con s d k c) (hp : On d p) (hq : On d q) (hu : u * (s * (1 - p.y)) = 1 + p.y) (hn : 1 + p.y ≠ 0) (h1 : Rep s X Z q.y) (h2 : Rep s X3 Z3 (add d q p).y) :
   Rep s (((X3 - Z3) * (X + Z) + (X3 + Z3) * (X - Z)) * ((X3 - Z3) * (X + Z) + (X3 + Z3) * (X - Z))) (u * (((X3 - Z3) * (X + Z) - (X3 + Z3) * (X - Z)) * ((X3 - Z3) * (X + Z) - (X3 + Z3) * (X - Z)))) (add d q (add d q p)).y := by
 obtain ⟨l, hl, hX, hZ⟩ := h1
 obtain ⟨m, hm, hX3, hZ3⟩ := h2
 have hQ := add_on F ns hq hp
 have hr := add_y F ns hq hQ
 have h0 := add_y F ns (neg_on hq) hQ
 rw [back F ns hp hq] at h0
 have hd := den F ns hq hQ
 have hk := k_ne F hc
 have hk1 := hc.one
 have h16 := sixteen F
 have hs : s = 1 ∨ s = -1 := by
   rcases hc.fit with h | h
   · exact .inl h.1
   · exact .inr h.1
 have hss := hc.sq
 have n1 := not_one F ns q.y
 have n2 := not_one F ns (add d q p).y
 have n12 := not_one F ns (q.y * (add d q p).y)
 obtain ⟨c1, c2⟩ := pair_core hq hQ
 obtain ⟨f1, f2⟩ := four_sq hs hX hZ hX3 hZ3
 have h0' : p.y * (1 + d * q.x * (add d q p).x * q.y * (add d q p).y) = q.y * (add d q p).y + q.x * (add d q p).x := by
   have e1 : (neg q).x = -q.x := rfl
   have e2 : (neg q).y = q.y := rfl
   rw [e1, e2] at h0
   clear c1 c2 f1 f2 n1 n2 n12 hd hX hZ hX3 hZ3 hr hu hss hs hk1 ns hc hQ hq hp
   generalize (add d q p).x = x2 at *
   generalize (add d q p).y = y2 at *
   grind
 obtain ⟨g1, g2⟩ := sum_core hr h0' c1 c2
 clear c1 c2 h0 h0' hr hX hZ hX3 hZ3
 rw [f1, f2]
 clear f1 f2
 generalize (add d q (add d q p)).y = r at *
 have n12' : 1 - d * q.y * q.y * (add d q p).y * (add d q p).y ≠ 0 := fun e => n12 (by rw [← e]; clear n1 n2 n12 hd g1 g2; grind)
 obtain ⟨w, hw⟩ := F.inv _ n12'
 have hw0 : w ≠ 0 := fun e => F.one (by rw [← hw, e]; grind)
 generalize hPi : (1 - d * q.x * (add d q p).x * q.y * (add d q p).y) * (1 + d * q.x * (add d q p).x * q.y * (add d q p).y) * ((1 - d * q.y * q.y) * (1 - d * (add d q p).y * (add d q p).y)) = Pi at *
 have hPi0 : Pi ≠ 0 := by
   rw [← hPi]
   exact F.mul (F.mul hd.2 hd.1) (F.mul n1 n2)
 clear hPi n1 n2 n12 n12' hd
 generalize q.y = y1 at *
 generalize (add d q p).y = y2 at *
 generalize p.y = y0 at *
 generalize 1 - d * y1 * y1 * y2 * y2 = K at *
 have hnu : 16 * (l * l) * (m * m) * (1 + y0) * Pi * (k * w) ≠ 0 := F.mul (F.mul (F.mul (F.mul (F.mul h16 (F.mul hl hl)) (F.mul hm hm)) hn) hPi0) (F.mul hk hw0)
 refine ⟨_, hnu, ?_, ?_⟩
 · have e : 16 * (l * l) * (m * m) * (1 + y0) * Pi * (k * w) * (1 + r) = 16 * (l * l) * (m * m) * (k * w) * ((1 + r) * (1 + y0) * Pi) := by
     clear g1 g2 hk1 hw hu hnu
     grind
   rw [e, g1]
   have e2 : 16 * (l * l) * (m * m) * (k * w) * ((y1 + y2) * (y1 + y2) * K * (1 - d)) = 16 * (l * l) * (m * m) * ((y1 + y2) * (y1 + y2)) * (K * w) * (k * (1 - d)) := by
     clear g1 g2 hk1 hw hu hnu e
     grind
   rw [e2, hw, hk1]
   clear g1 g2 hk1 hw hu hnu e e2
   grind
 · have e : 16 * (l * l) * (m * m) * (1 + y0) * Pi * (k * w) * (s * (1 - r)) = 16 * (l * l) * (m * m) * (k * w) * u * (s * s) * ((1 - r) * (1 - y0) * Pi) := by
     rw [← hu]
     clear g1 g2 hk1 hw hu hnu
     grind
   rw [e, g2, hss]
   have e2 : 16 * (l * l) * (m * m) * (k * w) * u * 1 * ((y1 - y2) * (y1 - y2) * K * (1 - d)) = u * (16 * (l * l) * (m * m) * ((y1 - y2) * (y1 - y2))) * (K * w) * (k * (1 - d)) := by
     clear g1 g2 hk1 hw hu hnu e
     grind
   rw [e2, hw, hk1]
   clear g1 g2 hk1 hw hu hnu e e2
   grind
def Val (s v : Fin n) (q : Pt n) : Prop := (q.y = 1 → v = 0) ∧ (q.y ≠ 1 → v * (s * (1 - q.y)) = 1 + q.y)
def Out (a b v : Fin n) : Prop := (b = 0 → v = 0) ∧ (b ≠ 0 → v * b = a)
structure S4 (n : Nat) where
 a : Fin n
 b : Fin n
 c : Fin n
 d : Fin n
def dx (x z : Fin n) : Fin n := (x + z) * (x + z) * ((x - z) * (x - z))
def dz (c x z : Fin n) : Fin n := ((x + z) * (x + z) - (x - z) * (x - z)) * ((x + z) * (x + z) + c * ((x + z) * (x + z) - (x - z) * (x - z)))
def sx (a b c d : Fin n) : Fin n := ((c - d) * (a + b) + (c + d) * (a - b)) * ((c - d) * (a + b) + (c + d) * (a - b))
def sz (u a b c d : Fin n) : Fin n := u * (((c - d) * (a + b) - (c + d) * (a - b)) * ((c - d) * (a + b) - (c + d) * (a - b)))
def stepF (c u : Fin n) (st : Bool) (S : S4 n) : S4 n := match st with
 | true => ⟨sx S.a S.b S.c S.d, sz u S.a S.b S.c S.d, dx S.c S.d, dz c S.c S.d⟩
 | false => ⟨dx S.a S.b, dz c S.a S.b, sx S.a S.b S.c S.d, sz u S.a S.b S.c S.d⟩
def ladF (c u : Fin n) (bits : Nat → Bool) : Nat → S4 n
 | 0 => ⟨1, 0, u, 1⟩
 | k + 1 => stepF c u (bits k) (ladF c u bits k)
def numF (bits : Nat → Bool) : Nat → Nat
 | 0 => 0
 | k + 1 => numF bits k + numF bits k + (bits k).toNat
end
end Go.Proofs.YthpibkpljakeeaaDoor.Edw

namespace Go.Proofs.YthpibkpljakeeaaDoor
open Go.RowKit
def ph (n : Nat) [NeZero n] (m : Nat) : Fin n := Fin.ofNat n m
section
variable {n : Nat} [NeZero n]
theorem ph_val (m : Nat) : (ph n m).val = m % n := rfl
theorem ph_self (x : Fin n) : ph n x.val = x := Fin.ext (by rw [ph_val]; exact Nat.mod_eq_of_lt x.isLt)
theorem ph_mod (m : Nat) : ph n (m % n) = ph n m := Fin.ext (by rw [ph_val, ph_val, Nat.mod_mod])
theorem ph_add (a b : Nat) : ph n (a + b) = ph n a + ph n b := Fin.ext (by rw [ph_val, Fin.val_add, ph_val, ph_val, ← Nat.add_mod])
theorem ph_mul (a b : Nat) : ph n (a * b) = ph n a * ph n b := Fin.ext (by rw [ph_val, Fin.val_mul, ph_val, ph_val, ← Nat.mul_mod])
theorem ph_zero : ph n 0 = 0 := rfl
theorem ph_sub {a b : Nat} (hb : b < n) : ph n (a + n - b) = ph n a - ph n b := by
 have h : ph n (a + n - b) + ph n b = ph n a := by
   rw [← ph_add]
   refine Fin.ext ?_
   rw [ph_val, ph_val, show a + n - b + b = a + n by omega, Nat.add_mod_right]
 rw [← h]
 grind
theorem z_mul (x : Fin n) : 0 * x = 0 := by grind
theorem mul_z (x : Fin n) : x * 0 = 0 := by grind
theorem neg_two (h : (1 : Fin n) = -1 * (1 * 1)) : (2 : Fin n) = 0 := by grind
end
instance pnz : NeZero NT.PN := ⟨by decide⟩
theorem pn_pos' : 0 < NT.PN := by decide
def pwN (h m : Nat) : Nat := m ^ h % NT.PN
theorem pwN_mul (h a b : Nat) : pwN h (a * b % NT.PN) = pwN h a * pwN h b % NT.PN := by
 unfold pwN
 rw [← Nat.pow_mod, Nat.mul_pow, Nat.mul_mod]
theorem pwN_sq {h : Nat} (h2 : h + h = NT.PN - 1) {a : Nat} (h0 : 0 < a) (ha : a < NT.PN) : pwN h a * pwN h a % NT.PN = 1 := by
 unfold pwN
 rw [← Nat.mul_mod, ← Nat.pow_add, h2]
 exact NT.fermat a h0 ha
def HF : Nat := (NT.PN - 1) / 2
theorem hf_two : HF + HF = NT.PN - 1 := by decide
theorem pwN_is {h a v : Nat} (e : a ^ h % NT.PN = v) : pwN h a = v := e
theorem k_half : (121665 * 121666) ^ ((NT.PN - 1) / 2) % NT.PN = NT.PN - 1 := NT.pow_is 255 (by decide) (by kernel_rfl)
theorem hf_eq : HF = (NT.PN - 1) / 2 := rfl
theorem pw_k : pwN HF (121665 * 121666) = NT.PN - 1 := by
 have h := pwN_is k_half
 rw [← hf_eq] at h
 exact h
theorem inv_gen {x k : Nat} (hf : x ^ (k + 1) % NT.PN = 1) : x * (x ^ k % NT.PN) % NT.PN = 1 := by
 rw [Nat.mul_mod, Nat.mod_mod, ← Nat.mul_mod, Nat.mul_comm, ← Nat.pow_succ]
 exact hf
theorem pn_two : NT.PN - 1 = (NT.PN - 2) + 1 := by decide
theorem fermat_inv {x : Nat} (h0 : 0 < x) (hx : x < NT.PN) : x * (x ^ (NT.PN - 2) % NT.PN) % NT.PN = 1 := by
 have hf := NT.fermat x h0 hx
 rw [pn_two] at hf
 exact inv_gen hf
theorem ph_one {m : Nat} (h : m % NT.PN = 1) : ph NT.PN m = 1 := by
 rw [← ph_mod, h]
 exact Fin.ext (by rw [ph_val]; rfl)
theorem fin_pos {x : Fin NT.PN} (hx : x ≠ 0) : 0 < x.val := Nat.pos_of_ne_zero fun e => hx (Fin.ext e)
theorem pn_fld : Edw.Fld NT.PN where
 inv := fun x hx => by
   have hf := fermat_inv (fin_pos hx) x.isLt
   generalize x.val ^ (NT.PN - 2) % NT.PN = w at hf
   have h1 := ph_one hf
   rw [ph_mul, ph_self] at h1
   exact ⟨_, h1⟩
 two := fun h => by
   have := congrArg Fin.val h
   exact absurd this (by decide)
def pw (x : Fin NT.PN) : Fin NT.PN := ph NT.PN (pwN HF x.val)
theorem pw_mul (x y : Fin NT.PN) : pw (x * y) = pw x * pw y := by
 unfold pw
 rw [Fin.val_mul, pwN_mul, ph_mod, ph_mul]
theorem pw_sq {x : Fin NT.PN} (hx : x ≠ 0) : pw x * pw x = 1 := by
 unfold pw
 rw [← ph_mul]
 exact ph_one (pwN_sq hf_two (fin_pos hx) x.isLt)
def cF : Fin NT.PN := ph NT.PN 121665
theorem cc_val : (cF * (cF + 1)).val = 121665 * 121666 := by decide
theorem pw_cc : pw (cF * (cF + 1)) = -1 := by
 unfold pw
 rw [cc_val, pw_k]
 exact Fin.ext (by decide)
theorem cc_ne : cF * (cF + 1) ≠ 0 := fun h => by
 have := congrArg Fin.val h
 rw [cc_val] at this
 exact absurd this (by decide)
theorem no_root (a b : Fin NT.PN) (h : a * a = cF * (cF + 1) * (b * b)) : b = 0 := by
 refine Classical.byContradiction fun hb => ?_
 have ha : a ≠ 0 := fun e => by
   rw [e] at h
   have h2 : cF * (cF + 1) * (b * b) = 0 := by rw [← h]; grind
   rcases pn_fld.dom h2 with h3 | h3
   · exact cc_ne h3
   · rcases pn_fld.dom h3 with h4 | h4 <;> exact hb h4
 have h1 : pw (a * a) = pw (cF * (cF + 1) * (b * b)) := by rw [h]
 rw [pw_mul a a, pw_mul (cF * (cF + 1)) (b * b), pw_mul b b, pw_sq ha, pw_sq hb, pw_cc] at h1
 exact pn_fld.two (neg_two h1)
open Go.RowKit
structure C4 (n : Nat) where
 x : Fin n
 y : Fin n
 z : Fin n
 t : Fin n
section
variable {n : Nat} [NeZero n]
def addC (d : Fin n) (p q : C4 n) : C4 n :=
 let minus := (p.y - p.x) * (q.y - q.x)
 let plus := (p.y + p.x) * (q.y + q.x)
 let zz := p.z * q.z
 let dtt := d * p.t * q.t
 let x := plus - minus
 let y := plus + minus
 let bx := (zz + dtt) + (zz + dtt)
 let by' := (zz - dtt) + (zz - dtt)
 ⟨x * by', y * bx, bx * by', x * y⟩
def negC (p : C4 n) : C4 n := ⟨0 - p.x, p.y, p.z, 0 - p.t⟩
def atC (x y : Fin n) : C4 n := ⟨x, y, 1, x * y⟩
def noC : C4 n := ⟨0, 0, 0, 0⟩
structure Rep4 (i : Fin n) (c : C4 n) (P : Edw.Pt n) : Prop where
 nz : c.z ≠ 0
 x : c.x = -(i * P.x * c.z)
 y : c.y = P.y * c.z
 t : c.t = -(i * P.x * P.y * c.z)
theorem add_alg {i d e p q u v Z W : Fin n} (hi : i * i = -1) (he : d = -e) :
   d * -(i * p * q * Z) * -(i * u * v * W) = Z * W * (e * p * u * q * v) ∧
   (q * Z + -(i * p * Z)) * (v * W + -(i * u * W)) - (q * Z - -(i * p * Z)) * (v * W - -(i * u * W)) = -(i * (p * v + u * q) * (Z * W)) - i * (p * v + u * q) * (Z * W) ∧
   (q * Z + -(i * p * Z)) * (v * W + -(i * u * W)) + (q * Z - -(i * p * Z)) * (v * W - -(i * u * W)) = (q * v - p * u) * (Z * W) + (q * v - p * u) * (Z * W) := by
 refine ⟨?_, ?_, ?_⟩ <;> grind
theorem two_ne (F : Edw.Fld n) {x : Fin n} (hx : x ≠ 0) : x + x ≠ 0 := fun h => by
 have h2 : (2 : Fin n) * x = 0 := by grind
 rcases F.dom h2 with h3 | h3
 · exact F.two h3
 · exact hx h3
theorem fin_x {i r s a b A B : Fin n} (ha : r * a = s) : (-(i * s * A) - i * s * A) * (A * b + A * b) = -(i * r * ((A * a + A * a) * (A * b + A * b))) := by grind
theorem fin_y {r s a b A : Fin n} (hb : r * b = s) : (s * A + s * A) * (A * a + A * a) = r * ((A * a + A * a) * (A * b + A * b)) := by grind
theorem fin_t {i r r' s s' a b A : Fin n} (ha : r * a = s) (hb : r' * b = s') : (-(i * s * A) - i * s * A) * (s' * A + s' * A) = -(i * r * r' * ((A * a + A * a) * (A * b + A * b))) := by grind
theorem up1 (Z f : Fin n) : Z + Z * f = Z * (1 + f) := by grind
theorem up2 (Z f : Fin n) : Z - Z * f = Z * (1 - f) := by grind
theorem rep_add (F : Edw.Fld n) {i d e : Fin n} (ns : Edw.NS e) (hi : i * i = -1) (he : d = -e) {c c' : C4 n} {P Q : Edw.Pt n} (hP : Edw.On e P) (hQ : Edw.On e Q) (h : Rep4 i c P) (k : Rep4 i c' Q) : Rep4 i (addC d c c') (Edw.add e P Q) := by
 obtain ⟨d1, d2⟩ := Edw.den F ns hP hQ
 have ex := Edw.add_x F ns hP hQ
 have ey := Edw.add_y F ns hP hQ
 have hz := F.mul h.nz k.nz
 obtain ⟨a1, a2, a3⟩ := add_alg (p := P.x) (q := P.y) (u := Q.x) (v := Q.y) (Z := c.z) (W := c'.z) hi he
 have e1 : c.z * c'.z + d * c.t * c'.t = (c.z * c'.z) * (1 + e * P.x * Q.x * P.y * Q.y) := by rw [h.t, k.t, a1, up1]
 have e2 : c.z * c'.z - d * c.t * c'.t = (c.z * c'.z) * (1 - e * P.x * Q.x * P.y * Q.y) := by rw [h.t, k.t, a1, up2]
 have e3 : (c.y + c.x) * (c'.y + c'.x) - (c.y - c.x) * (c'.y - c'.x) = -(i * (P.x * Q.y + Q.x * P.y) * (c.z * c'.z)) - i * (P.x * Q.y + Q.x * P.y) * (c.z * c'.z) := by rw [h.x, h.y, k.x, k.y]; exact a2
 have e4 : (c.y + c.x) * (c'.y + c'.x) + (c.y - c.x) * (c'.y - c'.x) = (P.y * Q.y - P.x * Q.x) * (c.z * c'.z) + (P.y * Q.y - P.x * Q.x) * (c.z * c'.z) := by rw [h.x, h.y, k.x, k.y]; exact a3
 constructor
 · show ((c.z * c'.z + d * c.t * c'.t) + (c.z * c'.z + d * c.t * c'.t)) * ((c.z * c'.z - d * c.t * c'.t) + (c.z * c'.z - d * c.t * c'.t)) ≠ 0
   rw [e1, e2]
   exact F.mul (two_ne F (F.mul hz d1)) (two_ne F (F.mul hz d2))
 · show ((c.y + c.x) * (c'.y + c'.x) - (c.y - c.x) * (c'.y - c'.x)) * ((c.z * c'.z - d * c.t * c'.t) + (c.z * c'.z - d * c.t * c'.t)) = -(i * (Edw.add e P Q).x * (((c.z * c'.z + d * c.t * c'.t) + (c.z * c'.z + d * c.t * c'.t)) * ((c.z * c'.z - d * c.t * c'.t) + (c.z * c'.z - d * c.t * c'.t))))
   rw [e1, e2, e3]
   exact fin_x (B := 0) ex
 · show ((c.y + c.x) * (c'.y + c'.x) + (c.y - c.x) * (c'.y - c'.x)) * ((c.z * c'.z + d * c.t * c'.t) + (c.z * c'.z + d * c.t * c'.t)) = (Edw.add e P Q).y * (((c.z * c'.z + d * c.t * c'.t) + (c.z * c'.z + d * c.t * c'.t)) * ((c.z * c'.z - d * c.t * c'.t) + (c.z * c'.z - d * c.t * c'.t)))
   rw [e1, e2, e4]
   exact fin_y ey
 · show ((c.y + c.x) * (c'.y + c'.x) - (c.y - c.x) * (c'.y - c'.x)) * ((c.y + c.x) * (c'.y + c'.x) + (c.y - c.x) * (c'.y - c'.x)) = -(i * (Edw.add e P Q).x * (Edw.add e P Q).y * (((c.z * c'.z + d * c.t * c'.t) + (c.z * c'.z + d * c.t * c'.t)) * ((c.z * c'.z - d * c.t * c'.t) + (c.z * c'.z - d * c.t * c'.t))))
   rw [e1, e2, e3, e4]
   exact fin_t ex ey
theorem neg_alg (i p q Z : Fin n) : 0 - -(i * p * Z) = -(i * -p * Z) ∧ 0 - -(i * p * q * Z) = -(i * -p * q * Z) := by
 constructor <;> grind
theorem rep_neg {i : Fin n} {c : C4 n} {P : Edw.Pt n} (h : Rep4 i c P) : Rep4 i (negC c) (Edw.neg P) := by
 refine ⟨h.nz, ?_, h.y, ?_⟩
 · show 0 - c.x = _
   rw [h.x]; exact (neg_alg i P.x P.y c.z).1
 · show 0 - c.t = _
   rw [h.t]; exact (neg_alg i P.x P.y c.z).2
theorem at_alg (i x y : Fin n) (hi : i * i = -1) : x = -(i * (i * x) * 1) ∧ y = y * 1 ∧ x * y = -(i * (i * x) * y * 1) := by
 refine ⟨?_, ?_, ?_⟩ <;> grind
theorem rep_at (F : Edw.Fld n) {i : Fin n} (hi : i * i = -1) (x y : Fin n) : Rep4 i (atC x y) ⟨i * x, y⟩ := by
 obtain ⟨a, b, c⟩ := at_alg i x y hi
 exact ⟨F.one, a, b, c⟩
theorem rep_nought (F : Edw.Fld n) {i : Fin n} (hi : i * i = -1) : Rep4 i (atC 0 1) Edw.O := by
 have h := rep_at F hi 0 1
 have e : (⟨i * 0, 1⟩ : Edw.Pt n) = Edw.O := by rw [mul_z]; rfl
 rwa [e] at h
theorem rep_aff {i v : Fin n} {c : C4 n} {P : Edw.Pt n} (h : Rep4 i c P) (hv : c.z * v = 1) : c.x * v = -(i * P.x) ∧ c.y * v = P.y := by
 rw [h.x, h.y]
 generalize c.z = z at *
 clear h
 constructor <;> grind
structure C3 (n : Nat) where
 x : Fin n
 y : Fin n
 z : Fin n
structure Rep3 (i : Fin n) (c : C3 n) (P : Edw.Pt n) : Prop where
 nz : c.z ≠ 0
 x : c.x = -(i * P.x * c.z)
 y : c.y = P.y * c.z
def add3 (d : Fin n) (p q : C3 n) : C3 n :=
 let a := p.z * q.z
 let b := a * a
 let c := p.x * q.x
 let e := p.y * q.y
 let f := d * (c * e)
 let less := b - f
 let more := b + f
 let cross := (p.x + p.y) * (q.x + q.y) - c - e
 ⟨a * (less * cross), a * (more * (e + c)), less * more⟩
theorem add3_alg {i d e p q u v Z W : Fin n} (hi : i * i = -1) (he : d = -e) :
   d * (-(i * p * Z) * -(i * u * W) * (q * Z * (v * W))) = Z * W * (Z * W) * (e * p * u * q * v) ∧
   (-(i * p * Z) + q * Z) * (-(i * u * W) + v * W) - -(i * p * Z) * -(i * u * W) - q * Z * (v * W) = -(i * (p * v + u * q) * (Z * W)) ∧
   q * Z * (v * W) + -(i * p * Z) * -(i * u * W) = (q * v - p * u) * (Z * W) := by
 refine ⟨?_, ?_, ?_⟩ <;> grind
theorem fin3_x {i r s a b A : Fin n} (ha : r * a = s) : A * (A * A * b * -(i * s * A)) = -(i * r * (A * A * b * (A * A * a))) := by grind
theorem fin3_y {r s a b A : Fin n} (hb : r * b = s) : A * (A * A * a * (s * A)) = r * (A * A * b * (A * A * a)) := by grind
theorem rep3_add (F : Edw.Fld n) {i d e : Fin n} (ns : Edw.NS e) (hi : i * i = -1) (he : d = -e) {c c' : C3 n} {P Q : Edw.Pt n} (hP : Edw.On e P) (hQ : Edw.On e Q) (h : Rep3 i c P) (k : Rep3 i c' Q) : Rep3 i (add3 d c c') (Edw.add e P Q) := by
 obtain ⟨d1, d2⟩ := Edw.den F ns hP hQ
 have ex := Edw.add_x F ns hP hQ
 have ey := Edw.add_y F ns hP hQ
 have hz := F.mul h.nz k.nz
 obtain ⟨a1, a2, a3⟩ := add3_alg (p := P.x) (q := P.y) (u := Q.x) (v := Q.y) (Z := c.z) (W := c'.z) hi he
 have e1 : c.z * c'.z * (c.z * c'.z) + d * (c.x * c'.x * (c.y * c'.y)) = (c.z * c'.z) * (c.z * c'.z) * (1 + e * P.x * Q.x * P.y * Q.y) := by rw [h.x, k.x, h.y, k.y, a1, up1]
 have e2 : c.z * c'.z * (c.z * c'.z) - d * (c.x * c'.x * (c.y * c'.y)) = (c.z * c'.z) * (c.z * c'.z) * (1 - e * P.x * Q.x * P.y * Q.y) := by rw [h.x, k.x, h.y, k.y, a1, up2]
 have e3 : (c.x + c.y) * (c'.x + c'.y) - c.x * c'.x - c.y * c'.y = -(i * (P.x * Q.y + Q.x * P.y) * (c.z * c'.z)) := by rw [h.x, h.y, k.x, k.y]; exact a2
 have e4 : c.y * c'.y + c.x * c'.x = (P.y * Q.y - P.x * Q.x) * (c.z * c'.z) := by rw [h.x, h.y, k.x, k.y]; exact a3
 constructor
 · show (c.z * c'.z * (c.z * c'.z) - d * (c.x * c'.x * (c.y * c'.y))) * (c.z * c'.z * (c.z * c'.z) + d * (c.x * c'.x * (c.y * c'.y))) ≠ 0
   rw [e1, e2]
   exact F.mul (F.mul (F.mul hz hz) d2) (F.mul (F.mul hz hz) d1)
 · show c.z * c'.z * ((c.z * c'.z * (c.z * c'.z) - d * (c.x * c'.x * (c.y * c'.y))) * ((c.x + c.y) * (c'.x + c'.y) - c.x * c'.x - c.y * c'.y)) = -(i * (Edw.add e P Q).x * ((c.z * c'.z * (c.z * c'.z) - d * (c.x * c'.x * (c.y * c'.y))) * (c.z * c'.z * (c.z * c'.z) + d * (c.x * c'.x * (c.y * c'.y)))))
   rw [e1, e2, e3]
   exact fin3_x ex
 · show c.z * c'.z * ((c.z * c'.z * (c.z * c'.z) + d * (c.x * c'.x * (c.y * c'.y))) * (c.y * c'.y + c.x * c'.x)) = (Edw.add e P Q).y * ((c.z * c'.z * (c.z * c'.z) - d * (c.x * c'.x * (c.y * c'.y))) * (c.z * c'.z * (c.z * c'.z) + d * (c.x * c'.x * (c.y * c'.y))))
   rw [e1, e2, e4]
   exact fin3_y ey
theorem rep3_aff {i v : Fin n} {c : C3 n} {P : Edw.Pt n} (h : Rep3 i c P) (hv : c.z * v = 1) : c.x * v = -(i * P.x) ∧ c.y * v = P.y := by
 rw [h.x, h.y]
 generalize c.z = z at *
 clear h
 constructor <;> grind
theorem rep3_of (F : Edw.Fld n) {i : Fin n} (hi : i * i = -1) (x y : Fin n) : Rep3 i ⟨x, y, 1⟩ ⟨i * x, y⟩ := by
 obtain ⟨a, b, _⟩ := at_alg i x y hi
 exact ⟨F.one, a, b⟩
theorem rep3_nought (F : Edw.Fld n) {i : Fin n} (hi : i * i = -1) : Rep3 i ⟨0, 1, 1⟩ Edw.O := by
 have h := rep3_of F hi 0 1
 have e : (⟨i * 0, 1⟩ : Edw.Pt n) = Edw.O := by rw [mul_z]; rfl
 rwa [e] at h
end
end Go.Proofs.YthpibkpljakeeaaDoor
