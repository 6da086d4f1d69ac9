/- Texts of this proof, laid together: Edw, PFld, PCrv. -/
import Derived.Test.YtpaopdjbhmdfjaaDoorRootMathM
/- Edwards' curves over the numbers below a prime: the sum of two points, its laws, and the ladder's two steps. No program is named. -/
namespace Go.Proofs.YtpaopdjbhmdfjaaDoor.Edw

/-- Numbers modulo n, where what is not 0 has an inverse. -/
structure Fld (n : Nat) [NeZero n] : Prop where
  inv : ∀ x : Fin n, x ≠ 0 → ∃ w, x * w = 1
  two : (2 : Fin n) ≠ 0
structure Pt (n : Nat) where
  x : Fin n
  y : Fin n

section
variable {n : Nat} [NeZero n]
theorem Fld.dom (F : Fld n) {x y : Fin n} (h : x * y = 0) : x = 0 ∨ y = 0 := by
  by_cases hx : x = 0
  · exact .inl hx
  · obtain ⟨w, hw⟩ := F.inv x hx
    right
    have : y = (x * w) * y := by rw [hw]; grind
    rw [this]; grind
theorem Fld.one (F : Fld n) : (1 : Fin n) ≠ 0 := fun h => F.two (by grind)
theorem Fld.mul (F : Fld n) {x y : Fin n} (hx : x ≠ 0) (hy : y ≠ 0) : x * y ≠ 0 := fun h => (F.dom h).elim hx hy
theorem Fld.cancel (F : Fld n) {x y z : Fin n} (hx : x ≠ 0) (h : y * x = z * x) : y = z := by
  obtain ⟨w, hw⟩ := F.inv x hx
  have h1 : y = (y * x) * w := by grind
  have h2 : z = (z * x) * w := by grind
  rw [h1, h2, h]
/-- The curve, and that d is no square. -/
def On (d : Fin n) (p : Pt n) : Prop := p.x * p.x + p.y * p.y = 1 + d * p.x * p.x * p.y * p.y
def NS (d : Fin n) : Prop := ∀ a b : Fin n, a * a = d * (b * b) → b = 0
open Classical in
noncomputable def inv (x : Fin n) : Fin n := if h : ∃ w, x * w = 1 then h.choose else 0
theorem inv_mul (F : Fld n) {x : Fin n} (hx : x ≠ 0) : x * inv x = 1 := by
  have h := F.inv x hx
  unfold inv
  rw [dif_pos h]
  exact h.choose_spec
noncomputable def add (d : Fin n) (p q : Pt n) : Pt n :=
  ⟨(p.x * q.y + q.x * p.y) * inv (1 + d * p.x * q.x * p.y * q.y), (p.y * q.y - p.x * q.x) * inv (1 - d * p.x * q.x * p.y * q.y)⟩
theorem sq_one {d x1 y1 x2 y2 e : Fin n} (F : Fld n) (ns : NS d) (e1 : x1 * x1 + y1 * y1 = 1 + d * x1 * x1 * y1 * y1) (e2 : x2 * x2 + y2 * y2 = 1 + d * x2 * x2 * y2 * y2) (he : e = d * x1 * x2 * y1 * y2) : e * e ≠ 1 := fun h => by
  have a1 : (x1 + e * y1) * (x1 + e * y1) = d * ((x1 * y1 * (x2 + y2)) * (x1 * y1 * (x2 + y2))) := by grind
  have a2 : (x1 - e * y1) * (x1 - e * y1) = d * ((x1 * y1 * (x2 - y2)) * (x1 * y1 * (x2 - y2))) := by grind
  have b1 := ns _ _ a1
  have b2 := ns _ _ a2
  refine F.two ?_
  have c : 2 * e = d * y2 * (x1 * y1 * (x2 + y2)) + d * y2 * (x1 * y1 * (x2 - y2)) := by rw [he]; grind
  rw [b1, b2] at c
  have c2 : 2 * e = 0 := by grind
  have : (2 : Fin n) = (2 * e) * e := by grind
  rw [this, c2]; grind
theorem den (F : Fld n) {d : Fin n} (ns : NS d) {p q : Pt n} (hp : On d p) (hq : On d q) : 1 + d * p.x * q.x * p.y * q.y ≠ 0 ∧ 1 - d * p.x * q.x * p.y * q.y ≠ 0 := by
  have h := sq_one F ns hp hq rfl
  constructor <;> intro h2 <;> refine h ?_
  · generalize d * p.x * q.x * p.y * q.y = e at *
    grind
  · generalize d * p.x * q.x * p.y * q.y = e at *
    grind
theorem add_x (F : Fld n) {d : Fin n} (ns : NS d) {p q : Pt n} (hp : On d p) (hq : On d q) : (add d p q).x * (1 + d * p.x * q.x * p.y * q.y) = p.x * q.y + q.x * p.y := by
  have h := inv_mul F (den F ns hp hq).1
  unfold add
  generalize inv (1 + d * p.x * q.x * p.y * q.y) = w at *
  show (p.x * q.y + q.x * p.y) * w * (1 + d * p.x * q.x * p.y * q.y) = _
  generalize 1 + d * p.x * q.x * p.y * q.y = t at *
  grind
theorem add_y (F : Fld n) {d : Fin n} (ns : NS d) {p q : Pt n} (hp : On d p) (hq : On d q) : (add d p q).y * (1 - d * p.x * q.x * p.y * q.y) = p.y * q.y - p.x * q.x := by
  have h := inv_mul F (den F ns hp hq).2
  unfold add
  generalize inv (1 - d * p.x * q.x * p.y * q.y) = w at *
  show (p.y * q.y - p.x * q.x) * w * (1 - d * p.x * q.x * p.y * q.y) = _
  generalize 1 - d * p.x * q.x * p.y * q.y = t at *
  grind
theorem on_core {d x1 y1 x2 y2 : Fin n} (e1 : x1 * x1 + y1 * y1 = 1 + d * x1 * x1 * y1 * y1) (e2 : x2 * x2 + y2 * y2 = 1 + d * x2 * x2 * y2 * y2) :
    (x1 * y2 + x2 * y1) * (x1 * y2 + x2 * y1) * ((1 - d * x1 * x2 * y1 * y2) * (1 - d * x1 * x2 * y1 * y2)) + (y1 * y2 - x1 * x2) * (y1 * y2 - x1 * x2) * ((1 + d * x1 * x2 * y1 * y2) * (1 + d * x1 * x2 * y1 * y2)) = (1 + d * x1 * x2 * y1 * y2) * (1 + d * x1 * x2 * y1 * y2) * ((1 - d * x1 * x2 * y1 * y2) * (1 - d * x1 * x2 * y1 * y2)) + d * ((x1 * y2 + x2 * y1) * (x1 * y2 + x2 * y1)) * ((y1 * y2 - x1 * x2) * (y1 * y2 - x1 * x2)) := by grind
theorem add_on (F : Fld n) {d : Fin n} (ns : NS d) {p q : Pt n} (hp : On d p) (hq : On d q) : On d (add d p q) := by
  have hx := add_x F ns hp hq
  have hy := add_y F ns hp hq
  have h0 := den F ns hp hq
  have hc := on_core hp hq
  unfold On
  generalize add d p q = r at *
  generalize 1 + d * p.x * q.x * p.y * q.y = s at *
  generalize 1 - d * p.x * q.x * p.y * q.y = t at *
  rw [← hx, ← hy] at hc
  refine F.cancel (F.mul (F.mul h0.1 h0.1) (F.mul h0.2 h0.2)) ?_
  grind
theorem add_eq (F : Fld n) {d : Fin n} (ns : NS d) {p q r : Pt n} (hp : On d p) (hq : On d q) (hx : r.x * (1 + d * p.x * q.x * p.y * q.y) = p.x * q.y + q.x * p.y) (hy : r.y * (1 - d * p.x * q.x * p.y * q.y) = p.y * q.y - p.x * q.x) : r = add d p q := by
  have h1 := F.cancel (den F ns hp hq).1 (hx.trans (add_x F ns hp hq).symm)
  have h2 := F.cancel (den F ns hp hq).2 (hy.trans (add_y F ns hp hq).symm)
  cases r; simp_all
theorem zero3 (a b c : Fin n) : a * 0 + b * 0 + c * 0 = 0 := by grind
theorem assoc_x {x1 y1 x2 y2 x3 y3 d : Fin n} (z1 : (x1*x1+y1*y1-1-d*x1*x1*y1*y1) = 0) (z2 : (x2*x2+y2*y2-1-d*x2*x2*y2*y2) = 0) (z3 : (x3*x3+y3*y3-1-d*x3*x3*y3*y3) = 0) : ((x1*y2+x2*y1)*(1-d*x1*x2*y1*y2)*y3+x3*(y1*y2-x1*x2)*(1+d*x1*x2*y1*y2))*((1+d*x2*x3*y2*y3)*(1-d*x2*x3*y2*y3)+d*(x2*y3+x3*y2)*(y2*y3-x2*x3)*x1*y1) - ((x2*y3+x3*y2)*(1-d*x2*x3*y2*y3)*y1+x1*(y2*y3-x2*x3)*(1+d*x2*x3*y2*y3))*((1+d*x1*x2*y1*y2)*(1-d*x1*x2*y1*y2)+d*(x1*y2+x2*y1)*(y1*y2-x1*x2)*x3*y3) = 0 := by
  have h : ((x1*y2+x2*y1)*(1-d*x1*x2*y1*y2)*y3+x3*(y1*y2-x1*x2)*(1+d*x1*x2*y1*y2))*((1+d*x2*x3*y2*y3)*(1-d*x2*x3*y2*y3)+d*(x2*y3+x3*y2)*(y2*y3-x2*x3)*x1*y1) - ((x2*y3+x3*y2)*(1-d*x2*x3*y2*y3)*y1+x1*(y2*y3-x2*x3)*(1+d*x2*x3*y2*y3))*((1+d*x1*x2*y1*y2)*(1-d*x1*x2*y1*y2)+d*(x1*y2+x2*y1)*(y1*y2-x1*x2)*x3*y3) =
    (x1*x2*x2*x2*x2*y2*y2*y2*x3*x3*y3*d*d + (-1)*x1*x2*x2*x2*x2*y2*x3*x3*y3*d + (-1)*x1*x2*x2*x2*y2*y2*y2*y2*x3*y3*y3*d*d + (-1)*x1*x2*x2*x2*y2*y2*x3*x3*x3*d + x1*x2*x2*x2*y2*y2*x3*d + x1*x2*x2*y2*y2*y2*y3*y3*y3*d + (-1)*x1*x2*x2*y2*y2*y2*y3*d + x1*x2*y2*y2*y2*y2*x3*y3*y3*d + y1*x2*x2*x2*x2*y2*y2*y2*x3*y3*y3*d*d + (-1)*y1*x2*x2*x2*x2*y2*x3*y3*y3*d + y1*x2*x2*x2*y2*y2*y2*y2*x3*x3*y3*d*d + y1*x2*x2*x2*y2*y2*y3*y3*y3*d + (-1)*y1*x2*x2*x2*y2*y2*y3*d + y1*x2*x2*y2*y2*y2*x3*x3*x3*d + (-1)*y1*x2*x2*y2*y2*y2*x3*d + (-1)*y1*x2*y2*y2*y2*y2*x3*x3*y3*d) * (x1*x1+y1*y1-1-d*x1*x1*y1*y1) + (x1*x1*x1*x2*x2*y2*x3*x3*y3*d + (-1)*x1*x1*x1*x2*y2*y2*x3*y3*y3*d + x1*x1*x1*x2*x3*x3*x3*y3*y3*d + (-1)*x1*x1*x1*x2*x3*x3*x3 + (-1)*x1*x1*x1*x2*x3*y3*y3 + x1*x1*x1*x2*x3 + (-1)*x1*x1*x1*y2*x3*x3*y3*y3*y3*d + x1*x1*x1*y2*x3*x3*y3 + x1*x1*x1*y2*y3*y3*y3 + (-1)*x1*x1*x1*y2*y3 + (-1)*x1*x1*y1*x2*x2*y2*x3*x3*x3*y3*y3*d*d + x1*x1*y1*x2*x2*y2*x3*y3*y3*d + (-1)*x1*x1*y1*x2*y2*y2*x3*x3*y3*y3*y3*d*d + x1*x1*y1*x2*y2*y2*x3*x3*y3*d + (-1)*x1*x1*y1*x2*x3*x3*y3*y3*y3*d + x1*x1*y1*x2*x3*x3*y3 + x1*x1*y1*x2*y3*y3*y3 + (-1)*x1*x1*y1*x2*y3 + (-1)*x1*x1*y1*y2*x3*x3*x3*y3*y3*d + x1*x1*y1*y2*x3*x3*x3 + x1*x1*y1*y2*x3*y3*y3 + (-1)*x1*x1*y1*y2*x3 + (-1)*x1*y1*y1*x2*x2*y2*x3*x3*y3*y3*y3*d*d + x1*y1*y1*x2*x2*y2*x3*x3*y3*d + x1*y1*y1*x2*y2*y2*x3*x3*x3*y3*y3*d*d + (-1)*x1*y1*y1*x2*y2*y2*x3*y3*y3*d + x1*y1*y1*x2*x3*x3*x3*y3*y3*d + (-1)*x1*y1*y1*x2*x3*x3*x3 + (-1)*x1*y1*y1*x2*x3*y3*y3 + x1*y1*y1*x2*x3 + (-1)*x1*y1*y1*y2*x3*x3*y3*y3*y3*d + x1*y1*y1*y2*x3*x3*y3 + x1*y1*y1*y2*y3*y3*y3 + (-1)*x1*y1*y1*y2*y3 + (-1)*x1*x2*x2*y2*x3*x3*y3*d + x1*x2*y2*y2*x3*y3*y3*d + (-1)*x1*x2*x3*x3*x3*y3*y3*d + x1*x2*x3*x3*x3 + x1*x2*x3*y3*y3 + (-1)*x1*x2*x3 + x1*y2*x3*x3*y3*y3*y3*d + (-1)*x1*y2*x3*x3*y3 + (-1)*x1*y2*y3*y3*y3 + x1*y2*y3 + y1*y1*y1*x2*x2*y2*x3*y3*y3*d + y1*y1*y1*x2*y2*y2*x3*x3*y3*d + (-1)*y1*y1*y1*x2*x3*x3*y3*y3*y3*d + y1*y1*y1*x2*x3*x3*y3 + y1*y1*y1*x2*y3*y3*y3 + (-1)*y1*y1*y1*x2*y3 + (-1)*y1*y1*y1*y2*x3*x3*x3*y3*y3*d + y1*y1*y1*y2*x3*x3*x3 + y1*y1*y1*y2*x3*y3*y3 + (-1)*y1*y1*y1*y2*x3 + (-1)*y1*x2*x2*y2*x3*y3*y3*d + (-1)*y1*x2*y2*y2*x3*x3*y3*d + y1*x2*x3*x3*y3*y3*y3*d + (-1)*y1*x2*x3*x3*y3 + (-1)*y1*x2*y3*y3*y3 + y1*x2*y3 + y1*y2*x3*x3*x3*y3*y3*d + (-1)*y1*y2*x3*x3*x3 + (-1)*y1*y2*x3*y3*y3 + y1*y2*x3) * (x2*x2+y2*y2-1-d*x2*x2*y2*y2) + (x1*x1*x1*x2*x2*x2*x3 + (-1)*x1*x1*x1*x2*x2*y2*y3 + x1*x1*x1*x2*y2*y2*x3 + (-1)*x1*x1*x1*x2*x3 + (-1)*x1*x1*x1*y2*y2*y2*y3 + x1*x1*x1*y2*y3 + (-1)*x1*x1*y1*x2*x2*x2*y3 + x1*x1*y1*x2*x2*y2*x3*d + (-1)*x1*x1*y1*x2*x2*y2*x3 + x1*x1*y1*x2*y2*y2*y3*d + (-1)*x1*x1*y1*x2*y2*y2*y3 + x1*x1*y1*x2*y3 + (-1)*x1*x1*y1*y2*y2*y2*x3 + x1*x1*y1*y2*x3 + x1*y1*y1*x2*x2*x2*x3 + x1*y1*y1*x2*x2*y2*y3*d + (-1)*x1*y1*y1*x2*x2*y2*y3 + (-1)*x1*y1*y1*x2*y2*y2*x3*d + x1*y1*y1*x2*y2*y2*x3 + (-1)*x1*y1*y1*x2*x3 + (-1)*x1*y1*y1*y2*y2*y2*y3 + x1*y1*y1*y2*y3 + (-1)*x1*x2*x2*x2*x3 + x1*x2*x2*y2*y3 + (-1)*x1*x2*y2*y2*x3 + x1*x2*x3 + x1*y2*y2*y2*y3 + (-1)*x1*y2*y3 + (-1)*y1*y1*y1*x2*x2*x2*y3 + (-1)*y1*y1*y1*x2*x2*y2*x3 + (-1)*y1*y1*y1*x2*y2*y2*y3 + y1*y1*y1*x2*y3 + (-1)*y1*y1*y1*y2*y2*y2*x3 + y1*y1*y1*y2*x3 + y1*x2*x2*x2*y3 + y1*x2*x2*y2*x3 + y1*x2*y2*y2*y3 + (-1)*y1*x2*y3 + y1*y2*y2*y2*x3 + (-1)*y1*y2*x3) * (x3*x3+y3*y3-1-d*x3*x3*y3*y3) := by
    clear z1 z2 z3
    grind
  rw [h, z1, z2, z3]
  exact zero3 _ _ _
theorem assoc_y {x1 y1 x2 y2 x3 y3 d : Fin n} (z1 : (x1*x1+y1*y1-1-d*x1*x1*y1*y1) = 0) (z2 : (x2*x2+y2*y2-1-d*x2*x2*y2*y2) = 0) (z3 : (x3*x3+y3*y3-1-d*x3*x3*y3*y3) = 0) : ((y1*y2-x1*x2)*(1+d*x1*x2*y1*y2)*y3-(x1*y2+x2*y1)*(1-d*x1*x2*y1*y2)*x3)*((1+d*x2*x3*y2*y3)*(1-d*x2*x3*y2*y3)-d*(x2*y3+x3*y2)*(y2*y3-x2*x3)*x1*y1) - ((y2*y3-x2*x3)*(1+d*x2*x3*y2*y3)*y1-(x2*y3+x3*y2)*(1-d*x2*x3*y2*y3)*x1)*((1+d*x1*x2*y1*y2)*(1-d*x1*x2*y1*y2)-d*(x1*y2+x2*y1)*(y1*y2-x1*x2)*x3*y3) = 0 := by
  have h : ((y1*y2-x1*x2)*(1+d*x1*x2*y1*y2)*y3-(x1*y2+x2*y1)*(1-d*x1*x2*y1*y2)*x3)*((1+d*x2*x3*y2*y3)*(1-d*x2*x3*y2*y3)-d*(x2*y3+x3*y2)*(y2*y3-x2*x3)*x1*y1) - ((y2*y3-x2*x3)*(1+d*x2*x3*y2*y3)*y1-(x2*y3+x3*y2)*(1-d*x2*x3*y2*y3)*x1)*((1+d*x1*x2*y1*y2)*(1-d*x1*x2*y1*y2)-d*(x1*y2+x2*y1)*(y1*y2-x1*x2)*x3*y3) =
    ((-1)*x1*x2*x2*x2*x2*y2*y2*y2*x3*y3*y3*d*d + x1*x2*x2*x2*x2*y2*x3*y3*y3*d + (-1)*x1*x2*x2*x2*y2*y2*y2*y2*x3*x3*y3*d*d + (-1)*x1*x2*x2*x2*y2*y2*y3*y3*y3*d + x1*x2*x2*x2*y2*y2*y3*d + (-1)*x1*x2*x2*y2*y2*y2*x3*x3*x3*d + x1*x2*x2*y2*y2*y2*x3*d + x1*x2*y2*y2*y2*y2*x3*x3*y3*d + y1*x2*x2*x2*x2*y2*y2*y2*x3*x3*y3*d*d + (-1)*y1*x2*x2*x2*x2*y2*x3*x3*y3*d + (-1)*y1*x2*x2*x2*y2*y2*y2*y2*x3*y3*y3*d*d + (-1)*y1*x2*x2*x2*y2*y2*x3*x3*x3*d + y1*x2*x2*x2*y2*y2*x3*d + y1*x2*x2*y2*y2*y2*y3*y3*y3*d + (-1)*y1*x2*x2*y2*y2*y2*y3*d + y1*x2*y2*y2*y2*y2*x3*y3*y3*d) * (x1*x1+y1*y1-1-d*x1*x1*y1*y1) + ((-1)*x1*x1*x1*x2*x2*y2*x3*y3*y3*d + (-1)*x1*x1*x1*x2*y2*y2*x3*x3*y3*d + x1*x1*x1*x2*x3*x3*y3*y3*y3*d + (-1)*x1*x1*x1*x2*x3*x3*y3 + (-1)*x1*x1*x1*x2*y3*y3*y3 + x1*x1*x1*x2*y3 + x1*x1*x1*y2*x3*x3*x3*y3*y3*d + (-1)*x1*x1*x1*y2*x3*x3*x3 + (-1)*x1*x1*x1*y2*x3*y3*y3 + x1*x1*x1*y2*x3 + (-1)*x1*x1*y1*x2*x2*y2*x3*x3*y3*y3*y3*d*d + x1*x1*y1*x2*x2*y2*x3*x3*y3*d + x1*x1*y1*x2*y2*y2*x3*x3*x3*y3*y3*d*d + (-1)*x1*x1*y1*x2*y2*y2*x3*y3*y3*d + x1*x1*y1*x2*x3*x3*x3*y3*y3*d + (-1)*x1*x1*y1*x2*x3*x3*x3 + (-1)*x1*x1*y1*x2*x3*y3*y3 + x1*x1*y1*x2*x3 + (-1)*x1*x1*y1*y2*x3*x3*y3*y3*y3*d + x1*x1*y1*y2*x3*x3*y3 + x1*x1*y1*y2*y3*y3*y3 + (-1)*x1*x1*y1*y2*y3 + x1*y1*y1*x2*x2*y2*x3*x3*x3*y3*y3*d*d + (-1)*x1*y1*y1*x2*x2*y2*x3*y3*y3*d + x1*y1*y1*x2*y2*y2*x3*x3*y3*y3*y3*d*d + (-1)*x1*y1*y1*x2*y2*y2*x3*x3*y3*d + x1*y1*y1*x2*x3*x3*y3*y3*y3*d + (-1)*x1*y1*y1*x2*x3*x3*y3 + (-1)*x1*y1*y1*x2*y3*y3*y3 + x1*y1*y1*x2*y3 + x1*y1*y1*y2*x3*x3*x3*y3*y3*d + (-1)*x1*y1*y1*y2*x3*x3*x3 + (-1)*x1*y1*y1*y2*x3*y3*y3 + x1*y1*y1*y2*x3 + x1*x2*x2*y2*x3*y3*y3*d + x1*x2*y2*y2*x3*x3*y3*d + (-1)*x1*x2*x3*x3*y3*y3*y3*d + x1*x2*x3*x3*y3 + x1*x2*y3*y3*y3 + (-1)*x1*x2*y3 + (-1)*x1*y2*x3*x3*x3*y3*y3*d + x1*y2*x3*x3*x3 + x1*y2*x3*y3*y3 + (-1)*x1*y2*x3 + y1*y1*y1*x2*x2*y2*x3*x3*y3*d + (-1)*y1*y1*y1*x2*y2*y2*x3*y3*y3*d + y1*y1*y1*x2*x3*x3*x3*y3*y3*d + (-1)*y1*y1*y1*x2*x3*x3*x3 + (-1)*y1*y1*y1*x2*x3*y3*y3 + y1*y1*y1*x2*x3 + (-1)*y1*y1*y1*y2*x3*x3*y3*y3*y3*d + y1*y1*y1*y2*x3*x3*y3 + y1*y1*y1*y2*y3*y3*y3 + (-1)*y1*y1*y1*y2*y3 + (-1)*y1*x2*x2*y2*x3*x3*y3*d + y1*x2*y2*y2*x3*y3*y3*d + (-1)*y1*x2*x3*x3*x3*y3*y3*d + y1*x2*x3*x3*x3 + y1*x2*x3*y3*y3 + (-1)*y1*x2*x3 + y1*y2*x3*x3*y3*y3*y3*d + (-1)*y1*y2*x3*x3*y3 + (-1)*y1*y2*y3*y3*y3 + y1*y2*y3) * (x2*x2+y2*y2-1-d*x2*x2*y2*y2) + (x1*x1*x1*x2*x2*x2*y3 + x1*x1*x1*x2*x2*y2*x3 + x1*x1*x1*x2*y2*y2*y3 + (-1)*x1*x1*x1*x2*y3 + x1*x1*x1*y2*y2*y2*x3 + (-1)*x1*x1*x1*y2*x3 + x1*x1*y1*x2*x2*x2*x3 + x1*x1*y1*x2*x2*y2*y3*d + (-1)*x1*x1*y1*x2*x2*y2*y3 + (-1)*x1*x1*y1*x2*y2*y2*x3*d + x1*x1*y1*x2*y2*y2*x3 + (-1)*x1*x1*y1*x2*x3 + (-1)*x1*x1*y1*y2*y2*y2*y3 + x1*x1*y1*y2*y3 + x1*y1*y1*x2*x2*x2*y3 + (-1)*x1*y1*y1*x2*x2*y2*x3*d + x1*y1*y1*x2*x2*y2*x3 + (-1)*x1*y1*y1*x2*y2*y2*y3*d + x1*y1*y1*x2*y2*y2*y3 + (-1)*x1*y1*y1*x2*y3 + x1*y1*y1*y2*y2*y2*x3 + (-1)*x1*y1*y1*y2*x3 + (-1)*x1*x2*x2*x2*y3 + (-1)*x1*x2*x2*y2*x3 + (-1)*x1*x2*y2*y2*y3 + x1*x2*y3 + (-1)*x1*y2*y2*y2*x3 + x1*y2*x3 + y1*y1*y1*x2*x2*x2*x3 + (-1)*y1*y1*y1*x2*x2*y2*y3 + y1*y1*y1*x2*y2*y2*x3 + (-1)*y1*y1*y1*x2*x3 + (-1)*y1*y1*y1*y2*y2*y2*y3 + y1*y1*y1*y2*y3 + (-1)*y1*x2*x2*x2*x3 + y1*x2*x2*y2*y3 + (-1)*y1*x2*y2*y2*x3 + y1*x2*x3 + y1*y2*y2*y2*y3 + (-1)*y1*y2*y3) * (x3*x3+y3*y3-1-d*x3*x3*y3*y3) := by
    clear z1 z2 z3
    grind
  rw [h, z1, z2, z3]
  exact zero3 _ _ _

omit [NeZero n] in
theorem pt_ext {p q : Pt n} (hx : p.x = q.x) (hy : p.y = q.y) : p = q := by
  cases p; cases q; simp_all
theorem comm (d : Fin n) (p q : Pt n) : add d p q = add d q p := by
  have e : d * p.x * q.x * p.y * q.y = d * q.x * p.x * q.y * p.y := by grind
  refine pt_ext ?_ ?_
  · show (p.x * q.y + q.x * p.y) * inv (1 + d * p.x * q.x * p.y * q.y) = (q.x * p.y + p.x * q.y) * inv (1 + d * q.x * p.x * q.y * p.y)
    rw [e, show p.x * q.y + q.x * p.y = q.x * p.y + p.x * q.y by grind]
  · show (p.y * q.y - p.x * q.x) * inv (1 - d * p.x * q.x * p.y * q.y) = (q.y * p.y - q.x * p.x) * inv (1 - d * q.x * p.x * q.y * p.y)
    rw [e, show p.y * q.y - p.x * q.x = q.y * p.y - q.x * p.x by grind]
theorem on_zero {d : Fin n} {p : Pt n} (h : On d p) : p.x*p.x+p.y*p.y-1-d*p.x*p.x*p.y*p.y = 0 := by
  unfold On at h
  generalize p.x = x at *
  generalize p.y = y at *
  grind
theorem up_x {R a b D1 N1 D2 N2 x y d : Fin n} (ax : a * D1 = N1) (ay : b * D2 = N2) (r : R * (1 + d * a * x * b * y) = a * y + x * b) : R * (D1 * D2 + d * N1 * N2 * x * y) = N1 * D2 * y + x * N2 * D1 ∧ D1 * D2 + d * N1 * N2 * x * y = D1 * D2 * (1 + d * a * x * b * y) := by
  subst ax ay
  constructor
  · grind
  · grind
theorem up_y {R a b D1 N1 D2 N2 x y d : Fin n} (ax : a * D1 = N1) (ay : b * D2 = N2) (r : R * (1 - d * a * x * b * y) = b * y - a * x) : R * (D1 * D2 - d * N1 * N2 * x * y) = N2 * D1 * y - N1 * D2 * x ∧ D1 * D2 - d * N1 * N2 * x * y = D1 * D2 * (1 - d * a * x * b * y) := by
  subst ax ay
  constructor
  · grind
  · grind
theorem cross (F : Fld n) {R T u v p q : Fin n} (hu : u ≠ 0) (hv : v ≠ 0) (h1 : R * u = p) (h2 : T * v = q) (h : p * v - q * u = 0) : R = T := by
  refine F.cancel (F.mul hu hv) ?_
  subst h1 h2
  grind
theorem assoc (F : Fld n) {d : Fin n} (ns : NS d) {p q s : Pt n} (hp : On d p) (hq : On d q) (hs : On d s) : add d (add d p q) s = add d p (add d q s) := by
  have hA := add_on F ns hp hq
  have hB := add_on F ns hq hs
  have d1 := den F ns hp hq
  have d2 := den F ns hq hs
  have d3 := den F ns hA hs
  have d4 := den F ns hB hp
  have ux := up_x (add_x F ns hp hq) (add_y F ns hp hq) (add_x F ns hA hs)
  have uy := up_y (add_x F ns hp hq) (add_y F ns hp hq) (add_y F ns hA hs)
  have vx := up_x (add_x F ns hq hs) (add_y F ns hq hs) (add_x F ns hB hp)
  have vy := up_y (add_x F ns hq hs) (add_y F ns hq hs) (add_y F ns hB hp)
  have cx := assoc_x (on_zero hp) (on_zero hq) (on_zero hs)
  have cy := assoc_y (on_zero hp) (on_zero hq) (on_zero hs)
  have hx : (add d (add d p q) s).x = (add d (add d q s) p).x := cross F (by rw [ux.2]; exact F.mul (F.mul d1.1 d1.2) d3.1) (by rw [vx.2]; exact F.mul (F.mul d2.1 d2.2) d4.1) ux.1 vx.1 cx
  have hy : (add d (add d p q) s).y = (add d (add d q s) p).y := cross F (by rw [uy.2]; exact F.mul (F.mul d1.1 d1.2) d3.2) (by rw [vy.2]; exact F.mul (F.mul d2.1 d2.2) d4.2) uy.1 vy.1 cy
  rw [comm d p (add d q s)]
  exact pt_ext hx hy
def O : Pt n := ⟨0, 1⟩
def neg (p : Pt n) : Pt n := ⟨-p.x, p.y⟩
theorem O_on (d : Fin n) : On d (O : Pt n) := by
  show (0 : Fin n) * 0 + 1 * 1 = 1 + d * 0 * 0 * 1 * 1
  grind
theorem neg_on {d : Fin n} {p : Pt n} (h : On d p) : On d (neg p) := by
  unfold On at *
  show (-p.x) * (-p.x) + p.y * p.y = 1 + d * (-p.x) * (-p.x) * p.y * p.y
  grind
theorem O_add (F : Fld n) {d : Fin n} (ns : NS d) {p : Pt n} (hp : On d p) : add d O p = p := by
  refine (add_eq F ns (O_on d) hp ?_ ?_).symm
  · show p.x * (1 + d * 0 * p.x * 1 * p.y) = 0 * p.y + p.x * 1
    grind
  · show p.y * (1 - d * 0 * p.x * 1 * p.y) = 1 * p.y - 0 * p.x
    grind
theorem neg_add (F : Fld n) {d : Fin n} (ns : NS d) {p : Pt n} (hp : On d p) : add d (neg p) p = O := by
  refine (add_eq F ns (neg_on hp) hp ?_ ?_).symm
  · show 0 * (1 + d * (-p.x) * p.x * p.y * p.y) = -p.x * p.y + p.x * p.y
    grind
  · show 1 * (1 - d * (-p.x) * p.x * p.y * p.y) = p.y * p.y - -p.x * p.x
    unfold On at hp
    grind
noncomputable def mul (d : Fin n) : Nat → Pt n → Pt n
  | 0, _ => O
  | k + 1, p => add d (mul d k p) p
theorem mul_on (F : Fld n) {d : Fin n} (ns : NS d) {p : Pt n} (hp : On d p) : ∀ k, On d (mul d k p)
  | 0 => O_on d
  | k + 1 => add_on F ns (mul_on F ns hp k) hp
theorem mul_one (F : Fld n) {d : Fin n} (ns : NS d) {p : Pt n} (hp : On d p) : mul d 1 p = p := O_add F ns hp
theorem mul_add (F : Fld n) {d : Fin n} (ns : NS d) {p : Pt n} (hp : On d p) (j : Nat) : ∀ k, mul d (j + k) p = add d (mul d j p) (mul d k p)
  | 0 => by
    show mul d j p = add d (mul d j p) O
    rw [comm, O_add F ns (mul_on F ns hp j)]
  | k + 1 => by
    show add d (mul d (j + k) p) p = add d (mul d j p) (add d (mul d k p) p)
    rw [mul_add F ns hp j k, assoc F ns (mul_on F ns hp j) (mul_on F ns hp k) hp]
theorem mul_mul (F : Fld n) {d : Fin n} (ns : NS d) {p : Pt n} (hp : On d p) (k : Nat) : ∀ j, mul d j (mul d k p) = mul d (j * k) p
  | 0 => by rw [Nat.zero_mul]; rfl
  | j + 1 => by
    show add d (mul d j (mul d k p)) (mul d k p) = _
    rw [mul_mul F ns hp k j, Nat.add_mul, Nat.one_mul, mul_add F ns hp]
theorem mul_O (F : Fld n) {d : Fin n} (ns : NS d) : ∀ k, mul d k (O : Pt n) = O
  | 0 => rfl
  | k + 1 => by
    show add d (mul d k O) O = O
    rw [mul_O F ns k, O_add F ns (O_on d)]
/-- What comes before: q = (q + p) - p. -/
theorem back (F : Fld n) {d : Fin n} (ns : NS d) {p q : Pt n} (hp : On d p) (hq : On d q) : add d (neg q) (add d q p) = p := by
  rw [← assoc F ns (neg_on hq) hq hp, neg_add F ns hq, O_add F ns hp]

/-- A ratio that stands for a height y: X over Z is 1 + y over s (1 - y). -/
def Rep (s X Z y : Fin n) : Prop := ∃ l : Fin n, l ≠ 0 ∧ X = l * (1 + y) ∧ Z = l * (s * (1 - y))
/-- How the ladder's constant goes with the curve. -/
structure Con (s d k c : Fin n) : Prop where
  one : k * (1 - d) = 1
  sq : s * s = 1
  fit : (s = 1 ∧ k = c + 1) ∨ (s = -1 ∧ k = -c)
theorem not_one (F : Fld n) {d : Fin n} (ns : NS d) (y : Fin n) : 1 - d * y * y ≠ 0 := fun h => by
  have h1 := ns 1 y (by grind)
  rw [h1] at h
  exact F.one (by grind)
theorem k_ne (F : Fld n) {s d k c : Fin n} (h : Con s d k c) : k ≠ 0 := fun e => F.one (by have := h.one; rw [e] at this; grind)
theorem eight (F : Fld n) : (8 : Fin n) ≠ 0 := by
  have h := F.mul (F.mul F.two F.two) F.two
  have e : (2 : Fin n) * 2 * 2 = 8 := by grind
  rwa [e] at h
theorem sixteen (F : Fld n) : (16 : Fin n) ≠ 0 := by
  have h := F.mul (eight F) F.two
  have e : (8 : Fin n) * 2 = 16 := by grind
  rwa [e] at h
/-- The heights when a point is doubled. -/
theorem dbl_core {d k x y r l : Fin n} (e : x * x + y * y = 1 + d * x * x * y * y) (hr : r * (1 - d * x * x * y * y) = y * y - x * x) (hk : k * (1 - d) = 1) :
    16 * l * l * l * l * y * y = 8 * l * l * l * l * k * (1 - d * x * x * y * y) * (1 - d * y * y) * (1 + r) ∧ 16 * l * l * l * l * k * (1 - y * y) * (1 - d * y * y) = 8 * l * l * l * l * k * (1 - d * x * x * y * y) * (1 - d * y * y) * (1 - r) := by
  constructor
  · grind
  · grind
theorem rep_dbl (F : Fld n) {d s k c X Z : Fin n} {p : Pt n} (ns : NS d) (hc : Con s d k c) (hp : On d p) (h : Rep s X Z p.y) :
    Rep s ((X + Z) * (X + Z) * ((X - Z) * (X - Z))) (((X + Z) * (X + Z) - (X - Z) * (X - Z)) * ((X + Z) * (X + Z) + c * ((X + Z) * (X + Z) - (X - Z) * (X - Z)))) (add d p p).y := by
  obtain ⟨l, hl, hX, hZ⟩ := h
  have hy := add_y F ns hp hp
  have hd := (den F ns hp hp).2
  have hn := not_one F ns p.y
  have hk := k_ne F hc
  have h8 := eight F
  unfold On at hp
  generalize p.x = x at *
  generalize (add d p p).y = r at *
  generalize p.y = y at *
  obtain ⟨c1, c2⟩ := dbl_core (l := l) hp hy hc.one
  have hlk : 8 * l * l * l * l * k * (1 - d * x * x * y * y) * (1 - d * y * y) ≠ 0 := F.mul (F.mul (F.mul (F.mul (F.mul (F.mul (F.mul h8 hl) hl) hl) hl) hk) hd) hn
  refine ⟨_, hlk, ?_, ?_⟩
  · rw [← c1]
    rcases hc.fit with ⟨h1, h2⟩ | ⟨h1, h2⟩
    · subst hX hZ h1 h2
      clear c1 c2 hlk hd hn hy hp
      grind
    · subst hX hZ h1 h2
      clear c1 c2 hlk hd hn hy hp
      grind
  · have e : 8 * l * l * l * l * k * (1 - d * x * x * y * y) * (1 - d * y * y) * (s * (1 - r)) = s * (16 * l * l * l * l * k * (1 - y * y) * (1 - d * y * y)) := by
      rw [c2]
      clear c1 c2 hlk hd hn hy hp
      grind
    rw [e]
    have hk1 := hc.one
    rcases hc.fit with ⟨h1, h2⟩ | ⟨h1, h2⟩
    · subst hX hZ h1
      clear c1 c2 hlk hd hn hy hp e
      grind
    · subst hX hZ h1
      clear c1 c2 hlk hd hn hy hp e
      grind
theorem pair_core {d x1 y1 x2 y2 : Fin n} (e1 : x1 * x1 + y1 * y1 = 1 + d * x1 * x1 * y1 * y1) (e2 : x2 * x2 + y2 * y2 = 1 + d * x2 * x2 * y2 * y2) :
    (1 - d * x1 * x2 * y1 * y2 + (y1 * y2 - x1 * x2)) * (1 + d * x1 * x2 * y1 * y2 + (y1 * y2 + x1 * x2)) * ((1 - d * y1 * y1) * (1 - d * y2 * y2)) = (y1 + y2) * (y1 + y2) * (1 - d * y1 * y1 * y2 * y2) * (1 - d) ∧
    (1 - d * x1 * x2 * y1 * y2 - (y1 * y2 - x1 * x2)) * (1 + d * x1 * x2 * y1 * y2 - (y1 * y2 + x1 * x2)) * ((1 - d * y1 * y1) * (1 - d * y2 * y2)) = (y1 - y2) * (y1 - y2) * (1 - d * y1 * y1 * y2 * y2) * (1 - d) := by
  have a1 : x1 * x1 * (1 - d * y1 * y1) = 1 - y1 * y1 := by grind
  have a2 : x2 * x2 * (1 - d * y2 * y2) = 1 - y2 * y2 := by grind
  have b : (x1 * x1 * (1 - d * y1 * y1)) * (x2 * x2 * (1 - d * y2 * y2)) = (1 - y1 * y1) * (1 - y2 * y2) := by rw [a1, a2]
  clear a1 a2 e1 e2
  constructor
  · have h : (1 - d * x1 * x2 * y1 * y2 + (y1 * y2 - x1 * x2)) * (1 + d * x1 * x2 * y1 * y2 + (y1 * y2 + x1 * x2)) * ((1 - d * y1 * y1) * (1 - d * y2 * y2)) = (1 + y1 * y2) * (1 + y1 * y2) * ((1 - d * y1 * y1) * (1 - d * y2 * y2)) - (x1 * x1 * (1 - d * y1 * y1)) * (x2 * x2 * (1 - d * y2 * y2)) * ((1 + d * y1 * y2) * (1 + d * y1 * y2)) := by
      clear b
      grind
    rw [h, b]
    clear b h
    grind
  · have h : (1 - d * x1 * x2 * y1 * y2 - (y1 * y2 - x1 * x2)) * (1 + d * x1 * x2 * y1 * y2 - (y1 * y2 + x1 * x2)) * ((1 - d * y1 * y1) * (1 - d * y2 * y2)) = (1 - y1 * y2) * (1 - y1 * y2) * ((1 - d * y1 * y1) * (1 - d * y2 * y2)) - (x1 * x1 * (1 - d * y1 * y1)) * (x2 * x2 * (1 - d * y2 * y2)) * ((1 - d * y1 * y2) * (1 - d * y1 * y2)) := by
      clear b
      grind
    rw [h, b]
    clear b h
    grind
theorem sum_core {d e y1 y2 y0 r a b t : Fin n} (hr : r * (1 - e) = a - b) (h0 : y0 * (1 + e) = a + b) (h1 : (1 - e + (a - b)) * (1 + e + (a + b)) * t = (y1 + y2) * (y1 + y2) * (1 - d * y1 * y1 * y2 * y2) * (1 - d)) (h2 : (1 - e - (a - b)) * (1 + e - (a + b)) * t = (y1 - y2) * (y1 - y2) * (1 - d * y1 * y1 * y2 * y2) * (1 - d)) :
    (1 + r) * (1 + y0) * ((1 - e) * (1 + e) * t) = (y1 + y2) * (y1 + y2) * (1 - d * y1 * y1 * y2 * y2) * (1 - d) ∧ (1 - r) * (1 - y0) * ((1 - e) * (1 + e) * t) = (y1 - y2) * (y1 - y2) * (1 - d * y1 * y1 * y2 * y2) * (1 - d) := by
  rw [← h1, ← h2, ← hr, ← h0]
  clear h1 h2 hr h0
  constructor
  · grind
  · grind
theorem four_sq {s l m y1 y2 X Z X3 Z3 : Fin n} (hs : s = 1 ∨ s = -1) (hX : X = l * (1 + y1)) (hZ : Z = l * (s * (1 - y1))) (hX3 : X3 = m * (1 + y2)) (hZ3 : Z3 = m * (s * (1 - y2))) :
    ((X3 - Z3) * (X + Z) + (X3 + Z3) * (X - Z)) * ((X3 - Z3) * (X + Z) + (X3 + Z3) * (X - Z)) = 16 * (l * l) * (m * m) * ((y1 + y2) * (y1 + y2)) ∧ ((X3 - Z3) * (X + Z) - (X3 + Z3) * (X - Z)) * ((X3 - Z3) * (X + Z) - (X3 + Z3) * (X - Z)) = 16 * (l * l) * (m * m) * ((y1 - y2) * (y1 - y2)) := by
  subst hX hZ hX3 hZ3
  rcases hs with h | h
  · subst h
    constructor
    · grind
    · grind
  · subst h
    constructor
    · grind
    · grind
theorem rep_sum (F : Fld n) {d s k c X Z X3 Z3 u : Fin n} {p q : Pt n} (ns : NS d) (hc : Con s d k c) (hp : On d p) (hq : On d q) (hu : u * (s * (1 - p.y)) = 1 + p.y) (hn : 1 + p.y ≠ 0) (h1 : Rep s X Z q.y) (h2 : Rep s X3 Z3 (add d q p).y) :
    Rep s (((X3 - Z3) * (X + Z) + (X3 + Z3) * (X - Z)) * ((X3 - Z3) * (X + Z) + (X3 + Z3) * (X - Z))) (u * (((X3 - Z3) * (X + Z) - (X3 + Z3) * (X - Z)) * ((X3 - Z3) * (X + Z) - (X3 + Z3) * (X - Z)))) (add d q (add d q p)).y := by
  obtain ⟨l, hl, hX, hZ⟩ := h1
  obtain ⟨m, hm, hX3, hZ3⟩ := h2
  have hQ := add_on F ns hq hp
  have hr := add_y F ns hq hQ
  have h0 := add_y F ns (neg_on hq) hQ
  rw [back F ns hp hq] at h0
  have hd := den F ns hq hQ
  have hk := k_ne F hc
  have hk1 := hc.one
  have h16 := sixteen F
  have hs : s = 1 ∨ s = -1 := by
    rcases hc.fit with h | h
    · exact .inl h.1
    · exact .inr h.1
  have hss := hc.sq
  have n1 := not_one F ns q.y
  have n2 := not_one F ns (add d q p).y
  have n12 := not_one F ns (q.y * (add d q p).y)
  obtain ⟨c1, c2⟩ := pair_core hq hQ
  obtain ⟨f1, f2⟩ := four_sq hs hX hZ hX3 hZ3
  have h0' : p.y * (1 + d * q.x * (add d q p).x * q.y * (add d q p).y) = q.y * (add d q p).y + q.x * (add d q p).x := by
    have e1 : (neg q).x = -q.x := rfl
    have e2 : (neg q).y = q.y := rfl
    rw [e1, e2] at h0
    clear c1 c2 f1 f2 n1 n2 n12 hd hX hZ hX3 hZ3 hr hu hss hs hk1 ns hc hQ hq hp
    generalize (add d q p).x = x2 at *
    generalize (add d q p).y = y2 at *
    grind
  obtain ⟨g1, g2⟩ := sum_core hr h0' c1 c2
  clear c1 c2 h0 h0' hr hX hZ hX3 hZ3
  rw [f1, f2]
  clear f1 f2
  generalize (add d q (add d q p)).y = r at *
  have n12' : 1 - d * q.y * q.y * (add d q p).y * (add d q p).y ≠ 0 := fun e => n12 (by rw [← e]; clear n1 n2 n12 hd g1 g2; grind)
  obtain ⟨w, hw⟩ := F.inv _ n12'
  have hw0 : w ≠ 0 := fun e => F.one (by rw [← hw, e]; grind)
  generalize hPi : (1 - d * q.x * (add d q p).x * q.y * (add d q p).y) * (1 + d * q.x * (add d q p).x * q.y * (add d q p).y) * ((1 - d * q.y * q.y) * (1 - d * (add d q p).y * (add d q p).y)) = Pi at *
  have hPi0 : Pi ≠ 0 := by
    rw [← hPi]
    exact F.mul (F.mul hd.2 hd.1) (F.mul n1 n2)
  clear hPi n1 n2 n12 n12' hd
  generalize q.y = y1 at *
  generalize (add d q p).y = y2 at *
  generalize p.y = y0 at *
  generalize 1 - d * y1 * y1 * y2 * y2 = K at *
  have hnu : 16 * (l * l) * (m * m) * (1 + y0) * Pi * (k * w) ≠ 0 := F.mul (F.mul (F.mul (F.mul (F.mul h16 (F.mul hl hl)) (F.mul hm hm)) hn) hPi0) (F.mul hk hw0)
  refine ⟨_, hnu, ?_, ?_⟩
  · have e : 16 * (l * l) * (m * m) * (1 + y0) * Pi * (k * w) * (1 + r) = 16 * (l * l) * (m * m) * (k * w) * ((1 + r) * (1 + y0) * Pi) := by
      clear g1 g2 hk1 hw hu hnu
      grind
    rw [e, g1]
    have e2 : 16 * (l * l) * (m * m) * (k * w) * ((y1 + y2) * (y1 + y2) * K * (1 - d)) = 16 * (l * l) * (m * m) * ((y1 + y2) * (y1 + y2)) * (K * w) * (k * (1 - d)) := by
      clear g1 g2 hk1 hw hu hnu e
      grind
    rw [e2, hw, hk1]
    clear g1 g2 hk1 hw hu hnu e e2
    grind
  · have e : 16 * (l * l) * (m * m) * (1 + y0) * Pi * (k * w) * (s * (1 - r)) = 16 * (l * l) * (m * m) * (k * w) * u * (s * s) * ((1 - r) * (1 - y0) * Pi) := by
      rw [← hu]
      clear g1 g2 hk1 hw hu hnu
      grind
    rw [e, g2, hss]
    have e2 : 16 * (l * l) * (m * m) * (k * w) * u * 1 * ((y1 - y2) * (y1 - y2) * K * (1 - d)) = u * (16 * (l * l) * (m * m) * ((y1 - y2) * (y1 - y2))) * (K * w) * (k * (1 - d)) := by
      clear g1 g2 hk1 hw hu hnu e
      grind
    rw [e2, hw, hk1]
    clear g1 g2 hk1 hw hu hnu e e2
    grind
/-- The number that a point stands for, and what is told of a quotient. -/
def Val (s v : Fin n) (q : Pt n) : Prop := (q.y = 1 → v = 0) ∧ (q.y ≠ 1 → v * (s * (1 - q.y)) = 1 + q.y)
def Out (a b v : Fin n) : Prop := (b = 0 → v = 0) ∧ (b ≠ 0 → v * b = a)
theorem s_ne (F : Fld n) {s : Fin n} (hs : s * s = 1) : s ≠ 0 := fun e => F.one (by rw [← hs, e]; grind)
theorem val_of_rep (F : Fld n) {s a b v : Fin n} {q : Pt n} (hs : s * s = 1) (h : Rep s a b q.y) (ho : Out a b v) : Val s v q := by
  obtain ⟨l, hl, ha, hb⟩ := h
  have h0 := s_ne F hs
  constructor
  · intro e
    refine ho.1 ?_
    rw [hb, e]; grind
  · intro e
    have e1 : 1 - q.y ≠ 0 := fun h => e (by grind)
    have hb0 : b ≠ 0 := by rw [hb]; exact F.mul hl (F.mul h0 e1)
    have h2 := ho.2 hb0
    rw [ha, hb] at h2
    refine F.cancel hl ?_
    generalize q.y = y at *
    clear ha hb ho hb0 e e1 hs
    grind
theorem val_unique (F : Fld n) {s v w : Fin n} {q : Pt n} (hs : s * s = 1) (h1 : Val s v q) (h2 : Val s w q) : v = w := by
  by_cases e : q.y = 1
  · rw [h1.1 e, h2.1 e]
  · have e1 : 1 - q.y ≠ 0 := fun h => e (by grind)
    exact F.cancel (F.mul (s_ne F hs) e1) ((h1.2 e).trans (h2.2 e).symm)
theorem one_d (F : Fld n) {d : Fin n} (ns : NS d) : 1 - d ≠ 0 := fun h => by
  have := not_one F ns 1
  exact this (by grind)
theorem flat_x (F : Fld n) {d : Fin n} (ns : NS d) {q : Pt n} (hq : On d q) (hy : q.y * q.y = 1) : q.x = 0 := by
  have h := one_d F ns
  unfold On at hq
  have e : (q.x * q.x) * (1 - d) = 0 := by
    generalize q.x = x at *
    generalize q.y = y at *
    grind
  rcases F.dom e with h1 | h1
  · rcases F.dom h1 with h2 | h2 <;> exact h2
  · exact absurd h1 h
theorem val_zero (F : Fld n) {s d : Fin n} (ns : NS d) {q : Pt n} (hq : On d q) (h : Val s 0 q) (m : Nat) : mul d (m * 2) q = O := by
  have hy : q.y * q.y = 1 := by
    by_cases e : q.y = 1
    · rw [e]; grind
    · have h2 := h.2 e
      generalize q.y = y at *
      clear h
      grind
  have hx := flat_x F ns hq hy
  have h2 : mul d 2 q = O := by
    show add d (add d O q) q = O
    rw [O_add F ns hq]
    refine (add_eq F ns hq hq ?_ ?_).symm
    · show 0 * (1 + d * q.x * q.x * q.y * q.y) = q.x * q.y + q.x * q.y
      rw [hx]; grind
    · show 1 * (1 - d * q.x * q.x * q.y * q.y) = q.y * q.y - q.x * q.x
      rw [hx, hy]; grind
  rw [← mul_mul F ns hq, h2, mul_O F ns]
theorem val_O {s : Fin n} : Val s 0 (O : Pt n) := ⟨fun _ => rfl, fun h => absurd rfl h⟩

/-- The ladder's state and its step. -/
structure S4 (n : Nat) where
  a : Fin n
  b : Fin n
  c : Fin n
  d : Fin n
def dx (x z : Fin n) : Fin n := (x + z) * (x + z) * ((x - z) * (x - z))
def dz (c x z : Fin n) : Fin n := ((x + z) * (x + z) - (x - z) * (x - z)) * ((x + z) * (x + z) + c * ((x + z) * (x + z) - (x - z) * (x - z)))
def sx (a b c d : Fin n) : Fin n := ((c - d) * (a + b) + (c + d) * (a - b)) * ((c - d) * (a + b) + (c + d) * (a - b))
def sz (u a b c d : Fin n) : Fin n := u * (((c - d) * (a + b) - (c + d) * (a - b)) * ((c - d) * (a + b) - (c + d) * (a - b)))
def stepF (c u : Fin n) (st : Bool) (S : S4 n) : S4 n := match st with
  | true => ⟨sx S.a S.b S.c S.d, sz u S.a S.b S.c S.d, dx S.c S.d, dz c S.c S.d⟩
  | false => ⟨dx S.a S.b, dz c S.a S.b, sx S.a S.b S.c S.d, sz u S.a S.b S.c S.d⟩
def ladF (c u : Fin n) (bits : Nat → Bool) : Nat → S4 n
  | 0 => ⟨1, 0, u, 1⟩
  | k + 1 => stepF c u (bits k) (ladF c u bits k)
def numF (bits : Nat → Bool) : Nat → Nat
  | 0 => 0
  | k + 1 => numF bits k + numF bits k + (bits k).toNat
theorem ladF_rep (F : Fld n) {s d k c u : Fin n} {p : Pt n} (ns : NS d) (hc : Con s d k c) (hp : On d p) (hu : u * (s * (1 - p.y)) = 1 + p.y) (hn : 1 + p.y ≠ 0) (bits : Nat → Bool) :
    ∀ j, Rep s (ladF c u bits j).a (ladF c u bits j).b (mul d (numF bits j) p).y ∧ Rep s (ladF c u bits j).c (ladF c u bits j).d (mul d (numF bits j + 1) p).y
  | 0 => by
    constructor
    · obtain ⟨w, hw⟩ := F.inv 2 F.two
      refine ⟨w, fun e => F.one (by rw [← hw, e]; grind), ?_, ?_⟩
      · show (1 : Fin n) = w * (1 + 1)
        grind
      · show (0 : Fin n) = w * (s * (1 - 1))
        grind
    · have e1 : s * (1 - p.y) ≠ 0 := fun e => hn (by rw [← hu, e]; grind)
      obtain ⟨w, hw⟩ := F.inv _ e1
      have e2 : (mul d (numF bits 0 + 1) p).y = p.y := by
        show (mul d 1 p).y = p.y
        rw [mul_one F ns hp]
      rw [e2]
      refine ⟨w, fun e => F.one (by rw [← hw, e]; grind), ?_, ?_⟩
      · show u = w * (1 + p.y)
        rw [← hu]
        generalize s * (1 - p.y) = t at *
        clear hu
        grind
      · show (1 : Fin n) = w * (s * (1 - p.y))
        generalize s * (1 - p.y) = t at *
        clear hu
        grind
  | j + 1 => by
    obtain ⟨h1, h2⟩ := ladF_rep F ns hc hp hu hn bits j
    have hk := mul_on F ns hp (numF bits j)
    have hk1 := mul_on F ns hp (numF bits j + 1)
    have e2 : mul d (numF bits j + 1) p = add d (mul d (numF bits j) p) p := rfl
    have hs : Rep s (sx (ladF c u bits j).a (ladF c u bits j).b (ladF c u bits j).c (ladF c u bits j).d) (sz u (ladF c u bits j).a (ladF c u bits j).b (ladF c u bits j).c (ladF c u bits j).d) (mul d (numF bits j + (numF bits j + 1)) p).y := by
      rw [mul_add F ns hp, e2]
      exact rep_sum F ns hc hp hk hu hn h1 (by rw [← e2]; exact h2)
    have hd0 := rep_dbl F ns hc hk h1
    rw [← mul_add F ns hp] at hd0
    have hd1 := rep_dbl F ns hc hk1 h2
    rw [← mul_add F ns hp] at hd1
    cases hb : bits j with
    | true =>
      have e : ladF c u bits (j + 1) = ⟨sx (ladF c u bits j).a (ladF c u bits j).b (ladF c u bits j).c (ladF c u bits j).d, sz u (ladF c u bits j).a (ladF c u bits j).b (ladF c u bits j).c (ladF c u bits j).d, dx (ladF c u bits j).c (ladF c u bits j).d, dz c (ladF c u bits j).c (ladF c u bits j).d⟩ := by rw [ladF, hb]; rfl
      have en : numF bits (j + 1) = numF bits j + (numF bits j + 1) := by rw [numF, hb]; rfl
      have en1 : numF bits (j + 1) + 1 = numF bits j + 1 + (numF bits j + 1) := by omega
      rw [en1, en, e]
      exact ⟨hs, hd1⟩
    | false =>
      have e : ladF c u bits (j + 1) = ⟨dx (ladF c u bits j).a (ladF c u bits j).b, dz c (ladF c u bits j).a (ladF c u bits j).b, sx (ladF c u bits j).a (ladF c u bits j).b (ladF c u bits j).c (ladF c u bits j).d, sz u (ladF c u bits j).a (ladF c u bits j).b (ladF c u bits j).c (ladF c u bits j).d⟩ := by rw [ladF, hb]; rfl
      have en : numF bits (j + 1) = numF bits j + numF bits j := by rw [numF, hb]; rfl
      have en1 : numF bits (j + 1) + 1 = numF bits j + (numF bits j + 1) := by omega
      rw [en1, en, e]
      exact ⟨hd0, hs⟩
theorem dz_flat {c x z : Fin n} (h : x * z = 0) : dz c x z = 0 := by
  unfold dz
  have e : (x + z) * (x + z) - (x - z) * (x - z) = 4 * (x * z) := by
    clear h
    grind
  rw [e, h]
  grind
theorem ladF_flat (c : Fin n) (bits : Nat → Bool) : ∀ j, (ladF c 0 bits j).a * (ladF c 0 bits j).b = 0 ∧ (ladF c 0 bits j).c * (ladF c 0 bits j).d = 0
  | 0 => ⟨by show (1 : Fin n) * 0 = 0; grind, by show (0 : Fin n) * 1 = 0; grind⟩
  | j + 1 => by
    obtain ⟨h1, h2⟩ := ladF_flat c bits j
    have z1 := dz_flat (c := c) h1
    have z2 := dz_flat (c := c) h2
    have z3 : ∀ a b c d : Fin n, sz 0 a b c d = 0 := fun a b c d => by unfold sz; grind
    rw [ladF]
    generalize ladF c 0 bits j = S at *
    cases bits j with
    | true =>
      show sx S.a S.b S.c S.d * sz 0 S.a S.b S.c S.d = 0 ∧ dx S.c S.d * dz c S.c S.d = 0
      rw [z2, z3]
      exact ⟨by grind, by grind⟩
    | false =>
      show dx S.a S.b * dz c S.a S.b = 0 ∧ sx S.a S.b S.c S.d * sz 0 S.a S.b S.c S.d = 0
      rw [z1, z3]
      exact ⟨by grind, by grind⟩
/-- What the ladder makes of a point's number is the number of the point so often. -/
theorem ladder_val (F : Fld n) {s d k c u v : Fin n} {q : Pt n} (ns : NS d) (hc : Con s d k c) (hq : On d q) (hv : Val s u q) (bits : Nat → Bool) (K m : Nat) (hN : numF bits K = m * 2) (ho : Out (ladF c u bits K).a (ladF c u bits K).b v) : Val s v (mul d (numF bits K) q) := by
  by_cases hu : u = 0
  · subst hu
    rw [hN, val_zero F ns hq hv]
    have hf := (ladF_flat c bits K).1
    have : v = 0 := by
      by_cases hb : (ladF c 0 bits K).b = 0
      · exact ho.1 hb
      · have h2 := ho.2 hb
        rcases F.dom hf with h3 | h3
        · rw [h3] at h2
          rcases F.dom h2 with h4 | h4
          · exact h4
          · exact absurd h4 hb
        · exact absurd h3 hb
    rw [this]; exact val_O
  · have e : q.y ≠ 1 := fun h => hu (hv.1 h)
    have e1 : 1 - q.y ≠ 0 := fun h => e (by grind)
    have h2 := hv.2 e
    have hn : 1 + q.y ≠ 0 := by rw [← h2]; exact F.mul hu (F.mul (s_ne F hc.sq) e1)
    exact val_of_rep F hc.sq (ladF_rep F ns hc hq h2 hn bits K).1 ho
/-- Every number is a point's, on one of two curves. -/
theorem point_of (F : Fld n) {c : Fin n} (hns : ∀ a b : Fin n, a * a = c * (c + 1) * (b * b) → b = 0) (hsq : ∀ w : Fin n, (∃ t, t * t = (c + 1) * w) ∨ ∃ t, t * t = c * w) (u : Fin n) : ∃ s d k q, NS d ∧ Con s d k c ∧ On d q ∧ Val s u q := by
  have hcc : c * (c + 1) ≠ 0 := fun e => F.one (hns 0 1 (by rw [e]; grind))
  have hc0 : c ≠ 0 := fun e => hcc (by rw [e]; grind)
  have hc1 : c + 1 ≠ 0 := fun e => hcc (by rw [e]; grind)
  obtain ⟨i0, hi0⟩ := F.inv c hc0
  obtain ⟨i1, hi1⟩ := F.inv (c + 1) hc1
  have ns1 : NS (c * i1) := fun a b h => hns ((c + 1) * a) b (by grind)
  have ns2 : NS ((c + 1) * i0) := fun a b h => hns (c * a) b (by grind)
  have con1 : Con (1 : Fin n) (c * i1) (c + 1) c := ⟨by grind, by grind, .inl ⟨rfl, rfl⟩⟩
  have con2 : Con (-1 : Fin n) ((c + 1) * i0) (-c) c := ⟨by grind, by grind, .inr ⟨rfl, rfl⟩⟩
  rcases hsq (u * (u * u + (4 * c + 2) * u + 1)) with ⟨t, ht⟩ | ⟨t, ht⟩
  · have h1 : u + 1 ≠ 0 := fun e => by
      have hu : u = -1 := by grind
      subst hu
      have h2 := hns t 2 (by clear hns hcc ns1 ns2 con1 con2 hi0 hi1; grind)
      exact F.two h2
    obtain ⟨w, hw⟩ := F.inv _ h1
    have hy1 : ((u - 1) * w) * (u + 1) = u - 1 := by
      clear ht con1 con2 hi0 hi1
      grind
    have key : (1 - c * i1 * ((u - 1) * w) * ((u - 1) * w)) * ((c + 1) * ((u + 1) * (u + 1))) = u * u + (4 * c + 2) * u + 1 := by
      generalize (u - 1) * w = y at *
      have a : c * i1 * (c + 1) = c := by clear ht hw hy1 con1 con2; grind
      have b : (y * (u + 1)) * (y * (u + 1)) = (u - 1) * (u - 1) := by rw [hy1]
      have e : (1 - c * i1 * y * y) * ((c + 1) * ((u + 1) * (u + 1))) = (c + 1) * ((u + 1) * (u + 1)) - (c * i1 * (c + 1)) * ((y * (u + 1)) * (y * (u + 1))) := by
        clear a b ht hw hy1 hi0 hi1 con1 con2
        grind
      rw [e, a, b]
      clear e a b ht hw hy1 hi0 hi1 con1 con2
      grind
    have hg : u * u + (4 * c + 2) * u + 1 ≠ 0 := by
      rw [← key]
      exact F.mul (not_one F ns1 _) (F.mul hc1 (F.mul h1 h1))
    obtain ⟨g, hgg⟩ := F.inv _ hg
    refine ⟨1, c * i1, c + 1, ⟨2 * t * g, (u - 1) * w⟩, ns1, con1, ?_, ?_, ?_⟩
    · show 2 * t * g * (2 * t * g) + (u - 1) * w * ((u - 1) * w) = 1 + c * i1 * (2 * t * g) * (2 * t * g) * ((u - 1) * w) * ((u - 1) * w)
      generalize (u - 1) * w = y at *
      generalize hG : u * u + (4 * c + 2) * u + 1 = G at *
      have e : 2 * t * g * (2 * t * g) * (1 - c * i1 * y * y) = 1 - y * y := by
        refine F.cancel (F.mul hc1 (F.mul h1 h1)) ?_
        have e1 : 2 * t * g * (2 * t * g) * (1 - c * i1 * y * y) * ((c + 1) * ((u + 1) * (u + 1))) = 4 * (t * t) * (g * g) * ((1 - c * i1 * y * y) * ((c + 1) * ((u + 1) * (u + 1)))) := by
          clear ht hw hy1 hi0 hi1 con1 con2 key hgg hG
          grind
        have e2 : (1 - y * y) * ((c + 1) * ((u + 1) * (u + 1))) = (c + 1) * ((u + 1) * (u + 1)) - (c + 1) * ((y * (u + 1)) * (y * (u + 1))) := by
          clear ht hw hy1 hi0 hi1 con1 con2 key hgg hG e1
          grind
        rw [e1, e2, key, ht, hy1]
        have e3 : 4 * ((c + 1) * (u * G)) * (g * g) * G = 4 * (c + 1) * u * ((G * g) * (G * g)) := by
          clear ht hw hy1 hi0 hi1 con1 con2 key hgg hG e1 e2
          grind
        rw [e3, hgg]
        clear ht hw hy1 hi0 hi1 con1 con2 key hgg hG e1 e2 e3
        grind
      clear ht hw hy1 hi0 hi1 con1 con2 key hgg hG
      grind
    · intro e
      exfalso
      have e' : (u - 1) * w = 1 := e
      rw [e'] at hy1
      exact F.two (by clear ht hw con1 con2 key hgg hi0 hi1; grind)
    · intro _
      show u * (1 * (1 - (u - 1) * w)) = 1 + (u - 1) * w
      clear ht con1 con2 key hgg hi0 hi1
      grind
  · have h1 : u - 1 ≠ 0 := fun e => by
      have hu : u = 1 := by grind
      subst hu
      have h2 := hns t 2 (by clear hns hcc ns1 ns2 con1 con2 hi0 hi1; grind)
      exact F.two h2
    obtain ⟨w, hw⟩ := F.inv _ h1
    have hy1 : ((u + 1) * w) * (u - 1) = u + 1 := by
      clear ht con1 con2 hi0 hi1
      grind
    have key : (1 - (c + 1) * i0 * ((u + 1) * w) * ((u + 1) * w)) * (c * ((u - 1) * (u - 1))) = -(u * u + (4 * c + 2) * u + 1) := by
      generalize (u + 1) * w = y at *
      have a : (c + 1) * i0 * c = c + 1 := by clear ht hw hy1 con1 con2; grind
      have b : (y * (u - 1)) * (y * (u - 1)) = (u + 1) * (u + 1) := by rw [hy1]
      have e : (1 - (c + 1) * i0 * y * y) * (c * ((u - 1) * (u - 1))) = c * ((u - 1) * (u - 1)) - ((c + 1) * i0 * c) * ((y * (u - 1)) * (y * (u - 1))) := by
        clear a b ht hw hy1 hi0 hi1 con1 con2
        grind
      rw [e, a, b]
      clear e a b ht hw hy1 hi0 hi1 con1 con2
      grind
    have hg : u * u + (4 * c + 2) * u + 1 ≠ 0 := fun e => by
      have := F.mul (not_one F ns2 ((u + 1) * w)) (F.mul hc0 (F.mul h1 h1))
      rw [key, e] at this
      exact this (by grind)
    obtain ⟨g, hgg⟩ := F.inv _ hg
    refine ⟨-1, (c + 1) * i0, -c, ⟨2 * t * g, (u + 1) * w⟩, ns2, con2, ?_, ?_, ?_⟩
    · show 2 * t * g * (2 * t * g) + (u + 1) * w * ((u + 1) * w) = 1 + (c + 1) * i0 * (2 * t * g) * (2 * t * g) * ((u + 1) * w) * ((u + 1) * w)
      generalize (u + 1) * w = y at *
      generalize hG : u * u + (4 * c + 2) * u + 1 = G at *
      have e : 2 * t * g * (2 * t * g) * (1 - (c + 1) * i0 * y * y) = 1 - y * y := by
        refine F.cancel (F.mul hc0 (F.mul h1 h1)) ?_
        have e1 : 2 * t * g * (2 * t * g) * (1 - (c + 1) * i0 * y * y) * (c * ((u - 1) * (u - 1))) = 4 * (t * t) * (g * g) * ((1 - (c + 1) * i0 * y * y) * (c * ((u - 1) * (u - 1)))) := by
          clear ht hw hy1 hi0 hi1 con1 con2 key hgg hG
          grind
        have e2 : (1 - y * y) * (c * ((u - 1) * (u - 1))) = c * ((u - 1) * (u - 1)) - c * ((y * (u - 1)) * (y * (u - 1))) := by
          clear ht hw hy1 hi0 hi1 con1 con2 key hgg hG e1
          grind
        rw [e1, e2, key, ht, hy1]
        have e3 : 4 * (c * (u * G)) * (g * g) * -G = -(4 * c * u * ((G * g) * (G * g))) := by
          clear ht hw hy1 hi0 hi1 con1 con2 key hgg hG e1 e2
          grind
        rw [e3, hgg]
        clear ht hw hy1 hi0 hi1 con1 con2 key hgg hG e1 e2 e3
        grind
      clear ht hw hy1 hi0 hi1 con1 con2 key hgg hG
      grind
    · intro e
      exfalso
      have e' : (u + 1) * w = 1 := e
      rw [e'] at hy1
      exact F.two (by clear ht hw con1 con2 key hgg hi0 hi1; grind)
    · intro _
      show u * (-1 * (1 - (u + 1) * w)) = 1 + (u + 1) * w
      clear ht con1 con2 key hgg hi0 hi1
      grind
/-- Two numbers, one after the other, either way round. -/
theorem commute (F : Fld n) {c : Fin n} (hns : ∀ a b : Fin n, a * a = c * (c + 1) * (b * b) → b = 0) (hsq : ∀ w : Fin n, (∃ t, t * t = (c + 1) * w) ∨ ∃ t, t * t = c * w) (u : Fin n) (A B : Nat → Bool) (K ma mb : Nat) (hA : numF A K = ma * 2) (hB : numF B K = mb * 2)
    {va vb vab vba : Fin n} (h1 : Out (ladF c u A K).a (ladF c u A K).b va) (h2 : Out (ladF c u B K).a (ladF c u B K).b vb) (h3 : Out (ladF c vb A K).a (ladF c vb A K).b vab) (h4 : Out (ladF c va B K).a (ladF c va B K).b vba) : vab = vba := by
  obtain ⟨s, d, k, q, ns, hc, hq, hv⟩ := point_of F hns hsq u
  have a1 := ladder_val F ns hc hq hv A K ma hA h1
  have b1 := ladder_val F ns hc hq hv B K mb hB h2
  have a2 := ladder_val F ns hc (mul_on F ns hq _) b1 A K ma hA h3
  have b2 := ladder_val F ns hc (mul_on F ns hq _) a1 B K mb hB h4
  rw [mul_mul F ns hq] at a2 b2
  rw [Nat.mul_comm] at b2
  exact val_unique F hc.sq a2 b2
end
end Go.Proofs.YtpaopdjbhmdfjaaDoor.Edw

/- Numbers modulo the prime as elements of a field; what is no square. No program. -/
namespace Go.Proofs.YtpaopdjbhmdfjaaDoor
open Go.RowKit


/-- A number modulo n. -/
def ph (n : Nat) [NeZero n] (m : Nat) : Fin n := Fin.ofNat n m
section
variable {n : Nat} [NeZero n]
theorem ph_val (m : Nat) : (ph n m).val = m % n := rfl
theorem ph_self (x : Fin n) : ph n x.val = x := Fin.ext (by rw [ph_val]; exact Nat.mod_eq_of_lt x.isLt)
theorem ph_mod (m : Nat) : ph n (m % n) = ph n m := Fin.ext (by rw [ph_val, ph_val, Nat.mod_mod])
theorem ph_add (a b : Nat) : ph n (a + b) = ph n a + ph n b := Fin.ext (by rw [ph_val, Fin.val_add, ph_val, ph_val, ← Nat.add_mod])
theorem ph_mul (a b : Nat) : ph n (a * b) = ph n a * ph n b := Fin.ext (by rw [ph_val, Fin.val_mul, ph_val, ph_val, ← Nat.mul_mod])
theorem ph_zero : ph n 0 = 0 := rfl
theorem ph_sub {a b : Nat} (hb : b < n) : ph n (a + n - b) = ph n a - ph n b := by
  have h : ph n (a + n - b) + ph n b = ph n a := by
    rw [← ph_add]
    refine Fin.ext ?_
    rw [ph_val, ph_val, show a + n - b + b = a + n by omega, Nat.add_mod_right]
  rw [← h]
  grind
theorem z_mul (x : Fin n) : 0 * x = 0 := by grind
theorem mul_z (x : Fin n) : x * 0 = 0 := by grind
theorem neg_two (h : (1 : Fin n) = -1 * (1 * 1)) : (2 : Fin n) = 0 := by grind
theorem three_two {p q r : Fin n} (h3 : q * p = -1) (h4 : r * r = 1) (h1 : p * r = -1) (h2 : q * r = -1) : (2 : Fin n) = 0 := by
  have h : (q * p) * (r * r) = (p * r) * (q * r) := by
    clear h1 h2 h3 h4
    grind
  rw [h3, h4, h1, h2] at h
  grind
theorem ph_inj {a b : Nat} (ha : a < n) (hb : b < n) (h : ph n a = ph n b) : a = b := by
  have := congrArg Fin.val h
  rwa [ph_val, ph_val, Nat.mod_eq_of_lt ha, Nat.mod_eq_of_lt hb] at this
end
instance pnz : NeZero NT.PN := ⟨by decide⟩
theorem pn_pos' : 0 < NT.PN := by decide
/-- Powers to half of what is below the prime. -/
def pwN (h m : Nat) : Nat := m ^ h % NT.PN
theorem pwN_mul (h a b : Nat) : pwN h (a * b % NT.PN) = pwN h a * pwN h b % NT.PN := by
  unfold pwN
  rw [← Nat.pow_mod, Nat.mul_pow, Nat.mul_mod]
theorem pwN_sq {h : Nat} (h2 : h + h = NT.PN - 1) {a : Nat} (h0 : 0 < a) (ha : a < NT.PN) : pwN h a * pwN h a % NT.PN = 1 := by
  unfold pwN
  rw [← Nat.mul_mod, ← Nat.pow_add, h2]
  exact NT.fermat a h0 ha
def HF : Nat := (NT.PN - 1) / 2
theorem hf_two : HF + HF = NT.PN - 1 := by decide
theorem pwN_is {h a v : Nat} (e : a ^ h % NT.PN = v) : pwN h a = v := e
theorem k_half : (121665 * 121666) ^ ((NT.PN - 1) / 2) % NT.PN = NT.PN - 1 := NT.pow_is 255 (by decide) (by kernel_rfl)
theorem hf_eq : HF = (NT.PN - 1) / 2 := rfl
theorem pw_k : pwN HF (121665 * 121666) = NT.PN - 1 := by
  have h := pwN_is k_half
  rw [← hf_eq] at h
  exact h
theorem inv_gen {x k : Nat} (hf : x ^ (k + 1) % NT.PN = 1) : x * (x ^ k % NT.PN) % NT.PN = 1 := by
  rw [Nat.mul_mod, Nat.mod_mod, ← Nat.mul_mod, Nat.mul_comm, ← Nat.pow_succ]
  exact hf
theorem pn_two : NT.PN - 1 = (NT.PN - 2) + 1 := by decide
theorem fermat_inv {x : Nat} (h0 : 0 < x) (hx : x < NT.PN) : x * (x ^ (NT.PN - 2) % NT.PN) % NT.PN = 1 := by
  have hf := NT.fermat x h0 hx
  rw [pn_two] at hf
  exact inv_gen hf
theorem ph_one {m : Nat} (h : m % NT.PN = 1) : ph NT.PN m = 1 := by
  rw [← ph_mod, h]
  exact Fin.ext (by rw [ph_val]; rfl)
theorem fin_pos {x : Fin NT.PN} (hx : x ≠ 0) : 0 < x.val := Nat.pos_of_ne_zero fun e => hx (Fin.ext e)
theorem pn_fld : Edw.Fld NT.PN where
  inv := fun x hx => by
    have hf := fermat_inv (fin_pos hx) x.isLt
    generalize x.val ^ (NT.PN - 2) % NT.PN = w at hf
    have h1 := ph_one hf
    rw [ph_mul, ph_self] at h1
    exact ⟨_, h1⟩
  two := fun h => by
    have := congrArg Fin.val h
    exact absurd this (by decide)
/-- The power to the half, as a number modulo the prime. -/
def pw (x : Fin NT.PN) : Fin NT.PN := ph NT.PN (pwN HF x.val)
theorem pw_mul (x y : Fin NT.PN) : pw (x * y) = pw x * pw y := by
  unfold pw
  rw [Fin.val_mul, pwN_mul, ph_mod, ph_mul]
theorem pw_sq {x : Fin NT.PN} (hx : x ≠ 0) : pw x * pw x = 1 := by
  unfold pw
  rw [← ph_mul]
  exact ph_one (pwN_sq hf_two (fin_pos hx) x.isLt)
theorem pw_pm {x : Fin NT.PN} (hx : x ≠ 0) : pw x = 1 ∨ pw x = -1 := by
  have h := pw_sq hx
  generalize pw x = z at *
  have h2 : (z - 1) * (z + 1) = 0 := by grind
  rcases pn_fld.dom h2 with h3 | h3
  · exact .inl (by grind)
  · exact .inr (by grind)
def cF : Fin NT.PN := ph NT.PN 121665
theorem cc_val : (cF * (cF + 1)).val = 121665 * 121666 := by decide
theorem pw_cc : pw (cF * (cF + 1)) = -1 := by
  unfold pw
  rw [cc_val, pw_k]
  exact Fin.ext (by decide)
theorem cc_ne : cF * (cF + 1) ≠ 0 := fun h => by
  have := congrArg Fin.val h
  rw [cc_val] at this
  exact absurd this (by decide)
theorem no_root (a b : Fin NT.PN) (h : a * a = cF * (cF + 1) * (b * b)) : b = 0 := by
  refine Classical.byContradiction fun hb => ?_
  have ha : a ≠ 0 := fun e => by
    rw [e] at h
    have h2 : cF * (cF + 1) * (b * b) = 0 := by rw [← h]; grind
    rcases pn_fld.dom h2 with h3 | h3
    · exact cc_ne h3
    · rcases pn_fld.dom h3 with h4 | h4 <;> exact hb h4
  have h1 : pw (a * a) = pw (cF * (cF + 1) * (b * b)) := by rw [h]
  rw [pw_mul a a, pw_mul (cF * (cF + 1)) (b * b), pw_mul b b, pw_sq ha, pw_sq hb, pw_cc] at h1
  exact pn_fld.two (neg_two h1)
theorem pw_one_sq {x : Fin NT.PN} (h : pw x = 1) : ∃ t, t * t = x := by
  have h1 : pwN HF x.val = 1 := by
    have h2 := congrArg Fin.val h
    unfold pw at h2
    rw [ph_val] at h2
    have h3 : pwN HF x.val < NT.PN := Nat.mod_lt _ pn_pos'
    rw [Nat.mod_eq_of_lt h3] at h2
    exact h2
  have hs : isSq x.val = true := by
    unfold isSq
    rw [← hf_eq]
    have h2 : x.val ^ HF % NT.PN = 1 := h1
    rw [decide_eq_true h2, Bool.or_true]
  have hx := of_bytes x.val x.isLt
  rw [← ok_sq hx] at hs
  obtain ⟨k, _, hk, _⟩ := root_num hx hs
  refine ⟨ph NT.PN k, ?_⟩
  rw [← ph_mul, ← ph_mod, hk, ph_self]
end Go.Proofs.YtpaopdjbhmdfjaaDoor
/- The curve -x^2 + y^2 = 1 + d x^2 y^2 by four coordinates: the sum, the negative, multiples, told by points of Edwards' curve. No program. -/
namespace Go.Proofs.YtpaopdjbhmdfjaaDoor
open Go.RowKit

structure C4 (n : Nat) where
  x : Fin n
  y : Fin n
  z : Fin n
  t : Fin n
section
variable {n : Nat} [NeZero n]
def addC (d : Fin n) (p q : C4 n) : C4 n :=
  let minus := (p.y - p.x) * (q.y - q.x)
  let plus := (p.y + p.x) * (q.y + q.x)
  let zz := p.z * q.z
  let dtt := d * p.t * q.t
  let x := plus - minus
  let y := plus + minus
  let bx := (zz + dtt) + (zz + dtt)
  let by' := (zz - dtt) + (zz - dtt)
  ⟨x * by', y * bx, bx * by', x * y⟩
def negC (p : C4 n) : C4 n := ⟨0 - p.x, p.y, p.z, 0 - p.t⟩
def atC (x y : Fin n) : C4 n := ⟨x, y, 1, x * y⟩
def noC : C4 n := ⟨0, 0, 0, 0⟩
/-- i times the first coordinate is that of a point of Edwards' curve. -/
structure Rep4 (i : Fin n) (c : C4 n) (P : Edw.Pt n) : Prop where
  nz : c.z ≠ 0
  x : c.x = -(i * P.x * c.z)
  y : c.y = P.y * c.z
  t : c.t = -(i * P.x * P.y * c.z)
theorem add_alg {i d e p q u v Z W : Fin n} (hi : i * i = -1) (he : d = -e) :
    d * -(i * p * q * Z) * -(i * u * v * W) = Z * W * (e * p * u * q * v) ∧
    (q * Z + -(i * p * Z)) * (v * W + -(i * u * W)) - (q * Z - -(i * p * Z)) * (v * W - -(i * u * W)) = -(i * (p * v + u * q) * (Z * W)) - i * (p * v + u * q) * (Z * W) ∧
    (q * Z + -(i * p * Z)) * (v * W + -(i * u * W)) + (q * Z - -(i * p * Z)) * (v * W - -(i * u * W)) = (q * v - p * u) * (Z * W) + (q * v - p * u) * (Z * W) := by
  refine ⟨?_, ?_, ?_⟩ <;> grind
theorem two_ne (F : Edw.Fld n) {x : Fin n} (hx : x ≠ 0) : x + x ≠ 0 := fun h => by
  have h2 : (2 : Fin n) * x = 0 := by grind
  rcases F.dom h2 with h3 | h3
  · exact F.two h3
  · exact hx h3
theorem fin_x {i r s a b A B : Fin n} (ha : r * a = s) : (-(i * s * A) - i * s * A) * (A * b + A * b) = -(i * r * ((A * a + A * a) * (A * b + A * b))) := by grind
theorem fin_y {r s a b A : Fin n} (hb : r * b = s) : (s * A + s * A) * (A * a + A * a) = r * ((A * a + A * a) * (A * b + A * b)) := by grind
theorem fin_t {i r r' s s' a b A : Fin n} (ha : r * a = s) (hb : r' * b = s') : (-(i * s * A) - i * s * A) * (s' * A + s' * A) = -(i * r * r' * ((A * a + A * a) * (A * b + A * b))) := by grind
theorem up1 (Z f : Fin n) : Z + Z * f = Z * (1 + f) := by grind
theorem up2 (Z f : Fin n) : Z - Z * f = Z * (1 - f) := by grind
theorem rep_add (F : Edw.Fld n) {i d e : Fin n} (ns : Edw.NS e) (hi : i * i = -1) (he : d = -e) {c c' : C4 n} {P Q : Edw.Pt n} (hP : Edw.On e P) (hQ : Edw.On e Q) (h : Rep4 i c P) (k : Rep4 i c' Q) : Rep4 i (addC d c c') (Edw.add e P Q) := by
  obtain ⟨d1, d2⟩ := Edw.den F ns hP hQ
  have ex := Edw.add_x F ns hP hQ
  have ey := Edw.add_y F ns hP hQ
  have hz := F.mul h.nz k.nz
  obtain ⟨a1, a2, a3⟩ := add_alg (p := P.x) (q := P.y) (u := Q.x) (v := Q.y) (Z := c.z) (W := c'.z) hi he
  have e1 : c.z * c'.z + d * c.t * c'.t = (c.z * c'.z) * (1 + e * P.x * Q.x * P.y * Q.y) := by rw [h.t, k.t, a1, up1]
  have e2 : c.z * c'.z - d * c.t * c'.t = (c.z * c'.z) * (1 - e * P.x * Q.x * P.y * Q.y) := by rw [h.t, k.t, a1, up2]
  have e3 : (c.y + c.x) * (c'.y + c'.x) - (c.y - c.x) * (c'.y - c'.x) = -(i * (P.x * Q.y + Q.x * P.y) * (c.z * c'.z)) - i * (P.x * Q.y + Q.x * P.y) * (c.z * c'.z) := by rw [h.x, h.y, k.x, k.y]; exact a2
  have e4 : (c.y + c.x) * (c'.y + c'.x) + (c.y - c.x) * (c'.y - c'.x) = (P.y * Q.y - P.x * Q.x) * (c.z * c'.z) + (P.y * Q.y - P.x * Q.x) * (c.z * c'.z) := by rw [h.x, h.y, k.x, k.y]; exact a3
  constructor
  · show ((c.z * c'.z + d * c.t * c'.t) + (c.z * c'.z + d * c.t * c'.t)) * ((c.z * c'.z - d * c.t * c'.t) + (c.z * c'.z - d * c.t * c'.t)) ≠ 0
    rw [e1, e2]
    exact F.mul (two_ne F (F.mul hz d1)) (two_ne F (F.mul hz d2))
  · show ((c.y + c.x) * (c'.y + c'.x) - (c.y - c.x) * (c'.y - c'.x)) * ((c.z * c'.z - d * c.t * c'.t) + (c.z * c'.z - d * c.t * c'.t)) = -(i * (Edw.add e P Q).x * (((c.z * c'.z + d * c.t * c'.t) + (c.z * c'.z + d * c.t * c'.t)) * ((c.z * c'.z - d * c.t * c'.t) + (c.z * c'.z - d * c.t * c'.t))))
    rw [e1, e2, e3]
    exact fin_x (B := 0) ex
  · show ((c.y + c.x) * (c'.y + c'.x) + (c.y - c.x) * (c'.y - c'.x)) * ((c.z * c'.z + d * c.t * c'.t) + (c.z * c'.z + d * c.t * c'.t)) = (Edw.add e P Q).y * (((c.z * c'.z + d * c.t * c'.t) + (c.z * c'.z + d * c.t * c'.t)) * ((c.z * c'.z - d * c.t * c'.t) + (c.z * c'.z - d * c.t * c'.t)))
    rw [e1, e2, e4]
    exact fin_y ey
  · show ((c.y + c.x) * (c'.y + c'.x) - (c.y - c.x) * (c'.y - c'.x)) * ((c.y + c.x) * (c'.y + c'.x) + (c.y - c.x) * (c'.y - c'.x)) = -(i * (Edw.add e P Q).x * (Edw.add e P Q).y * (((c.z * c'.z + d * c.t * c'.t) + (c.z * c'.z + d * c.t * c'.t)) * ((c.z * c'.z - d * c.t * c'.t) + (c.z * c'.z - d * c.t * c'.t))))
    rw [e1, e2, e3, e4]
    exact fin_t ex ey
theorem neg_alg (i p q Z : Fin n) : 0 - -(i * p * Z) = -(i * -p * Z) ∧ 0 - -(i * p * q * Z) = -(i * -p * q * Z) := by
  constructor <;> grind
theorem rep_neg {i : Fin n} {c : C4 n} {P : Edw.Pt n} (h : Rep4 i c P) : Rep4 i (negC c) (Edw.neg P) := by
  refine ⟨h.nz, ?_, h.y, ?_⟩
  · show 0 - c.x = _
    rw [h.x]; exact (neg_alg i P.x P.y c.z).1
  · show 0 - c.t = _
    rw [h.t]; exact (neg_alg i P.x P.y c.z).2
theorem at_alg (i x y : Fin n) (hi : i * i = -1) : x = -(i * (i * x) * 1) ∧ y = y * 1 ∧ x * y = -(i * (i * x) * y * 1) := by
  refine ⟨?_, ?_, ?_⟩ <;> grind
theorem rep_at (F : Edw.Fld n) {i : Fin n} (hi : i * i = -1) (x y : Fin n) : Rep4 i (atC x y) ⟨i * x, y⟩ := by
  obtain ⟨a, b, c⟩ := at_alg i x y hi
  exact ⟨F.one, a, b, c⟩
theorem rep_nought (F : Edw.Fld n) {i : Fin n} (hi : i * i = -1) : Rep4 i (atC 0 1) Edw.O := by
  have h := rep_at F hi 0 1
  have e : (⟨i * 0, 1⟩ : Edw.Pt n) = Edw.O := by rw [mul_z]; rfl
  rwa [e] at h
theorem on_alg {i d e x y Z : Fin n} (hi : i * i = -1) (he : d = -e) (hO : x * x + y * y = 1 + e * x * x * y * y) :
    y * Z * (y * Z) - -(i * x * Z) * -(i * x * Z) = Z * Z + d * (-(i * x * y * Z) * -(i * x * y * Z)) ∧ -(i * x * y * Z) * Z = -(i * x * Z) * (y * Z) := by
  refine ⟨?_, ?_⟩
  · have e1 : y * Z * (y * Z) - -(i * x * Z) * -(i * x * Z) = (x * x + y * y) * (Z * Z) := by clear hO; grind
    rw [e1, hO]; clear hO e1; grind
  · clear hO; grind
theorem rep_on {i d e : Fin n} (hi : i * i = -1) (he : d = -e) {c : C4 n} {P : Edw.Pt n} (hP : Edw.On e P) (h : Rep4 i c P) : c.t * c.z = c.x * c.y ∧ c.y * c.y - c.x * c.x = c.z * c.z + d * (c.t * c.t) := by
  obtain ⟨a, b⟩ := on_alg (Z := c.z) hi he hP
  constructor
  · rw [h.t, h.x, h.y]; exact b
  · rw [h.t, h.x, h.y]; exact a
theorem eq_alg (i x y Z W : Fin n) : -(i * x * Z) * W = -(i * x * W) * Z ∧ y * Z * W = y * W * Z := by constructor <;> grind
theorem rep_eq {i : Fin n} {c c' : C4 n} {P : Edw.Pt n} (h : Rep4 i c P) (k : Rep4 i c' P) : c.x * c'.z = c'.x * c.z ∧ c.y * c'.z = c'.y * c.z := by
  rw [h.x, h.y, k.x, k.y]
  exact eq_alg i P.x P.y c.z c'.z
/-- The coordinates themselves. -/
theorem rep_aff {i v : Fin n} {c : C4 n} {P : Edw.Pt n} (h : Rep4 i c P) (hv : c.z * v = 1) : c.x * v = -(i * P.x) ∧ c.y * v = P.y := by
  rw [h.x, h.y]
  generalize c.z = z at *
  clear h
  constructor <;> grind
/-- The zero value. -/
theorem no_add (d : Fin n) (c : C4 n) : (addC d noC c).z = 0 := by
  show (((0 : Fin n) * c.z + d * 0 * c.t) + ((0 : Fin n) * c.z + d * 0 * c.t)) * (((0 : Fin n) * c.z - d * 0 * c.t) + ((0 : Fin n) * c.z - d * 0 * c.t)) = 0
  grind
/-- As the document has it: numerators by one denominator. -/
structure C3 (n : Nat) where
  x : Fin n
  y : Fin n
  z : Fin n
structure Rep3 (i : Fin n) (c : C3 n) (P : Edw.Pt n) : Prop where
  nz : c.z ≠ 0
  x : c.x = -(i * P.x * c.z)
  y : c.y = P.y * c.z
def add3 (d : Fin n) (p q : C3 n) : C3 n :=
  let a := p.z * q.z
  let b := a * a
  let c := p.x * q.x
  let e := p.y * q.y
  let f := d * (c * e)
  let less := b - f
  let more := b + f
  let cross := (p.x + p.y) * (q.x + q.y) - c - e
  ⟨a * (less * cross), a * (more * (e + c)), less * more⟩
theorem add3_alg {i d e p q u v Z W : Fin n} (hi : i * i = -1) (he : d = -e) :
    d * (-(i * p * Z) * -(i * u * W) * (q * Z * (v * W))) = Z * W * (Z * W) * (e * p * u * q * v) ∧
    (-(i * p * Z) + q * Z) * (-(i * u * W) + v * W) - -(i * p * Z) * -(i * u * W) - q * Z * (v * W) = -(i * (p * v + u * q) * (Z * W)) ∧
    q * Z * (v * W) + -(i * p * Z) * -(i * u * W) = (q * v - p * u) * (Z * W) := by
  refine ⟨?_, ?_, ?_⟩ <;> grind
theorem fin3_x {i r s a b A : Fin n} (ha : r * a = s) : A * (A * A * b * -(i * s * A)) = -(i * r * (A * A * b * (A * A * a))) := by grind
theorem fin3_y {r s a b A : Fin n} (hb : r * b = s) : A * (A * A * a * (s * A)) = r * (A * A * b * (A * A * a)) := by grind
theorem rep3_add (F : Edw.Fld n) {i d e : Fin n} (ns : Edw.NS e) (hi : i * i = -1) (he : d = -e) {c c' : C3 n} {P Q : Edw.Pt n} (hP : Edw.On e P) (hQ : Edw.On e Q) (h : Rep3 i c P) (k : Rep3 i c' Q) : Rep3 i (add3 d c c') (Edw.add e P Q) := by
  obtain ⟨d1, d2⟩ := Edw.den F ns hP hQ
  have ex := Edw.add_x F ns hP hQ
  have ey := Edw.add_y F ns hP hQ
  have hz := F.mul h.nz k.nz
  obtain ⟨a1, a2, a3⟩ := add3_alg (p := P.x) (q := P.y) (u := Q.x) (v := Q.y) (Z := c.z) (W := c'.z) hi he
  have e1 : c.z * c'.z * (c.z * c'.z) + d * (c.x * c'.x * (c.y * c'.y)) = (c.z * c'.z) * (c.z * c'.z) * (1 + e * P.x * Q.x * P.y * Q.y) := by rw [h.x, k.x, h.y, k.y, a1, up1]
  have e2 : c.z * c'.z * (c.z * c'.z) - d * (c.x * c'.x * (c.y * c'.y)) = (c.z * c'.z) * (c.z * c'.z) * (1 - e * P.x * Q.x * P.y * Q.y) := by rw [h.x, k.x, h.y, k.y, a1, up2]
  have e3 : (c.x + c.y) * (c'.x + c'.y) - c.x * c'.x - c.y * c'.y = -(i * (P.x * Q.y + Q.x * P.y) * (c.z * c'.z)) := by rw [h.x, h.y, k.x, k.y]; exact a2
  have e4 : c.y * c'.y + c.x * c'.x = (P.y * Q.y - P.x * Q.x) * (c.z * c'.z) := by rw [h.x, h.y, k.x, k.y]; exact a3
  constructor
  · show (c.z * c'.z * (c.z * c'.z) - d * (c.x * c'.x * (c.y * c'.y))) * (c.z * c'.z * (c.z * c'.z) + d * (c.x * c'.x * (c.y * c'.y))) ≠ 0
    rw [e1, e2]
    exact F.mul (F.mul (F.mul hz hz) d2) (F.mul (F.mul hz hz) d1)
  · show c.z * c'.z * ((c.z * c'.z * (c.z * c'.z) - d * (c.x * c'.x * (c.y * c'.y))) * ((c.x + c.y) * (c'.x + c'.y) - c.x * c'.x - c.y * c'.y)) = -(i * (Edw.add e P Q).x * ((c.z * c'.z * (c.z * c'.z) - d * (c.x * c'.x * (c.y * c'.y))) * (c.z * c'.z * (c.z * c'.z) + d * (c.x * c'.x * (c.y * c'.y)))))
    rw [e1, e2, e3]
    exact fin3_x ex
  · show c.z * c'.z * ((c.z * c'.z * (c.z * c'.z) + d * (c.x * c'.x * (c.y * c'.y))) * (c.y * c'.y + c.x * c'.x)) = (Edw.add e P Q).y * ((c.z * c'.z * (c.z * c'.z) - d * (c.x * c'.x * (c.y * c'.y))) * (c.z * c'.z * (c.z * c'.z) + d * (c.x * c'.x * (c.y * c'.y))))
    rw [e1, e2, e4]
    exact fin3_y ey
theorem rep3_aff {i v : Fin n} {c : C3 n} {P : Edw.Pt n} (h : Rep3 i c P) (hv : c.z * v = 1) : c.x * v = -(i * P.x) ∧ c.y * v = P.y := by
  rw [h.x, h.y]
  generalize c.z = z at *
  clear h
  constructor <;> grind
theorem rep3_of (F : Edw.Fld n) {i : Fin n} (hi : i * i = -1) (x y : Fin n) : Rep3 i ⟨x, y, 1⟩ ⟨i * x, y⟩ := by
  obtain ⟨a, b, _⟩ := at_alg i x y hi
  exact ⟨F.one, a, b⟩
theorem rep3_nought (F : Edw.Fld n) {i : Fin n} (hi : i * i = -1) : Rep3 i ⟨0, 1, 1⟩ Edw.O := by
  have h := rep3_of F hi 0 1
  have e : (⟨i * 0, 1⟩ : Edw.Pt n) = Edw.O := by rw [mul_z]; rfl
  rwa [e] at h
end
end Go.Proofs.YtpaopdjbhmdfjaaDoor
