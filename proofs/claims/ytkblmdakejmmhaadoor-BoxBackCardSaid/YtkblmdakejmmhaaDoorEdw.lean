/- Edwards' curves over the numbers below a prime: the sum of two points, its laws, and the ladder's two steps. No program is named. -/
namespace Go.Proofs.YtkblmdakejmmhaaDoor.Edw

/-- Numbers modulo n, where what is not 0 has an inverse. -/
structure Fld (n : Nat) [NeZero n] : Prop where
  inv : ∀ x : Fin n, x ≠ 0 → ∃ w, x * w = 1
  two : (2 : Fin n) ≠ 0
structure Pt (n : Nat) where
  x : Fin n
  y : Fin n

section
variable {n : Nat} [NeZero n]
set_option maxRecDepth 50000 in
theorem Fld.dom (F : Fld n) {x y : Fin n} (h : x * y = 0) : x = 0 ∨ y = 0 := by
  by_cases hx : x = 0
  · exact .inl hx
  · obtain ⟨w, hw⟩ := F.inv x hx
    right
    have : y = (x * w) * y := by rw [hw]; grind
    rw [this]; grind
set_option maxRecDepth 50000 in
theorem Fld.one (F : Fld n) : (1 : Fin n) ≠ 0 := fun h => F.two (by grind)
set_option maxRecDepth 50000 in
theorem Fld.mul (F : Fld n) {x y : Fin n} (hx : x ≠ 0) (hy : y ≠ 0) : x * y ≠ 0 := fun h => (F.dom h).elim hx hy
set_option maxRecDepth 50000 in
theorem Fld.cancel (F : Fld n) {x y z : Fin n} (hx : x ≠ 0) (h : y * x = z * x) : y = z := by
  obtain ⟨w, hw⟩ := F.inv x hx
  have h1 : y = (y * x) * w := by grind
  have h2 : z = (z * x) * w := by grind
  rw [h1, h2, h]
/-- The curve, and that d is no square. -/
def On (d : Fin n) (p : Pt n) : Prop := p.x * p.x + p.y * p.y = 1 + d * p.x * p.x * p.y * p.y
def NS (d : Fin n) : Prop := ∀ a b : Fin n, a * a = d * (b * b) → b = 0
open Classical in
noncomputable def inv (x : Fin n) : Fin n := if h : ∃ w, x * w = 1 then h.choose else 0
set_option maxRecDepth 50000 in
theorem inv_mul (F : Fld n) {x : Fin n} (hx : x ≠ 0) : x * inv x = 1 := by
  have h := F.inv x hx
  unfold inv
  rw [dif_pos h]
  exact h.choose_spec
noncomputable def add (d : Fin n) (p q : Pt n) : Pt n :=
  ⟨(p.x * q.y + q.x * p.y) * inv (1 + d * p.x * q.x * p.y * q.y), (p.y * q.y - p.x * q.x) * inv (1 - d * p.x * q.x * p.y * q.y)⟩
set_option maxRecDepth 50000 in
theorem sq_one {d x1 y1 x2 y2 e : Fin n} (F : Fld n) (ns : NS d) (e1 : x1 * x1 + y1 * y1 = 1 + d * x1 * x1 * y1 * y1) (e2 : x2 * x2 + y2 * y2 = 1 + d * x2 * x2 * y2 * y2) (he : e = d * x1 * x2 * y1 * y2) : e * e ≠ 1 := fun h => by
  have a1 : (x1 + e * y1) * (x1 + e * y1) = d * ((x1 * y1 * (x2 + y2)) * (x1 * y1 * (x2 + y2))) := by grind
  have a2 : (x1 - e * y1) * (x1 - e * y1) = d * ((x1 * y1 * (x2 - y2)) * (x1 * y1 * (x2 - y2))) := by grind
  have b1 := ns _ _ a1
  have b2 := ns _ _ a2
  refine F.two ?_
  have c : 2 * e = d * y2 * (x1 * y1 * (x2 + y2)) + d * y2 * (x1 * y1 * (x2 - y2)) := by rw [he]; grind
  rw [b1, b2] at c
  have c2 : 2 * e = 0 := by grind
  have : (2 : Fin n) = (2 * e) * e := by grind
  rw [this, c2]; grind
set_option maxRecDepth 50000 in
theorem den (F : Fld n) {d : Fin n} (ns : NS d) {p q : Pt n} (hp : On d p) (hq : On d q) : 1 + d * p.x * q.x * p.y * q.y ≠ 0 ∧ 1 - d * p.x * q.x * p.y * q.y ≠ 0 := by
  have h := sq_one F ns hp hq rfl
  constructor <;> intro h2 <;> refine h ?_
  · generalize d * p.x * q.x * p.y * q.y = e at *
    grind
  · generalize d * p.x * q.x * p.y * q.y = e at *
    grind
set_option maxRecDepth 50000 in
theorem add_x (F : Fld n) {d : Fin n} (ns : NS d) {p q : Pt n} (hp : On d p) (hq : On d q) : (add d p q).x * (1 + d * p.x * q.x * p.y * q.y) = p.x * q.y + q.x * p.y := by
  have h := inv_mul F (den F ns hp hq).1
  unfold add
  generalize inv (1 + d * p.x * q.x * p.y * q.y) = w at *
  show (p.x * q.y + q.x * p.y) * w * (1 + d * p.x * q.x * p.y * q.y) = _
  generalize 1 + d * p.x * q.x * p.y * q.y = t at *
  grind
set_option maxRecDepth 50000 in
theorem add_y (F : Fld n) {d : Fin n} (ns : NS d) {p q : Pt n} (hp : On d p) (hq : On d q) : (add d p q).y * (1 - d * p.x * q.x * p.y * q.y) = p.y * q.y - p.x * q.x := by
  have h := inv_mul F (den F ns hp hq).2
  unfold add
  generalize inv (1 - d * p.x * q.x * p.y * q.y) = w at *
  show (p.y * q.y - p.x * q.x) * w * (1 - d * p.x * q.x * p.y * q.y) = _
  generalize 1 - d * p.x * q.x * p.y * q.y = t at *
  grind
set_option maxRecDepth 50000 in
theorem on_core {d x1 y1 x2 y2 : Fin n} (e1 : x1 * x1 + y1 * y1 = 1 + d * x1 * x1 * y1 * y1) (e2 : x2 * x2 + y2 * y2 = 1 + d * x2 * x2 * y2 * y2) :
    (x1 * y2 + x2 * y1) * (x1 * y2 + x2 * y1) * ((1 - d * x1 * x2 * y1 * y2) * (1 - d * x1 * x2 * y1 * y2)) + (y1 * y2 - x1 * x2) * (y1 * y2 - x1 * x2) * ((1 + d * x1 * x2 * y1 * y2) * (1 + d * x1 * x2 * y1 * y2)) = (1 + d * x1 * x2 * y1 * y2) * (1 + d * x1 * x2 * y1 * y2) * ((1 - d * x1 * x2 * y1 * y2) * (1 - d * x1 * x2 * y1 * y2)) + d * ((x1 * y2 + x2 * y1) * (x1 * y2 + x2 * y1)) * ((y1 * y2 - x1 * x2) * (y1 * y2 - x1 * x2)) := by grind
set_option maxRecDepth 50000 in
theorem add_on (F : Fld n) {d : Fin n} (ns : NS d) {p q : Pt n} (hp : On d p) (hq : On d q) : On d (add d p q) := by
  have hx := add_x F ns hp hq
  have hy := add_y F ns hp hq
  have h0 := den F ns hp hq
  have hc := on_core hp hq
  unfold On
  generalize add d p q = r at *
  generalize 1 + d * p.x * q.x * p.y * q.y = s at *
  generalize 1 - d * p.x * q.x * p.y * q.y = t at *
  rw [← hx, ← hy] at hc
  refine F.cancel (F.mul (F.mul h0.1 h0.1) (F.mul h0.2 h0.2)) ?_
  grind
set_option maxRecDepth 50000 in
theorem add_eq (F : Fld n) {d : Fin n} (ns : NS d) {p q r : Pt n} (hp : On d p) (hq : On d q) (hx : r.x * (1 + d * p.x * q.x * p.y * q.y) = p.x * q.y + q.x * p.y) (hy : r.y * (1 - d * p.x * q.x * p.y * q.y) = p.y * q.y - p.x * q.x) : r = add d p q := by
  have h1 := F.cancel (den F ns hp hq).1 (hx.trans (add_x F ns hp hq).symm)
  have h2 := F.cancel (den F ns hp hq).2 (hy.trans (add_y F ns hp hq).symm)
  cases r; simp_all
set_option maxRecDepth 50000 in
theorem zero3 (a b c : Fin n) : a * 0 + b * 0 + c * 0 = 0 := by grind
set_option maxRecDepth 50000 in
theorem assoc_x {x1 y1 x2 y2 x3 y3 d : Fin n} (z1 : (x1*x1+y1*y1-1-d*x1*x1*y1*y1) = 0) (z2 : (x2*x2+y2*y2-1-d*x2*x2*y2*y2) = 0) (z3 : (x3*x3+y3*y3-1-d*x3*x3*y3*y3) = 0) : ((x1*y2+x2*y1)*(1-d*x1*x2*y1*y2)*y3+x3*(y1*y2-x1*x2)*(1+d*x1*x2*y1*y2))*((1+d*x2*x3*y2*y3)*(1-d*x2*x3*y2*y3)+d*(x2*y3+x3*y2)*(y2*y3-x2*x3)*x1*y1) - ((x2*y3+x3*y2)*(1-d*x2*x3*y2*y3)*y1+x1*(y2*y3-x2*x3)*(1+d*x2*x3*y2*y3))*((1+d*x1*x2*y1*y2)*(1-d*x1*x2*y1*y2)+d*(x1*y2+x2*y1)*(y1*y2-x1*x2)*x3*y3) = 0 := by
  have h : ((x1*y2+x2*y1)*(1-d*x1*x2*y1*y2)*y3+x3*(y1*y2-x1*x2)*(1+d*x1*x2*y1*y2))*((1+d*x2*x3*y2*y3)*(1-d*x2*x3*y2*y3)+d*(x2*y3+x3*y2)*(y2*y3-x2*x3)*x1*y1) - ((x2*y3+x3*y2)*(1-d*x2*x3*y2*y3)*y1+x1*(y2*y3-x2*x3)*(1+d*x2*x3*y2*y3))*((1+d*x1*x2*y1*y2)*(1-d*x1*x2*y1*y2)+d*(x1*y2+x2*y1)*(y1*y2-x1*x2)*x3*y3) =
    (x1*x2*x2*x2*x2*y2*y2*y2*x3*x3*y3*d*d + (-1)*x1*x2*x2*x2*x2*y2*x3*x3*y3*d + (-1)*x1*x2*x2*x2*y2*y2*y2*y2*x3*y3*y3*d*d + (-1)*x1*x2*x2*x2*y2*y2*x3*x3*x3*d + x1*x2*x2*x2*y2*y2*x3*d + x1*x2*x2*y2*y2*y2*y3*y3*y3*d + (-1)*x1*x2*x2*y2*y2*y2*y3*d + x1*x2*y2*y2*y2*y2*x3*y3*y3*d + y1*x2*x2*x2*x2*y2*y2*y2*x3*y3*y3*d*d + (-1)*y1*x2*x2*x2*x2*y2*x3*y3*y3*d + y1*x2*x2*x2*y2*y2*y2*y2*x3*x3*y3*d*d + y1*x2*x2*x2*y2*y2*y3*y3*y3*d + (-1)*y1*x2*x2*x2*y2*y2*y3*d + y1*x2*x2*y2*y2*y2*x3*x3*x3*d + (-1)*y1*x2*x2*y2*y2*y2*x3*d + (-1)*y1*x2*y2*y2*y2*y2*x3*x3*y3*d) * (x1*x1+y1*y1-1-d*x1*x1*y1*y1) + (x1*x1*x1*x2*x2*y2*x3*x3*y3*d + (-1)*x1*x1*x1*x2*y2*y2*x3*y3*y3*d + x1*x1*x1*x2*x3*x3*x3*y3*y3*d + (-1)*x1*x1*x1*x2*x3*x3*x3 + (-1)*x1*x1*x1*x2*x3*y3*y3 + x1*x1*x1*x2*x3 + (-1)*x1*x1*x1*y2*x3*x3*y3*y3*y3*d + x1*x1*x1*y2*x3*x3*y3 + x1*x1*x1*y2*y3*y3*y3 + (-1)*x1*x1*x1*y2*y3 + (-1)*x1*x1*y1*x2*x2*y2*x3*x3*x3*y3*y3*d*d + x1*x1*y1*x2*x2*y2*x3*y3*y3*d + (-1)*x1*x1*y1*x2*y2*y2*x3*x3*y3*y3*y3*d*d + x1*x1*y1*x2*y2*y2*x3*x3*y3*d + (-1)*x1*x1*y1*x2*x3*x3*y3*y3*y3*d + x1*x1*y1*x2*x3*x3*y3 + x1*x1*y1*x2*y3*y3*y3 + (-1)*x1*x1*y1*x2*y3 + (-1)*x1*x1*y1*y2*x3*x3*x3*y3*y3*d + x1*x1*y1*y2*x3*x3*x3 + x1*x1*y1*y2*x3*y3*y3 + (-1)*x1*x1*y1*y2*x3 + (-1)*x1*y1*y1*x2*x2*y2*x3*x3*y3*y3*y3*d*d + x1*y1*y1*x2*x2*y2*x3*x3*y3*d + x1*y1*y1*x2*y2*y2*x3*x3*x3*y3*y3*d*d + (-1)*x1*y1*y1*x2*y2*y2*x3*y3*y3*d + x1*y1*y1*x2*x3*x3*x3*y3*y3*d + (-1)*x1*y1*y1*x2*x3*x3*x3 + (-1)*x1*y1*y1*x2*x3*y3*y3 + x1*y1*y1*x2*x3 + (-1)*x1*y1*y1*y2*x3*x3*y3*y3*y3*d + x1*y1*y1*y2*x3*x3*y3 + x1*y1*y1*y2*y3*y3*y3 + (-1)*x1*y1*y1*y2*y3 + (-1)*x1*x2*x2*y2*x3*x3*y3*d + x1*x2*y2*y2*x3*y3*y3*d + (-1)*x1*x2*x3*x3*x3*y3*y3*d + x1*x2*x3*x3*x3 + x1*x2*x3*y3*y3 + (-1)*x1*x2*x3 + x1*y2*x3*x3*y3*y3*y3*d + (-1)*x1*y2*x3*x3*y3 + (-1)*x1*y2*y3*y3*y3 + x1*y2*y3 + y1*y1*y1*x2*x2*y2*x3*y3*y3*d + y1*y1*y1*x2*y2*y2*x3*x3*y3*d + (-1)*y1*y1*y1*x2*x3*x3*y3*y3*y3*d + y1*y1*y1*x2*x3*x3*y3 + y1*y1*y1*x2*y3*y3*y3 + (-1)*y1*y1*y1*x2*y3 + (-1)*y1*y1*y1*y2*x3*x3*x3*y3*y3*d + y1*y1*y1*y2*x3*x3*x3 + y1*y1*y1*y2*x3*y3*y3 + (-1)*y1*y1*y1*y2*x3 + (-1)*y1*x2*x2*y2*x3*y3*y3*d + (-1)*y1*x2*y2*y2*x3*x3*y3*d + y1*x2*x3*x3*y3*y3*y3*d + (-1)*y1*x2*x3*x3*y3 + (-1)*y1*x2*y3*y3*y3 + y1*x2*y3 + y1*y2*x3*x3*x3*y3*y3*d + (-1)*y1*y2*x3*x3*x3 + (-1)*y1*y2*x3*y3*y3 + y1*y2*x3) * (x2*x2+y2*y2-1-d*x2*x2*y2*y2) + (x1*x1*x1*x2*x2*x2*x3 + (-1)*x1*x1*x1*x2*x2*y2*y3 + x1*x1*x1*x2*y2*y2*x3 + (-1)*x1*x1*x1*x2*x3 + (-1)*x1*x1*x1*y2*y2*y2*y3 + x1*x1*x1*y2*y3 + (-1)*x1*x1*y1*x2*x2*x2*y3 + x1*x1*y1*x2*x2*y2*x3*d + (-1)*x1*x1*y1*x2*x2*y2*x3 + x1*x1*y1*x2*y2*y2*y3*d + (-1)*x1*x1*y1*x2*y2*y2*y3 + x1*x1*y1*x2*y3 + (-1)*x1*x1*y1*y2*y2*y2*x3 + x1*x1*y1*y2*x3 + x1*y1*y1*x2*x2*x2*x3 + x1*y1*y1*x2*x2*y2*y3*d + (-1)*x1*y1*y1*x2*x2*y2*y3 + (-1)*x1*y1*y1*x2*y2*y2*x3*d + x1*y1*y1*x2*y2*y2*x3 + (-1)*x1*y1*y1*x2*x3 + (-1)*x1*y1*y1*y2*y2*y2*y3 + x1*y1*y1*y2*y3 + (-1)*x1*x2*x2*x2*x3 + x1*x2*x2*y2*y3 + (-1)*x1*x2*y2*y2*x3 + x1*x2*x3 + x1*y2*y2*y2*y3 + (-1)*x1*y2*y3 + (-1)*y1*y1*y1*x2*x2*x2*y3 + (-1)*y1*y1*y1*x2*x2*y2*x3 + (-1)*y1*y1*y1*x2*y2*y2*y3 + y1*y1*y1*x2*y3 + (-1)*y1*y1*y1*y2*y2*y2*x3 + y1*y1*y1*y2*x3 + y1*x2*x2*x2*y3 + y1*x2*x2*y2*x3 + y1*x2*y2*y2*y3 + (-1)*y1*x2*y3 + y1*y2*y2*y2*x3 + (-1)*y1*y2*x3) * (x3*x3+y3*y3-1-d*x3*x3*y3*y3) := by
    clear z1 z2 z3
    grind
  rw [h, z1, z2, z3]
  exact zero3 _ _ _
set_option maxRecDepth 50000 in
theorem assoc_y {x1 y1 x2 y2 x3 y3 d : Fin n} (z1 : (x1*x1+y1*y1-1-d*x1*x1*y1*y1) = 0) (z2 : (x2*x2+y2*y2-1-d*x2*x2*y2*y2) = 0) (z3 : (x3*x3+y3*y3-1-d*x3*x3*y3*y3) = 0) : ((y1*y2-x1*x2)*(1+d*x1*x2*y1*y2)*y3-(x1*y2+x2*y1)*(1-d*x1*x2*y1*y2)*x3)*((1+d*x2*x3*y2*y3)*(1-d*x2*x3*y2*y3)-d*(x2*y3+x3*y2)*(y2*y3-x2*x3)*x1*y1) - ((y2*y3-x2*x3)*(1+d*x2*x3*y2*y3)*y1-(x2*y3+x3*y2)*(1-d*x2*x3*y2*y3)*x1)*((1+d*x1*x2*y1*y2)*(1-d*x1*x2*y1*y2)-d*(x1*y2+x2*y1)*(y1*y2-x1*x2)*x3*y3) = 0 := by
  have h : ((y1*y2-x1*x2)*(1+d*x1*x2*y1*y2)*y3-(x1*y2+x2*y1)*(1-d*x1*x2*y1*y2)*x3)*((1+d*x2*x3*y2*y3)*(1-d*x2*x3*y2*y3)-d*(x2*y3+x3*y2)*(y2*y3-x2*x3)*x1*y1) - ((y2*y3-x2*x3)*(1+d*x2*x3*y2*y3)*y1-(x2*y3+x3*y2)*(1-d*x2*x3*y2*y3)*x1)*((1+d*x1*x2*y1*y2)*(1-d*x1*x2*y1*y2)-d*(x1*y2+x2*y1)*(y1*y2-x1*x2)*x3*y3) =
    ((-1)*x1*x2*x2*x2*x2*y2*y2*y2*x3*y3*y3*d*d + x1*x2*x2*x2*x2*y2*x3*y3*y3*d + (-1)*x1*x2*x2*x2*y2*y2*y2*y2*x3*x3*y3*d*d + (-1)*x1*x2*x2*x2*y2*y2*y3*y3*y3*d + x1*x2*x2*x2*y2*y2*y3*d + (-1)*x1*x2*x2*y2*y2*y2*x3*x3*x3*d + x1*x2*x2*y2*y2*y2*x3*d + x1*x2*y2*y2*y2*y2*x3*x3*y3*d + y1*x2*x2*x2*x2*y2*y2*y2*x3*x3*y3*d*d + (-1)*y1*x2*x2*x2*x2*y2*x3*x3*y3*d + (-1)*y1*x2*x2*x2*y2*y2*y2*y2*x3*y3*y3*d*d + (-1)*y1*x2*x2*x2*y2*y2*x3*x3*x3*d + y1*x2*x2*x2*y2*y2*x3*d + y1*x2*x2*y2*y2*y2*y3*y3*y3*d + (-1)*y1*x2*x2*y2*y2*y2*y3*d + y1*x2*y2*y2*y2*y2*x3*y3*y3*d) * (x1*x1+y1*y1-1-d*x1*x1*y1*y1) + ((-1)*x1*x1*x1*x2*x2*y2*x3*y3*y3*d + (-1)*x1*x1*x1*x2*y2*y2*x3*x3*y3*d + x1*x1*x1*x2*x3*x3*y3*y3*y3*d + (-1)*x1*x1*x1*x2*x3*x3*y3 + (-1)*x1*x1*x1*x2*y3*y3*y3 + x1*x1*x1*x2*y3 + x1*x1*x1*y2*x3*x3*x3*y3*y3*d + (-1)*x1*x1*x1*y2*x3*x3*x3 + (-1)*x1*x1*x1*y2*x3*y3*y3 + x1*x1*x1*y2*x3 + (-1)*x1*x1*y1*x2*x2*y2*x3*x3*y3*y3*y3*d*d + x1*x1*y1*x2*x2*y2*x3*x3*y3*d + x1*x1*y1*x2*y2*y2*x3*x3*x3*y3*y3*d*d + (-1)*x1*x1*y1*x2*y2*y2*x3*y3*y3*d + x1*x1*y1*x2*x3*x3*x3*y3*y3*d + (-1)*x1*x1*y1*x2*x3*x3*x3 + (-1)*x1*x1*y1*x2*x3*y3*y3 + x1*x1*y1*x2*x3 + (-1)*x1*x1*y1*y2*x3*x3*y3*y3*y3*d + x1*x1*y1*y2*x3*x3*y3 + x1*x1*y1*y2*y3*y3*y3 + (-1)*x1*x1*y1*y2*y3 + x1*y1*y1*x2*x2*y2*x3*x3*x3*y3*y3*d*d + (-1)*x1*y1*y1*x2*x2*y2*x3*y3*y3*d + x1*y1*y1*x2*y2*y2*x3*x3*y3*y3*y3*d*d + (-1)*x1*y1*y1*x2*y2*y2*x3*x3*y3*d + x1*y1*y1*x2*x3*x3*y3*y3*y3*d + (-1)*x1*y1*y1*x2*x3*x3*y3 + (-1)*x1*y1*y1*x2*y3*y3*y3 + x1*y1*y1*x2*y3 + x1*y1*y1*y2*x3*x3*x3*y3*y3*d + (-1)*x1*y1*y1*y2*x3*x3*x3 + (-1)*x1*y1*y1*y2*x3*y3*y3 + x1*y1*y1*y2*x3 + x1*x2*x2*y2*x3*y3*y3*d + x1*x2*y2*y2*x3*x3*y3*d + (-1)*x1*x2*x3*x3*y3*y3*y3*d + x1*x2*x3*x3*y3 + x1*x2*y3*y3*y3 + (-1)*x1*x2*y3 + (-1)*x1*y2*x3*x3*x3*y3*y3*d + x1*y2*x3*x3*x3 + x1*y2*x3*y3*y3 + (-1)*x1*y2*x3 + y1*y1*y1*x2*x2*y2*x3*x3*y3*d + (-1)*y1*y1*y1*x2*y2*y2*x3*y3*y3*d + y1*y1*y1*x2*x3*x3*x3*y3*y3*d + (-1)*y1*y1*y1*x2*x3*x3*x3 + (-1)*y1*y1*y1*x2*x3*y3*y3 + y1*y1*y1*x2*x3 + (-1)*y1*y1*y1*y2*x3*x3*y3*y3*y3*d + y1*y1*y1*y2*x3*x3*y3 + y1*y1*y1*y2*y3*y3*y3 + (-1)*y1*y1*y1*y2*y3 + (-1)*y1*x2*x2*y2*x3*x3*y3*d + y1*x2*y2*y2*x3*y3*y3*d + (-1)*y1*x2*x3*x3*x3*y3*y3*d + y1*x2*x3*x3*x3 + y1*x2*x3*y3*y3 + (-1)*y1*x2*x3 + y1*y2*x3*x3*y3*y3*y3*d + (-1)*y1*y2*x3*x3*y3 + (-1)*y1*y2*y3*y3*y3 + y1*y2*y3) * (x2*x2+y2*y2-1-d*x2*x2*y2*y2) + (x1*x1*x1*x2*x2*x2*y3 + x1*x1*x1*x2*x2*y2*x3 + x1*x1*x1*x2*y2*y2*y3 + (-1)*x1*x1*x1*x2*y3 + x1*x1*x1*y2*y2*y2*x3 + (-1)*x1*x1*x1*y2*x3 + x1*x1*y1*x2*x2*x2*x3 + x1*x1*y1*x2*x2*y2*y3*d + (-1)*x1*x1*y1*x2*x2*y2*y3 + (-1)*x1*x1*y1*x2*y2*y2*x3*d + x1*x1*y1*x2*y2*y2*x3 + (-1)*x1*x1*y1*x2*x3 + (-1)*x1*x1*y1*y2*y2*y2*y3 + x1*x1*y1*y2*y3 + x1*y1*y1*x2*x2*x2*y3 + (-1)*x1*y1*y1*x2*x2*y2*x3*d + x1*y1*y1*x2*x2*y2*x3 + (-1)*x1*y1*y1*x2*y2*y2*y3*d + x1*y1*y1*x2*y2*y2*y3 + (-1)*x1*y1*y1*x2*y3 + x1*y1*y1*y2*y2*y2*x3 + (-1)*x1*y1*y1*y2*x3 + (-1)*x1*x2*x2*x2*y3 + (-1)*x1*x2*x2*y2*x3 + (-1)*x1*x2*y2*y2*y3 + x1*x2*y3 + (-1)*x1*y2*y2*y2*x3 + x1*y2*x3 + y1*y1*y1*x2*x2*x2*x3 + (-1)*y1*y1*y1*x2*x2*y2*y3 + y1*y1*y1*x2*y2*y2*x3 + (-1)*y1*y1*y1*x2*x3 + (-1)*y1*y1*y1*y2*y2*y2*y3 + y1*y1*y1*y2*y3 + (-1)*y1*x2*x2*x2*x3 + y1*x2*x2*y2*y3 + (-1)*y1*x2*y2*y2*x3 + y1*x2*x3 + y1*y2*y2*y2*y3 + (-1)*y1*y2*y3) * (x3*x3+y3*y3-1-d*x3*x3*y3*y3) := by
    clear z1 z2 z3
    grind
  rw [h, z1, z2, z3]
  exact zero3 _ _ _

omit [NeZero n] in
set_option maxRecDepth 50000 in
theorem pt_ext {p q : Pt n} (hx : p.x = q.x) (hy : p.y = q.y) : p = q := by
  cases p; cases q; simp_all
set_option maxRecDepth 50000 in
theorem comm (d : Fin n) (p q : Pt n) : add d p q = add d q p := by
  have e : d * p.x * q.x * p.y * q.y = d * q.x * p.x * q.y * p.y := by grind
  refine pt_ext ?_ ?_
  · show (p.x * q.y + q.x * p.y) * inv (1 + d * p.x * q.x * p.y * q.y) = (q.x * p.y + p.x * q.y) * inv (1 + d * q.x * p.x * q.y * p.y)
    rw [e, show p.x * q.y + q.x * p.y = q.x * p.y + p.x * q.y by grind]
  · show (p.y * q.y - p.x * q.x) * inv (1 - d * p.x * q.x * p.y * q.y) = (q.y * p.y - q.x * p.x) * inv (1 - d * q.x * p.x * q.y * p.y)
    rw [e, show p.y * q.y - p.x * q.x = q.y * p.y - q.x * p.x by grind]
set_option maxRecDepth 50000 in
theorem on_zero {d : Fin n} {p : Pt n} (h : On d p) : p.x*p.x+p.y*p.y-1-d*p.x*p.x*p.y*p.y = 0 := by
  unfold On at h
  generalize p.x = x at *
  generalize p.y = y at *
  grind
set_option maxRecDepth 50000 in
theorem up_x {R a b D1 N1 D2 N2 x y d : Fin n} (ax : a * D1 = N1) (ay : b * D2 = N2) (r : R * (1 + d * a * x * b * y) = a * y + x * b) : R * (D1 * D2 + d * N1 * N2 * x * y) = N1 * D2 * y + x * N2 * D1 ∧ D1 * D2 + d * N1 * N2 * x * y = D1 * D2 * (1 + d * a * x * b * y) := by
  subst ax ay
  constructor
  · grind
  · grind
set_option maxRecDepth 50000 in
theorem up_y {R a b D1 N1 D2 N2 x y d : Fin n} (ax : a * D1 = N1) (ay : b * D2 = N2) (r : R * (1 - d * a * x * b * y) = b * y - a * x) : R * (D1 * D2 - d * N1 * N2 * x * y) = N2 * D1 * y - N1 * D2 * x ∧ D1 * D2 - d * N1 * N2 * x * y = D1 * D2 * (1 - d * a * x * b * y) := by
  subst ax ay
  constructor
  · grind
  · grind
set_option maxRecDepth 50000 in
theorem cross (F : Fld n) {R T u v p q : Fin n} (hu : u ≠ 0) (hv : v ≠ 0) (h1 : R * u = p) (h2 : T * v = q) (h : p * v - q * u = 0) : R = T := by
  refine F.cancel (F.mul hu hv) ?_
  subst h1 h2
  grind
set_option maxRecDepth 50000 in
theorem assoc (F : Fld n) {d : Fin n} (ns : NS d) {p q s : Pt n} (hp : On d p) (hq : On d q) (hs : On d s) : add d (add d p q) s = add d p (add d q s) := by
  have hA := add_on F ns hp hq
  have hB := add_on F ns hq hs
  have d1 := den F ns hp hq
  have d2 := den F ns hq hs
  have d3 := den F ns hA hs
  have d4 := den F ns hB hp
  have ux := up_x (add_x F ns hp hq) (add_y F ns hp hq) (add_x F ns hA hs)
  have uy := up_y (add_x F ns hp hq) (add_y F ns hp hq) (add_y F ns hA hs)
  have vx := up_x (add_x F ns hq hs) (add_y F ns hq hs) (add_x F ns hB hp)
  have vy := up_y (add_x F ns hq hs) (add_y F ns hq hs) (add_y F ns hB hp)
  have cx := assoc_x (on_zero hp) (on_zero hq) (on_zero hs)
  have cy := assoc_y (on_zero hp) (on_zero hq) (on_zero hs)
  have hx : (add d (add d p q) s).x = (add d (add d q s) p).x := cross F (by rw [ux.2]; exact F.mul (F.mul d1.1 d1.2) d3.1) (by rw [vx.2]; exact F.mul (F.mul d2.1 d2.2) d4.1) ux.1 vx.1 cx
  have hy : (add d (add d p q) s).y = (add d (add d q s) p).y := cross F (by rw [uy.2]; exact F.mul (F.mul d1.1 d1.2) d3.2) (by rw [vy.2]; exact F.mul (F.mul d2.1 d2.2) d4.2) uy.1 vy.1 cy
  rw [comm d p (add d q s)]
  exact pt_ext hx hy
def O : Pt n := ⟨0, 1⟩
def neg (p : Pt n) : Pt n := ⟨-p.x, p.y⟩
set_option maxRecDepth 50000 in
theorem O_on (d : Fin n) : On d (O : Pt n) := by
  show (0 : Fin n) * 0 + 1 * 1 = 1 + d * 0 * 0 * 1 * 1
  grind
set_option maxRecDepth 50000 in
theorem neg_on {d : Fin n} {p : Pt n} (h : On d p) : On d (neg p) := by
  unfold On at *
  show (-p.x) * (-p.x) + p.y * p.y = 1 + d * (-p.x) * (-p.x) * p.y * p.y
  grind
set_option maxRecDepth 50000 in
theorem O_add (F : Fld n) {d : Fin n} (ns : NS d) {p : Pt n} (hp : On d p) : add d O p = p := by
  refine (add_eq F ns (O_on d) hp ?_ ?_).symm
  · show p.x * (1 + d * 0 * p.x * 1 * p.y) = 0 * p.y + p.x * 1
    grind
  · show p.y * (1 - d * 0 * p.x * 1 * p.y) = 1 * p.y - 0 * p.x
    grind
set_option maxRecDepth 50000 in
theorem neg_add (F : Fld n) {d : Fin n} (ns : NS d) {p : Pt n} (hp : On d p) : add d (neg p) p = O := by
  refine (add_eq F ns (neg_on hp) hp ?_ ?_).symm
  · show 0 * (1 + d * (-p.x) * p.x * p.y * p.y) = -p.x * p.y + p.x * p.y
    grind
  · show 1 * (1 - d * (-p.x) * p.x * p.y * p.y) = p.y * p.y - -p.x * p.x
    unfold On at hp
    grind
noncomputable def mul (d : Fin n) : Nat → Pt n → Pt n
  | 0, _ => O
  | k + 1, p => add d (mul d k p) p
set_option maxRecDepth 50000 in
theorem mul_on (F : Fld n) {d : Fin n} (ns : NS d) {p : Pt n} (hp : On d p) : ∀ k, On d (mul d k p)
  | 0 => O_on d
  | k + 1 => add_on F ns (mul_on F ns hp k) hp
set_option maxRecDepth 50000 in
theorem mul_one (F : Fld n) {d : Fin n} (ns : NS d) {p : Pt n} (hp : On d p) : mul d 1 p = p := O_add F ns hp
set_option maxRecDepth 50000 in
theorem mul_add (F : Fld n) {d : Fin n} (ns : NS d) {p : Pt n} (hp : On d p) (j : Nat) : ∀ k, mul d (j + k) p = add d (mul d j p) (mul d k p)
  | 0 => by
    show mul d j p = add d (mul d j p) O
    rw [comm, O_add F ns (mul_on F ns hp j)]
  | k + 1 => by
    show add d (mul d (j + k) p) p = add d (mul d j p) (add d (mul d k p) p)
    rw [mul_add F ns hp j k, assoc F ns (mul_on F ns hp j) (mul_on F ns hp k) hp]
set_option maxRecDepth 50000 in
theorem mul_mul (F : Fld n) {d : Fin n} (ns : NS d) {p : Pt n} (hp : On d p) (k : Nat) : ∀ j, mul d j (mul d k p) = mul d (j * k) p
  | 0 => by rw [Nat.zero_mul]; rfl
  | j + 1 => by
    show add d (mul d j (mul d k p)) (mul d k p) = _
    rw [mul_mul F ns hp k j, Nat.add_mul, Nat.one_mul, mul_add F ns hp]
set_option maxRecDepth 50000 in
theorem mul_O (F : Fld n) {d : Fin n} (ns : NS d) : ∀ k, mul d k (O : Pt n) = O
  | 0 => rfl
  | k + 1 => by
    show add d (mul d k O) O = O
    rw [mul_O F ns k, O_add F ns (O_on d)]
set_option maxRecDepth 50000 in
/-- What comes before: q = (q + p) - p. -/
theorem back (F : Fld n) {d : Fin n} (ns : NS d) {p q : Pt n} (hp : On d p) (hq : On d q) : add d (neg q) (add d q p) = p := by
  rw [← assoc F ns (neg_on hq) hq hp, neg_add F ns hq, O_add F ns hp]

/-- A ratio that stands for a height y: X over Z is 1 + y over s (1 - y). -/
def Rep (s X Z y : Fin n) : Prop := ∃ l : Fin n, l ≠ 0 ∧ X = l * (1 + y) ∧ Z = l * (s * (1 - y))
/-- How the ladder's constant goes with the curve. -/
structure Con (s d k c : Fin n) : Prop where
  one : k * (1 - d) = 1
  sq : s * s = 1
  fit : (s = 1 ∧ k = c + 1) ∨ (s = -1 ∧ k = -c)
set_option maxRecDepth 50000 in
theorem not_one (F : Fld n) {d : Fin n} (ns : NS d) (y : Fin n) : 1 - d * y * y ≠ 0 := fun h => by
  have h1 := ns 1 y (by grind)
  rw [h1] at h
  exact F.one (by grind)
set_option maxRecDepth 50000 in
theorem k_ne (F : Fld n) {s d k c : Fin n} (h : Con s d k c) : k ≠ 0 := fun e => F.one (by have := h.one; rw [e] at this; grind)
set_option maxRecDepth 50000 in
theorem eight (F : Fld n) : (8 : Fin n) ≠ 0 := by
  have h := F.mul (F.mul F.two F.two) F.two
  have e : (2 : Fin n) * 2 * 2 = 8 := by grind
  rwa [e] at h
set_option maxRecDepth 50000 in
theorem sixteen (F : Fld n) : (16 : Fin n) ≠ 0 := by
  have h := F.mul (eight F) F.two
  have e : (8 : Fin n) * 2 = 16 := by grind
  rwa [e] at h
set_option maxRecDepth 50000 in
/-- The heights when a point is doubled. -/
theorem dbl_core {d k x y r l : Fin n} (e : x * x + y * y = 1 + d * x * x * y * y) (hr : r * (1 - d * x * x * y * y) = y * y - x * x) (hk : k * (1 - d) = 1) :
    16 * l * l * l * l * y * y = 8 * l * l * l * l * k * (1 - d * x * x * y * y) * (1 - d * y * y) * (1 + r) ∧ 16 * l * l * l * l * k * (1 - y * y) * (1 - d * y * y) = 8 * l * l * l * l * k * (1 - d * x * x * y * y) * (1 - d * y * y) * (1 - r) := by
  constructor
  · grind
  · grind
set_option maxRecDepth 50000 in
theorem rep_dbl (F : Fld n) {d s k c X Z : Fin n} {p : Pt n} (ns : NS d) (hc : Con s d k c) (hp : On d p) (h : Rep s X Z p.y) :
    Rep s ((X + Z) * (X + Z) * ((X - Z) * (X - Z))) (((X + Z) * (X + Z) - (X - Z) * (X - Z)) * ((X + Z) * (X + Z) + c * ((X + Z) * (X + Z) - (X - Z) * (X - Z)))) (add d p p).y := by
  obtain ⟨l, hl, hX, hZ⟩ := h
  have hy := add_y F ns hp hp
  have hd := (den F ns hp hp).2
  have hn := not_one F ns p.y
  have hk := k_ne F hc
  have h8 := eight F
  unfold On at hp
  generalize p.x = x at *
  generalize (add d p p).y = r at *
  generalize p.y = y at *
  obtain ⟨c1, c2⟩ := dbl_core (l := l) hp hy hc.one
  have hlk : 8 * l * l * l * l * k * (1 - d * x * x * y * y) * (1 - d * y * y) ≠ 0 := F.mul (F.mul (F.mul (F.mul (F.mul (F.mul (F.mul h8 hl) hl) hl) hl) hk) hd) hn
  refine ⟨_, hlk, ?_, ?_⟩
  · rw [← c1]
    rcases hc.fit with ⟨h1, h2⟩ | ⟨h1, h2⟩
    · subst hX hZ h1 h2
      clear c1 c2 hlk hd hn hy hp
      grind
    · subst hX hZ h1 h2
      clear c1 c2 hlk hd hn hy hp
      grind
  · have e : 8 * l * l * l * l * k * (1 - d * x * x * y * y) * (1 - d * y * y) * (s * (1 - r)) = s * (16 * l * l * l * l * k * (1 - y * y) * (1 - d * y * y)) := by
      rw [c2]
      clear c1 c2 hlk hd hn hy hp
      grind
    rw [e]
    have hk1 := hc.one
    rcases hc.fit with ⟨h1, h2⟩ | ⟨h1, h2⟩
    · subst hX hZ h1
      clear c1 c2 hlk hd hn hy hp e
      grind
    · subst hX hZ h1
      clear c1 c2 hlk hd hn hy hp e
      grind
set_option maxRecDepth 50000 in
theorem pair_core {d x1 y1 x2 y2 : Fin n} (e1 : x1 * x1 + y1 * y1 = 1 + d * x1 * x1 * y1 * y1) (e2 : x2 * x2 + y2 * y2 = 1 + d * x2 * x2 * y2 * y2) :
    (1 - d * x1 * x2 * y1 * y2 + (y1 * y2 - x1 * x2)) * (1 + d * x1 * x2 * y1 * y2 + (y1 * y2 + x1 * x2)) * ((1 - d * y1 * y1) * (1 - d * y2 * y2)) = (y1 + y2) * (y1 + y2) * (1 - d * y1 * y1 * y2 * y2) * (1 - d) ∧
    (1 - d * x1 * x2 * y1 * y2 - (y1 * y2 - x1 * x2)) * (1 + d * x1 * x2 * y1 * y2 - (y1 * y2 + x1 * x2)) * ((1 - d * y1 * y1) * (1 - d * y2 * y2)) = (y1 - y2) * (y1 - y2) * (1 - d * y1 * y1 * y2 * y2) * (1 - d) := by
  have a1 : x1 * x1 * (1 - d * y1 * y1) = 1 - y1 * y1 := by grind
  have a2 : x2 * x2 * (1 - d * y2 * y2) = 1 - y2 * y2 := by grind
  have b : (x1 * x1 * (1 - d * y1 * y1)) * (x2 * x2 * (1 - d * y2 * y2)) = (1 - y1 * y1) * (1 - y2 * y2) := by rw [a1, a2]
  clear a1 a2 e1 e2
  constructor
  · have h : (1 - d * x1 * x2 * y1 * y2 + (y1 * y2 - x1 * x2)) * (1 + d * x1 * x2 * y1 * y2 + (y1 * y2 + x1 * x2)) * ((1 - d * y1 * y1) * (1 - d * y2 * y2)) = (1 + y1 * y2) * (1 + y1 * y2) * ((1 - d * y1 * y1) * (1 - d * y2 * y2)) - (x1 * x1 * (1 - d * y1 * y1)) * (x2 * x2 * (1 - d * y2 * y2)) * ((1 + d * y1 * y2) * (1 + d * y1 * y2)) := by
      clear b
      grind
    rw [h, b]
    clear b h
    grind
  · have h : (1 - d * x1 * x2 * y1 * y2 - (y1 * y2 - x1 * x2)) * (1 + d * x1 * x2 * y1 * y2 - (y1 * y2 + x1 * x2)) * ((1 - d * y1 * y1) * (1 - d * y2 * y2)) = (1 - y1 * y2) * (1 - y1 * y2) * ((1 - d * y1 * y1) * (1 - d * y2 * y2)) - (x1 * x1 * (1 - d * y1 * y1)) * (x2 * x2 * (1 - d * y2 * y2)) * ((1 - d * y1 * y2) * (1 - d * y1 * y2)) := by
      clear b
      grind
    rw [h, b]
    clear b h
    grind
set_option maxRecDepth 50000 in
theorem sum_core {d e y1 y2 y0 r a b t : Fin n} (hr : r * (1 - e) = a - b) (h0 : y0 * (1 + e) = a + b) (h1 : (1 - e + (a - b)) * (1 + e + (a + b)) * t = (y1 + y2) * (y1 + y2) * (1 - d * y1 * y1 * y2 * y2) * (1 - d)) (h2 : (1 - e - (a - b)) * (1 + e - (a + b)) * t = (y1 - y2) * (y1 - y2) * (1 - d * y1 * y1 * y2 * y2) * (1 - d)) :
    (1 + r) * (1 + y0) * ((1 - e) * (1 + e) * t) = (y1 + y2) * (y1 + y2) * (1 - d * y1 * y1 * y2 * y2) * (1 - d) ∧ (1 - r) * (1 - y0) * ((1 - e) * (1 + e) * t) = (y1 - y2) * (y1 - y2) * (1 - d * y1 * y1 * y2 * y2) * (1 - d) := by
  rw [← h1, ← h2, ← hr, ← h0]
  clear h1 h2 hr h0
  constructor
  · grind
  · grind
set_option maxRecDepth 50000 in
theorem four_sq {s l m y1 y2 X Z X3 Z3 : Fin n} (hs : s = 1 ∨ s = -1) (hX : X = l * (1 + y1)) (hZ : Z = l * (s * (1 - y1))) (hX3 : X3 = m * (1 + y2)) (hZ3 : Z3 = m * (s * (1 - y2))) :
    ((X3 - Z3) * (X + Z) + (X3 + Z3) * (X - Z)) * ((X3 - Z3) * (X + Z) + (X3 + Z3) * (X - Z)) = 16 * (l * l) * (m * m) * ((y1 + y2) * (y1 + y2)) ∧ ((X3 - Z3) * (X + Z) - (X3 + Z3) * (X - Z)) * ((X3 - Z3) * (X + Z) - (X3 + Z3) * (X - Z)) = 16 * (l * l) * (m * m) * ((y1 - y2) * (y1 - y2)) := by
  subst hX hZ hX3 hZ3
  rcases hs with h | h
  · subst h
    constructor
    · grind
    · grind
  · subst h
    constructor
    · grind
    · grind
set_option maxRecDepth 50000 in
theorem rep_sum (F : Fld n) {d s k c X Z X3 Z3 u : Fin n} {p q : Pt n} (ns : NS d) (hc : Con s d k c) (hp : On d p) (hq : On d q) (hu : u * (s * (1 - p.y)) = 1 + p.y) (hn : 1 + p.y ≠ 0) (h1 : Rep s X Z q.y) (h2 : Rep s X3 Z3 (add d q p).y) :
    Rep s (((X3 - Z3) * (X + Z) + (X3 + Z3) * (X - Z)) * ((X3 - Z3) * (X + Z) + (X3 + Z3) * (X - Z))) (u * (((X3 - Z3) * (X + Z) - (X3 + Z3) * (X - Z)) * ((X3 - Z3) * (X + Z) - (X3 + Z3) * (X - Z)))) (add d q (add d q p)).y := by
  obtain ⟨l, hl, hX, hZ⟩ := h1
  obtain ⟨m, hm, hX3, hZ3⟩ := h2
  have hQ := add_on F ns hq hp
  have hr := add_y F ns hq hQ
  have h0 := add_y F ns (neg_on hq) hQ
  rw [back F ns hp hq] at h0
  have hd := den F ns hq hQ
  have hk := k_ne F hc
  have hk1 := hc.one
  have h16 := sixteen F
  have hs : s = 1 ∨ s = -1 := by
    rcases hc.fit with h | h
    · exact .inl h.1
    · exact .inr h.1
  have hss := hc.sq
  have n1 := not_one F ns q.y
  have n2 := not_one F ns (add d q p).y
  have n12 := not_one F ns (q.y * (add d q p).y)
  obtain ⟨c1, c2⟩ := pair_core hq hQ
  obtain ⟨f1, f2⟩ := four_sq hs hX hZ hX3 hZ3
  have h0' : p.y * (1 + d * q.x * (add d q p).x * q.y * (add d q p).y) = q.y * (add d q p).y + q.x * (add d q p).x := by
    have e1 : (neg q).x = -q.x := rfl
    have e2 : (neg q).y = q.y := rfl
    rw [e1, e2] at h0
    clear c1 c2 f1 f2 n1 n2 n12 hd hX hZ hX3 hZ3 hr hu hss hs hk1 ns hc hQ hq hp
    generalize (add d q p).x = x2 at *
    generalize (add d q p).y = y2 at *
    grind
  obtain ⟨g1, g2⟩ := sum_core hr h0' c1 c2
  clear c1 c2 h0 h0' hr hX hZ hX3 hZ3
  rw [f1, f2]
  clear f1 f2
  generalize (add d q (add d q p)).y = r at *
  have n12' : 1 - d * q.y * q.y * (add d q p).y * (add d q p).y ≠ 0 := fun e => n12 (by rw [← e]; clear n1 n2 n12 hd g1 g2; grind)
  obtain ⟨w, hw⟩ := F.inv _ n12'
  have hw0 : w ≠ 0 := fun e => F.one (by rw [← hw, e]; grind)
  generalize hPi : (1 - d * q.x * (add d q p).x * q.y * (add d q p).y) * (1 + d * q.x * (add d q p).x * q.y * (add d q p).y) * ((1 - d * q.y * q.y) * (1 - d * (add d q p).y * (add d q p).y)) = Pi at *
  have hPi0 : Pi ≠ 0 := by
    rw [← hPi]
    exact F.mul (F.mul hd.2 hd.1) (F.mul n1 n2)
  clear hPi n1 n2 n12 n12' hd
  generalize q.y = y1 at *
  generalize (add d q p).y = y2 at *
  generalize p.y = y0 at *
  generalize 1 - d * y1 * y1 * y2 * y2 = K at *
  have hnu : 16 * (l * l) * (m * m) * (1 + y0) * Pi * (k * w) ≠ 0 := F.mul (F.mul (F.mul (F.mul (F.mul h16 (F.mul hl hl)) (F.mul hm hm)) hn) hPi0) (F.mul hk hw0)
  refine ⟨_, hnu, ?_, ?_⟩
  · have e : 16 * (l * l) * (m * m) * (1 + y0) * Pi * (k * w) * (1 + r) = 16 * (l * l) * (m * m) * (k * w) * ((1 + r) * (1 + y0) * Pi) := by
      clear g1 g2 hk1 hw hu hnu
      grind
    rw [e, g1]
    have e2 : 16 * (l * l) * (m * m) * (k * w) * ((y1 + y2) * (y1 + y2) * K * (1 - d)) = 16 * (l * l) * (m * m) * ((y1 + y2) * (y1 + y2)) * (K * w) * (k * (1 - d)) := by
      clear g1 g2 hk1 hw hu hnu e
      grind
    rw [e2, hw, hk1]
    clear g1 g2 hk1 hw hu hnu e e2
    grind
  · have e : 16 * (l * l) * (m * m) * (1 + y0) * Pi * (k * w) * (s * (1 - r)) = 16 * (l * l) * (m * m) * (k * w) * u * (s * s) * ((1 - r) * (1 - y0) * Pi) := by
      rw [← hu]
      clear g1 g2 hk1 hw hu hnu
      grind
    rw [e, g2, hss]
    have e2 : 16 * (l * l) * (m * m) * (k * w) * u * 1 * ((y1 - y2) * (y1 - y2) * K * (1 - d)) = u * (16 * (l * l) * (m * m) * ((y1 - y2) * (y1 - y2))) * (K * w) * (k * (1 - d)) := by
      clear g1 g2 hk1 hw hu hnu e
      grind
    rw [e2, hw, hk1]
    clear g1 g2 hk1 hw hu hnu e e2
    grind
/-- The number that a point stands for, and what is told of a quotient. -/
def Val (s v : Fin n) (q : Pt n) : Prop := (q.y = 1 → v = 0) ∧ (q.y ≠ 1 → v * (s * (1 - q.y)) = 1 + q.y)
def Out (a b v : Fin n) : Prop := (b = 0 → v = 0) ∧ (b ≠ 0 → v * b = a)
set_option maxRecDepth 50000 in
theorem s_ne (F : Fld n) {s : Fin n} (hs : s * s = 1) : s ≠ 0 := fun e => F.one (by rw [← hs, e]; grind)
set_option maxRecDepth 50000 in
theorem val_of_rep (F : Fld n) {s a b v : Fin n} {q : Pt n} (hs : s * s = 1) (h : Rep s a b q.y) (ho : Out a b v) : Val s v q := by
  obtain ⟨l, hl, ha, hb⟩ := h
  have h0 := s_ne F hs
  constructor
  · intro e
    refine ho.1 ?_
    rw [hb, e]; grind
  · intro e
    have e1 : 1 - q.y ≠ 0 := fun h => e (by grind)
    have hb0 : b ≠ 0 := by rw [hb]; exact F.mul hl (F.mul h0 e1)
    have h2 := ho.2 hb0
    rw [ha, hb] at h2
    refine F.cancel hl ?_
    generalize q.y = y at *
    clear ha hb ho hb0 e e1 hs
    grind
set_option maxRecDepth 50000 in
theorem val_unique (F : Fld n) {s v w : Fin n} {q : Pt n} (hs : s * s = 1) (h1 : Val s v q) (h2 : Val s w q) : v = w := by
  by_cases e : q.y = 1
  · rw [h1.1 e, h2.1 e]
  · have e1 : 1 - q.y ≠ 0 := fun h => e (by grind)
    exact F.cancel (F.mul (s_ne F hs) e1) ((h1.2 e).trans (h2.2 e).symm)
set_option maxRecDepth 50000 in
theorem one_d (F : Fld n) {d : Fin n} (ns : NS d) : 1 - d ≠ 0 := fun h => by
  have := not_one F ns 1
  exact this (by grind)
set_option maxRecDepth 50000 in
theorem flat_x (F : Fld n) {d : Fin n} (ns : NS d) {q : Pt n} (hq : On d q) (hy : q.y * q.y = 1) : q.x = 0 := by
  have h := one_d F ns
  unfold On at hq
  have e : (q.x * q.x) * (1 - d) = 0 := by
    generalize q.x = x at *
    generalize q.y = y at *
    grind
  rcases F.dom e with h1 | h1
  · rcases F.dom h1 with h2 | h2 <;> exact h2
  · exact absurd h1 h
set_option maxRecDepth 50000 in
theorem val_zero (F : Fld n) {s d : Fin n} (ns : NS d) {q : Pt n} (hq : On d q) (h : Val s 0 q) (m : Nat) : mul d (m * 2) q = O := by
  have hy : q.y * q.y = 1 := by
    by_cases e : q.y = 1
    · rw [e]; grind
    · have h2 := h.2 e
      generalize q.y = y at *
      clear h
      grind
  have hx := flat_x F ns hq hy
  have h2 : mul d 2 q = O := by
    show add d (add d O q) q = O
    rw [O_add F ns hq]
    refine (add_eq F ns hq hq ?_ ?_).symm
    · show 0 * (1 + d * q.x * q.x * q.y * q.y) = q.x * q.y + q.x * q.y
      rw [hx]; grind
    · show 1 * (1 - d * q.x * q.x * q.y * q.y) = q.y * q.y - q.x * q.x
      rw [hx, hy]; grind
  rw [← mul_mul F ns hq, h2, mul_O F ns]
set_option maxRecDepth 50000 in
theorem val_O {s : Fin n} : Val s 0 (O : Pt n) := ⟨fun _ => rfl, fun h => absurd rfl h⟩

/-- The ladder's state and its step. -/
structure S4 (n : Nat) where
  a : Fin n
  b : Fin n
  c : Fin n
  d : Fin n
def dx (x z : Fin n) : Fin n := (x + z) * (x + z) * ((x - z) * (x - z))
def dz (c x z : Fin n) : Fin n := ((x + z) * (x + z) - (x - z) * (x - z)) * ((x + z) * (x + z) + c * ((x + z) * (x + z) - (x - z) * (x - z)))
def sx (a b c d : Fin n) : Fin n := ((c - d) * (a + b) + (c + d) * (a - b)) * ((c - d) * (a + b) + (c + d) * (a - b))
def sz (u a b c d : Fin n) : Fin n := u * (((c - d) * (a + b) - (c + d) * (a - b)) * ((c - d) * (a + b) - (c + d) * (a - b)))
def stepF (c u : Fin n) (st : Bool) (S : S4 n) : S4 n := match st with
  | true => ⟨sx S.a S.b S.c S.d, sz u S.a S.b S.c S.d, dx S.c S.d, dz c S.c S.d⟩
  | false => ⟨dx S.a S.b, dz c S.a S.b, sx S.a S.b S.c S.d, sz u S.a S.b S.c S.d⟩
def ladF (c u : Fin n) (bits : Nat → Bool) : Nat → S4 n
  | 0 => ⟨1, 0, u, 1⟩
  | k + 1 => stepF c u (bits k) (ladF c u bits k)
def numF (bits : Nat → Bool) : Nat → Nat
  | 0 => 0
  | k + 1 => numF bits k + numF bits k + (bits k).toNat
set_option maxRecDepth 50000 in
theorem ladF_rep (F : Fld n) {s d k c u : Fin n} {p : Pt n} (ns : NS d) (hc : Con s d k c) (hp : On d p) (hu : u * (s * (1 - p.y)) = 1 + p.y) (hn : 1 + p.y ≠ 0) (bits : Nat → Bool) :
    ∀ j, Rep s (ladF c u bits j).a (ladF c u bits j).b (mul d (numF bits j) p).y ∧ Rep s (ladF c u bits j).c (ladF c u bits j).d (mul d (numF bits j + 1) p).y
  | 0 => by
    constructor
    · obtain ⟨w, hw⟩ := F.inv 2 F.two
      refine ⟨w, fun e => F.one (by rw [← hw, e]; grind), ?_, ?_⟩
      · show (1 : Fin n) = w * (1 + 1)
        grind
      · show (0 : Fin n) = w * (s * (1 - 1))
        grind
    · have e1 : s * (1 - p.y) ≠ 0 := fun e => hn (by rw [← hu, e]; grind)
      obtain ⟨w, hw⟩ := F.inv _ e1
      have e2 : (mul d (numF bits 0 + 1) p).y = p.y := by
        show (mul d 1 p).y = p.y
        rw [mul_one F ns hp]
      rw [e2]
      refine ⟨w, fun e => F.one (by rw [← hw, e]; grind), ?_, ?_⟩
      · show u = w * (1 + p.y)
        rw [← hu]
        generalize s * (1 - p.y) = t at *
        clear hu
        grind
      · show (1 : Fin n) = w * (s * (1 - p.y))
        generalize s * (1 - p.y) = t at *
        clear hu
        grind
  | j + 1 => by
    obtain ⟨h1, h2⟩ := ladF_rep F ns hc hp hu hn bits j
    have hk := mul_on F ns hp (numF bits j)
    have hk1 := mul_on F ns hp (numF bits j + 1)
    have e2 : mul d (numF bits j + 1) p = add d (mul d (numF bits j) p) p := rfl
    have hs : Rep s (sx (ladF c u bits j).a (ladF c u bits j).b (ladF c u bits j).c (ladF c u bits j).d) (sz u (ladF c u bits j).a (ladF c u bits j).b (ladF c u bits j).c (ladF c u bits j).d) (mul d (numF bits j + (numF bits j + 1)) p).y := by
      rw [mul_add F ns hp, e2]
      exact rep_sum F ns hc hp hk hu hn h1 (by rw [← e2]; exact h2)
    have hd0 := rep_dbl F ns hc hk h1
    rw [← mul_add F ns hp] at hd0
    have hd1 := rep_dbl F ns hc hk1 h2
    rw [← mul_add F ns hp] at hd1
    cases hb : bits j with
    | true =>
      have e : ladF c u bits (j + 1) = ⟨sx (ladF c u bits j).a (ladF c u bits j).b (ladF c u bits j).c (ladF c u bits j).d, sz u (ladF c u bits j).a (ladF c u bits j).b (ladF c u bits j).c (ladF c u bits j).d, dx (ladF c u bits j).c (ladF c u bits j).d, dz c (ladF c u bits j).c (ladF c u bits j).d⟩ := by rw [ladF, hb]; rfl
      have en : numF bits (j + 1) = numF bits j + (numF bits j + 1) := by rw [numF, hb]; rfl
      have en1 : numF bits (j + 1) + 1 = numF bits j + 1 + (numF bits j + 1) := by omega
      rw [en1, en, e]
      exact ⟨hs, hd1⟩
    | false =>
      have e : ladF c u bits (j + 1) = ⟨dx (ladF c u bits j).a (ladF c u bits j).b, dz c (ladF c u bits j).a (ladF c u bits j).b, sx (ladF c u bits j).a (ladF c u bits j).b (ladF c u bits j).c (ladF c u bits j).d, sz u (ladF c u bits j).a (ladF c u bits j).b (ladF c u bits j).c (ladF c u bits j).d⟩ := by rw [ladF, hb]; rfl
      have en : numF bits (j + 1) = numF bits j + numF bits j := by rw [numF, hb]; rfl
      have en1 : numF bits (j + 1) + 1 = numF bits j + (numF bits j + 1) := by omega
      rw [en1, en, e]
      exact ⟨hd0, hs⟩
set_option maxRecDepth 50000 in
theorem dz_flat {c x z : Fin n} (h : x * z = 0) : dz c x z = 0 := by
  unfold dz
  have e : (x + z) * (x + z) - (x - z) * (x - z) = 4 * (x * z) := by
    clear h
    grind
  rw [e, h]
  grind
set_option maxRecDepth 50000 in
theorem ladF_flat (c : Fin n) (bits : Nat → Bool) : ∀ j, (ladF c 0 bits j).a * (ladF c 0 bits j).b = 0 ∧ (ladF c 0 bits j).c * (ladF c 0 bits j).d = 0
  | 0 => ⟨by show (1 : Fin n) * 0 = 0; grind, by show (0 : Fin n) * 1 = 0; grind⟩
  | j + 1 => by
    obtain ⟨h1, h2⟩ := ladF_flat c bits j
    have z1 := dz_flat (c := c) h1
    have z2 := dz_flat (c := c) h2
    have z3 : ∀ a b c d : Fin n, sz 0 a b c d = 0 := fun a b c d => by unfold sz; grind
    rw [ladF]
    generalize ladF c 0 bits j = S at *
    cases bits j with
    | true =>
      show sx S.a S.b S.c S.d * sz 0 S.a S.b S.c S.d = 0 ∧ dx S.c S.d * dz c S.c S.d = 0
      rw [z2, z3]
      exact ⟨by grind, by grind⟩
    | false =>
      show dx S.a S.b * dz c S.a S.b = 0 ∧ sx S.a S.b S.c S.d * sz 0 S.a S.b S.c S.d = 0
      rw [z1, z3]
      exact ⟨by grind, by grind⟩
set_option maxRecDepth 50000 in
/-- What the ladder makes of a point's number is the number of the point so often. -/
theorem ladder_val (F : Fld n) {s d k c u v : Fin n} {q : Pt n} (ns : NS d) (hc : Con s d k c) (hq : On d q) (hv : Val s u q) (bits : Nat → Bool) (K m : Nat) (hN : numF bits K = m * 2) (ho : Out (ladF c u bits K).a (ladF c u bits K).b v) : Val s v (mul d (numF bits K) q) := by
  by_cases hu : u = 0
  · subst hu
    rw [hN, val_zero F ns hq hv]
    have hf := (ladF_flat c bits K).1
    have : v = 0 := by
      by_cases hb : (ladF c 0 bits K).b = 0
      · exact ho.1 hb
      · have h2 := ho.2 hb
        rcases F.dom hf with h3 | h3
        · rw [h3] at h2
          rcases F.dom h2 with h4 | h4
          · exact h4
          · exact absurd h4 hb
        · exact absurd h3 hb
    rw [this]; exact val_O
  · have e : q.y ≠ 1 := fun h => hu (hv.1 h)
    have e1 : 1 - q.y ≠ 0 := fun h => e (by grind)
    have h2 := hv.2 e
    have hn : 1 + q.y ≠ 0 := by rw [← h2]; exact F.mul hu (F.mul (s_ne F hc.sq) e1)
    exact val_of_rep F hc.sq (ladF_rep F ns hc hq h2 hn bits K).1 ho
set_option maxRecDepth 50000 in
/-- Every number is a point's, on one of two curves. -/
theorem point_of (F : Fld n) {c : Fin n} (hns : ∀ a b : Fin n, a * a = c * (c + 1) * (b * b) → b = 0) (hsq : ∀ w : Fin n, (∃ t, t * t = (c + 1) * w) ∨ ∃ t, t * t = c * w) (u : Fin n) : ∃ s d k q, NS d ∧ Con s d k c ∧ On d q ∧ Val s u q := by
  have hcc : c * (c + 1) ≠ 0 := fun e => F.one (hns 0 1 (by rw [e]; grind))
  have hc0 : c ≠ 0 := fun e => hcc (by rw [e]; grind)
  have hc1 : c + 1 ≠ 0 := fun e => hcc (by rw [e]; grind)
  obtain ⟨i0, hi0⟩ := F.inv c hc0
  obtain ⟨i1, hi1⟩ := F.inv (c + 1) hc1
  have ns1 : NS (c * i1) := fun a b h => hns ((c + 1) * a) b (by grind)
  have ns2 : NS ((c + 1) * i0) := fun a b h => hns (c * a) b (by grind)
  have con1 : Con (1 : Fin n) (c * i1) (c + 1) c := ⟨by grind, by grind, .inl ⟨rfl, rfl⟩⟩
  have con2 : Con (-1 : Fin n) ((c + 1) * i0) (-c) c := ⟨by grind, by grind, .inr ⟨rfl, rfl⟩⟩
  rcases hsq (u * (u * u + (4 * c + 2) * u + 1)) with ⟨t, ht⟩ | ⟨t, ht⟩
  · have h1 : u + 1 ≠ 0 := fun e => by
      have hu : u = -1 := by grind
      subst hu
      have h2 := hns t 2 (by clear hns hcc ns1 ns2 con1 con2 hi0 hi1; grind)
      exact F.two h2
    obtain ⟨w, hw⟩ := F.inv _ h1
    have hy1 : ((u - 1) * w) * (u + 1) = u - 1 := by
      clear ht con1 con2 hi0 hi1
      grind
    have key : (1 - c * i1 * ((u - 1) * w) * ((u - 1) * w)) * ((c + 1) * ((u + 1) * (u + 1))) = u * u + (4 * c + 2) * u + 1 := by
      generalize (u - 1) * w = y at *
      have a : c * i1 * (c + 1) = c := by clear ht hw hy1 con1 con2; grind
      have b : (y * (u + 1)) * (y * (u + 1)) = (u - 1) * (u - 1) := by rw [hy1]
      have e : (1 - c * i1 * y * y) * ((c + 1) * ((u + 1) * (u + 1))) = (c + 1) * ((u + 1) * (u + 1)) - (c * i1 * (c + 1)) * ((y * (u + 1)) * (y * (u + 1))) := by
        clear a b ht hw hy1 hi0 hi1 con1 con2
        grind
      rw [e, a, b]
      clear e a b ht hw hy1 hi0 hi1 con1 con2
      grind
    have hg : u * u + (4 * c + 2) * u + 1 ≠ 0 := by
      rw [← key]
      exact F.mul (not_one F ns1 _) (F.mul hc1 (F.mul h1 h1))
    obtain ⟨g, hgg⟩ := F.inv _ hg
    refine ⟨1, c * i1, c + 1, ⟨2 * t * g, (u - 1) * w⟩, ns1, con1, ?_, ?_, ?_⟩
    · show 2 * t * g * (2 * t * g) + (u - 1) * w * ((u - 1) * w) = 1 + c * i1 * (2 * t * g) * (2 * t * g) * ((u - 1) * w) * ((u - 1) * w)
      generalize (u - 1) * w = y at *
      generalize hG : u * u + (4 * c + 2) * u + 1 = G at *
      have e : 2 * t * g * (2 * t * g) * (1 - c * i1 * y * y) = 1 - y * y := by
        refine F.cancel (F.mul hc1 (F.mul h1 h1)) ?_
        have e1 : 2 * t * g * (2 * t * g) * (1 - c * i1 * y * y) * ((c + 1) * ((u + 1) * (u + 1))) = 4 * (t * t) * (g * g) * ((1 - c * i1 * y * y) * ((c + 1) * ((u + 1) * (u + 1)))) := by
          clear ht hw hy1 hi0 hi1 con1 con2 key hgg hG
          grind
        have e2 : (1 - y * y) * ((c + 1) * ((u + 1) * (u + 1))) = (c + 1) * ((u + 1) * (u + 1)) - (c + 1) * ((y * (u + 1)) * (y * (u + 1))) := by
          clear ht hw hy1 hi0 hi1 con1 con2 key hgg hG e1
          grind
        rw [e1, e2, key, ht, hy1]
        have e3 : 4 * ((c + 1) * (u * G)) * (g * g) * G = 4 * (c + 1) * u * ((G * g) * (G * g)) := by
          clear ht hw hy1 hi0 hi1 con1 con2 key hgg hG e1 e2
          grind
        rw [e3, hgg]
        clear ht hw hy1 hi0 hi1 con1 con2 key hgg hG e1 e2 e3
        grind
      clear ht hw hy1 hi0 hi1 con1 con2 key hgg hG
      grind
    · intro e
      exfalso
      have e' : (u - 1) * w = 1 := e
      rw [e'] at hy1
      exact F.two (by clear ht hw con1 con2 key hgg hi0 hi1; grind)
    · intro _
      show u * (1 * (1 - (u - 1) * w)) = 1 + (u - 1) * w
      clear ht con1 con2 key hgg hi0 hi1
      grind
  · have h1 : u - 1 ≠ 0 := fun e => by
      have hu : u = 1 := by grind
      subst hu
      have h2 := hns t 2 (by clear hns hcc ns1 ns2 con1 con2 hi0 hi1; grind)
      exact F.two h2
    obtain ⟨w, hw⟩ := F.inv _ h1
    have hy1 : ((u + 1) * w) * (u - 1) = u + 1 := by
      clear ht con1 con2 hi0 hi1
      grind
    have key : (1 - (c + 1) * i0 * ((u + 1) * w) * ((u + 1) * w)) * (c * ((u - 1) * (u - 1))) = -(u * u + (4 * c + 2) * u + 1) := by
      generalize (u + 1) * w = y at *
      have a : (c + 1) * i0 * c = c + 1 := by clear ht hw hy1 con1 con2; grind
      have b : (y * (u - 1)) * (y * (u - 1)) = (u + 1) * (u + 1) := by rw [hy1]
      have e : (1 - (c + 1) * i0 * y * y) * (c * ((u - 1) * (u - 1))) = c * ((u - 1) * (u - 1)) - ((c + 1) * i0 * c) * ((y * (u - 1)) * (y * (u - 1))) := by
        clear a b ht hw hy1 hi0 hi1 con1 con2
        grind
      rw [e, a, b]
      clear e a b ht hw hy1 hi0 hi1 con1 con2
      grind
    have hg : u * u + (4 * c + 2) * u + 1 ≠ 0 := fun e => by
      have := F.mul (not_one F ns2 ((u + 1) * w)) (F.mul hc0 (F.mul h1 h1))
      rw [key, e] at this
      exact this (by grind)
    obtain ⟨g, hgg⟩ := F.inv _ hg
    refine ⟨-1, (c + 1) * i0, -c, ⟨2 * t * g, (u + 1) * w⟩, ns2, con2, ?_, ?_, ?_⟩
    · show 2 * t * g * (2 * t * g) + (u + 1) * w * ((u + 1) * w) = 1 + (c + 1) * i0 * (2 * t * g) * (2 * t * g) * ((u + 1) * w) * ((u + 1) * w)
      generalize (u + 1) * w = y at *
      generalize hG : u * u + (4 * c + 2) * u + 1 = G at *
      have e : 2 * t * g * (2 * t * g) * (1 - (c + 1) * i0 * y * y) = 1 - y * y := by
        refine F.cancel (F.mul hc0 (F.mul h1 h1)) ?_
        have e1 : 2 * t * g * (2 * t * g) * (1 - (c + 1) * i0 * y * y) * (c * ((u - 1) * (u - 1))) = 4 * (t * t) * (g * g) * ((1 - (c + 1) * i0 * y * y) * (c * ((u - 1) * (u - 1)))) := by
          clear ht hw hy1 hi0 hi1 con1 con2 key hgg hG
          grind
        have e2 : (1 - y * y) * (c * ((u - 1) * (u - 1))) = c * ((u - 1) * (u - 1)) - c * ((y * (u - 1)) * (y * (u - 1))) := by
          clear ht hw hy1 hi0 hi1 con1 con2 key hgg hG e1
          grind
        rw [e1, e2, key, ht, hy1]
        have e3 : 4 * (c * (u * G)) * (g * g) * -G = -(4 * c * u * ((G * g) * (G * g))) := by
          clear ht hw hy1 hi0 hi1 con1 con2 key hgg hG e1 e2
          grind
        rw [e3, hgg]
        clear ht hw hy1 hi0 hi1 con1 con2 key hgg hG e1 e2 e3
        grind
      clear ht hw hy1 hi0 hi1 con1 con2 key hgg hG
      grind
    · intro e
      exfalso
      have e' : (u + 1) * w = 1 := e
      rw [e'] at hy1
      exact F.two (by clear ht hw con1 con2 key hgg hi0 hi1; grind)
    · intro _
      show u * (-1 * (1 - (u + 1) * w)) = 1 + (u + 1) * w
      clear ht con1 con2 key hgg hi0 hi1
      grind
set_option maxRecDepth 50000 in
/-- Two numbers, one after the other, either way round. -/
theorem commute (F : Fld n) {c : Fin n} (hns : ∀ a b : Fin n, a * a = c * (c + 1) * (b * b) → b = 0) (hsq : ∀ w : Fin n, (∃ t, t * t = (c + 1) * w) ∨ ∃ t, t * t = c * w) (u : Fin n) (A B : Nat → Bool) (K ma mb : Nat) (hA : numF A K = ma * 2) (hB : numF B K = mb * 2)
    {va vb vab vba : Fin n} (h1 : Out (ladF c u A K).a (ladF c u A K).b va) (h2 : Out (ladF c u B K).a (ladF c u B K).b vb) (h3 : Out (ladF c vb A K).a (ladF c vb A K).b vab) (h4 : Out (ladF c va B K).a (ladF c va B K).b vba) : vab = vba := by
  obtain ⟨s, d, k, q, ns, hc, hq, hv⟩ := point_of F hns hsq u
  have a1 := ladder_val F ns hc hq hv A K ma hA h1
  have b1 := ladder_val F ns hc hq hv B K mb hB h2
  have a2 := ladder_val F ns hc (mul_on F ns hq _) b1 A K ma hA h3
  have b2 := ladder_val F ns hc (mul_on F ns hq _) a1 B K mb hB h4
  rw [mul_mul F ns hq] at a2 b2
  rw [Nat.mul_comm] at b2
  exact val_unique F hc.sq a2 b2
end
end Go.Proofs.YtkblmdakejmmhaaDoor.Edw
