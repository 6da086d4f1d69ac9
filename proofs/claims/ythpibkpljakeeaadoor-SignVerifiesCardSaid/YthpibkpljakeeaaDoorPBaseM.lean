import Derived.Test.YthpibkpljakeeaaDoorG9
import Derived.Test.YthpibkpljakeeaaDoorSMathM
namespace Go.Proofs.YthpibkpljakeeaaDoor
open Go.RowKit
def dN : Nat := 37095705934669439343138083508754565189542113879843219016388785533085940283555
def iN : Nat := 19681161376707505956807079304988542015446066515923890162744021073123829784752
def bxN : Nat := 15112221349535400772501151409588531511454012693041857206046113283949847762202
def byN : Nat := 46316835694926478169428394003475163141307993866256225615783033603165251855960
def dF : Fin NT.PN := ph NT.PN dN
def iF : Fin NT.PN := ph NT.PN iN
def eF : Fin NT.PN := -dF
def bxF : Fin NT.PN := ph NT.PN bxN
def byF : Fin NT.PN := ph NT.PN byN
theorem i_sq : iF * iF = -1 := Fin.ext (by decide +kernel)
theorem de : dF = -eF := by unfold eF; grind
theorem d_is : dF * (cF + 1) = -cF := Fin.ext (by decide +kernel)
theorem ns_alg {n : Nat} [NeZero n] {d c a b : Fin n} (h : d * (c + 1) = -c) (h2 : a * a = -d * (b * b)) : (a * (c + 1)) * (a * (c + 1)) = c * (c + 1) * (b * b) := by
 have h3 : (a * (c + 1)) * (a * (c + 1)) = (a * a) * ((c + 1) * (c + 1)) := by clear h h2; grind
 have h4 : -d * (b * b) * ((c + 1) * (c + 1)) = -(d * (c + 1)) * (c + 1) * (b * b) := by clear h h2; grind
 rw [h3, h2, h4, h]
 clear h h2 h3 h4; grind
theorem ns_e : Edw.NS eF := fun a b h => no_root (a * (cF + 1)) b (ns_alg d_is h)
def baseP : Edw.Pt NT.PN := ⟨iF * bxF, byF⟩
theorem base_curve : byF * byF - bxF * bxF = 1 + dF * (bxF * byF * (bxF * byF)) := Fin.ext (by decide +kernel)
theorem curve_alg {n : Nat} [NeZero n] {i d x y : Fin n} (hi : i * i = -1) (h : y * y - x * x = 1 + d * (x * y * (x * y))) : (i * x) * (i * x) + y * y = 1 + -d * (i * x) * (i * x) * y * y := by
 have h1 : (i * x) * (i * x) = -(x * x) := by clear h; grind
 have h2 : -d * (i * x) * (i * x) * y * y = d * (x * y * (x * y)) := by clear h h1; grind
 rw [h1, h2, ← h]
 clear h h1 h2; grind
theorem on_of {x y : Fin NT.PN} (h : y * y - x * x = 1 + dF * (x * y * (x * y))) : Edw.On eF ⟨iF * x, y⟩ := curve_alg i_sq h
theorem base_on : Edw.On eF baseP := on_of base_curve
section
variable {n : Nat} [NeZero n]
def ladC (d : Fin n) (c : C4 n) : List Bool → C4 n → C4 n
 | [], a => a
 | b :: l, a => ladC d c l (if b then addC d (addC d a a) c else addC d a a)
def numB (l : List Bool) (k : Nat) : Nat := l.foldl (fun v b => 2 * v + b.toNat) k
theorem dbl_mul (F : Edw.Fld n) {e : Fin n} (ns : Edw.NS e) {P : Edw.Pt n} (hP : Edw.On e P) (k : Nat) : Edw.add e (Edw.mul e k P) (Edw.mul e k P) = Edw.mul e (2 * k) P := by
 rw [← Edw.mul_add F ns hP, Nat.two_mul]
theorem lad_rep (F : Edw.Fld n) {i d e : Fin n} (ns : Edw.NS e) (hi : i * i = -1) (he : d = -e) {c : C4 n} {P : Edw.Pt n} (hP : Edw.On e P) (h : Rep4 i c P) : ∀ (l : List Bool) (a : C4 n) (k : Nat), Rep4 i a (Edw.mul e k P) → Rep4 i (ladC d c l a) (Edw.mul e (numB l k) P)
 | [], _, _, ha => ha
 | b :: l, a, k, ha => by
   have hk := Edw.mul_on F ns hP k
   have h2 := rep_add F ns hi he hk hk ha ha
   rw [dbl_mul F ns hP] at h2
   have h3 : Rep4 i (if b then addC d (addC d a a) c else addC d a a) (Edw.mul e (2 * k + b.toNat) P) := by
     cases b with
     | false => exact h2
     | true => exact rep_add F ns hi he (Edw.mul_on F ns hP (2 * k)) hP h2 h
   exact lad_rep F ns hi he hP h l _ _ h3
def frc {α : Type} (a : Nat) (k : Nat → α) : α := Nat.rec (k 0) (fun m _ => k (m + 1)) a
theorem frc_eq {α : Type} (a : Nat) (k : Nat → α) : frc a k = k a := by cases a <;> rfl
def stepN (p d x y z t u v w s : Nat) (k : Nat → Nat → Nat → Nat → Bool) : Bool :=
 frc ((y + p - x) * (v + p - u) % p) fun m =>
 frc ((y + x) * (v + u) % p) fun q =>
 frc (z * w % p) fun zz =>
 frc (d * t % p * s % p) fun dt =>
 frc ((q + p - m) % p) fun a =>
 frc ((q + m) % p) fun b =>
 frc ((zz + dt + (zz + dt)) % p) fun e =>
 frc ((zz + p - dt + (zz + p - dt)) % p) fun f =>
 frc (a * f % p) fun x' => frc (b * e % p) fun y' => frc (e * f % p) fun z' => frc (a * b % p) fun t' => k x' y' z' t'
def ladN (p d u v w s : Nat) : List Bool → Nat → Nat → Nat → Nat → Bool
 | [], x, y, z, _ => decide (x = 0) && decide (y = z)
 | false :: l, x, y, z, t => stepN p d x y z t x y z t fun x y z t => ladN p d u v w s l x y z t
 | true :: l, x, y, z, t => stepN p d x y z t x y z t fun x y z t => stepN p d x y z t u v w s fun x y z t => ladN p d u v w s l x y z t
def ph4 (n : Nat) [NeZero n] (x y z t : Nat) : C4 n := ⟨ph n x, ph n y, ph n z, ph n t⟩
theorem ph_sub2 {a b : Nat} (hb : b < n) : ph n (a + n - b + (a + n - b)) = (ph n a - ph n b) + (ph n a - ph n b) := by
 rw [ph_add, ph_sub hb]
theorem stepN_eq (hp : 0 < n) (d : Nat) {x y z t u v w s : Nat} (hx : x < n) (hu : u < n) (k : Nat → Nat → Nat → Nat → Bool) : ∃ x' y' z' t', x' < n ∧ stepN n d x y z t u v w s k = k x' y' z' t' ∧ ph4 n x' y' z' t' = addC (ph n d) (ph4 n x y z t) (ph4 n u v w s) := by
 unfold stepN
 simp only [frc_eq]
 refine ⟨_, _, _, _, Nat.mod_lt _ hp, rfl, ?_⟩
 have m0 : ∀ a, a % n < n := fun a => Nat.mod_lt _ hp
 unfold ph4 addC
 simp only [ph_mod, ph_mul, ph_add, ph_sub hx, ph_sub hu, ph_sub2 (m0 _), ph_sub (m0 _)]
theorem ladN_eq (hp : 0 < n) (d : Nat) {u v w s : Nat} (hu : u < n) : ∀ (l : List Bool) (x y z t : Nat), x < n → ladN n d u v w s l x y z t = true → (ladC (ph n d) (ph4 n u v w s) l (ph4 n x y z t)).x = 0 ∧ (ladC (ph n d) (ph4 n u v w s) l (ph4 n x y z t)).y = (ladC (ph n d) (ph4 n u v w s) l (ph4 n x y z t)).z
 | [], x, y, z, t, _, h => by
   simp only [ladN, Bool.and_eq_true, decide_eq_true_eq] at h
   obtain ⟨h1, h2⟩ := h
   subst h1 h2
   exact ⟨rfl, rfl⟩
 | false :: l, x, y, z, t, hx, h => by
   rw [ladN] at h
   obtain ⟨x1, y1, z1, t1, h1, e1, p1⟩ := stepN_eq hp d (y := y) (z := z) (t := t) (v := y) (w := z) (s := t) hx hx (fun x y z t => ladN n d u v w s l x y z t)
   rw [e1] at h
   have := ladN_eq hp d hu l x1 y1 z1 t1 h1 h
   rw [p1] at this
   exact this
 | true :: l, x, y, z, t, hx, h => by
   rw [ladN] at h
   obtain ⟨x1, y1, z1, t1, h1, e1, p1⟩ := stepN_eq hp d (y := y) (z := z) (t := t) (v := y) (w := z) (s := t) hx hx (fun x y z t => stepN n d x y z t u v w s fun x y z t => ladN n d u v w s l x y z t)
   rw [e1] at h
   obtain ⟨x2, y2, z2, t2, h2, e2, p2⟩ := stepN_eq hp d (y := y1) (z := z1) (t := t1) (v := v) (w := w) (s := s) h1 hu (fun x y z t => ladN n d u v w s l x y z t)
   rw [e2] at h
   have := ladN_eq hp d hu l x2 y2 z2 t2 h2 h
   rw [p2, p1] at this
   exact this
end
def qBits : List Bool := [true, false, false, false, false, false, false, false, false, false, false, false, false, false, false, false, false, false, false, false, false, false, false, false, false, false, false, false, false, false, false, false, false, false, false, false, false, false, false, false, false, false, false, false, false, false, false, false, false, false, false, false, false, false, false, false, false, false, false, false, false, false, false, false, false, false, false, false, false, false, false, false, false, false, false, false, false, false, false, false, false, false, false, false, false, false, false, false, false, false, false, false, false, false, false, false, false, false, false, false, false, false, false, false, false, false, false, false, false, false, false, false, false, false, false, false, false, false, false, false, false, false, false, false, false, false, false, false, true, false, true, false, false, true, true, false, true, true, true, true, false, true, true, true, true, true, false, false, true, true, true, false, true, true, true, true, false, true, false, true, false, false, false, true, false, true, true, true, true, false, true, true, true, true, false, false, true, true, true, false, false, true, true, false, true, false, true, true, false, false, true, false, true, true, false, false, false, false, false, false, true, false, false, true, false, false, true, true, false, false, false, true, true, false, false, false, true, true, false, true, false, false, true, false, true, true, true, false, false, true, true, true, true, false, true, false, true, true, true, false, true, false, false, true, true, true, true, true, false, true, true, false, true]
theorem q_bits : numB qBits 0 = QN := by decide +kernel
theorem q_run : ladN NT.PN dN bxN byN 1 (bxN * byN % NT.PN) qBits 0 1 1 0 = true := by kernel_rfl
theorem bx_lt : bxN < NT.PN := by decide +kernel
theorem dF_eq : dF = ph NT.PN dN := rfl
theorem one_ph : ph NT.PN 1 = 1 := rfl
theorem base_c : ph4 NT.PN bxN byN 1 (bxN * byN % NT.PN) = atC bxF byF := by
 unfold ph4 atC
 rw [ph_mod, ph_mul, one_ph]; rfl
theorem nought_c : ph4 NT.PN 0 1 1 0 = atC 0 1 := by
 unfold ph4 atC
 rw [ph_zero, one_ph, z_mul]
theorem rep_base : Rep4 iF (atC bxF byF) baseP := rep_at pn_fld i_sq bxF byF
theorem pt_back {n : Nat} [NeZero n] {i x z : Fin n} (hi : i * i = -1) (h : 0 = -(i * x * z)) : x * z = 0 := by
 have : i * (i * x * z) = 0 := by grind
 clear h; grind
theorem order_base : Edw.mul eF QN baseP = Edw.O := by
 have h := lad_rep pn_fld ns_e i_sq de base_on rep_base qBits (atC 0 1) 0 (rep_nought pn_fld i_sq)
 rw [q_bits] at h
 have h2 := ladN_eq pn_pos' dN bx_lt qBits 0 1 1 0 pn_pos' q_run
 rw [base_c, nought_c] at h2
 obtain ⟨e1, e2⟩ := h2
 rw [← dF_eq] at e1 e2
 generalize ladC dF (atC bxF byF) qBits (atC 0 1) = c at *
 have hx := h.x
 have hy := h.y
 have hz := h.nz
 rw [e1] at hx
 rw [e2] at hy
 refine Edw.pt_ext ?_ ?_
 · rcases pn_fld.dom (pt_back i_sq hx) with h1 | h1
   · exact h1
   · exact absurd h1 hz
 · have : (1 : Fin NT.PN) * c.z = (Edw.mul eF QN baseP).y * c.z := by rw [← hy]; exact Fin.one_mul _
   exact (pn_fld.cancel hz this).symm
theorem mul_mod (k : Nat) : Edw.mul eF (k % QN) baseP = Edw.mul eF k baseP := by
 have h := Edw.mul_add pn_fld ns_e base_on (k / QN * QN) (k % QN)
 rw [Nat.div_add_mod' k QN, ← Edw.mul_mul pn_fld ns_e base_on QN (k / QN), order_base, Edw.mul_O pn_fld ns_e, Edw.O_add pn_fld ns_e (Edw.mul_on pn_fld ns_e base_on _)] at h
 exact h.symm
end Go.Proofs.YthpibkpljakeeaaDoor
