/- Texts of this proof, laid together: PBase, QPrime, BNon. -/
import Derived.Test.YtkblmdakejmmhaaDoorG39
import Derived.KernelRfl
/- The curve's constants, its base, and the base's order. No program. -/
namespace Go.Proofs.YtkblmdakejmmhaaDoor
open Go.RowKit

def dN : Nat := 37095705934669439343138083508754565189542113879843219016388785533085940283555
def iN : Nat := 19681161376707505956807079304988542015446066515923890162744021073123829784752
def bxN : Nat := 15112221349535400772501151409588531511454012693041857206046113283949847762202
def byN : Nat := 46316835694926478169428394003475163141307993866256225615783033603165251855960
def dF : Fin NT.PN := ph NT.PN dN
def iF : Fin NT.PN := ph NT.PN iN
def eF : Fin NT.PN := -dF
def bxF : Fin NT.PN := ph NT.PN bxN
def byF : Fin NT.PN := ph NT.PN byN
set_option maxRecDepth 50000 in
theorem i_sq : iF * iF = -1 := Fin.ext (by decide +kernel)
set_option maxRecDepth 50000 in
theorem de : dF = -eF := by unfold eF; grind
set_option maxRecDepth 50000 in
theorem d_is : dF * (cF + 1) = -cF := Fin.ext (by decide +kernel)
set_option maxRecDepth 50000 in
theorem ns_alg {n : Nat} [NeZero n] {d c a b : Fin n} (h : d * (c + 1) = -c) (h2 : a * a = -d * (b * b)) : (a * (c + 1)) * (a * (c + 1)) = c * (c + 1) * (b * b) := by
  have h3 : (a * (c + 1)) * (a * (c + 1)) = (a * a) * ((c + 1) * (c + 1)) := by clear h h2; grind
  have h4 : -d * (b * b) * ((c + 1) * (c + 1)) = -(d * (c + 1)) * (c + 1) * (b * b) := by clear h h2; grind
  rw [h3, h2, h4, h]
  clear h h2 h3 h4; grind
set_option maxRecDepth 50000 in
theorem ns_e : Edw.NS eF := fun a b h => no_root (a * (cF + 1)) b (ns_alg d_is h)
def baseP : Edw.Pt NT.PN := ⟨iF * bxF, byF⟩
set_option maxRecDepth 50000 in
theorem base_curve : byF * byF - bxF * bxF = 1 + dF * (bxF * byF * (bxF * byF)) := Fin.ext (by decide +kernel)
set_option maxRecDepth 50000 in
theorem curve_alg {n : Nat} [NeZero n] {i d x y : Fin n} (hi : i * i = -1) (h : y * y - x * x = 1 + d * (x * y * (x * y))) : (i * x) * (i * x) + y * y = 1 + -d * (i * x) * (i * x) * y * y := by
  have h1 : (i * x) * (i * x) = -(x * x) := by clear h; grind
  have h2 : -d * (i * x) * (i * x) * y * y = d * (x * y * (x * y)) := by clear h h1; grind
  rw [h1, h2, ← h]
  clear h h1 h2; grind
set_option maxRecDepth 50000 in
theorem on_of {x y : Fin NT.PN} (h : y * y - x * x = 1 + dF * (x * y * (x * y))) : Edw.On eF ⟨iF * x, y⟩ := curve_alg i_sq h
set_option maxRecDepth 50000 in
theorem base_on : Edw.On eF baseP := on_of base_curve
section
variable {n : Nat} [NeZero n]
/-- The ladder by four coordinates. -/
def ladC (d : Fin n) (c : C4P n) : List Bool → C4P n → C4P n
  | [], a => a
  | b :: l, a => ladC d c l (if b then addC d (addC d a a) c else addC d a a)
def numB (l : List Bool) (k : Nat) : Nat := l.foldl (fun v b => 2 * v + b.toNat) k
set_option maxRecDepth 50000 in
theorem dbl_mul (F : Edw.Fld n) {e : Fin n} (ns : Edw.NS e) {P : Edw.Pt n} (hP : Edw.On e P) (k : Nat) : Edw.add e (Edw.mul e k P) (Edw.mul e k P) = Edw.mul e (2 * k) P := by
  rw [← Edw.mul_add F ns hP, Nat.two_mul]
set_option maxRecDepth 50000 in
theorem lad_rep (F : Edw.Fld n) {i d e : Fin n} (ns : Edw.NS e) (hi : i * i = -1) (he : d = -e) {c : C4P n} {P : Edw.Pt n} (hP : Edw.On e P) (h : Rep4 i c P) : ∀ (l : List Bool) (a : C4P n) (k : Nat), Rep4 i a (Edw.mul e k P) → Rep4 i (ladC d c l a) (Edw.mul e (numB l k) P)
  | [], _, _, ha => ha
  | b :: l, a, k, ha => by
    have hk := Edw.mul_on F ns hP k
    have h2 := rep_add F ns hi he hk hk ha ha
    rw [dbl_mul F ns hP] at h2
    have h3 : Rep4 i (if b then addC d (addC d a a) c else addC d a a) (Edw.mul e (2 * k + b.toNat) P) := by
      cases b with
      | false => exact h2
      | true => exact rep_add F ns hi he (Edw.mul_on F ns hP (2 * k)) hP h2 h
    exact lad_rep F ns hi he hP h l _ _ h3
/-- The same by numbers, each one reckoned at once. -/
def frc {α : Type} (a : Nat) (k : Nat → α) : α := Nat.rec (k 0) (fun m _ => k (m + 1)) a
set_option maxRecDepth 50000 in
theorem frc_eq {α : Type} (a : Nat) (k : Nat → α) : frc a k = k a := by cases a <;> rfl
def stepNP (p d x y z t u v w s : Nat) (k : Nat → Nat → Nat → Nat → Bool) : Bool :=
  frc ((y + p - x) * (v + p - u) % p) fun m =>
  frc ((y + x) * (v + u) % p) fun q =>
  frc (z * w % p) fun zz =>
  frc (d * t % p * s % p) fun dt =>
  frc ((q + p - m) % p) fun a =>
  frc ((q + m) % p) fun b =>
  frc ((zz + dt + (zz + dt)) % p) fun e =>
  frc ((zz + p - dt + (zz + p - dt)) % p) fun f =>
  frc (a * f % p) fun x' => frc (b * e % p) fun y' => frc (e * f % p) fun z' => frc (a * b % p) fun t' => k x' y' z' t'
def ladP (p d u v w s : Nat) : List Bool → Nat → Nat → Nat → Nat → Bool
  | [], x, y, z, _ => decide (x = 0) && decide (y = z)
  | false :: l, x, y, z, t => stepNP p d x y z t x y z t fun x y z t => ladP p d u v w s l x y z t
  | true :: l, x, y, z, t => stepNP p d x y z t x y z t fun x y z t => stepNP p d x y z t u v w s fun x y z t => ladP p d u v w s l x y z t
def ph4 (n : Nat) [NeZero n] (x y z t : Nat) : C4P n := ⟨ph n x, ph n y, ph n z, ph n t⟩
set_option maxRecDepth 50000 in
theorem ph_sub2 {a b : Nat} (hb : b < n) : ph n (a + n - b + (a + n - b)) = (ph n a - ph n b) + (ph n a - ph n b) := by
  rw [ph_add, ph_sub hb]
set_option maxRecDepth 50000 in
theorem stepNP_eq (hp : 0 < n) (d : Nat) {x y z t u v w s : Nat} (hx : x < n) (hu : u < n) (k : Nat → Nat → Nat → Nat → Bool) : ∃ x' y' z' t', x' < n ∧ stepNP n d x y z t u v w s k = k x' y' z' t' ∧ ph4 n x' y' z' t' = addC (ph n d) (ph4 n x y z t) (ph4 n u v w s) := by
  unfold stepNP
  simp only [frc_eq]
  refine ⟨_, _, _, _, Nat.mod_lt _ hp, rfl, ?_⟩
  have m0 : ∀ a, a % n < n := fun a => Nat.mod_lt _ hp
  unfold ph4 addC
  simp only [ph_mod, ph_mul, ph_add, ph_sub hx, ph_sub hu, ph_sub2 (m0 _), ph_sub (m0 _)]
set_option maxRecDepth 50000 in
theorem ladP_eq (hp : 0 < n) (d : Nat) {u v w s : Nat} (hu : u < n) : ∀ (l : List Bool) (x y z t : Nat), x < n → ladP n d u v w s l x y z t = true → (ladC (ph n d) (ph4 n u v w s) l (ph4 n x y z t)).x = 0 ∧ (ladC (ph n d) (ph4 n u v w s) l (ph4 n x y z t)).y = (ladC (ph n d) (ph4 n u v w s) l (ph4 n x y z t)).z
  | [], x, y, z, t, _, h => by
    simp only [ladP, Bool.and_eq_true, decide_eq_true_eq] at h
    obtain ⟨h1, h2⟩ := h
    subst h1 h2
    exact ⟨rfl, rfl⟩
  | false :: l, x, y, z, t, hx, h => by
    rw [ladP] at h
    obtain ⟨x1, y1, z1, t1, h1, e1, p1⟩ := stepNP_eq hp d (y := y) (z := z) (t := t) (v := y) (w := z) (s := t) hx hx (fun x y z t => ladP n d u v w s l x y z t)
    rw [e1] at h
    have := ladP_eq hp d hu l x1 y1 z1 t1 h1 h
    rw [p1] at this
    exact this
  | true :: l, x, y, z, t, hx, h => by
    rw [ladP] at h
    obtain ⟨x1, y1, z1, t1, h1, e1, p1⟩ := stepNP_eq hp d (y := y) (z := z) (t := t) (v := y) (w := z) (s := t) hx hx (fun x y z t => stepNP n d x y z t u v w s fun x y z t => ladP n d u v w s l x y z t)
    rw [e1] at h
    obtain ⟨x2, y2, z2, t2, h2, e2, p2⟩ := stepNP_eq hp d (y := y1) (z := z1) (t := t1) (v := v) (w := w) (s := s) h1 hu (fun x y z t => ladP n d u v w s l x y z t)
    rw [e2] at h
    have := ladP_eq hp d hu l x2 y2 z2 t2 h2 h
    rw [p2, p1] at this
    exact this
end
def qBits : List Bool := [true, false, false, false, false, false, false, false, false, false, false, false, false, false, false, false, false, false, false, false, false, false, false, false, false, false, false, false, false, false, false, false, false, false, false, false, false, false, false, false, false, false, false, false, false, false, false, false, false, false, false, false, false, false, false, false, false, false, false, false, false, false, false, false, false, false, false, false, false, false, false, false, false, false, false, false, false, false, false, false, false, false, false, false, false, false, false, false, false, false, false, false, false, false, false, false, false, false, false, false, false, false, false, false, false, false, false, false, false, false, false, false, false, false, false, false, false, false, false, false, false, false, false, false, false, false, false, false, true, false, true, false, false, true, true, false, true, true, true, true, false, true, true, true, true, true, false, false, true, true, true, false, true, true, true, true, false, true, false, true, false, false, false, true, false, true, true, true, true, false, true, true, true, true, false, false, true, true, true, false, false, true, true, false, true, false, true, true, false, false, true, false, true, true, false, false, false, false, false, false, true, false, false, true, false, false, true, true, false, false, false, true, true, false, false, false, true, true, false, true, false, false, true, false, true, true, true, false, false, true, true, true, true, false, true, false, true, true, true, false, true, false, false, true, true, true, true, true, false, true, true, false, true]
set_option maxRecDepth 50000 in
theorem q_bits : numB qBits 0 = QNS := by decide +kernel
set_option maxRecDepth 50000 in
theorem q_run : ladP NT.PN dN bxN byN 1 (bxN * byN % NT.PN) qBits 0 1 1 0 = true := by kernel_rfl
set_option maxRecDepth 50000 in
theorem bx_lt : bxN < NT.PN := by decide +kernel
set_option maxRecDepth 50000 in
theorem dF_eq : dF = ph NT.PN dN := rfl
set_option maxRecDepth 50000 in
theorem one_ph : ph NT.PN 1 = 1 := rfl
set_option maxRecDepth 50000 in
theorem base_c : ph4 NT.PN bxN byN 1 (bxN * byN % NT.PN) = atC bxF byF := by
  unfold ph4 atC
  rw [ph_mod, ph_mul, one_ph]; rfl
set_option maxRecDepth 50000 in
theorem nought_c : ph4 NT.PN 0 1 1 0 = atC 0 1 := by
  unfold ph4 atC
  rw [ph_zero, one_ph, z_mul]
set_option maxRecDepth 50000 in
theorem rep_base : Rep4 iF (atC bxF byF) baseP := rep_at pn_fld i_sq bxF byF
set_option maxRecDepth 50000 in
theorem pt_back {n : Nat} [NeZero n] {i x z : Fin n} (hi : i * i = -1) (h : 0 = -(i * x * z)) : x * z = 0 := by
  have : i * (i * x * z) = 0 := by grind
  clear h; grind
set_option maxRecDepth 50000 in
/-- The order times the base. -/
theorem order_base : Edw.mul eF QNS baseP = Edw.O := by
  have h := lad_rep pn_fld ns_e i_sq de base_on rep_base qBits (atC 0 1) 0 (rep_nought pn_fld i_sq)
  rw [q_bits] at h
  have h2 := ladP_eq pn_pos' dN bx_lt qBits 0 1 1 0 pn_pos' q_run
  rw [base_c, nought_c] at h2
  obtain ⟨e1, e2⟩ := h2
  rw [← dF_eq] at e1 e2
  generalize ladC dF (atC bxF byF) qBits (atC 0 1) = c at *
  have hx := h.x
  have hy := h.y
  have hz := h.nz
  rw [e1] at hx
  rw [e2] at hy
  refine Edw.pt_ext ?_ ?_
  · rcases pn_fld.dom (pt_back i_sq hx) with h1 | h1
    · exact h1
    · exact absurd h1 hz
  · have : (1 : Fin NT.PN) * c.z = (Edw.mul eF QNS baseP).y * c.z := by rw [← hy]; exact Fin.one_mul _
    exact (pn_fld.cancel hz this).symm
end Go.Proofs.YtkblmdakejmmhaaDoor

/- The order is a prime: its certificate; what takes the base to the neutral point is a multiple of it. No program. -/
namespace Go.Proofs.YtkblmdakejmmhaaDoor.NT
set_option maxRecDepth 50000 in
theorem qr_2 : Pr 2 := small_prime (by kernel_rfl)
set_option maxRecDepth 50000 in
theorem qr_3 : Pr 3 := small_prime (by kernel_rfl)
set_option maxRecDepth 50000 in
theorem qr_11 : Pr 11 := small_prime (by kernel_rfl)
set_option maxRecDepth 50000 in
theorem qr_23 : Pr 23 := small_prime (by kernel_rfl)
set_option maxRecDepth 50000 in
theorem qr_47 : Pr 47 := small_prime (by kernel_rfl)
set_option maxRecDepth 50000 in
theorem qr_34123 : Pr 34123 :=
  cert_prime (a := 2) (f := 16) (fs := [2, 3, 11, 11, 47]) (by kernel_rfl) (by intro q hq; simp only [List.mem_cons, List.not_mem_nil, or_false] at hq; rcases hq with rfl | rfl | rfl | rfl | rfl <;> first | exact qr_2 | exact qr_3 | exact qr_11 | exact qr_47) (by decide)
set_option maxRecDepth 50000 in
theorem qr_409477 : Pr 409477 :=
  cert_prime (a := 2) (f := 19) (fs := [2, 2, 3, 34123]) (by kernel_rfl) (by intro q hq; simp only [List.mem_cons, List.not_mem_nil, or_false] at hq; rcases hq with rfl | rfl | rfl | rfl <;> first | exact qr_2 | exact qr_3 | exact qr_34123) (by decide)
set_option maxRecDepth 50000 in
theorem qr_14741173 : Pr 14741173 :=
  cert_prime (a := 2) (f := 24) (fs := [2, 2, 3, 3, 409477]) (by kernel_rfl) (by intro q hq; simp only [List.mem_cons, List.not_mem_nil, or_false] at hq; rcases hq with rfl | rfl | rfl | rfl | rfl <;> first | exact qr_2 | exact qr_3 | exact qr_409477) (by decide)
set_option maxRecDepth 50000 in
theorem qr_58964693 : Pr 58964693 :=
  cert_prime (a := 2) (f := 26) (fs := [2, 2, 14741173]) (by kernel_rfl) (by intro q hq; simp only [List.mem_cons, List.not_mem_nil, or_false] at hq; rcases hq with rfl | rfl | rfl <;> first | exact qr_2 | exact qr_14741173) (by decide)
set_option maxRecDepth 50000 in
theorem qr_7 : Pr 7 := small_prime (by kernel_rfl)
set_option maxRecDepth 50000 in
theorem qr_17 : Pr 17 := small_prime (by kernel_rfl)
set_option maxRecDepth 50000 in
theorem qr_43 : Pr 43 := small_prime (by kernel_rfl)
set_option maxRecDepth 50000 in
theorem qr_30703 : Pr 30703 :=
  cert_prime (a := 3) (f := 15) (fs := [2, 3, 7, 17, 43]) (by kernel_rfl) (by intro q hq; simp only [List.mem_cons, List.not_mem_nil, or_false] at hq; rcases hq with rfl | rfl | rfl | rfl | rfl <;> first | exact qr_2 | exact qr_3 | exact qr_7 | exact qr_17 | exact qr_43) (by decide)
set_option maxRecDepth 50000 in
theorem qr_5 : Pr 5 := small_prime (by kernel_rfl)
set_option maxRecDepth 50000 in
theorem qr_13 : Pr 13 := small_prime (by kernel_rfl)
set_option maxRecDepth 50000 in
theorem qr_79 : Pr 79 := small_prime (by kernel_rfl)
set_option maxRecDepth 50000 in
theorem qr_41081 : Pr 41081 :=
  cert_prime (a := 3) (f := 16) (fs := [2, 2, 2, 5, 13, 79]) (by kernel_rfl) (by intro q hq; simp only [List.mem_cons, List.not_mem_nil, or_false] at hq; rcases hq with rfl | rfl | rfl | rfl | rfl | rfl <;> first | exact qr_2 | exact qr_5 | exact qr_13 | exact qr_79) (by decide)
set_option maxRecDepth 50000 in
theorem qr_82163 : Pr 82163 :=
  cert_prime (a := 2) (f := 17) (fs := [2, 41081]) (by kernel_rfl) (by intro q hq; simp only [List.mem_cons, List.not_mem_nil, or_false] at hq; rcases hq with rfl | rfl <;> first | exact qr_2 | exact qr_41081) (by decide)
set_option maxRecDepth 50000 in
theorem qr_67 : Pr 67 := small_prime (by kernel_rfl)
set_option maxRecDepth 50000 in
theorem qr_22111 : Pr 22111 :=
  cert_prime (a := 6) (f := 15) (fs := [2, 3, 5, 11, 67]) (by kernel_rfl) (by intro q hq; simp only [List.mem_cons, List.not_mem_nil, or_false] at hq; rcases hq with rfl | rfl | rfl | rfl | rfl <;> first | exact qr_2 | exact qr_3 | exact qr_5 | exact qr_11 | exact qr_67) (by decide)
set_option maxRecDepth 50000 in
theorem qr_132667 : Pr 132667 :=
  cert_prime (a := 5) (f := 18) (fs := [2, 3, 22111]) (by kernel_rfl) (by intro q hq; simp only [List.mem_cons, List.not_mem_nil, or_false] at hq; rcases hq with rfl | rfl | rfl <;> first | exact qr_2 | exact qr_3 | exact qr_22111) (by decide)
set_option maxRecDepth 50000 in
theorem qr_1723 : Pr 1723 := small_prime (by kernel_rfl)
set_option maxRecDepth 50000 in
theorem qr_17231 : Pr 17231 :=
  cert_prime (a := 13) (f := 15) (fs := [2, 5, 1723]) (by kernel_rfl) (by intro q hq; simp only [List.mem_cons, List.not_mem_nil, or_false] at hq; rcases hq with rfl | rfl | rfl <;> first | exact qr_2 | exact qr_5 | exact qr_1723) (by decide)
set_option maxRecDepth 50000 in
theorem qr_137849 : Pr 137849 :=
  cert_prime (a := 3) (f := 18) (fs := [2, 2, 2, 17231]) (by kernel_rfl) (by intro q hq; simp only [List.mem_cons, List.not_mem_nil, or_false] at hq; rcases hq with rfl | rfl | rfl | rfl <;> first | exact qr_2 | exact qr_17231) (by decide)
set_option maxRecDepth 50000 in
theorem qr_3044861653679985063343 : Pr 3044861653679985063343 :=
  cert_prime (a := 5) (f := 72) (fs := [2, 3, 11, 30703, 82163, 132667, 137849]) (by kernel_rfl) (by intro q hq; simp only [List.mem_cons, List.not_mem_nil, or_false] at hq; rcases hq with rfl | rfl | rfl | rfl | rfl | rfl | rfl <;> first | exact qr_2 | exact qr_3 | exact qr_11 | exact qr_30703 | exact qr_82163 | exact qr_132667 | exact qr_137849) (by decide)
set_option maxRecDepth 50000 in
theorem qr_198211423230930754013084525763697 : Pr 198211423230930754013084525763697 :=
  cert_prime (a := 5) (f := 108) (fs := [2, 2, 2, 2, 3, 23, 58964693, 3044861653679985063343]) (by kernel_rfl) (by intro q hq; simp only [List.mem_cons, List.not_mem_nil, or_false] at hq; rcases hq with rfl | rfl | rfl | rfl | rfl | rfl | rfl | rfl <;> first | exact qr_2 | exact qr_3 | exact qr_23 | exact qr_58964693 | exact qr_3044861653679985063343) (by decide)
set_option maxRecDepth 50000 in
theorem qr_269 : Pr 269 := small_prime (by kernel_rfl)
set_option maxRecDepth 50000 in
theorem qr_73 : Pr 73 := small_prime (by kernel_rfl)
set_option maxRecDepth 50000 in
theorem qr_307 : Pr 307 := small_prime (by kernel_rfl)
set_option maxRecDepth 50000 in
theorem qr_113 : Pr 113 := small_prime (by kernel_rfl)
set_option maxRecDepth 50000 in
theorem qr_2939 : Pr 2939 :=
  cert_prime (a := 2) (f := 12) (fs := [2, 13, 113]) (by kernel_rfl) (by intro q hq; simp only [List.mem_cons, List.not_mem_nil, or_false] at hq; rcases hq with rfl | rfl | rfl <;> first | exact qr_2 | exact qr_13 | exact qr_113) (by decide)
set_option maxRecDepth 50000 in
theorem qr_5879 : Pr 5879 :=
  cert_prime (a := 11) (f := 13) (fs := [2, 2939]) (by kernel_rfl) (by intro q hq; simp only [List.mem_cons, List.not_mem_nil, or_false] at hq; rcases hq with rfl | rfl <;> first | exact qr_2 | exact qr_2939) (by decide)
set_option maxRecDepth 50000 in
theorem qr_292386187 : Pr 292386187 :=
  cert_prime (a := 2) (f := 29) (fs := [2, 3, 3, 3, 3, 307, 5879]) (by kernel_rfl) (by intro q hq; simp only [List.mem_cons, List.not_mem_nil, or_false] at hq; rcases hq with rfl | rfl | rfl | rfl | rfl | rfl | rfl <;> first | exact qr_2 | exact qr_3 | exact qr_307 | exact qr_5879) (by decide)
set_option maxRecDepth 50000 in
theorem qr_213441916511 : Pr 213441916511 :=
  cert_prime (a := 13) (f := 38) (fs := [2, 5, 73, 292386187]) (by kernel_rfl) (by intro q hq; simp only [List.mem_cons, List.not_mem_nil, or_false] at hq; rcases hq with rfl | rfl | rfl | rfl <;> first | exact qr_2 | exact qr_5 | exact qr_73 | exact qr_292386187) (by decide)
set_option maxRecDepth 50000 in
theorem qr_1361 : Pr 1361 := small_prime (by kernel_rfl)
set_option maxRecDepth 50000 in
theorem qr_19 : Pr 19 := small_prime (by kernel_rfl)
set_option maxRecDepth 50000 in
theorem qr_2851 : Pr 2851 :=
  cert_prime (a := 2) (f := 12) (fs := [2, 3, 5, 5, 19]) (by kernel_rfl) (by intro q hq; simp only [List.mem_cons, List.not_mem_nil, or_false] at hq; rcases hq with rfl | rfl | rfl | rfl | rfl <;> first | exact qr_2 | exact qr_3 | exact qr_5 | exact qr_19) (by decide)
set_option maxRecDepth 50000 in
theorem qr_41 : Pr 41 := small_prime (by kernel_rfl)
set_option maxRecDepth 50000 in
theorem qr_3797 : Pr 3797 :=
  cert_prime (a := 2) (f := 12) (fs := [2, 2, 13, 73]) (by kernel_rfl) (by intro q hq; simp only [List.mem_cons, List.not_mem_nil, or_false] at hq; rcases hq with rfl | rfl | rfl | rfl <;> first | exact qr_2 | exact qr_13 | exact qr_73) (by decide)
set_option maxRecDepth 50000 in
theorem qr_531581 : Pr 531581 :=
  cert_prime (a := 2) (f := 20) (fs := [2, 2, 5, 7, 3797]) (by kernel_rfl) (by intro q hq; simp only [List.mem_cons, List.not_mem_nil, or_false] at hq; rcases hq with rfl | rfl | rfl | rfl | rfl <;> first | exact qr_2 | exact qr_5 | exact qr_7 | exact qr_3797) (by decide)
set_option maxRecDepth 50000 in
theorem qr_2551 : Pr 2551 :=
  cert_prime (a := 6) (f := 12) (fs := [2, 3, 5, 5, 17]) (by kernel_rfl) (by intro q hq; simp only [List.mem_cons, List.not_mem_nil, or_false] at hq; rcases hq with rfl | rfl | rfl | rfl | rfl <;> first | exact qr_2 | exact qr_3 | exact qr_5 | exact qr_17) (by decide)
set_option maxRecDepth 50000 in
theorem qr_1224481 : Pr 1224481 :=
  cert_prime (a := 13) (f := 21) (fs := [2, 2, 2, 2, 2, 3, 5, 2551]) (by kernel_rfl) (by intro q hq; simp only [List.mem_cons, List.not_mem_nil, or_false] at hq; rcases hq with rfl | rfl | rfl | rfl | rfl | rfl | rfl | rfl <;> first | exact qr_2 | exact qr_3 | exact qr_5 | exact qr_2551) (by decide)
set_option maxRecDepth 50000 in
theorem qr_1257559732178653 : Pr 1257559732178653 :=
  cert_prime (a := 2) (f := 51) (fs := [2, 2, 3, 7, 23, 531581, 1224481]) (by kernel_rfl) (by intro q hq; simp only [List.mem_cons, List.not_mem_nil, or_false] at hq; rcases hq with rfl | rfl | rfl | rfl | rfl | rfl | rfl <;> first | exact qr_2 | exact qr_3 | exact qr_7 | exact qr_23 | exact qr_531581 | exact qr_1224481) (by decide)
set_option maxRecDepth 50000 in
theorem qr_4434155615661930479 : Pr 4434155615661930479 :=
  cert_prime (a := 17) (f := 62) (fs := [2, 41, 43, 1257559732178653]) (by kernel_rfl) (by intro q hq; simp only [List.mem_cons, List.not_mem_nil, or_false] at hq; rcases hq with rfl | rfl | rfl | rfl <;> first | exact qr_2 | exact qr_41 | exact qr_43 | exact qr_1257559732178653) (by decide)
set_option maxRecDepth 50000 in
theorem qr_172054593956031949258510691 : Pr 172054593956031949258510691 :=
  cert_prime (a := 2) (f := 88) (fs := [2, 5, 1361, 2851, 4434155615661930479]) (by kernel_rfl) (by intro q hq; simp only [List.mem_cons, List.not_mem_nil, or_false] at hq; rcases hq with rfl | rfl | rfl | rfl | rfl <;> first | exact qr_2 | exact qr_5 | exact qr_1361 | exact qr_2851 | exact qr_4434155615661930479) (by decide)
set_option maxRecDepth 50000 in
theorem qr_19757330305831588566944191468367130476339 : Pr 19757330305831588566944191468367130476339 :=
  cert_prime (a := 2) (f := 134) (fs := [2, 269, 213441916511, 172054593956031949258510691]) (by kernel_rfl) (by intro q hq; simp only [List.mem_cons, List.not_mem_nil, or_false] at hq; rcases hq with rfl | rfl | rfl | rfl <;> first | exact qr_2 | exact qr_269 | exact qr_213441916511 | exact qr_172054593956031949258510691) (by decide)
set_option maxRecDepth 50000 in
theorem qr_276602624281642239937218680557139826668747 : Pr 276602624281642239937218680557139826668747 :=
  cert_prime (a := 2) (f := 138) (fs := [2, 7, 19757330305831588566944191468367130476339]) (by kernel_rfl) (by intro q hq; simp only [List.mem_cons, List.not_mem_nil, or_false] at hq; rcases hq with rfl | rfl | rfl <;> first | exact qr_2 | exact qr_7 | exact qr_19757330305831588566944191468367130476339) (by decide)
set_option maxRecDepth 50000 in
theorem qr_7237005577332262213973186563042994240857116359379907606001950938285454250989 : Pr 7237005577332262213973186563042994240857116359379907606001950938285454250989 :=
  cert_prime (a := 2) (f := 253) (fs := [2, 2, 3, 11, 198211423230930754013084525763697, 276602624281642239937218680557139826668747]) (by kernel_rfl) (by intro q hq; simp only [List.mem_cons, List.not_mem_nil, or_false] at hq; rcases hq with rfl | rfl | rfl | rfl | rfl | rfl <;> first | exact qr_2 | exact qr_3 | exact qr_11 | exact qr_198211423230930754013084525763697 | exact qr_276602624281642239937218680557139826668747) (by decide)
end Go.Proofs.YtkblmdakejmmhaaDoor.NT
namespace Go.Proofs.YtkblmdakejmmhaaDoor
open Go.RowKit
set_option maxRecDepth 50000 in
theorem q_prime : NT.Pr QNS := NT.qr_7237005577332262213973186563042994240857116359379907606001950938285454250989
set_option maxRecDepth 50000 in
theorem mul_rest {P : Edw.Pt NT.PN} (hP : Edw.On eF P) {a b : Nat} (ha : Edw.mul eF a P = Edw.O) (hb : Edw.mul eF b P = Edw.O) : Edw.mul eF (b % a) P = Edw.O := by
  have h := Edw.mul_add pn_fld ns_e hP (b / a * a) (b % a)
  rw [Nat.div_add_mod', hb, ← Edw.mul_mul pn_fld ns_e hP a (b / a), ha, Edw.mul_O pn_fld ns_e, Edw.O_add pn_fld ns_e (Edw.mul_on pn_fld ns_e hP _)] at h
  exact h.symm
set_option maxRecDepth 50000 in
theorem mul_gcd {P : Edw.Pt NT.PN} (hP : Edw.On eF P) : ∀ (a b : Nat), Edw.mul eF a P = Edw.O → Edw.mul eF b P = Edw.O → Edw.mul eF (Nat.gcd a b) P = Edw.O := by
  intro a
  induction a using Nat.strongRecOn with
  | _ a ih =>
    intro b ha hb
    by_cases h0 : a = 0
    · subst h0; rw [Nat.gcd_zero_left]; exact hb
    · rw [Nat.gcd_rec]
      exact ih (b % a) (Nat.mod_lt _ (by omega)) a (mul_rest hP ha hb) ha
set_option maxRecDepth 50000 in
theorem base_ne : baseP ≠ Edw.O := fun h => by
  have h1 : byF = 1 := congrArg Edw.Pt.y h
  have h2 := congrArg Fin.val h1
  rw [show byF.val = byN from Nat.mod_eq_of_lt (by decide +kernel)] at h2
  exact absurd h2 (by decide)
set_option maxRecDepth 50000 in
/-- The base's order is the order, and no less. -/
theorem base_order {j : Nat} (h : Edw.mul eF j baseP = Edw.O) : QNS ∣ j := by
  have h1 := mul_gcd base_on j QNS h order_base
  rcases q_prime.2 _ (Nat.gcd_dvd_right j QNS) with e | e
  · rw [e, Edw.mul_one pn_fld ns_e base_on] at h1
    exact absurd h1 base_ne
  · rw [← e]; exact Nat.gcd_dvd_left j QNS
end Go.Proofs.YtkblmdakejmmhaaDoor

/- Two secrets, one after the other, never come to nought: what the law of wrapped texts asks of the numbers. No program is named. -/
namespace Go.Proofs.YtkblmdakejmmhaaDoor
open Go Go.RowKit

set_option maxRecDepth 50000 in
theorem con_one : Edw.Con 1 eF (cF + 1) cF where
  one := Fin.ext (by decide +kernel)
  sq := by decide +kernel
  fit := .inl ⟨rfl, rfl⟩
set_option maxRecDepth 50000 in
theorem val_base : Edw.Val 1 (ph NT.PN 9) baseP := by
  refine ⟨fun h => ?_, fun _ => Fin.ext (by decide +kernel)⟩
  have h1 : byF = 1 := h
  have h2 := congrArg Fin.val h1
  rw [show byF.val = byN from Nat.mod_eq_of_lt (by decide +kernel)] at h2
  exact absurd h2 (by decide)
set_option maxRecDepth 50000 in
theorem numF_lt (bits : Nat → Bool) : ∀ k, Edw.numF bits k < 2 ^ k
  | 0 => by show 0 < 2 ^ 0; decide
  | k + 1 => by
    have h := numF_lt bits k
    have hb : (bits k).toNat ≤ 1 := Bool.toNat_le _
    show Edw.numF bits k + Edw.numF bits k + (bits k).toNat < 2 ^ (k + 1)
    rw [Nat.pow_succ]
    omega
set_option maxRecDepth 50000 in
theorem numF_pos {bits : Nat → Bool} (h : bits 0 = true) : ∀ k, 0 < Edw.numF bits (k + 1)
  | 0 => by
    show 0 < 0 + 0 + (bits 0).toNat
    rw [h]; decide
  | k + 1 => by
    have h1 := numF_pos h k
    show 0 < Edw.numF bits (k + 1) + Edw.numF bits (k + 1) + (bits (k + 1)).toNat
    omega
set_option maxRecDepth 50000 in
theorem numF_off {bits : Nat → Bool} {k : Nat} (h : bits k = false) : Edw.numF bits (k + 1) = 2 * Edw.numF bits k := by
  show Edw.numF bits k + Edw.numF bits k + (bits k).toNat = _
  rw [h]
  show _ + 0 = _
  omega
set_option maxRecDepth 50000 in
/-- A secret's number: eight times a number below 2^252 that is not nought. -/
theorem clamp_num {b : List Int} (hl : b.length = 32) (hb : Byt b) : ∃ k, Edw.numF (bitsOf (clampL b)) 255 = 8 * k ∧ 0 < k ∧ k < 2 ^ 252 := by
  have h0 := byt_at hb hl (i := 0) (by omega)
  have h31 := byt_at hb hl (i := 31) (by omega)
  have e0 : (clampL b).getD 0 0 = b.getD 0 0 / 8 * 8 := by
    unfold clampL
    rw [List.getD_eq_getElem?_getD, List.getElem?_set_ne (by omega), List.getElem?_set_self (by omega)]; rfl
  have e31 : (clampL b).getD 31 0 = b.getD 31 0 % 64 + 64 := by
    unfold clampL
    rw [List.getD_eq_getElem?_getD, List.getElem?_set_self (by simp; omega)]; rfl
  have z0 : bitsOf (clampL b) 254 = false := by
    show (bitAt (clampL b) 0 == 1) = false
    have e2 : bitAt (clampL b) 0 = 0 := by
      show (clampL b).getD 0 0 / 1 % 2 = 0
      rw [e0]; omega
    rw [e2]; rfl
  have z1 : bitsOf (clampL b) 253 = false := by
    show (bitAt (clampL b) 1 == 1) = false
    have e2 : bitAt (clampL b) 1 = 0 := by
      show (clampL b).getD 0 0 / 2 % 2 = 0
      rw [e0]; omega
    rw [e2]; rfl
  have z2 : bitsOf (clampL b) 252 = false := by
    show (bitAt (clampL b) 2 == 1) = false
    have e2 : bitAt (clampL b) 2 = 0 := by
      show (clampL b).getD 0 0 / 4 % 2 = 0
      rw [e0]; omega
    rw [e2]; rfl
  have z9 : bitsOf (clampL b) 0 = true := by
    show (bitAt (clampL b) 254 == 1) = true
    have e2 : bitAt (clampL b) 254 = 1 := by
      show (clampL b).getD 31 0 / 64 % 2 = 1
      rw [e31]; omega
    rw [e2]; rfl
  refine ⟨Edw.numF (bitsOf (clampL b)) 252, ?_, numF_pos z9 251, numF_lt _ _⟩
  rw [numF_off z0, numF_off z1, numF_off z2]
  omega
set_option maxRecDepth 50000 in
theorem qn_euclid {x y : Nat} (h : QNS ∣ x * y) : QNS ∣ x ∨ QNS ∣ y := by
  rcases q_prime.2 _ (Nat.gcd_dvd_left QNS x) with e | e
  · exact .inr (Nat.Coprime.dvd_of_dvd_mul_left e h)
  · exact .inl (by rw [← e]; exact Nat.gcd_dvd_right QNS x)
set_option maxRecDepth 50000 in
theorem qn_not {k : Nat} (h0 : 0 < k) (h : k < 2 ^ 252) : ¬ QNS ∣ 8 * k := fun hd => by
  rcases qn_euclid hd with e | e
  · exact absurd (Nat.le_of_dvd (by omega) e) (by decide)
  · have h1 := Nat.le_of_dvd h0 e
    have h2 : (2 : Nat) ^ 252 ≤ QNS := by decide
    omega
set_option maxRecDepth 50000 in
theorem mulN_some {a b : List Int} (la : a.length = 32) (ba : Byt a) (lb : b.length = 32) (bb : Byt b) : mulN a (mulN b 9) ≠ 0 := fun h => by
  obtain ⟨ka, hA, a0, a1⟩ := clamp_num la ba
  obtain ⟨kb, hB, b0, b1⟩ := clamp_num lb bb
  have o1 := Edw.mul_on pn_fld ns_e base_on (Edw.numF (bitsOf (clampL b)) 255)
  have v1 := Edw.ladder_val pn_fld ns_e con_one base_on val_base (bitsOf (clampL b)) 255 (4 * kb) (by omega) (mulN_out (u := 9) (by decide))
  have v2 := Edw.ladder_val pn_fld ns_e con_one o1 v1 (bitsOf (clampL a)) 255 (4 * ka) (by omega) (mulN_out (mulN_lt b 9))
  have o2 := Edw.mul_on pn_fld ns_e o1 (Edw.numF (bitsOf (clampL a)) 255)
  rw [h, ph_zero] at v2
  have z := Edw.val_zero pn_fld ns_e o2 v2 1
  rw [Edw.mul_mul pn_fld ns_e o1, Edw.mul_mul pn_fld ns_e base_on, hA, hB] at z
  have hq := base_order z
  rcases qn_euclid hq with e | e
  · rcases qn_euclid e with e | e
    · exact absurd (Nat.le_of_dvd (by decide) e) (by decide)
    · exact qn_not a0 a1 e
  · exact qn_not b0 b1 e
end Go.Proofs.YtkblmdakejmmhaaDoor
