/- Texts of this proof, laid together: PFld, Meets, PCrv, SMath. -/
import Derived.Test.YtkblmdakejmmhaaDoorEdw
import Derived.Test.YtkblmdakejmmhaaDoorG10
import Derived.Test.YtkblmdakejmmhaaDoorG12
/- Numbers modulo the prime as elements of a field; what is no square. No program. -/
namespace Go.Proofs.YtkblmdakejmmhaaDoor
open Go.RowKit


/-- A number modulo n. -/
def ph (n : Nat) [NeZero n] (m : Nat) : Fin n := Fin.ofNat n m
section
variable {n : Nat} [NeZero n]
set_option maxRecDepth 50000 in
theorem ph_val (m : Nat) : (ph n m).val = m % n := rfl
set_option maxRecDepth 50000 in
theorem ph_self (x : Fin n) : ph n x.val = x := Fin.ext (by rw [ph_val]; exact Nat.mod_eq_of_lt x.isLt)
set_option maxRecDepth 50000 in
theorem ph_mod (m : Nat) : ph n (m % n) = ph n m := Fin.ext (by rw [ph_val, ph_val, Nat.mod_mod])
set_option maxRecDepth 50000 in
theorem ph_add (a b : Nat) : ph n (a + b) = ph n a + ph n b := Fin.ext (by rw [ph_val, Fin.val_add, ph_val, ph_val, ← Nat.add_mod])
set_option maxRecDepth 50000 in
theorem ph_mul (a b : Nat) : ph n (a * b) = ph n a * ph n b := Fin.ext (by rw [ph_val, Fin.val_mul, ph_val, ph_val, ← Nat.mul_mod])
set_option maxRecDepth 50000 in
theorem ph_zero : ph n 0 = 0 := rfl
set_option maxRecDepth 50000 in
theorem ph_sub {a b : Nat} (hb : b < n) : ph n (a + n - b) = ph n a - ph n b := by
  have h : ph n (a + n - b) + ph n b = ph n a := by
    rw [← ph_add]
    refine Fin.ext ?_
    rw [ph_val, ph_val, show a + n - b + b = a + n by omega, Nat.add_mod_right]
  rw [← h]
  grind
set_option maxRecDepth 50000 in
theorem z_mul (x : Fin n) : 0 * x = 0 := by grind
set_option maxRecDepth 50000 in
theorem mul_z (x : Fin n) : x * 0 = 0 := by grind
set_option maxRecDepth 50000 in
theorem neg_two (h : (1 : Fin n) = -1 * (1 * 1)) : (2 : Fin n) = 0 := by grind
set_option maxRecDepth 50000 in
theorem three_two {p q r : Fin n} (h3 : q * p = -1) (h4 : r * r = 1) (h1 : p * r = -1) (h2 : q * r = -1) : (2 : Fin n) = 0 := by
  have h : (q * p) * (r * r) = (p * r) * (q * r) := by
    clear h1 h2 h3 h4
    grind
  rw [h3, h4, h1, h2] at h
  grind
set_option maxRecDepth 50000 in
theorem ph_inj {a b : Nat} (ha : a < n) (hb : b < n) (h : ph n a = ph n b) : a = b := by
  have := congrArg Fin.val h
  rwa [ph_val, ph_val, Nat.mod_eq_of_lt ha, Nat.mod_eq_of_lt hb] at this
end
instance pnz : NeZero NT.PN := ⟨by decide⟩
set_option maxRecDepth 50000 in
theorem pn_pos' : 0 < NT.PN := by decide
/-- Powers to half of what is below the prime. -/
def pwN (h m : Nat) : Nat := m ^ h % NT.PN
set_option maxRecDepth 50000 in
theorem pwN_mul (h a b : Nat) : pwN h (a * b % NT.PN) = pwN h a * pwN h b % NT.PN := by
  unfold pwN
  rw [← Nat.pow_mod, Nat.mul_pow, Nat.mul_mod]
set_option maxRecDepth 50000 in
theorem pwN_sq {h : Nat} (h2 : h + h = NT.PN - 1) {a : Nat} (h0 : 0 < a) (ha : a < NT.PN) : pwN h a * pwN h a % NT.PN = 1 := by
  unfold pwN
  rw [← Nat.mul_mod, ← Nat.pow_add, h2]
  exact NT.fermat a h0 ha
def HF : Nat := (NT.PN - 1) / 2
set_option maxRecDepth 50000 in
theorem hf_two : HF + HF = NT.PN - 1 := by decide
set_option maxRecDepth 50000 in
theorem pwN_is {h a v : Nat} (e : a ^ h % NT.PN = v) : pwN h a = v := e
set_option maxRecDepth 50000 in
theorem k_half : (121665 * 121666) ^ ((NT.PN - 1) / 2) % NT.PN = NT.PN - 1 := NT.pow_is 255 (by decide) (by kernel_rfl)
set_option maxRecDepth 50000 in
theorem hf_eq : HF = (NT.PN - 1) / 2 := rfl
set_option maxRecDepth 50000 in
theorem pw_k : pwN HF (121665 * 121666) = NT.PN - 1 := by
  have h := pwN_is k_half
  rw [← hf_eq] at h
  exact h
set_option maxRecDepth 50000 in
theorem inv_gen {x k : Nat} (hf : x ^ (k + 1) % NT.PN = 1) : x * (x ^ k % NT.PN) % NT.PN = 1 := by
  rw [Nat.mul_mod, Nat.mod_mod, ← Nat.mul_mod, Nat.mul_comm, ← Nat.pow_succ]
  exact hf
set_option maxRecDepth 50000 in
theorem pn_two : NT.PN - 1 = (NT.PN - 2) + 1 := by decide
set_option maxRecDepth 50000 in
theorem fermat_inv {x : Nat} (h0 : 0 < x) (hx : x < NT.PN) : x * (x ^ (NT.PN - 2) % NT.PN) % NT.PN = 1 := by
  have hf := NT.fermat x h0 hx
  rw [pn_two] at hf
  exact inv_gen hf
set_option maxRecDepth 50000 in
theorem ph_one {m : Nat} (h : m % NT.PN = 1) : ph NT.PN m = 1 := by
  rw [← ph_mod, h]
  exact Fin.ext (by rw [ph_val]; rfl)
set_option maxRecDepth 50000 in
theorem fin_pos {x : Fin NT.PN} (hx : x ≠ 0) : 0 < x.val := Nat.pos_of_ne_zero fun e => hx (Fin.ext e)
set_option maxRecDepth 50000 in
theorem pn_fld : Edw.Fld NT.PN where
  inv := fun x hx => by
    have hf := fermat_inv (fin_pos hx) x.isLt
    generalize x.val ^ (NT.PN - 2) % NT.PN = w at hf
    have h1 := ph_one hf
    rw [ph_mul, ph_self] at h1
    exact ⟨_, h1⟩
  two := fun h => by
    have := congrArg Fin.val h
    exact absurd this (by decide)
/-- The power to the half, as a number modulo the prime. -/
def pw (x : Fin NT.PN) : Fin NT.PN := ph NT.PN (pwN HF x.val)
set_option maxRecDepth 50000 in
theorem pw_mul (x y : Fin NT.PN) : pw (x * y) = pw x * pw y := by
  unfold pw
  rw [Fin.val_mul, pwN_mul, ph_mod, ph_mul]
set_option maxRecDepth 50000 in
theorem pw_sq {x : Fin NT.PN} (hx : x ≠ 0) : pw x * pw x = 1 := by
  unfold pw
  rw [← ph_mul]
  exact ph_one (pwN_sq hf_two (fin_pos hx) x.isLt)
set_option maxRecDepth 50000 in
theorem pw_pm {x : Fin NT.PN} (hx : x ≠ 0) : pw x = 1 ∨ pw x = -1 := by
  have h := pw_sq hx
  generalize pw x = z at *
  have h2 : (z - 1) * (z + 1) = 0 := by grind
  rcases pn_fld.dom h2 with h3 | h3
  · exact .inl (by grind)
  · exact .inr (by grind)
def cF : Fin NT.PN := ph NT.PN 121665
set_option maxRecDepth 50000 in
theorem cc_val : (cF * (cF + 1)).val = 121665 * 121666 := by decide
set_option maxRecDepth 50000 in
theorem pw_cc : pw (cF * (cF + 1)) = -1 := by
  unfold pw
  rw [cc_val, pw_k]
  exact Fin.ext (by decide)
set_option maxRecDepth 50000 in
theorem cc_ne : cF * (cF + 1) ≠ 0 := fun h => by
  have := congrArg Fin.val h
  rw [cc_val] at this
  exact absurd this (by decide)
set_option maxRecDepth 50000 in
theorem no_root (a b : Fin NT.PN) (h : a * a = cF * (cF + 1) * (b * b)) : b = 0 := by
  refine Classical.byContradiction fun hb => ?_
  have ha : a ≠ 0 := fun e => by
    rw [e] at h
    have h2 : cF * (cF + 1) * (b * b) = 0 := by rw [← h]; grind
    rcases pn_fld.dom h2 with h3 | h3
    · exact cc_ne h3
    · rcases pn_fld.dom h3 with h4 | h4 <;> exact hb h4
  have h1 : pw (a * a) = pw (cF * (cF + 1) * (b * b)) := by rw [h]
  rw [pw_mul a a, pw_mul (cF * (cF + 1)) (b * b), pw_mul b b, pw_sq ha, pw_sq hb, pw_cc] at h1
  exact pn_fld.two (neg_two h1)
set_option maxRecDepth 50000 in
theorem pw_one_sq {x : Fin NT.PN} (h : pw x = 1) : ∃ t, t * t = x := by
  have h1 : pwN HF x.val = 1 := by
    have h2 := congrArg Fin.val h
    unfold pw at h2
    rw [ph_val] at h2
    have h3 : pwN HF x.val < NT.PN := Nat.mod_lt _ pn_pos'
    rw [Nat.mod_eq_of_lt h3] at h2
    exact h2
  have hs : isSq x.val = true := by
    unfold isSq
    rw [← hf_eq]
    have h2 : x.val ^ HF % NT.PN = 1 := h1
    rw [decide_eq_true h2, Bool.or_true]
  have hx := of_bytes x.val x.isLt
  rw [← ok_sq hx] at hs
  obtain ⟨k, _, hk, _⟩ := root_num hx hs
  refine ⟨ph NT.PN k, ?_⟩
  rw [← ph_mul, ← ph_mod, hk, ph_self]
end Go.Proofs.YtkblmdakejmmhaaDoor

/- The ladder's numbers modulo the prime: two secrets, one after the other, either way round. -/
namespace Go.Proofs.YtkblmdakejmmhaaDoor
open Go Go.RowKit

section
variable {n : Nat} [NeZero n]
end
set_option maxRecDepth 50000 in
theorem ph_nA (a b : Nat) : ph NT.PN (nA a b) = ph NT.PN a + ph NT.PN b := by unfold nA; rw [ph_mod, ph_add]
set_option maxRecDepth 50000 in
theorem ph_nM (a b : Nat) : ph NT.PN (nM a b) = ph NT.PN a * ph NT.PN b := by unfold nM; rw [ph_mod, ph_mul]
set_option maxRecDepth 50000 in
theorem ph_nS {a b : Nat} (hb : b < NT.PN) : ph NT.PN (nS a b) = ph NT.PN a - ph NT.PN b := by unfold nS; rw [ph_mod, ph_sub hb]
set_option maxRecDepth 50000 in
theorem ph_dE {x z : Nat} (hz : z < NT.PN) : ph NT.PN (dE x z) = (ph NT.PN x + ph NT.PN z) * (ph NT.PN x + ph NT.PN z) - (ph NT.PN x - ph NT.PN z) * (ph NT.PN x - ph NT.PN z) := by
  unfold dE
  rw [ph_nS (nM_lt _ _), ph_nM, ph_nM, ph_nA, ph_nS hz]
set_option maxRecDepth 50000 in
theorem ph_dX {x z : Nat} (hz : z < NT.PN) : ph NT.PN (dX x z) = Edw.dx (ph NT.PN x) (ph NT.PN z) := by
  unfold dX Edw.dx
  rw [ph_nM, ph_nM, ph_nM, ph_nA, ph_nS hz]
set_option maxRecDepth 50000 in
theorem ph_dZ {x z : Nat} (hz : z < NT.PN) : ph NT.PN (dZ x z) = Edw.dz (ph NT.PN 121665) (ph NT.PN x) (ph NT.PN z) := by
  unfold dZ Edw.dz
  rw [ph_nM, ph_nA, ph_nM, ph_nM, ph_nA, ph_dE hz]
set_option maxRecDepth 50000 in
theorem ph_sU {a b c d : Nat} (hd : d < NT.PN) : ph NT.PN (sU a b c d) = (ph NT.PN c - ph NT.PN d) * (ph NT.PN a + ph NT.PN b) := by
  unfold sU
  rw [ph_nM, ph_nS hd, ph_nA]
set_option maxRecDepth 50000 in
theorem ph_sV {a b c d : Nat} (hb : b < NT.PN) : ph NT.PN (sV a b c d) = (ph NT.PN c + ph NT.PN d) * (ph NT.PN a - ph NT.PN b) := by
  unfold sV
  rw [ph_nM, ph_nS hb, ph_nA]
set_option maxRecDepth 50000 in
theorem ph_sX {a b c d : Nat} (hb : b < NT.PN) (hd : d < NT.PN) : ph NT.PN (sX a b c d) = Edw.sx (ph NT.PN a) (ph NT.PN b) (ph NT.PN c) (ph NT.PN d) := by
  unfold sX Edw.sx
  rw [ph_nM, ph_nA, ph_sU hd, ph_sV hb]
set_option maxRecDepth 50000 in
theorem ph_sZ {u a b c d : Nat} (hb : b < NT.PN) (hd : d < NT.PN) : ph NT.PN (sZ u a b c d) = Edw.sz (ph NT.PN u) (ph NT.PN a) (ph NT.PN b) (ph NT.PN c) (ph NT.PN d) := by
  unfold sZ Edw.sz
  rw [ph_nM, ph_nM, ph_nS (sV_lt _ _ _ _), ph_sU hd, ph_sV hb]
def cast4 (S : L4) : Edw.S4 NT.PN := ⟨ph NT.PN S.a, ph NT.PN S.b, ph NT.PN S.c, ph NT.PN S.d⟩
def bitsOf (cb : List Int) (k : Nat) : Bool := bitB cb (254 - k)
set_option maxRecDepth 50000 in
theorem lad_lt {u : Nat} (cb : List Int) (hu : u < NT.PN) : ∀ k, (ladN u cb k).a < NT.PN ∧ (ladN u cb k).b < NT.PN ∧ (ladN u cb k).c < NT.PN ∧ (ladN u cb k).d < NT.PN
  | 0 => ⟨by show (1 : Nat) < NT.PN; decide, pn_pos', hu, by show (1 : Nat) < NT.PN; decide⟩
  | k + 1 => by
    have h : ∀ st S, (lstep u st S).a < NT.PN ∧ (lstep u st S).b < NT.PN ∧ (lstep u st S).c < NT.PN ∧ (lstep u st S).d < NT.PN := fun st S => by
      cases st <;> exact ⟨Nat.mod_lt _ pn_pos', Nat.mod_lt _ pn_pos', Nat.mod_lt _ pn_pos', Nat.mod_lt _ pn_pos'⟩
    rw [ladN]; exact h _ _
set_option maxRecDepth 50000 in
theorem step_cast {u : Nat} {S : L4} (hb : S.b < NT.PN) (hd : S.d < NT.PN) (st : Bool) : cast4 (lstep u st S) = Edw.stepF (ph NT.PN 121665) (ph NT.PN u) st (cast4 S) := by
  cases st with
  | true =>
    show (⟨ph NT.PN (sX S.a S.b S.c S.d), ph NT.PN (sZ u S.a S.b S.c S.d), ph NT.PN (dX S.c S.d), ph NT.PN (dZ S.c S.d)⟩ : Edw.S4 NT.PN) = _
    rw [ph_sX hb hd, ph_sZ hb hd, ph_dX hd, ph_dZ hd]
    rfl
  | false =>
    show (⟨ph NT.PN (dX S.a S.b), ph NT.PN (dZ S.a S.b), ph NT.PN (sX S.a S.b S.c S.d), ph NT.PN (sZ u S.a S.b S.c S.d)⟩ : Edw.S4 NT.PN) = _
    rw [ph_sX hb hd, ph_sZ hb hd, ph_dX hb, ph_dZ hb]
    rfl
set_option maxRecDepth 50000 in
theorem lad_cast {u : Nat} (cb : List Int) (hu : u < NT.PN) : ∀ k, cast4 (ladN u cb k) = Edw.ladF (ph NT.PN 121665) (ph NT.PN u) (bitsOf cb) k
  | 0 => rfl
  | k + 1 => by
    have hl := lad_lt cb hu k
    rw [ladN, Edw.ladF, step_cast hl.2.1 hl.2.2.2, lad_cast cb hu k]
    rfl

set_option maxRecDepth 50000 in
theorem one_sq (w : Fin NT.PN) : (∃ t, t * t = (cF + 1) * w) ∨ ∃ t, t * t = cF * w := by
  by_cases hw : w = 0
  · exact .inl ⟨0, by rw [hw, z_mul, mul_z]⟩
  · have hc : cF ≠ 0 := fun e => cc_ne (by rw [e, z_mul])
    have hc1 : cF + 1 ≠ 0 := fun e => cc_ne (by rw [e, mul_z])
    rcases pw_pm (pn_fld.mul hc1 hw) with h1 | h1
    · exact .inl (pw_one_sq h1)
    · rcases pw_pm (pn_fld.mul hc hw) with h2 | h2
      · exact .inr (pw_one_sq h2)
      · exfalso
        have h3 := pw_cc
        have h4 := pw_sq hw
        rw [pw_mul] at h1 h2 h3
        generalize pw (cF + 1) = p at *
        generalize pw cF = q at *
        generalize pw w = r at *
        exact pn_fld.two (three_two h3 h4 h1 h2)
set_option maxRecDepth 50000 in
/-- The quotient as the ladder takes it. -/
theorem out_gen {a b k : Nat} (hk : 0 < k) (hb : b < NT.PN) (hf : b ≠ 0 → b * (b ^ k % NT.PN) % NT.PN = 1) : Edw.Out (ph NT.PN a) (ph NT.PN b) (ph NT.PN (a * (b ^ k % NT.PN) % NT.PN)) := by
  constructor
  · intro e
    have e0 : b = 0 := ph_inj hb pn_pos' e
    rw [e0, Nat.zero_pow hk, Nat.zero_mod, Nat.mul_zero, Nat.zero_mod]; rfl
  · intro e
    have e0 : b ≠ 0 := fun h => e (by rw [h]; rfl)
    have h1 := ph_one (hf e0)
    rw [ph_mul] at h1
    rw [ph_mod, ph_mul]
    generalize ph NT.PN (b ^ k % NT.PN) = w at *
    generalize ph NT.PN b = x at *
    clear hf
    grind
set_option maxRecDepth 50000 in
theorem out_of {S : L4} (hb : S.b < NT.PN) : Edw.Out (ph NT.PN S.a) (ph NT.PN S.b) (ph NT.PN (outN S)) := out_gen (by decide) hb fun h => fermat_inv (Nat.pos_of_ne_zero h) hb
set_option maxRecDepth 50000 in
theorem outN_lt' (S : L4) : outN S < NT.PN := Nat.mod_lt _ pn_pos'
set_option maxRecDepth 50000 in
/-- A secret's number is even. -/
theorem clamp_even {b : List Int} (hl : b.length = 32) (hb : Byt b) : ∃ m, Edw.numF (bitsOf (clampL b)) 255 = m * 2 := by
  refine ⟨Edw.numF (bitsOf (clampL b)) 254, ?_⟩
  have h0 := byt_at hb hl (i := 0) (by omega)
  have hz : bitsOf (clampL b) 254 = false := by
    show (bitAt (clampL b) 0 == 1) = false
    have e : (clampL b).getD 0 0 = b.getD 0 0 / 8 * 8 := by
      unfold clampL
      rw [List.getD_eq_getElem?_getD, List.getElem?_set_ne (by omega), List.getElem?_set_self (by omega)]; rfl
    have e2 : bitAt (clampL b) 0 = 0 := by
      show (clampL b).getD 0 0 / 1 % 2 = 0
      rw [e]; omega
    rw [e2]; rfl
  show Edw.numF (bitsOf (clampL b)) 254 + Edw.numF (bitsOf (clampL b)) 254 + (bitsOf (clampL b) 254).toNat = _
  rw [hz]
  show _ + 0 = _
  omega
set_option maxRecDepth 50000 in
theorem mulN_out {b : List Int} {u : Nat} (hu : u < NT.PN) : Edw.Out (Edw.ladF cF (ph NT.PN u) (bitsOf (clampL b)) 255).a (Edw.ladF cF (ph NT.PN u) (bitsOf (clampL b)) 255).b (ph NT.PN (mulN b u)) := by
  have h := out_of (lad_lt (clampL b) hu 255).2.1
  have e := lad_cast (clampL b) hu 255
  unfold cF
  rw [← e]
  exact h
set_option maxRecDepth 50000 in
theorem mulN_lt (b : List Int) (u : Nat) : mulN b u < NT.PN := outN_lt' _
set_option maxRecDepth 50000 in
/-- Two secrets, one after the other, either way round. -/
theorem mulN_comm {a b : List Int} (la : a.length = 32) (ba : Byt a) (lb : b.length = 32) (bb : Byt b) {u : Nat} (hu : u < NT.PN) : mulN a (mulN b u) = mulN b (mulN a u) := by
  obtain ⟨ma, hA⟩ := clamp_even la ba
  obtain ⟨mb, hB⟩ := clamp_even lb bb
  exact ph_inj (mulN_lt _ _) (mulN_lt _ _) (Edw.commute pn_fld no_root one_sq (ph NT.PN u) (bitsOf (clampL a)) (bitsOf (clampL b)) 255 ma mb hA hB (mulN_out hu) (mulN_out hu) (mulN_out (mulN_lt b u)) (mulN_out (mulN_lt a u)))
end Go.Proofs.YtkblmdakejmmhaaDoor

/- The curve -x^2 + y^2 = 1 + d x^2 y^2 by four coordinates: the sum, the negative, multiples, told by points of Edwards' curve. No program. -/
namespace Go.Proofs.YtkblmdakejmmhaaDoor
open Go.RowKit

structure C4P (n : Nat) where
  x : Fin n
  y : Fin n
  z : Fin n
  t : Fin n
section
variable {n : Nat} [NeZero n]
def addC (d : Fin n) (p q : C4P n) : C4P n :=
  let minus := (p.y - p.x) * (q.y - q.x)
  let plus := (p.y + p.x) * (q.y + q.x)
  let zz := p.z * q.z
  let dtt := d * p.t * q.t
  let x := plus - minus
  let y := plus + minus
  let bx := (zz + dtt) + (zz + dtt)
  let by' := (zz - dtt) + (zz - dtt)
  ⟨x * by', y * bx, bx * by', x * y⟩
def negC (p : C4P n) : C4P n := ⟨0 - p.x, p.y, p.z, 0 - p.t⟩
def atC (x y : Fin n) : C4P n := ⟨x, y, 1, x * y⟩
def noC : C4P n := ⟨0, 0, 0, 0⟩
/-- i times the first coordinate is that of a point of Edwards' curve. -/
structure Rep4 (i : Fin n) (c : C4P n) (P : Edw.Pt n) : Prop where
  nz : c.z ≠ 0
  x : c.x = -(i * P.x * c.z)
  y : c.y = P.y * c.z
  t : c.t = -(i * P.x * P.y * c.z)
set_option maxRecDepth 50000 in
theorem add_alg {i d e p q u v Z W : Fin n} (hi : i * i = -1) (he : d = -e) :
    d * -(i * p * q * Z) * -(i * u * v * W) = Z * W * (e * p * u * q * v) ∧
    (q * Z + -(i * p * Z)) * (v * W + -(i * u * W)) - (q * Z - -(i * p * Z)) * (v * W - -(i * u * W)) = -(i * (p * v + u * q) * (Z * W)) - i * (p * v + u * q) * (Z * W) ∧
    (q * Z + -(i * p * Z)) * (v * W + -(i * u * W)) + (q * Z - -(i * p * Z)) * (v * W - -(i * u * W)) = (q * v - p * u) * (Z * W) + (q * v - p * u) * (Z * W) := by
  refine ⟨?_, ?_, ?_⟩ <;> grind
set_option maxRecDepth 50000 in
theorem two_ne (F : Edw.Fld n) {x : Fin n} (hx : x ≠ 0) : x + x ≠ 0 := fun h => by
  have h2 : (2 : Fin n) * x = 0 := by grind
  rcases F.dom h2 with h3 | h3
  · exact F.two h3
  · exact hx h3
set_option maxRecDepth 50000 in
theorem fin_x {i r s a b A B : Fin n} (ha : r * a = s) : (-(i * s * A) - i * s * A) * (A * b + A * b) = -(i * r * ((A * a + A * a) * (A * b + A * b))) := by grind
set_option maxRecDepth 50000 in
theorem fin_y {r s a b A : Fin n} (hb : r * b = s) : (s * A + s * A) * (A * a + A * a) = r * ((A * a + A * a) * (A * b + A * b)) := by grind
set_option maxRecDepth 50000 in
theorem fin_t {i r r' s s' a b A : Fin n} (ha : r * a = s) (hb : r' * b = s') : (-(i * s * A) - i * s * A) * (s' * A + s' * A) = -(i * r * r' * ((A * a + A * a) * (A * b + A * b))) := by grind
set_option maxRecDepth 50000 in
theorem up1 (Z f : Fin n) : Z + Z * f = Z * (1 + f) := by grind
set_option maxRecDepth 50000 in
theorem up2 (Z f : Fin n) : Z - Z * f = Z * (1 - f) := by grind
set_option maxRecDepth 50000 in
theorem rep_add (F : Edw.Fld n) {i d e : Fin n} (ns : Edw.NS e) (hi : i * i = -1) (he : d = -e) {c c' : C4P n} {P Q : Edw.Pt n} (hP : Edw.On e P) (hQ : Edw.On e Q) (h : Rep4 i c P) (k : Rep4 i c' Q) : Rep4 i (addC d c c') (Edw.add e P Q) := by
  obtain ⟨d1, d2⟩ := Edw.den F ns hP hQ
  have ex := Edw.add_x F ns hP hQ
  have ey := Edw.add_y F ns hP hQ
  have hz := F.mul h.nz k.nz
  obtain ⟨a1, a2, a3⟩ := add_alg (p := P.x) (q := P.y) (u := Q.x) (v := Q.y) (Z := c.z) (W := c'.z) hi he
  have e1 : c.z * c'.z + d * c.t * c'.t = (c.z * c'.z) * (1 + e * P.x * Q.x * P.y * Q.y) := by rw [h.t, k.t, a1, up1]
  have e2 : c.z * c'.z - d * c.t * c'.t = (c.z * c'.z) * (1 - e * P.x * Q.x * P.y * Q.y) := by rw [h.t, k.t, a1, up2]
  have e3 : (c.y + c.x) * (c'.y + c'.x) - (c.y - c.x) * (c'.y - c'.x) = -(i * (P.x * Q.y + Q.x * P.y) * (c.z * c'.z)) - i * (P.x * Q.y + Q.x * P.y) * (c.z * c'.z) := by rw [h.x, h.y, k.x, k.y]; exact a2
  have e4 : (c.y + c.x) * (c'.y + c'.x) + (c.y - c.x) * (c'.y - c'.x) = (P.y * Q.y - P.x * Q.x) * (c.z * c'.z) + (P.y * Q.y - P.x * Q.x) * (c.z * c'.z) := by rw [h.x, h.y, k.x, k.y]; exact a3
  constructor
  · show ((c.z * c'.z + d * c.t * c'.t) + (c.z * c'.z + d * c.t * c'.t)) * ((c.z * c'.z - d * c.t * c'.t) + (c.z * c'.z - d * c.t * c'.t)) ≠ 0
    rw [e1, e2]
    exact F.mul (two_ne F (F.mul hz d1)) (two_ne F (F.mul hz d2))
  · show ((c.y + c.x) * (c'.y + c'.x) - (c.y - c.x) * (c'.y - c'.x)) * ((c.z * c'.z - d * c.t * c'.t) + (c.z * c'.z - d * c.t * c'.t)) = -(i * (Edw.add e P Q).x * (((c.z * c'.z + d * c.t * c'.t) + (c.z * c'.z + d * c.t * c'.t)) * ((c.z * c'.z - d * c.t * c'.t) + (c.z * c'.z - d * c.t * c'.t))))
    rw [e1, e2, e3]
    exact fin_x (B := 0) ex
  · show ((c.y + c.x) * (c'.y + c'.x) + (c.y - c.x) * (c'.y - c'.x)) * ((c.z * c'.z + d * c.t * c'.t) + (c.z * c'.z + d * c.t * c'.t)) = (Edw.add e P Q).y * (((c.z * c'.z + d * c.t * c'.t) + (c.z * c'.z + d * c.t * c'.t)) * ((c.z * c'.z - d * c.t * c'.t) + (c.z * c'.z - d * c.t * c'.t)))
    rw [e1, e2, e4]
    exact fin_y ey
  · show ((c.y + c.x) * (c'.y + c'.x) - (c.y - c.x) * (c'.y - c'.x)) * ((c.y + c.x) * (c'.y + c'.x) + (c.y - c.x) * (c'.y - c'.x)) = -(i * (Edw.add e P Q).x * (Edw.add e P Q).y * (((c.z * c'.z + d * c.t * c'.t) + (c.z * c'.z + d * c.t * c'.t)) * ((c.z * c'.z - d * c.t * c'.t) + (c.z * c'.z - d * c.t * c'.t))))
    rw [e1, e2, e3, e4]
    exact fin_t ex ey
set_option maxRecDepth 50000 in
theorem at_alg (i x y : Fin n) (hi : i * i = -1) : x = -(i * (i * x) * 1) ∧ y = y * 1 ∧ x * y = -(i * (i * x) * y * 1) := by
  refine ⟨?_, ?_, ?_⟩ <;> grind
set_option maxRecDepth 50000 in
theorem rep_at (F : Edw.Fld n) {i : Fin n} (hi : i * i = -1) (x y : Fin n) : Rep4 i (atC x y) ⟨i * x, y⟩ := by
  obtain ⟨a, b, c⟩ := at_alg i x y hi
  exact ⟨F.one, a, b, c⟩
set_option maxRecDepth 50000 in
theorem rep_nought (F : Edw.Fld n) {i : Fin n} (hi : i * i = -1) : Rep4 i (atC 0 1) Edw.O := by
  have h := rep_at F hi 0 1
  have e : (⟨i * 0, 1⟩ : Edw.Pt n) = Edw.O := by rw [mul_z]; rfl
  rwa [e] at h
/-- As the document has it: numerators by one denominator. -/
structure C3 (n : Nat) where
  x : Fin n
  y : Fin n
  z : Fin n
structure Rep3 (i : Fin n) (c : C3 n) (P : Edw.Pt n) : Prop where
  nz : c.z ≠ 0
  x : c.x = -(i * P.x * c.z)
  y : c.y = P.y * c.z
def add3 (d : Fin n) (p q : C3 n) : C3 n :=
  let a := p.z * q.z
  let b := a * a
  let c := p.x * q.x
  let e := p.y * q.y
  let f := d * (c * e)
  let less := b - f
  let more := b + f
  let cross := (p.x + p.y) * (q.x + q.y) - c - e
  ⟨a * (less * cross), a * (more * (e + c)), less * more⟩
end
end Go.Proofs.YtkblmdakejmmhaaDoor

/- Numbers of bytes, of digits, of words. No program is named. -/
namespace Go.Proofs.YtkblmdakejmmhaaDoor
open Go.RowKit

/-- The order. -/
def QNS : Nat := 7237005577332262213973186563042994240857116359379907606001950938285454250989
/-- The number of bytes, the lowest first. -/
def bnS (l : List Int) : Nat := (bv l).toNat
/-- Bytes, two by two. -/
def prS : List Int → List Int
  | [] => []
  | [a] => [a]
  | a :: b :: r => (a + 256 * b) :: prS r
end Go.Proofs.YtkblmdakejmmhaaDoor
