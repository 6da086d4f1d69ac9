/- Texts of this proof, laid together: Meets, LMeets. -/
import Derived.Test.YtoncinbohfmciaaEdw
import Derived.Test.YtoncinbohfmciaaG1
import Derived.Test.YtoncinbohfmciaaRootMath
import Derived.Test.YtoncinbohfmciaaG2
/- The ladder's numbers modulo the prime: two secrets, one after the other, either way round. -/
namespace Go.Proofs.Ytoncinbohfmciaa
open Go Go.RowKit

/-- A number modulo n. -/
def ph (n : Nat) [NeZero n] (m : Nat) : Fin n := Fin.ofNat n m
section
variable {n : Nat} [NeZero n]
theorem ph_val (m : Nat) : (ph n m).val = m % n := rfl
theorem ph_self (x : Fin n) : ph n x.val = x := Fin.ext (by rw [ph_val]; exact Nat.mod_eq_of_lt x.isLt)
theorem ph_mod (m : Nat) : ph n (m % n) = ph n m := Fin.ext (by rw [ph_val, ph_val, Nat.mod_mod])
theorem ph_add (a b : Nat) : ph n (a + b) = ph n a + ph n b := Fin.ext (by rw [ph_val, Fin.val_add, ph_val, ph_val, ← Nat.add_mod])
theorem ph_mul (a b : Nat) : ph n (a * b) = ph n a * ph n b := Fin.ext (by rw [ph_val, Fin.val_mul, ph_val, ph_val, ← Nat.mul_mod])
theorem ph_zero : ph n 0 = 0 := rfl
theorem ph_sub {a b : Nat} (hb : b < n) : ph n (a + n - b) = ph n a - ph n b := by
  have h : ph n (a + n - b) + ph n b = ph n a := by
    rw [← ph_add]
    refine Fin.ext ?_
    rw [ph_val, ph_val, show a + n - b + b = a + n by omega, Nat.add_mod_right]
  rw [← h]
  grind
theorem z_mul (x : Fin n) : 0 * x = 0 := by grind
theorem mul_z (x : Fin n) : x * 0 = 0 := by grind
theorem neg_two (h : (1 : Fin n) = -1 * (1 * 1)) : (2 : Fin n) = 0 := by grind
theorem three_two {p q r : Fin n} (h3 : q * p = -1) (h4 : r * r = 1) (h1 : p * r = -1) (h2 : q * r = -1) : (2 : Fin n) = 0 := by
  have h : (q * p) * (r * r) = (p * r) * (q * r) := by
    clear h1 h2 h3 h4
    grind
  rw [h3, h4, h1, h2] at h
  grind
theorem ph_inj {a b : Nat} (ha : a < n) (hb : b < n) (h : ph n a = ph n b) : a = b := by
  have := congrArg Fin.val h
  rwa [ph_val, ph_val, Nat.mod_eq_of_lt ha, Nat.mod_eq_of_lt hb] at this
end
instance pnz : NeZero NT.PN := ⟨by decide⟩
theorem ph_nA (a b : Nat) : ph NT.PN (nA a b) = ph NT.PN a + ph NT.PN b := by unfold nA; rw [ph_mod, ph_add]
theorem ph_nM (a b : Nat) : ph NT.PN (nM a b) = ph NT.PN a * ph NT.PN b := by unfold nM; rw [ph_mod, ph_mul]
theorem ph_nS {a b : Nat} (hb : b < NT.PN) : ph NT.PN (nS a b) = ph NT.PN a - ph NT.PN b := by unfold nS; rw [ph_mod, ph_sub hb]
theorem ph_dE {x z : Nat} (hz : z < NT.PN) : ph NT.PN (dE x z) = (ph NT.PN x + ph NT.PN z) * (ph NT.PN x + ph NT.PN z) - (ph NT.PN x - ph NT.PN z) * (ph NT.PN x - ph NT.PN z) := by
  unfold dE
  rw [ph_nS (nM_lt _ _), ph_nM, ph_nM, ph_nA, ph_nS hz]
theorem ph_dX {x z : Nat} (hz : z < NT.PN) : ph NT.PN (dX x z) = Edw.dx (ph NT.PN x) (ph NT.PN z) := by
  unfold dX Edw.dx
  rw [ph_nM, ph_nM, ph_nM, ph_nA, ph_nS hz]
theorem ph_dZ {x z : Nat} (hz : z < NT.PN) : ph NT.PN (dZ x z) = Edw.dz (ph NT.PN 121665) (ph NT.PN x) (ph NT.PN z) := by
  unfold dZ Edw.dz
  rw [ph_nM, ph_nA, ph_nM, ph_nM, ph_nA, ph_dE hz]
theorem ph_sU {a b c d : Nat} (hd : d < NT.PN) : ph NT.PN (sU a b c d) = (ph NT.PN c - ph NT.PN d) * (ph NT.PN a + ph NT.PN b) := by
  unfold sU
  rw [ph_nM, ph_nS hd, ph_nA]
theorem ph_sV {a b c d : Nat} (hb : b < NT.PN) : ph NT.PN (sV a b c d) = (ph NT.PN c + ph NT.PN d) * (ph NT.PN a - ph NT.PN b) := by
  unfold sV
  rw [ph_nM, ph_nS hb, ph_nA]
theorem ph_sX {a b c d : Nat} (hb : b < NT.PN) (hd : d < NT.PN) : ph NT.PN (sX a b c d) = Edw.sx (ph NT.PN a) (ph NT.PN b) (ph NT.PN c) (ph NT.PN d) := by
  unfold sX Edw.sx
  rw [ph_nM, ph_nA, ph_sU hd, ph_sV hb]
theorem ph_sZ {u a b c d : Nat} (hb : b < NT.PN) (hd : d < NT.PN) : ph NT.PN (sZ u a b c d) = Edw.sz (ph NT.PN u) (ph NT.PN a) (ph NT.PN b) (ph NT.PN c) (ph NT.PN d) := by
  unfold sZ Edw.sz
  rw [ph_nM, ph_nM, ph_nS (sV_lt _ _ _ _), ph_sU hd, ph_sV hb]
def cast4 (S : L4) : Edw.S4 NT.PN := ⟨ph NT.PN S.a, ph NT.PN S.b, ph NT.PN S.c, ph NT.PN S.d⟩
def bitsOf (cb : List Int) (k : Nat) : Bool := bitB cb (254 - k)
theorem pn_pos' : 0 < NT.PN := by decide
theorem lad_lt {u : Nat} (cb : List Int) (hu : u < NT.PN) : ∀ k, (ladN u cb k).a < NT.PN ∧ (ladN u cb k).b < NT.PN ∧ (ladN u cb k).c < NT.PN ∧ (ladN u cb k).d < NT.PN
  | 0 => ⟨by show (1 : Nat) < NT.PN; decide, pn_pos', hu, by show (1 : Nat) < NT.PN; decide⟩
  | k + 1 => by
    have h : ∀ st S, (lstep u st S).a < NT.PN ∧ (lstep u st S).b < NT.PN ∧ (lstep u st S).c < NT.PN ∧ (lstep u st S).d < NT.PN := fun st S => by
      cases st <;> exact ⟨Nat.mod_lt _ pn_pos', Nat.mod_lt _ pn_pos', Nat.mod_lt _ pn_pos', Nat.mod_lt _ pn_pos'⟩
    rw [ladN]; exact h _ _
theorem step_cast {u : Nat} {S : L4} (hb : S.b < NT.PN) (hd : S.d < NT.PN) (st : Bool) : cast4 (lstep u st S) = Edw.stepF (ph NT.PN 121665) (ph NT.PN u) st (cast4 S) := by
  cases st with
  | true =>
    show (⟨ph NT.PN (sX S.a S.b S.c S.d), ph NT.PN (sZ u S.a S.b S.c S.d), ph NT.PN (dX S.c S.d), ph NT.PN (dZ S.c S.d)⟩ : Edw.S4 NT.PN) = _
    rw [ph_sX hb hd, ph_sZ hb hd, ph_dX hd, ph_dZ hd]
    rfl
  | false =>
    show (⟨ph NT.PN (dX S.a S.b), ph NT.PN (dZ S.a S.b), ph NT.PN (sX S.a S.b S.c S.d), ph NT.PN (sZ u S.a S.b S.c S.d)⟩ : Edw.S4 NT.PN) = _
    rw [ph_sX hb hd, ph_sZ hb hd, ph_dX hb, ph_dZ hb]
    rfl
theorem lad_cast {u : Nat} (cb : List Int) (hu : u < NT.PN) : ∀ k, cast4 (ladN u cb k) = Edw.ladF (ph NT.PN 121665) (ph NT.PN u) (bitsOf cb) k
  | 0 => rfl
  | k + 1 => by
    have hl := lad_lt cb hu k
    rw [ladN, Edw.ladF, step_cast hl.2.1 hl.2.2.2, lad_cast cb hu k]
    rfl

/-- Powers to half of what is below the prime. -/
def pwN (h m : Nat) : Nat := m ^ h % NT.PN
theorem pwN_mul (h a b : Nat) : pwN h (a * b % NT.PN) = pwN h a * pwN h b % NT.PN := by
  unfold pwN
  rw [← Nat.pow_mod, Nat.mul_pow, Nat.mul_mod]
theorem pwN_sq {h : Nat} (h2 : h + h = NT.PN - 1) {a : Nat} (h0 : 0 < a) (ha : a < NT.PN) : pwN h a * pwN h a % NT.PN = 1 := by
  unfold pwN
  rw [← Nat.mul_mod, ← Nat.pow_add, h2]
  exact NT.fermat a h0 ha
def HF : Nat := (NT.PN - 1) / 2
theorem hf_two : HF + HF = NT.PN - 1 := by decide
theorem pwN_is {h a v : Nat} (e : a ^ h % NT.PN = v) : pwN h a = v := e
theorem k_half : (121665 * 121666) ^ ((NT.PN - 1) / 2) % NT.PN = NT.PN - 1 := NT.pow_is 255 (by decide) (by kernel_rfl)
theorem hf_eq : HF = (NT.PN - 1) / 2 := rfl
theorem pw_k : pwN HF (121665 * 121666) = NT.PN - 1 := by
  have h := pwN_is k_half
  rw [← hf_eq] at h
  exact h
theorem inv_gen {x k : Nat} (hf : x ^ (k + 1) % NT.PN = 1) : x * (x ^ k % NT.PN) % NT.PN = 1 := by
  rw [Nat.mul_mod, Nat.mod_mod, ← Nat.mul_mod, Nat.mul_comm, ← Nat.pow_succ]
  exact hf
theorem pn_two : NT.PN - 1 = (NT.PN - 2) + 1 := by decide
theorem fermat_inv {x : Nat} (h0 : 0 < x) (hx : x < NT.PN) : x * (x ^ (NT.PN - 2) % NT.PN) % NT.PN = 1 := by
  have hf := NT.fermat x h0 hx
  rw [pn_two] at hf
  exact inv_gen hf
theorem ph_one {m : Nat} (h : m % NT.PN = 1) : ph NT.PN m = 1 := by
  rw [← ph_mod, h]
  exact Fin.ext (by rw [ph_val]; rfl)
theorem fin_pos {x : Fin NT.PN} (hx : x ≠ 0) : 0 < x.val := Nat.pos_of_ne_zero fun e => hx (Fin.ext e)
theorem pn_fld : Edw.Fld NT.PN where
  inv := fun x hx => by
    have hf := fermat_inv (fin_pos hx) x.isLt
    generalize x.val ^ (NT.PN - 2) % NT.PN = w at hf
    have h1 := ph_one hf
    rw [ph_mul, ph_self] at h1
    exact ⟨_, h1⟩
  two := fun h => by
    have := congrArg Fin.val h
    exact absurd this (by decide)
/-- The power to the half, as a number modulo the prime. -/
def pw (x : Fin NT.PN) : Fin NT.PN := ph NT.PN (pwN HF x.val)
theorem pw_mul (x y : Fin NT.PN) : pw (x * y) = pw x * pw y := by
  unfold pw
  rw [Fin.val_mul, pwN_mul, ph_mod, ph_mul]
theorem pw_sq {x : Fin NT.PN} (hx : x ≠ 0) : pw x * pw x = 1 := by
  unfold pw
  rw [← ph_mul]
  exact ph_one (pwN_sq hf_two (fin_pos hx) x.isLt)
theorem pw_pm {x : Fin NT.PN} (hx : x ≠ 0) : pw x = 1 ∨ pw x = -1 := by
  have h := pw_sq hx
  generalize pw x = z at *
  have h2 : (z - 1) * (z + 1) = 0 := by grind
  rcases pn_fld.dom h2 with h3 | h3
  · exact .inl (by grind)
  · exact .inr (by grind)
def cF : Fin NT.PN := ph NT.PN 121665
theorem cc_val : (cF * (cF + 1)).val = 121665 * 121666 := by decide
theorem pw_cc : pw (cF * (cF + 1)) = -1 := by
  unfold pw
  rw [cc_val, pw_k]
  exact Fin.ext (by decide)
theorem cc_ne : cF * (cF + 1) ≠ 0 := fun h => by
  have := congrArg Fin.val h
  rw [cc_val] at this
  exact absurd this (by decide)
theorem no_root (a b : Fin NT.PN) (h : a * a = cF * (cF + 1) * (b * b)) : b = 0 := by
  refine Classical.byContradiction fun hb => ?_
  have ha : a ≠ 0 := fun e => by
    rw [e] at h
    have h2 : cF * (cF + 1) * (b * b) = 0 := by rw [← h]; grind
    rcases pn_fld.dom h2 with h3 | h3
    · exact cc_ne h3
    · rcases pn_fld.dom h3 with h4 | h4 <;> exact hb h4
  have h1 : pw (a * a) = pw (cF * (cF + 1) * (b * b)) := by rw [h]
  rw [pw_mul a a, pw_mul (cF * (cF + 1)) (b * b), pw_mul b b, pw_sq ha, pw_sq hb, pw_cc] at h1
  exact pn_fld.two (neg_two h1)
theorem pw_one_sq {x : Fin NT.PN} (h : pw x = 1) : ∃ t, t * t = x := by
  have h1 : pwN HF x.val = 1 := by
    have h2 := congrArg Fin.val h
    unfold pw at h2
    rw [ph_val] at h2
    have h3 : pwN HF x.val < NT.PN := Nat.mod_lt _ pn_pos'
    rw [Nat.mod_eq_of_lt h3] at h2
    exact h2
  have hs : isSq x.val = true := by
    unfold isSq
    rw [← hf_eq]
    have h2 : x.val ^ HF % NT.PN = 1 := h1
    rw [decide_eq_true h2, Bool.or_true]
  have hx := of_bytes x.val x.isLt
  rw [← ok_sq hx] at hs
  obtain ⟨k, _, hk, _⟩ := root_num hx hs
  refine ⟨ph NT.PN k, ?_⟩
  rw [← ph_mul, ← ph_mod, hk, ph_self]
theorem one_sq (w : Fin NT.PN) : (∃ t, t * t = (cF + 1) * w) ∨ ∃ t, t * t = cF * w := by
  by_cases hw : w = 0
  · exact .inl ⟨0, by rw [hw, z_mul, mul_z]⟩
  · have hc : cF ≠ 0 := fun e => cc_ne (by rw [e, z_mul])
    have hc1 : cF + 1 ≠ 0 := fun e => cc_ne (by rw [e, mul_z])
    rcases pw_pm (pn_fld.mul hc1 hw) with h1 | h1
    · exact .inl (pw_one_sq h1)
    · rcases pw_pm (pn_fld.mul hc hw) with h2 | h2
      · exact .inr (pw_one_sq h2)
      · exfalso
        have h3 := pw_cc
        have h4 := pw_sq hw
        rw [pw_mul] at h1 h2 h3
        generalize pw (cF + 1) = p at *
        generalize pw cF = q at *
        generalize pw w = r at *
        exact pn_fld.two (three_two h3 h4 h1 h2)
/-- The quotient as the ladder takes it. -/
theorem out_gen {a b k : Nat} (hk : 0 < k) (hb : b < NT.PN) (hf : b ≠ 0 → b * (b ^ k % NT.PN) % NT.PN = 1) : Edw.Out (ph NT.PN a) (ph NT.PN b) (ph NT.PN (a * (b ^ k % NT.PN) % NT.PN)) := by
  constructor
  · intro e
    have e0 : b = 0 := ph_inj hb pn_pos' e
    rw [e0, Nat.zero_pow hk, Nat.zero_mod, Nat.mul_zero, Nat.zero_mod]; rfl
  · intro e
    have e0 : b ≠ 0 := fun h => e (by rw [h]; rfl)
    have h1 := ph_one (hf e0)
    rw [ph_mul] at h1
    rw [ph_mod, ph_mul]
    generalize ph NT.PN (b ^ k % NT.PN) = w at *
    generalize ph NT.PN b = x at *
    clear hf
    grind
theorem out_of {S : L4} (hb : S.b < NT.PN) : Edw.Out (ph NT.PN S.a) (ph NT.PN S.b) (ph NT.PN (outN S)) := out_gen (by decide) hb fun h => fermat_inv (Nat.pos_of_ne_zero h) hb
theorem outN_lt' (S : L4) : outN S < NT.PN := Nat.mod_lt _ pn_pos'
/-- A secret's number is even. -/
theorem clamp_even {b : List Int} (hl : b.length = 32) (hb : Byt b) : ∃ m, Edw.numF (bitsOf (clampL b)) 255 = m * 2 := by
  refine ⟨Edw.numF (bitsOf (clampL b)) 254, ?_⟩
  have h0 := byt_at hb hl (i := 0) (by omega)
  have hz : bitsOf (clampL b) 254 = false := by
    show (bitAt (clampL b) 0 == 1) = false
    have e : (clampL b).getD 0 0 = b.getD 0 0 / 8 * 8 := by
      unfold clampL
      rw [List.getD_eq_getElem?_getD, List.getElem?_set_ne (by omega), List.getElem?_set_self (by omega)]; rfl
    have e2 : bitAt (clampL b) 0 = 0 := by
      show (clampL b).getD 0 0 / 1 % 2 = 0
      rw [e]; omega
    rw [e2]; rfl
  show Edw.numF (bitsOf (clampL b)) 254 + Edw.numF (bitsOf (clampL b)) 254 + (bitsOf (clampL b) 254).toNat = _
  rw [hz]
  show _ + 0 = _
  omega
theorem mulN_out {b : List Int} {u : Nat} (hu : u < NT.PN) : Edw.Out (Edw.ladF cF (ph NT.PN u) (bitsOf (clampL b)) 255).a (Edw.ladF cF (ph NT.PN u) (bitsOf (clampL b)) 255).b (ph NT.PN (mulN b u)) := by
  have h := out_of (lad_lt (clampL b) hu 255).2.1
  have e := lad_cast (clampL b) hu 255
  unfold cF
  rw [← e]
  exact h
theorem mulN_lt (b : List Int) (u : Nat) : mulN b u < NT.PN := outN_lt' _
/-- Two secrets, one after the other, either way round. -/
theorem mulN_comm {a b : List Int} (la : a.length = 32) (ba : Byt a) (lb : b.length = 32) (bb : Byt b) {u : Nat} (hu : u < NT.PN) : mulN a (mulN b u) = mulN b (mulN a u) := by
  obtain ⟨ma, hA⟩ := clamp_even la ba
  obtain ⟨mb, hB⟩ := clamp_even lb bb
  exact ph_inj (mulN_lt _ _) (mulN_lt _ _) (Edw.commute pn_fld no_root one_sq (ph NT.PN u) (bitsOf (clampL a)) (bitsOf (clampL b)) 255 ma mb hA hB (mulN_out hu) (mulN_out hu) (mulN_out (mulN_lt b u)) (mulN_out (mulN_lt a u)))
end Go.Proofs.Ytoncinbohfmciaa

/- Two come to the same: the walk. -/
namespace Go.Proofs.Ytoncinbohfmciaa
open Go Go.RowKit

section
variable {ops : Array Oper} {md : Region.Mode} {W : World} {a0 : Act} {n : Nat} {al : Nat → Bool} {S : Nat → Value → World → Prop} {Q : Exit → Act → World → Prop} {i : Nat} {o : Oper}
theorem step_eqE2 (hal : al i = false) (hg : GuardOn ops md n S i o) {x y : Operand} {a : Int} (ho : o.op = .binOp .eql 25 x y 25) (hS : S i = Is (.bool true)) (hx : Knows ops md W a0 n S i x (.int .i64 a)) (hy : Knows ops md W a0 n S i y (.int .i64 a)) : StepOk Try.prog ops md W a0 n al S Q i o :=
  step_run hal hg fun a' w hw hf hd => ⟨.bool true, by
    have h1 := hx a' w hw hf hd
    have h2 := hy a' w hw hf hd
    revert h1 h2
    generalize a'.eval = ev
    intro h1 h2
    unfold execOp
    simp only [ho, h1, h2]
    go_simp, by rw [hS]; exact rfl⟩
theorem free_snd (hg : o.guard = none) {x : Operand} {u v : Value} (ho : o.op = .extract x 1) (hS : S i = Is v) (hx : Knows ops md W a0 n S i x (.tuple #[u, v])) : Free Try.prog ops md W a0 n S i o :=
  ⟨hg, fun a w hw hf hd => ⟨v, by
    have h := hx a w hw hf hd
    revert h
    generalize a.eval = ev
    intro h
    unfold execOp
    simp only [ho, h]
    go_simp, fun _ => by rw [hS]; exact rfl⟩⟩
end
set_option maxRecDepth 4000 in
set_option maxHeartbeats 4000000 in
theorem meets_core (W : World) {sa sb pt ca pa pb m q1 q2 q : List Int} {er : Int} (lsa : sa.length = 32) (lsb : sb.length = 32) (lpt : pt.length = 32) (lpa : pa.length = 32) (lm : m.length = 32) (lq : q.length = 32)
    (kpa : CallsTo 11 #[.agg (ints .u8 sa).toArray] (.agg (ints .u8 pa).toArray)) (kmb : CallsTo 8 #[.agg (ints .u8 sa).toArray, .agg (ints .u8 baseL).toArray] (.agg (ints .u8 pa).toArray)) (kclamp : CallsTo 9 #[.agg (ints .u8 sa).toArray] (.agg (ints .u8 ca).toArray)) (kpca : CallsTo 11 #[.agg (ints .u8 ca).toArray] (.agg (ints .u8 pa).toArray)) (kpb : CallsTo 11 #[.agg (ints .u8 sb).toArray] (.agg (ints .u8 pb).toArray))
    (ksa : CallsTo 7 #[.agg (ints .u8 sa).toArray, .agg (ints .u8 pb).toArray] (.tuple #[.agg (ints .u8 m).toArray, .int .i64 er])) (ksb : CallsTo 7 #[.agg (ints .u8 sb).toArray, .agg (ints .u8 pa).toArray] (.tuple #[.agg (ints .u8 m).toArray, .int .i64 er]))
    (kx1 : CallsTo 8 #[.agg (ints .u8 sb).toArray, .agg (ints .u8 pt).toArray] (.agg (ints .u8 q1).toArray)) (kx2 : CallsTo 8 #[.agg (ints .u8 sa).toArray, .agg (ints .u8 q1).toArray] (.agg (ints .u8 q).toArray)) (kx3 : CallsTo 8 #[.agg (ints .u8 sa).toArray, .agg (ints .u8 pt).toArray] (.agg (ints .u8 q2).toArray)) (kx4 : CallsTo 8 #[.agg (ints .u8 sb).toArray, .agg (ints .u8 q2).toArray] (.agg (ints .u8 q).toArray)) :
    Calls Try.prog 4 #[.agg (ints .u8 sa).toArray, .agg (ints .u8 sb).toArray, .agg (ints .u8 pt).toArray] W fun e w' => e = .returned (.bool true) ∧ Below W.heap.size W w' := by
  have hS3 := ((By.new W sa lsa).next (below_new _ (.cells (ints .u8 sb).toArray 22))).next (below_new _ (.cells (ints .u8 pt).toArray 22))
  have hS4 := (By.new (W.alloc (.cells (ints .u8 sa).toArray 22)) sb lsb).next (below_new _ (.cells (ints .u8 pt).toArray 22))
  have hS5 := By.new ((W.alloc (.cells (ints .u8 sa).toArray 22)).alloc (.cells (ints .u8 sb).toArray 22)) pt lpt
  have hW := ((below_new W (.cells (ints .u8 sa).toArray 22)).alloc (by simp) (.cells (ints .u8 sb).toArray 22)).alloc (by simp; omega) (.cells (ints .u8 pt).toArray 22)
  simp only [World.size_alloc] at hS4 hS5
  go_enter Try.func4, Try.ntmps4
  go_wp2_with (fail)
  generalize ((W.alloc (.cells (ints .u8 sa).toArray 22)).alloc (.cells (ints .u8 sb).toArray 22)).alloc (.cells (ints .u8 pt).toArray 22) = wa at *
  refine (awake_any _).mono ?_
  rintro e w0 ⟨rfl, hb1⟩
  replace hS3 := hS3.next hb1
  replace hS4 := hS4.next hb1
  replace hS5 := hS5.next hb1
  replace hW := hW.trans (hb1.mono hW.size)
  clear hb1
  go_wp2_with (fail)
  have s0 := hW.size
  refine region_spec2 13 62 (fun _ => false) [Is (.agg (ints .u8 sa).toArray), Is (.agg (ints .u8 pa).toArray), Is (.agg (ints .u8 sa).toArray), Is (.agg (ints .u8 baseL).toArray), Is (.agg (ints .u8 pa).toArray), Is (.bool false), Is (.bool false), Is (.agg (ints .u8 sa).toArray), Is (.agg (ints .u8 pa).toArray), Is (.agg (ints .u8 sa).toArray), Is (.agg (ints .u8 ca).toArray), Is (.agg (ints .u8 pa).toArray), Is (.bool false)] [13, 14, 15, 16, 17, 18, 19, 20, 21, 22, 23, 24, 25] (by kernel_rfl) (by kernel_rfl) (by kernel_rfl) (Nat.le_of_eq rfl) (grows_cons (Is.grows _) (grows_cons (Is.grows _) (grows_cons (Is.grows _) (grows_cons (Is.grows _) (grows_cons (Is.grows _) (grows_cons (Is.grows _) (grows_cons (Is.grows _) (grows_cons (Is.grows _) (grows_cons (Is.grows _) (grows_cons (Is.grows _) (grows_cons (Is.grows _) (grows_cons (Is.grows _) (grows_cons (Is.grows _) grows_nil)))))))))))))
    ⟨step_by rfl (.inl rfl) hS3 3 rfl (by kernel_rfl) rfl rfl,
     step_to rfl (.inl rfl) rfl cf11p kpa rfl (one_arg (knows_in 0 13 (by decide) (by kernel_rfl) rfl rfl)),
     step_by rfl (.inl rfl) hS3 3 rfl (by kernel_rfl) rfl rfl,
     step_to0 rfl (.inl rfl) rfl cf12b c_base rfl,
     step_to rfl (.inl rfl) rfl cf8 kmb rfl (two_args (knows_in 2 15 (by decide) (by kernel_rfl) rfl rfl) (knows_in 3 16 (by decide) (by kernel_rfl) rfl rfl)),
     step_nes rfl (.inl rfl) rfl lpa rfl (knows_in 1 14 (by decide) (by kernel_rfl) rfl rfl) (knows_in 4 17 (by decide) (by kernel_rfl) rfl rfl),
     step_mv rfl (.inl rfl) rfl rfl (knows_in 5 18 (by decide) (by kernel_rfl) rfl rfl),
     step_by rfl (.inr ⟨6, false, 19, rfl, by decide, by kernel_rfl, rfl, fun _ _ h => h⟩) hS3 3 rfl (by kernel_rfl) rfl rfl,
     step_to rfl (.inr ⟨6, false, 19, rfl, by decide, by kernel_rfl, rfl, fun _ _ h => h⟩) rfl cf11p kpa rfl (one_arg (knows_in 7 20 (by decide) (by kernel_rfl) rfl rfl)),
     step_by rfl (.inr ⟨6, false, 19, rfl, by decide, by kernel_rfl, rfl, fun _ _ h => h⟩) hS3 3 rfl (by kernel_rfl) rfl rfl,
     step_to rfl (.inr ⟨6, false, 19, rfl, by decide, by kernel_rfl, rfl, fun _ _ h => h⟩) rfl cf9c kclamp rfl (one_arg (knows_in 9 22 (by decide) (by kernel_rfl) rfl rfl)),
     step_to rfl (.inr ⟨6, false, 19, rfl, by decide, by kernel_rfl, rfl, fun _ _ h => h⟩) rfl cf11p kpca rfl (one_arg (knows_in 10 23 (by decide) (by kernel_rfl) rfl rfl)),
     step_nes rfl (.inr ⟨6, false, 19, rfl, by decide, by kernel_rfl, rfl, fun _ _ h => h⟩) rfl lpa rfl (knows_in 8 21 (by decide) (by kernel_rfl) rfl rfl) (knows_in 11 24 (by decide) (by kernel_rfl) rfl rfl), trivial⟩ ?_
  intro val w1 hw hS hap hla
  have e13 : val 13 = (.agg (ints .u8 sa).toArray) := hS 0 13 (by decide) rfl
  have e14 : val 14 = (.agg (ints .u8 pa).toArray) := hS 1 14 (by decide) rfl
  have e15 : val 15 = (.agg (ints .u8 sa).toArray) := hS 2 15 (by decide) rfl
  have e16 : val 16 = (.agg (ints .u8 baseL).toArray) := hS 3 16 (by decide) rfl
  have e17 : val 17 = (.agg (ints .u8 pa).toArray) := hS 4 17 (by decide) rfl
  have e18 : val 18 = (.bool false) := hS 5 18 (by decide) rfl
  have e19 : val 19 = (.bool false) := hS 6 19 (by decide) rfl
  have e20 : val 20 = (.agg (ints .u8 sa).toArray) := hS 7 20 (by decide) rfl
  have e21 : val 21 = (.agg (ints .u8 pa).toArray) := hS 8 21 (by decide) rfl
  have e22 : val 22 = (.agg (ints .u8 sa).toArray) := hS 9 22 (by decide) rfl
  have e23 : val 23 = (.agg (ints .u8 ca).toArray) := hS 10 23 (by decide) rfl
  have e24 : val 24 = (.agg (ints .u8 pa).toArray) := hS 11 24 (by decide) rfl
  have e25 : val 25 = (.bool false) := hS 12 25 (by decide) rfl
  simp only [putVals, List.foldl_cons, List.foldl_nil, List.drop_succ_cons, List.drop_zero, Act.put, List.setIfInBounds_toArray, List.set_cons_succ, List.set_cons_zero, e13, e14, e15, e16, e17, e18, e19, e20, e21, e22, e23, e24, e25]
  clear hS hap hla e13 e14 e15 e16 e17 e18 e19 e20 e21 e22 e23 e24 e25
  replace hS3 := hS3.next hw
  replace hS4 := hS4.next hw
  replace hS5 := hS5.next hw
  replace hW := hW.trans (Below.mono hw hW.size)
  clear hw
  go_wp2_with (fail)
  have s1 := hW.size
  refine region_early 8 62 (fun i => i == 7) [Is (.agg (ints .u8 sa).toArray), Is (.agg (ints .u8 sb).toArray), Is (.agg (ints .u8 pb).toArray), Is (.tuple #[(.agg (ints .u8 m).toArray), (.int .i64 er)]), Is (.tuple #[(.agg (ints .u8 m).toArray), (.int .i64 er)]), Is (.agg (ints .u8 m).toArray), Is (.int .i64 er), IsZ22 w1.heap.size] [28, 29, 30, 31, 27, 32, 33, 7] (by kernel_rfl) (by kernel_rfl) (by kernel_rfl) (Nat.le_of_eq rfl) (grows_cons (Is.grows _) (grows_cons (Is.grows _) (grows_cons (Is.grows _) (grows_cons (Is.grows _) (grows_cons (Is.grows _) (grows_cons (Is.grows _) (grows_cons (Is.grows _) (grows_cons (IsZ22.grows _) grows_nil))))))))
    ⟨step_by rfl (.inl rfl) hS3 3 rfl (by kernel_rfl) rfl rfl,
     step_by rfl (.inl rfl) hS4 4 rfl (by kernel_rfl) rfl rfl,
     step_to rfl (.inl rfl) rfl cf11p kpb rfl (one_arg (knows_in 1 29 (by decide) (by kernel_rfl) rfl rfl)),
     step_to rfl (.inl rfl) rfl cf7 ksa rfl (two_args (knows_in 0 28 (by decide) (by kernel_rfl) rfl rfl) (knows_in 2 30 (by decide) (by kernel_rfl) rfl rfl)),
     step_mv rfl (.inl rfl) rfl rfl (knows_in 3 31 (by decide) (by kernel_rfl) rfl rfl),
     step_fst rfl (.inl rfl) rfl rfl (knows_in 4 27 (by decide) (by kernel_rfl) rfl rfl),
     step_snd rfl (.inl rfl) rfl rfl (knows_in 4 27 (by decide) (by kernel_rfl) rfl rfl),
     step_alloc22 (.inl rfl) rfl rfl, trivial⟩
    22 7 32 (ints .u8 m).toArray _ rfl rfl rfl rfl 7 5 (by decide) (by decide) rfl rfl (by kernel_rfl) (by kernel_rfl) (fun v w ⟨b, h1, h2, h3⟩ => ⟨b, h1, h2, h3.room lm⟩) (fun v w h => h) (a22 lm) (ints_all _ _)
    (fun i o hi ho hf => by
      have hc : i = 0 ∨ i = 1 ∨ i = 2 ∨ i = 3 ∨ i = 4 ∨ i = 5 ∨ i = 6 ∨ i = 7 := by omega
      rcases hc with e | e | e | e | e | e | e | e <;> subst e
      · exact (no_wait hf (by kernel_rfl)).elim
      · exact (no_wait hf (by kernel_rfl)).elim
      · exact (no_wait hf (by kernel_rfl)).elim
      · exact (no_wait hf (by kernel_rfl)).elim
      · exact (no_wait hf (by kernel_rfl)).elim
      · exact (no_wait hf (by kernel_rfl)).elim
      · injection ho with ho; subst ho
        exact ⟨rfl, free_snd rfl rfl rfl (knows_in 4 27 (by decide) (by kernel_rfl) rfl rfl)⟩
      · exact (no_wait hf (by kernel_rfl)).elim)
    (fun i j hi hj hf hw v w w' h => by
      have hc : i = 0 ∨ i = 1 ∨ i = 2 ∨ i = 3 ∨ i = 4 ∨ i = 5 ∨ i = 6 ∨ i = 7 := by omega
      have hd : j = 0 ∨ j = 1 ∨ j = 2 ∨ j = 3 ∨ j = 4 ∨ j = 5 ∨ j = 6 ∨ j = 7 := by omega
      rcases hc with e | e | e | e | e | e | e | e <;> subst e
      · exact (no_wait hf (by kernel_rfl)).elim
      · exact (no_wait hf (by kernel_rfl)).elim
      · exact (no_wait hf (by kernel_rfl)).elim
      · exact (no_wait hf (by kernel_rfl)).elim
      · exact (no_wait hf (by kernel_rfl)).elim
      · exact (no_wait hf (by kernel_rfl)).elim
      · rcases hd with e | e | e | e | e | e | e | e <;> subst e
        · exact (no_wait2 hw (by kernel_rfl)).elim
        · exact (no_wait2 hw (by kernel_rfl)).elim
        · exact (no_wait2 hw (by kernel_rfl)).elim
        · exact (no_wait2 hw (by kernel_rfl)).elim
        · exact h
        · exact (no_wait2 hw (by kernel_rfl)).elim
        · exact (no_wait2 hw (by kernel_rfl)).elim
        · exact (no_wait2 hw (by kernel_rfl)).elim
      · exact (no_wait hf (by kernel_rfl)).elim) ?_
  intro val w2 bq hw hS hap hla hbq
  have e28 : val 28 = (.agg (ints .u8 sa).toArray) := hS 0 28 (by decide) rfl
  have e29 : val 29 = (.agg (ints .u8 sb).toArray) := hS 1 29 (by decide) rfl
  have e30 : val 30 = (.agg (ints .u8 pb).toArray) := hS 2 30 (by decide) rfl
  have e31 : val 31 = (.tuple #[(.agg (ints .u8 m).toArray), (.int .i64 er)]) := hS 3 31 (by decide) rfl
  have e27 : val 27 = (.tuple #[(.agg (ints .u8 m).toArray), (.int .i64 er)]) := hS 4 27 (by decide) rfl
  have e32 : val 32 = (.agg (ints .u8 m).toArray) := hS 5 32 (by decide) rfl
  have e33 : val 33 = (.int .i64 er) := hS 6 33 (by decide) rfl
  obtain ⟨b7, e7, L7, Z7⟩ := hS 7 7 (by decide) rfl
  simp only [putVals, List.foldl_cons, List.foldl_nil, List.drop_succ_cons, List.drop_zero, Act.put, List.setIfInBounds_toArray, List.set_cons_succ, List.set_cons_zero, e28, e29, e30, e31, e27, e32, e33, e7]
  have eb : b7 = bq := by
    rw [e7] at hbq
    injection hbq with h
    injection h with h
    injection h
  subst eb
  clear hbq
  clear hS hap hla e28 e29 e30 e31 e27 e32 e33 e7
  have LL7 := hid lm
  have R7 := Z7.room (l' := m) lm
  have hB7 := Z7.stored (l' := m) lm
  replace hS3 := hS3.next (Below.setCells hw L7 0 (ints .u8 m).toArray.toList)
  replace hS4 := hS4.next (Below.setCells hw L7 0 (ints .u8 m).toArray.toList)
  replace hS5 := hS5.next (Below.setCells hw L7 0 (ints .u8 m).toArray.toList)
  replace hW := hW.trans (Below.mono (Below.setCells hw L7 0 (ints .u8 m).toArray.toList) hW.size)
  generalize (w2.setCells b7 0 (ints .u8 m).toArray.toList) = w3 at *
  clear hw  R7 LL7 Z7 
  go_wp2_with (fail)
  have s3 := hW.size
  refine region_early 8 62 (fun i => i == 7) [Is (.agg (ints .u8 sb).toArray), Is (.agg (ints .u8 sa).toArray), Is (.agg (ints .u8 pa).toArray), Is (.tuple #[(.agg (ints .u8 m).toArray), (.int .i64 er)]), Is (.tuple #[(.agg (ints .u8 m).toArray), (.int .i64 er)]), Is (.agg (ints .u8 m).toArray), Is (.int .i64 er), IsZ22 w3.heap.size] [35, 36, 37, 38, 34, 39, 40, 9] (by kernel_rfl) (by kernel_rfl) (by kernel_rfl) (Nat.le_of_eq rfl) (grows_cons (Is.grows _) (grows_cons (Is.grows _) (grows_cons (Is.grows _) (grows_cons (Is.grows _) (grows_cons (Is.grows _) (grows_cons (Is.grows _) (grows_cons (Is.grows _) (grows_cons (IsZ22.grows _) grows_nil))))))))
    ⟨step_by rfl (.inl rfl) hS4 4 rfl (by kernel_rfl) rfl rfl,
     step_by rfl (.inl rfl) hS3 3 rfl (by kernel_rfl) rfl rfl,
     step_to rfl (.inl rfl) rfl cf11p kpa rfl (one_arg (knows_in 1 36 (by decide) (by kernel_rfl) rfl rfl)),
     step_to rfl (.inl rfl) rfl cf7 ksb rfl (two_args (knows_in 0 35 (by decide) (by kernel_rfl) rfl rfl) (knows_in 2 37 (by decide) (by kernel_rfl) rfl rfl)),
     step_mv rfl (.inl rfl) rfl rfl (knows_in 3 38 (by decide) (by kernel_rfl) rfl rfl),
     step_fst rfl (.inl rfl) rfl rfl (knows_in 4 34 (by decide) (by kernel_rfl) rfl rfl),
     step_snd rfl (.inl rfl) rfl rfl (knows_in 4 34 (by decide) (by kernel_rfl) rfl rfl),
     step_alloc22 (.inl rfl) rfl rfl, trivial⟩
    22 9 39 (ints .u8 m).toArray _ rfl rfl rfl rfl 7 5 (by decide) (by decide) rfl rfl (by kernel_rfl) (by kernel_rfl) (fun v w ⟨b, h1, h2, h3⟩ => ⟨b, h1, h2, h3.room lm⟩) (fun v w h => h) (a22 lm) (ints_all _ _)
    (fun i o hi ho hf => by
      have hc : i = 0 ∨ i = 1 ∨ i = 2 ∨ i = 3 ∨ i = 4 ∨ i = 5 ∨ i = 6 ∨ i = 7 := by omega
      rcases hc with e | e | e | e | e | e | e | e <;> subst e
      · exact (no_wait hf (by kernel_rfl)).elim
      · exact (no_wait hf (by kernel_rfl)).elim
      · exact (no_wait hf (by kernel_rfl)).elim
      · exact (no_wait hf (by kernel_rfl)).elim
      · exact (no_wait hf (by kernel_rfl)).elim
      · exact (no_wait hf (by kernel_rfl)).elim
      · injection ho with ho; subst ho
        exact ⟨rfl, free_snd rfl rfl rfl (knows_in 4 34 (by decide) (by kernel_rfl) rfl rfl)⟩
      · exact (no_wait hf (by kernel_rfl)).elim)
    (fun i j hi hj hf hw v w w' h => by
      have hc : i = 0 ∨ i = 1 ∨ i = 2 ∨ i = 3 ∨ i = 4 ∨ i = 5 ∨ i = 6 ∨ i = 7 := by omega
      have hd : j = 0 ∨ j = 1 ∨ j = 2 ∨ j = 3 ∨ j = 4 ∨ j = 5 ∨ j = 6 ∨ j = 7 := by omega
      rcases hc with e | e | e | e | e | e | e | e <;> subst e
      · exact (no_wait hf (by kernel_rfl)).elim
      · exact (no_wait hf (by kernel_rfl)).elim
      · exact (no_wait hf (by kernel_rfl)).elim
      · exact (no_wait hf (by kernel_rfl)).elim
      · exact (no_wait hf (by kernel_rfl)).elim
      · exact (no_wait hf (by kernel_rfl)).elim
      · rcases hd with e | e | e | e | e | e | e | e <;> subst e
        · exact (no_wait2 hw (by kernel_rfl)).elim
        · exact (no_wait2 hw (by kernel_rfl)).elim
        · exact (no_wait2 hw (by kernel_rfl)).elim
        · exact (no_wait2 hw (by kernel_rfl)).elim
        · exact h
        · exact (no_wait2 hw (by kernel_rfl)).elim
        · exact (no_wait2 hw (by kernel_rfl)).elim
        · exact (no_wait2 hw (by kernel_rfl)).elim
      · exact (no_wait hf (by kernel_rfl)).elim) ?_
  intro val w4 bq hw hS hap hla hbq
  have e35 : val 35 = (.agg (ints .u8 sb).toArray) := hS 0 35 (by decide) rfl
  have e36 : val 36 = (.agg (ints .u8 sa).toArray) := hS 1 36 (by decide) rfl
  have e37 : val 37 = (.agg (ints .u8 pa).toArray) := hS 2 37 (by decide) rfl
  have e38 : val 38 = (.tuple #[(.agg (ints .u8 m).toArray), (.int .i64 er)]) := hS 3 38 (by decide) rfl
  have e34 : val 34 = (.tuple #[(.agg (ints .u8 m).toArray), (.int .i64 er)]) := hS 4 34 (by decide) rfl
  have e39 : val 39 = (.agg (ints .u8 m).toArray) := hS 5 39 (by decide) rfl
  have e40 : val 40 = (.int .i64 er) := hS 6 40 (by decide) rfl
  obtain ⟨b9, e9, L9, Z9⟩ := hS 7 9 (by decide) rfl
  simp only [putVals, List.foldl_cons, List.foldl_nil, List.drop_succ_cons, List.drop_zero, Act.put, List.setIfInBounds_toArray, List.set_cons_succ, List.set_cons_zero, e35, e36, e37, e38, e34, e39, e40, e9]
  have eb : b9 = bq := by
    rw [e9] at hbq
    injection hbq with h
    injection h with h
    injection h
  subst eb
  clear hbq
  clear hS hap hla e35 e36 e37 e38 e34 e39 e40 e9
  have LL9 := hid lm
  have R9 := Z9.room (l' := m) lm
  have hB9 := Z9.stored (l' := m) lm
  replace hS3 := hS3.next (Below.setCells hw L9 0 (ints .u8 m).toArray.toList)
  replace hS4 := hS4.next (Below.setCells hw L9 0 (ints .u8 m).toArray.toList)
  replace hS5 := hS5.next (Below.setCells hw L9 0 (ints .u8 m).toArray.toList)
  replace hB7 := hB7.next (Below.setCells hw L9 0 (ints .u8 m).toArray.toList)
  replace hW := hW.trans (Below.mono (Below.setCells hw L9 0 (ints .u8 m).toArray.toList) hW.size)
  generalize (w4.setCells b9 0 (ints .u8 m).toArray.toList) = w5 at *
  clear hw  R9 LL9 Z9 
  go_wp2_with (fail)
  have s5 := hW.size
  refine region_spec2 21 62 (fun _ => false) [Is (.int .i64 er), Is (.int .i64 er), Is (.bool true), Is (.bool true), Is (.agg (ints .u8 m).toArray), Is (.agg (ints .u8 m).toArray), Is (.bool true), Is (.bool true), Is (.bool true), Is (.agg (ints .u8 sa).toArray), Is (.agg (ints .u8 sb).toArray), Is (.agg (ints .u8 pt).toArray), Is (.agg (ints .u8 q1).toArray), Is (.agg (ints .u8 q).toArray), Is (.agg (ints .u8 sb).toArray), Is (.agg (ints .u8 sa).toArray), Is (.agg (ints .u8 pt).toArray), Is (.agg (ints .u8 q2).toArray), Is (.agg (ints .u8 q).toArray), Is (.bool true), Is (.bool true)] [41, 42, 43, 44, 45, 46, 47, 48, 49, 50, 51, 52, 53, 54, 55, 56, 57, 58, 59, 60, 61] (by kernel_rfl) (by kernel_rfl) (by kernel_rfl) (Nat.le_of_eq rfl) (grows_cons (Is.grows _) (grows_cons (Is.grows _) (grows_cons (Is.grows _) (grows_cons (Is.grows _) (grows_cons (Is.grows _) (grows_cons (Is.grows _) (grows_cons (Is.grows _) (grows_cons (Is.grows _) (grows_cons (Is.grows _) (grows_cons (Is.grows _) (grows_cons (Is.grows _) (grows_cons (Is.grows _) (grows_cons (Is.grows _) (grows_cons (Is.grows _) (grows_cons (Is.grows _) (grows_cons (Is.grows _) (grows_cons (Is.grows _) (grows_cons (Is.grows _) (grows_cons (Is.grows _) (grows_cons (Is.grows _) (grows_cons (Is.grows _) grows_nil)))))))))))))))))))))
    ⟨step_mv rfl (.inl rfl) rfl rfl (knows_out 8 (by kernel_rfl) rfl),
     step_mv rfl (.inl rfl) rfl rfl (knows_out 10 (by kernel_rfl) rfl),
     step_eqE2 rfl (.inl rfl) rfl rfl (knows_in 0 41 (by decide) (by kernel_rfl) rfl rfl) (knows_in 1 42 (by decide) (by kernel_rfl) rfl rfl),
     step_mv rfl (.inl rfl) rfl rfl (knows_in 2 43 (by decide) (by kernel_rfl) rfl rfl),
     step_by rfl (.inr ⟨3, true, 44, rfl, by decide, by kernel_rfl, rfl, fun _ _ h => h⟩) hB7 7 rfl (by kernel_rfl) rfl rfl,
     step_by rfl (.inr ⟨3, true, 44, rfl, by decide, by kernel_rfl, rfl, fun _ _ h => h⟩) hB9 9 rfl (by kernel_rfl) rfl rfl,
     step_eqs rfl (.inr ⟨3, true, 44, rfl, by decide, by kernel_rfl, rfl, fun _ _ h => h⟩) rfl lm rfl (knows_in 4 45 (by decide) (by kernel_rfl) rfl rfl) (knows_in 5 46 (by decide) (by kernel_rfl) rfl rfl),
     step_pick rfl (.inl rfl) (b := true) rfl rfl (knows_in 3 44 (by decide) (by kernel_rfl) rfl rfl) (knows_in 6 47 (by decide) (by kernel_rfl) rfl rfl),
     step_mv rfl (.inl rfl) rfl rfl (knows_in 7 48 (by decide) (by kernel_rfl) rfl rfl),
     step_by rfl (.inr ⟨8, true, 49, rfl, by decide, by kernel_rfl, rfl, fun _ _ h => h⟩) hS3 3 rfl (by kernel_rfl) rfl rfl,
     step_by rfl (.inr ⟨8, true, 49, rfl, by decide, by kernel_rfl, rfl, fun _ _ h => h⟩) hS4 4 rfl (by kernel_rfl) rfl rfl,
     step_by rfl (.inr ⟨8, true, 49, rfl, by decide, by kernel_rfl, rfl, fun _ _ h => h⟩) hS5 5 rfl (by kernel_rfl) rfl rfl,
     step_to rfl (.inr ⟨8, true, 49, rfl, by decide, by kernel_rfl, rfl, fun _ _ h => h⟩) rfl cf8 kx1 rfl (two_args (knows_in 10 51 (by decide) (by kernel_rfl) rfl rfl) (knows_in 11 52 (by decide) (by kernel_rfl) rfl rfl)),
     step_to rfl (.inr ⟨8, true, 49, rfl, by decide, by kernel_rfl, rfl, fun _ _ h => h⟩) rfl cf8 kx2 rfl (two_args (knows_in 9 50 (by decide) (by kernel_rfl) rfl rfl) (knows_in 12 53 (by decide) (by kernel_rfl) rfl rfl)),
     step_by rfl (.inr ⟨8, true, 49, rfl, by decide, by kernel_rfl, rfl, fun _ _ h => h⟩) hS4 4 rfl (by kernel_rfl) rfl rfl,
     step_by rfl (.inr ⟨8, true, 49, rfl, by decide, by kernel_rfl, rfl, fun _ _ h => h⟩) hS3 3 rfl (by kernel_rfl) rfl rfl,
     step_by rfl (.inr ⟨8, true, 49, rfl, by decide, by kernel_rfl, rfl, fun _ _ h => h⟩) hS5 5 rfl (by kernel_rfl) rfl rfl,
     step_to rfl (.inr ⟨8, true, 49, rfl, by decide, by kernel_rfl, rfl, fun _ _ h => h⟩) rfl cf8 kx3 rfl (two_args (knows_in 15 56 (by decide) (by kernel_rfl) rfl rfl) (knows_in 16 57 (by decide) (by kernel_rfl) rfl rfl)),
     step_to rfl (.inr ⟨8, true, 49, rfl, by decide, by kernel_rfl, rfl, fun _ _ h => h⟩) rfl cf8 kx4 rfl (two_args (knows_in 14 55 (by decide) (by kernel_rfl) rfl rfl) (knows_in 17 58 (by decide) (by kernel_rfl) rfl rfl)),
     step_eqs rfl (.inr ⟨8, true, 49, rfl, by decide, by kernel_rfl, rfl, fun _ _ h => h⟩) rfl lq rfl (knows_in 13 54 (by decide) (by kernel_rfl) rfl rfl) (knows_in 18 59 (by decide) (by kernel_rfl) rfl rfl),
     step_pick rfl (.inl rfl) (b := true) rfl rfl (knows_in 8 49 (by decide) (by kernel_rfl) rfl rfl) (knows_in 19 60 (by decide) (by kernel_rfl) rfl rfl), trivial⟩ ?_
  intro val w6 hw hS hap hla
  have e41 : val 41 = (.int .i64 er) := hS 0 41 (by decide) rfl
  have e42 : val 42 = (.int .i64 er) := hS 1 42 (by decide) rfl
  have e43 : val 43 = (.bool true) := hS 2 43 (by decide) rfl
  have e44 : val 44 = (.bool true) := hS 3 44 (by decide) rfl
  have e45 : val 45 = (.agg (ints .u8 m).toArray) := hS 4 45 (by decide) rfl
  have e46 : val 46 = (.agg (ints .u8 m).toArray) := hS 5 46 (by decide) rfl
  have e47 : val 47 = (.bool true) := hS 6 47 (by decide) rfl
  have e48 : val 48 = (.bool true) := hS 7 48 (by decide) rfl
  have e49 : val 49 = (.bool true) := hS 8 49 (by decide) rfl
  have e50 : val 50 = (.agg (ints .u8 sa).toArray) := hS 9 50 (by decide) rfl
  have e51 : val 51 = (.agg (ints .u8 sb).toArray) := hS 10 51 (by decide) rfl
  have e52 : val 52 = (.agg (ints .u8 pt).toArray) := hS 11 52 (by decide) rfl
  have e53 : val 53 = (.agg (ints .u8 q1).toArray) := hS 12 53 (by decide) rfl
  have e54 : val 54 = (.agg (ints .u8 q).toArray) := hS 13 54 (by decide) rfl
  have e55 : val 55 = (.agg (ints .u8 sb).toArray) := hS 14 55 (by decide) rfl
  have e56 : val 56 = (.agg (ints .u8 sa).toArray) := hS 15 56 (by decide) rfl
  have e57 : val 57 = (.agg (ints .u8 pt).toArray) := hS 16 57 (by decide) rfl
  have e58 : val 58 = (.agg (ints .u8 q2).toArray) := hS 17 58 (by decide) rfl
  have e59 : val 59 = (.agg (ints .u8 q).toArray) := hS 18 59 (by decide) rfl
  have e60 : val 60 = (.bool true) := hS 19 60 (by decide) rfl
  have e61 : val 61 = (.bool true) := hS 20 61 (by decide) rfl
  simp only [putVals, List.foldl_cons, List.foldl_nil, List.drop_succ_cons, List.drop_zero, Act.put, List.setIfInBounds_toArray, List.set_cons_succ, List.set_cons_zero, e41, e42, e43, e44, e45, e46, e47, e48, e49, e50, e51, e52, e53, e54, e55, e56, e57, e58, e59, e60, e61]
  clear hS hap hla e41 e42 e43 e44 e45 e46 e47 e48 e49 e50 e51 e52 e53 e54 e55 e56 e57 e58 e59 e60 e61
  replace hS3 := hS3.next hw
  replace hS4 := hS4.next hw
  replace hS5 := hS5.next hw
  replace hB7 := hB7.next hw
  replace hB9 := hB9.next hw
  replace hW := hW.trans (Below.mono hw hW.size)
  clear hw
  go_wp2_with (fail)
  go_ret
  exact ⟨rfl, hW⟩
theorem uOf_rbytes {k : Nat} (h : k < NT.PN) : uOf (rbytes k) = k := (of_bytes k h).2
theorem clamp_clamp {b : List Int} (hl : b.length = 32) : clampL (clampL b) = clampL b := by
  have e0 : (clampL b).getD 0 0 = b.getD 0 0 / 8 * 8 := by
    unfold clampL
    rw [List.getD_eq_getElem?_getD, List.getElem?_set_ne (by omega), List.getElem?_set_self (by omega)]; rfl
  have e1 : (clampL b).getD 31 0 = b.getD 31 0 % 64 + 64 := by
    unfold clampL
    rw [List.getD_eq_getElem?_getD, List.getElem?_set_self (by simp; omega)]; rfl
  have f0 : b.getD 0 0 / 8 * 8 / 8 * 8 = b.getD 0 0 / 8 * 8 := by omega
  have f1 : (b.getD 31 0 % 64 + 64) % 64 + 64 = b.getD 31 0 % 64 + 64 := by omega
  have g : clampL (clampL b) = ((clampL b).set 0 ((clampL b).getD 0 0 / 8 * 8)).set 31 ((clampL b).getD 31 0 % 64 + 64) := rfl
  rw [g, e0, e1, f0, f1]
  unfold clampL
  generalize b.getD 0 0 / 8 * 8 = x
  generalize b.getD 31 0 % 64 + 64 = y
  apply List.ext_getElem?
  intro i
  simp only [List.getElem?_set, List.length_set]
  by_cases h1 : 31 = i
  · simp [h1]
  · by_cases h0 : 0 = i
    · simp [h0, h1]
    · simp [h0, h1]
theorem mulN_clamp {b : List Int} (hl : b.length = 32) (u : Nat) : mulN (clampL b) u = mulN b u := by
  have h : ∀ c d : List Int, clampL c = clampL d → mulN c u = mulN d u := fun c d e => by unfold mulN; rw [e]
  exact h _ _ (clamp_clamp hl)
theorem err_of (k : Nat) : ∃ d : Bool, decide (rbytes k = rbytes 0) = d := ⟨_, rfl⟩
theorem ladderMeets_walk (W : World) (a : List Int) (la : a.length = 32) (wa : ∀ x ∈ a, (Lit.int .u8 x).wf = true) (b : List Int) (lb : b.length = 32) (wb : ∀ x ∈ b, (Lit.int .u8 x).wf = true) (c : List Int) (lc : c.length = 32) (wc : ∀ x ∈ c, (Lit.int .u8 x).wf = true) :
    Calls Try.prog 4 #[.agg (ints .u8 a).toArray, .agg (ints .u8 b).toArray, .agg (ints .u8 c).toArray] W fun e w' => e = .returned (.bool true) ∧ Below W.heap.size W w' := by
  have ba := byt_of_wf wa
  have bb := byt_of_wf wb
  have bc := byt_of_wf wc
  have lca := (clampL_length a).trans la
  have bca := clampL_byt ba la
  have k1 := c_public la ba
  have k2 := c_public lb bb
  have k3 := c_public lca bca
  rw [mulN_clamp la] at k3
  have hu := (uOf_nm base_byt).lt
  have hv := (uOf_nm bc).lt
  have hs : uOf (rbytes (mulN b (uOf baseL))) = mulN b (uOf baseL) := uOf_rbytes (mulN_lt _ _)
  have ht : uOf (rbytes (mulN a (uOf baseL))) = mulN a (uOf baseL) := uOf_rbytes (mulN_lt _ _)
  have hp : uOf (rbytes (mulN b (uOf c))) = mulN b (uOf c) := uOf_rbytes (mulN_lt _ _)
  have hq : uOf (rbytes (mulN a (uOf c))) = mulN a (uOf c) := uOf_rbytes (mulN_lt _ _)
  have c1 := mulN_comm la ba lb bb hu
  have c2 := mulN_comm la ba lb bb hv
  obtain ⟨d, hd⟩ := err_of (mulN a (mulN b (uOf baseL)))
  have s1 := c_shared la ba (rbytes_length _) (rbytes_byt (mulN b (uOf baseL))) d (by rw [hs]; exact hd)
  have s2 := c_shared lb bb (rbytes_length _) (rbytes_byt (mulN a (uOf baseL))) d (by rw [ht, ← c1]; exact hd)
  rw [hs] at s1
  rw [ht, ← c1] at s2
  have x2 := c_lmul la ba (rbytes_length _) (rbytes_byt (mulN b (uOf c)))
  have x4 := c_lmul lb bb (rbytes_length _) (rbytes_byt (mulN a (uOf c)))
  rw [hp] at x2
  rw [hq, ← c2] at x4
  exact meets_core W la lb lc (rbytes_length _) (rbytes_length _) (rbytes_length _) k1 (c_lmul la ba base_len base_byt) (c_clamp la ba) k3 k2 s1 s2 (c_lmul lb bb lc bc) x2 (c_lmul la ba lc bc) x4
end Go.Proofs.Ytoncinbohfmciaa
