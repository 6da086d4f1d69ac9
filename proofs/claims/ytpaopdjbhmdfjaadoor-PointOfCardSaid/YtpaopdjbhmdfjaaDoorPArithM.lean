/- Steps of regions: a bit of a number of bytes. -/
import Derived.Test.YtpaopdjbhmdfjaaDoorG8
namespace Go.Proofs.YtpaopdjbhmdfjaaDoor
open Go Go.RowKit

theorem half_st (N t : Nat) : 2 * (N / 2 ^ (t + 1)) + N / 2 ^ t % 2 = N / 2 ^ t := by
  rw [Nat.pow_succ, ← Nat.div_div_eq_div_mul]
  omega
section
variable {ops : Array Oper} {md : Region.Mode} {W : World} {a0 : Act} {n : Nat} {al : Nat → Bool} {S : Nat → Value → World → Prop} {Q : Exit → Act → World → Prop} {i : Nat} {o : Oper}
theorem step_quo8 (hal : al i = false) (hg : GuardOn ops md n S i o) {x : Operand} {m q : Nat} (hq : m / 8 = q) (hm : m < 65536) (ho : o.op = .binOp .quo 3 x (.const (.int .i64 8)) 3) (hS : S i = Is (.int .i64 (q : Int))) (hx : Knows ops md W a0 n S i x (.int .i64 (m : Int))) : StepOk Tryd.prog ops md W a0 n al S Q i o :=
  step_run hal hg fun a w hw hf hd => ⟨.int .i64 (q : Int), by
    have h := hx a w hw hf hd
    have hc : a.eval (.const (.int .i64 8)) = .int .i64 8 := rfl
    have hqi : (m : Int) / 8 = (q : Int) := by omega
    have m0 : (0 : Int) ≤ m := by omega
    have hwq : IntKind.i64.wrap (q : Int) = (q : Int) := IntWalk.i64_in _ (by omega)
    revert h hc
    generalize a.eval = ev
    intro h hc
    unfold execOp
    simp only [ho, h, hc]
    go_simp, by rw [hS]; exact rfl⟩
theorem step_rem8 (hal : al i = false) (hg : GuardOn ops md n S i o) {x : Operand} {m r : Nat} (hr : m % 8 = r) (hm : m < 65536) (ho : o.op = .binOp .rem 3 x (.const (.int .i64 8)) 3) (hS : S i = Is (.int .i64 (r : Int))) (hx : Knows ops md W a0 n S i x (.int .i64 (m : Int))) : StepOk Tryd.prog ops md W a0 n al S Q i o :=
  step_run hal hg fun a w hw hf hd => ⟨.int .i64 (r : Int), by
    have h := hx a w hw hf hd
    have hc : a.eval (.const (.int .i64 8)) = .int .i64 8 := rfl
    have hri : (m : Int) % 8 = (r : Int) := by omega
    have m0 : (0 : Int) ≤ m := by omega
    have hwr : IntKind.i64.wrap (r : Int) = (r : Int) := IntWalk.i64_in _ (by omega)
    revert h hc
    generalize a.eval = ev
    intro h hc
    unfold execOp
    simp only [ho, h, hc]
    go_simp
    rw [Int.tmod_eq_emod_of_nonneg m0]
    exact hri, by rw [hS]; exact rfl⟩
theorem step_idx22 (hal : al i = false) (hg : GuardOn ops md n S i o) {x y : Operand} {b q : Nat} (hq : q < 32) (ho : o.op = .indexAddr 22 x y) (hS : S i = Is (.pointer (some ⟨b, q, none⟩))) (hx : Knows ops md W a0 n S i x (.pointer (some ⟨b, 0, none⟩))) (hy : Knows ops md W a0 n S i y (.int .i64 (q : Int))) : StepOk Tryd.prog ops md W a0 n al S Q i o :=
  step_run hal hg fun a w hw hf hd => ⟨.pointer (some ⟨b, q, none⟩), by
    have h := hx a w hw hf hd
    have h2 := hy a w hw hf hd
    have q0 : (0 : Int) ≤ q := by omega
    have q1 : (q : Int) < 32 := by omega
    revert h h2
    generalize a.eval = ev
    intro h h2
    unfold execOp
    simp only [ho, h, h2]
    go_simp, by rw [hS]; exact rfl⟩
theorem step_ld5 (hal : al i = false) (hg : GuardOn ops md n S i o) {x : Operand} {b q : Nat} {v : Int} (ho : o.op = .load 5 x) (hS : S i = Is (.int .u8 v)) (hx : Knows ops md W a0 n S i x (.pointer (some ⟨b, q, none⟩))) (hc : ∀ w, Cl W w → w.cell? ⟨b, q, none⟩ = some (.int .u8 v)) : StepOk Tryd.prog ops md W a0 n al S Q i o :=
  step_run hal hg fun a w hw hf hd => ⟨.int .u8 v, by
    have h := hx a w hw hf hd
    have hcc := hc w hw
    revert h
    generalize a.eval = ev
    intro h
    unfold execOp
    simp only [ho, h]
    go_simp, by rw [hS]; exact rfl⟩
theorem step_shr5 (hal : al i = false) (hg : GuardOn ops md n S i o) {x y : Operand} {v s : Int} {r : Nat} (hr : r < 8) (hs : v / 2 ^ r = s) (hv : 0 ≤ v ∧ v < 256) (ho : o.op = .binOp .shr 5 x y 3) (hS : S i = Is (.int .u8 s)) (hx : Knows ops md W a0 n S i x (.int .u8 v)) (hy : Knows ops md W a0 n S i y (.int .i64 (r : Int))) : StepOk Tryd.prog ops md W a0 n al S Q i o :=
  step_run hal hg fun a w hw hf hd => ⟨.int .u8 s, by
    have h := hx a w hw hf hd
    have h2 := hy a w hw hf hd
    have r0 : (0 : Int) ≤ r := by omega
    have r8 : (r : Int) ≤ 8 := by omega
    have v0 := hv.1
    have v1 := hv.2
    revert h h2
    generalize a.eval = ev
    intro h h2
    unfold execOp
    simp only [ho, h, h2]
    go_simp, by rw [hS]; exact rfl⟩
theorem step_and1 (hal : al i = false) (hg : GuardOn ops md n S i o) {x : Operand} {s : Int} (hs : 0 ≤ s ∧ s < 256) (ho : o.op = .binOp .and 5 x (.const (.int .u8 1)) 5) (hS : S i = Is (.int .u8 (s % 2))) (hx : Knows ops md W a0 n S i x (.int .u8 s)) : StepOk Tryd.prog ops md W a0 n al S Q i o :=
  step_run hal hg fun a w hw hf hd => ⟨.int .u8 (s % 2), by
    have h := hx a w hw hf hd
    have hc : a.eval (.const (.int .u8 1)) = .int .u8 1 := rfl
    have hmk := mask1_u8 s hs
    revert h hc
    generalize a.eval = ev
    intro h hc
    unfold execOp
    simp only [ho, h, hc]
    go_simp, by rw [hS]; exact rfl⟩
theorem step_eq1 (hal : al i = false) (hg : GuardOn ops md n S i o) {x : Operand} {s : Int} {b : Bool} (hb : (s == 1) = b) (ho : o.op = .binOp .eql 5 x (.const (.int .u8 1)) 5) (hS : S i = Is (.bool b)) (hx : Knows ops md W a0 n S i x (.int .u8 s)) : StepOk Tryd.prog ops md W a0 n al S Q i o :=
  step_run hal hg fun a w hw hf hd => ⟨.bool b, by
    have h := hx a w hw hf hd
    have hc : a.eval (.const (.int .u8 1)) = .int .u8 1 := rfl
    revert h hc
    generalize a.eval = ev
    intro h hc
    unfold execOp
    simp only [ho, h, hc]
    go_simp, by rw [hS]; exact rfl⟩
theorem step_rbytesQ (hal : al i = false) (hg : GuardOn ops md n S i o) {x : Operand} {ts : Array TypeId} {m : Nat} {l : List Int} (ho : o.op = .call { callee := .value (.func 34), args := #[x], argTypes := ts }) (hcf : ∀ vs w, (callFunc 34 vs).run Tryd.prog w = .ok (.enter 34 vs) w) (hl : rbytes m = l) (hS : S i = Is (.agg (ints .u8 l).toArray)) (hx : KnowsR ops md W a0 n S i x m) : StepOk Tryd.prog ops md W a0 n al S Q i o := by
  subst hl
  exact step_rbytes hal hg ho hcf hS hx
end
/-- A row tells its point's coordinates. -/
theorem Nf.one {x : List Int} {a b : Fin NT.PN} (h : Nf x a) (k : Nf x b) : a = b := Fin.ext (h.2.symm.trans k.2)
theorem pt_inj {x y z t x' y' z' t' : List Int} (h : pt x y z t = pt x' y' z' t') (hx : x.length = 16) (hx' : x'.length = 16) (hy : y.length = 16) (hy' : y'.length = 16) (hz : z.length = 16) (hz' : z'.length = 16) : x = x' ∧ y = y' ∧ z = z' ∧ t = t' := by
  unfold pt at h
  obtain ⟨e1, h⟩ := List.append_inj h (by omega)
  obtain ⟨e2, h⟩ := List.append_inj h (by omega)
  obtain ⟨e3, h⟩ := List.append_inj h (by omega)
  exact ⟨e1, e2, e3, h⟩
theorem Pn.one {l : List Int} {c c' : C4 NT.PN} (h : Pn l c) (k : Pn l c') : c = c' := by
  obtain ⟨x, y, z, t, e, h1, h2, h3, h4⟩ := h
  obtain ⟨x', y', z', t', e', k1, k2, k3, k4⟩ := k
  obtain ⟨rfl, rfl, rfl, rfl⟩ := pt_inj (e.symm.trans e') h1.len k1.len h2.len k2.len h3.len k3.len
  obtain ⟨a, b, d, f⟩ := c
  obtain ⟨a', b', d', f'⟩ := c'
  obtain rfl := h1.one k1
  obtain rfl := h2.one k2
  obtain rfl := h3.one k3
  obtain rfl := h4.one k4
  rfl
open Classical in
noncomputable def sumL (l m : List Int) : List Int := if h : ∃ c c', Pn l c ∧ Pn m c' then (c_padd h.choose_spec.choose_spec.1 h.choose_spec.choose_spec.2).choose else []
theorem sumL_spec {l m : List Int} {c c' : C4 NT.PN} (h : Pn l c) (k : Pn m c') : CallsT 11 #[.agg (ints .i64 l).toArray, .agg (ints .i64 m).toArray] (.agg (ints .i64 (sumL l m)).toArray) ∧ Pn (sumL l m) (addC dF c c') := by
  have hex : ∃ c c', Pn l c ∧ Pn m c' := ⟨c, c', h, k⟩
  have e : sumL l m = (c_padd hex.choose_spec.choose_spec.1 hex.choose_spec.choose_spec.2).choose := by
    unfold sumL
    rw [dif_pos hex]
  rw [e]
  have hs := (c_padd hex.choose_spec.choose_spec.1 hex.choose_spec.choose_spec.2).choose_spec
  rw [h.one hex.choose_spec.choose_spec.1, k.one hex.choose_spec.choose_spec.2]
  exact hs
/-- The row is that of a point of the curve. -/
def PR (l : List Int) (P : Edw.Pt NT.PN) : Prop := ∃ c, Pn l c ∧ Rep4 iF c P ∧ Edw.On eF P
theorem PR.len {l : List Int} {P : Edw.Pt NT.PN} (h : PR l P) : l.length = 64 := by
  obtain ⟨c, h, _⟩ := h
  exact h.len
section
variable {l m : List Int} {P Q : Edw.Pt NT.PN}
theorem PR.add (h : PR l P) (k : PR m Q) : CallsT 11 #[.agg (ints .i64 l).toArray, .agg (ints .i64 m).toArray] (.agg (ints .i64 (sumL l m)).toArray) ∧ PR (sumL l m) (Edw.add eF P Q) := by
  obtain ⟨c, h1, h2, h3⟩ := h
  obtain ⟨c', k1, k2, k3⟩ := k
  obtain ⟨a, b⟩ := sumL_spec h1 k1
  exact ⟨a, _, b, rep_add pn_fld ns_e i_sq de h3 k3 h2 k2, Edw.add_on pn_fld ns_e h3 k3⟩
theorem PR.neg (h : PR l P) : ∃ r, CallsTo 13 #[.agg (ints .i64 l).toArray] (.agg (ints .i64 r).toArray) ∧ PR r (Edw.neg P) := by
  obtain ⟨c, h1, h2, h3⟩ := h
  obtain ⟨r, a, b⟩ := c_pneg h1
  exact ⟨r, a, _, b, rep_neg h2, Edw.neg_on h3⟩
theorem PR.on (h : PR l P) : CallsT 9 #[.agg (ints .i64 l).toArray] (.bool true) := by
  obtain ⟨c, h1, h2, h3⟩ := h
  obtain ⟨e1, e2⟩ := rep_on i_sq de h3 h2
  exact c_on_yes h1 h2.nz e1 e2
theorem PR.same (h : PR l P) (k : PR m P) : CallsTo 24 #[.agg (ints .i64 l).toArray, .agg (ints .i64 m).toArray] (.bool true) := by
  obtain ⟨c, h1, h2, _⟩ := h
  obtain ⟨c', k1, k2, _⟩ := k
  obtain ⟨e1, e2⟩ := rep_eq h2 k2
  exact c_same h1 k1 h2.nz k2.nz e1 e2
/-- The bytes of a point of Edwards' curve. -/
noncomputable def bytesP (P : Edw.Pt NT.PN) : List Int := pbytes P.y.val (oddB (-(iF * P.x)).val)
theorem bytesP_len (P : Edw.Pt NT.PN) : (bytesP P).length = 32 := pbytes_len _ _
theorem PR.bytes (h : PR l P) : CallsTo 10 #[.agg (ints .i64 l).toArray] (.agg (ints .u8 (bytesP P)).toArray) := by
  obtain ⟨c, h1, h2, _⟩ := h
  have h3 := c_pbytes h1
  obtain ⟨e1, e2⟩ := rep_aff h2 (iv_mul h2.nz)
  rw [e1, e2] at h3
  exact h3
theorem PR.exists (h : PR l P) : CallsTo 44 #[.agg (ints .i64 l).toArray] (.bool true) := by
  obtain ⟨c, h1, h2, _⟩ := h
  exact c_exists h1 h2.nz
end
theorem pr_nought : ∃ r, CallsTo 29 #[] (.agg (ints .i64 r).toArray) ∧ PR r Edw.O := by
  obtain ⟨r, a, b⟩ := c_nought
  exact ⟨r, a, _, b, rep_nought pn_fld i_sq, Edw.O_on _⟩
theorem pr_base : ∃ r, CallsT 25 #[] (.agg (ints .i64 r).toArray) ∧ PR r baseP := by
  obtain ⟨r, a, b⟩ := c_base
  exact ⟨r, a, _, b, rep_base, base_on⟩
noncomputable def nouL : List Int := pr_nought.choose
theorem nouL_spec : CallsTo 29 #[] (.agg (ints .i64 nouL).toArray) ∧ PR nouL Edw.O := pr_nought.choose_spec
/-- The bit as the code takes it. -/
def bitN (N t : Nat) : Bool := N / 2 ^ t % 2 == 1
noncomputable def mulS (l : List Int) (N : Nat) : Nat → List Int
  | 0 => nouL
  | k + 1 => if bitN N (255 - k) then sumL (sumL (mulS l N k) (mulS l N k)) l else sumL (mulS l N k) (mulS l N k)
theorem mulS_spec {l : List Int} {P : Edw.Pt NT.PN} (h : PR l P) {N : Nat} (hN : N < 2 ^ 256) : ∀ k, k ≤ 256 → PR (mulS l N k) (Edw.mul eF (N / 2 ^ (256 - k)) P)
  | 0, _ => by
    rw [Nat.div_eq_of_lt hN]
    exact nouL_spec.2
  | k + 1, hk => by
    have ih := mulS_spec h hN k (by omega)
    have hP : Edw.On eF P := by obtain ⟨_, _, _, h3⟩ := h; exact h3
    have hd := (ih.add ih).2
    rw [dbl_mul pn_fld ns_e hP] at hd
    have e := half_st N (255 - k)
    rw [show 255 - k + 1 = 256 - k by omega] at e
    rw [show 256 - (k + 1) = 255 - k by omega, ← e, mulS]
    unfold bitN
    have hb : N / 2 ^ (255 - k) % 2 < 2 := Nat.mod_lt _ (by omega)
    generalize N / 2 ^ (255 - k) % 2 = bit at *
    have hc : bit = 0 ∨ bit = 1 := by omega
    rcases hc with e0 | e0 <;> subst e0
    · exact hd
    · have := (hd.add h).2
      exact this
end Go.Proofs.YtpaopdjbhmdfjaaDoor
