/- Texts of this proof, laid together: Spec2, Spec3, RootMath, Spec4. -/
import Derived.Test.YtkblmdakejmmhaaDoorSpecM
import Derived.Great.Frames
import Derived.Test.YtkblmdakejmmhaaDoorG9
import Derived.Deep.Cut
/- The steps of a region, operation by operation. -/
namespace Go.Proofs.YtkblmdakejmmhaaDoor
open Go Go.RowKit

theorem ex_fn {ev : Operand → Value} {o : Oper} {f : FuncId} {xs : Array Operand} {ts : Array TypeId} (hf : ev (.func f) = .func (.func f) #[] #[]) (hc : ∀ vs w, (callFunc f vs).run Tryd.prog w = .ok (.enter f vs) w) (ho : o.op = .call { callee := .value (.func f), args := xs, argTypes := ts }) (vs : Array Value) (hv : xs.map ev = vs) (w : World) : (execOp ev o).run Tryd.prog w = .ok (.enter f vs) w := by
  subst hv
  unfold execOp
  simp only [ho]
  go_simp
def Is (v0 : Value) : Value → World → Prop := fun v _ => v = v0
theorem Is.grows (v0 : Value) : Grows (Is v0) := fun _ _ _ h _ => h
/-- Digits of a number, from a block on. -/
def IsR (base m : Nat) : Value → World → Prop := fun v w => ∃ A c ys, v = .slice A 16 c ∧ Hid (Rp ys m) ∧ NumsF base w .i64 A (nl ys)
/-- A new block with an element's zeros. -/
def IsZ (base : Nat) : Value → World → Prop := fun v w => ∃ b, v = .pointer (some ⟨b, 0, none⟩) ∧ base ≤ b ∧ Bx w b (zeros 16)
theorem IsZ.grows (base : Nat) : Grows (IsZ base) := fun _ _ _ ⟨b, h1, h0, h2⟩ hb => ⟨b, h1, h0, h2.next hb⟩
theorem grows_nil : ∀ S ∈ ([] : List (Value → World → Prop)), Grows S := fun S h => by cases h
theorem grows_cons {S : Value → World → Prop} {Ss : List (Value → World → Prop)} (h : Grows S) (k : ∀ S ∈ Ss, Grows S) : ∀ T ∈ S :: Ss, Grows T := fun T hT => by
  rcases List.mem_cons.1 hT with e | e
  · rw [e]; exact h
  · exact k T e

/-- The slots that the region's operations do not fill are as they were. -/
def Fr (ops : Array Oper) (n : Nat) (a0 a : Act) : Prop := ∀ t, (∀ j, j < n → dstOf ops j ≠ some t) → a.tmps[t]? = a0.tmps[t]?
/-- What an operation waits for is as it was told. -/
def Dp (ops : Array Oper) (md : Region.Mode) (n : Nat) (S : Nat → Value → World → Prop) (i : Nat) (a : Act) (w : World) : Prop := ∀ j d, j < n → Region.waitsFor md ops i j = true → dstOf ops j = some d → S j (a.eval (.tmp d)) w
def GuardOn (ops : Array Oper) (md : Region.Mode) (n : Nat) (S : Nat → Value → World → Prop) (i : Nat) (o : Oper) : Prop :=
  o.guard = none ∨ ∃ j b d, o.guard = some (j, b) ∧ j < n ∧ Region.waitsFor md ops i j = true ∧ dstOf ops j = some d ∧ ∀ v w, S j v w → v = .bool b
def GuardOff (ops : Array Oper) (md : Region.Mode) (n : Nat) (S : Nat → Value → World → Prop) (i : Nat) (o : Oper) : Prop :=
  ∃ j b d, o.guard = some (j, b) ∧ j < n ∧ Region.waitsFor md ops i j = true ∧ dstOf ops j = some d ∧ ∀ v w, S j v w → v = .bool (!b) ∨ v = undef
section
variable {P : Program} {ops : Array Oper} {md : Region.Mode} {W : World} {a0 : Act} {n : Nat} {al : Nat → Bool} {S : Nat → Value → World → Prop} {Q : Exit → Act → World → Prop} {i : Nat} {o : Oper}
theorem yielded_eval {a : Act} {j d : Nat} {b : Bool} (hd : dstOf ops j = some d) (he : a.eval (.tmp d) = .bool b) : yielded ops a.tmps j = some b := by
  unfold dstOf at hd
  have ht : a.tmps[d]? = some (.bool b) := by
    simp only [Act.eval, Array.getD_eq_getD_getElem?] at he
    cases h : a.tmps[d]? with
    | none => rw [h] at he; cases he
    | some v => rw [h] at he; rw [← he]; rfl
  unfold yielded
  rw [hd]
  simp [ht]
theorem GuardOn.wanted {a : Act} {w : World} (hg : GuardOn ops md n S i o) (hd : Dp ops md n S i a w) : Region.wanted o (yielded ops a.tmps) = true := by
  rcases hg with h | ⟨j, b, d, h1, h2, h3, h4, h5⟩
  · simp [Region.wanted, h]
  · have := h5 _ _ (hd j d h2 h3 h4)
    have hy := yielded_eval h4 this
    unfold Region.wanted
    rw [h1]
    simp [hy]
theorem step_run (hal : al i = false) (hg : GuardOn ops md n S i o) (h : ∀ (a : Act) (w : World), Cl W w → Fr ops n a0 a → Dp ops md n S i a w →
    ∃ v, (execOp a.eval o).run P w = .ok (.value v) w ∧ S i v w) : StepOk P ops md W a0 n al S Q i o := fun a w hw hf hd => by
  rw [if_pos (hg.wanted hd)]
  obtain ⟨v, h1, h2⟩ := h a w hw hf hd
  unfold Oper.wp
  rw [h1, Oper.upon_value]
  exact ⟨v, rfl, h2, Below.refl _ _, fun e => by rw [hal] at e; cases e⟩
theorem step_callH (hg : GuardOn ops md n S i o) (h : ∀ (a : Act) (w : World), Cl W w → Fr ops n a0 a → Dp ops md n S i a w →
    ∃ f args, (execOp a.eval o).run P w = .ok (.enter f args) w ∧ Calls P f args w fun e w' => ∃ v, e = .returned v ∧ S i v w' ∧ Below w.heap.size w w' ∧ (al i = true → ∃ b, home v = some b ∧ w.heap.size ≤ b ∧ b < w'.heap.size)) : StepOk P ops md W a0 n al S Q i o := fun a w hw hf hd => by
  rw [if_pos (hg.wanted hd)]
  obtain ⟨f, args, h1, h2⟩ := h a w hw hf hd
  unfold Oper.wp
  rw [h1, Oper.upon_enter]
  refine h2.mono fun e w' ⟨v, he, hs, hb, hh⟩ => ?_
  subst he
  exact ⟨v, rfl, hs, hb, hh⟩
theorem step_call (hal : al i = false) (hg : GuardOn ops md n S i o) (h : ∀ (a : Act) (w : World), Cl W w → Fr ops n a0 a → Dp ops md n S i a w →
    ∃ f args, (execOp a.eval o).run P w = .ok (.enter f args) w ∧ Calls P f args w fun e w' => ∃ v, e = .returned v ∧ S i v w' ∧ Below w.heap.size w w') : StepOk P ops md W a0 n al S Q i o :=
  step_callH hg fun a w hw hf hd => by
    obtain ⟨f, args, h1, h2⟩ := h a w hw hf hd
    exact ⟨f, args, h1, h2.mono fun _ _ ⟨v, he, hs, hb⟩ => ⟨v, he, hs, hb, fun e => by rw [hal] at e; cases e⟩⟩
theorem step_alloc {ob : Obj} (hg : GuardOn ops md n S i o) (h : ∀ ev w, (execOp ev o).run P w = .ok (.value (.pointer (some ⟨w.heap.size, 0, none⟩))) (w.alloc ob)) (hS : ∀ w : World, Cl W w → S i (.pointer (some ⟨w.heap.size, 0, none⟩)) (w.alloc ob)) : StepOk P ops md W a0 n al S Q i o := fun a w hw _ hd => by
  rw [if_pos (hg.wanted hd)]
  unfold Oper.wp
  rw [h, Oper.upon_value]
  exact ⟨_, rfl, hS w hw, below_new w ob, fun _ => ⟨_, rfl, Nat.le_refl _, by simp⟩⟩
def notDst (ops : Array Oper) (n : Nat) (t : Tmp) : Bool := (List.range n).all fun j => !(dstOf ops j == some t)
theorem eval_out {a : Act} (hf : Fr ops n a0 a) (t : Tmp) (hB : notDst ops n t = true) : a.eval (.tmp t) = a0.eval (.tmp t) := by
  have h := hf t fun j hj e => by
    have := List.all_eq_true.1 hB j (List.mem_range.2 hj)
    rw [e] at this
    simp at this
  simp only [Act.eval, Array.getD_eq_getD_getElem?, h]
end
section
variable {ops : Array Oper} {md : Region.Mode} {W : World} {a0 : Act} {n : Nat} {al : Nat → Bool} {S : Nat → Value → World → Prop} {Q : Exit → Act → World → Prop} {i : Nat} {o : Oper} {b : Nat} {l : List Int}
theorem step_el (hal : al i = false) (hg : GuardOn ops md n S i o) (h : Bx W b l) (t : Tmp) (ho : o.op = .load 51 (.tmp t)) (hB : notDst ops n t = true) (hx : a0.eval (.tmp t) = .pointer (some ⟨b, 0, none⟩)) (hS : S i = Is (.agg (ints .i64 l).toArray)) : StepOk Tryd.prog ops md W a0 n al S Q i o :=
  step_run hal hg fun a w hw hf _ => ⟨_, ex_load 51 (.tmp t) ho b 0 ((eval_out hf t hB).trans hx) (ints .i64 l) _ (h.next hw).range Tryd.underlying51 rfl (l26 h.2), by rw [hS]; exact rfl⟩
theorem step_by (hal : al i = false) (hg : GuardOn ops md n S i o) (h : By W b l) (t : Tmp) (ho : o.op = .load 22 (.tmp t)) (hB : notDst ops n t = true) (hx : a0.eval (.tmp t) = .pointer (some ⟨b, 0, none⟩)) (hS : S i = Is (.agg (ints .u8 l).toArray)) : StepOk Tryd.prog ops md W a0 n al S Q i o :=
  step_run hal hg fun a w hw hf _ => ⟨_, ex_load 22 (.tmp t) ho b 0 ((eval_out hf t hB).trans hx) (ints .u8 l) _ (h.next hw).range Tryd.underlying22 rfl (l22 h.2), by rw [hS]; exact rfl⟩
theorem step_alloc26 (hg : GuardOn ops md n S i o) (ho : o.op = .alloc 51) (hS : S i = IsZ W.heap.size) : StepOk Tryd.prog ops md W a0 n al S Q i o :=
  step_alloc hg (fun ev w => alloc26 ev o ho w) fun w hw => by rw [hS]; exact ⟨w.heap.size, rfl, Below.size hw, Arr.made w .i64 (zeros 16) 51, rfl⟩
theorem map1 (f : Operand → Value) (x : Operand) : #[x].map f = #[f x] := by simp
theorem map2 (f : Operand → Value) (x y : Operand) : #[x, y].map f = #[f x, f y] := by simp
/-- What the operation is told to read. -/
def Knows (ops : Array Oper) (md : Region.Mode) (W : World) (a0 : Act) (n : Nat) (S : Nat → Value → World → Prop) (i : Nat) (x : Operand) (v : Value) : Prop := ∀ (a : Act) (w : World), Cl W w → Fr ops n a0 a → Dp ops md n S i a w → a.eval x = v
theorem knows_out (t : Tmp) {v : Value} (hB : notDst ops n t = true) (hx : a0.eval (.tmp t) = v) : Knows ops md W a0 n S i (.tmp t) v := fun _ _ _ hf _ => (eval_out hf t hB).trans hx
theorem knows_in (j d : Nat) {v : Value} (hj : j < n) (hw : Region.waitsFor md ops i j = true) (hd : dstOf ops j = some d) (hS : S j = Is v) : Knows ops md W a0 n S i (.tmp d) v := fun a w _ _ hdp => by
  have h := hdp j d hj hw hd
  rw [hS] at h
  exact h
theorem knows_const (v : Value) : Knows ops md W a0 n S i (.const v) v := fun _ _ _ _ _ => rfl
theorem step_mv (hal : al i = false) (hg : GuardOn ops md n S i o) {x : Operand} {v : Value} (ho : o.op = .move x) (hS : S i = Is v) (hk : Knows ops md W a0 n S i x v) : StepOk Tryd.prog ops md W a0 n al S Q i o :=
  step_run hal hg fun a w hw hf hd => ⟨v, by
    have h := hk a w hw hf hd
    revert h
    generalize a.eval = ev
    intro h
    unfold execOp
    simp only [ho]
    simp [h, go_sem], by rw [hS]; exact rfl⟩
theorem step_pick (hal : al i = false) (hg : GuardOn ops md n S i o) {c x y : Operand} {b : Bool} {v : Value} (ho : o.op = .pick c x y) (hS : S i = Is v) (hc : Knows ops md W a0 n S i c (.bool b)) (hk : Knows ops md W a0 n S i (if b then x else y) v) : StepOk Tryd.prog ops md W a0 n al S Q i o :=
  step_run hal hg fun a w hw hf hd => ⟨v, by
    have h1 := hc a w hw hf hd
    have h2 := hk a w hw hf hd
    revert h1 h2
    generalize a.eval = ev
    intro h1 h2
    unfold execOp
    simp only [ho, h1]
    cases b <;> simp at h2 <;> simp [h2, go_sem], by rw [hS]; exact rfl⟩
theorem step_eq22 (hal : al i = false) (hg : GuardOn ops md n S i o) {x y : Operand} {l m : List Int} (ho : o.op = .binOp .eql 22 x y 22) (hl : l.length = 32) (hm : m.length = 32) (hS : S i = Is (.bool (decide (l = m)))) (hx : Knows ops md W a0 n S i x (.agg (ints .u8 l).toArray)) (hy : Knows ops md W a0 n S i y (.agg (ints .u8 m).toArray)) : StepOk Tryd.prog ops md W a0 n al S Q i o :=
  step_run hal hg fun a w hw hf hd => ⟨.bool (decide (l = m)), by
    have h1 := hx a w hw hf hd
    have h2 := hy a w hw hf hd
    revert h1 h2
    generalize a.eval = ev
    intro h1 h2
    have he := eq22 hl hm w
    have heg := egt22
    unfold execOp
    simp only [ho, h1, h2]
    go_simp, by rw [hS]; exact rfl⟩
theorem one_arg {x : Operand} {v : Value} (hx : Knows ops md W a0 n S i x v) : ∀ (a : Act) (w : World), Cl W w → Fr ops n a0 a → Dp ops md n S i a w → #[x].map a.eval = #[v] := fun a w hw hf hd => by
  rw [map1]
  rw [hx a w hw hf hd]
theorem two_args {x y : Operand} {u v : Value} (hx : Knows ops md W a0 n S i x u) (hy : Knows ops md W a0 n S i y v) : ∀ (a : Act) (w : World), Cl W w → Fr ops n a0 a → Dp ops md n S i a w → #[x, y].map a.eval = #[u, v] := fun a w hw hf hd => by
  rw [map2]
  rw [hx a w hw hf hd, hy a w hw hf hd]
/-- An operand that holds digits of a number. -/
def KnowsR (ops : Array Oper) (md : Region.Mode) (W : World) (a0 : Act) (n : Nat) (S : Nat → Value → World → Prop) (i : Nat) (x : Operand) (m : Nat) : Prop := ∀ (a : Act) (w : World), Cl W w → Fr ops n a0 a → Dp ops md n S i a w → ∃ A c ys, a.eval x = .slice A 16 c ∧ Rp ys m ∧ Nums w .i64 A (nl ys)
/-- A call that returns one value. -/
theorem step_to (hal : al i = false) (hg : GuardOn ops md n S i o) {f : FuncId} {xs : Array Operand} {ts : Array TypeId} {vs : Array Value} {v : Value} (ho : o.op = .call { callee := .value (.func f), args := xs, argTypes := ts }) (hcf : ∀ vs w, (callFunc f vs).run Tryd.prog w = .ok (.enter f vs) w)
    (hc : CallsTo f vs v) (hS : S i = Is v) (hv : ∀ (a : Act) (w : World), Cl W w → Fr ops n a0 a → Dp ops md n S i a w → xs.map a.eval = vs) : StepOk Tryd.prog ops md W a0 n al S Q i o :=
  step_call hal hg fun a w hw hf hd => ⟨f, vs, ex_fn rfl hcf ho vs (hv a w hw hf hd) w, (hc w).mono fun _ _ ⟨he, hb⟩ => ⟨v, he, by rw [hS]; exact rfl, hb⟩⟩
end
section
variable {ops : Array Oper} {md : Region.Mode} {W : World} {a0 : Act} {n : Nat} {al : Nat → Bool} {S : Nat → Value → World → Prop} {Q : Exit → Act → World → Prop} {i : Nat} {o : Oper}
end
theorem cf9 (vs : Array Value) (w : World) : (callFunc 23 vs).run Tryd.prog w = .ok (.enter 23 vs) w := by go_simp
theorem cf11 (vs : Array Value) (w : World) : (callFunc 29 vs).run Tryd.prog w = .ok (.enter 29 vs) w := by go_simp
theorem cf16 (vs : Array Value) (w : World) : (callFunc 24 vs).run Tryd.prog w = .ok (.enter 24 vs) w := by go_simp
theorem cf18 (vs : Array Value) (w : World) : (callFunc 41 vs).run Tryd.prog w = .ok (.enter 41 vs) w := by go_simp
theorem cf20 (vs : Array Value) (w : World) : (callFunc 42 vs).run Tryd.prog w = .ok (.enter 42 vs) w := by go_simp
theorem cf22 (vs : Array Value) (w : World) : (callFunc 27 vs).run Tryd.prog w = .ok (.enter 27 vs) w := by go_simp
theorem cf27 (vs : Array Value) (w : World) : (callFunc 28 vs).run Tryd.prog w = .ok (.enter 28 vs) w := by go_simp
end Go.Proofs.YtkblmdakejmmhaaDoor

/- More steps of regions: the first digit of a number, comparisons of Booleans, zero values. -/
namespace Go.Proofs.YtkblmdakejmmhaaDoor
open Go Go.RowKit

section
variable {ops : Array Oper} {md : Region.Mode} {W : World} {a0 : Act} {n : Nat} {al : Nat → Bool} {S : Nat → Value → World → Prop} {Q : Exit → Act → World → Prop} {i : Nat} {o : Oper}
theorem built22z : Tryd.prog.built 22 [] = some (ints .u8 (rbytes 0)).toArray := by
  have e : rbytes 0 = zeros 32 := by decide +kernel
  have h : Tryd.prog.built 22 [] = some (ints .u8 (zeros 32)).toArray := by kernel_rfl
  exact h.trans (by rw [e])
theorem step_zero22 (hal : al i = false) (hg : GuardOn ops md n S i o) (ho : o.op = .build 22 #[]) (hS : S i = Is (.agg (ints .u8 (rbytes 0)).toArray)) : StepOk Tryd.prog ops md W a0 n al S Q i o :=
  step_run hal hg fun a w hw hf hd => ⟨.agg (ints .u8 (rbytes 0)).toArray, by
    generalize a.eval = ev
    have h := run_build (P := Tryd.prog) w 22 #[] _ built22z
    unfold execOp
    simp only [ho, Sem.run_bind]
    simp only [List.map_toArray, List.map_nil, h, Result.andThen_ok, Sem.run_pure], by rw [hS]; exact rfl⟩
end
theorem By.past {w : World} {b : Nat} {l : List Int} (h : By w b l) {b' : Nat} (vs : List Value) (hb : b' ≠ b) : By (w.setCells b' 0 vs) b l := ⟨h.1.past vs (.inl hb), h.2⟩
/-- The first digit of a number. -/
def dig0 (m : Nat) : Nat := m % 65536
theorem Nm.zeros : Nm (zeros 16) 0 := .mk zeros_el (by rw [ev_zeros]; rfl)
end Go.Proofs.YtkblmdakejmmhaaDoor

/- Roots modulo the prime: which elements have one, and what it is. -/
namespace Go.Proofs.YtkblmdakejmmhaaDoor
open Go.RowKit

def rootL (x : List Int) : List Int := if okL x then (if oddL x then ngL x else rtL x) else zeros 16
theorem two_half_eqv : Eqv (2 ^ ((NT.PN - 1) / 2)) (-1) := by
  have h := int_pow_mod 2 ((NT.PN - 1) / 2)
  have e : (2 % P).toNat = 2 := by decide
  rw [e, NT.two_half] at h
  refine h.trans ?_
  show _ % P = _ % P
  decide
theorem pow42 (u : Int) (k : Nat) : u * u ^ k * u ^ k * (u * u ^ k * u ^ k) = u ^ (2 * (2 * k) + 2) := by
  rw [show 2 * (2 * k) + 2 = k + k + k + k + 1 + 1 by omega, Int.pow_succ, Int.pow_succ, Int.pow_add, Int.pow_add, Int.pow_add]
  generalize u ^ k = t
  simp only [Int.mul_left_comm, Int.mul_comm]
theorem sq_split (p i : Int) : p * (i - 1) * (p * (i - 1)) = p * p * (i * i) + p * p - p * p * (2 * i) := by
  have e1 : p * (i - 1) = p * i - p := by rw [Int.mul_sub, Int.mul_one]
  have e2 : p * p * (2 * i) = 2 * (p * p * i) := by rw [Int.mul_left_comm]
  have e3 : (p * i) * (p * i) = p * p * (i * i) := by simp only [Int.mul_left_comm, Int.mul_comm]
  have e4 : (p * i) * p = p * p * i := by rw [Int.mul_assoc, Int.mul_comm i p, ← Int.mul_assoc]
  have e5 : p * (p * i) = p * p * i := by rw [Int.mul_assoc]
  rw [e1, Int.sub_mul, Int.mul_sub, Int.mul_sub, e2, e3, e4, e5]
  omega
/-- The half of the order says whether a number has a root. -/
theorem rt_sq {x : List Int} {m : Nat} (hx : Nm x m) (h : Eqv (ev x ^ ((NT.PN - 1) / 2)) 1) : Eqv (ev (mulL (rtL x) (rtL x))) (ev x) := by
  have E := hx.1
  have hD : Eqv (ev (dblL x)) (2 * ev x) := (add_eqv E E).trans (Eqv.of (by omega))
  have hb : Eqv (ev (rbL x)) ((2 * ev x) ^ ((NT.PN - 5) / 8)) := by
    have h1 := powL_num (dblL_el E) (onesL_byt (a := 253) (b := 15) (by omega) (by omega)) (onesL_length 253 15)
    rw [bv_root] at h1
    exact h1.trans (hD.pow _)
  have hi : Eqv (ev (riL x)) (2 * ev x * (2 * ev x) ^ ((NT.PN - 5) / 8) * (2 * ev x) ^ ((NT.PN - 5) / 8)) :=
    (mul_eqv (mulL_el (dblL_el E) (rbL_el E)).1 (rbL_el E)).trans (((mul_eqv (dblL_el E) (rbL_el E)).trans (hD.mul hb)).mul hb)
  have h1 : Eqv (ev (smallL 1)) 1 := by rw [small_ev 1 (by omega)]; exact Eqv.refl _
  have hs : Eqv (ev (cy (minus (riL x) (smallL 1)))) (2 * ev x * (2 * ev x) ^ ((NT.PN - 5) / 8) * (2 * ev x) ^ ((NT.PN - 5) / 8) - 1) := (sub_eqv (riL_el E) one_el).trans (hi.sub h1)
  have hrt : Eqv (ev (rtL x)) (ev x * (2 * ev x) ^ ((NT.PN - 5) / 8) * (2 * ev x * (2 * ev x) ^ ((NT.PN - 5) / 8) * (2 * ev x) ^ ((NT.PN - 5) / 8) - 1)) :=
    (mul_eqv (mulL_el E (rbL_el E)).1 (subL_el (riL_el E) one_el).1).trans (((mul_eqv E (rbL_el E)).trans ((Eqv.refl _).mul hb)).mul hs)
  have hsq := (mul_eqv (rtL_el E) (rtL_el E)).trans (hrt.mul hrt)
  have e1 : (NT.PN - 1) / 2 = 2 * (2 * ((NT.PN - 5) / 8)) + 2 := by decide
  -- i times i is -1
  have hii : Eqv ((2 * ev x * (2 * ev x) ^ ((NT.PN - 5) / 8) * (2 * ev x) ^ ((NT.PN - 5) / 8)) * (2 * ev x * (2 * ev x) ^ ((NT.PN - 5) / 8) * (2 * ev x) ^ ((NT.PN - 5) / 8))) (-1) := by
    have h2 : Eqv ((2 * ev x) ^ ((NT.PN - 1) / 2)) (-1) := by
      rw [Int.mul_pow]
      have := two_half_eqv.mul h
      rwa [Int.mul_one] at this
    rw [e1, ← pow42] at h2
    exact h2
  refine hsq.trans ?_
  generalize (2 * ev x) ^ ((NT.PN - 5) / 8) = t at *
  generalize ev x = a at *
  have hsplit : a * t * (2 * a * t * t - 1) * (a * t * (2 * a * t * t - 1)) = (a * t) * (a * t) * ((2 * a * t * t) * (2 * a * t * t)) + (a * t) * (a * t) - (a * t) * (a * t) * (2 * (2 * a * t * t)) := by
    exact sq_split (a * t) (2 * a * t * t)
  have h3 : Eqv (a * t * (2 * a * t * t - 1) * (a * t * (2 * a * t * t - 1))) ((a * t) * (a * t) * (-1) + (a * t) * (a * t) - (a * t) * (a * t) * (2 * (2 * a * t * t))) := by
    rw [hsplit]
    exact (((Eqv.refl _).mul hii).add (Eqv.refl _)).sub (Eqv.refl _)
  refine h3.trans ?_
  have e5 : (a * t) * (a * t) * (-1) + (a * t) * (a * t) - (a * t) * (a * t) * (2 * (2 * a * t * t)) = (-a) * ((2 * a * t * t) * (2 * a * t * t)) := by
    have : (a * t) * (a * t) * (2 * (2 * a * t * t)) = a * ((2 * a * t * t) * (2 * a * t * t)) := by
      simp only [Int.mul_assoc, Int.mul_left_comm, Int.mul_comm]
    rw [this, Int.neg_mul]
    omega
  rw [e5]
  have := (Eqv.refl (-a)).mul hii
  refine this.trans (Eqv.of ?_)
  omega
theorem Nm.zero_iff {x : List Int} {m : Nat} (h : Nm x m) : Eqv (ev x) 0 ↔ m = 0 := by
  show ev x % P = 0 % P ↔ _
  rw [h.int, show (0 : Int) % P = 0 from rfl]
  omega
theorem Nm.one_iff {x : List Int} {m : Nat} (h : Nm x m) (k : Nat) : Eqv (ev x ^ k) 1 ↔ m ^ k % NT.PN = 1 := by
  have h1 := int_pow_mod (ev x) k
  rw [h.2] at h1
  have hl : m ^ k % NT.PN < NT.PN := Nat.mod_lt _ (by decide)
  generalize m ^ k % NT.PN = t at *
  have h2 : ((t : Int)) % P = t := by rw [← pn_int, ← Int.natCast_emod, Nat.mod_eq_of_lt hl]
  have e1 : (1 : Int) % P = 1 := rfl
  constructor
  · intro h3
    have h4 : (t : Int) % P = 1 % P := h1.symm.trans h3
    rw [h2, e1] at h4
    omega
  · intro h3
    subst h3
    exact h1
theorem rt_zero {x : List Int} (E : El x) (h : Eqv (ev x) 0) : Eqv (ev (mulL (rtL x) (rtL x))) (ev x) := by
  have h1 : Eqv (ev (rtL x)) 0 := by
    refine (mul_eqv (mulL_el E (rbL_el E)).1 (subL_el (riL_el E) one_el).1).trans ?_
    have h2 := (mul_eqv E (rbL_el E)).trans (h.mul (Eqv.refl (ev (rbL x))))
    rw [Int.zero_mul] at h2
    have h3 := h2.mul (Eqv.refl (ev (cy (minus (riL x) (smallL 1)))))
    rwa [Int.zero_mul] at h3
  have h4 := (mul_eqv (rtL_el E) (rtL_el E)).trans (h1.mul h1)
  rw [Int.mul_zero] at h4
  exact h4.trans h.symm
theorem sq_half {y a : Int} (h : Eqv (y * y) a) : Eqv a 0 ∨ Eqv (a ^ ((NT.PN - 1) / 2)) 1 := by
  by_cases h0 : Eqv y 0
  · left
    have := h0.mul h0
    rw [Int.mul_zero] at this
    exact h.symm.trans this
  · right
    have h1 := fermat_eqv h0
    have e : NT.PN - 1 = 2 * ((NT.PN - 1) / 2) := by decide
    rw [e, Int.pow_mul, show y ^ 2 = y * y by rw [Int.pow_succ, Int.pow_succ, Int.pow_zero, Int.one_mul]] at h1
    exact (h.symm.pow _).trans h1
theorem ok_sq {x : List Int} {m : Nat} (hx : Nm x m) : okL x = isSq m := by
  have E := hx.1
  rw [Bool.eq_iff_iff]
  unfold okL isSq
  rw [decide_eq_true_iff, Bool.or_eq_true, decide_eq_true_iff, decide_eq_true_iff, red_iff (mulL_el (rtL_el E) (rtL_el E)).1 E, ← hx.zero_iff, ← hx.one_iff]
  constructor
  · intro h
    exact sq_half ((mul_eqv (rtL_el E) (rtL_el E)).symm.trans h)
  · rintro (h | h)
    · exact rt_zero E h
    · exact rt_sq hx h
theorem odd_num {x : List Int} {m : Nat} (h : Nm x m) : ((red x).getD 0 0 % 2 == 1) = decide (m % 2 = 1) := by
  obtain ⟨hd, he⟩ := red_dg h.1
  obtain ⟨a, ha, hr⟩ := dg_nat hd
  rw [he, h.2] at hr
  have h2 : (nl a)[0]? = some ((m % 65536 : Nat) : Int) := by rw [hr.eq]; simp [dgN, nl]
  rw [ha] at h2
  rw [List.getD_eq_getElem?_getD, h2, Bool.eq_iff_iff, decide_eq_true_iff]
  simp
  omega
/-- The root, where there is one: it makes the number as its square, and is even. -/
theorem root_num {x : List Int} {m : Nat} (hx : Nm x m) (hk : okL x = true) : ∃ k, Nm (rootL x) k ∧ k * k % NT.PN = m ∧ k % 2 = 0 := by
  have E := hx.1
  obtain ⟨k, hkn⟩ : ∃ k, k = (ev (rtL x) % P).toNat := ⟨_, rfl⟩
  have hr : Nm (rtL x) k := ⟨rtL_el E, hkn.symm⟩
  have hsq : k * k % NT.PN = m := by
    have h1 := hr.mul hr
    have h2 := of_decide_eq_true hk
    exact (h1.eqv hx).1 h2
  have ho := odd_num hr
  by_cases hodd : k % 2 = 1
  · have hn := hr.neg
    have hl := hr.lt
    have e : (0 + NT.PN - k) % NT.PN = NT.PN - k := by rw [Nat.zero_add, Nat.mod_eq_of_lt (by omega)]
    rw [e] at hn
    refine ⟨NT.PN - k, ?_, ?_, ?_⟩
    · have e2 : rootL x = ngL x := by
        unfold rootL oddL
        rw [hk, ho, decide_eq_true hodd]; rfl
      rw [e2]; exact hn
    · have h1 : ((NT.PN - k) * (NT.PN - k) % NT.PN : Nat) = k * k % NT.PN := by
        have h2 := hn.mul hn
        have h3 : Eqv (ev (cy (minus (zeros 16) (rtL x))) * ev (cy (minus (zeros 16) (rtL x)))) (ev (rtL x) * ev (rtL x)) := by
          have := (neg_eqv hr.1).mul (neg_eqv hr.1)
          rwa [Int.neg_mul_neg] at this
        have h4 := (h2.eqv (hr.mul hr)).1 ((red_iff h2.1 (hr.mul hr).1).2 ((mul_eqv hn.1 hn.1).trans (h3.trans (mul_eqv hr.1 hr.1).symm)))
        exact h4
      rw [h1, hsq]
    · have : NT.PN % 2 = 1 := by decide
      omega
  · refine ⟨k, ?_, hsq, by omega⟩
    have e2 : rootL x = rtL x := by
      unfold rootL oddL
      rw [hk, ho, decide_eq_false hodd]; rfl
    rw [e2]; exact hr
/-- The bytes of a number, taken as an element. -/
theorem dgs_byd (a : List Nat) (hl : a.length = 16) (hd : Digs a) : dgs (byd (nl a)) = nl a := by
  apply List.ext_getElem?
  intro i
  by_cases h : i < 16
  · rw [dgs_at _ h, nl_at (by omega)]
    have h1 := byd_even (nl a) h
    have h2 := byd_odd (nl a) h
    have h3 := nl_at (l := a) (i := i) (by omega)
    have h4 := getD_dig hd i
    rw [List.getD_eq_getElem?_getD, List.getD_eq_getElem?_getD, h1, h2, List.getD_eq_getElem?_getD, h3]
    simp only [Option.getD_some]
    congr 1
    omega
  · rw [List.getElem?_eq_none (by rw [dgs_length]; omega), List.getElem?_eq_none (by rw [nl_length]; omega)]
theorem of_bytes (m : Nat) (hm : m < NT.PN) : Nm (ofL (rbytes m)) m := by
  obtain ⟨h1, h2, h3⟩ := dgN_rp 16 m (by have : NT.PN < 65536 ^ 16 := by decide
                                         omega)
  have e := dgs_byd (dgN m 16) h1 h2
  have hb : Byt (rbytes m) := fun x hx => by
    unfold rbytes byd at hx
    obtain ⟨i, _, rfl⟩ := List.mem_map.1 hx
    exact ⟨Int.emod_nonneg _ (by omega), Int.emod_lt_of_pos _ (by omega)⟩
  have hlast : (dgs (rbytes m)).getD 15 0 < 32768 := by
    unfold rbytes
    rw [e]
    have h4 := dv_cut (l := dgN m 16) (i := 15) (by omega)
    rw [h3] at h4
    rw [List.getD_eq_getElem?_getD, nl_at (by omega), Option.getD_some]
    have e15 : 65536 ^ 15 = 1766847064778384329583297500742918515827483896875618958121606201292619776 := by decide
    rw [e15] at h4
    unfold NT.PN at hm
    generalize (dgN m 16).getD 15 0 = d at *
    generalize dv ((dgN m 16).take 15) = t at *
    generalize dv ((dgN m 16).drop (15 + 1)) = u at *
    omega
  have h0 : 0 ≤ (dgs (rbytes m)).getD 15 0 := by
    unfold rbytes
    rw [e, List.getD_eq_getElem?_getD, nl_at (by omega), Option.getD_some]
    omega
  have hs : ofL (rbytes m) = nl (dgN m 16) := by
    unfold ofL
    rw [Int.emod_eq_of_lt h0 hlast]
    have : dgs (rbytes m) = nl (dgN m 16) := e
    rw [this]
    apply List.ext_getElem?
    intro i
    by_cases h : 15 = i
    · subst h
      rw [List.getElem?_set_self (by rw [nl_length]; omega), nl_at (by omega), List.getD_eq_getElem?_getD, nl_at (by omega)]; rfl
    · rw [List.getElem?_set_ne h]
  refine .mk (ofL_el hb) ?_
  rw [hs, ev_nl, h3]
  apply Int.emod_eq_of_lt (by omega)
  rw [← pn_int]
  exact Int.ofNat_lt.2 hm
theorem rbytes_byt (m : Nat) : Byt (rbytes m) := fun x hx => by
  unfold rbytes byd at hx
  obtain ⟨i, _, rfl⟩ := List.mem_map.1 hx
  exact ⟨Int.emod_nonneg _ (by omega), Int.emod_lt_of_pos _ (by omega)⟩
end Go.Proofs.YtkblmdakejmmhaaDoor

/- Steps of regions: pairs, and whether a number is a square. -/
namespace Go.Proofs.YtkblmdakejmmhaaDoor
open Go Go.RowKit
section
variable {ops : Array Oper} {md : Region.Mode} {W : World} {a0 : Act} {n : Nat} {al : Nat → Bool} {S : Nat → Value → World → Prop} {Q : Exit → Act → World → Prop} {i : Nat} {o : Oper}
theorem step_fst (hal : al i = false) (hg : GuardOn ops md n S i o) {x : Operand} {u v : Value} (ho : o.op = .extract x 0) (hS : S i = Is u) (hx : Knows ops md W a0 n S i x (.tuple #[u, v])) : StepOk Tryd.prog ops md W a0 n al S Q i o :=
  step_run hal hg fun a w hw hf hd => ⟨u, by
    have h := hx a w hw hf hd
    revert h
    generalize a.eval = ev
    intro h
    unfold execOp
    simp only [ho, h]
    go_simp, by rw [hS]; exact rfl⟩
theorem step_snd (hal : al i = false) (hg : GuardOn ops md n S i o) {x : Operand} {u v : Value} (ho : o.op = .extract x 1) (hS : S i = Is v) (hx : Knows ops md W a0 n S i x (.tuple #[u, v])) : StepOk Tryd.prog ops md W a0 n al S Q i o :=
  step_run hal hg fun a w hw hf hd => ⟨v, by
    have h := hx a w hw hf hd
    revert h
    generalize a.eval = ev
    intro h
    unfold execOp
    simp only [ho, h]
    go_simp, by rw [hS]; exact rfl⟩
end
theorem cf29 (vs : Array Value) (w : World) : (callFunc 40 vs).run Tryd.prog w = .ok (.enter 40 vs) w := by go_simp
end Go.Proofs.YtkblmdakejmmhaaDoor
