/- Texts of this proof, laid together: Spec3, Spec4. -/
import Derived.Test.YtpaopdjbhmdfjaaDoorSpec2M
import Derived.Deep.Cut
import Derived.Test.YtpaopdjbhmdfjaaDoorRootMathM
/- More steps of regions: the first digit of a number, comparisons of Booleans, zero values. -/
namespace Go.Proofs.YtpaopdjbhmdfjaaDoor
open Go Go.RowKit

section
variable {ops : Array Oper} {md : Region.Mode} {W : World} {a0 : Act} {n : Nat} {al : Nat → Bool} {S : Nat → Value → World → Prop} {Q : Exit → Act → World → Prop} {i : Nat} {o : Oper}
theorem step_idx0 (hal : al i = false) (hg : GuardOn ops md n S i o) {x : Operand} {g f c : Nat} (ho : o.op = .indexAddr 32 x (.const (.int .i64 0))) (hS : S i = Is (.pointer (some ⟨g, f, none⟩))) (hx : Knows ops md W a0 n S i x (.slice (some ⟨g, f, none⟩) 16 c)) : StepOk Tryd.prog ops md W a0 n al S Q i o :=
  step_run hal hg fun a w hw hf hd => ⟨.pointer (some ⟨g, f, none⟩), by
    have h := hx a w hw hf hd
    have hc : a.eval (.const (.int .i64 0)) = .int .i64 0 := rfl
    revert h hc
    generalize a.eval = ev
    intro h hc
    unfold execOp
    simp only [ho, h, hc]
    go_simp, by rw [hS]; exact rfl⟩
theorem step_ld3 (hal : al i = false) (hg : GuardOn ops md n S i o) {x : Operand} {g f : Nat} {v : Value} (ho : o.op = .load 3 x) (hS : S i = Is v) (hx : Knows ops md W a0 n S i x (.pointer (some ⟨g, f, none⟩))) (hv : ∃ k, v = .int .i64 k) (hc : ∀ w, Cl W w → w.cell? ⟨g, f, none⟩ = some v) : StepOk Tryd.prog ops md W a0 n al S Q i o :=
  step_run hal hg fun a w hw hf hd => ⟨v, by
    have h := hx a w hw hf hd
    have hcc := hc w hw
    obtain ⟨k, rfl⟩ := hv
    revert h
    generalize a.eval = ev
    intro h
    unfold execOp
    simp only [ho, h]
    go_simp, by rw [hS]; exact rfl⟩
theorem step_rem2 (hal : al i = false) (hg : GuardOn ops md n S i o) {x : Operand} {q : Nat} (hq : q < 65536) (ho : o.op = .binOp .rem 3 x (.const (.int .i64 2)) 3) (hS : S i = Is (.int .i64 ((q % 2 : Nat) : Int))) (hx : Knows ops md W a0 n S i x (.int .i64 (q : Int))) : StepOk Tryd.prog ops md W a0 n al S Q i o :=
  step_run hal hg fun a w hw hf hd => ⟨.int .i64 ((q % 2 : Nat) : Int), by
    have h := hx a w hw hf hd
    have hc : a.eval (.const (.int .i64 2)) = .int .i64 2 := rfl
    have e : ((q % 2 : Nat) : Int) = (q : Int) % 2 := by omega
    rw [e]
    revert h hc
    generalize a.eval = ev
    intro h hc
    unfold execOp
    simp only [ho, h, hc]
    go_simp
    exact Int.tmod_eq_emod_of_nonneg (by omega), by rw [hS]; exact rfl⟩
theorem step_is1 (hal : al i = false) (hg : GuardOn ops md n S i o) {x : Operand} {q : Nat} {b : Bool} (ho : o.op = .binOp .eql 3 x (.const (.int .i64 1)) 3) (hS : S i = Is (.bool b)) (hb : b = ((q : Int) == 1)) (hx : Knows ops md W a0 n S i x (.int .i64 (q : Int))) : StepOk Tryd.prog ops md W a0 n al S Q i o :=
  step_run hal hg fun a w hw hf hd => ⟨.bool b, by
    have h := hx a w hw hf hd
    have hc : a.eval (.const (.int .i64 1)) = .int .i64 1 := rfl
    rw [hb]
    revert h hc
    generalize a.eval = ev
    intro h hc
    unfold execOp
    simp only [ho, h, hc]
    go_simp, by rw [hS]; exact rfl⟩
theorem step_is0 (hal : al i = false) (hg : GuardOn ops md n S i o) {x : Operand} {q : Nat} {b : Bool} (ho : o.op = .binOp .neq 3 x (.const (.int .i64 0)) 3) (hS : S i = Is (.bool b)) (hb : b = ((q : Int) != 0)) (hx : Knows ops md W a0 n S i x (.int .i64 (q : Int))) : StepOk Tryd.prog ops md W a0 n al S Q i o :=
  step_run hal hg fun a w hw hf hd => ⟨.bool b, by
    have h := hx a w hw hf hd
    have hc : a.eval (.const (.int .i64 0)) = .int .i64 0 := rfl
    rw [hb]
    revert h hc
    generalize a.eval = ev
    intro h hc
    unfold execOp
    simp only [ho, h, hc]
    go_simp, by rw [hS]; exact rfl⟩
theorem step_eqb (hal : al i = false) (hg : GuardOn ops md n S i o) {x y : Operand} {b : Bool} (ho : o.op = .binOp .eql 4 x y 4) (hS : S i = Is (.bool true)) (hx : Knows ops md W a0 n S i x (.bool b)) (hy : Knows ops md W a0 n S i y (.bool b)) : StepOk Tryd.prog ops md W a0 n al S Q i o :=
  step_run hal hg fun a w hw hf hd => ⟨.bool true, by
    have h1 := hx a w hw hf hd
    have h2 := hy a w hw hf hd
    revert h1 h2
    generalize a.eval = ev
    intro h1 h2
    unfold execOp
    simp only [ho, h1, h2]
    cases b <;> go_simp, by rw [hS]; exact rfl⟩
theorem step_neb (hal : al i = false) (hg : GuardOn ops md n S i o) {x y : Operand} {b : Bool} (ho : o.op = .binOp .neq 4 x y 4) (hS : S i = Is (.bool false)) (hx : Knows ops md W a0 n S i x (.bool b)) (hy : Knows ops md W a0 n S i y (.bool b)) : StepOk Tryd.prog ops md W a0 n al S Q i o :=
  step_run hal hg fun a w hw hf hd => ⟨.bool false, by
    have h1 := hx a w hw hf hd
    have h2 := hy a w hw hf hd
    revert h1 h2
    generalize a.eval = ev
    intro h1 h2
    unfold execOp
    simp only [ho, h1, h2]
    cases b <;> go_simp, by rw [hS]; exact rfl⟩
theorem step_zero26 (hal : al i = false) (hg : GuardOn ops md n S i o) (ho : o.op = .build 26 #[]) (hS : S i = Is (.agg (ints .i64 (zeros 16)).toArray)) : StepOk Tryd.prog ops md W a0 n al S Q i o :=
  step_run hal hg fun a w hw hf hd => ⟨.agg (ints .i64 (zeros 16)).toArray, by
    generalize a.eval = ev
    have h := built26z
    unfold execOp
    simp only [ho]
    go_simp
    rfl, by rw [hS]; exact rfl⟩
theorem built22z : Tryd.prog.built 22 [] = some (ints .u8 (rbytes 0)).toArray := by
  have e : rbytes 0 = zeros 32 := by decide +kernel
  have h : Tryd.prog.built 22 [] = some (ints .u8 (zeros 32)).toArray := by kernel_rfl
  exact h.trans (by rw [e])
theorem step_zero22 (hal : al i = false) (hg : GuardOn ops md n S i o) (ho : o.op = .build 22 #[]) (hS : S i = Is (.agg (ints .u8 (rbytes 0)).toArray)) : StepOk Tryd.prog ops md W a0 n al S Q i o :=
  step_run hal hg fun a w hw hf hd => ⟨.agg (ints .u8 (rbytes 0)).toArray, by
    generalize a.eval = ev
    have h := run_build (P := Tryd.prog) w 22 #[] _ built22z
    unfold execOp
    simp only [ho, Sem.run_bind]
    simp only [List.map_toArray, List.map_nil, h, Result.andThen_ok, Sem.run_pure], by rw [hS]; exact rfl⟩
theorem step_rsmallK (hg : GuardOn ops md n S i o) {x : Operand} (m : Nat) (hm : m < 65536) {ts : Array TypeId} (ho : o.op = .call { callee := .value (.func 18), args := #[x], argTypes := ts }) (hcf : ∀ vs w, (callFunc 18 vs).run Tryd.prog w = .ok (.enter 18 vs) w) (hS : S i = IsR W.heap.size m) (hx : Knows ops md W a0 n S i x (.int .i64 (m : Int))) : StepOk Tryd.prog ops md W a0 n al S Q i o :=
  step_rout hg ho hcf hS fun a w hw hf hd => ⟨_, rfl, by rw [map1, hx a w hw hf hd]; exact rsmall_out m hm w⟩
end
theorem By.past {w : World} {b : Nat} {l : List Int} (h : By w b l) {b' : Nat} (vs : List Value) (hb : b' ≠ b) : By (w.setCells b' 0 vs) b l := ⟨h.1.past vs (.inl hb), h.2⟩
theorem nums_past {w : World} {k : IntKind} {A : Option Addr} {xs : List Int} (h : Nums w k A xs) {b : Nat} (vs : List Value) (hb : ∀ g o s, A = some ⟨g, o, s⟩ → b ≠ g) : Nums (w.setCells b 0 vs) k A xs := fun hp => by
  obtain ⟨g, off, e, hlt, hc⟩ := h hp
  have hs := setCells_frame b vs 0 w
  refine ⟨g, off, e, by rw [setCells_size]; exact hlt, fun i hi => ?_⟩
  rw [World.cell?_of_block (a := ⟨g, off + i, none⟩) (hs.2.2.2.2 g (fun e2 => hb g off none e e2.symm))]
  exact hc i hi
/-- The first digit of a number. -/
def dig0 (m : Nat) : Nat := m % 65536
theorem Rp.first {a : List Nat} {m : Nat} (h : Rp a m) : (nl a)[0]? = some ((dig0 m : Nat) : Int) := by
  rw [h.eq]; simp [dgN, nl, dig0]
theorem Nm.odd {x : List Int} {m : Nat} (h : Nm x m) : CallsTo 49 #[.agg (ints .i64 x).toArray] (.bool (((dig0 m % 2 : Nat) : Int) == 1)) := by
  have h1 := c_odd h.1
  obtain ⟨hd, he⟩ := red_dg h.1
  obtain ⟨a, ha, hr⟩ := dg_nat hd
  rw [he, h.2] at hr
  have h2 := hr.first
  rw [ha] at h2
  rw [List.getD_eq_getElem?_getD, h2] at h1
  have e : ((dig0 m % 2 : Nat) : Int) = (dig0 m : Int) % 2 := by omega
  rw [e]; exact h1
theorem Nm.equal {x y : List Int} {m n : Nat} (h : Nm x m) (k : Nm y n) : CallsTo 39 #[.agg (ints .i64 x).toArray, .agg (ints .i64 y).toArray] (.bool (decide (m = n))) := by
  have h1 := c_equal h.1 k.1
  rwa [decide_eq_decide.2 (h.eqv k)] at h1
theorem Nm.zeros : Nm (zeros 16) 0 := .mk zeros_el (by rw [ev_zeros]; rfl)
end Go.Proofs.YtpaopdjbhmdfjaaDoor

/- Steps of regions: pairs, and whether a number is a square. -/
namespace Go.Proofs.YtpaopdjbhmdfjaaDoor
open Go Go.RowKit
section
variable {ops : Array Oper} {md : Region.Mode} {W : World} {a0 : Act} {n : Nat} {al : Nat → Bool} {S : Nat → Value → World → Prop} {Q : Exit → Act → World → Prop} {i : Nat} {o : Oper}
theorem step_fst (hal : al i = false) (hg : GuardOn ops md n S i o) {x : Operand} {u v : Value} (ho : o.op = .extract x 0) (hS : S i = Is u) (hx : Knows ops md W a0 n S i x (.tuple #[u, v])) : StepOk Tryd.prog ops md W a0 n al S Q i o :=
  step_run hal hg fun a w hw hf hd => ⟨u, by
    have h := hx a w hw hf hd
    revert h
    generalize a.eval = ev
    intro h
    unfold execOp
    simp only [ho, h]
    go_simp, by rw [hS]; exact rfl⟩
theorem step_snd (hal : al i = false) (hg : GuardOn ops md n S i o) {x : Operand} {u v : Value} (ho : o.op = .extract x 1) (hS : S i = Is v) (hx : Knows ops md W a0 n S i x (.tuple #[u, v])) : StepOk Tryd.prog ops md W a0 n al S Q i o :=
  step_run hal hg fun a w hw hf hd => ⟨v, by
    have h := hx a w hw hf hd
    revert h
    generalize a.eval = ev
    intro h
    unfold execOp
    simp only [ho, h]
    go_simp, by rw [hS]; exact rfl⟩
theorem step_rsquare (hal : al i = false) (hg : GuardOn ops md n S i o) {x : Operand} {ts : Array TypeId} {m : Nat} (hm : m < NT.PN) (ho : o.op = .call { callee := .value (.func 22), args := #[x], argTypes := ts }) (hcf : ∀ vs w, (callFunc 22 vs).run Tryd.prog w = .ok (.enter 22 vs) w) (hS : S i = Is (.bool (isSq m))) (hx : KnowsR ops md W a0 n S i x m) : StepOk Tryd.prog ops md W a0 n al S Q i o :=
  step_call hal hg fun a w hw hf hd => by
    obtain ⟨A, c, ys, h1, h2, h3⟩ := hx a w hw hf hd
    refine ⟨22, #[.slice A 16 c], ex_fn rfl hcf ho _ (by rw [map1, h1]) w, (rsquare_walk h2 hm h3).mono fun _ _ ⟨he, hb⟩ => ⟨_, he, by rw [hS]; exact rfl, hb⟩⟩
theorem step_rzero (hal : al i = false) (hg : GuardOn ops md n S i o) {x : Operand} {ts : Array TypeId} {m : Nat} (ho : o.op = .call { callee := .value (.func 23), args := #[x], argTypes := ts }) (hcf : ∀ vs w, (callFunc 23 vs).run Tryd.prog w = .ok (.enter 23 vs) w) (hS : S i = Is (.bool (decide (m = 0)))) (hx : KnowsR ops md W a0 n S i x m) : StepOk Tryd.prog ops md W a0 n al S Q i o :=
  step_call hal hg fun a w hw hf hd => by
    obtain ⟨A, c, ys, h1, h2, h3⟩ := hx a w hw hf hd
    refine ⟨23, #[.slice A 16 c], ex_fn rfl hcf ho _ (by rw [map1, h1]) w, (rzero_walk h2 h3).mono fun _ _ ⟨he, hb⟩ => ⟨_, he, by rw [hS]; exact rfl, hb⟩⟩
end
theorem cf29 (vs : Array Value) (w : World) : (callFunc 63 vs).run Tryd.prog w = .ok (.enter 63 vs) w := by go_simp
theorem cf30 (vs : Array Value) (w : World) : (callFunc 59 vs).run Tryd.prog w = .ok (.enter 59 vs) w := by go_simp
theorem cf31 (vs : Array Value) (w : World) : (callFunc 22 vs).run Tryd.prog w = .ok (.enter 22 vs) w := by go_simp
end Go.Proofs.YtpaopdjbhmdfjaaDoor
