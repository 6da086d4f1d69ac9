/- Texts of this proof, laid together: Spec3, Spec4. -/
import Derived.Test.YtcoegehnipldpaaDoorSpec2M
import Derived.Deep.Cut
import Derived.Test.YtcoegehnipldpaaDoorRootMathM
/- More steps of regions: the first digit of a number, comparisons of Booleans, zero values. -/
namespace Go.Proofs.YtcoegehnipldpaaDoor
open Go Go.RowKit

section
variable {ops : Array Oper} {md : Region.Mode} {W : World} {a0 : Act} {n : Nat} {al : Nat → Bool} {S : Nat → Value → World → Prop} {Q : Exit → Act → World → Prop} {i : Nat} {o : Oper}
theorem step_idx0 (hal : al i = false) (hg : GuardOn ops md n S i o) {x : Operand} {g f c : Nat} (ho : o.op = .indexAddr 30 x (.const (.int .i64 0))) (hS : S i = Is (.pointer (some ⟨g, f, none⟩))) (hx : Knows ops md W a0 n S i x (.slice (some ⟨g, f, none⟩) 16 c)) : StepOk Tryd.prog ops md W a0 n al S Q i o :=
  step_run hal hg fun a w hw hf hd => ⟨.pointer (some ⟨g, f, none⟩), by
    have h := hx a w hw hf hd
    have hc : a.eval (.const (.int .i64 0)) = .int .i64 0 := rfl
    revert h hc
    generalize a.eval = ev
    intro h hc
    unfold execOp
    simp only [ho, h, hc]
    go_simp, by rw [hS]; exact rfl⟩
theorem step_ld3 (hal : al i = false) (hg : GuardOn ops md n S i o) {x : Operand} {g f : Nat} {v : Value} (ho : o.op = .load 3 x) (hS : S i = Is v) (hx : Knows ops md W a0 n S i x (.pointer (some ⟨g, f, none⟩))) (hv : ∃ k, v = .int .i64 k) (hc : ∀ w, Cl W w → w.cell? ⟨g, f, none⟩ = some v) : StepOk Tryd.prog ops md W a0 n al S Q i o :=
  step_run hal hg fun a w hw hf hd => ⟨v, by
    have h := hx a w hw hf hd
    have hcc := hc w hw
    obtain ⟨k, rfl⟩ := hv
    revert h
    generalize a.eval = ev
    intro h
    unfold execOp
    simp only [ho, h]
    go_simp, by rw [hS]; exact rfl⟩
theorem step_rem2 (hal : al i = false) (hg : GuardOn ops md n S i o) {x : Operand} {q : Nat} (hq : q < 65536) (ho : o.op = .binOp .rem 3 x (.const (.int .i64 2)) 3) (hS : S i = Is (.int .i64 ((q % 2 : Nat) : Int))) (hx : Knows ops md W a0 n S i x (.int .i64 (q : Int))) : StepOk Tryd.prog ops md W a0 n al S Q i o :=
  step_run hal hg fun a w hw hf hd => ⟨.int .i64 ((q % 2 : Nat) : Int), by
    have h := hx a w hw hf hd
    have hc : a.eval (.const (.int .i64 2)) = .int .i64 2 := rfl
    have e : ((q % 2 : Nat) : Int) = (q : Int) % 2 := by omega
    rw [e]
    revert h hc
    generalize a.eval = ev
    intro h hc
    unfold execOp
    simp only [ho, h, hc]
    go_simp
    exact Int.tmod_eq_emod_of_nonneg (by omega), by rw [hS]; exact rfl⟩
theorem step_is1 (hal : al i = false) (hg : GuardOn ops md n S i o) {x : Operand} {q : Nat} {b : Bool} (ho : o.op = .binOp .eql 3 x (.const (.int .i64 1)) 3) (hS : S i = Is (.bool b)) (hb : b = ((q : Int) == 1)) (hx : Knows ops md W a0 n S i x (.int .i64 (q : Int))) : StepOk Tryd.prog ops md W a0 n al S Q i o :=
  step_run hal hg fun a w hw hf hd => ⟨.bool b, by
    have h := hx a w hw hf hd
    have hc : a.eval (.const (.int .i64 1)) = .int .i64 1 := rfl
    rw [hb]
    revert h hc
    generalize a.eval = ev
    intro h hc
    unfold execOp
    simp only [ho, h, hc]
    go_simp, by rw [hS]; exact rfl⟩
theorem step_is0 (hal : al i = false) (hg : GuardOn ops md n S i o) {x : Operand} {q : Nat} {b : Bool} (ho : o.op = .binOp .neq 3 x (.const (.int .i64 0)) 3) (hS : S i = Is (.bool b)) (hb : b = ((q : Int) != 0)) (hx : Knows ops md W a0 n S i x (.int .i64 (q : Int))) : StepOk Tryd.prog ops md W a0 n al S Q i o :=
  step_run hal hg fun a w hw hf hd => ⟨.bool b, by
    have h := hx a w hw hf hd
    have hc : a.eval (.const (.int .i64 0)) = .int .i64 0 := rfl
    rw [hb]
    revert h hc
    generalize a.eval = ev
    intro h hc
    unfold execOp
    simp only [ho, h, hc]
    go_simp, by rw [hS]; exact rfl⟩
theorem step_eqb (hal : al i = false) (hg : GuardOn ops md n S i o) {x y : Operand} {b : Bool} (ho : o.op = .binOp .eql 4 x y 4) (hS : S i = Is (.bool true)) (hx : Knows ops md W a0 n S i x (.bool b)) (hy : Knows ops md W a0 n S i y (.bool b)) : StepOk Tryd.prog ops md W a0 n al S Q i o :=
  step_run hal hg fun a w hw hf hd => ⟨.bool true, by
    have h1 := hx a w hw hf hd
    have h2 := hy a w hw hf hd
    revert h1 h2
    generalize a.eval = ev
    intro h1 h2
    unfold execOp
    simp only [ho, h1, h2]
    cases b <;> go_simp, by rw [hS]; exact rfl⟩
theorem step_neb (hal : al i = false) (hg : GuardOn ops md n S i o) {x y : Operand} {b : Bool} (ho : o.op = .binOp .neq 4 x y 4) (hS : S i = Is (.bool false)) (hx : Knows ops md W a0 n S i x (.bool b)) (hy : Knows ops md W a0 n S i y (.bool b)) : StepOk Tryd.prog ops md W a0 n al S Q i o :=
  step_run hal hg fun a w hw hf hd => ⟨.bool false, by
    have h1 := hx a w hw hf hd
    have h2 := hy a w hw hf hd
    revert h1 h2
    generalize a.eval = ev
    intro h1 h2
    unfold execOp
    simp only [ho, h1, h2]
    cases b <;> go_simp, by rw [hS]; exact rfl⟩
theorem built22z : Tryd.prog.built 23 [] = some (ints .u8 (rbytes 0)).toArray := by
  have e : rbytes 0 = zeros 32 := by decide +kernel
  have h : Tryd.prog.built 23 [] = some (ints .u8 (zeros 32)).toArray := by kernel_rfl
  exact h.trans (by rw [e])
theorem step_zero22 (hal : al i = false) (hg : GuardOn ops md n S i o) (ho : o.op = .build 23 #[]) (hS : S i = Is (.agg (ints .u8 (rbytes 0)).toArray)) : StepOk Tryd.prog ops md W a0 n al S Q i o :=
  step_run hal hg fun a w hw hf hd => ⟨.agg (ints .u8 (rbytes 0)).toArray, by
    generalize a.eval = ev
    have h := run_build (P := Tryd.prog) w 23 #[] _ built22z
    unfold execOp
    simp only [ho, Sem.run_bind]
    simp only [List.map_toArray, List.map_nil, h, Result.andThen_ok, Sem.run_pure], by rw [hS]; exact rfl⟩
end
theorem By.past {w : World} {b : Nat} {l : List Int} (h : By w b l) {b' : Nat} (vs : List Value) (hb : b' ≠ b) : By (w.setCells b' 0 vs) b l := ⟨h.1.past vs (.inl hb), h.2⟩
theorem nums_past {w : World} {k : IntKind} {A : Option Addr} {xs : List Int} (h : Nums w k A xs) {b : Nat} (vs : List Value) (hb : ∀ g o s, A = some ⟨g, o, s⟩ → b ≠ g) : Nums (w.setCells b 0 vs) k A xs := fun hp => by
  obtain ⟨g, off, e, hlt, hc⟩ := h hp
  have hs := setCells_frame b vs 0 w
  refine ⟨g, off, e, by rw [setCells_size]; exact hlt, fun i hi => ?_⟩
  rw [World.cell?_of_block (a := ⟨g, off + i, none⟩) (hs.2.2.2.2 g (fun e2 => hb g off none e e2.symm))]
  exact hc i hi
/-- The first digit of a number. -/
def dig0 (m : Nat) : Nat := m % 65536
theorem Rp.first {a : List Nat} {m : Nat} (h : Rp a m) : (nl a)[0]? = some ((dig0 m : Nat) : Int) := by
  rw [h.eq]; simp [dgN, nl, dig0]
theorem Nm.zeros : Nm (zeros 16) 0 := .mk zeros_el (by rw [ev_zeros]; rfl)
end Go.Proofs.YtcoegehnipldpaaDoor

/- Steps of regions: pairs, and whether a number is a square. -/
namespace Go.Proofs.YtcoegehnipldpaaDoor
open Go Go.RowKit
section
variable {ops : Array Oper} {md : Region.Mode} {W : World} {a0 : Act} {n : Nat} {al : Nat → Bool} {S : Nat → Value → World → Prop} {Q : Exit → Act → World → Prop} {i : Nat} {o : Oper}
theorem step_fst (hal : al i = false) (hg : GuardOn ops md n S i o) {x : Operand} {u v : Value} (ho : o.op = .extract x 0) (hS : S i = Is u) (hx : Knows ops md W a0 n S i x (.tuple #[u, v])) : StepOk Tryd.prog ops md W a0 n al S Q i o :=
  step_run hal hg fun a w hw hf hd => ⟨u, by
    have h := hx a w hw hf hd
    revert h
    generalize a.eval = ev
    intro h
    unfold execOp
    simp only [ho, h]
    go_simp, by rw [hS]; exact rfl⟩
theorem step_snd (hal : al i = false) (hg : GuardOn ops md n S i o) {x : Operand} {u v : Value} (ho : o.op = .extract x 1) (hS : S i = Is v) (hx : Knows ops md W a0 n S i x (.tuple #[u, v])) : StepOk Tryd.prog ops md W a0 n al S Q i o :=
  step_run hal hg fun a w hw hf hd => ⟨v, by
    have h := hx a w hw hf hd
    revert h
    generalize a.eval = ev
    intro h
    unfold execOp
    simp only [ho, h]
    go_simp, by rw [hS]; exact rfl⟩
end
end Go.Proofs.YtcoegehnipldpaaDoor
