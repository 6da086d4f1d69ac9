/- Regions that draw their order, all of whose operations are quiet in a class of worlds: step by step; the comparison of two arrays of numbers. -/
import Derived.Test.YtdfalneiapeegaaArr
import Derived.Test.YtdfalneiapeegaaQTail
import Derived.ChangeKeysEq
import Derived.Handy
namespace Go.Proofs.Ytdfalneiapeegaa
open Go.RowKit

section
variable {P : Program} {ops : Array Oper} {C : World → Prop}
/-- A region all of whose operations are quiet in C. -/
theorem region_quiet_in {id : Nat} {Q : Exit → Act → World → Prop} {a : Act} {w : World} {l : List Oper} (C : World → Prop) (hm : P.follows .mixedOrders = true) (hB : Region.lexB .any l.toArray = true) (hC : C w.drew)
    (h : wpQuiet P l.toArray C (fun a' => ∀ w', C w' → Q .normal a' w') l a) : (Code.region id l.toArray true).wp P Q a w := wp_region_quiet hm hB hC (by simpa using h)
theorem qs_skip {Q : Act → Prop} {a : Act} {o : Oper} {rest : List Oper} (hw : Region.wanted o (yielded ops a.tmps) = false) (h : wpQuiet P ops C Q rest (a.put o.dst undef)) : wpQuiet P ops C Q (o :: rest) a := by
  unfold wpQuiet
  rw [if_neg (by rw [hw]; exact Bool.false_ne_true)]
  exact h
theorem qs_pure {Q : Act → Prop} {a : Act} {o : Oper} {rest : List Oper} (v : Value) (hw : Region.wanted o (yielded ops a.tmps) = true) (hr : ∀ w, (execOp a.eval o).run P w = .ok (.value v) w) (h : wpQuiet P ops C Q rest (a.put o.dst v)) : wpQuiet P ops C Q (o :: rest) a := by
  unfold wpQuiet
  rw [if_pos hw]
  exact ⟨v, fun w _ => by unfold Oper.quietAt; rw [hr]; exact ⟨rfl, rfl⟩, h⟩
theorem qs_read {Q : Act → Prop} {a : Act} {o : Oper} {rest : List Oper} (v : Value) (hw : Region.wanted o (yielded ops a.tmps) = true) (hr : ∀ w, C w → (execOp a.eval o).run P w = .ok (.value v) w) (h : wpQuiet P ops C Q rest (a.put o.dst v)) : wpQuiet P ops C Q (o :: rest) a := by
  unfold wpQuiet
  rw [if_pos hw]
  exact ⟨v, fun w hc => by unfold Oper.quietAt; rw [hr w hc]; exact ⟨rfl, rfl⟩, h⟩
theorem qs_call {Q : Act → Prop} {a : Act} {o : Oper} {rest : List Oper} (v : Value) (f : FuncId) (args : Array Value) (hw : Region.wanted o (yielded ops a.tmps) = true) (hr : ∀ w, (execOp a.eval o).run P w = .ok (.enter f args) w)
    (hc : ∀ w, C w → Calls P f args w fun e w' => e = .returned v ∧ C w') (h : wpQuiet P ops C Q rest (a.put o.dst v)) : wpQuiet P ops C Q (o :: rest) a := by
  unfold wpQuiet
  rw [if_pos hw]
  exact ⟨v, fun w hC => by unfold Oper.quietAt; rw [hr]; exact ⟨rfl, hc w hC⟩, h⟩
/-- The class: nothing below a world's end has changed. -/
def Cl (W : World) : World → Prop := fun w' => Below W.heap.size W w'
theorem Cl.drew (W : World) : Cl W W.drew := (Below.refl _ _).drew
theorem Cl.next {W w w' : World} (h : Cl W w) (k : Below w.heap.size w w') : Cl W w' := h.trans (k.mono h.size)
theorem qs_callB {W : World} {Q : Act → Prop} {a : Act} {o : Oper} {rest : List Oper} (v : Value) (f : FuncId) (args : Array Value) (hw : Region.wanted o (yielded ops a.tmps) = true) (hr : ∀ w, (execOp a.eval o).run P w = .ok (.enter f args) w)
    (hc : ∀ w, Calls P f args w fun e w' => e = .returned v ∧ Below w.heap.size w w') (h : wpQuiet P ops (Cl W) Q rest (a.put o.dst v)) : wpQuiet P ops (Cl W) Q (o :: rest) a :=
  qs_call v f args hw hr (fun w hC => (hc w).mono fun _ _ ⟨he, hb⟩ => ⟨he, hC.next hb⟩) h
theorem ex_load {w : World} {o : Oper} {ev : Operand → Value} (ty : TypeId) (x : Operand) (ho : o.op = .load ty x) (b off : Nat) (hx : ev x = .pointer (some ⟨b, off, none⟩)) (cs : List Value) (d : TypeDesc) (hc : w.rangeAt b off cs)
    (hu : P.underlying ty = some d) (hd : d.isRow = true) (hi : (P.info? ty).map (·.size) = some cs.length) : (execOp ev o).run P w = .ok (.value (.agg cs.toArray)) w := by
  unfold execOp
  simp only [ho, hx, Instr.loadAt, Instr.sureAddr, Sem.run_bind, Sem.run_pure, Result.andThen_ok, run_loadVar_mid w b off ty cs d hc hu hd hi]
/-- Two arrays of numbers, compared. -/
theorem arr_eq_run (t e n : Nat) (k : IntKind) (xs ys : List Int) (hu : P.underlying t = some (.array n e)) (he : P.underlying e = some (.int k)) (hs : (P.info? e).map (·.size) = some 1) (hn : xs.length = n) (hn2 : ys.length = n) (d : Nat) (W : World) :
    (Op.equalIn (d + 2) t (.agg (ints k xs).toArray) (.agg (ints k ys).toArray)).run P W = .ok (decide (xs = ys)) W := by
  cases hq : P.info? e with
  | none => simp [hq] at hs
  | some j =>
    have hj : j.size = 1 := by simpa [hq] using hs
    rw [run_equalIn_array W (d + 1) _ _ hu hq]
    have hc : P.cellsOf e = 1 := by simp [Program.cellsOf, hq, hj]
    rw [hc]
    have hag : (isAgg e).run P W = .ok false W := by
      unfold isAgg
      rw [Sem.run_bind, run_underlying he W]
      simp
    have key : ∀ l : List Nat, (∀ i ∈ l, i < n) → (Op.eqItems (d + 1) e 1 (ints k xs).toArray (ints k ys).toArray l).run P W = .ok (l.all fun i => xs.getD i 0 == ys.getD i 0) W := by
      intro l
      induction l with
      | nil => intro _; simp [Op.eqItems]
      | cons i l ih =>
        intro hall
        have hi := hall i (by simp)
        have hp : (part e (ints k xs).toArray (i * 1)).run P W = .ok (.int k (xs.getD i 0)) W := by
          simp [part, hag, ints, List.getD, show i < xs.length by omega]
        have hp2 : (part e (ints k ys).toArray (i * 1)).run P W = .ok (.int k (ys.getD i 0)) W := by
          simp [part, hag, ints, List.getD, show i < ys.length by omega]
        have ih2 := ih (fun k hk => hall k (by simp [hk]))
        simp only [Op.eqItems, Sem.run_bind, hp, hp2, Result.andThen_ok, run_equalIn_int W d e k k _ _ he, List.all_cons]
        by_cases hxy : xs.getD i 0 = ys.getD i 0
        · simp only [hxy, beq_self_eq_true, Bool.not_true, Bool.false_eq_true, if_false, Bool.true_and]
          exact ih2
        · have hxy' : ¬ xs[i]?.getD 0 = ys[i]?.getD 0 := by simpa [List.getD] using hxy
          have hb : (xs[i]?.getD 0 == ys[i]?.getD 0) = false := by simpa using hxy'
          simp [hxy']
    rw [key _ (fun i hi => List.mem_range.1 hi)]
    congr 1
    rw [Bool.eq_iff_iff, List.all_eq_true, decide_eq_true_iff]
    constructor
    · intro h
      apply List.ext_getElem (by omega)
      intro i h1 h2
      have := h i (List.mem_range.2 (by omega))
      simpa [List.getD, h1, h2] using this
    · intro h i _
      rw [h]; simp
end
end Go.Proofs.Ytdfalneiapeegaa
