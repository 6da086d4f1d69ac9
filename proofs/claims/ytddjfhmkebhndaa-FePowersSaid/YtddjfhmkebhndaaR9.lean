/- The last region of the laws of the field where the element is 0: what is guarded is off. -/
import Derived.Test.YtddjfhmkebhndaaAwake
import Derived.Great.Frames
namespace Go.Proofs.Ytddjfhmkebhndaa
open Go.RowKit

theorem ex_fn {ev : Operand → Value} {o : Oper} {f : FuncId} {xs : Array Operand} {ts : Array TypeId} (hf : ev (.func f) = .func (.func f) #[] #[]) (hc : ∀ vs w, (callFunc f vs).run Try.prog w = .ok (.enter f vs) w) (ho : o.op = .call { callee := .value (.func f), args := xs, argTypes := ts }) (vs : Array Value) (hv : xs.map ev = vs) (w : World) : (execOp ev o).run Try.prog w = .ok (.enter f vs) w := by
  subst hv
  unfold execOp
  simp only [ho]
  go_simp
theorem wanted_off {o : Oper} {ops : Array Oper} {tmps : Array Value} {j : Nat} {b : Bool} (hg : o.guard = some (j, b)) (hy : yielded ops tmps j = some (!b)) : Region.wanted o (yielded ops tmps) = false := by
  unfold Region.wanted
  rw [hg]
  simp [hy]
theorem yielded_of {ops : Array Oper} {tmps : Array Value} {j d : Nat} {b : Bool} {o : Oper} (ho : ops[j]? = some o) (hd : o.dst = some d) (ht : tmps[d]? = some (.bool b)) : yielded ops tmps j = some b := by
  unfold yielded
  simp [ho, hd, ht]
theorem set_other {tm : Array Value} {i d : Nat} {v u : Value} (h : tm[i]? = some u) (hn : d ≠ i) : (tm.setIfInBounds d v)[i]? = some u := by rw [Array.getElem?_setIfInBounds_ne hn]; exact h
theorem set_same {tm : Array Value} {d n : Nat} {v : Value} (h : tm.size = n) (hn : d < n) : (tm.setIfInBounds d v)[d]? = some v := by simp [h, hn]
theorem set_size {tm : Array Value} {d n : Nat} {v : Value} (h : tm.size = n) : (tm.setIfInBounds d v).size = n := by simp [h]
theorem eval_of {tm : Array Value} {df : List Deferred} {i : Nat} {u : Value} (h : tm[i]? = some u) : (⟨tm, df⟩ : Act).eval (.tmp i) = u := by simp [Act.eval, Array.getD_eq_getD_getElem?, h]
theorem c14 (vs : Array Value) (w : World) : (callFunc 14 vs).run Try.prog w = .ok (.enter 14 vs) w := by go_simp
def r9 : List Oper := [{ dst := some 104, op := .load 26 (.tmp 7), type := 26, pos := "law.go:102", after := #[], guard := none },
  { dst := some 105, op := .load 26 (.tmp 10), type := 26, pos := "law.go:102", after := #[], guard := none },
  { dst := some 106, op := .call { callee := .value (.func 14), args := #[.tmp 104, .tmp 105], argTypes := #[26, 26] }, type := 4, pos := "law.go:102", after := #[{ on := 0, ground := .data }, { on := 1, ground := .data }], guard := none },
  { dst := some 107, op := .move (.tmp 106), type := 4, pos := "law.go:102", after := #[{ on := 2, ground := .data }, { on := 2, ground := .chain }], guard := none },
  { dst := some 108, op := .load 26 (.tmp 8), type := 26, pos := "law.go:102", after := #[{ on := 3, ground := .guard }], guard := some (3, false) },
  { dst := some 109, op := .load 26 (.tmp 7), type := 26, pos := "law.go:102", after := #[{ on := 3, ground := .guard }], guard := some (3, false) },
  { dst := some 110, op := .call { callee := .value (.func 22), args := #[.tmp 108, .tmp 109], argTypes := #[26, 26] }, type := 26, pos := "law.go:102", after := #[{ on := 4, ground := .data }, { on := 5, ground := .data }, { on := 3, ground := .chain }, { on := 3, ground := .guard }], guard := some (3, false) },
  { dst := some 111, op := .load 26 (.tmp 7), type := 26, pos := "law.go:102", after := #[{ on := 3, ground := .guard }], guard := some (3, false) },
  { dst := some 112, op := .call { callee := .value (.func 27), args := #[.tmp 111], argTypes := #[26] }, type := 26, pos := "law.go:102", after := #[{ on := 7, ground := .data }, { on := 6, ground := .chain }, { on := 3, ground := .guard }], guard := some (3, false) },
  { dst := some 113, op := .call { callee := .value (.func 22), args := #[.tmp 110, .tmp 112], argTypes := #[26, 26] }, type := 26, pos := "law.go:102", after := #[{ on := 6, ground := .data }, { on := 8, ground := .data }, { on := 8, ground := .chain }, { on := 3, ground := .guard }], guard := some (3, false) },
  { dst := some 114, op := .load 26 (.tmp 8), type := 26, pos := "law.go:102", after := #[{ on := 3, ground := .guard }], guard := some (3, false) },
  { dst := some 115, op := .call { callee := .value (.func 14), args := #[.tmp 113, .tmp 114], argTypes := #[26, 26] }, type := 4, pos := "law.go:102", after := #[{ on := 9, ground := .data }, { on := 10, ground := .data }, { on := 9, ground := .chain }, { on := 3, ground := .guard }], guard := some (3, false) },
  { dst := some 116, op := .pick (.tmp 107) (.const (.bool true)) (.tmp 115), type := 4, pos := "law.go:102", after := #[{ on := 3, ground := .data }, { on := 11, ground := .data }], guard := none },
  { dst := some 6, op := .assign (.tmp 116), type := 4, pos := "law.go:102", after := #[{ on := 12, ground := .data }, { on := 11, ground := .chain }, { on := 0, ground := .phase }, { on := 1, ground := .phase }, { on := 2, ground := .phase }, { on := 3, ground := .phase }, { on := 4, ground := .phase }, { on := 5, ground := .phase }, { on := 6, ground := .phase }, { on := 7, ground := .phase }, { on := 8, ground := .phase }, { on := 9, ground := .phase }, { on := 10, ground := .phase }, { on := 11, ground := .phase }, { on := 12, ground := .phase }], guard := none }]
set_option maxRecDepth 4000 in
theorem r9_true {Q : Act → Prop} {t0 : Array Value} {df : List Deferred} {W : World} {x zero : List Int} {b7 b10 n : Nat} (s0 : t0.size = n) (hn : 117 ≤ n) (h7 : t0[7]? = some (.pointer (some ⟨b7, 0, none⟩))) (h10 : t0[10]? = some (.pointer (some ⟨b10, 0, none⟩))) (hx : Bx W b7 x) (hz : Bx W b10 zero)
    (ez : CallsTo 14 #[.agg (ints .i64 x).toArray, .agg (ints .i64 zero).toArray] (.bool true))
    (hK : Q ⟨((((((((((((((t0.setIfInBounds 104 (.agg (ints .i64 x).toArray)).setIfInBounds 105 (.agg (ints .i64 zero).toArray)).setIfInBounds 106 (.bool true)).setIfInBounds 107 (.bool true)).setIfInBounds 108 undef).setIfInBounds 109 undef).setIfInBounds 110 undef).setIfInBounds 111 undef).setIfInBounds 112 undef).setIfInBounds 113 undef).setIfInBounds 114 undef).setIfInBounds 115 undef).setIfInBounds 116 (.bool true)).setIfInBounds 6 (.bool true)), df⟩) :
    wpQuiet Try.prog r9.toArray (Cl W) Q r9 ⟨t0, df⟩ := by
  obtain ⟨o3, y3, d3⟩ : ∃ o : Oper, r9.toArray[3]? = some o ∧ o.dst = some 107 := ⟨_, rfl, rfl⟩
  generalize hR : r9.toArray = R at *
  clear hR
  unfold r9
  refine qs_el hx (.tmp 7) rfl rfl (eval_of h7) ?_
  show wpQuiet _ _ _ _ _ ⟨t0.setIfInBounds 104 (.agg (ints .i64 x).toArray), df⟩
  have s1 := set_size (d := 104) (v := (.agg (ints .i64 x).toArray)) s0
  have f104 := set_same (d := 104) (v := (.agg (ints .i64 x).toArray)) s0 (by omega)
  replace h7 := set_other (d := 104) (v := (.agg (ints .i64 x).toArray)) h7 (by decide)
  replace h10 := set_other (d := 104) (v := (.agg (ints .i64 x).toArray)) h10 (by decide)
  generalize t0.setIfInBounds 104 (.agg (ints .i64 x).toArray) = t1 at *
  refine qs_el hz (.tmp 10) rfl rfl (eval_of h10) ?_
  show wpQuiet _ _ _ _ _ ⟨t1.setIfInBounds 105 (.agg (ints .i64 zero).toArray), df⟩
  have s2 := set_size (d := 105) (v := (.agg (ints .i64 zero).toArray)) s1
  have f105 := set_same (d := 105) (v := (.agg (ints .i64 zero).toArray)) s1 (by omega)
  replace h10 := set_other (d := 105) (v := (.agg (ints .i64 zero).toArray)) h10 (by decide)
  replace f104 := set_other (d := 105) (v := (.agg (ints .i64 zero).toArray)) f104 (by decide)
  generalize t1.setIfInBounds 105 (.agg (ints .i64 zero).toArray) = t2 at *
  refine qs_to ez rfl (ex_fn rfl c14 rfl _ (by simp [eval_of f104, eval_of f105])) ?_
  show wpQuiet _ _ _ _ _ ⟨t2.setIfInBounds 106 (.bool true), df⟩
  have s3 := set_size (d := 106) (v := (.bool true)) s2
  have f106 := set_same (d := 106) (v := (.bool true)) s2 (by omega)
  generalize t2.setIfInBounds 106 (.bool true) = t3 at *
  refine qs_pure (.bool true) rfl (fun w => by simp [execOp, f106, go_sem]) ?_
  show wpQuiet _ _ _ _ _ ⟨t3.setIfInBounds 107 (.bool true), df⟩
  have s4 := set_size (d := 107) (v := (.bool true)) s3
  have f107 := set_same (d := 107) (v := (.bool true)) s3 (by omega)
  generalize t3.setIfInBounds 107 (.bool true) = t4 at *
  refine qs_skip (wanted_off rfl (yielded_of y3 d3 f107)) ?_
  show wpQuiet _ _ _ _ _ ⟨t4.setIfInBounds 108 undef, df⟩
  have s5 := set_size (d := 108) (v := undef) s4
  have f108 := set_same (d := 108) (v := undef) s4 (by omega)
  replace f107 := set_other (d := 108) (v := undef) f107 (by decide)
  generalize t4.setIfInBounds 108 undef = t5 at *
  refine qs_skip (wanted_off rfl (yielded_of y3 d3 f107)) ?_
  show wpQuiet _ _ _ _ _ ⟨t5.setIfInBounds 109 undef, df⟩
  have s6 := set_size (d := 109) (v := undef) s5
  have f109 := set_same (d := 109) (v := undef) s5 (by omega)
  replace f107 := set_other (d := 109) (v := undef) f107 (by decide)
  generalize t5.setIfInBounds 109 undef = t6 at *
  refine qs_skip (wanted_off rfl (yielded_of y3 d3 f107)) ?_
  show wpQuiet _ _ _ _ _ ⟨t6.setIfInBounds 110 undef, df⟩
  have s7 := set_size (d := 110) (v := undef) s6
  have f110 := set_same (d := 110) (v := undef) s6 (by omega)
  replace f107 := set_other (d := 110) (v := undef) f107 (by decide)
  generalize t6.setIfInBounds 110 undef = t7 at *
  refine qs_skip (wanted_off rfl (yielded_of y3 d3 f107)) ?_
  show wpQuiet _ _ _ _ _ ⟨t7.setIfInBounds 111 undef, df⟩
  have s8 := set_size (d := 111) (v := undef) s7
  have f111 := set_same (d := 111) (v := undef) s7 (by omega)
  replace f107 := set_other (d := 111) (v := undef) f107 (by decide)
  generalize t7.setIfInBounds 111 undef = t8 at *
  refine qs_skip (wanted_off rfl (yielded_of y3 d3 f107)) ?_
  show wpQuiet _ _ _ _ _ ⟨t8.setIfInBounds 112 undef, df⟩
  have s9 := set_size (d := 112) (v := undef) s8
  have f112 := set_same (d := 112) (v := undef) s8 (by omega)
  replace f107 := set_other (d := 112) (v := undef) f107 (by decide)
  generalize t8.setIfInBounds 112 undef = t9 at *
  refine qs_skip (wanted_off rfl (yielded_of y3 d3 f107)) ?_
  show wpQuiet _ _ _ _ _ ⟨t9.setIfInBounds 113 undef, df⟩
  have s10 := set_size (d := 113) (v := undef) s9
  have f113 := set_same (d := 113) (v := undef) s9 (by omega)
  replace f107 := set_other (d := 113) (v := undef) f107 (by decide)
  generalize t9.setIfInBounds 113 undef = t10 at *
  refine qs_skip (wanted_off rfl (yielded_of y3 d3 f107)) ?_
  show wpQuiet _ _ _ _ _ ⟨t10.setIfInBounds 114 undef, df⟩
  have s11 := set_size (d := 114) (v := undef) s10
  have f114 := set_same (d := 114) (v := undef) s10 (by omega)
  replace f107 := set_other (d := 114) (v := undef) f107 (by decide)
  generalize t10.setIfInBounds 114 undef = t11 at *
  refine qs_skip (wanted_off rfl (yielded_of y3 d3 f107)) ?_
  show wpQuiet _ _ _ _ _ ⟨t11.setIfInBounds 115 undef, df⟩
  have s12 := set_size (d := 115) (v := undef) s11
  have f115 := set_same (d := 115) (v := undef) s11 (by omega)
  replace f107 := set_other (d := 115) (v := undef) f107 (by decide)
  generalize t11.setIfInBounds 115 undef = t12 at *
  refine qs_pure (.bool true) rfl (fun w => by simp [execOp, f107, go_sem]) ?_
  show wpQuiet _ _ _ _ _ ⟨t12.setIfInBounds 116 (.bool true), df⟩
  have s13 := set_size (d := 116) (v := (.bool true)) s12
  have f116 := set_same (d := 116) (v := (.bool true)) s12 (by omega)
  generalize t12.setIfInBounds 116 (.bool true) = t13 at *
  refine qs_pure (.bool true) rfl (fun w => by simp [execOp, f116, go_sem]) ?_
  exact hK
end Go.Proofs.Ytddjfhmkebhndaa
