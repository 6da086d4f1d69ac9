/- Arrays of digits and of bytes: their types, and a new array that is stored. -/
import Derived.Test.YtoncinbohfmciaaCarry
namespace Go.Proofs.Ytoncinbohfmciaa
open Go.RowKit

def zeros (n : Nat) : List Int := List.replicate n 0
theorem zeros_len (n : Nat) : (zeros n).length = n := by simp [zeros]
theorem inf24 : (Try.prog.info? 39).map (fun i => (i.zero, i.size)) = some (some (.agg (ints .i64 (zeros 16)).toArray), 16) := by kernel_rfl
theorem inf26 : (Try.prog.info? 41).map (fun i => (i.zero, i.size)) = some (some (.agg (ints .i64 (zeros 16)).toArray), 16) := by kernel_rfl
theorem inf22 : (Try.prog.info? 22).map (fun i => (i.zero, i.size)) = some (some (.agg (ints .u8 (zeros 32)).toArray), 32) := by kernel_rfl
theorem inf55 : (Try.prog.info? 56).map (fun i => (i.zero, i.size)) = some (some (.agg (ints .i64 (zeros 32)).toArray), 32) := by kernel_rfl
theorem u24 : Try.prog.underlying 39 = some (.array 16 2) := by kernel_rfl
theorem u22 : Try.prog.underlying 22 = some (.array 32 5) := by kernel_rfl
theorem u55 : Try.prog.underlying 56 = some (.array 32 2) := by kernel_rfl
theorem siz {T n : Nat} {z : Value} {q : List Int} {k : IntKind} (h : (Try.prog.info? T).map (fun i => (i.zero, i.size)) = some (some z, n)) (hq : q.length = n) : (Try.prog.info? T).map (·.size) = some (ints k q).length ∧ (Try.prog.info? T).map (·.size) = some (ints k q).toArray.size := by
  cases hc : Try.prog.info? T with
  | none => rw [hc] at h; simp at h
  | some i =>
    rw [hc] at h
    simp only [Option.map_some, Option.some.injEq, Prod.mk.injEq] at h
    simp [h.2, hq]
theorem l24 {q : List Int} (h : q.length = 16) : (Try.prog.info? 39).map (·.size) = some (ints .i64 q).length := (siz inf24 h).1
theorem a24 {q : List Int} (h : q.length = 16) : (Try.prog.info? 39).map (·.size) = some (ints .i64 q).toArray.size := (siz inf24 h).2
theorem l26 {q : List Int} (h : q.length = 16) : (Try.prog.info? 41).map (·.size) = some (ints .i64 q).length := (siz inf26 h).1
theorem a26 {q : List Int} (h : q.length = 16) : (Try.prog.info? 41).map (·.size) = some (ints .i64 q).toArray.size := (siz inf26 h).2
theorem l22 {q : List Int} (h : q.length = 32) : (Try.prog.info? 22).map (·.size) = some (ints .u8 q).length := (siz inf22 h).1
theorem a22 {q : List Int} (h : q.length = 32) : (Try.prog.info? 22).map (·.size) = some (ints .u8 q).toArray.size := (siz inf22 h).2
/-- A value that is built of parts. -/
theorem wpList_built {P : Program} {ops : Array Oper} {rest : List Oper} {o : Oper} {a : Act} {w : World} {Q : Exit → Act → World → Prop} (hg : o.guard = none) (t : TypeId) (parts : Array (Nat × Operand)) (ho : o.op = .build t parts) (vals : List (Nat × Value)) (cells : Array Value)
    (hv : (parts.map fun (i, x) => (i, a.eval x)).toList = vals) (hb : P.built t vals = some cells) (h : wpList P ops Q rest (a.put o.dst (.agg cells)) w) : wpList P ops Q (o :: rest) a w := by
  refine wpList_plain hg fun _ hK => ?_
  rw [← hv] at hb
  unfold Oper.wp execOp
  simp only [ho, Sem.run_bind, run_build w t _ _ hb, Result.andThen_ok]
  exact hK _ _ h
/-- A store over a row of as many. -/
theorem Arr.room {w : World} {b o : Nat} {k k' : IntKind} {l l' : List Int} (h : Arr w b o k l) (e : l'.length = l.length) : w.there b o (ints k' l').toArray.size := by
  have := h.there
  simpa [e] using this
theorem Arr.stored {w : World} {b o : Nat} {k : IntKind} {l l' : List Int} (h : Arr w b o k l) (e : l'.length = l.length) : Arr (w.setCells b o (ints k l').toArray.toList) b o k l' := by
  have := h.all e
  simpa using this
theorem cy_length (xs : List Int) : (cy xs).length = xs.length := by simp [cy, cyA, cl_length]
theorem Bd.set {b : Int} {xs : List Int} (h : Bd b xs) (i : Nat) (x : Int) (hx : -b ≤ x ∧ x ≤ b) : Bd b (xs.set i x) := fun y hy => by
  rcases List.mem_or_eq_of_mem_set hy with h1 | h1
  · exact h y h1
  · rw [h1]; exact hx
/-- As reduced makes it. -/
def red (xs : List Int) : List Int := cy ((cy (xs.set 0 (xs.getD 0 0 + 19))).set 0 ((cy (xs.set 0 (xs.getD 0 0 + 19))).getD 0 0 - 19))
theorem red_length (xs : List Int) : (red xs).length = xs.length := by simp [red, cy_length]
/-- Carried digits are small. -/
theorem cy_small (xs : List Int) (hl : xs.length = 16) (h : Bd 1152921504606846976 xs) : Bd 700000000000000 (cy xs) := by
  have h1 := cl_small xs h 15 (by omega)
  have h2 := h.at_ (getD_some (l := xs) (i := 15) (by omega))
  have e : (cl xs 15).1.getD 15 0 = xs.getD 15 0 := by simp only [List.getD, cl_above xs 15 15 (Nat.le_refl _)]
  have h3 : Bd 65536 (cyA xs) := fun x hx => by
    obtain ⟨i, hi⟩ := List.getElem?_of_mem hx
    by_cases e15 : 15 = i
    · subst e15
      rw [cyA, List.getElem?_set_self (by rw [cl_length]; omega)] at hi
      injection hi with hi; omega
    · rw [cyA, List.getElem?_set_ne e15] at hi
      have hi2 := (List.getElem?_eq_some_iff.1 hi).1
      rw [cl_length] at hi2
      have := cl_below xs 15 i x (by omega) hi
      omega
  have h4 := h3.at_ (getD_some (l := cyA xs) (i := 0) (by simp [cyA, cl_length]; omega))
  refine Bd.set (fun y hy => ?_) 0 _ ?_
  · have := h3 y hy; omega
  · unfold lastOf; rw [e]; omega
end Go.Proofs.Ytoncinbohfmciaa
