/- Arrays of digits and of bytes: their types. -/
import Derived.Test.YthohfhloobmlpaaPCarry
import Derived.Test.YthohfhloobmlpaaMCopy
namespace Go.Proofs.Ythohfhloobmlpaa
open Go Go.RowKit

theorem inf22 : (Try.prog.info? 22).map (fun i => (i.zero, i.size)) = some (some (.agg (ints .u8 (zeros 17)).toArray), 17) := by kernel_rfl
theorem inf25 : (Try.prog.info? 25).map (fun i => (i.zero, i.size)) = some (some (.agg (ints .u8 (zeros 17)).toArray), 17) := by kernel_rfl
theorem inf33 : (Try.prog.info? 33).map (fun i => (i.zero, i.size)) = some (some (.agg (ints .u8 (zeros 16)).toArray), 16) := by kernel_rfl
theorem inf41 : (Try.prog.info? 41).map (fun i => (i.zero, i.size)) = some (some (.agg (ints .u8 (zeros 32)).toArray), 32) := by kernel_rfl
theorem inf51 : (Try.prog.info? 51).map (fun i => (i.zero, i.size)) = some (some (.agg (ints .i64 (zeros 17)).toArray), 17) := by kernel_rfl
theorem inf52 : (Try.prog.info? 52).map (fun i => (i.zero, i.size)) = some (some (.agg (ints .i64 (zeros 34)).toArray), 34) := by kernel_rfl
theorem l22 {q : List Int} (h : q.length = 17) : (Try.prog.info? 22).map (·.size) = some (ints .u8 q).length := szV inf22 (il h)
theorem a22 {q : List Int} (h : q.length = 17) : (Try.prog.info? 22).map (·.size) = some (ints .u8 q).toArray.size := szA inf22 (il h)
theorem l25 {q : List Int} (h : q.length = 17) : (Try.prog.info? 25).map (·.size) = some (ints .u8 q).length := szV inf25 (il h)
theorem a25 {q : List Int} (h : q.length = 17) : (Try.prog.info? 25).map (·.size) = some (ints .u8 q).toArray.size := szA inf25 (il h)
theorem l33 {q : List Int} (h : q.length = 16) : (Try.prog.info? 33).map (·.size) = some (ints .u8 q).length := szV inf33 (il h)
theorem a33 {q : List Int} (h : q.length = 16) : (Try.prog.info? 33).map (·.size) = some (ints .u8 q).toArray.size := szA inf33 (il h)
theorem l41 {q : List Int} (h : q.length = 32) : (Try.prog.info? 41).map (·.size) = some (ints .u8 q).length := szV inf41 (il h)
theorem l51 {q : List Int} (h : q.length = 17) : (Try.prog.info? 51).map (·.size) = some (ints .i64 q).length := szV inf51 (il h)
theorem l52 {q : List Int} (h : q.length = 34) : (Try.prog.info? 52).map (·.size) = some (ints .i64 q).length := szV inf52 (il h)
/-- A value that is built of parts. -/
theorem wpList_built {P : Program} {ops : Array Oper} {rest : List Oper} {o : Oper} {a : Act} {w : World} {Q : Exit → Act → World → Prop} (hg : o.guard = none) (t : TypeId) (parts : Array (Nat × Operand)) (ho : o.op = .build t parts) (vals : List (Nat × Value)) (cells : Array Value)
    (hv : (parts.map fun (i, x) => (i, a.eval x)).toList = vals) (hb : P.built t vals = some cells) (h : wpList P ops Q rest (a.put o.dst (.agg cells)) w) : wpList P ops Q (o :: rest) a w := by
  refine wpList_plain hg fun _ hK => ?_
  rw [← hv] at hb
  unfold Oper.wp execOp
  simp only [ho, Sem.run_bind, run_build w t _ _ hb, Result.andThen_ok]
  exact hK _ _ h
/-- A store over a row of as many. -/
theorem Arr.room {w : World} {b o : Nat} {k k' : IntKind} {l l' : List Int} (h : Arr w b o k l) (e : l'.length = l.length) : w.there b o (ints k' l').toArray.size := by
  have := h.there
  simpa [e] using this
theorem Arr.stored {w : World} {b o : Nat} {k : IntKind} {l l' : List Int} (h : Arr w b o k l) (e : l'.length = l.length) : Arr (w.setCells b o (ints k l').toArray.toList) b o k l' := by
  have := h.all e
  simpa using this
theorem Arr.next {w w' : World} {b o : Nat} {k : IntKind} {xs : List Int} (h : Arr w b o k xs) (hb : Below w.heap.size w w') : Arr w' b o k xs := fun i x hi =>
  h.same (hb.block b (World.block_lt_of_cell? w _ (h i x hi).1)) i x hi
theorem index51 {ds : List Int} {k : Nat} {d : Int} (h : ds[k]? = some d) (hk : k < 17) (w : World) : (Instr.index 51 (.agg (ints .i64 ds).toArray) (.int .i64 (k : Int))).run Try.prog w = .ok (.int .i64 d) w :=
  run_index_row 51 2 17 (ints .i64 ds) .i64 k (.int .i64 d) (.int .i64) Try.underlying51 Try.underlying2 rfl (by kernel_rfl) hk (by simp [ints, h])
theorem index25 {ds : List Int} {k : Nat} {d : Int} (h : ds[k]? = some d) (hk : k < 17) (w : World) : (Instr.index 25 (.agg (ints .u8 ds).toArray) (.int .i64 (k : Int))).run Try.prog w = .ok (.int .u8 d) w :=
  run_index_row 25 5 17 (ints .u8 ds) .i64 k (.int .u8 d) (.int .u8) Try.underlying25 Try.underlying5 rfl (by kernel_rfl) hk (by simp [ints, h])
theorem index33 {ds : List Int} {k : Nat} {d : Int} (h : ds[k]? = some d) (hk : k < 16) (w : World) : (Instr.index 33 (.agg (ints .u8 ds).toArray) (.int .i64 (k : Int))).run Try.prog w = .ok (.int .u8 d) w :=
  run_index_row 33 5 16 (ints .u8 ds) .i64 k (.int .u8 d) (.int .u8) Try.underlying33 Try.underlying5 rfl (by kernel_rfl) hk (by simp [ints, h])
theorem fill_id {r : List Int} {n : Nat} (h : r.length = n) : fillK r n = r := by subst h; exact fillK_end r
theorem fill_0 {r : List Int} {n : Nat} (h : r.length = n) : zeros n = fillK r 0 := by subst h; exact (fillK_zero r).symm
end Go.Proofs.Ythohfhloobmlpaa
