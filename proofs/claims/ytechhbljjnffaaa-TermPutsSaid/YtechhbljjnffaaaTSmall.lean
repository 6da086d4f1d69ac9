/- The term of a text; a new store; steps min and max. -/
import Derived.Test.YtechhbljjnffaaaTState
namespace Go.Proofs.Ytechhbljjnffaaa
open Go Go.RowKit

set_option maxRecDepth 50000 in
theorem new_any (w : World) :
    Calls Try.prog 7 #[] w fun e w' => e = .returned (.pointer (some ⟨w.heap.size + 2, 0, none⟩)) ∧ Below w.heap.size w w' ∧ TS w' (w.heap.size + 2) ⟨none, 0, none, 0, w.heap.size, none, 0, w.heap.size + 1, [0, 0, 0, 0, 0]⟩ [] (.map []) (.map []) [] [] := by
  have h1 := World.ownsMap_made w Try.prog 33 (plainElem (H := Unit) Try.prog 3)
  have h2 := World.ownsMap_made (w.alloc (.map #[] 0)) Try.prog 9 (plainElem (H := Unit) Try.prog 3)
  rw [World.size_alloc] at h2
  obtain ⟨W, hW⟩ : ∃ W, (w.alloc (.map #[] 0)).alloc (.map #[] 0) = W := ⟨_, rfl⟩
  have h1' := map_next h1 (below_new _ (.map #[] 0))
  rw [hW] at h2 h1'
  have hz : W.heap.size = w.heap.size + 2 := by rw [← hW]; simp
  have hB : Below w.heap.size w W := by rw [← hW]; exact ((Below.refl _ w).alloc (Nat.le_refl _) _).alloc (by simp) _
  have hTS : TS (W.alloc (.cells ((Lay.mk none 0 none 0 w.heap.size none 0 (w.heap.size + 1) [0, 0, 0, 0, 0]).cells 0 0).toArray 60)) (w.heap.size + 2) ⟨none, 0, none, 0, w.heap.size, none, 0, w.heap.size + 1, [0, 0, 0, 0, 0]⟩ [] (.map []) (.map []) [] [] :=
    ⟨by rw [← hz]; exact Blk.new W 60 _, World.ownsRow_nil _ _ _ _, World.ownsRow_nil _ _ _ _, World.ownsRow_nil _ _ _ _, map_next h1' (below_new _ _), map_next h2 (below_new _ _)⟩
  have hB2 := hB.alloc (by omega) (.cells ((Lay.mk none 0 none 0 w.heap.size none 0 (w.heap.size + 1) [0, 0, 0, 0, 0]).cells 0 0).toArray 60)
  have HT := hid hTS
  have HB2 := hid hB2
  rw [← hW] at HT HB2
  clear hTS hB2 hB h1 h2 h1' hz hW
  have hmm := @run_makeMap Try.prog
  go_enter Try.func7, Try.ntmps7
  go_wp2
  go_ret
  exact ⟨rfl, HB2.out, HT.out⟩
set_option maxRecDepth 50000 in
set_option maxHeartbeats 1000000 in
theorem textAt_any (i : Int) (w : World) :
    Calls Try.prog 29 #[.int .i64 i] w fun e w' => e = .returned (tv (9, i, 0)) ∧ Below w.heap.size w w' := by
  have hB := Blk.new w 33 [.int .i64 0, .int .i64 0, .int .i64 0]
  obtain ⟨W, hW⟩ : ∃ W, w.alloc (.cells #[.int .i64 0, .int .i64 0, .int .i64 0] 33) = W := ⟨_, rfl⟩
  have hb : Below w.heap.size w W := by rw [← hW]; exact below_new _ _
  have h2 : Blk W w.heap.size 33 [.int .i64 0, .int .i64 0, .int .i64 0] := by rw [← hW]; exact hB
  have hth : W.there w.heap.size 0 (#[.int .i64 9, .int .i64 i, .int .i64 0] : Array Value).size := h2.rw.there
  have hst : Rw (W.setCells w.heap.size 0 (#[.int .i64 9, .int .i64 i, .int .i64 0] : Array Value).toList) w.heap.size 0 [.int .i64 9, .int .i64 i, .int .i64 0] := h2.rw.stored (us := [.int .i64 9, .int .i64 i, .int .i64 0]) rfl
  have hbs : Below w.heap.size w (W.setCells w.heap.size 0 (#[.int .i64 9, .int .i64 i, .int .i64 0] : Array Value).toList) := Below.setCells hb (Nat.le_refl _) 0 _
  have hr := hst.range
  have hone : (#[.int .i64 9, .int .i64 i, .int .i64 0] : Array Value).all (·.oneCell') = true := by simp [Value.oneCell']
  have hsz : (Try.prog.info? 33).map (·.size) = some (#[.int .i64 9, .int .i64 i, .int .i64 0] : Array Value).size := szV infT (vs := tc (9, i, 0)) (tc_len _)
  have HW := hid hW
  have HBS := hid hbs
  clear hW hB h2 hb hst hbs
  go_enter Try.func29, Try.ntmps29
  go_upto_region 1 with (fail)
  rw [HW.out]
  go_wp2_with (with_reducible refine wpList_store_mid (op := ⟨none, .store 33 (.tmp 2) (.tmp 4), _, _, _, _⟩) rfl 33 (.tmp 2) (.tmp 4) rfl w.heap.size 0 #[.int .i64 9, .int .i64 i, .int .i64 0] rfl rfl hth hsz hone ?_)
  refine ret_rows rfl w.heap.size 0 rfl [.int .i64 9, .int .i64 i, .int .i64 0] _ hr Try.underlying33 rfl hsz rfl ?_
  exact ⟨rfl, HBS.out⟩
section
variable {P : Program} {ops : Array Oper} {md : Region.Mode} {W : World} {a0 : Act} {n : Nat} {al : Nat → Bool} {S : Nat → Value → World → Prop} {Q : Exit → Act → World → Prop} {i : Nat} {o : Oper}
set_option maxRecDepth 50000 in
theorem step_min (hal : al i = false) (hg : GuardOn ops md n S i o) {x y : Operand} {p q r : Int} {ts : Array TypeId} (ho : o.op = .call { callee := .builtin .min, args := #[x, y], argTypes := ts }) (hS : S i = Is (.int .i64 r)) (hr : (if q < p then q else p) = r) (hx : Knows ops md W a0 n S i x (.int .i64 p)) (hy : Knows ops md W a0 n S i y (.int .i64 q)) : StepOk P ops md W a0 n al S Q i o :=
  step_ex (.int .i64 r) hal hg hS fun a w hw hf hd => by
    have h1 := hx a w hw hf hd
    have h2 := hy a w hw hf hd
    unfold execOp
    simp only [ho, resolve, invoke, builtin, Sem.run_bind, Sem.run_pure, Result.andThen_ok, List.map_toArray, List.map_cons, List.map_nil, h1, h2, run_min_int2, hr]
end
end Go.Proofs.Ytechhbljjnffaaa
