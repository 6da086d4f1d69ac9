/- Whether two elements are equal. -/
import Derived.Test.YtddjfhmkebhndaaRed
import Derived.Test.YtddjfhmkebhndaaQs
namespace Go.Proofs.Ytddjfhmkebhndaa
open Go.RowKit

set_option maxRecDepth 4000 in
set_option maxHeartbeats 1000000 in
theorem equal_any (xs ys : List Int) (w : World) (hl : xs.length = 16) (hl2 : ys.length = 16) (hb : Bd 100000000000000000 xs) (hb2 : Bd 100000000000000000 ys) :
    Calls Try.prog 14 #[.agg (ints .i64 xs).toArray, .agg (ints .i64 ys).toArray] w fun e w' => e = .returned (.bool (decide (red xs = red ys))) ∧ Below w.heap.size w w' := by
  have HL := hid hl
  have HL2 := hid hl2
  have h1 : ∀ w, Calls Try.prog 34 #[.agg (ints .i64 xs).toArray] w fun e w' => e = .returned (.agg (ints .i64 (red xs)).toArray) ∧ Below w.heap.size w w' := fun w => reduced_any xs w hl (fun x hx => by have := hb x hx; omega)
  have h2 : ∀ w, Calls Try.prog 34 #[.agg (ints .i64 ys).toArray] w fun e w' => e = .returned (.agg (ints .i64 (red ys)).toArray) ∧ Below w.heap.size w w' := fun w => reduced_any ys w hl2 (fun x hx => by have := hb2 x hx; omega)
  have H1 := hid h1
  have H2 := hid h2
  have he : ∀ W, (Op.equalIn 10000 24 (.agg (ints .i64 (red xs)).toArray) (.agg (ints .i64 (red ys)).toArray)).run Try.prog W = .ok (decide (red xs = red ys)) W := fun W => eq24 (by rw [red_length, hl]) (by rw [red_length, hl2]) W
  have hN := (Arr.made w .i64 xs 26).alloc (.cells (ints .i64 ys).toArray 26)
  have hM := Arr.made (w.alloc (.cells (ints .i64 xs).toArray 26)) .i64 ys 26
  rw [World.size_alloc] at hM
  have hW := (below_new w (.cells (ints .i64 xs).toArray 26)).alloc (by simp) (.cells (ints .i64 ys).toArray 26)
  have hsz : ((w.alloc (.cells (ints .i64 xs).toArray 26)).alloc (.cells (ints .i64 ys).toArray 26)).heap.size = w.heap.size + 2 := by simp
  have HSZ := hid hsz
  clear hl hl2 hb hb2 h1 h2 hsz
  have heg := egt24
  go_enter Try.func14, Try.ntmps14
  go_wp2_with (fail)
  generalize ((w.alloc (.cells (ints .i64 xs).toArray 26)).alloc (.cells (ints .i64 ys).toArray 26)) = W at *
  refine region_quiet_in (Cl W) (by kernel_rfl) (by kernel_rfl) (Cl.drew W) ?_
  refine qs_read (.agg (ints .i64 xs).toArray) rfl (fun w' hw' => ex_load 26 (.tmp 2) rfl w.heap.size 0 rfl (ints .i64 xs) _ (hN.below hw' (by rw [HSZ.out]; omega)).range Try.underlying26 rfl (l26 HL.out)) ?_
  refine qs_callB (.agg (ints .i64 (red xs)).toArray) 34 #[.agg (ints .i64 xs).toArray] rfl (fun w' => by go_simp) (fun w' => H1.out w') ?_
  refine qs_read (.agg (ints .i64 ys).toArray) rfl (fun w' hw' => ex_load 26 (.tmp 3) rfl (w.heap.size + 1) 0 rfl (ints .i64 ys) _ (hM.below hw' (by rw [HSZ.out]; omega)).range Try.underlying26 rfl (l26 HL2.out)) ?_
  refine qs_callB (.agg (ints .i64 (red ys)).toArray) 34 #[.agg (ints .i64 ys).toArray] rfl (fun w' => by go_simp) (fun w' => H2.out w') ?_
  refine qs_pure (.bool (decide (red xs = red ys))) rfl (fun w' => by go_simp) ?_
  refine qs_pure (.bool (decide (red xs = red ys))) rfl (fun w' => by go_simp) ?_
  go_simp
  refine wpQuiet_nil ?_
  intro w' hw'
  go_wp2
  go_ret
  exact ⟨rfl, hW.trans (Below.mono hw' (by rw [HSZ.out]; omega))⟩
end Go.Proofs.Ytddjfhmkebhndaa
