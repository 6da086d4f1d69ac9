/- Negatives. -/
import Derived.Test.YtddjfhmkebhndaaAdd
namespace Go.Proofs.Ytddjfhmkebhndaa
open Go.RowKit

theorem zeros_bd (n : Nat) (b : Int) (h : 0 ≤ b) : Bd b (zeros n) := fun x hx => by
  have := List.eq_of_mem_replicate hx
  omega
set_option maxRecDepth 4000 in
set_option maxHeartbeats 1000000 in
theorem neg_walk (xs m : List Int) (w : World) (HM : Hid (cy (minus (zeros 16) xs) = m)) (hl : xs.length = 16) (hb : Bd 100000000000000000 xs) :
    Calls Try.prog 24 #[.agg (ints .i64 xs).toArray] w fun e w' => e = .returned (.agg (ints .i64 (m)).toArray) ∧ Below w.heap.size w w' := by
  obtain ⟨z26, s26⟩ := zero_of_info inf26
  have HL := hid hl
  have HB := hid hb
  clear hl hb
  have hN := (Arr.made w .i64 xs 26).alloc (.cells (ints .i64 (zeros 16)).toArray 26)
  have hR := Arr.made (w.alloc (.cells (ints .i64 xs).toArray 26)) .i64 (zeros 16) 26
  have hW := (below_new w (.cells (ints .i64 xs).toArray 26)).alloc (by simp) (.cells (ints .i64 (zeros 16)).toArray 26)
  rw [World.size_alloc] at hR
  have HCL : Hid ((m).length = 16) := hid (by rw [← HM.out, cy_length, minus_length])
  have hs : ∀ w1, Below (w.heap.size + 1 + 1) ((w.alloc (.cells (ints .i64 xs).toArray 26)).alloc (.cells (ints .i64 (zeros 16)).toArray 26)) w1 → w1.there (w.heap.size + 1) 0 (ints .i64 (m)).toArray.size := fun w1 h => (hR.below h (by omega)).room (by rw [zeros_len]; exact HCL.out)
  go_enter Try.func24, Try.ntmps24
  go_wp2_with (first
    | (with_reducible refine wpList_load_mid (op := ⟨some 4, .load 26 (.tmp 1), _, _, _, _⟩) rfl 26 (.tmp 1) rfl w.heap.size 0 rfl (ints .i64 xs) _ (hN.range) Try.underlying26 rfl (l26 HL.out) ?_)
    | (go_at_call 20; refine (sub_any (zeros 16) xs _ rfl HL.out (zeros_bd _ _ (by omega)) HB.out).mono ?_; rw [HM.out]; rintro e w1 ⟨rfl, hb1⟩)
    | (with_reducible refine wpList_store_mid (op := ⟨none, .store 26 (.tmp 2) (.tmp 5), _, _, _, _⟩) rfl 26 (.tmp 2) (.tmp 5) rfl (w.heap.size + 1) 0 (ints .i64 (m)).toArray rfl rfl (hs w1 (by simpa using hb1)) (a26 HCL.out) (ints_all _ _) ?_))
  have hbb : Below (w.heap.size + 1 + 1) ((w.alloc (.cells (ints .i64 xs).toArray 26)).alloc (.cells (ints .i64 (zeros 16)).toArray 26)) w1 := by simpa using hb1
  have hR1 := (hR.below hbb (by omega)).stored (l' := m) (by rw [zeros_len]; exact HCL.out)
  have hW1 := Below.setCells (hW.trans (hbb.mono (by omega))) (g := w.heap.size + 1) (by omega) 0 (ints .i64 (m)).toArray.toList
  exact ret_rows rfl (w.heap.size + 1) 0 rfl (ints .i64 (m)) _ hR1.range Try.underlying26 rfl (l26 HCL.out) rfl ⟨rfl, hW1⟩

theorem neg_any (xs : List Int) (w : World) (hl : xs.length = 16) (hb : Bd 100000000000000000 xs) :
    Calls Try.prog 24 #[.agg (ints .i64 xs).toArray] w fun e w' => e = .returned (.agg (ints .i64 (cy (minus (zeros 16) xs))).toArray) ∧ Below w.heap.size w w' := neg_walk xs _ w (hid rfl) hl hb
end Go.Proofs.Ytddjfhmkebhndaa
