/- The digits of an element below the prime. -/
import Derived.Test.YtoncinbohfmciaaEl
namespace Go.Proofs.Ytoncinbohfmciaa
open Go.RowKit

set_option maxRecDepth 4000 in
set_option maxHeartbeats 1000000 in
theorem reduced_any (xs : List Int) (w : World) (hl : xs.length = 16) (hb : Bd 1000000000000000000 xs) :
    Calls Try.prog 39 #[.agg (ints .i64 xs).toArray] w fun e w' => e = .returned (.agg (ints .i64 (red xs)).toArray) ∧ Below w.heap.size w w' := by
  obtain ⟨z24, s24⟩ := zero_of_info inf24
  have HL := hid hl
  have HX0 : Hid (-1000000000000000000 ≤ xs.getD 0 0 ∧ xs.getD 0 0 ≤ 1000000000000000000) := hid (hb.at_ (getD_some (by omega)))
  have HR : Hid (red xs = cy ((cy (xs.set 0 (xs.getD 0 0 + 19))).set 0 ((cy (xs.set 0 (xs.getD 0 0 + 19))).getD 0 0 - 19))) := hid rfl
  have H1 : Hid (Bd 1152921504606846976 (xs.set 0 (xs.getD 0 0 + 19))) := hid (Bd.set (fun y hy => by have := hb y hy; omega) _ _ (by have := HX0.out; omega))
  have h2 : Bd 700000000000000 (cy (xs.set 0 (xs.getD 0 0 + 19))) := cy_small _ (by simp [hl]) H1.out
  have HX1 : Hid (-700000000000000 ≤ (cy (xs.set 0 (xs.getD 0 0 + 19))).getD 0 0 ∧ (cy (xs.set 0 (xs.getD 0 0 + 19))).getD 0 0 ≤ 700000000000000) := hid (h2.at_ (getD_some (by rw [cy_length]; simp [hl])))
  have H2 : Hid (Bd 1152921504606846976 ((cy (xs.set 0 (xs.getD 0 0 + 19))).set 0 ((cy (xs.set 0 (xs.getD 0 0 + 19))).getD 0 0 - 19))) := hid (Bd.set (fun y hy => by have := h2 y hy; omega) _ _ (by have := HX1.out; omega))
  have HLy : Hid ((cy (xs.set 0 (xs.getD 0 0 + 19))).length = 16) := hid (by rw [cy_length]; simp [hl])
  clear hb h2 hl
  have HX00 : Hid (xs[0]? = some (xs.getD 0 0)) := hid (getD_some (by rw [HL.out]; omega))
  generalize hxx : xs.getD 0 0 = x at *
  have HXX := hid hxx
  have hx19 : IntKind.i64.wrap (x + 19) = x + 19 := IntWalk.i64_in _ (by have := HX0.out; omega)
  have HLs : Hid ((xs.set 0 (x + 19)).length = 16) := hid (by simp [HL.out])
  generalize hxs : xs.set 0 (x + 19) = xs1 at *
  have HXS := hid hxs
  clear hxs hxx
  have HY00 : Hid ((cy xs1)[0]? = some ((cy xs1).getD 0 0)) := hid (getD_some (by rw [HLy.out]; omega))
  have HLy1 : Hid ((cy xs1).length = 16) := HLy
  have HY1 : Hid (cy xs1 = cy xs1) := hid rfl
  generalize hys : cy xs1 = ys at *
  have HYS := hid hys
  clear hys HY1 HLy1
  generalize hyy : ys.getD 0 0 = y at *
  have hy19 : IntKind.i64.wrap (y - 19) = y - 19 := IntWalk.i64_in _ (by have := HX1.out; omega)
  have HLs2 : Hid ((ys.set 0 (y - 19)).length = 16) := hid (by simp [HLy.out])
  generalize hzs : ys.set 0 (y - 19) = zs at *
  have HZS := hid hzs
  have HYY := hid hyy
  clear hzs hyy
  have hN0 : Arr (w.alloc (.cells (ints .i64 xs).toArray 41)) w.heap.size 0 .i64 xs := Arr.made w .i64 xs 41
  have hB0 := (below_new w (.cells (ints .i64 xs).toArray 41)).alloc (by simp) (.cells (ints .i64 (zeros 16)).toArray 39)
  have hR0 := Arr.made (w.alloc (.cells (ints .i64 xs).toArray 41)) .i64 (zeros 16) 39
  rw [World.size_alloc] at hR0
  have hD0 := Arr.made ((w.alloc (.cells (ints .i64 xs).toArray 41)).alloc (.cells (ints .i64 (zeros 16)).toArray 39)) .i64 (zeros 16) 39
  rw [World.size_alloc, World.size_alloc] at hD0
  have hN1 := hN0.alloc (.cells (ints .i64 (zeros 16)).toArray 39)
  have hR1 := hR0.alloc (.cells (ints .i64 (zeros 16)).toArray 39)
  have hB1 := hB0.alloc (by simp; omega) (.cells (ints .i64 (zeros 16)).toArray 39)
  have hD1 := hD0.stored (l' := xs) (by rw [zeros_len]; exact HL.out)
  have hR2 := hR1.past (b' := w.heap.size + 1 + 1) (o' := 0) (ints .i64 xs).toArray.toList (.inl (by omega))
  have hB2 := Below.setCells hB1 (g := w.heap.size + 1 + 1) (by omega) 0 (ints .i64 xs).toArray.toList
  have c0 := hD1.at_ HX00.out
  have f0 := hD1.free (i := 0) (by rw [HL.out]; omega)
  have hs1 : (((w.alloc (.cells (ints .i64 xs).toArray 41)).alloc (.cells (ints .i64 (zeros 16)).toArray 39)).alloc (.cells (ints .i64 (zeros 16)).toArray 39)).there (w.heap.size + 1 + 1) 0 (ints .i64 xs).toArray.size := hD0.room (by rw [zeros_len]; exact HL.out)
  clear hN0 hR0 hD0 hR1 hB0 hB1
  go_enter Try.func39, Try.ntmps39
  go_wp2_with (first
    | (with_reducible refine wpList_load_mid (op := ⟨some 5, .load 39 (.tmp 4), _, _, _, _⟩) rfl 39 (.tmp 4) rfl w.heap.size 0 rfl (ints .i64 xs) _ (hN1.range) Try.underlying39 rfl (l24 HL.out) ?_)
    | (with_reducible refine wpList_store_mid (op := ⟨none, .store 39 (.tmp 3) (.tmp 5), _, _, _, _⟩) rfl 39 (.tmp 3) (.tmp 5) rfl (w.heap.size + 1 + 1) 0 (ints .i64 xs).toArray rfl rfl hs1 (a24 HL.out) (ints_all _ _) ?_))
  have hA1 := hD1.set 0 (x + 19)
  rw [Nat.add_zero, HXS.out] at hA1
  have hR3 := hR2.apart (p := ⟨w.heap.size + 1 + 1, 0, none⟩) (.int .i64 (x + 19)) (.inl (by show w.heap.size + 1 + 1 ≠ w.heap.size + 1; omega))
  have hB3 := hB2.setCell (p := ⟨w.heap.size + 1 + 1, 0, none⟩) (by show w.heap.size ≤ w.heap.size + 1 + 1; omega) (.int .i64 (x + 19))
  clear hs1 c0 f0 hN1 hD1 hR2 hB2
  refine (carry_any _ _ _ HLs.out H1.out hA1).mono ?_
  rintro e w1 ⟨rfl, hA2, hO2⟩
  rw [HYS.out] at hA2
  have hR4 := hR3.only hO2 (by omega)
  have hB4 := hB3.trans (hO2.below (B := w.heap.size) (by omega) hB3.size)
  clear hA1 hR3 hB3 hO2
  have c0 := hA2.at_ HY00.out
  have f0 := hA2.free (i := 0) (by rw [HLy.out]; omega)
  have hA3 := hA2.set 0 (y - 19)
  rw [Nat.add_zero, HZS.out] at hA3
  have hR5 := hR4.apart (p := ⟨w.heap.size + 1 + 1, 0, none⟩) (.int .i64 (y - 19)) (.inl (by show w.heap.size + 1 + 1 ≠ w.heap.size + 1; omega))
  have hB5 := hB4.setCell (p := ⟨w.heap.size + 1 + 1, 0, none⟩) (by show w.heap.size ≤ w.heap.size + 1 + 1; omega) (.int .i64 (y - 19))
  clear hA2 hR4 hB4
  go_wp2_with (fail)
  refine (carry_any _ _ _ HLs2.out H2.out hA3).mono ?_
  rintro e w2 ⟨rfl, hA6, hO6⟩
  rw [← HR.out] at hA6
  have hR6 := hR5.only hO6 (by omega)
  have hB6 := hB5.trans (hO6.below (B := w.heap.size) (by omega) hB5.size)
  have HLR : Hid ((red xs).length = 16) := hid (by rw [red_length]; exact HL.out)
  have hs6 : w2.there (w.heap.size + 1) 0 (ints .i64 (red xs)).toArray.size := hR6.room (by rw [zeros_len]; exact HLR.out)
  have hR7 := hR6.stored (l' := red xs) (by rw [zeros_len]; exact HLR.out)
  have hB7 := Below.setCells hB6 (g := w.heap.size + 1) (by omega) 0 (ints .i64 (red xs)).toArray.toList
  clear hA3 hR5 hB5 hO6
  go_wp2_with (first
    | (with_reducible refine wpList_load_mid (op := ⟨some 16, .load 39 (.tmp 3), _, _, _, _⟩) rfl 39 (.tmp 3) rfl (w.heap.size + 1 + 1) 0 rfl (ints .i64 (red xs)) _ (hA6.range) Try.underlying39 rfl (l24 HLR.out) ?_)
    | (with_reducible refine wpList_store_mid (op := ⟨none, .store 39 (.tmp 2) (.tmp 16), _, _, _, _⟩) rfl 39 (.tmp 2) (.tmp 16) rfl (w.heap.size + 1) 0 (ints .i64 (red xs)).toArray rfl rfl hs6 (a24 HLR.out) (ints_all _ _) ?_))
  exact ret_rows rfl (w.heap.size + 1) 0 rfl (ints .i64 (red xs)) _ hR7.range Try.underlying39 rfl (l24 HLR.out) rfl ⟨rfl, hB7⟩
end Go.Proofs.Ytoncinbohfmciaa
