import Derived.Test.YthpibkpljakeeaaGreatDoorG10
namespace Go.Proofs.YthpibkpljakeeaaGreatDoor
set_option maxHeartbeats 1000000
set_option maxRecDepth 4000
open Go Go.RowKit
def clampL (b : List Int) : List Int := (b.set 0 (b.getD 0 0 / 8 * 8)).set 31 (b.getD 31 0 % 64 + 64)
theorem clampL_length (b : List Int) : (clampL b).length = b.length := by simp [clampL]
theorem u8_cases {Q : Int → Prop} (h : ∀ v : Fin 256, Q (v.val : Int)) (v : Int) (hv : 0 ≤ v ∧ v ≤ 255) : Q v := by
 have := h ⟨v.toNat, by omega⟩
 rwa [show ((v.toNat : Nat) : Int) = v by omega] at this
theorem and248 (v : Int) (hv : 0 ≤ v ∧ v ≤ 255) : bits .and .u8 v 248 = v / 8 * 8 := u8_cases (Q := fun v => bits .and .u8 v 248 = v / 8 * 8) (by decide +kernel) v hv
theorem or64 (v : Int) (hv : 0 ≤ v ∧ v ≤ 255) : bits .or .u8 (bits .and .u8 v 127) 64 = v % 64 + 64 := u8_cases (Q := fun v => bits .or .u8 (bits .and .u8 v 127) 64 = v % 64 + 64) (by decide +kernel) v hv
theorem byt_at {b : List Int} (hb : Byt b) (hl : b.length = 32) {i : Nat} (hi : i < 32) : 0 ≤ b.getD i 0 ∧ b.getD i 0 ≤ 255 := by
 have := hb (b.getD i 0) (List.mem_of_getElem? (getD_some (l := b) (i := i) (by omega)))
 omega
theorem clampL_byt {b : List Int} (hb : Byt b) (hl : b.length = 32) : Byt (clampL b) := by
 have h0 := byt_at hb hl (i := 0) (by omega)
 have h31 := byt_at hb hl (i := 31) (by omega)
 intro x hx
 rcases List.mem_or_eq_of_mem_set hx with h | h
 · rcases List.mem_or_eq_of_mem_set h with h | h
   · exact hb x h
   · omega
 · omega
theorem c_clamp {b : List Int} (hl : b.length = 32) (hb : Byt b) : CallsTo 21 #[.agg (ints .u8 b).toArray] (.agg (ints .u8 (clampL b)).toArray) := fun W => by
 obtain ⟨z22, s22⟩ := zero_of_info inf22
 have hL := hid hl
 have hC := hid ((clampL_length b).trans hl)
 have h0 := byt_at hb hl (i := 0) (by omega)
 have h31 := byt_at hb hl (i := 31) (by omega)
 have e1 := and248 _ h0
 have e2 := or64 _ h31
 have g0 : b[0]? = some (b.getD 0 0) := getD_some (by omega)
 have g31 : b[31]? = some (b.getD 31 0) := getD_some (by omega)
 have hE : Hid (clampL b = (b.set 0 (b.getD 0 0 / 8 * 8)).set 31 (b.getD 31 0 % 64 + 64)) := hid rfl
 generalize b.getD 0 0 = v0 at *
 generalize b.getD 31 0 = v31 at *
 obtain ⟨u0, k0⟩ : ∃ u, v0 / 8 * 8 = u := ⟨_, rfl⟩
 obtain ⟨u31, k31⟩ : ∃ u, v31 % 64 + 64 = u := ⟨_, rfl⟩
 rw [k0] at e1 hE
 rw [k31] at e2 hE
 have hB := (Arr.made W .u8 b 22).alloc (.cells (ints .u8 (zeros 32)).toArray 22)
 have hR := Arr.made (W.alloc (.cells (ints .u8 b).toArray 22)) .u8 (zeros 32) 22
 have hW := (below_new W (.cells (ints .u8 b).toArray 22)).alloc (by simp) (.cells (ints .u8 (zeros 32)).toArray 22)
 rw [World.size_alloc] at hR
 clear hb h0 h31 k0 k31
 generalize clampL b = cb at *
 go_enter Tryz.func21, Tryz.ntmps21
 go_upto_region 1 with (fail)
 generalize (W.alloc (.cells (ints .u8 b).toArray 22)).alloc (.cells (ints .u8 (zeros 32)).toArray 22) = w0 at *
 have c0 := hB.at_ g0
 have f0 := hB.free (i := 0) (by omega)
 have hB1 := hB.set 0 u0
 have c31 := hB1.at_ (i := 31) (x := v31) (by rw [List.getElem?_set_ne (by omega)]; exact g31)
 have f31 := hB1.free (i := 31) (by simp; omega)
 have hB2 := hB1.set 31 u31
 rw [← hE.out] at hB2
 have hR1 := (hR.apart (p := ⟨W.heap.size, 0, none⟩) (.int .u8 u0) (.inl (by show W.heap.size ≠ W.heap.size + 1; omega))).apart (p := ⟨W.heap.size, 31, none⟩) (.int .u8 u31) (.inl (by show W.heap.size ≠ W.heap.size + 1; omega))
 have r1 := hR1.room (k' := .u8) (l' := cb) (by rw [zeros_len]; exact hC.out)
 have hR2 := hR1.stored (l' := cb) (by rw [zeros_len]; exact hC.out)
 have hW1 := Below.setCells ((hW.setCell (p := ⟨W.heap.size, 0, none⟩) (by show W.heap.size ≤ W.heap.size; omega) (.int .u8 u0)).setCell (p := ⟨W.heap.size, 31, none⟩) (by show W.heap.size ≤ W.heap.size; omega) (.int .u8 u31)) (g := W.heap.size + 1) (by omega) 0 (ints .u8 cb).toArray.toList
 simp only [Nat.zero_add] at c0 f0 c31 f31 hB2 hR1 r1 hR2 hW1
 clear hl g0 g31
 go_wp2_with (first
   | (with_reducible refine wpList_load_mid (op := ⟨some 12, .load 22 (.tmp 1), _, _, _, _⟩) rfl 22 (.tmp 1) rfl W.heap.size 0 rfl (ints .u8 cb) _ hB2.range Tryz.underlying22 rfl (l22 hC.out) ?_)
   | (with_reducible refine wpList_store_mid (op := ⟨none, .store 22 (.tmp 2) (.tmp 12), _, _, _, _⟩) rfl 22 (.tmp 2) (.tmp 12) rfl (W.heap.size + 1) 0 (ints .u8 cb).toArray rfl rfl r1 (a22 hC.out) (ints_all _ _) ?_))
 exact ret_rows rfl (W.heap.size + 1) 0 rfl (ints .u8 cb) _ hR2.range Tryz.underlying22 rfl (l22 hC.out) rfl ⟨rfl, hW1⟩
theorem c_rclamp {b : List Int} (hl : b.length = 32) (hb : Byt b) : CallsTo 50 #[.agg (ints .u8 b).toArray] (.agg (ints .u8 (clampL b)).toArray) := fun W => by
 obtain ⟨z22, s22⟩ := zero_of_info inf22
 have hL := hid hl
 have hC := hid ((clampL_length b).trans hl)
 have h0 := byt_at hb hl (i := 0) (by omega)
 have h31 := byt_at hb hl (i := 31) (by omega)
 have q1 : (b.getD 0 0).tdiv 8 = b.getD 0 0 / 8 := Int.tdiv_eq_ediv_of_nonneg h0.1
 have q2 : (b.getD 31 0).tmod 64 = b.getD 31 0 % 64 := Int.tmod_eq_emod_of_nonneg h31.1
 have m1 : IntKind.u8.wrap (b.getD 0 0 / 8) = b.getD 0 0 / 8 := IntWalk.u8_in _ (by omega)
 have m2 : IntKind.u8.wrap (b.getD 0 0 / 8 * 8) = b.getD 0 0 / 8 * 8 := IntWalk.u8_in _ (by omega)
 have m3 : IntKind.u8.wrap (b.getD 31 0 % 64) = b.getD 31 0 % 64 := IntWalk.u8_in _ (by omega)
 have m4 : IntKind.u8.wrap (b.getD 31 0 % 64 + 64) = b.getD 31 0 % 64 + 64 := IntWalk.u8_in _ (by omega)
 have g0 : b[0]? = some (b.getD 0 0) := getD_some (by omega)
 have g31 : b[31]? = some (b.getD 31 0) := getD_some (by omega)
 have hE : Hid (clampL b = (b.set 0 (b.getD 0 0 / 8 * 8)).set 31 (b.getD 31 0 % 64 + 64)) := hid rfl
 generalize b.getD 0 0 = v0 at *
 generalize b.getD 31 0 = v31 at *
 obtain ⟨u0, k0⟩ : ∃ u, v0 / 8 * 8 = u := ⟨_, rfl⟩
 obtain ⟨u31, k31⟩ : ∃ u, v31 % 64 + 64 = u := ⟨_, rfl⟩
 rw [k0] at m2 hE
 rw [k31] at m4 hE
 have hB := (Arr.made W .u8 b 22).alloc (.cells (ints .u8 (zeros 32)).toArray 22)
 have hR := Arr.made (W.alloc (.cells (ints .u8 b).toArray 22)) .u8 (zeros 32) 22
 have hW := (below_new W (.cells (ints .u8 b).toArray 22)).alloc (by simp) (.cells (ints .u8 (zeros 32)).toArray 22)
 rw [World.size_alloc] at hR
 clear hb
 generalize clampL b = cb at *
 go_enter Tryz.func50, Tryz.ntmps50
 go_upto_region 1 with (fail)
 generalize (W.alloc (.cells (ints .u8 b).toArray 22)).alloc (.cells (ints .u8 (zeros 32)).toArray 22) = w0 at *
 have c0 := hB.at_ g0
 have f0 := hB.free (i := 0) (by omega)
 have hB1 := hB.set 0 u0
 have c31 := hB1.at_ (i := 31) (x := v31) (by rw [List.getElem?_set_ne (by omega)]; exact g31)
 have f31 := hB1.free (i := 31) (by simp; omega)
 have hB2 := hB1.set 31 u31
 rw [← hE.out] at hB2
 have hR1 := (hR.apart (p := ⟨W.heap.size, 0, none⟩) (.int .u8 u0) (.inl (by show W.heap.size ≠ W.heap.size + 1; omega))).apart (p := ⟨W.heap.size, 31, none⟩) (.int .u8 u31) (.inl (by show W.heap.size ≠ W.heap.size + 1; omega))
 have r1 := hR1.room (k' := .u8) (l' := cb) (by rw [zeros_len]; exact hC.out)
 have hR2 := hR1.stored (l' := cb) (by rw [zeros_len]; exact hC.out)
 have hW1 := Below.setCells ((hW.setCell (p := ⟨W.heap.size, 0, none⟩) (by show W.heap.size ≤ W.heap.size; omega) (.int .u8 u0)).setCell (p := ⟨W.heap.size, 31, none⟩) (by show W.heap.size ≤ W.heap.size; omega) (.int .u8 u31)) (g := W.heap.size + 1) (by omega) 0 (ints .u8 cb).toArray.toList
 simp only [Nat.zero_add] at c0 f0 c31 f31 hB2 hR1 r1 hR2 hW1
 clear hl g0 g31
 go_wp2_with (first
   | (with_reducible refine wpList_load_mid (op := ⟨some 13, .load 22 (.tmp 1), _, _, _, _⟩) rfl 22 (.tmp 1) rfl W.heap.size 0 rfl (ints .u8 cb) _ hB2.range Tryz.underlying22 rfl (l22 hC.out) ?_)
   | (with_reducible refine wpList_store_mid (op := ⟨none, .store 22 (.tmp 2) (.tmp 13), _, _, _, _⟩) rfl 22 (.tmp 2) (.tmp 13) rfl (W.heap.size + 1) 0 (ints .u8 cb).toArray rfl rfl r1 (a22 hC.out) (ints_all _ _) ?_))
 exact ret_rows rfl (W.heap.size + 1) 0 rfl (ints .u8 cb) _ hR2.range Tryz.underlying22 rfl (l22 hC.out) rfl ⟨rfl, hW1⟩
end Go.Proofs.YthpibkpljakeeaaGreatDoor
