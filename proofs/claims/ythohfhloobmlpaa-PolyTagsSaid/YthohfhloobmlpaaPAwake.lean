/- The chapter's example holds. -/
import Derived.Test.YthohfhloobmlpaaPLawS
namespace Go.Proofs.Ythohfhloobmlpaa
open Go Go.RowKit

set_option maxRecDepth 8000 in
set_option maxHeartbeats 4000000 in
theorem c_awake : CallsTo 6 #[] (.bool true) := by
  intro w0
  obtain ⟨z33, s33⟩ := zero_of_info inf33
  obtain ⟨z22, s22⟩ := zero_of_info inf22
  have hW := Below.refl w0.heap.size w0
  go_enter Try.func6, Try.ntmps6
  go_wp2_with (first | (with_reducible refine wpList_built (o := ⟨some 3, .build 41 #[(0, .const (.int .u8 1)), (16, .const (.int .u8 7))], _, _, _, _⟩) rfl 41 #[(0, .const (.int .u8 1)), (16, .const (.int .u8 7))] rfl [(0, .int .u8 1), (16, .int .u8 7)] (ints .u8 kA).toArray rfl builtA ?_))
  refine (k_tagA _).mono ?_
  rintro e w1 ⟨rfl, hb1⟩
  replace hW := hW.trans (Below.mono hb1 hW.size)
  clear hb1
  have lc1 := hW.size
  have Z1 := Rw.new w1 (ints .u8 (zeros 16)) 33
  have R1 := Z1.roomA (us := (ints .u8 (7 :: zeros 15))) ((il (one_len 7 15)).trans (zv .u8 16).symm)
  have h1 := Z1.storedA (us := (ints .u8 (7 :: zeros 15))) ((il (one_len 7 15)).trans (zv .u8 16).symm)
  have hB1 := Below.setCells (below_new w1 (.cells (ints .u8 (zeros 16)).toArray 33)) (g := w1.heap.size) (Nat.le_refl _) 0 (ints .u8 (7 :: zeros 15)).toArray.toList
  replace hW := hW.trans (Below.mono hB1 hW.size)
  have LL1 := hid (show ((ints .u8 (7 :: zeros 15))).length = 16 from (il (one_len 7 15)))
  clear Z1 hB1
  go_upto_region 2 with (first | (with_reducible refine wpList_store_mid (op := ⟨none, .store 33 (.tmp 1) (.tmp 4), _, _, _, _⟩) rfl 33 (.tmp 1) (.tmp 4) rfl w1.heap.size 0 (ints .u8 (7 :: zeros 15)).toArray rfl rfl R1 (szA inf33 LL1.out) (ints_all _ _) ?_; generalize ((w1.alloc (.cells (ints .u8 (zeros 16)).toArray 33)).setCells w1.heap.size 0 (ints .u8 (7 :: zeros 15)).toArray.toList) = w2 at *))
  clear R1 LL1
  obtain ⟨b1, hb1⟩ : ∃ b, b = w1.heap.size := ⟨_, rfl⟩
  rw [← hb1] at h1 lc1 ⊢
  have HBK1 := hid hb1
  clear hb1
  go_wp2_with (first | (with_reducible refine wpList_built (o := ⟨some 5, .build 25 #[(0, .const (.int .u8 2))], _, _, _, _⟩) rfl 25 #[(0, .const (.int .u8 2))] rfl [(0, .int .u8 2)] (ints .u8 (2 :: zeros 16)).toArray rfl built25_2 ?_) | (with_reducible refine wpList_built (o := ⟨some 6, .build 25 #[(0, .const (.int .u8 3))], _, _, _, _⟩) rfl 25 #[(0, .const (.int .u8 3))] rfl [(0, .int .u8 3)] (ints .u8 (3 :: zeros 16)).toArray rfl built25_3 ?_))
  refine (k_mul6 _).mono ?_
  rintro e w3 ⟨rfl, hb3⟩
  replace h1 := h1.next hb3
  replace hW := hW.trans (Below.mono hb3 hW.size)
  clear hb3
  go_wp2_with (fail)
  refine (k_by6 _).mono ?_
  rintro e w4 ⟨rfl, hb4⟩
  replace h1 := h1.next hb4
  replace hW := hW.trans (Below.mono hb4 hW.size)
  clear hb4
  have lc2 := hW.size
  have Z2 := Rw.new w4 (ints .u8 (zeros 17)) 22
  have R2 := Z2.roomA (us := (ints .u8 (6 :: zeros 16))) ((il (one_len 6 16)).trans (zv .u8 17).symm)
  have h2 := Z2.storedA (us := (ints .u8 (6 :: zeros 16))) ((il (one_len 6 16)).trans (zv .u8 17).symm)
  have hB2 := Below.setCells (below_new w4 (.cells (ints .u8 (zeros 17)).toArray 22)) (g := w4.heap.size) (Nat.le_refl _) 0 (ints .u8 (6 :: zeros 16)).toArray.toList
  replace h1 := h1.next hB2
  replace hW := hW.trans (Below.mono hB2 hW.size)
  have LL2 := hid (show ((ints .u8 (6 :: zeros 16))).length = 17 from (il (one_len 6 16)))
  clear Z2 hB2
  go_upto_region 3 with (first | (with_reducible refine wpList_store_mid (op := ⟨none, .store 22 (.tmp 2) (.tmp 8), _, _, _, _⟩) rfl 22 (.tmp 2) (.tmp 8) rfl w4.heap.size 0 (ints .u8 (6 :: zeros 16)).toArray rfl rfl R2 (szA inf22 LL2.out) (ints_all _ _) ?_; generalize ((w4.alloc (.cells (ints .u8 (zeros 17)).toArray 22)).setCells w4.heap.size 0 (ints .u8 (6 :: zeros 16)).toArray.toList) = w5 at *))
  clear R2 LL2
  obtain ⟨b2, hb2⟩ : ∃ b, b = w4.heap.size := ⟨_, rfl⟩
  rw [← hb2] at h2 lc2 ⊢
  have HBK2 := hid hb2
  clear hb2
  have s5 := hW.size
  refine region_seq2 9 17 (fun _ => false) [Is (.agg (ints .u8 (7 :: zeros 15)).toArray), Is (.agg (ints .u8 (7 :: zeros 15)).toArray), Is (.bool true), Is (.bool true), Is (.agg (ints .u8 (6 :: zeros 16)).toArray), Is (.agg (ints .u8 (6 :: zeros 16)).toArray), Is (.bool true), Is (.bool true), Is (.bool true)] [9, 10, 11, 12, 13, 14, 15, 16, 0] (by kernel_rfl) (by kernel_rfl) (Nat.le_of_eq rfl) (grows_cons (Is.grows _) (grows_cons (Is.grows _) (grows_cons (Is.grows _) (grows_cons (Is.grows _) (grows_cons (Is.grows _) (grows_cons (Is.grows _) (grows_cons (Is.grows _) (grows_cons (Is.grows _) (grows_cons (Is.grows _) grows_nil)))))))))
    ⟨step_ldV rfl (.inl rfl) (fun _ hw => (h1.next hw).range) rfl Try.underlying33 rfl (szV inf33 (il (one_len 7 15))) rfl (knows_out 1 (by kernel_rfl) rfl),
     step_buildP rfl (.inl rfl) rfl built33_7 rfl (parts1 (knows_const _)),
     step_eqA rfl (.inl rfl) rfl eqt33 (one_len 7 15) (one_len 7 15) (decide_eq_true rfl) rfl (knows_in 0 9 (by decide) (by kernel_rfl) rfl rfl) (knows_in 1 10 (by decide) (by kernel_rfl) rfl rfl),
     step_mvP rfl (.inl rfl) rfl rfl (knows_in 2 11 (by decide) (by kernel_rfl) rfl rfl),
     step_ldV rfl (.inr ⟨3, true, 12, rfl, by decide, by kernel_rfl, rfl, fun _ _ h => h⟩) (fun _ hw => (h2.next hw).range) rfl Try.underlying22 rfl (szV inf22 (il (one_len 6 16))) rfl (knows_out 2 (by kernel_rfl) rfl),
     step_buildP rfl (.inr ⟨3, true, 12, rfl, by decide, by kernel_rfl, rfl, fun _ _ h => h⟩) rfl built22_6 rfl (parts1 (knows_const _)),
     step_eqA rfl (.inr ⟨3, true, 12, rfl, by decide, by kernel_rfl, rfl, fun _ _ h => h⟩) rfl eqt22 (one_len 6 16) (one_len 6 16) (decide_eq_true rfl) rfl (knows_in 4 13 (by decide) (by kernel_rfl) rfl rfl) (knows_in 5 14 (by decide) (by kernel_rfl) rfl rfl),
     step_pick rfl (.inl rfl) (b := true) rfl rfl (knows_in 3 12 (by decide) (by kernel_rfl) rfl rfl) (knows_in 6 15 (by decide) (by kernel_rfl) rfl rfl),
     step_asgP rfl (.inl rfl) rfl rfl (knows_in 7 16 (by decide) (by kernel_rfl) rfl rfl), trivial⟩ ?_
  intro val w6 hw hS hap hla
  have e9 : val 9 = (.agg (ints .u8 (7 :: zeros 15)).toArray) := hS 0 9 (by decide) rfl
  have e10 : val 10 = (.agg (ints .u8 (7 :: zeros 15)).toArray) := hS 1 10 (by decide) rfl
  have e11 : val 11 = (.bool true) := hS 2 11 (by decide) rfl
  have e12 : val 12 = (.bool true) := hS 3 12 (by decide) rfl
  have e13 : val 13 = (.agg (ints .u8 (6 :: zeros 16)).toArray) := hS 4 13 (by decide) rfl
  have e14 : val 14 = (.agg (ints .u8 (6 :: zeros 16)).toArray) := hS 5 14 (by decide) rfl
  have e15 : val 15 = (.bool true) := hS 6 15 (by decide) rfl
  have e16 : val 16 = (.bool true) := hS 7 16 (by decide) rfl
  have e0 : val 0 = (.bool true) := hS 8 0 (by decide) rfl
  simp only [putVals, List.foldl_cons, List.foldl_nil, List.drop_succ_cons, List.drop_zero, Act.put, List.setIfInBounds_toArray, List.set_cons_succ, List.set_cons_zero, e9, e10, e11, e12, e13, e14, e15, e16, e0]
  clear hS hap hla e9 e10 e11 e12 e13 e14 e15 e16 e0 
  replace h1 := h1.next hw
  replace h2 := h2.next hw
  replace hW := hW.trans (Below.mono hw hW.size)
  clear hw
  go_wp2
  go_ret
  exact ⟨rfl, hW⟩
end Go.Proofs.Ythohfhloobmlpaa
