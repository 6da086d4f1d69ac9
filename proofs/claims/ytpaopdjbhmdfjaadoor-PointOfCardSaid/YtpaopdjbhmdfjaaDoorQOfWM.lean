/- The law of a point's bytes: the walks. -/
import Derived.Test.YtpaopdjbhmdfjaaDoorG10
namespace Go.Proofs.YtpaopdjbhmdfjaaDoor
open Go Go.RowKit

theorem xx_eq (b : Fin NT.PN) : (b * b - 1) * iv (1 + dF * (b * b)) = xxF b := by
  unfold xxF
  rw [one_comm b dF]
where
  one_comm {n : Nat} [NeZero n] (b d : Fin n) : 1 + d * (b * b) = d * (b * b) + 1 := by grind
theorem none_on : CallsT 9 #[.agg (ints .i64 (zeros 64)).toArray] (.bool false) := c_on_no pn_none rfl
theorem none_bytes : CallsTo 10 #[.agg (ints .i64 (zeros 64)).toArray] (.agg (ints .u8 (zeros 32)).toArray) := by
  have h := c_pbytes pn_none
  have e1 : (noC : C4 NT.PN).y * iv (noC : C4 NT.PN).z = 0 := z_mul _
  have e2 : (noC : C4 NT.PN).x * iv (noC : C4 NT.PN).z = 0 := z_mul _
  rw [e1, e2] at h
  have e3 : pbytes (0 : Fin NT.PN).val (oddB (0 : Fin NT.PN).val) = zeros 32 := by decide +kernel
  rwa [e3] at h
theorem none_mul {nb : List Int} (ln : nb.length = 32) : CallsTo 12 #[.agg (ints .i64 (zeros 64)).toArray, .agg (ints .u8 nb).toArray] (.agg (ints .i64 (zeros 64)).toArray) := pmul_none (zeros_len 64) ln (c_lacks pn_none rfl)
theorem neg_zero_z {n : Nat} [NeZero n] : (negC (noC : C4 n)).z = 0 := rfl

set_option maxRecDepth 4000 in
set_option maxHeartbeats 16000000 in
theorem of_A_o {a : List Int} (la : a.length = 32) {x x' : Int} (hx : a[31]? = some x) (hx0 : 0 ≤ x ∧ x < 256) (hod : 128 ≤ x) (hx' : x % 128 = x') {ys : List Int} (hys : a.set 31 x' = ys) (ly : ys.length = 32) (yys : Byt ys) (hge : decide (NT.PN ≤ bn ys) = true) (kof : CallsT 7 #[.agg (ints .u8 a).toArray] (.tuple #[.agg (ints .i64 (zeros 64)).toArray, .int .i64 21])) : CallsT 3 #[.agg (ints .u8 a).toArray] (.bool true) := by
  obtain ⟨ksz, hsz⟩ := sumL_spec pn_none pn_none
  have osz := c_on_no hsz (no_add dF _)
  have lsz := hsz.len
  obtain ⟨sz, hsze⟩ : ∃ l, sumL (zeros 64) (zeros 64) = l := ⟨_, rfl⟩
  rw [hsze] at ksz osz lsz
  clear hsze hsz
  obtain ⟨ng, kng, hng⟩ := c_pneg pn_none
  have ong := c_on_no hng neg_zero_z
  have lng := hng.len

  intro W hT
  have h1 := By.new W a la
  have hW := below_new W (.cells (ints .u8 a).toArray 22)
  have hT0 := hT
  replace hT := (hT.alloc (.cells (ints .u8 a).toArray 22))
  go_enter Tryd.func3, Tryd.ntmps3
  go_upto_region 1 with (fail)
  generalize W.alloc (.cells (ints .u8 a).toArray 22) = w0 at *
  have s0 := hW.size
  refine region_seq2 2 110 (fun _ => false) [Is (.bool true), Is (.bool false)] [11, 12] (by kernel_rfl) (by kernel_rfl) (Nat.le_of_eq rfl) (grows_cons (Is.grows _) (grows_cons (Is.grows _) grows_nil))
    ⟨step_toT rfl (.inl rfl) rfl cg6 hT awake_any rfl (no_args),
     step_not rfl (.inl rfl) (b := true) rfl rfl (knows_in 0 11 (by decide) (by kernel_rfl) rfl rfl), trivial⟩ ?_
  intro val w1 hw hS hap hla
  have e11 : val 11 = (.bool true) := hS 0 11 (by decide) rfl
  have e12 : val 12 = (.bool false) := hS 1 12 (by decide) rfl
  simp only [putVals, List.foldl_cons, List.foldl_nil, List.drop_succ_cons, List.drop_zero, Act.put, List.setIfInBounds_toArray, List.set_cons_succ, List.set_cons_zero, e11, e12]
  clear hS hap hla e11 e12 
  replace hT := hT.next hw
  replace h1 := h1.next hw
  replace hW := hW.trans (Below.mono hw hW.size)
  clear hw
  go_upto_region 3 with (fail)
  have lt1 := h1.lt
  have s1 := hW.size
  refine region_seq2 6 110 (fun i => i == 5) [Is (.agg (ints .u8 a).toArray), Is (.tuple #[(.agg (ints .i64 (zeros 64)).toArray), (.int .i64 21)]), Is (.tuple #[(.agg (ints .i64 (zeros 64)).toArray), (.int .i64 21)]), Is (.agg (ints .i64 (zeros 64)).toArray), Is (.int .i64 21), IsZ4 w1.heap.size] [14, 15, 13, 16, 17, 3] (by kernel_rfl) (by kernel_rfl) (Nat.le_of_eq rfl) (grows_cons (Is.grows _) (grows_cons (Is.grows _) (grows_cons (Is.grows _) (grows_cons (Is.grows _) (grows_cons (Is.grows _) (grows_cons (IsZ4.grows _) grows_nil))))))
    ⟨step_by rfl (.inl rfl) h1 1 rfl (by kernel_rfl) rfl rfl,
     step_toT rfl (.inl rfl) rfl cg7 hT kof rfl (one_arg (knows_in 0 14 (by decide) (by kernel_rfl) rfl rfl)),
     step_mv rfl (.inl rfl) rfl rfl (knows_in 1 15 (by decide) (by kernel_rfl) rfl rfl),
     step_fst rfl (.inl rfl) rfl rfl (knows_in 2 13 (by decide) (by kernel_rfl) rfl rfl),
     step_snd rfl (.inl rfl) rfl rfl (knows_in 2 13 (by decide) (by kernel_rfl) rfl rfl),
     step_alloc28 (.inl rfl) rfl rfl, trivial⟩ ?_
  intro val w2 hw hS hap hla
  have e14 : val 14 = (.agg (ints .u8 a).toArray) := hS 0 14 (by decide) rfl
  have e15 : val 15 = (.tuple #[(.agg (ints .i64 (zeros 64)).toArray), (.int .i64 21)]) := hS 1 15 (by decide) rfl
  have e13 : val 13 = (.tuple #[(.agg (ints .i64 (zeros 64)).toArray), (.int .i64 21)]) := hS 2 13 (by decide) rfl
  have e16 : val 16 = (.agg (ints .i64 (zeros 64)).toArray) := hS 3 16 (by decide) rfl
  have e17 : val 17 = (.int .i64 21) := hS 4 17 (by decide) rfl
  obtain ⟨b3, e3, L3, Z3⟩ := hS 5 3 (by decide) rfl
  simp only [putVals, List.foldl_cons, List.foldl_nil, List.drop_succ_cons, List.drop_zero, Act.put, List.setIfInBounds_toArray, List.set_cons_succ, List.set_cons_zero, e14, e15, e13, e16, e17, e3]
  clear hS hap hla e14 e15 e13 e16 e17 e3 
  have LL3 := hid (zeros_len 64)
  have R3 := Z3.room (l' := (zeros 64)) (zeros_len 64)
  have hB3 := Z3.stored (l' := (zeros 64)) (zeros_len 64)
  replace hT := hT.next (Below.setCells hw L3 0 (ints .i64 (zeros 64)).toArray.toList)
  replace h1 := h1.next (Below.setCells hw L3 0 (ints .i64 (zeros 64)).toArray.toList)
  replace hW := hW.trans (Below.mono (Below.setCells hw L3 0 (ints .i64 (zeros 64)).toArray.toList) hW.size)
  with_reducible refine wpList_store_mid (op := ⟨none, .store 28 (.tmp 3) (.tmp 16), _, _, _, _⟩) rfl 28 (.tmp 3) (.tmp 16) rfl b3 0 (ints .i64 (zeros 64)).toArray rfl rfl R3 (a28 LL3.out) (ints_all _ _) ?_
  generalize (w2.setCells b3 0 (ints .i64 (zeros 64)).toArray.toList) = w3 at *
  clear hw R3 LL3 Z3 
  obtain ⟨x0, cx, _, HX⟩ := h1.1.spot (i := 31) (by rw [la]; omega)
  rw [Nat.zero_add] at cx
  obtain rfl : x0 = x := by
    have h := HX.out
    rw [hx] at h
    injection h with h
    exact h.symm
  clear HX
  go_upto_region 5 with (fail)
  clear cx
  have n31 : b3 ≠ W.heap.size := by omega
  clear lt1
  have lt3 := hB3.lt
  have lt1 := h1.lt
  have s3 := hW.size
  refine region_seq2 2 110 (fun i => i == 1) [Is (.agg (ints .u8 a).toArray), IsZ22 w3.heap.size] [21, 6] (by kernel_rfl) (by kernel_rfl) (Nat.le_of_eq rfl) (grows_cons (Is.grows _) (grows_cons (IsZ22.grows _) grows_nil))
    ⟨step_by rfl (.inl rfl) h1 1 rfl (by kernel_rfl) rfl rfl,
     step_alloc22 (.inl rfl) rfl rfl, trivial⟩ ?_
  intro val w4 hw hS hap hla
  have e21 : val 21 = (.agg (ints .u8 a).toArray) := hS 0 21 (by decide) rfl
  obtain ⟨b6, e6, L6, Z6⟩ := hS 1 6 (by decide) rfl
  simp only [putVals, List.foldl_cons, List.foldl_nil, List.drop_succ_cons, List.drop_zero, Act.put, List.setIfInBounds_toArray, List.set_cons_succ, List.set_cons_zero, e21, e6]
  clear hS hap hla e21 e6 
  have LL6 := hid la
  have R6 := Z6.room (l' := a) la
  have hB6 := Z6.stored (l' := a) la
  replace hT := hT.next (Below.setCells hw L6 0 (ints .u8 a).toArray.toList)
  replace h1 := h1.next (Below.setCells hw L6 0 (ints .u8 a).toArray.toList)
  replace hB3 := hB3.next (Below.setCells hw L6 0 (ints .u8 a).toArray.toList)
  replace hW := hW.trans (Below.mono (Below.setCells hw L6 0 (ints .u8 a).toArray.toList) hW.size)
  with_reducible refine wpList_store_mid (op := ⟨none, .store 22 (.tmp 6) (.tmp 21), _, _, _, _⟩) rfl 22 (.tmp 6) (.tmp 21) rfl b6 0 (ints .u8 a).toArray rfl rfl R6 (a22 LL6.out) (ints_all _ _) ?_
  generalize (w4.setCells b6 0 (ints .u8 a).toArray.toList) = w5 at *
  clear hw R6 LL6 Z6 
  have n63 : b6 ≠ b3 := by omega
  have n61 : b6 ≠ W.heap.size := by omega
  obtain ⟨x2, cx, fx, HX⟩ := hB6.1.spot (i := 31) (by rw [la]; omega)
  rw [Nat.zero_add] at cx fx
  obtain rfl : x0 = x2 := by
    have h := HX.out
    rw [hx] at h
    injection h
  have hD1 := hB6.1.set 31 x'
  rw [Nat.zero_add, hys] at hD1
  have h6b : By (w5.setCell ⟨b6, 31, none⟩ (.int .u8 x')) b6 ys := ⟨hD1, ly⟩
  have h1b : By (w5.setCell ⟨b6, 31, none⟩ (.int .u8 x')) W.heap.size a := ⟨h1.1.apart (p := ⟨b6, 31, none⟩) (.int .u8 x') (.inl n61), la⟩
  have h3b : B4 (w5.setCell ⟨b6, 31, none⟩ (.int .u8 x')) b3 (zeros 64) := ⟨hB3.1.apart (p := ⟨b6, 31, none⟩) (.int .u8 x') (.inl n63), hB3.2⟩
  have hWb := hW.setCell (p := ⟨b6, 31, none⟩) (by show W.heap.size ≤ b6; omega) (.int .u8 x')
  have hTb := hT0.next hWb
  have htm : Int.tmod x0 128 = x' := by rw [Int.tmod_eq_emod_of_nonneg hx0.1]; exact hx'
  have hx00 := hx0.1
  have hxw : IntKind.u8.wrap x' = x' := wrap_u8 _ (by omega)
  clear h1 hB3 hB6 hW hT HX hD1 hys hx
  go_upto_region 7 with (fail)
  generalize (w5.setCell ⟨b6, 31, none⟩ (.int .u8 x')) = w6 at *
  have h1 := h1b
  have hB3 := h3b
  have hB6 := h6b
  have hW := hWb
  have hT := hTb
  clear h1b h3b h6b hWb hTb cx fx htm hxw n63 n61 n31 lt3 lt1
  have s6 := hW.size
  refine region_seq2 3 110 (fun _ => false) [Is (.agg (ints .u8 ys).toArray), IsN (bn ys), IsN (bn ys)] [26, 27, 7] (by kernel_rfl) (by kernel_rfl) (Nat.le_of_eq rfl) (grows_cons (Is.grows _) (grows_cons (IsN.grows _) (grows_cons (IsN.grows _) grows_nil)))
    ⟨step_by rfl (.inl rfl) hB6 6 rfl (by kernel_rfl) rfl rfl,
     step_dgs rfl (.inl rfl) ly yys rfl rfl (knows_in 0 26 (by decide) (by kernel_rfl) rfl rfl),
     step_copyN rfl (.inl rfl) 1 27 (.inr rfl) rfl (by decide) (by kernel_rfl) rfl rfl, trivial⟩ ?_
  intro val w7 hw hS hap hla
  have e26 : val 26 = (.agg (ints .u8 ys).toArray) := hS 0 26 (by decide) rfl
  obtain ⟨A27, c27, y27, e27, H27, M27⟩ := hS 1 27 (by decide) rfl
  obtain ⟨A7, c7, y7, e7, H7, M7⟩ := hS 2 7 (by decide) rfl
  simp only [putVals, List.foldl_cons, List.foldl_nil, List.drop_succ_cons, List.drop_zero, Act.put, List.setIfInBounds_toArray, List.set_cons_succ, List.set_cons_zero, e26, e27, e7]
  clear hS hap hla e26 e27 e7 H27 M27
  replace hT := hT.next hw
  replace h1 := h1.next hw
  replace hB3 := hB3.next hw
  replace hB6 := hB6.next hw
  replace hW := hW.trans (Below.mono hw hW.size)
  clear hw
  go_upto_region 8 with (fail)
  have s7 := hW.size
  refine region_seq2 1 110 (fun i => i == 0) [IsZ4 w7.heap.size] [8] (by kernel_rfl) (by kernel_rfl) (Nat.le_of_eq rfl) (grows_cons (IsZ4.grows _) grows_nil)
    ⟨step_alloc28 (.inl rfl) rfl rfl, trivial⟩ ?_
  intro val w8 hw hS hap hla
  obtain ⟨b8, e8, L8, Z8⟩ := hS 0 8 (by decide) rfl
  simp only [putVals, List.foldl_cons, List.foldl_nil, List.drop_succ_cons, List.drop_zero, Act.put, List.setIfInBounds_toArray, List.set_cons_succ, List.set_cons_zero, e8]
  clear hS hap hla e8 
  replace hT := hT.next hw
  replace h1 := h1.next hw
  replace hB3 := hB3.next hw
  replace hB6 := hB6.next hw
  replace M7 := M7.below hw
  replace hW := hW.trans (Below.mono hw hW.size)
  clear hw
  go_upto_region 9 with (fail)
  have s8 := hW.size
  refine region_seq2 25 110 (fun _ => false) [Is (.agg (ints .i64 (zeros 64)).toArray), Is (.bool false), Is (.bool false), Is (.agg (ints .i64 (zeros 64)).toArray), Is (.agg (ints .u8 (zeros 32)).toArray), Is (.agg (ints .u8 (zeros 32)).toArray), Is (.bool false), Is (.bool false), Is (.bool false), Is (.agg (ints .i64 (zeros 64)).toArray), Is (.agg (ints .i64 (zeros 64)).toArray), Is (.agg (ints .i64 sz).toArray), Is (.bool false), Is (.bool false), Is (.bool false), Is (.agg (ints .i64 (zeros 64)).toArray), Is (.agg (ints .u8 a).toArray), Is (.agg (ints .i64 (zeros 64)).toArray), Is (.bool false), Is (.bool false), Is (.bool false), Is (.agg (ints .i64 (zeros 64)).toArray), Is (.agg (ints .i64 ng).toArray), Is (.bool false), Is (.bool false)] [28, 29, 30, 31, 32, 33, 34, 35, 36, 37, 38, 39, 40, 41, 42, 43, 44, 45, 46, 47, 48, 49, 50, 51, 52] (by kernel_rfl) (by kernel_rfl) (Nat.le_of_eq rfl) (grows_cons (Is.grows _) (grows_cons (Is.grows _) (grows_cons (Is.grows _) (grows_cons (Is.grows _) (grows_cons (Is.grows _) (grows_cons (Is.grows _) (grows_cons (Is.grows _) (grows_cons (Is.grows _) (grows_cons (Is.grows _) (grows_cons (Is.grows _) (grows_cons (Is.grows _) (grows_cons (Is.grows _) (grows_cons (Is.grows _) (grows_cons (Is.grows _) (grows_cons (Is.grows _) (grows_cons (Is.grows _) (grows_cons (Is.grows _) (grows_cons (Is.grows _) (grows_cons (Is.grows _) (grows_cons (Is.grows _) (grows_cons (Is.grows _) (grows_cons (Is.grows _) (grows_cons (Is.grows _) (grows_cons (Is.grows _) (grows_cons (Is.grows _) grows_nil)))))))))))))))))))))))))
    ⟨step_pt rfl (.inl rfl) Z8 8 rfl (by kernel_rfl) rfl rfl,
     step_toT rfl (.inl rfl) rfl cg9 hT none_on rfl (one_arg (knows_in 0 28 (by decide) (by kernel_rfl) rfl rfl)),
     step_mv rfl (.inl rfl) rfl rfl (knows_in 1 29 (by decide) (by kernel_rfl) rfl rfl),
     step_pt rfl (.inr ⟨2, false, 30, rfl, by decide, by kernel_rfl, rfl, fun _ _ h => h⟩) Z8 8 rfl (by kernel_rfl) rfl rfl,
     step_to rfl (.inr ⟨2, false, 30, rfl, by decide, by kernel_rfl, rfl, fun _ _ h => h⟩) rfl cg10 none_bytes rfl (one_arg (knows_in 3 31 (by decide) (by kernel_rfl) rfl rfl)),
     step_noneB rfl (.inr ⟨2, false, 30, rfl, by decide, by kernel_rfl, rfl, fun _ _ h => h⟩) rfl rfl,
     step_nes rfl (.inr ⟨2, false, 30, rfl, by decide, by kernel_rfl, rfl, fun _ _ h => h⟩) rfl (zeros_len 32) rfl (knows_in 4 32 (by decide) (by kernel_rfl) rfl rfl) (knows_in 5 33 (by decide) (by kernel_rfl) rfl rfl),
     step_pick rfl (.inl rfl) (b := false) rfl rfl (knows_in 2 30 (by decide) (by kernel_rfl) rfl rfl) (knows_in 6 34 (by decide) (by kernel_rfl) rfl rfl),
     step_mv rfl (.inl rfl) rfl rfl (knows_in 7 35 (by decide) (by kernel_rfl) rfl rfl),
     step_pt rfl (.inr ⟨8, false, 36, rfl, by decide, by kernel_rfl, rfl, fun _ _ h => h⟩) Z8 8 rfl (by kernel_rfl) rfl rfl,
     step_pt rfl (.inr ⟨8, false, 36, rfl, by decide, by kernel_rfl, rfl, fun _ _ h => h⟩) hB3 3 rfl (by kernel_rfl) rfl rfl,
     step_toT rfl (.inr ⟨8, false, 36, rfl, by decide, by kernel_rfl, rfl, fun _ _ h => h⟩) rfl cg11 hT ksz rfl (two_args (knows_in 9 37 (by decide) (by kernel_rfl) rfl rfl) (knows_in 10 38 (by decide) (by kernel_rfl) rfl rfl)),
     step_toT rfl (.inr ⟨8, false, 36, rfl, by decide, by kernel_rfl, rfl, fun _ _ h => h⟩) rfl cg9 hT osz rfl (one_arg (knows_in 11 39 (by decide) (by kernel_rfl) rfl rfl)),
     step_pick rfl (.inl rfl) (b := false) rfl rfl (knows_in 8 36 (by decide) (by kernel_rfl) rfl rfl) (knows_in 12 40 (by decide) (by kernel_rfl) rfl rfl),
     step_mv rfl (.inl rfl) rfl rfl (knows_in 13 41 (by decide) (by kernel_rfl) rfl rfl),
     step_pt rfl (.inr ⟨14, false, 42, rfl, by decide, by kernel_rfl, rfl, fun _ _ h => h⟩) Z8 8 rfl (by kernel_rfl) rfl rfl,
     step_by rfl (.inr ⟨14, false, 42, rfl, by decide, by kernel_rfl, rfl, fun _ _ h => h⟩) h1 1 rfl (by kernel_rfl) rfl rfl,
     step_to rfl (.inr ⟨14, false, 42, rfl, by decide, by kernel_rfl, rfl, fun _ _ h => h⟩) rfl cg12 (none_mul la) rfl (two_args (knows_in 15 43 (by decide) (by kernel_rfl) rfl rfl) (knows_in 16 44 (by decide) (by kernel_rfl) rfl rfl)),
     step_toT rfl (.inr ⟨14, false, 42, rfl, by decide, by kernel_rfl, rfl, fun _ _ h => h⟩) rfl cg9 hT none_on rfl (one_arg (knows_in 17 45 (by decide) (by kernel_rfl) rfl rfl)),
     step_pick rfl (.inl rfl) (b := false) rfl rfl (knows_in 14 42 (by decide) (by kernel_rfl) rfl rfl) (knows_in 18 46 (by decide) (by kernel_rfl) rfl rfl),
     step_mv rfl (.inl rfl) rfl rfl (knows_in 19 47 (by decide) (by kernel_rfl) rfl rfl),
     step_pt rfl (.inr ⟨20, false, 48, rfl, by decide, by kernel_rfl, rfl, fun _ _ h => h⟩) Z8 8 rfl (by kernel_rfl) rfl rfl,
     step_to rfl (.inr ⟨20, false, 48, rfl, by decide, by kernel_rfl, rfl, fun _ _ h => h⟩) rfl cg13 kng rfl (one_arg (knows_in 21 49 (by decide) (by kernel_rfl) rfl rfl)),
     step_toT rfl (.inr ⟨20, false, 48, rfl, by decide, by kernel_rfl, rfl, fun _ _ h => h⟩) rfl cg9 hT ong rfl (one_arg (knows_in 22 50 (by decide) (by kernel_rfl) rfl rfl)),
     step_pick rfl (.inl rfl) (b := false) rfl rfl (knows_in 20 48 (by decide) (by kernel_rfl) rfl rfl) (knows_in 23 51 (by decide) (by kernel_rfl) rfl rfl), trivial⟩ ?_
  intro val w9 hw hS hap hla
  have e28 : val 28 = (.agg (ints .i64 (zeros 64)).toArray) := hS 0 28 (by decide) rfl
  have e29 : val 29 = (.bool false) := hS 1 29 (by decide) rfl
  have e30 : val 30 = (.bool false) := hS 2 30 (by decide) rfl
  have e31 : val 31 = (.agg (ints .i64 (zeros 64)).toArray) := hS 3 31 (by decide) rfl
  have e32 : val 32 = (.agg (ints .u8 (zeros 32)).toArray) := hS 4 32 (by decide) rfl
  have e33 : val 33 = (.agg (ints .u8 (zeros 32)).toArray) := hS 5 33 (by decide) rfl
  have e34 : val 34 = (.bool false) := hS 6 34 (by decide) rfl
  have e35 : val 35 = (.bool false) := hS 7 35 (by decide) rfl
  have e36 : val 36 = (.bool false) := hS 8 36 (by decide) rfl
  have e37 : val 37 = (.agg (ints .i64 (zeros 64)).toArray) := hS 9 37 (by decide) rfl
  have e38 : val 38 = (.agg (ints .i64 (zeros 64)).toArray) := hS 10 38 (by decide) rfl
  have e39 : val 39 = (.agg (ints .i64 sz).toArray) := hS 11 39 (by decide) rfl
  have e40 : val 40 = (.bool false) := hS 12 40 (by decide) rfl
  have e41 : val 41 = (.bool false) := hS 13 41 (by decide) rfl
  have e42 : val 42 = (.bool false) := hS 14 42 (by decide) rfl
  have e43 : val 43 = (.agg (ints .i64 (zeros 64)).toArray) := hS 15 43 (by decide) rfl
  have e44 : val 44 = (.agg (ints .u8 a).toArray) := hS 16 44 (by decide) rfl
  have e45 : val 45 = (.agg (ints .i64 (zeros 64)).toArray) := hS 17 45 (by decide) rfl
  have e46 : val 46 = (.bool false) := hS 18 46 (by decide) rfl
  have e47 : val 47 = (.bool false) := hS 19 47 (by decide) rfl
  have e48 : val 48 = (.bool false) := hS 20 48 (by decide) rfl
  have e49 : val 49 = (.agg (ints .i64 (zeros 64)).toArray) := hS 21 49 (by decide) rfl
  have e50 : val 50 = (.agg (ints .i64 ng).toArray) := hS 22 50 (by decide) rfl
  have e51 : val 51 = (.bool false) := hS 23 51 (by decide) rfl
  have e52 : val 52 = (.bool false) := hS 24 52 (by decide) rfl
  simp only [putVals, List.foldl_cons, List.foldl_nil, List.drop_succ_cons, List.drop_zero, Act.put, List.setIfInBounds_toArray, List.set_cons_succ, List.set_cons_zero, e28, e29, e30, e31, e32, e33, e34, e35, e36, e37, e38, e39, e40, e41, e42, e43, e44, e45, e46, e47, e48, e49, e50, e51, e52]
  clear hS hap hla e28 e29 e30 e31 e32 e33 e34 e35 e36 e37 e38 e39 e40 e41 e42 e43 e44 e45 e46 e47 e48 e49 e50 e51 e52 
  replace hT := hT.next hw
  replace h1 := h1.next hw
  replace hB3 := hB3.next hw
  replace hB6 := hB6.next hw
  replace M7 := M7.below hw
  replace Z8 := Z8.next hw
  replace hW := hW.trans (Below.mono hw hW.size)
  clear hw
  go_upto_region 11 with (fail)
  have s9 := hW.size
  refine region_seq2 3 110 (fun _ => false) [Is (.slice A7 16 c7), IsN NT.PN, Is (.bool true)] [53, 54, 55] (by kernel_rfl) (by kernel_rfl) (Nat.le_of_eq rfl) (grows_cons (Is.grows _) (grows_cons (IsN.grows _) (grows_cons (Is.grows _) grows_nil)))
    ⟨step_mv rfl (.inl rfl) rfl rfl (knows_out 7 (by kernel_rfl) rfl),
     step_rn rfl (.inl rfl) rfl cg15 rfl (fun a w hw hf hd => ⟨#[], by simp, rf_p w⟩),
     step_atl rfl (.inl rfl) hge rfl rfl ((knows_in 0 53 (by decide) (by kernel_rfl) rfl rfl).r H7 M7) (knowsN_in 1 54 (by decide) (by kernel_rfl) rfl rfl), trivial⟩ ?_
  intro val w10 hw hS hap hla
  have e53 : val 53 = (.slice A7 16 c7) := hS 0 53 (by decide) rfl
  obtain ⟨A54, c54, y54, e54, H54, M54⟩ := hS 1 54 (by decide) rfl
  have e55 : val 55 = (.bool true) := hS 2 55 (by decide) rfl
  simp only [putVals, List.foldl_cons, List.foldl_nil, List.drop_succ_cons, List.drop_zero, Act.put, List.setIfInBounds_toArray, List.set_cons_succ, List.set_cons_zero, e53, e54, e55]
  clear hS hap hla e53 e54 e55 H54 M54
  replace hT := hT.next hw
  replace h1 := h1.next hw
  replace hB3 := hB3.next hw
  replace hB6 := hB6.next hw
  replace M7 := M7.below hw
  replace Z8 := Z8.next hw
  replace hW := hW.trans (Below.mono hw hW.size)
  clear hw
  go_upto_region 12 with (fail)
  have s10 := hW.size
  refine region_seq2 8 110 (fun _ => false) [Is (.int .i64 21), Is (.bool true), Is (.bool true), Is (.agg (ints .i64 (zeros 64)).toArray), Is (.bool false), Is (.bool true), Is (.bool true), Is (.bool true)] [56, 57, 58, 59, 60, 61, 62, 2] (by kernel_rfl) (by kernel_rfl) (Nat.le_of_eq rfl) (grows_cons (Is.grows _) (grows_cons (Is.grows _) (grows_cons (Is.grows _) (grows_cons (Is.grows _) (grows_cons (Is.grows _) (grows_cons (Is.grows _) (grows_cons (Is.grows _) (grows_cons (Is.grows _) grows_nil))))))))
    ⟨step_mv rfl (.inl rfl) rfl rfl (knows_out 4 (by kernel_rfl) rfl),
     step_eqE rfl (.inl rfl) rfl rfl rfl (knows_in 0 56 (by decide) (by kernel_rfl) rfl rfl),
     step_mv rfl (.inl rfl) rfl rfl (knows_in 1 57 (by decide) (by kernel_rfl) rfl rfl),
     step_pt rfl (.inr ⟨2, true, 58, rfl, by decide, by kernel_rfl, rfl, fun _ _ h => h⟩) hB3 3 rfl (by kernel_rfl) rfl rfl,
     step_toT rfl (.inr ⟨2, true, 58, rfl, by decide, by kernel_rfl, rfl, fun _ _ h => h⟩) rfl cg9 hT none_on rfl (one_arg (knows_in 3 59 (by decide) (by kernel_rfl) rfl rfl)),
     step_not rfl (.inr ⟨2, true, 58, rfl, by decide, by kernel_rfl, rfl, fun _ _ h => h⟩) (b := false) rfl rfl (knows_in 4 60 (by decide) (by kernel_rfl) rfl rfl),
     step_pick rfl (.inl rfl) (b := true) rfl rfl (knows_in 2 58 (by decide) (by kernel_rfl) rfl rfl) (knows_in 5 61 (by decide) (by kernel_rfl) rfl rfl),
     step_asg rfl (.inl rfl) rfl rfl (knows_in 6 62 (by decide) (by kernel_rfl) rfl rfl), trivial⟩ ?_
  intro val w11 hw hS hap hla
  have e56 : val 56 = (.int .i64 21) := hS 0 56 (by decide) rfl
  have e57 : val 57 = (.bool true) := hS 1 57 (by decide) rfl
  have e58 : val 58 = (.bool true) := hS 2 58 (by decide) rfl
  have e59 : val 59 = (.agg (ints .i64 (zeros 64)).toArray) := hS 3 59 (by decide) rfl
  have e60 : val 60 = (.bool false) := hS 4 60 (by decide) rfl
  have e61 : val 61 = (.bool true) := hS 5 61 (by decide) rfl
  have e62 : val 62 = (.bool true) := hS 6 62 (by decide) rfl
  have e2 : val 2 = (.bool true) := hS 7 2 (by decide) rfl
  simp only [putVals, List.foldl_cons, List.foldl_nil, List.drop_succ_cons, List.drop_zero, Act.put, List.setIfInBounds_toArray, List.set_cons_succ, List.set_cons_zero, e56, e57, e58, e59, e60, e61, e62, e2]
  clear hS hap hla e56 e57 e58 e59 e60 e61 e62 e2 
  replace hT := hT.next hw
  replace h1 := h1.next hw
  replace hB3 := hB3.next hw
  replace hB6 := hB6.next hw
  replace M7 := M7.below hw
  replace Z8 := Z8.next hw
  replace hW := hW.trans (Below.mono hw hW.size)
  clear hw
  go_wp2_with (fail)
  go_ret
  exact ⟨rfl, hW⟩
set_option maxRecDepth 4000 in
set_option maxHeartbeats 16000000 in
theorem of_A_e {a : List Int} (la : a.length = 32) {x x' : Int} (hx : a[31]? = some x) (hx0 : 0 ≤ x ∧ x < 256) (hod : ¬ 128 ≤ x) (hx' : x % 128 = x') {ys : List Int} (hys : a.set 31 x' = ys) (ly : ys.length = 32) (yys : Byt ys) (hge : decide (NT.PN ≤ bn ys) = true) (kof : CallsT 7 #[.agg (ints .u8 a).toArray] (.tuple #[.agg (ints .i64 (zeros 64)).toArray, .int .i64 21])) : CallsT 3 #[.agg (ints .u8 a).toArray] (.bool true) := by
  obtain ⟨ksz, hsz⟩ := sumL_spec pn_none pn_none
  have osz := c_on_no hsz (no_add dF _)
  have lsz := hsz.len
  obtain ⟨sz, hsze⟩ : ∃ l, sumL (zeros 64) (zeros 64) = l := ⟨_, rfl⟩
  rw [hsze] at ksz osz lsz
  clear hsze hsz
  obtain ⟨ng, kng, hng⟩ := c_pneg pn_none
  have ong := c_on_no hng neg_zero_z
  have lng := hng.len

  intro W hT
  have h1 := By.new W a la
  have hW := below_new W (.cells (ints .u8 a).toArray 22)
  have hT0 := hT
  replace hT := (hT.alloc (.cells (ints .u8 a).toArray 22))
  go_enter Tryd.func3, Tryd.ntmps3
  go_upto_region 1 with (fail)
  generalize W.alloc (.cells (ints .u8 a).toArray 22) = w0 at *
  have s0 := hW.size
  refine region_seq2 2 110 (fun _ => false) [Is (.bool true), Is (.bool false)] [11, 12] (by kernel_rfl) (by kernel_rfl) (Nat.le_of_eq rfl) (grows_cons (Is.grows _) (grows_cons (Is.grows _) grows_nil))
    ⟨step_toT rfl (.inl rfl) rfl cg6 hT awake_any rfl (no_args),
     step_not rfl (.inl rfl) (b := true) rfl rfl (knows_in 0 11 (by decide) (by kernel_rfl) rfl rfl), trivial⟩ ?_
  intro val w1 hw hS hap hla
  have e11 : val 11 = (.bool true) := hS 0 11 (by decide) rfl
  have e12 : val 12 = (.bool false) := hS 1 12 (by decide) rfl
  simp only [putVals, List.foldl_cons, List.foldl_nil, List.drop_succ_cons, List.drop_zero, Act.put, List.setIfInBounds_toArray, List.set_cons_succ, List.set_cons_zero, e11, e12]
  clear hS hap hla e11 e12 
  replace hT := hT.next hw
  replace h1 := h1.next hw
  replace hW := hW.trans (Below.mono hw hW.size)
  clear hw
  go_upto_region 3 with (fail)
  have lt1 := h1.lt
  have s1 := hW.size
  refine region_seq2 6 110 (fun i => i == 5) [Is (.agg (ints .u8 a).toArray), Is (.tuple #[(.agg (ints .i64 (zeros 64)).toArray), (.int .i64 21)]), Is (.tuple #[(.agg (ints .i64 (zeros 64)).toArray), (.int .i64 21)]), Is (.agg (ints .i64 (zeros 64)).toArray), Is (.int .i64 21), IsZ4 w1.heap.size] [14, 15, 13, 16, 17, 3] (by kernel_rfl) (by kernel_rfl) (Nat.le_of_eq rfl) (grows_cons (Is.grows _) (grows_cons (Is.grows _) (grows_cons (Is.grows _) (grows_cons (Is.grows _) (grows_cons (Is.grows _) (grows_cons (IsZ4.grows _) grows_nil))))))
    ⟨step_by rfl (.inl rfl) h1 1 rfl (by kernel_rfl) rfl rfl,
     step_toT rfl (.inl rfl) rfl cg7 hT kof rfl (one_arg (knows_in 0 14 (by decide) (by kernel_rfl) rfl rfl)),
     step_mv rfl (.inl rfl) rfl rfl (knows_in 1 15 (by decide) (by kernel_rfl) rfl rfl),
     step_fst rfl (.inl rfl) rfl rfl (knows_in 2 13 (by decide) (by kernel_rfl) rfl rfl),
     step_snd rfl (.inl rfl) rfl rfl (knows_in 2 13 (by decide) (by kernel_rfl) rfl rfl),
     step_alloc28 (.inl rfl) rfl rfl, trivial⟩ ?_
  intro val w2 hw hS hap hla
  have e14 : val 14 = (.agg (ints .u8 a).toArray) := hS 0 14 (by decide) rfl
  have e15 : val 15 = (.tuple #[(.agg (ints .i64 (zeros 64)).toArray), (.int .i64 21)]) := hS 1 15 (by decide) rfl
  have e13 : val 13 = (.tuple #[(.agg (ints .i64 (zeros 64)).toArray), (.int .i64 21)]) := hS 2 13 (by decide) rfl
  have e16 : val 16 = (.agg (ints .i64 (zeros 64)).toArray) := hS 3 16 (by decide) rfl
  have e17 : val 17 = (.int .i64 21) := hS 4 17 (by decide) rfl
  obtain ⟨b3, e3, L3, Z3⟩ := hS 5 3 (by decide) rfl
  simp only [putVals, List.foldl_cons, List.foldl_nil, List.drop_succ_cons, List.drop_zero, Act.put, List.setIfInBounds_toArray, List.set_cons_succ, List.set_cons_zero, e14, e15, e13, e16, e17, e3]
  clear hS hap hla e14 e15 e13 e16 e17 e3 
  have LL3 := hid (zeros_len 64)
  have R3 := Z3.room (l' := (zeros 64)) (zeros_len 64)
  have hB3 := Z3.stored (l' := (zeros 64)) (zeros_len 64)
  replace hT := hT.next (Below.setCells hw L3 0 (ints .i64 (zeros 64)).toArray.toList)
  replace h1 := h1.next (Below.setCells hw L3 0 (ints .i64 (zeros 64)).toArray.toList)
  replace hW := hW.trans (Below.mono (Below.setCells hw L3 0 (ints .i64 (zeros 64)).toArray.toList) hW.size)
  with_reducible refine wpList_store_mid (op := ⟨none, .store 28 (.tmp 3) (.tmp 16), _, _, _, _⟩) rfl 28 (.tmp 3) (.tmp 16) rfl b3 0 (ints .i64 (zeros 64)).toArray rfl rfl R3 (a28 LL3.out) (ints_all _ _) ?_
  generalize (w2.setCells b3 0 (ints .i64 (zeros 64)).toArray.toList) = w3 at *
  clear hw R3 LL3 Z3 
  obtain ⟨x0, cx, _, HX⟩ := h1.1.spot (i := 31) (by rw [la]; omega)
  rw [Nat.zero_add] at cx
  obtain rfl : x0 = x := by
    have h := HX.out
    rw [hx] at h
    injection h with h
    exact h.symm
  clear HX
  go_upto_region 5 with (fail)
  clear cx
  have n31 : b3 ≠ W.heap.size := by omega
  clear lt1
  have lt3 := hB3.lt
  have lt1 := h1.lt
  have s3 := hW.size
  refine region_seq2 2 110 (fun i => i == 1) [Is (.agg (ints .u8 a).toArray), IsZ22 w3.heap.size] [21, 6] (by kernel_rfl) (by kernel_rfl) (Nat.le_of_eq rfl) (grows_cons (Is.grows _) (grows_cons (IsZ22.grows _) grows_nil))
    ⟨step_by rfl (.inl rfl) h1 1 rfl (by kernel_rfl) rfl rfl,
     step_alloc22 (.inl rfl) rfl rfl, trivial⟩ ?_
  intro val w4 hw hS hap hla
  have e21 : val 21 = (.agg (ints .u8 a).toArray) := hS 0 21 (by decide) rfl
  obtain ⟨b6, e6, L6, Z6⟩ := hS 1 6 (by decide) rfl
  simp only [putVals, List.foldl_cons, List.foldl_nil, List.drop_succ_cons, List.drop_zero, Act.put, List.setIfInBounds_toArray, List.set_cons_succ, List.set_cons_zero, e21, e6]
  clear hS hap hla e21 e6 
  have LL6 := hid la
  have R6 := Z6.room (l' := a) la
  have hB6 := Z6.stored (l' := a) la
  replace hT := hT.next (Below.setCells hw L6 0 (ints .u8 a).toArray.toList)
  replace h1 := h1.next (Below.setCells hw L6 0 (ints .u8 a).toArray.toList)
  replace hB3 := hB3.next (Below.setCells hw L6 0 (ints .u8 a).toArray.toList)
  replace hW := hW.trans (Below.mono (Below.setCells hw L6 0 (ints .u8 a).toArray.toList) hW.size)
  with_reducible refine wpList_store_mid (op := ⟨none, .store 22 (.tmp 6) (.tmp 21), _, _, _, _⟩) rfl 22 (.tmp 6) (.tmp 21) rfl b6 0 (ints .u8 a).toArray rfl rfl R6 (a22 LL6.out) (ints_all _ _) ?_
  generalize (w4.setCells b6 0 (ints .u8 a).toArray.toList) = w5 at *
  clear hw R6 LL6 Z6 
  have n63 : b6 ≠ b3 := by omega
  have n61 : b6 ≠ W.heap.size := by omega
  obtain ⟨x2, cx, fx, HX⟩ := hB6.1.spot (i := 31) (by rw [la]; omega)
  rw [Nat.zero_add] at cx fx
  obtain rfl : x0 = x2 := by
    have h := HX.out
    rw [hx] at h
    injection h
  have hD1 := hB6.1.set 31 x'
  rw [Nat.zero_add, hys] at hD1
  have h6b : By (w5.setCell ⟨b6, 31, none⟩ (.int .u8 x')) b6 ys := ⟨hD1, ly⟩
  have h1b : By (w5.setCell ⟨b6, 31, none⟩ (.int .u8 x')) W.heap.size a := ⟨h1.1.apart (p := ⟨b6, 31, none⟩) (.int .u8 x') (.inl n61), la⟩
  have h3b : B4 (w5.setCell ⟨b6, 31, none⟩ (.int .u8 x')) b3 (zeros 64) := ⟨hB3.1.apart (p := ⟨b6, 31, none⟩) (.int .u8 x') (.inl n63), hB3.2⟩
  have hWb := hW.setCell (p := ⟨b6, 31, none⟩) (by show W.heap.size ≤ b6; omega) (.int .u8 x')
  have hTb := hT0.next hWb
  have htm : Int.tmod x0 128 = x' := by rw [Int.tmod_eq_emod_of_nonneg hx0.1]; exact hx'
  have hx00 := hx0.1
  have hxw : IntKind.u8.wrap x' = x' := wrap_u8 _ (by omega)
  clear h1 hB3 hB6 hW hT HX hD1 hys hx
  go_upto_region 7 with (fail)
  generalize (w5.setCell ⟨b6, 31, none⟩ (.int .u8 x')) = w6 at *
  have h1 := h1b
  have hB3 := h3b
  have hB6 := h6b
  have hW := hWb
  have hT := hTb
  clear h1b h3b h6b hWb hTb cx fx htm hxw n63 n61 n31 lt3 lt1
  have s6 := hW.size
  refine region_seq2 3 110 (fun _ => false) [Is (.agg (ints .u8 ys).toArray), IsN (bn ys), IsN (bn ys)] [26, 27, 7] (by kernel_rfl) (by kernel_rfl) (Nat.le_of_eq rfl) (grows_cons (Is.grows _) (grows_cons (IsN.grows _) (grows_cons (IsN.grows _) grows_nil)))
    ⟨step_by rfl (.inl rfl) hB6 6 rfl (by kernel_rfl) rfl rfl,
     step_dgs rfl (.inl rfl) ly yys rfl rfl (knows_in 0 26 (by decide) (by kernel_rfl) rfl rfl),
     step_copyN rfl (.inl rfl) 1 27 (.inr rfl) rfl (by decide) (by kernel_rfl) rfl rfl, trivial⟩ ?_
  intro val w7 hw hS hap hla
  have e26 : val 26 = (.agg (ints .u8 ys).toArray) := hS 0 26 (by decide) rfl
  obtain ⟨A27, c27, y27, e27, H27, M27⟩ := hS 1 27 (by decide) rfl
  obtain ⟨A7, c7, y7, e7, H7, M7⟩ := hS 2 7 (by decide) rfl
  simp only [putVals, List.foldl_cons, List.foldl_nil, List.drop_succ_cons, List.drop_zero, Act.put, List.setIfInBounds_toArray, List.set_cons_succ, List.set_cons_zero, e26, e27, e7]
  clear hS hap hla e26 e27 e7 H27 M27
  replace hT := hT.next hw
  replace h1 := h1.next hw
  replace hB3 := hB3.next hw
  replace hB6 := hB6.next hw
  replace hW := hW.trans (Below.mono hw hW.size)
  clear hw
  go_upto_region 8 with (fail)
  have s7 := hW.size
  refine region_seq2 1 110 (fun i => i == 0) [IsZ4 w7.heap.size] [8] (by kernel_rfl) (by kernel_rfl) (Nat.le_of_eq rfl) (grows_cons (IsZ4.grows _) grows_nil)
    ⟨step_alloc28 (.inl rfl) rfl rfl, trivial⟩ ?_
  intro val w8 hw hS hap hla
  obtain ⟨b8, e8, L8, Z8⟩ := hS 0 8 (by decide) rfl
  simp only [putVals, List.foldl_cons, List.foldl_nil, List.drop_succ_cons, List.drop_zero, Act.put, List.setIfInBounds_toArray, List.set_cons_succ, List.set_cons_zero, e8]
  clear hS hap hla e8 
  replace hT := hT.next hw
  replace h1 := h1.next hw
  replace hB3 := hB3.next hw
  replace hB6 := hB6.next hw
  replace M7 := M7.below hw
  replace hW := hW.trans (Below.mono hw hW.size)
  clear hw
  go_upto_region 9 with (fail)
  have s8 := hW.size
  refine region_seq2 25 110 (fun _ => false) [Is (.agg (ints .i64 (zeros 64)).toArray), Is (.bool false), Is (.bool false), Is (.agg (ints .i64 (zeros 64)).toArray), Is (.agg (ints .u8 (zeros 32)).toArray), Is (.agg (ints .u8 (zeros 32)).toArray), Is (.bool false), Is (.bool false), Is (.bool false), Is (.agg (ints .i64 (zeros 64)).toArray), Is (.agg (ints .i64 (zeros 64)).toArray), Is (.agg (ints .i64 sz).toArray), Is (.bool false), Is (.bool false), Is (.bool false), Is (.agg (ints .i64 (zeros 64)).toArray), Is (.agg (ints .u8 a).toArray), Is (.agg (ints .i64 (zeros 64)).toArray), Is (.bool false), Is (.bool false), Is (.bool false), Is (.agg (ints .i64 (zeros 64)).toArray), Is (.agg (ints .i64 ng).toArray), Is (.bool false), Is (.bool false)] [28, 29, 30, 31, 32, 33, 34, 35, 36, 37, 38, 39, 40, 41, 42, 43, 44, 45, 46, 47, 48, 49, 50, 51, 52] (by kernel_rfl) (by kernel_rfl) (Nat.le_of_eq rfl) (grows_cons (Is.grows _) (grows_cons (Is.grows _) (grows_cons (Is.grows _) (grows_cons (Is.grows _) (grows_cons (Is.grows _) (grows_cons (Is.grows _) (grows_cons (Is.grows _) (grows_cons (Is.grows _) (grows_cons (Is.grows _) (grows_cons (Is.grows _) (grows_cons (Is.grows _) (grows_cons (Is.grows _) (grows_cons (Is.grows _) (grows_cons (Is.grows _) (grows_cons (Is.grows _) (grows_cons (Is.grows _) (grows_cons (Is.grows _) (grows_cons (Is.grows _) (grows_cons (Is.grows _) (grows_cons (Is.grows _) (grows_cons (Is.grows _) (grows_cons (Is.grows _) (grows_cons (Is.grows _) (grows_cons (Is.grows _) (grows_cons (Is.grows _) grows_nil)))))))))))))))))))))))))
    ⟨step_pt rfl (.inl rfl) Z8 8 rfl (by kernel_rfl) rfl rfl,
     step_toT rfl (.inl rfl) rfl cg9 hT none_on rfl (one_arg (knows_in 0 28 (by decide) (by kernel_rfl) rfl rfl)),
     step_mv rfl (.inl rfl) rfl rfl (knows_in 1 29 (by decide) (by kernel_rfl) rfl rfl),
     step_pt rfl (.inr ⟨2, false, 30, rfl, by decide, by kernel_rfl, rfl, fun _ _ h => h⟩) Z8 8 rfl (by kernel_rfl) rfl rfl,
     step_to rfl (.inr ⟨2, false, 30, rfl, by decide, by kernel_rfl, rfl, fun _ _ h => h⟩) rfl cg10 none_bytes rfl (one_arg (knows_in 3 31 (by decide) (by kernel_rfl) rfl rfl)),
     step_noneB rfl (.inr ⟨2, false, 30, rfl, by decide, by kernel_rfl, rfl, fun _ _ h => h⟩) rfl rfl,
     step_nes rfl (.inr ⟨2, false, 30, rfl, by decide, by kernel_rfl, rfl, fun _ _ h => h⟩) rfl (zeros_len 32) rfl (knows_in 4 32 (by decide) (by kernel_rfl) rfl rfl) (knows_in 5 33 (by decide) (by kernel_rfl) rfl rfl),
     step_pick rfl (.inl rfl) (b := false) rfl rfl (knows_in 2 30 (by decide) (by kernel_rfl) rfl rfl) (knows_in 6 34 (by decide) (by kernel_rfl) rfl rfl),
     step_mv rfl (.inl rfl) rfl rfl (knows_in 7 35 (by decide) (by kernel_rfl) rfl rfl),
     step_pt rfl (.inr ⟨8, false, 36, rfl, by decide, by kernel_rfl, rfl, fun _ _ h => h⟩) Z8 8 rfl (by kernel_rfl) rfl rfl,
     step_pt rfl (.inr ⟨8, false, 36, rfl, by decide, by kernel_rfl, rfl, fun _ _ h => h⟩) hB3 3 rfl (by kernel_rfl) rfl rfl,
     step_toT rfl (.inr ⟨8, false, 36, rfl, by decide, by kernel_rfl, rfl, fun _ _ h => h⟩) rfl cg11 hT ksz rfl (two_args (knows_in 9 37 (by decide) (by kernel_rfl) rfl rfl) (knows_in 10 38 (by decide) (by kernel_rfl) rfl rfl)),
     step_toT rfl (.inr ⟨8, false, 36, rfl, by decide, by kernel_rfl, rfl, fun _ _ h => h⟩) rfl cg9 hT osz rfl (one_arg (knows_in 11 39 (by decide) (by kernel_rfl) rfl rfl)),
     step_pick rfl (.inl rfl) (b := false) rfl rfl (knows_in 8 36 (by decide) (by kernel_rfl) rfl rfl) (knows_in 12 40 (by decide) (by kernel_rfl) rfl rfl),
     step_mv rfl (.inl rfl) rfl rfl (knows_in 13 41 (by decide) (by kernel_rfl) rfl rfl),
     step_pt rfl (.inr ⟨14, false, 42, rfl, by decide, by kernel_rfl, rfl, fun _ _ h => h⟩) Z8 8 rfl (by kernel_rfl) rfl rfl,
     step_by rfl (.inr ⟨14, false, 42, rfl, by decide, by kernel_rfl, rfl, fun _ _ h => h⟩) h1 1 rfl (by kernel_rfl) rfl rfl,
     step_to rfl (.inr ⟨14, false, 42, rfl, by decide, by kernel_rfl, rfl, fun _ _ h => h⟩) rfl cg12 (none_mul la) rfl (two_args (knows_in 15 43 (by decide) (by kernel_rfl) rfl rfl) (knows_in 16 44 (by decide) (by kernel_rfl) rfl rfl)),
     step_toT rfl (.inr ⟨14, false, 42, rfl, by decide, by kernel_rfl, rfl, fun _ _ h => h⟩) rfl cg9 hT none_on rfl (one_arg (knows_in 17 45 (by decide) (by kernel_rfl) rfl rfl)),
     step_pick rfl (.inl rfl) (b := false) rfl rfl (knows_in 14 42 (by decide) (by kernel_rfl) rfl rfl) (knows_in 18 46 (by decide) (by kernel_rfl) rfl rfl),
     step_mv rfl (.inl rfl) rfl rfl (knows_in 19 47 (by decide) (by kernel_rfl) rfl rfl),
     step_pt rfl (.inr ⟨20, false, 48, rfl, by decide, by kernel_rfl, rfl, fun _ _ h => h⟩) Z8 8 rfl (by kernel_rfl) rfl rfl,
     step_to rfl (.inr ⟨20, false, 48, rfl, by decide, by kernel_rfl, rfl, fun _ _ h => h⟩) rfl cg13 kng rfl (one_arg (knows_in 21 49 (by decide) (by kernel_rfl) rfl rfl)),
     step_toT rfl (.inr ⟨20, false, 48, rfl, by decide, by kernel_rfl, rfl, fun _ _ h => h⟩) rfl cg9 hT ong rfl (one_arg (knows_in 22 50 (by decide) (by kernel_rfl) rfl rfl)),
     step_pick rfl (.inl rfl) (b := false) rfl rfl (knows_in 20 48 (by decide) (by kernel_rfl) rfl rfl) (knows_in 23 51 (by decide) (by kernel_rfl) rfl rfl), trivial⟩ ?_
  intro val w9 hw hS hap hla
  have e28 : val 28 = (.agg (ints .i64 (zeros 64)).toArray) := hS 0 28 (by decide) rfl
  have e29 : val 29 = (.bool false) := hS 1 29 (by decide) rfl
  have e30 : val 30 = (.bool false) := hS 2 30 (by decide) rfl
  have e31 : val 31 = (.agg (ints .i64 (zeros 64)).toArray) := hS 3 31 (by decide) rfl
  have e32 : val 32 = (.agg (ints .u8 (zeros 32)).toArray) := hS 4 32 (by decide) rfl
  have e33 : val 33 = (.agg (ints .u8 (zeros 32)).toArray) := hS 5 33 (by decide) rfl
  have e34 : val 34 = (.bool false) := hS 6 34 (by decide) rfl
  have e35 : val 35 = (.bool false) := hS 7 35 (by decide) rfl
  have e36 : val 36 = (.bool false) := hS 8 36 (by decide) rfl
  have e37 : val 37 = (.agg (ints .i64 (zeros 64)).toArray) := hS 9 37 (by decide) rfl
  have e38 : val 38 = (.agg (ints .i64 (zeros 64)).toArray) := hS 10 38 (by decide) rfl
  have e39 : val 39 = (.agg (ints .i64 sz).toArray) := hS 11 39 (by decide) rfl
  have e40 : val 40 = (.bool false) := hS 12 40 (by decide) rfl
  have e41 : val 41 = (.bool false) := hS 13 41 (by decide) rfl
  have e42 : val 42 = (.bool false) := hS 14 42 (by decide) rfl
  have e43 : val 43 = (.agg (ints .i64 (zeros 64)).toArray) := hS 15 43 (by decide) rfl
  have e44 : val 44 = (.agg (ints .u8 a).toArray) := hS 16 44 (by decide) rfl
  have e45 : val 45 = (.agg (ints .i64 (zeros 64)).toArray) := hS 17 45 (by decide) rfl
  have e46 : val 46 = (.bool false) := hS 18 46 (by decide) rfl
  have e47 : val 47 = (.bool false) := hS 19 47 (by decide) rfl
  have e48 : val 48 = (.bool false) := hS 20 48 (by decide) rfl
  have e49 : val 49 = (.agg (ints .i64 (zeros 64)).toArray) := hS 21 49 (by decide) rfl
  have e50 : val 50 = (.agg (ints .i64 ng).toArray) := hS 22 50 (by decide) rfl
  have e51 : val 51 = (.bool false) := hS 23 51 (by decide) rfl
  have e52 : val 52 = (.bool false) := hS 24 52 (by decide) rfl
  simp only [putVals, List.foldl_cons, List.foldl_nil, List.drop_succ_cons, List.drop_zero, Act.put, List.setIfInBounds_toArray, List.set_cons_succ, List.set_cons_zero, e28, e29, e30, e31, e32, e33, e34, e35, e36, e37, e38, e39, e40, e41, e42, e43, e44, e45, e46, e47, e48, e49, e50, e51, e52]
  clear hS hap hla e28 e29 e30 e31 e32 e33 e34 e35 e36 e37 e38 e39 e40 e41 e42 e43 e44 e45 e46 e47 e48 e49 e50 e51 e52 
  replace hT := hT.next hw
  replace h1 := h1.next hw
  replace hB3 := hB3.next hw
  replace hB6 := hB6.next hw
  replace M7 := M7.below hw
  replace Z8 := Z8.next hw
  replace hW := hW.trans (Below.mono hw hW.size)
  clear hw
  go_upto_region 11 with (fail)
  have s9 := hW.size
  refine region_seq2 3 110 (fun _ => false) [Is (.slice A7 16 c7), IsN NT.PN, Is (.bool true)] [53, 54, 55] (by kernel_rfl) (by kernel_rfl) (Nat.le_of_eq rfl) (grows_cons (Is.grows _) (grows_cons (IsN.grows _) (grows_cons (Is.grows _) grows_nil)))
    ⟨step_mv rfl (.inl rfl) rfl rfl (knows_out 7 (by kernel_rfl) rfl),
     step_rn rfl (.inl rfl) rfl cg15 rfl (fun a w hw hf hd => ⟨#[], by simp, rf_p w⟩),
     step_atl rfl (.inl rfl) hge rfl rfl ((knows_in 0 53 (by decide) (by kernel_rfl) rfl rfl).r H7 M7) (knowsN_in 1 54 (by decide) (by kernel_rfl) rfl rfl), trivial⟩ ?_
  intro val w10 hw hS hap hla
  have e53 : val 53 = (.slice A7 16 c7) := hS 0 53 (by decide) rfl
  obtain ⟨A54, c54, y54, e54, H54, M54⟩ := hS 1 54 (by decide) rfl
  have e55 : val 55 = (.bool true) := hS 2 55 (by decide) rfl
  simp only [putVals, List.foldl_cons, List.foldl_nil, List.drop_succ_cons, List.drop_zero, Act.put, List.setIfInBounds_toArray, List.set_cons_succ, List.set_cons_zero, e53, e54, e55]
  clear hS hap hla e53 e54 e55 H54 M54
  replace hT := hT.next hw
  replace h1 := h1.next hw
  replace hB3 := hB3.next hw
  replace hB6 := hB6.next hw
  replace M7 := M7.below hw
  replace Z8 := Z8.next hw
  replace hW := hW.trans (Below.mono hw hW.size)
  clear hw
  go_upto_region 12 with (fail)
  have s10 := hW.size
  refine region_seq2 8 110 (fun _ => false) [Is (.int .i64 21), Is (.bool true), Is (.bool true), Is (.agg (ints .i64 (zeros 64)).toArray), Is (.bool false), Is (.bool true), Is (.bool true), Is (.bool true)] [56, 57, 58, 59, 60, 61, 62, 2] (by kernel_rfl) (by kernel_rfl) (Nat.le_of_eq rfl) (grows_cons (Is.grows _) (grows_cons (Is.grows _) (grows_cons (Is.grows _) (grows_cons (Is.grows _) (grows_cons (Is.grows _) (grows_cons (Is.grows _) (grows_cons (Is.grows _) (grows_cons (Is.grows _) grows_nil))))))))
    ⟨step_mv rfl (.inl rfl) rfl rfl (knows_out 4 (by kernel_rfl) rfl),
     step_eqE rfl (.inl rfl) rfl rfl rfl (knows_in 0 56 (by decide) (by kernel_rfl) rfl rfl),
     step_mv rfl (.inl rfl) rfl rfl (knows_in 1 57 (by decide) (by kernel_rfl) rfl rfl),
     step_pt rfl (.inr ⟨2, true, 58, rfl, by decide, by kernel_rfl, rfl, fun _ _ h => h⟩) hB3 3 rfl (by kernel_rfl) rfl rfl,
     step_toT rfl (.inr ⟨2, true, 58, rfl, by decide, by kernel_rfl, rfl, fun _ _ h => h⟩) rfl cg9 hT none_on rfl (one_arg (knows_in 3 59 (by decide) (by kernel_rfl) rfl rfl)),
     step_not rfl (.inr ⟨2, true, 58, rfl, by decide, by kernel_rfl, rfl, fun _ _ h => h⟩) (b := false) rfl rfl (knows_in 4 60 (by decide) (by kernel_rfl) rfl rfl),
     step_pick rfl (.inl rfl) (b := true) rfl rfl (knows_in 2 58 (by decide) (by kernel_rfl) rfl rfl) (knows_in 5 61 (by decide) (by kernel_rfl) rfl rfl),
     step_asg rfl (.inl rfl) rfl rfl (knows_in 6 62 (by decide) (by kernel_rfl) rfl rfl), trivial⟩ ?_
  intro val w11 hw hS hap hla
  have e56 : val 56 = (.int .i64 21) := hS 0 56 (by decide) rfl
  have e57 : val 57 = (.bool true) := hS 1 57 (by decide) rfl
  have e58 : val 58 = (.bool true) := hS 2 58 (by decide) rfl
  have e59 : val 59 = (.agg (ints .i64 (zeros 64)).toArray) := hS 3 59 (by decide) rfl
  have e60 : val 60 = (.bool false) := hS 4 60 (by decide) rfl
  have e61 : val 61 = (.bool true) := hS 5 61 (by decide) rfl
  have e62 : val 62 = (.bool true) := hS 6 62 (by decide) rfl
  have e2 : val 2 = (.bool true) := hS 7 2 (by decide) rfl
  simp only [putVals, List.foldl_cons, List.foldl_nil, List.drop_succ_cons, List.drop_zero, Act.put, List.setIfInBounds_toArray, List.set_cons_succ, List.set_cons_zero, e56, e57, e58, e59, e60, e61, e62, e2]
  clear hS hap hla e56 e57 e58 e59 e60 e61 e62 e2 
  replace hT := hT.next hw
  replace h1 := h1.next hw
  replace hB3 := hB3.next hw
  replace hB6 := hB6.next hw
  replace M7 := M7.below hw
  replace Z8 := Z8.next hw
  replace hW := hW.trans (Below.mono hw hW.size)
  clear hw
  go_wp2_with (fail)
  go_ret
  exact ⟨rfl, hW⟩
set_option maxRecDepth 4000 in
set_option maxHeartbeats 16000000 in
theorem of_B_o {a : List Int} (la : a.length = 32) {x x' : Int} (hx : a[31]? = some x) (hx0 : 0 ≤ x ∧ x < 256) (hod : 128 ≤ x) (hx' : x % 128 = x') {ys : List Int} (hys : a.set 31 x' = ys) (ly : ys.length = 32) (yys : Byt ys) (hge : decide (NT.PN ≤ bn ys) = false) {b : Fin NT.PN} (hbv : b.val = bn ys) (hsq : isSq ((b * b - 1) * iv (1 + dF * (b * b))).val = false) (kof : CallsT 7 #[.agg (ints .u8 a).toArray] (.tuple #[.agg (ints .i64 (zeros 64)).toArray, .int .i64 21])) : CallsT 3 #[.agg (ints .u8 a).toArray] (.bool true) := by
  obtain ⟨ksz, hsz⟩ := sumL_spec pn_none pn_none
  have osz := c_on_no hsz (no_add dF _)
  have lsz := hsz.len
  obtain ⟨sz, hsze⟩ : ∃ l, sumL (zeros 64) (zeros 64) = l := ⟨_, rfl⟩
  rw [hsze] at ksz osz lsz
  clear hsze hsz
  obtain ⟨ng, kng, hng⟩ := c_pneg pn_none
  have ong := c_on_no hng neg_zero_z
  have lng := hng.len

  intro W hT
  have h1 := By.new W a la
  have hW := below_new W (.cells (ints .u8 a).toArray 22)
  have hT0 := hT
  replace hT := (hT.alloc (.cells (ints .u8 a).toArray 22))
  go_enter Tryd.func3, Tryd.ntmps3
  go_upto_region 1 with (fail)
  generalize W.alloc (.cells (ints .u8 a).toArray 22) = w0 at *
  have s0 := hW.size
  refine region_seq2 2 110 (fun _ => false) [Is (.bool true), Is (.bool false)] [11, 12] (by kernel_rfl) (by kernel_rfl) (Nat.le_of_eq rfl) (grows_cons (Is.grows _) (grows_cons (Is.grows _) grows_nil))
    ⟨step_toT rfl (.inl rfl) rfl cg6 hT awake_any rfl (no_args),
     step_not rfl (.inl rfl) (b := true) rfl rfl (knows_in 0 11 (by decide) (by kernel_rfl) rfl rfl), trivial⟩ ?_
  intro val w1 hw hS hap hla
  have e11 : val 11 = (.bool true) := hS 0 11 (by decide) rfl
  have e12 : val 12 = (.bool false) := hS 1 12 (by decide) rfl
  simp only [putVals, List.foldl_cons, List.foldl_nil, List.drop_succ_cons, List.drop_zero, Act.put, List.setIfInBounds_toArray, List.set_cons_succ, List.set_cons_zero, e11, e12]
  clear hS hap hla e11 e12 
  replace hT := hT.next hw
  replace h1 := h1.next hw
  replace hW := hW.trans (Below.mono hw hW.size)
  clear hw
  go_upto_region 3 with (fail)
  have lt1 := h1.lt
  have s1 := hW.size
  refine region_seq2 6 110 (fun i => i == 5) [Is (.agg (ints .u8 a).toArray), Is (.tuple #[(.agg (ints .i64 (zeros 64)).toArray), (.int .i64 21)]), Is (.tuple #[(.agg (ints .i64 (zeros 64)).toArray), (.int .i64 21)]), Is (.agg (ints .i64 (zeros 64)).toArray), Is (.int .i64 21), IsZ4 w1.heap.size] [14, 15, 13, 16, 17, 3] (by kernel_rfl) (by kernel_rfl) (Nat.le_of_eq rfl) (grows_cons (Is.grows _) (grows_cons (Is.grows _) (grows_cons (Is.grows _) (grows_cons (Is.grows _) (grows_cons (Is.grows _) (grows_cons (IsZ4.grows _) grows_nil))))))
    ⟨step_by rfl (.inl rfl) h1 1 rfl (by kernel_rfl) rfl rfl,
     step_toT rfl (.inl rfl) rfl cg7 hT kof rfl (one_arg (knows_in 0 14 (by decide) (by kernel_rfl) rfl rfl)),
     step_mv rfl (.inl rfl) rfl rfl (knows_in 1 15 (by decide) (by kernel_rfl) rfl rfl),
     step_fst rfl (.inl rfl) rfl rfl (knows_in 2 13 (by decide) (by kernel_rfl) rfl rfl),
     step_snd rfl (.inl rfl) rfl rfl (knows_in 2 13 (by decide) (by kernel_rfl) rfl rfl),
     step_alloc28 (.inl rfl) rfl rfl, trivial⟩ ?_
  intro val w2 hw hS hap hla
  have e14 : val 14 = (.agg (ints .u8 a).toArray) := hS 0 14 (by decide) rfl
  have e15 : val 15 = (.tuple #[(.agg (ints .i64 (zeros 64)).toArray), (.int .i64 21)]) := hS 1 15 (by decide) rfl
  have e13 : val 13 = (.tuple #[(.agg (ints .i64 (zeros 64)).toArray), (.int .i64 21)]) := hS 2 13 (by decide) rfl
  have e16 : val 16 = (.agg (ints .i64 (zeros 64)).toArray) := hS 3 16 (by decide) rfl
  have e17 : val 17 = (.int .i64 21) := hS 4 17 (by decide) rfl
  obtain ⟨b3, e3, L3, Z3⟩ := hS 5 3 (by decide) rfl
  simp only [putVals, List.foldl_cons, List.foldl_nil, List.drop_succ_cons, List.drop_zero, Act.put, List.setIfInBounds_toArray, List.set_cons_succ, List.set_cons_zero, e14, e15, e13, e16, e17, e3]
  clear hS hap hla e14 e15 e13 e16 e17 e3 
  have LL3 := hid (zeros_len 64)
  have R3 := Z3.room (l' := (zeros 64)) (zeros_len 64)
  have hB3 := Z3.stored (l' := (zeros 64)) (zeros_len 64)
  replace hT := hT.next (Below.setCells hw L3 0 (ints .i64 (zeros 64)).toArray.toList)
  replace h1 := h1.next (Below.setCells hw L3 0 (ints .i64 (zeros 64)).toArray.toList)
  replace hW := hW.trans (Below.mono (Below.setCells hw L3 0 (ints .i64 (zeros 64)).toArray.toList) hW.size)
  with_reducible refine wpList_store_mid (op := ⟨none, .store 28 (.tmp 3) (.tmp 16), _, _, _, _⟩) rfl 28 (.tmp 3) (.tmp 16) rfl b3 0 (ints .i64 (zeros 64)).toArray rfl rfl R3 (a28 LL3.out) (ints_all _ _) ?_
  generalize (w2.setCells b3 0 (ints .i64 (zeros 64)).toArray.toList) = w3 at *
  clear hw R3 LL3 Z3 
  obtain ⟨x0, cx, _, HX⟩ := h1.1.spot (i := 31) (by rw [la]; omega)
  rw [Nat.zero_add] at cx
  obtain rfl : x0 = x := by
    have h := HX.out
    rw [hx] at h
    injection h with h
    exact h.symm
  clear HX
  go_upto_region 5 with (fail)
  clear cx
  have n31 : b3 ≠ W.heap.size := by omega
  clear lt1
  have lt3 := hB3.lt
  have lt1 := h1.lt
  have s3 := hW.size
  refine region_seq2 2 110 (fun i => i == 1) [Is (.agg (ints .u8 a).toArray), IsZ22 w3.heap.size] [21, 6] (by kernel_rfl) (by kernel_rfl) (Nat.le_of_eq rfl) (grows_cons (Is.grows _) (grows_cons (IsZ22.grows _) grows_nil))
    ⟨step_by rfl (.inl rfl) h1 1 rfl (by kernel_rfl) rfl rfl,
     step_alloc22 (.inl rfl) rfl rfl, trivial⟩ ?_
  intro val w4 hw hS hap hla
  have e21 : val 21 = (.agg (ints .u8 a).toArray) := hS 0 21 (by decide) rfl
  obtain ⟨b6, e6, L6, Z6⟩ := hS 1 6 (by decide) rfl
  simp only [putVals, List.foldl_cons, List.foldl_nil, List.drop_succ_cons, List.drop_zero, Act.put, List.setIfInBounds_toArray, List.set_cons_succ, List.set_cons_zero, e21, e6]
  clear hS hap hla e21 e6 
  have LL6 := hid la
  have R6 := Z6.room (l' := a) la
  have hB6 := Z6.stored (l' := a) la
  replace hT := hT.next (Below.setCells hw L6 0 (ints .u8 a).toArray.toList)
  replace h1 := h1.next (Below.setCells hw L6 0 (ints .u8 a).toArray.toList)
  replace hB3 := hB3.next (Below.setCells hw L6 0 (ints .u8 a).toArray.toList)
  replace hW := hW.trans (Below.mono (Below.setCells hw L6 0 (ints .u8 a).toArray.toList) hW.size)
  with_reducible refine wpList_store_mid (op := ⟨none, .store 22 (.tmp 6) (.tmp 21), _, _, _, _⟩) rfl 22 (.tmp 6) (.tmp 21) rfl b6 0 (ints .u8 a).toArray rfl rfl R6 (a22 LL6.out) (ints_all _ _) ?_
  generalize (w4.setCells b6 0 (ints .u8 a).toArray.toList) = w5 at *
  clear hw R6 LL6 Z6 
  have n63 : b6 ≠ b3 := by omega
  have n61 : b6 ≠ W.heap.size := by omega
  obtain ⟨x2, cx, fx, HX⟩ := hB6.1.spot (i := 31) (by rw [la]; omega)
  rw [Nat.zero_add] at cx fx
  obtain rfl : x0 = x2 := by
    have h := HX.out
    rw [hx] at h
    injection h
  have hD1 := hB6.1.set 31 x'
  rw [Nat.zero_add, hys] at hD1
  have h6b : By (w5.setCell ⟨b6, 31, none⟩ (.int .u8 x')) b6 ys := ⟨hD1, ly⟩
  have h1b : By (w5.setCell ⟨b6, 31, none⟩ (.int .u8 x')) W.heap.size a := ⟨h1.1.apart (p := ⟨b6, 31, none⟩) (.int .u8 x') (.inl n61), la⟩
  have h3b : B4 (w5.setCell ⟨b6, 31, none⟩ (.int .u8 x')) b3 (zeros 64) := ⟨hB3.1.apart (p := ⟨b6, 31, none⟩) (.int .u8 x') (.inl n63), hB3.2⟩
  have hWb := hW.setCell (p := ⟨b6, 31, none⟩) (by show W.heap.size ≤ b6; omega) (.int .u8 x')
  have hTb := hT0.next hWb
  have htm : Int.tmod x0 128 = x' := by rw [Int.tmod_eq_emod_of_nonneg hx0.1]; exact hx'
  have hx00 := hx0.1
  have hxw : IntKind.u8.wrap x' = x' := wrap_u8 _ (by omega)
  clear h1 hB3 hB6 hW hT HX hD1 hys hx
  go_upto_region 7 with (fail)
  generalize (w5.setCell ⟨b6, 31, none⟩ (.int .u8 x')) = w6 at *
  have h1 := h1b
  have hB3 := h3b
  have hB6 := h6b
  have hW := hWb
  have hT := hTb
  clear h1b h3b h6b hWb hTb cx fx htm hxw n63 n61 n31 lt3 lt1
  have s6 := hW.size
  refine region_seq2 3 110 (fun _ => false) [Is (.agg (ints .u8 ys).toArray), IsN (bn ys), IsN (bn ys)] [26, 27, 7] (by kernel_rfl) (by kernel_rfl) (Nat.le_of_eq rfl) (grows_cons (Is.grows _) (grows_cons (IsN.grows _) (grows_cons (IsN.grows _) grows_nil)))
    ⟨step_by rfl (.inl rfl) hB6 6 rfl (by kernel_rfl) rfl rfl,
     step_dgs rfl (.inl rfl) ly yys rfl rfl (knows_in 0 26 (by decide) (by kernel_rfl) rfl rfl),
     step_copyN rfl (.inl rfl) 1 27 (.inr rfl) rfl (by decide) (by kernel_rfl) rfl rfl, trivial⟩ ?_
  intro val w7 hw hS hap hla
  have e26 : val 26 = (.agg (ints .u8 ys).toArray) := hS 0 26 (by decide) rfl
  obtain ⟨A27, c27, y27, e27, H27, M27⟩ := hS 1 27 (by decide) rfl
  obtain ⟨A7, c7, y7, e7, H7, M7⟩ := hS 2 7 (by decide) rfl
  simp only [putVals, List.foldl_cons, List.foldl_nil, List.drop_succ_cons, List.drop_zero, Act.put, List.setIfInBounds_toArray, List.set_cons_succ, List.set_cons_zero, e26, e27, e7]
  clear hS hap hla e26 e27 e7 H27 M27
  replace hT := hT.next hw
  replace h1 := h1.next hw
  replace hB3 := hB3.next hw
  replace hB6 := hB6.next hw
  replace hW := hW.trans (Below.mono hw hW.size)
  clear hw
  go_upto_region 8 with (fail)
  have s7 := hW.size
  refine region_seq2 1 110 (fun i => i == 0) [IsZ4 w7.heap.size] [8] (by kernel_rfl) (by kernel_rfl) (Nat.le_of_eq rfl) (grows_cons (IsZ4.grows _) grows_nil)
    ⟨step_alloc28 (.inl rfl) rfl rfl, trivial⟩ ?_
  intro val w8 hw hS hap hla
  obtain ⟨b8, e8, L8, Z8⟩ := hS 0 8 (by decide) rfl
  simp only [putVals, List.foldl_cons, List.foldl_nil, List.drop_succ_cons, List.drop_zero, Act.put, List.setIfInBounds_toArray, List.set_cons_succ, List.set_cons_zero, e8]
  clear hS hap hla e8 
  replace hT := hT.next hw
  replace h1 := h1.next hw
  replace hB3 := hB3.next hw
  replace hB6 := hB6.next hw
  replace M7 := M7.below hw
  replace hW := hW.trans (Below.mono hw hW.size)
  clear hw
  go_upto_region 9 with (fail)
  have s8 := hW.size
  refine region_seq2 25 110 (fun _ => false) [Is (.agg (ints .i64 (zeros 64)).toArray), Is (.bool false), Is (.bool false), Is (.agg (ints .i64 (zeros 64)).toArray), Is (.agg (ints .u8 (zeros 32)).toArray), Is (.agg (ints .u8 (zeros 32)).toArray), Is (.bool false), Is (.bool false), Is (.bool false), Is (.agg (ints .i64 (zeros 64)).toArray), Is (.agg (ints .i64 (zeros 64)).toArray), Is (.agg (ints .i64 sz).toArray), Is (.bool false), Is (.bool false), Is (.bool false), Is (.agg (ints .i64 (zeros 64)).toArray), Is (.agg (ints .u8 a).toArray), Is (.agg (ints .i64 (zeros 64)).toArray), Is (.bool false), Is (.bool false), Is (.bool false), Is (.agg (ints .i64 (zeros 64)).toArray), Is (.agg (ints .i64 ng).toArray), Is (.bool false), Is (.bool false)] [28, 29, 30, 31, 32, 33, 34, 35, 36, 37, 38, 39, 40, 41, 42, 43, 44, 45, 46, 47, 48, 49, 50, 51, 52] (by kernel_rfl) (by kernel_rfl) (Nat.le_of_eq rfl) (grows_cons (Is.grows _) (grows_cons (Is.grows _) (grows_cons (Is.grows _) (grows_cons (Is.grows _) (grows_cons (Is.grows _) (grows_cons (Is.grows _) (grows_cons (Is.grows _) (grows_cons (Is.grows _) (grows_cons (Is.grows _) (grows_cons (Is.grows _) (grows_cons (Is.grows _) (grows_cons (Is.grows _) (grows_cons (Is.grows _) (grows_cons (Is.grows _) (grows_cons (Is.grows _) (grows_cons (Is.grows _) (grows_cons (Is.grows _) (grows_cons (Is.grows _) (grows_cons (Is.grows _) (grows_cons (Is.grows _) (grows_cons (Is.grows _) (grows_cons (Is.grows _) (grows_cons (Is.grows _) (grows_cons (Is.grows _) (grows_cons (Is.grows _) grows_nil)))))))))))))))))))))))))
    ⟨step_pt rfl (.inl rfl) Z8 8 rfl (by kernel_rfl) rfl rfl,
     step_toT rfl (.inl rfl) rfl cg9 hT none_on rfl (one_arg (knows_in 0 28 (by decide) (by kernel_rfl) rfl rfl)),
     step_mv rfl (.inl rfl) rfl rfl (knows_in 1 29 (by decide) (by kernel_rfl) rfl rfl),
     step_pt rfl (.inr ⟨2, false, 30, rfl, by decide, by kernel_rfl, rfl, fun _ _ h => h⟩) Z8 8 rfl (by kernel_rfl) rfl rfl,
     step_to rfl (.inr ⟨2, false, 30, rfl, by decide, by kernel_rfl, rfl, fun _ _ h => h⟩) rfl cg10 none_bytes rfl (one_arg (knows_in 3 31 (by decide) (by kernel_rfl) rfl rfl)),
     step_noneB rfl (.inr ⟨2, false, 30, rfl, by decide, by kernel_rfl, rfl, fun _ _ h => h⟩) rfl rfl,
     step_nes rfl (.inr ⟨2, false, 30, rfl, by decide, by kernel_rfl, rfl, fun _ _ h => h⟩) rfl (zeros_len 32) rfl (knows_in 4 32 (by decide) (by kernel_rfl) rfl rfl) (knows_in 5 33 (by decide) (by kernel_rfl) rfl rfl),
     step_pick rfl (.inl rfl) (b := false) rfl rfl (knows_in 2 30 (by decide) (by kernel_rfl) rfl rfl) (knows_in 6 34 (by decide) (by kernel_rfl) rfl rfl),
     step_mv rfl (.inl rfl) rfl rfl (knows_in 7 35 (by decide) (by kernel_rfl) rfl rfl),
     step_pt rfl (.inr ⟨8, false, 36, rfl, by decide, by kernel_rfl, rfl, fun _ _ h => h⟩) Z8 8 rfl (by kernel_rfl) rfl rfl,
     step_pt rfl (.inr ⟨8, false, 36, rfl, by decide, by kernel_rfl, rfl, fun _ _ h => h⟩) hB3 3 rfl (by kernel_rfl) rfl rfl,
     step_toT rfl (.inr ⟨8, false, 36, rfl, by decide, by kernel_rfl, rfl, fun _ _ h => h⟩) rfl cg11 hT ksz rfl (two_args (knows_in 9 37 (by decide) (by kernel_rfl) rfl rfl) (knows_in 10 38 (by decide) (by kernel_rfl) rfl rfl)),
     step_toT rfl (.inr ⟨8, false, 36, rfl, by decide, by kernel_rfl, rfl, fun _ _ h => h⟩) rfl cg9 hT osz rfl (one_arg (knows_in 11 39 (by decide) (by kernel_rfl) rfl rfl)),
     step_pick rfl (.inl rfl) (b := false) rfl rfl (knows_in 8 36 (by decide) (by kernel_rfl) rfl rfl) (knows_in 12 40 (by decide) (by kernel_rfl) rfl rfl),
     step_mv rfl (.inl rfl) rfl rfl (knows_in 13 41 (by decide) (by kernel_rfl) rfl rfl),
     step_pt rfl (.inr ⟨14, false, 42, rfl, by decide, by kernel_rfl, rfl, fun _ _ h => h⟩) Z8 8 rfl (by kernel_rfl) rfl rfl,
     step_by rfl (.inr ⟨14, false, 42, rfl, by decide, by kernel_rfl, rfl, fun _ _ h => h⟩) h1 1 rfl (by kernel_rfl) rfl rfl,
     step_to rfl (.inr ⟨14, false, 42, rfl, by decide, by kernel_rfl, rfl, fun _ _ h => h⟩) rfl cg12 (none_mul la) rfl (two_args (knows_in 15 43 (by decide) (by kernel_rfl) rfl rfl) (knows_in 16 44 (by decide) (by kernel_rfl) rfl rfl)),
     step_toT rfl (.inr ⟨14, false, 42, rfl, by decide, by kernel_rfl, rfl, fun _ _ h => h⟩) rfl cg9 hT none_on rfl (one_arg (knows_in 17 45 (by decide) (by kernel_rfl) rfl rfl)),
     step_pick rfl (.inl rfl) (b := false) rfl rfl (knows_in 14 42 (by decide) (by kernel_rfl) rfl rfl) (knows_in 18 46 (by decide) (by kernel_rfl) rfl rfl),
     step_mv rfl (.inl rfl) rfl rfl (knows_in 19 47 (by decide) (by kernel_rfl) rfl rfl),
     step_pt rfl (.inr ⟨20, false, 48, rfl, by decide, by kernel_rfl, rfl, fun _ _ h => h⟩) Z8 8 rfl (by kernel_rfl) rfl rfl,
     step_to rfl (.inr ⟨20, false, 48, rfl, by decide, by kernel_rfl, rfl, fun _ _ h => h⟩) rfl cg13 kng rfl (one_arg (knows_in 21 49 (by decide) (by kernel_rfl) rfl rfl)),
     step_toT rfl (.inr ⟨20, false, 48, rfl, by decide, by kernel_rfl, rfl, fun _ _ h => h⟩) rfl cg9 hT ong rfl (one_arg (knows_in 22 50 (by decide) (by kernel_rfl) rfl rfl)),
     step_pick rfl (.inl rfl) (b := false) rfl rfl (knows_in 20 48 (by decide) (by kernel_rfl) rfl rfl) (knows_in 23 51 (by decide) (by kernel_rfl) rfl rfl), trivial⟩ ?_
  intro val w9 hw hS hap hla
  have e28 : val 28 = (.agg (ints .i64 (zeros 64)).toArray) := hS 0 28 (by decide) rfl
  have e29 : val 29 = (.bool false) := hS 1 29 (by decide) rfl
  have e30 : val 30 = (.bool false) := hS 2 30 (by decide) rfl
  have e31 : val 31 = (.agg (ints .i64 (zeros 64)).toArray) := hS 3 31 (by decide) rfl
  have e32 : val 32 = (.agg (ints .u8 (zeros 32)).toArray) := hS 4 32 (by decide) rfl
  have e33 : val 33 = (.agg (ints .u8 (zeros 32)).toArray) := hS 5 33 (by decide) rfl
  have e34 : val 34 = (.bool false) := hS 6 34 (by decide) rfl
  have e35 : val 35 = (.bool false) := hS 7 35 (by decide) rfl
  have e36 : val 36 = (.bool false) := hS 8 36 (by decide) rfl
  have e37 : val 37 = (.agg (ints .i64 (zeros 64)).toArray) := hS 9 37 (by decide) rfl
  have e38 : val 38 = (.agg (ints .i64 (zeros 64)).toArray) := hS 10 38 (by decide) rfl
  have e39 : val 39 = (.agg (ints .i64 sz).toArray) := hS 11 39 (by decide) rfl
  have e40 : val 40 = (.bool false) := hS 12 40 (by decide) rfl
  have e41 : val 41 = (.bool false) := hS 13 41 (by decide) rfl
  have e42 : val 42 = (.bool false) := hS 14 42 (by decide) rfl
  have e43 : val 43 = (.agg (ints .i64 (zeros 64)).toArray) := hS 15 43 (by decide) rfl
  have e44 : val 44 = (.agg (ints .u8 a).toArray) := hS 16 44 (by decide) rfl
  have e45 : val 45 = (.agg (ints .i64 (zeros 64)).toArray) := hS 17 45 (by decide) rfl
  have e46 : val 46 = (.bool false) := hS 18 46 (by decide) rfl
  have e47 : val 47 = (.bool false) := hS 19 47 (by decide) rfl
  have e48 : val 48 = (.bool false) := hS 20 48 (by decide) rfl
  have e49 : val 49 = (.agg (ints .i64 (zeros 64)).toArray) := hS 21 49 (by decide) rfl
  have e50 : val 50 = (.agg (ints .i64 ng).toArray) := hS 22 50 (by decide) rfl
  have e51 : val 51 = (.bool false) := hS 23 51 (by decide) rfl
  have e52 : val 52 = (.bool false) := hS 24 52 (by decide) rfl
  simp only [putVals, List.foldl_cons, List.foldl_nil, List.drop_succ_cons, List.drop_zero, Act.put, List.setIfInBounds_toArray, List.set_cons_succ, List.set_cons_zero, e28, e29, e30, e31, e32, e33, e34, e35, e36, e37, e38, e39, e40, e41, e42, e43, e44, e45, e46, e47, e48, e49, e50, e51, e52]
  clear hS hap hla e28 e29 e30 e31 e32 e33 e34 e35 e36 e37 e38 e39 e40 e41 e42 e43 e44 e45 e46 e47 e48 e49 e50 e51 e52 
  replace hT := hT.next hw
  replace h1 := h1.next hw
  replace hB3 := hB3.next hw
  replace hB6 := hB6.next hw
  replace M7 := M7.below hw
  replace Z8 := Z8.next hw
  replace hW := hW.trans (Below.mono hw hW.size)
  clear hw
  go_upto_region 11 with (fail)
  have s9 := hW.size
  refine region_seq2 3 110 (fun _ => false) [Is (.slice A7 16 c7), IsN NT.PN, Is (.bool false)] [53, 54, 55] (by kernel_rfl) (by kernel_rfl) (Nat.le_of_eq rfl) (grows_cons (Is.grows _) (grows_cons (IsN.grows _) (grows_cons (Is.grows _) grows_nil)))
    ⟨step_mv rfl (.inl rfl) rfl rfl (knows_out 7 (by kernel_rfl) rfl),
     step_rn rfl (.inl rfl) rfl cg15 rfl (fun a w hw hf hd => ⟨#[], by simp, rf_p w⟩),
     step_atl rfl (.inl rfl) hge rfl rfl ((knows_in 0 53 (by decide) (by kernel_rfl) rfl rfl).r H7 M7) (knowsN_in 1 54 (by decide) (by kernel_rfl) rfl rfl), trivial⟩ ?_
  intro val w10 hw hS hap hla
  have e53 : val 53 = (.slice A7 16 c7) := hS 0 53 (by decide) rfl
  obtain ⟨A54, c54, y54, e54, H54, M54⟩ := hS 1 54 (by decide) rfl
  have e55 : val 55 = (.bool false) := hS 2 55 (by decide) rfl
  simp only [putVals, List.foldl_cons, List.foldl_nil, List.drop_succ_cons, List.drop_zero, Act.put, List.setIfInBounds_toArray, List.set_cons_succ, List.set_cons_zero, e53, e54, e55]
  clear hS hap hla e53 e54 e55 H54 M54
  replace hT := hT.next hw
  replace h1 := h1.next hw
  replace hB3 := hB3.next hw
  replace hB6 := hB6.next hw
  replace M7 := M7.below hw
  replace Z8 := Z8.next hw
  replace hW := hW.trans (Below.mono hw hW.size)
  clear hw
  go_upto_region 13 with (fail)
  replace H7 : Hid (Rp y7 b.val) := hid (by rw [hbv]; exact H7.out)
  have s10 := hW.size
  refine region_seq2 4 110 (fun _ => false) [Is (.slice A7 16 c7), Is (.slice A7 16 c7), IsN ((b * b : Fin NT.PN)).val, IsN ((b * b : Fin NT.PN)).val] [63, 64, 65, 9] (by kernel_rfl) (by kernel_rfl) (Nat.le_of_eq rfl) (grows_cons (Is.grows _) (grows_cons (Is.grows _) (grows_cons (IsN.grows _) (grows_cons (IsN.grows _) grows_nil))))
    ⟨step_mv rfl (.inl rfl) rfl rfl (knows_out 7 (by kernel_rfl) rfl),
     step_mv rfl (.inl rfl) rfl rfl (knows_out 7 (by kernel_rfl) rfl),
     step_rn rfl (.inl rfl) rfl cf23 rfl (rn2 ((knows_in 0 63 (by decide) (by kernel_rfl) rfl rfl).r H7 M7) ((knows_in 1 64 (by decide) (by kernel_rfl) rfl rfl).r H7 M7) (fun h1 h2 h3 h4 => rf_mul h1 h2 h3 h4)),
     step_copyN rfl (.inl rfl) 2 65 (.inr rfl) rfl (by decide) (by kernel_rfl) rfl rfl, trivial⟩ ?_
  intro val w11 hw hS hap hla
  have e63 : val 63 = (.slice A7 16 c7) := hS 0 63 (by decide) rfl
  have e64 : val 64 = (.slice A7 16 c7) := hS 1 64 (by decide) rfl
  obtain ⟨A65, c65, y65, e65, H65, M65⟩ := hS 2 65 (by decide) rfl
  obtain ⟨A9, c9, y9, e9, H9, M9⟩ := hS 3 9 (by decide) rfl
  simp only [putVals, List.foldl_cons, List.foldl_nil, List.drop_succ_cons, List.drop_zero, Act.put, List.setIfInBounds_toArray, List.set_cons_succ, List.set_cons_zero, e63, e64, e65, e9]
  clear hS hap hla e63 e64 e65 e9 H65 M65
  replace hT := hT.next hw
  replace h1 := h1.next hw
  replace hB3 := hB3.next hw
  replace hB6 := hB6.next hw
  replace M7 := M7.below hw
  replace Z8 := Z8.next hw
  replace hW := hW.trans (Below.mono hw hW.size)
  clear hw
  go_upto_region 14 with (fail)
  have s11 := hW.size
  refine region_seq2 11 110 (fun _ => false) [Is (.slice A9 16 c9), IsN ((1 : Fin NT.PN)).val, IsN (((b * b : Fin NT.PN) - (1 : Fin NT.PN) : Fin NT.PN)).val, IsN ((1 : Fin NT.PN)).val, IsN (dF).val, Is (.slice A9 16 c9), IsN ((dF * (b * b : Fin NT.PN) : Fin NT.PN)).val, IsN (((1 : Fin NT.PN) + (dF * (b * b : Fin NT.PN) : Fin NT.PN) : Fin NT.PN)).val, IsN ((iv ((1 : Fin NT.PN) + (dF * (b * b : Fin NT.PN) : Fin NT.PN) : Fin NT.PN))).val, IsN ((((b * b : Fin NT.PN) - (1 : Fin NT.PN) : Fin NT.PN) * (iv ((1 : Fin NT.PN) + (dF * (b * b : Fin NT.PN) : Fin NT.PN) : Fin NT.PN)) : Fin NT.PN)).val, IsN ((((b * b : Fin NT.PN) - (1 : Fin NT.PN) : Fin NT.PN) * (iv ((1 : Fin NT.PN) + (dF * (b * b : Fin NT.PN) : Fin NT.PN) : Fin NT.PN)) : Fin NT.PN)).val] [66, 67, 68, 69, 70, 71, 72, 73, 74, 75, 10] (by kernel_rfl) (by kernel_rfl) (Nat.le_of_eq rfl) (grows_cons (Is.grows _) (grows_cons (IsN.grows _) (grows_cons (IsN.grows _) (grows_cons (IsN.grows _) (grows_cons (IsN.grows _) (grows_cons (Is.grows _) (grows_cons (IsN.grows _) (grows_cons (IsN.grows _) (grows_cons (IsN.grows _) (grows_cons (IsN.grows _) (grows_cons (IsN.grows _) grows_nil)))))))))))
    ⟨step_mv rfl (.inl rfl) rfl rfl (knows_out 9 (by kernel_rfl) rfl),
     step_rn rfl (.inl rfl) rfl cf17 rfl (fun a w hw hf hd => ⟨_, rfl, by rw [map1]; exact rf_small 1 (by decide) w⟩),
     step_rn rfl (.inl rfl) rfl cf21 rfl (rn2 ((knows_in 0 66 (by decide) (by kernel_rfl) rfl rfl).r H9 M9) (knowsN_in 1 67 (by decide) (by kernel_rfl) rfl rfl) (fun h1 h2 h3 h4 => rf_sub h1 h2 h3 h4)),
     step_rn rfl (.inl rfl) rfl cf17 rfl (fun a w hw hf hd => ⟨_, rfl, by rw [map1]; exact rf_small 1 (by decide) w⟩),
     step_rn rfl (.inl rfl) rfl cg21 rfl (fun a w hw hf hd => ⟨#[], by simp, rf_d w⟩),
     step_mv rfl (.inl rfl) rfl rfl (knows_out 9 (by kernel_rfl) rfl),
     step_rn rfl (.inl rfl) rfl cf23 rfl (rn2 (knowsN_in 4 70 (by decide) (by kernel_rfl) rfl rfl) ((knows_in 5 71 (by decide) (by kernel_rfl) rfl rfl).r H9 M9) (fun h1 h2 h3 h4 => rf_mul h1 h2 h3 h4)),
     step_rn rfl (.inl rfl) rfl cf19 rfl (rn2 (knowsN_in 3 69 (by decide) (by kernel_rfl) rfl rfl) (knowsN_in 6 72 (by decide) (by kernel_rfl) rfl rfl) (fun h1 h2 h3 h4 => rf_add h1 h2 h3 h4)),
     step_rn rfl (.inl rfl) rfl cg19 rfl (rn1 (knowsN_in 7 73 (by decide) (by kernel_rfl) rfl rfl) (fun h1 h2 => rf_inv h1 h2)),
     step_rn rfl (.inl rfl) rfl cf23 rfl (rn2 (knowsN_in 2 68 (by decide) (by kernel_rfl) rfl rfl) (knowsN_in 8 74 (by decide) (by kernel_rfl) rfl rfl) (fun h1 h2 h3 h4 => rf_mul h1 h2 h3 h4)),
     step_copyN rfl (.inl rfl) 9 75 (.inr rfl) rfl (by decide) (by kernel_rfl) rfl rfl, trivial⟩ ?_
  intro val w12 hw hS hap hla
  have e66 : val 66 = (.slice A9 16 c9) := hS 0 66 (by decide) rfl
  obtain ⟨A67, c67, y67, e67, H67, M67⟩ := hS 1 67 (by decide) rfl
  obtain ⟨A68, c68, y68, e68, H68, M68⟩ := hS 2 68 (by decide) rfl
  obtain ⟨A69, c69, y69, e69, H69, M69⟩ := hS 3 69 (by decide) rfl
  obtain ⟨A70, c70, y70, e70, H70, M70⟩ := hS 4 70 (by decide) rfl
  have e71 : val 71 = (.slice A9 16 c9) := hS 5 71 (by decide) rfl
  obtain ⟨A72, c72, y72, e72, H72, M72⟩ := hS 6 72 (by decide) rfl
  obtain ⟨A73, c73, y73, e73, H73, M73⟩ := hS 7 73 (by decide) rfl
  obtain ⟨A74, c74, y74, e74, H74, M74⟩ := hS 8 74 (by decide) rfl
  obtain ⟨A75, c75, y75, e75, H75, M75⟩ := hS 9 75 (by decide) rfl
  obtain ⟨A10, c10, y10, e10, H10, M10⟩ := hS 10 10 (by decide) rfl
  simp only [putVals, List.foldl_cons, List.foldl_nil, List.drop_succ_cons, List.drop_zero, Act.put, List.setIfInBounds_toArray, List.set_cons_succ, List.set_cons_zero, e66, e67, e68, e69, e70, e71, e72, e73, e74, e75, e10]
  clear hS hap hla e66 e67 e68 e69 e70 e71 e72 e73 e74 e75 e10 H67 M67 H68 M68 H69 M69 H70 M70 H72 M72 H73 M73 H74 M74 H75 M75
  replace hT := hT.next hw
  replace h1 := h1.next hw
  replace hB3 := hB3.next hw
  replace hB6 := hB6.next hw
  replace M7 := M7.below hw
  replace Z8 := Z8.next hw
  replace M9 := M9.below hw
  replace hW := hW.trans (Below.mono hw hW.size)
  clear hw
  go_upto_region 15 with (fail)
  have s12 := hW.size
  refine region_seq2 10 110 (fun _ => false) [Is (.slice A10 16 c10), Is (.bool false), Is (.bool true), Is (.bool true), Is undef, Is undef, Is undef, Is undef, Is undef, Is (.bool true)] [76, 77, 78, 79, 80, 81, 82, 83, 84, 85] (by kernel_rfl) (by kernel_rfl) (Nat.le_of_eq rfl) (grows_cons (Is.grows _) (grows_cons (Is.grows _) (grows_cons (Is.grows _) (grows_cons (Is.grows _) (grows_cons (Is.grows _) (grows_cons (Is.grows _) (grows_cons (Is.grows _) (grows_cons (Is.grows _) (grows_cons (Is.grows _) (grows_cons (Is.grows _) grows_nil))))))))))
    ⟨step_mv rfl (.inl rfl) rfl rfl (knows_out 10 (by kernel_rfl) rfl),
     step_sqr (m := (((b * b : Fin NT.PN) - (1 : Fin NT.PN) : Fin NT.PN) * (iv ((1 : Fin NT.PN) + (dF * (b * b : Fin NT.PN) : Fin NT.PN) : Fin NT.PN)) : Fin NT.PN)) rfl (.inl rfl) hsq rfl rfl ((knows_in 0 76 (by decide) (by kernel_rfl) rfl rfl).r H10 M10),
     step_not rfl (.inl rfl) (b := false) rfl rfl (knows_in 1 77 (by decide) (by kernel_rfl) rfl rfl),
     step_mv rfl (.inl rfl) rfl rfl (knows_in 2 78 (by decide) (by kernel_rfl) rfl rfl),
     step_off rfl ⟨3, false, 79, rfl, by decide, by kernel_rfl, rfl, fun _ _ h => .inl h⟩ (fun _ => rfl),
     step_off rfl ⟨3, false, 79, rfl, by decide, by kernel_rfl, rfl, fun _ _ h => .inl h⟩ (fun _ => rfl),
     step_off rfl ⟨3, false, 79, rfl, by decide, by kernel_rfl, rfl, fun _ _ h => .inl h⟩ (fun _ => rfl),
     step_off rfl ⟨6, true, 82, rfl, by decide, by kernel_rfl, rfl, fun _ _ h => .inr h⟩ (fun _ => rfl),
     step_off rfl ⟨3, false, 79, rfl, by decide, by kernel_rfl, rfl, fun _ _ h => .inl h⟩ (fun _ => rfl),
     step_pick rfl (.inl rfl) (b := true) rfl rfl (knows_in 3 79 (by decide) (by kernel_rfl) rfl rfl) (knows_const _), trivial⟩ ?_
  intro val w13 hw hS hap hla
  have e76 : val 76 = (.slice A10 16 c10) := hS 0 76 (by decide) rfl
  have e77 : val 77 = (.bool false) := hS 1 77 (by decide) rfl
  have e78 : val 78 = (.bool true) := hS 2 78 (by decide) rfl
  have e79 : val 79 = (.bool true) := hS 3 79 (by decide) rfl
  have e80 : val 80 = undef := hS 4 80 (by decide) rfl
  have e81 : val 81 = undef := hS 5 81 (by decide) rfl
  have e82 : val 82 = undef := hS 6 82 (by decide) rfl
  have e83 : val 83 = undef := hS 7 83 (by decide) rfl
  have e84 : val 84 = undef := hS 8 84 (by decide) rfl
  have e85 : val 85 = (.bool true) := hS 9 85 (by decide) rfl
  simp only [putVals, List.foldl_cons, List.foldl_nil, List.drop_succ_cons, List.drop_zero, Act.put, List.setIfInBounds_toArray, List.set_cons_succ, List.set_cons_zero, e76, e77, e78, e79, e80, e81, e82, e83, e84, e85]
  clear hS hap hla e76 e77 e78 e79 e80 e81 e82 e83 e84 e85 
  replace hT := hT.next hw
  replace h1 := h1.next hw
  replace hB3 := hB3.next hw
  replace hB6 := hB6.next hw
  replace M7 := M7.below hw
  replace Z8 := Z8.next hw
  replace M9 := M9.below hw
  replace M10 := M10.below hw
  replace hW := hW.trans (Below.mono hw hW.size)
  clear hw
  go_upto_region 16 with (fail)
  have s13 := hW.size
  refine region_seq2 8 110 (fun _ => false) [Is (.int .i64 21), Is (.bool true), Is (.bool true), Is (.agg (ints .i64 (zeros 64)).toArray), Is (.bool false), Is (.bool true), Is (.bool true), Is (.bool true)] [86, 87, 88, 89, 90, 91, 92, 2] (by kernel_rfl) (by kernel_rfl) (Nat.le_of_eq rfl) (grows_cons (Is.grows _) (grows_cons (Is.grows _) (grows_cons (Is.grows _) (grows_cons (Is.grows _) (grows_cons (Is.grows _) (grows_cons (Is.grows _) (grows_cons (Is.grows _) (grows_cons (Is.grows _) grows_nil))))))))
    ⟨step_mv rfl (.inl rfl) rfl rfl (knows_out 4 (by kernel_rfl) rfl),
     step_eqE rfl (.inl rfl) rfl rfl rfl (knows_in 0 86 (by decide) (by kernel_rfl) rfl rfl),
     step_mv rfl (.inl rfl) rfl rfl (knows_in 1 87 (by decide) (by kernel_rfl) rfl rfl),
     step_pt rfl (.inr ⟨2, true, 88, rfl, by decide, by kernel_rfl, rfl, fun _ _ h => h⟩) hB3 3 rfl (by kernel_rfl) rfl rfl,
     step_toT rfl (.inr ⟨2, true, 88, rfl, by decide, by kernel_rfl, rfl, fun _ _ h => h⟩) rfl cg9 hT none_on rfl (one_arg (knows_in 3 89 (by decide) (by kernel_rfl) rfl rfl)),
     step_not rfl (.inr ⟨2, true, 88, rfl, by decide, by kernel_rfl, rfl, fun _ _ h => h⟩) (b := false) rfl rfl (knows_in 4 90 (by decide) (by kernel_rfl) rfl rfl),
     step_pick rfl (.inl rfl) (b := true) rfl rfl (knows_in 2 88 (by decide) (by kernel_rfl) rfl rfl) (knows_in 5 91 (by decide) (by kernel_rfl) rfl rfl),
     step_asg rfl (.inl rfl) rfl rfl (knows_in 6 92 (by decide) (by kernel_rfl) rfl rfl), trivial⟩ ?_
  intro val w14 hw hS hap hla
  have e86 : val 86 = (.int .i64 21) := hS 0 86 (by decide) rfl
  have e87 : val 87 = (.bool true) := hS 1 87 (by decide) rfl
  have e88 : val 88 = (.bool true) := hS 2 88 (by decide) rfl
  have e89 : val 89 = (.agg (ints .i64 (zeros 64)).toArray) := hS 3 89 (by decide) rfl
  have e90 : val 90 = (.bool false) := hS 4 90 (by decide) rfl
  have e91 : val 91 = (.bool true) := hS 5 91 (by decide) rfl
  have e92 : val 92 = (.bool true) := hS 6 92 (by decide) rfl
  have e2 : val 2 = (.bool true) := hS 7 2 (by decide) rfl
  simp only [putVals, List.foldl_cons, List.foldl_nil, List.drop_succ_cons, List.drop_zero, Act.put, List.setIfInBounds_toArray, List.set_cons_succ, List.set_cons_zero, e86, e87, e88, e89, e90, e91, e92, e2]
  clear hS hap hla e86 e87 e88 e89 e90 e91 e92 e2 
  replace hT := hT.next hw
  replace h1 := h1.next hw
  replace hB3 := hB3.next hw
  replace hB6 := hB6.next hw
  replace M7 := M7.below hw
  replace Z8 := Z8.next hw
  replace M9 := M9.below hw
  replace M10 := M10.below hw
  replace hW := hW.trans (Below.mono hw hW.size)
  clear hw
  go_wp2_with (fail)
  go_ret
  exact ⟨rfl, hW⟩
set_option maxRecDepth 4000 in
set_option maxHeartbeats 16000000 in
theorem of_B_e {a : List Int} (la : a.length = 32) {x x' : Int} (hx : a[31]? = some x) (hx0 : 0 ≤ x ∧ x < 256) (hod : ¬ 128 ≤ x) (hx' : x % 128 = x') {ys : List Int} (hys : a.set 31 x' = ys) (ly : ys.length = 32) (yys : Byt ys) (hge : decide (NT.PN ≤ bn ys) = false) {b : Fin NT.PN} (hbv : b.val = bn ys) (hsq : isSq ((b * b - 1) * iv (1 + dF * (b * b))).val = false) (kof : CallsT 7 #[.agg (ints .u8 a).toArray] (.tuple #[.agg (ints .i64 (zeros 64)).toArray, .int .i64 21])) : CallsT 3 #[.agg (ints .u8 a).toArray] (.bool true) := by
  obtain ⟨ksz, hsz⟩ := sumL_spec pn_none pn_none
  have osz := c_on_no hsz (no_add dF _)
  have lsz := hsz.len
  obtain ⟨sz, hsze⟩ : ∃ l, sumL (zeros 64) (zeros 64) = l := ⟨_, rfl⟩
  rw [hsze] at ksz osz lsz
  clear hsze hsz
  obtain ⟨ng, kng, hng⟩ := c_pneg pn_none
  have ong := c_on_no hng neg_zero_z
  have lng := hng.len

  intro W hT
  have h1 := By.new W a la
  have hW := below_new W (.cells (ints .u8 a).toArray 22)
  have hT0 := hT
  replace hT := (hT.alloc (.cells (ints .u8 a).toArray 22))
  go_enter Tryd.func3, Tryd.ntmps3
  go_upto_region 1 with (fail)
  generalize W.alloc (.cells (ints .u8 a).toArray 22) = w0 at *
  have s0 := hW.size
  refine region_seq2 2 110 (fun _ => false) [Is (.bool true), Is (.bool false)] [11, 12] (by kernel_rfl) (by kernel_rfl) (Nat.le_of_eq rfl) (grows_cons (Is.grows _) (grows_cons (Is.grows _) grows_nil))
    ⟨step_toT rfl (.inl rfl) rfl cg6 hT awake_any rfl (no_args),
     step_not rfl (.inl rfl) (b := true) rfl rfl (knows_in 0 11 (by decide) (by kernel_rfl) rfl rfl), trivial⟩ ?_
  intro val w1 hw hS hap hla
  have e11 : val 11 = (.bool true) := hS 0 11 (by decide) rfl
  have e12 : val 12 = (.bool false) := hS 1 12 (by decide) rfl
  simp only [putVals, List.foldl_cons, List.foldl_nil, List.drop_succ_cons, List.drop_zero, Act.put, List.setIfInBounds_toArray, List.set_cons_succ, List.set_cons_zero, e11, e12]
  clear hS hap hla e11 e12 
  replace hT := hT.next hw
  replace h1 := h1.next hw
  replace hW := hW.trans (Below.mono hw hW.size)
  clear hw
  go_upto_region 3 with (fail)
  have lt1 := h1.lt
  have s1 := hW.size
  refine region_seq2 6 110 (fun i => i == 5) [Is (.agg (ints .u8 a).toArray), Is (.tuple #[(.agg (ints .i64 (zeros 64)).toArray), (.int .i64 21)]), Is (.tuple #[(.agg (ints .i64 (zeros 64)).toArray), (.int .i64 21)]), Is (.agg (ints .i64 (zeros 64)).toArray), Is (.int .i64 21), IsZ4 w1.heap.size] [14, 15, 13, 16, 17, 3] (by kernel_rfl) (by kernel_rfl) (Nat.le_of_eq rfl) (grows_cons (Is.grows _) (grows_cons (Is.grows _) (grows_cons (Is.grows _) (grows_cons (Is.grows _) (grows_cons (Is.grows _) (grows_cons (IsZ4.grows _) grows_nil))))))
    ⟨step_by rfl (.inl rfl) h1 1 rfl (by kernel_rfl) rfl rfl,
     step_toT rfl (.inl rfl) rfl cg7 hT kof rfl (one_arg (knows_in 0 14 (by decide) (by kernel_rfl) rfl rfl)),
     step_mv rfl (.inl rfl) rfl rfl (knows_in 1 15 (by decide) (by kernel_rfl) rfl rfl),
     step_fst rfl (.inl rfl) rfl rfl (knows_in 2 13 (by decide) (by kernel_rfl) rfl rfl),
     step_snd rfl (.inl rfl) rfl rfl (knows_in 2 13 (by decide) (by kernel_rfl) rfl rfl),
     step_alloc28 (.inl rfl) rfl rfl, trivial⟩ ?_
  intro val w2 hw hS hap hla
  have e14 : val 14 = (.agg (ints .u8 a).toArray) := hS 0 14 (by decide) rfl
  have e15 : val 15 = (.tuple #[(.agg (ints .i64 (zeros 64)).toArray), (.int .i64 21)]) := hS 1 15 (by decide) rfl
  have e13 : val 13 = (.tuple #[(.agg (ints .i64 (zeros 64)).toArray), (.int .i64 21)]) := hS 2 13 (by decide) rfl
  have e16 : val 16 = (.agg (ints .i64 (zeros 64)).toArray) := hS 3 16 (by decide) rfl
  have e17 : val 17 = (.int .i64 21) := hS 4 17 (by decide) rfl
  obtain ⟨b3, e3, L3, Z3⟩ := hS 5 3 (by decide) rfl
  simp only [putVals, List.foldl_cons, List.foldl_nil, List.drop_succ_cons, List.drop_zero, Act.put, List.setIfInBounds_toArray, List.set_cons_succ, List.set_cons_zero, e14, e15, e13, e16, e17, e3]
  clear hS hap hla e14 e15 e13 e16 e17 e3 
  have LL3 := hid (zeros_len 64)
  have R3 := Z3.room (l' := (zeros 64)) (zeros_len 64)
  have hB3 := Z3.stored (l' := (zeros 64)) (zeros_len 64)
  replace hT := hT.next (Below.setCells hw L3 0 (ints .i64 (zeros 64)).toArray.toList)
  replace h1 := h1.next (Below.setCells hw L3 0 (ints .i64 (zeros 64)).toArray.toList)
  replace hW := hW.trans (Below.mono (Below.setCells hw L3 0 (ints .i64 (zeros 64)).toArray.toList) hW.size)
  with_reducible refine wpList_store_mid (op := ⟨none, .store 28 (.tmp 3) (.tmp 16), _, _, _, _⟩) rfl 28 (.tmp 3) (.tmp 16) rfl b3 0 (ints .i64 (zeros 64)).toArray rfl rfl R3 (a28 LL3.out) (ints_all _ _) ?_
  generalize (w2.setCells b3 0 (ints .i64 (zeros 64)).toArray.toList) = w3 at *
  clear hw R3 LL3 Z3 
  obtain ⟨x0, cx, _, HX⟩ := h1.1.spot (i := 31) (by rw [la]; omega)
  rw [Nat.zero_add] at cx
  obtain rfl : x0 = x := by
    have h := HX.out
    rw [hx] at h
    injection h with h
    exact h.symm
  clear HX
  go_upto_region 5 with (fail)
  clear cx
  have n31 : b3 ≠ W.heap.size := by omega
  clear lt1
  have lt3 := hB3.lt
  have lt1 := h1.lt
  have s3 := hW.size
  refine region_seq2 2 110 (fun i => i == 1) [Is (.agg (ints .u8 a).toArray), IsZ22 w3.heap.size] [21, 6] (by kernel_rfl) (by kernel_rfl) (Nat.le_of_eq rfl) (grows_cons (Is.grows _) (grows_cons (IsZ22.grows _) grows_nil))
    ⟨step_by rfl (.inl rfl) h1 1 rfl (by kernel_rfl) rfl rfl,
     step_alloc22 (.inl rfl) rfl rfl, trivial⟩ ?_
  intro val w4 hw hS hap hla
  have e21 : val 21 = (.agg (ints .u8 a).toArray) := hS 0 21 (by decide) rfl
  obtain ⟨b6, e6, L6, Z6⟩ := hS 1 6 (by decide) rfl
  simp only [putVals, List.foldl_cons, List.foldl_nil, List.drop_succ_cons, List.drop_zero, Act.put, List.setIfInBounds_toArray, List.set_cons_succ, List.set_cons_zero, e21, e6]
  clear hS hap hla e21 e6 
  have LL6 := hid la
  have R6 := Z6.room (l' := a) la
  have hB6 := Z6.stored (l' := a) la
  replace hT := hT.next (Below.setCells hw L6 0 (ints .u8 a).toArray.toList)
  replace h1 := h1.next (Below.setCells hw L6 0 (ints .u8 a).toArray.toList)
  replace hB3 := hB3.next (Below.setCells hw L6 0 (ints .u8 a).toArray.toList)
  replace hW := hW.trans (Below.mono (Below.setCells hw L6 0 (ints .u8 a).toArray.toList) hW.size)
  with_reducible refine wpList_store_mid (op := ⟨none, .store 22 (.tmp 6) (.tmp 21), _, _, _, _⟩) rfl 22 (.tmp 6) (.tmp 21) rfl b6 0 (ints .u8 a).toArray rfl rfl R6 (a22 LL6.out) (ints_all _ _) ?_
  generalize (w4.setCells b6 0 (ints .u8 a).toArray.toList) = w5 at *
  clear hw R6 LL6 Z6 
  have n63 : b6 ≠ b3 := by omega
  have n61 : b6 ≠ W.heap.size := by omega
  obtain ⟨x2, cx, fx, HX⟩ := hB6.1.spot (i := 31) (by rw [la]; omega)
  rw [Nat.zero_add] at cx fx
  obtain rfl : x0 = x2 := by
    have h := HX.out
    rw [hx] at h
    injection h
  have hD1 := hB6.1.set 31 x'
  rw [Nat.zero_add, hys] at hD1
  have h6b : By (w5.setCell ⟨b6, 31, none⟩ (.int .u8 x')) b6 ys := ⟨hD1, ly⟩
  have h1b : By (w5.setCell ⟨b6, 31, none⟩ (.int .u8 x')) W.heap.size a := ⟨h1.1.apart (p := ⟨b6, 31, none⟩) (.int .u8 x') (.inl n61), la⟩
  have h3b : B4 (w5.setCell ⟨b6, 31, none⟩ (.int .u8 x')) b3 (zeros 64) := ⟨hB3.1.apart (p := ⟨b6, 31, none⟩) (.int .u8 x') (.inl n63), hB3.2⟩
  have hWb := hW.setCell (p := ⟨b6, 31, none⟩) (by show W.heap.size ≤ b6; omega) (.int .u8 x')
  have hTb := hT0.next hWb
  have htm : Int.tmod x0 128 = x' := by rw [Int.tmod_eq_emod_of_nonneg hx0.1]; exact hx'
  have hx00 := hx0.1
  have hxw : IntKind.u8.wrap x' = x' := wrap_u8 _ (by omega)
  clear h1 hB3 hB6 hW hT HX hD1 hys hx
  go_upto_region 7 with (fail)
  generalize (w5.setCell ⟨b6, 31, none⟩ (.int .u8 x')) = w6 at *
  have h1 := h1b
  have hB3 := h3b
  have hB6 := h6b
  have hW := hWb
  have hT := hTb
  clear h1b h3b h6b hWb hTb cx fx htm hxw n63 n61 n31 lt3 lt1
  have s6 := hW.size
  refine region_seq2 3 110 (fun _ => false) [Is (.agg (ints .u8 ys).toArray), IsN (bn ys), IsN (bn ys)] [26, 27, 7] (by kernel_rfl) (by kernel_rfl) (Nat.le_of_eq rfl) (grows_cons (Is.grows _) (grows_cons (IsN.grows _) (grows_cons (IsN.grows _) grows_nil)))
    ⟨step_by rfl (.inl rfl) hB6 6 rfl (by kernel_rfl) rfl rfl,
     step_dgs rfl (.inl rfl) ly yys rfl rfl (knows_in 0 26 (by decide) (by kernel_rfl) rfl rfl),
     step_copyN rfl (.inl rfl) 1 27 (.inr rfl) rfl (by decide) (by kernel_rfl) rfl rfl, trivial⟩ ?_
  intro val w7 hw hS hap hla
  have e26 : val 26 = (.agg (ints .u8 ys).toArray) := hS 0 26 (by decide) rfl
  obtain ⟨A27, c27, y27, e27, H27, M27⟩ := hS 1 27 (by decide) rfl
  obtain ⟨A7, c7, y7, e7, H7, M7⟩ := hS 2 7 (by decide) rfl
  simp only [putVals, List.foldl_cons, List.foldl_nil, List.drop_succ_cons, List.drop_zero, Act.put, List.setIfInBounds_toArray, List.set_cons_succ, List.set_cons_zero, e26, e27, e7]
  clear hS hap hla e26 e27 e7 H27 M27
  replace hT := hT.next hw
  replace h1 := h1.next hw
  replace hB3 := hB3.next hw
  replace hB6 := hB6.next hw
  replace hW := hW.trans (Below.mono hw hW.size)
  clear hw
  go_upto_region 8 with (fail)
  have s7 := hW.size
  refine region_seq2 1 110 (fun i => i == 0) [IsZ4 w7.heap.size] [8] (by kernel_rfl) (by kernel_rfl) (Nat.le_of_eq rfl) (grows_cons (IsZ4.grows _) grows_nil)
    ⟨step_alloc28 (.inl rfl) rfl rfl, trivial⟩ ?_
  intro val w8 hw hS hap hla
  obtain ⟨b8, e8, L8, Z8⟩ := hS 0 8 (by decide) rfl
  simp only [putVals, List.foldl_cons, List.foldl_nil, List.drop_succ_cons, List.drop_zero, Act.put, List.setIfInBounds_toArray, List.set_cons_succ, List.set_cons_zero, e8]
  clear hS hap hla e8 
  replace hT := hT.next hw
  replace h1 := h1.next hw
  replace hB3 := hB3.next hw
  replace hB6 := hB6.next hw
  replace M7 := M7.below hw
  replace hW := hW.trans (Below.mono hw hW.size)
  clear hw
  go_upto_region 9 with (fail)
  have s8 := hW.size
  refine region_seq2 25 110 (fun _ => false) [Is (.agg (ints .i64 (zeros 64)).toArray), Is (.bool false), Is (.bool false), Is (.agg (ints .i64 (zeros 64)).toArray), Is (.agg (ints .u8 (zeros 32)).toArray), Is (.agg (ints .u8 (zeros 32)).toArray), Is (.bool false), Is (.bool false), Is (.bool false), Is (.agg (ints .i64 (zeros 64)).toArray), Is (.agg (ints .i64 (zeros 64)).toArray), Is (.agg (ints .i64 sz).toArray), Is (.bool false), Is (.bool false), Is (.bool false), Is (.agg (ints .i64 (zeros 64)).toArray), Is (.agg (ints .u8 a).toArray), Is (.agg (ints .i64 (zeros 64)).toArray), Is (.bool false), Is (.bool false), Is (.bool false), Is (.agg (ints .i64 (zeros 64)).toArray), Is (.agg (ints .i64 ng).toArray), Is (.bool false), Is (.bool false)] [28, 29, 30, 31, 32, 33, 34, 35, 36, 37, 38, 39, 40, 41, 42, 43, 44, 45, 46, 47, 48, 49, 50, 51, 52] (by kernel_rfl) (by kernel_rfl) (Nat.le_of_eq rfl) (grows_cons (Is.grows _) (grows_cons (Is.grows _) (grows_cons (Is.grows _) (grows_cons (Is.grows _) (grows_cons (Is.grows _) (grows_cons (Is.grows _) (grows_cons (Is.grows _) (grows_cons (Is.grows _) (grows_cons (Is.grows _) (grows_cons (Is.grows _) (grows_cons (Is.grows _) (grows_cons (Is.grows _) (grows_cons (Is.grows _) (grows_cons (Is.grows _) (grows_cons (Is.grows _) (grows_cons (Is.grows _) (grows_cons (Is.grows _) (grows_cons (Is.grows _) (grows_cons (Is.grows _) (grows_cons (Is.grows _) (grows_cons (Is.grows _) (grows_cons (Is.grows _) (grows_cons (Is.grows _) (grows_cons (Is.grows _) (grows_cons (Is.grows _) grows_nil)))))))))))))))))))))))))
    ⟨step_pt rfl (.inl rfl) Z8 8 rfl (by kernel_rfl) rfl rfl,
     step_toT rfl (.inl rfl) rfl cg9 hT none_on rfl (one_arg (knows_in 0 28 (by decide) (by kernel_rfl) rfl rfl)),
     step_mv rfl (.inl rfl) rfl rfl (knows_in 1 29 (by decide) (by kernel_rfl) rfl rfl),
     step_pt rfl (.inr ⟨2, false, 30, rfl, by decide, by kernel_rfl, rfl, fun _ _ h => h⟩) Z8 8 rfl (by kernel_rfl) rfl rfl,
     step_to rfl (.inr ⟨2, false, 30, rfl, by decide, by kernel_rfl, rfl, fun _ _ h => h⟩) rfl cg10 none_bytes rfl (one_arg (knows_in 3 31 (by decide) (by kernel_rfl) rfl rfl)),
     step_noneB rfl (.inr ⟨2, false, 30, rfl, by decide, by kernel_rfl, rfl, fun _ _ h => h⟩) rfl rfl,
     step_nes rfl (.inr ⟨2, false, 30, rfl, by decide, by kernel_rfl, rfl, fun _ _ h => h⟩) rfl (zeros_len 32) rfl (knows_in 4 32 (by decide) (by kernel_rfl) rfl rfl) (knows_in 5 33 (by decide) (by kernel_rfl) rfl rfl),
     step_pick rfl (.inl rfl) (b := false) rfl rfl (knows_in 2 30 (by decide) (by kernel_rfl) rfl rfl) (knows_in 6 34 (by decide) (by kernel_rfl) rfl rfl),
     step_mv rfl (.inl rfl) rfl rfl (knows_in 7 35 (by decide) (by kernel_rfl) rfl rfl),
     step_pt rfl (.inr ⟨8, false, 36, rfl, by decide, by kernel_rfl, rfl, fun _ _ h => h⟩) Z8 8 rfl (by kernel_rfl) rfl rfl,
     step_pt rfl (.inr ⟨8, false, 36, rfl, by decide, by kernel_rfl, rfl, fun _ _ h => h⟩) hB3 3 rfl (by kernel_rfl) rfl rfl,
     step_toT rfl (.inr ⟨8, false, 36, rfl, by decide, by kernel_rfl, rfl, fun _ _ h => h⟩) rfl cg11 hT ksz rfl (two_args (knows_in 9 37 (by decide) (by kernel_rfl) rfl rfl) (knows_in 10 38 (by decide) (by kernel_rfl) rfl rfl)),
     step_toT rfl (.inr ⟨8, false, 36, rfl, by decide, by kernel_rfl, rfl, fun _ _ h => h⟩) rfl cg9 hT osz rfl (one_arg (knows_in 11 39 (by decide) (by kernel_rfl) rfl rfl)),
     step_pick rfl (.inl rfl) (b := false) rfl rfl (knows_in 8 36 (by decide) (by kernel_rfl) rfl rfl) (knows_in 12 40 (by decide) (by kernel_rfl) rfl rfl),
     step_mv rfl (.inl rfl) rfl rfl (knows_in 13 41 (by decide) (by kernel_rfl) rfl rfl),
     step_pt rfl (.inr ⟨14, false, 42, rfl, by decide, by kernel_rfl, rfl, fun _ _ h => h⟩) Z8 8 rfl (by kernel_rfl) rfl rfl,
     step_by rfl (.inr ⟨14, false, 42, rfl, by decide, by kernel_rfl, rfl, fun _ _ h => h⟩) h1 1 rfl (by kernel_rfl) rfl rfl,
     step_to rfl (.inr ⟨14, false, 42, rfl, by decide, by kernel_rfl, rfl, fun _ _ h => h⟩) rfl cg12 (none_mul la) rfl (two_args (knows_in 15 43 (by decide) (by kernel_rfl) rfl rfl) (knows_in 16 44 (by decide) (by kernel_rfl) rfl rfl)),
     step_toT rfl (.inr ⟨14, false, 42, rfl, by decide, by kernel_rfl, rfl, fun _ _ h => h⟩) rfl cg9 hT none_on rfl (one_arg (knows_in 17 45 (by decide) (by kernel_rfl) rfl rfl)),
     step_pick rfl (.inl rfl) (b := false) rfl rfl (knows_in 14 42 (by decide) (by kernel_rfl) rfl rfl) (knows_in 18 46 (by decide) (by kernel_rfl) rfl rfl),
     step_mv rfl (.inl rfl) rfl rfl (knows_in 19 47 (by decide) (by kernel_rfl) rfl rfl),
     step_pt rfl (.inr ⟨20, false, 48, rfl, by decide, by kernel_rfl, rfl, fun _ _ h => h⟩) Z8 8 rfl (by kernel_rfl) rfl rfl,
     step_to rfl (.inr ⟨20, false, 48, rfl, by decide, by kernel_rfl, rfl, fun _ _ h => h⟩) rfl cg13 kng rfl (one_arg (knows_in 21 49 (by decide) (by kernel_rfl) rfl rfl)),
     step_toT rfl (.inr ⟨20, false, 48, rfl, by decide, by kernel_rfl, rfl, fun _ _ h => h⟩) rfl cg9 hT ong rfl (one_arg (knows_in 22 50 (by decide) (by kernel_rfl) rfl rfl)),
     step_pick rfl (.inl rfl) (b := false) rfl rfl (knows_in 20 48 (by decide) (by kernel_rfl) rfl rfl) (knows_in 23 51 (by decide) (by kernel_rfl) rfl rfl), trivial⟩ ?_
  intro val w9 hw hS hap hla
  have e28 : val 28 = (.agg (ints .i64 (zeros 64)).toArray) := hS 0 28 (by decide) rfl
  have e29 : val 29 = (.bool false) := hS 1 29 (by decide) rfl
  have e30 : val 30 = (.bool false) := hS 2 30 (by decide) rfl
  have e31 : val 31 = (.agg (ints .i64 (zeros 64)).toArray) := hS 3 31 (by decide) rfl
  have e32 : val 32 = (.agg (ints .u8 (zeros 32)).toArray) := hS 4 32 (by decide) rfl
  have e33 : val 33 = (.agg (ints .u8 (zeros 32)).toArray) := hS 5 33 (by decide) rfl
  have e34 : val 34 = (.bool false) := hS 6 34 (by decide) rfl
  have e35 : val 35 = (.bool false) := hS 7 35 (by decide) rfl
  have e36 : val 36 = (.bool false) := hS 8 36 (by decide) rfl
  have e37 : val 37 = (.agg (ints .i64 (zeros 64)).toArray) := hS 9 37 (by decide) rfl
  have e38 : val 38 = (.agg (ints .i64 (zeros 64)).toArray) := hS 10 38 (by decide) rfl
  have e39 : val 39 = (.agg (ints .i64 sz).toArray) := hS 11 39 (by decide) rfl
  have e40 : val 40 = (.bool false) := hS 12 40 (by decide) rfl
  have e41 : val 41 = (.bool false) := hS 13 41 (by decide) rfl
  have e42 : val 42 = (.bool false) := hS 14 42 (by decide) rfl
  have e43 : val 43 = (.agg (ints .i64 (zeros 64)).toArray) := hS 15 43 (by decide) rfl
  have e44 : val 44 = (.agg (ints .u8 a).toArray) := hS 16 44 (by decide) rfl
  have e45 : val 45 = (.agg (ints .i64 (zeros 64)).toArray) := hS 17 45 (by decide) rfl
  have e46 : val 46 = (.bool false) := hS 18 46 (by decide) rfl
  have e47 : val 47 = (.bool false) := hS 19 47 (by decide) rfl
  have e48 : val 48 = (.bool false) := hS 20 48 (by decide) rfl
  have e49 : val 49 = (.agg (ints .i64 (zeros 64)).toArray) := hS 21 49 (by decide) rfl
  have e50 : val 50 = (.agg (ints .i64 ng).toArray) := hS 22 50 (by decide) rfl
  have e51 : val 51 = (.bool false) := hS 23 51 (by decide) rfl
  have e52 : val 52 = (.bool false) := hS 24 52 (by decide) rfl
  simp only [putVals, List.foldl_cons, List.foldl_nil, List.drop_succ_cons, List.drop_zero, Act.put, List.setIfInBounds_toArray, List.set_cons_succ, List.set_cons_zero, e28, e29, e30, e31, e32, e33, e34, e35, e36, e37, e38, e39, e40, e41, e42, e43, e44, e45, e46, e47, e48, e49, e50, e51, e52]
  clear hS hap hla e28 e29 e30 e31 e32 e33 e34 e35 e36 e37 e38 e39 e40 e41 e42 e43 e44 e45 e46 e47 e48 e49 e50 e51 e52 
  replace hT := hT.next hw
  replace h1 := h1.next hw
  replace hB3 := hB3.next hw
  replace hB6 := hB6.next hw
  replace M7 := M7.below hw
  replace Z8 := Z8.next hw
  replace hW := hW.trans (Below.mono hw hW.size)
  clear hw
  go_upto_region 11 with (fail)
  have s9 := hW.size
  refine region_seq2 3 110 (fun _ => false) [Is (.slice A7 16 c7), IsN NT.PN, Is (.bool false)] [53, 54, 55] (by kernel_rfl) (by kernel_rfl) (Nat.le_of_eq rfl) (grows_cons (Is.grows _) (grows_cons (IsN.grows _) (grows_cons (Is.grows _) grows_nil)))
    ⟨step_mv rfl (.inl rfl) rfl rfl (knows_out 7 (by kernel_rfl) rfl),
     step_rn rfl (.inl rfl) rfl cg15 rfl (fun a w hw hf hd => ⟨#[], by simp, rf_p w⟩),
     step_atl rfl (.inl rfl) hge rfl rfl ((knows_in 0 53 (by decide) (by kernel_rfl) rfl rfl).r H7 M7) (knowsN_in 1 54 (by decide) (by kernel_rfl) rfl rfl), trivial⟩ ?_
  intro val w10 hw hS hap hla
  have e53 : val 53 = (.slice A7 16 c7) := hS 0 53 (by decide) rfl
  obtain ⟨A54, c54, y54, e54, H54, M54⟩ := hS 1 54 (by decide) rfl
  have e55 : val 55 = (.bool false) := hS 2 55 (by decide) rfl
  simp only [putVals, List.foldl_cons, List.foldl_nil, List.drop_succ_cons, List.drop_zero, Act.put, List.setIfInBounds_toArray, List.set_cons_succ, List.set_cons_zero, e53, e54, e55]
  clear hS hap hla e53 e54 e55 H54 M54
  replace hT := hT.next hw
  replace h1 := h1.next hw
  replace hB3 := hB3.next hw
  replace hB6 := hB6.next hw
  replace M7 := M7.below hw
  replace Z8 := Z8.next hw
  replace hW := hW.trans (Below.mono hw hW.size)
  clear hw
  go_upto_region 13 with (fail)
  replace H7 : Hid (Rp y7 b.val) := hid (by rw [hbv]; exact H7.out)
  have s10 := hW.size
  refine region_seq2 4 110 (fun _ => false) [Is (.slice A7 16 c7), Is (.slice A7 16 c7), IsN ((b * b : Fin NT.PN)).val, IsN ((b * b : Fin NT.PN)).val] [63, 64, 65, 9] (by kernel_rfl) (by kernel_rfl) (Nat.le_of_eq rfl) (grows_cons (Is.grows _) (grows_cons (Is.grows _) (grows_cons (IsN.grows _) (grows_cons (IsN.grows _) grows_nil))))
    ⟨step_mv rfl (.inl rfl) rfl rfl (knows_out 7 (by kernel_rfl) rfl),
     step_mv rfl (.inl rfl) rfl rfl (knows_out 7 (by kernel_rfl) rfl),
     step_rn rfl (.inl rfl) rfl cf23 rfl (rn2 ((knows_in 0 63 (by decide) (by kernel_rfl) rfl rfl).r H7 M7) ((knows_in 1 64 (by decide) (by kernel_rfl) rfl rfl).r H7 M7) (fun h1 h2 h3 h4 => rf_mul h1 h2 h3 h4)),
     step_copyN rfl (.inl rfl) 2 65 (.inr rfl) rfl (by decide) (by kernel_rfl) rfl rfl, trivial⟩ ?_
  intro val w11 hw hS hap hla
  have e63 : val 63 = (.slice A7 16 c7) := hS 0 63 (by decide) rfl
  have e64 : val 64 = (.slice A7 16 c7) := hS 1 64 (by decide) rfl
  obtain ⟨A65, c65, y65, e65, H65, M65⟩ := hS 2 65 (by decide) rfl
  obtain ⟨A9, c9, y9, e9, H9, M9⟩ := hS 3 9 (by decide) rfl
  simp only [putVals, List.foldl_cons, List.foldl_nil, List.drop_succ_cons, List.drop_zero, Act.put, List.setIfInBounds_toArray, List.set_cons_succ, List.set_cons_zero, e63, e64, e65, e9]
  clear hS hap hla e63 e64 e65 e9 H65 M65
  replace hT := hT.next hw
  replace h1 := h1.next hw
  replace hB3 := hB3.next hw
  replace hB6 := hB6.next hw
  replace M7 := M7.below hw
  replace Z8 := Z8.next hw
  replace hW := hW.trans (Below.mono hw hW.size)
  clear hw
  go_upto_region 14 with (fail)
  have s11 := hW.size
  refine region_seq2 11 110 (fun _ => false) [Is (.slice A9 16 c9), IsN ((1 : Fin NT.PN)).val, IsN (((b * b : Fin NT.PN) - (1 : Fin NT.PN) : Fin NT.PN)).val, IsN ((1 : Fin NT.PN)).val, IsN (dF).val, Is (.slice A9 16 c9), IsN ((dF * (b * b : Fin NT.PN) : Fin NT.PN)).val, IsN (((1 : Fin NT.PN) + (dF * (b * b : Fin NT.PN) : Fin NT.PN) : Fin NT.PN)).val, IsN ((iv ((1 : Fin NT.PN) + (dF * (b * b : Fin NT.PN) : Fin NT.PN) : Fin NT.PN))).val, IsN ((((b * b : Fin NT.PN) - (1 : Fin NT.PN) : Fin NT.PN) * (iv ((1 : Fin NT.PN) + (dF * (b * b : Fin NT.PN) : Fin NT.PN) : Fin NT.PN)) : Fin NT.PN)).val, IsN ((((b * b : Fin NT.PN) - (1 : Fin NT.PN) : Fin NT.PN) * (iv ((1 : Fin NT.PN) + (dF * (b * b : Fin NT.PN) : Fin NT.PN) : Fin NT.PN)) : Fin NT.PN)).val] [66, 67, 68, 69, 70, 71, 72, 73, 74, 75, 10] (by kernel_rfl) (by kernel_rfl) (Nat.le_of_eq rfl) (grows_cons (Is.grows _) (grows_cons (IsN.grows _) (grows_cons (IsN.grows _) (grows_cons (IsN.grows _) (grows_cons (IsN.grows _) (grows_cons (Is.grows _) (grows_cons (IsN.grows _) (grows_cons (IsN.grows _) (grows_cons (IsN.grows _) (grows_cons (IsN.grows _) (grows_cons (IsN.grows _) grows_nil)))))))))))
    ⟨step_mv rfl (.inl rfl) rfl rfl (knows_out 9 (by kernel_rfl) rfl),
     step_rn rfl (.inl rfl) rfl cf17 rfl (fun a w hw hf hd => ⟨_, rfl, by rw [map1]; exact rf_small 1 (by decide) w⟩),
     step_rn rfl (.inl rfl) rfl cf21 rfl (rn2 ((knows_in 0 66 (by decide) (by kernel_rfl) rfl rfl).r H9 M9) (knowsN_in 1 67 (by decide) (by kernel_rfl) rfl rfl) (fun h1 h2 h3 h4 => rf_sub h1 h2 h3 h4)),
     step_rn rfl (.inl rfl) rfl cf17 rfl (fun a w hw hf hd => ⟨_, rfl, by rw [map1]; exact rf_small 1 (by decide) w⟩),
     step_rn rfl (.inl rfl) rfl cg21 rfl (fun a w hw hf hd => ⟨#[], by simp, rf_d w⟩),
     step_mv rfl (.inl rfl) rfl rfl (knows_out 9 (by kernel_rfl) rfl),
     step_rn rfl (.inl rfl) rfl cf23 rfl (rn2 (knowsN_in 4 70 (by decide) (by kernel_rfl) rfl rfl) ((knows_in 5 71 (by decide) (by kernel_rfl) rfl rfl).r H9 M9) (fun h1 h2 h3 h4 => rf_mul h1 h2 h3 h4)),
     step_rn rfl (.inl rfl) rfl cf19 rfl (rn2 (knowsN_in 3 69 (by decide) (by kernel_rfl) rfl rfl) (knowsN_in 6 72 (by decide) (by kernel_rfl) rfl rfl) (fun h1 h2 h3 h4 => rf_add h1 h2 h3 h4)),
     step_rn rfl (.inl rfl) rfl cg19 rfl (rn1 (knowsN_in 7 73 (by decide) (by kernel_rfl) rfl rfl) (fun h1 h2 => rf_inv h1 h2)),
     step_rn rfl (.inl rfl) rfl cf23 rfl (rn2 (knowsN_in 2 68 (by decide) (by kernel_rfl) rfl rfl) (knowsN_in 8 74 (by decide) (by kernel_rfl) rfl rfl) (fun h1 h2 h3 h4 => rf_mul h1 h2 h3 h4)),
     step_copyN rfl (.inl rfl) 9 75 (.inr rfl) rfl (by decide) (by kernel_rfl) rfl rfl, trivial⟩ ?_
  intro val w12 hw hS hap hla
  have e66 : val 66 = (.slice A9 16 c9) := hS 0 66 (by decide) rfl
  obtain ⟨A67, c67, y67, e67, H67, M67⟩ := hS 1 67 (by decide) rfl
  obtain ⟨A68, c68, y68, e68, H68, M68⟩ := hS 2 68 (by decide) rfl
  obtain ⟨A69, c69, y69, e69, H69, M69⟩ := hS 3 69 (by decide) rfl
  obtain ⟨A70, c70, y70, e70, H70, M70⟩ := hS 4 70 (by decide) rfl
  have e71 : val 71 = (.slice A9 16 c9) := hS 5 71 (by decide) rfl
  obtain ⟨A72, c72, y72, e72, H72, M72⟩ := hS 6 72 (by decide) rfl
  obtain ⟨A73, c73, y73, e73, H73, M73⟩ := hS 7 73 (by decide) rfl
  obtain ⟨A74, c74, y74, e74, H74, M74⟩ := hS 8 74 (by decide) rfl
  obtain ⟨A75, c75, y75, e75, H75, M75⟩ := hS 9 75 (by decide) rfl
  obtain ⟨A10, c10, y10, e10, H10, M10⟩ := hS 10 10 (by decide) rfl
  simp only [putVals, List.foldl_cons, List.foldl_nil, List.drop_succ_cons, List.drop_zero, Act.put, List.setIfInBounds_toArray, List.set_cons_succ, List.set_cons_zero, e66, e67, e68, e69, e70, e71, e72, e73, e74, e75, e10]
  clear hS hap hla e66 e67 e68 e69 e70 e71 e72 e73 e74 e75 e10 H67 M67 H68 M68 H69 M69 H70 M70 H72 M72 H73 M73 H74 M74 H75 M75
  replace hT := hT.next hw
  replace h1 := h1.next hw
  replace hB3 := hB3.next hw
  replace hB6 := hB6.next hw
  replace M7 := M7.below hw
  replace Z8 := Z8.next hw
  replace M9 := M9.below hw
  replace hW := hW.trans (Below.mono hw hW.size)
  clear hw
  go_upto_region 15 with (fail)
  have s12 := hW.size
  refine region_seq2 10 110 (fun _ => false) [Is (.slice A10 16 c10), Is (.bool false), Is (.bool true), Is (.bool true), Is undef, Is undef, Is undef, Is undef, Is undef, Is (.bool true)] [76, 77, 78, 79, 80, 81, 82, 83, 84, 85] (by kernel_rfl) (by kernel_rfl) (Nat.le_of_eq rfl) (grows_cons (Is.grows _) (grows_cons (Is.grows _) (grows_cons (Is.grows _) (grows_cons (Is.grows _) (grows_cons (Is.grows _) (grows_cons (Is.grows _) (grows_cons (Is.grows _) (grows_cons (Is.grows _) (grows_cons (Is.grows _) (grows_cons (Is.grows _) grows_nil))))))))))
    ⟨step_mv rfl (.inl rfl) rfl rfl (knows_out 10 (by kernel_rfl) rfl),
     step_sqr (m := (((b * b : Fin NT.PN) - (1 : Fin NT.PN) : Fin NT.PN) * (iv ((1 : Fin NT.PN) + (dF * (b * b : Fin NT.PN) : Fin NT.PN) : Fin NT.PN)) : Fin NT.PN)) rfl (.inl rfl) hsq rfl rfl ((knows_in 0 76 (by decide) (by kernel_rfl) rfl rfl).r H10 M10),
     step_not rfl (.inl rfl) (b := false) rfl rfl (knows_in 1 77 (by decide) (by kernel_rfl) rfl rfl),
     step_mv rfl (.inl rfl) rfl rfl (knows_in 2 78 (by decide) (by kernel_rfl) rfl rfl),
     step_off rfl ⟨3, false, 79, rfl, by decide, by kernel_rfl, rfl, fun _ _ h => .inl h⟩ (fun _ => rfl),
     step_off rfl ⟨3, false, 79, rfl, by decide, by kernel_rfl, rfl, fun _ _ h => .inl h⟩ (fun _ => rfl),
     step_off rfl ⟨3, false, 79, rfl, by decide, by kernel_rfl, rfl, fun _ _ h => .inl h⟩ (fun _ => rfl),
     step_off rfl ⟨6, true, 82, rfl, by decide, by kernel_rfl, rfl, fun _ _ h => .inr h⟩ (fun _ => rfl),
     step_off rfl ⟨3, false, 79, rfl, by decide, by kernel_rfl, rfl, fun _ _ h => .inl h⟩ (fun _ => rfl),
     step_pick rfl (.inl rfl) (b := true) rfl rfl (knows_in 3 79 (by decide) (by kernel_rfl) rfl rfl) (knows_const _), trivial⟩ ?_
  intro val w13 hw hS hap hla
  have e76 : val 76 = (.slice A10 16 c10) := hS 0 76 (by decide) rfl
  have e77 : val 77 = (.bool false) := hS 1 77 (by decide) rfl
  have e78 : val 78 = (.bool true) := hS 2 78 (by decide) rfl
  have e79 : val 79 = (.bool true) := hS 3 79 (by decide) rfl
  have e80 : val 80 = undef := hS 4 80 (by decide) rfl
  have e81 : val 81 = undef := hS 5 81 (by decide) rfl
  have e82 : val 82 = undef := hS 6 82 (by decide) rfl
  have e83 : val 83 = undef := hS 7 83 (by decide) rfl
  have e84 : val 84 = undef := hS 8 84 (by decide) rfl
  have e85 : val 85 = (.bool true) := hS 9 85 (by decide) rfl
  simp only [putVals, List.foldl_cons, List.foldl_nil, List.drop_succ_cons, List.drop_zero, Act.put, List.setIfInBounds_toArray, List.set_cons_succ, List.set_cons_zero, e76, e77, e78, e79, e80, e81, e82, e83, e84, e85]
  clear hS hap hla e76 e77 e78 e79 e80 e81 e82 e83 e84 e85 
  replace hT := hT.next hw
  replace h1 := h1.next hw
  replace hB3 := hB3.next hw
  replace hB6 := hB6.next hw
  replace M7 := M7.below hw
  replace Z8 := Z8.next hw
  replace M9 := M9.below hw
  replace M10 := M10.below hw
  replace hW := hW.trans (Below.mono hw hW.size)
  clear hw
  go_upto_region 16 with (fail)
  have s13 := hW.size
  refine region_seq2 8 110 (fun _ => false) [Is (.int .i64 21), Is (.bool true), Is (.bool true), Is (.agg (ints .i64 (zeros 64)).toArray), Is (.bool false), Is (.bool true), Is (.bool true), Is (.bool true)] [86, 87, 88, 89, 90, 91, 92, 2] (by kernel_rfl) (by kernel_rfl) (Nat.le_of_eq rfl) (grows_cons (Is.grows _) (grows_cons (Is.grows _) (grows_cons (Is.grows _) (grows_cons (Is.grows _) (grows_cons (Is.grows _) (grows_cons (Is.grows _) (grows_cons (Is.grows _) (grows_cons (Is.grows _) grows_nil))))))))
    ⟨step_mv rfl (.inl rfl) rfl rfl (knows_out 4 (by kernel_rfl) rfl),
     step_eqE rfl (.inl rfl) rfl rfl rfl (knows_in 0 86 (by decide) (by kernel_rfl) rfl rfl),
     step_mv rfl (.inl rfl) rfl rfl (knows_in 1 87 (by decide) (by kernel_rfl) rfl rfl),
     step_pt rfl (.inr ⟨2, true, 88, rfl, by decide, by kernel_rfl, rfl, fun _ _ h => h⟩) hB3 3 rfl (by kernel_rfl) rfl rfl,
     step_toT rfl (.inr ⟨2, true, 88, rfl, by decide, by kernel_rfl, rfl, fun _ _ h => h⟩) rfl cg9 hT none_on rfl (one_arg (knows_in 3 89 (by decide) (by kernel_rfl) rfl rfl)),
     step_not rfl (.inr ⟨2, true, 88, rfl, by decide, by kernel_rfl, rfl, fun _ _ h => h⟩) (b := false) rfl rfl (knows_in 4 90 (by decide) (by kernel_rfl) rfl rfl),
     step_pick rfl (.inl rfl) (b := true) rfl rfl (knows_in 2 88 (by decide) (by kernel_rfl) rfl rfl) (knows_in 5 91 (by decide) (by kernel_rfl) rfl rfl),
     step_asg rfl (.inl rfl) rfl rfl (knows_in 6 92 (by decide) (by kernel_rfl) rfl rfl), trivial⟩ ?_
  intro val w14 hw hS hap hla
  have e86 : val 86 = (.int .i64 21) := hS 0 86 (by decide) rfl
  have e87 : val 87 = (.bool true) := hS 1 87 (by decide) rfl
  have e88 : val 88 = (.bool true) := hS 2 88 (by decide) rfl
  have e89 : val 89 = (.agg (ints .i64 (zeros 64)).toArray) := hS 3 89 (by decide) rfl
  have e90 : val 90 = (.bool false) := hS 4 90 (by decide) rfl
  have e91 : val 91 = (.bool true) := hS 5 91 (by decide) rfl
  have e92 : val 92 = (.bool true) := hS 6 92 (by decide) rfl
  have e2 : val 2 = (.bool true) := hS 7 2 (by decide) rfl
  simp only [putVals, List.foldl_cons, List.foldl_nil, List.drop_succ_cons, List.drop_zero, Act.put, List.setIfInBounds_toArray, List.set_cons_succ, List.set_cons_zero, e86, e87, e88, e89, e90, e91, e92, e2]
  clear hS hap hla e86 e87 e88 e89 e90 e91 e92 e2 
  replace hT := hT.next hw
  replace h1 := h1.next hw
  replace hB3 := hB3.next hw
  replace hB6 := hB6.next hw
  replace M7 := M7.below hw
  replace Z8 := Z8.next hw
  replace M9 := M9.below hw
  replace M10 := M10.below hw
  replace hW := hW.trans (Below.mono hw hW.size)
  clear hw
  go_wp2_with (fail)
  go_ret
  exact ⟨rfl, hW⟩
set_option maxRecDepth 4000 in
set_option maxHeartbeats 16000000 in
theorem of_Z_o {a : List Int} (la : a.length = 32) {x x' : Int} (hx : a[31]? = some x) (hx0 : 0 ≤ x ∧ x < 256) (hod : 128 ≤ x) (hx' : x % 128 = x') {ys : List Int} (hys : a.set 31 x' = ys) (ly : ys.length = 32) (yys : Byt ys) (hge : decide (NT.PN ≤ bn ys) = false) {b : Fin NT.PN} (hbv : b.val = bn ys) (hsq : isSq ((b * b - 1) * iv (1 + dF * (b * b))).val = true) (hze : decide ((b * b - 1) * iv (1 + dF * (b * b)) = 0) = true) (kof : CallsT 7 #[.agg (ints .u8 a).toArray] (.tuple #[.agg (ints .i64 (zeros 64)).toArray, .int .i64 21])) : CallsT 3 #[.agg (ints .u8 a).toArray] (.bool true) := by
  obtain ⟨ksz, hsz⟩ := sumL_spec pn_none pn_none
  have osz := c_on_no hsz (no_add dF _)
  have lsz := hsz.len
  obtain ⟨sz, hsze⟩ : ∃ l, sumL (zeros 64) (zeros 64) = l := ⟨_, rfl⟩
  rw [hsze] at ksz osz lsz
  clear hsze hsz
  obtain ⟨ng, kng, hng⟩ := c_pneg pn_none
  have ong := c_on_no hng neg_zero_z
  have lng := hng.len

  intro W hT
  have h1 := By.new W a la
  have hW := below_new W (.cells (ints .u8 a).toArray 22)
  have hT0 := hT
  replace hT := (hT.alloc (.cells (ints .u8 a).toArray 22))
  go_enter Tryd.func3, Tryd.ntmps3
  go_upto_region 1 with (fail)
  generalize W.alloc (.cells (ints .u8 a).toArray 22) = w0 at *
  have s0 := hW.size
  refine region_seq2 2 110 (fun _ => false) [Is (.bool true), Is (.bool false)] [11, 12] (by kernel_rfl) (by kernel_rfl) (Nat.le_of_eq rfl) (grows_cons (Is.grows _) (grows_cons (Is.grows _) grows_nil))
    ⟨step_toT rfl (.inl rfl) rfl cg6 hT awake_any rfl (no_args),
     step_not rfl (.inl rfl) (b := true) rfl rfl (knows_in 0 11 (by decide) (by kernel_rfl) rfl rfl), trivial⟩ ?_
  intro val w1 hw hS hap hla
  have e11 : val 11 = (.bool true) := hS 0 11 (by decide) rfl
  have e12 : val 12 = (.bool false) := hS 1 12 (by decide) rfl
  simp only [putVals, List.foldl_cons, List.foldl_nil, List.drop_succ_cons, List.drop_zero, Act.put, List.setIfInBounds_toArray, List.set_cons_succ, List.set_cons_zero, e11, e12]
  clear hS hap hla e11 e12 
  replace hT := hT.next hw
  replace h1 := h1.next hw
  replace hW := hW.trans (Below.mono hw hW.size)
  clear hw
  go_upto_region 3 with (fail)
  have lt1 := h1.lt
  have s1 := hW.size
  refine region_seq2 6 110 (fun i => i == 5) [Is (.agg (ints .u8 a).toArray), Is (.tuple #[(.agg (ints .i64 (zeros 64)).toArray), (.int .i64 21)]), Is (.tuple #[(.agg (ints .i64 (zeros 64)).toArray), (.int .i64 21)]), Is (.agg (ints .i64 (zeros 64)).toArray), Is (.int .i64 21), IsZ4 w1.heap.size] [14, 15, 13, 16, 17, 3] (by kernel_rfl) (by kernel_rfl) (Nat.le_of_eq rfl) (grows_cons (Is.grows _) (grows_cons (Is.grows _) (grows_cons (Is.grows _) (grows_cons (Is.grows _) (grows_cons (Is.grows _) (grows_cons (IsZ4.grows _) grows_nil))))))
    ⟨step_by rfl (.inl rfl) h1 1 rfl (by kernel_rfl) rfl rfl,
     step_toT rfl (.inl rfl) rfl cg7 hT kof rfl (one_arg (knows_in 0 14 (by decide) (by kernel_rfl) rfl rfl)),
     step_mv rfl (.inl rfl) rfl rfl (knows_in 1 15 (by decide) (by kernel_rfl) rfl rfl),
     step_fst rfl (.inl rfl) rfl rfl (knows_in 2 13 (by decide) (by kernel_rfl) rfl rfl),
     step_snd rfl (.inl rfl) rfl rfl (knows_in 2 13 (by decide) (by kernel_rfl) rfl rfl),
     step_alloc28 (.inl rfl) rfl rfl, trivial⟩ ?_
  intro val w2 hw hS hap hla
  have e14 : val 14 = (.agg (ints .u8 a).toArray) := hS 0 14 (by decide) rfl
  have e15 : val 15 = (.tuple #[(.agg (ints .i64 (zeros 64)).toArray), (.int .i64 21)]) := hS 1 15 (by decide) rfl
  have e13 : val 13 = (.tuple #[(.agg (ints .i64 (zeros 64)).toArray), (.int .i64 21)]) := hS 2 13 (by decide) rfl
  have e16 : val 16 = (.agg (ints .i64 (zeros 64)).toArray) := hS 3 16 (by decide) rfl
  have e17 : val 17 = (.int .i64 21) := hS 4 17 (by decide) rfl
  obtain ⟨b3, e3, L3, Z3⟩ := hS 5 3 (by decide) rfl
  simp only [putVals, List.foldl_cons, List.foldl_nil, List.drop_succ_cons, List.drop_zero, Act.put, List.setIfInBounds_toArray, List.set_cons_succ, List.set_cons_zero, e14, e15, e13, e16, e17, e3]
  clear hS hap hla e14 e15 e13 e16 e17 e3 
  have LL3 := hid (zeros_len 64)
  have R3 := Z3.room (l' := (zeros 64)) (zeros_len 64)
  have hB3 := Z3.stored (l' := (zeros 64)) (zeros_len 64)
  replace hT := hT.next (Below.setCells hw L3 0 (ints .i64 (zeros 64)).toArray.toList)
  replace h1 := h1.next (Below.setCells hw L3 0 (ints .i64 (zeros 64)).toArray.toList)
  replace hW := hW.trans (Below.mono (Below.setCells hw L3 0 (ints .i64 (zeros 64)).toArray.toList) hW.size)
  with_reducible refine wpList_store_mid (op := ⟨none, .store 28 (.tmp 3) (.tmp 16), _, _, _, _⟩) rfl 28 (.tmp 3) (.tmp 16) rfl b3 0 (ints .i64 (zeros 64)).toArray rfl rfl R3 (a28 LL3.out) (ints_all _ _) ?_
  generalize (w2.setCells b3 0 (ints .i64 (zeros 64)).toArray.toList) = w3 at *
  clear hw R3 LL3 Z3 
  obtain ⟨x0, cx, _, HX⟩ := h1.1.spot (i := 31) (by rw [la]; omega)
  rw [Nat.zero_add] at cx
  obtain rfl : x0 = x := by
    have h := HX.out
    rw [hx] at h
    injection h with h
    exact h.symm
  clear HX
  go_upto_region 5 with (fail)
  clear cx
  have n31 : b3 ≠ W.heap.size := by omega
  clear lt1
  have lt3 := hB3.lt
  have lt1 := h1.lt
  have s3 := hW.size
  refine region_seq2 2 110 (fun i => i == 1) [Is (.agg (ints .u8 a).toArray), IsZ22 w3.heap.size] [21, 6] (by kernel_rfl) (by kernel_rfl) (Nat.le_of_eq rfl) (grows_cons (Is.grows _) (grows_cons (IsZ22.grows _) grows_nil))
    ⟨step_by rfl (.inl rfl) h1 1 rfl (by kernel_rfl) rfl rfl,
     step_alloc22 (.inl rfl) rfl rfl, trivial⟩ ?_
  intro val w4 hw hS hap hla
  have e21 : val 21 = (.agg (ints .u8 a).toArray) := hS 0 21 (by decide) rfl
  obtain ⟨b6, e6, L6, Z6⟩ := hS 1 6 (by decide) rfl
  simp only [putVals, List.foldl_cons, List.foldl_nil, List.drop_succ_cons, List.drop_zero, Act.put, List.setIfInBounds_toArray, List.set_cons_succ, List.set_cons_zero, e21, e6]
  clear hS hap hla e21 e6 
  have LL6 := hid la
  have R6 := Z6.room (l' := a) la
  have hB6 := Z6.stored (l' := a) la
  replace hT := hT.next (Below.setCells hw L6 0 (ints .u8 a).toArray.toList)
  replace h1 := h1.next (Below.setCells hw L6 0 (ints .u8 a).toArray.toList)
  replace hB3 := hB3.next (Below.setCells hw L6 0 (ints .u8 a).toArray.toList)
  replace hW := hW.trans (Below.mono (Below.setCells hw L6 0 (ints .u8 a).toArray.toList) hW.size)
  with_reducible refine wpList_store_mid (op := ⟨none, .store 22 (.tmp 6) (.tmp 21), _, _, _, _⟩) rfl 22 (.tmp 6) (.tmp 21) rfl b6 0 (ints .u8 a).toArray rfl rfl R6 (a22 LL6.out) (ints_all _ _) ?_
  generalize (w4.setCells b6 0 (ints .u8 a).toArray.toList) = w5 at *
  clear hw R6 LL6 Z6 
  have n63 : b6 ≠ b3 := by omega
  have n61 : b6 ≠ W.heap.size := by omega
  obtain ⟨x2, cx, fx, HX⟩ := hB6.1.spot (i := 31) (by rw [la]; omega)
  rw [Nat.zero_add] at cx fx
  obtain rfl : x0 = x2 := by
    have h := HX.out
    rw [hx] at h
    injection h
  have hD1 := hB6.1.set 31 x'
  rw [Nat.zero_add, hys] at hD1
  have h6b : By (w5.setCell ⟨b6, 31, none⟩ (.int .u8 x')) b6 ys := ⟨hD1, ly⟩
  have h1b : By (w5.setCell ⟨b6, 31, none⟩ (.int .u8 x')) W.heap.size a := ⟨h1.1.apart (p := ⟨b6, 31, none⟩) (.int .u8 x') (.inl n61), la⟩
  have h3b : B4 (w5.setCell ⟨b6, 31, none⟩ (.int .u8 x')) b3 (zeros 64) := ⟨hB3.1.apart (p := ⟨b6, 31, none⟩) (.int .u8 x') (.inl n63), hB3.2⟩
  have hWb := hW.setCell (p := ⟨b6, 31, none⟩) (by show W.heap.size ≤ b6; omega) (.int .u8 x')
  have hTb := hT0.next hWb
  have htm : Int.tmod x0 128 = x' := by rw [Int.tmod_eq_emod_of_nonneg hx0.1]; exact hx'
  have hx00 := hx0.1
  have hxw : IntKind.u8.wrap x' = x' := wrap_u8 _ (by omega)
  clear h1 hB3 hB6 hW hT HX hD1 hys hx
  go_upto_region 7 with (fail)
  generalize (w5.setCell ⟨b6, 31, none⟩ (.int .u8 x')) = w6 at *
  have h1 := h1b
  have hB3 := h3b
  have hB6 := h6b
  have hW := hWb
  have hT := hTb
  clear h1b h3b h6b hWb hTb cx fx htm hxw n63 n61 n31 lt3 lt1
  have s6 := hW.size
  refine region_seq2 3 110 (fun _ => false) [Is (.agg (ints .u8 ys).toArray), IsN (bn ys), IsN (bn ys)] [26, 27, 7] (by kernel_rfl) (by kernel_rfl) (Nat.le_of_eq rfl) (grows_cons (Is.grows _) (grows_cons (IsN.grows _) (grows_cons (IsN.grows _) grows_nil)))
    ⟨step_by rfl (.inl rfl) hB6 6 rfl (by kernel_rfl) rfl rfl,
     step_dgs rfl (.inl rfl) ly yys rfl rfl (knows_in 0 26 (by decide) (by kernel_rfl) rfl rfl),
     step_copyN rfl (.inl rfl) 1 27 (.inr rfl) rfl (by decide) (by kernel_rfl) rfl rfl, trivial⟩ ?_
  intro val w7 hw hS hap hla
  have e26 : val 26 = (.agg (ints .u8 ys).toArray) := hS 0 26 (by decide) rfl
  obtain ⟨A27, c27, y27, e27, H27, M27⟩ := hS 1 27 (by decide) rfl
  obtain ⟨A7, c7, y7, e7, H7, M7⟩ := hS 2 7 (by decide) rfl
  simp only [putVals, List.foldl_cons, List.foldl_nil, List.drop_succ_cons, List.drop_zero, Act.put, List.setIfInBounds_toArray, List.set_cons_succ, List.set_cons_zero, e26, e27, e7]
  clear hS hap hla e26 e27 e7 H27 M27
  replace hT := hT.next hw
  replace h1 := h1.next hw
  replace hB3 := hB3.next hw
  replace hB6 := hB6.next hw
  replace hW := hW.trans (Below.mono hw hW.size)
  clear hw
  go_upto_region 8 with (fail)
  have s7 := hW.size
  refine region_seq2 1 110 (fun i => i == 0) [IsZ4 w7.heap.size] [8] (by kernel_rfl) (by kernel_rfl) (Nat.le_of_eq rfl) (grows_cons (IsZ4.grows _) grows_nil)
    ⟨step_alloc28 (.inl rfl) rfl rfl, trivial⟩ ?_
  intro val w8 hw hS hap hla
  obtain ⟨b8, e8, L8, Z8⟩ := hS 0 8 (by decide) rfl
  simp only [putVals, List.foldl_cons, List.foldl_nil, List.drop_succ_cons, List.drop_zero, Act.put, List.setIfInBounds_toArray, List.set_cons_succ, List.set_cons_zero, e8]
  clear hS hap hla e8 
  replace hT := hT.next hw
  replace h1 := h1.next hw
  replace hB3 := hB3.next hw
  replace hB6 := hB6.next hw
  replace M7 := M7.below hw
  replace hW := hW.trans (Below.mono hw hW.size)
  clear hw
  go_upto_region 9 with (fail)
  have s8 := hW.size
  refine region_seq2 25 110 (fun _ => false) [Is (.agg (ints .i64 (zeros 64)).toArray), Is (.bool false), Is (.bool false), Is (.agg (ints .i64 (zeros 64)).toArray), Is (.agg (ints .u8 (zeros 32)).toArray), Is (.agg (ints .u8 (zeros 32)).toArray), Is (.bool false), Is (.bool false), Is (.bool false), Is (.agg (ints .i64 (zeros 64)).toArray), Is (.agg (ints .i64 (zeros 64)).toArray), Is (.agg (ints .i64 sz).toArray), Is (.bool false), Is (.bool false), Is (.bool false), Is (.agg (ints .i64 (zeros 64)).toArray), Is (.agg (ints .u8 a).toArray), Is (.agg (ints .i64 (zeros 64)).toArray), Is (.bool false), Is (.bool false), Is (.bool false), Is (.agg (ints .i64 (zeros 64)).toArray), Is (.agg (ints .i64 ng).toArray), Is (.bool false), Is (.bool false)] [28, 29, 30, 31, 32, 33, 34, 35, 36, 37, 38, 39, 40, 41, 42, 43, 44, 45, 46, 47, 48, 49, 50, 51, 52] (by kernel_rfl) (by kernel_rfl) (Nat.le_of_eq rfl) (grows_cons (Is.grows _) (grows_cons (Is.grows _) (grows_cons (Is.grows _) (grows_cons (Is.grows _) (grows_cons (Is.grows _) (grows_cons (Is.grows _) (grows_cons (Is.grows _) (grows_cons (Is.grows _) (grows_cons (Is.grows _) (grows_cons (Is.grows _) (grows_cons (Is.grows _) (grows_cons (Is.grows _) (grows_cons (Is.grows _) (grows_cons (Is.grows _) (grows_cons (Is.grows _) (grows_cons (Is.grows _) (grows_cons (Is.grows _) (grows_cons (Is.grows _) (grows_cons (Is.grows _) (grows_cons (Is.grows _) (grows_cons (Is.grows _) (grows_cons (Is.grows _) (grows_cons (Is.grows _) (grows_cons (Is.grows _) (grows_cons (Is.grows _) grows_nil)))))))))))))))))))))))))
    ⟨step_pt rfl (.inl rfl) Z8 8 rfl (by kernel_rfl) rfl rfl,
     step_toT rfl (.inl rfl) rfl cg9 hT none_on rfl (one_arg (knows_in 0 28 (by decide) (by kernel_rfl) rfl rfl)),
     step_mv rfl (.inl rfl) rfl rfl (knows_in 1 29 (by decide) (by kernel_rfl) rfl rfl),
     step_pt rfl (.inr ⟨2, false, 30, rfl, by decide, by kernel_rfl, rfl, fun _ _ h => h⟩) Z8 8 rfl (by kernel_rfl) rfl rfl,
     step_to rfl (.inr ⟨2, false, 30, rfl, by decide, by kernel_rfl, rfl, fun _ _ h => h⟩) rfl cg10 none_bytes rfl (one_arg (knows_in 3 31 (by decide) (by kernel_rfl) rfl rfl)),
     step_noneB rfl (.inr ⟨2, false, 30, rfl, by decide, by kernel_rfl, rfl, fun _ _ h => h⟩) rfl rfl,
     step_nes rfl (.inr ⟨2, false, 30, rfl, by decide, by kernel_rfl, rfl, fun _ _ h => h⟩) rfl (zeros_len 32) rfl (knows_in 4 32 (by decide) (by kernel_rfl) rfl rfl) (knows_in 5 33 (by decide) (by kernel_rfl) rfl rfl),
     step_pick rfl (.inl rfl) (b := false) rfl rfl (knows_in 2 30 (by decide) (by kernel_rfl) rfl rfl) (knows_in 6 34 (by decide) (by kernel_rfl) rfl rfl),
     step_mv rfl (.inl rfl) rfl rfl (knows_in 7 35 (by decide) (by kernel_rfl) rfl rfl),
     step_pt rfl (.inr ⟨8, false, 36, rfl, by decide, by kernel_rfl, rfl, fun _ _ h => h⟩) Z8 8 rfl (by kernel_rfl) rfl rfl,
     step_pt rfl (.inr ⟨8, false, 36, rfl, by decide, by kernel_rfl, rfl, fun _ _ h => h⟩) hB3 3 rfl (by kernel_rfl) rfl rfl,
     step_toT rfl (.inr ⟨8, false, 36, rfl, by decide, by kernel_rfl, rfl, fun _ _ h => h⟩) rfl cg11 hT ksz rfl (two_args (knows_in 9 37 (by decide) (by kernel_rfl) rfl rfl) (knows_in 10 38 (by decide) (by kernel_rfl) rfl rfl)),
     step_toT rfl (.inr ⟨8, false, 36, rfl, by decide, by kernel_rfl, rfl, fun _ _ h => h⟩) rfl cg9 hT osz rfl (one_arg (knows_in 11 39 (by decide) (by kernel_rfl) rfl rfl)),
     step_pick rfl (.inl rfl) (b := false) rfl rfl (knows_in 8 36 (by decide) (by kernel_rfl) rfl rfl) (knows_in 12 40 (by decide) (by kernel_rfl) rfl rfl),
     step_mv rfl (.inl rfl) rfl rfl (knows_in 13 41 (by decide) (by kernel_rfl) rfl rfl),
     step_pt rfl (.inr ⟨14, false, 42, rfl, by decide, by kernel_rfl, rfl, fun _ _ h => h⟩) Z8 8 rfl (by kernel_rfl) rfl rfl,
     step_by rfl (.inr ⟨14, false, 42, rfl, by decide, by kernel_rfl, rfl, fun _ _ h => h⟩) h1 1 rfl (by kernel_rfl) rfl rfl,
     step_to rfl (.inr ⟨14, false, 42, rfl, by decide, by kernel_rfl, rfl, fun _ _ h => h⟩) rfl cg12 (none_mul la) rfl (two_args (knows_in 15 43 (by decide) (by kernel_rfl) rfl rfl) (knows_in 16 44 (by decide) (by kernel_rfl) rfl rfl)),
     step_toT rfl (.inr ⟨14, false, 42, rfl, by decide, by kernel_rfl, rfl, fun _ _ h => h⟩) rfl cg9 hT none_on rfl (one_arg (knows_in 17 45 (by decide) (by kernel_rfl) rfl rfl)),
     step_pick rfl (.inl rfl) (b := false) rfl rfl (knows_in 14 42 (by decide) (by kernel_rfl) rfl rfl) (knows_in 18 46 (by decide) (by kernel_rfl) rfl rfl),
     step_mv rfl (.inl rfl) rfl rfl (knows_in 19 47 (by decide) (by kernel_rfl) rfl rfl),
     step_pt rfl (.inr ⟨20, false, 48, rfl, by decide, by kernel_rfl, rfl, fun _ _ h => h⟩) Z8 8 rfl (by kernel_rfl) rfl rfl,
     step_to rfl (.inr ⟨20, false, 48, rfl, by decide, by kernel_rfl, rfl, fun _ _ h => h⟩) rfl cg13 kng rfl (one_arg (knows_in 21 49 (by decide) (by kernel_rfl) rfl rfl)),
     step_toT rfl (.inr ⟨20, false, 48, rfl, by decide, by kernel_rfl, rfl, fun _ _ h => h⟩) rfl cg9 hT ong rfl (one_arg (knows_in 22 50 (by decide) (by kernel_rfl) rfl rfl)),
     step_pick rfl (.inl rfl) (b := false) rfl rfl (knows_in 20 48 (by decide) (by kernel_rfl) rfl rfl) (knows_in 23 51 (by decide) (by kernel_rfl) rfl rfl), trivial⟩ ?_
  intro val w9 hw hS hap hla
  have e28 : val 28 = (.agg (ints .i64 (zeros 64)).toArray) := hS 0 28 (by decide) rfl
  have e29 : val 29 = (.bool false) := hS 1 29 (by decide) rfl
  have e30 : val 30 = (.bool false) := hS 2 30 (by decide) rfl
  have e31 : val 31 = (.agg (ints .i64 (zeros 64)).toArray) := hS 3 31 (by decide) rfl
  have e32 : val 32 = (.agg (ints .u8 (zeros 32)).toArray) := hS 4 32 (by decide) rfl
  have e33 : val 33 = (.agg (ints .u8 (zeros 32)).toArray) := hS 5 33 (by decide) rfl
  have e34 : val 34 = (.bool false) := hS 6 34 (by decide) rfl
  have e35 : val 35 = (.bool false) := hS 7 35 (by decide) rfl
  have e36 : val 36 = (.bool false) := hS 8 36 (by decide) rfl
  have e37 : val 37 = (.agg (ints .i64 (zeros 64)).toArray) := hS 9 37 (by decide) rfl
  have e38 : val 38 = (.agg (ints .i64 (zeros 64)).toArray) := hS 10 38 (by decide) rfl
  have e39 : val 39 = (.agg (ints .i64 sz).toArray) := hS 11 39 (by decide) rfl
  have e40 : val 40 = (.bool false) := hS 12 40 (by decide) rfl
  have e41 : val 41 = (.bool false) := hS 13 41 (by decide) rfl
  have e42 : val 42 = (.bool false) := hS 14 42 (by decide) rfl
  have e43 : val 43 = (.agg (ints .i64 (zeros 64)).toArray) := hS 15 43 (by decide) rfl
  have e44 : val 44 = (.agg (ints .u8 a).toArray) := hS 16 44 (by decide) rfl
  have e45 : val 45 = (.agg (ints .i64 (zeros 64)).toArray) := hS 17 45 (by decide) rfl
  have e46 : val 46 = (.bool false) := hS 18 46 (by decide) rfl
  have e47 : val 47 = (.bool false) := hS 19 47 (by decide) rfl
  have e48 : val 48 = (.bool false) := hS 20 48 (by decide) rfl
  have e49 : val 49 = (.agg (ints .i64 (zeros 64)).toArray) := hS 21 49 (by decide) rfl
  have e50 : val 50 = (.agg (ints .i64 ng).toArray) := hS 22 50 (by decide) rfl
  have e51 : val 51 = (.bool false) := hS 23 51 (by decide) rfl
  have e52 : val 52 = (.bool false) := hS 24 52 (by decide) rfl
  simp only [putVals, List.foldl_cons, List.foldl_nil, List.drop_succ_cons, List.drop_zero, Act.put, List.setIfInBounds_toArray, List.set_cons_succ, List.set_cons_zero, e28, e29, e30, e31, e32, e33, e34, e35, e36, e37, e38, e39, e40, e41, e42, e43, e44, e45, e46, e47, e48, e49, e50, e51, e52]
  clear hS hap hla e28 e29 e30 e31 e32 e33 e34 e35 e36 e37 e38 e39 e40 e41 e42 e43 e44 e45 e46 e47 e48 e49 e50 e51 e52 
  replace hT := hT.next hw
  replace h1 := h1.next hw
  replace hB3 := hB3.next hw
  replace hB6 := hB6.next hw
  replace M7 := M7.below hw
  replace Z8 := Z8.next hw
  replace hW := hW.trans (Below.mono hw hW.size)
  clear hw
  go_upto_region 11 with (fail)
  have s9 := hW.size
  refine region_seq2 3 110 (fun _ => false) [Is (.slice A7 16 c7), IsN NT.PN, Is (.bool false)] [53, 54, 55] (by kernel_rfl) (by kernel_rfl) (Nat.le_of_eq rfl) (grows_cons (Is.grows _) (grows_cons (IsN.grows _) (grows_cons (Is.grows _) grows_nil)))
    ⟨step_mv rfl (.inl rfl) rfl rfl (knows_out 7 (by kernel_rfl) rfl),
     step_rn rfl (.inl rfl) rfl cg15 rfl (fun a w hw hf hd => ⟨#[], by simp, rf_p w⟩),
     step_atl rfl (.inl rfl) hge rfl rfl ((knows_in 0 53 (by decide) (by kernel_rfl) rfl rfl).r H7 M7) (knowsN_in 1 54 (by decide) (by kernel_rfl) rfl rfl), trivial⟩ ?_
  intro val w10 hw hS hap hla
  have e53 : val 53 = (.slice A7 16 c7) := hS 0 53 (by decide) rfl
  obtain ⟨A54, c54, y54, e54, H54, M54⟩ := hS 1 54 (by decide) rfl
  have e55 : val 55 = (.bool false) := hS 2 55 (by decide) rfl
  simp only [putVals, List.foldl_cons, List.foldl_nil, List.drop_succ_cons, List.drop_zero, Act.put, List.setIfInBounds_toArray, List.set_cons_succ, List.set_cons_zero, e53, e54, e55]
  clear hS hap hla e53 e54 e55 H54 M54
  replace hT := hT.next hw
  replace h1 := h1.next hw
  replace hB3 := hB3.next hw
  replace hB6 := hB6.next hw
  replace M7 := M7.below hw
  replace Z8 := Z8.next hw
  replace hW := hW.trans (Below.mono hw hW.size)
  clear hw
  go_upto_region 13 with (fail)
  replace H7 : Hid (Rp y7 b.val) := hid (by rw [hbv]; exact H7.out)
  have s10 := hW.size
  refine region_seq2 4 110 (fun _ => false) [Is (.slice A7 16 c7), Is (.slice A7 16 c7), IsN ((b * b : Fin NT.PN)).val, IsN ((b * b : Fin NT.PN)).val] [63, 64, 65, 9] (by kernel_rfl) (by kernel_rfl) (Nat.le_of_eq rfl) (grows_cons (Is.grows _) (grows_cons (Is.grows _) (grows_cons (IsN.grows _) (grows_cons (IsN.grows _) grows_nil))))
    ⟨step_mv rfl (.inl rfl) rfl rfl (knows_out 7 (by kernel_rfl) rfl),
     step_mv rfl (.inl rfl) rfl rfl (knows_out 7 (by kernel_rfl) rfl),
     step_rn rfl (.inl rfl) rfl cf23 rfl (rn2 ((knows_in 0 63 (by decide) (by kernel_rfl) rfl rfl).r H7 M7) ((knows_in 1 64 (by decide) (by kernel_rfl) rfl rfl).r H7 M7) (fun h1 h2 h3 h4 => rf_mul h1 h2 h3 h4)),
     step_copyN rfl (.inl rfl) 2 65 (.inr rfl) rfl (by decide) (by kernel_rfl) rfl rfl, trivial⟩ ?_
  intro val w11 hw hS hap hla
  have e63 : val 63 = (.slice A7 16 c7) := hS 0 63 (by decide) rfl
  have e64 : val 64 = (.slice A7 16 c7) := hS 1 64 (by decide) rfl
  obtain ⟨A65, c65, y65, e65, H65, M65⟩ := hS 2 65 (by decide) rfl
  obtain ⟨A9, c9, y9, e9, H9, M9⟩ := hS 3 9 (by decide) rfl
  simp only [putVals, List.foldl_cons, List.foldl_nil, List.drop_succ_cons, List.drop_zero, Act.put, List.setIfInBounds_toArray, List.set_cons_succ, List.set_cons_zero, e63, e64, e65, e9]
  clear hS hap hla e63 e64 e65 e9 H65 M65
  replace hT := hT.next hw
  replace h1 := h1.next hw
  replace hB3 := hB3.next hw
  replace hB6 := hB6.next hw
  replace M7 := M7.below hw
  replace Z8 := Z8.next hw
  replace hW := hW.trans (Below.mono hw hW.size)
  clear hw
  go_upto_region 14 with (fail)
  have s11 := hW.size
  refine region_seq2 11 110 (fun _ => false) [Is (.slice A9 16 c9), IsN ((1 : Fin NT.PN)).val, IsN (((b * b : Fin NT.PN) - (1 : Fin NT.PN) : Fin NT.PN)).val, IsN ((1 : Fin NT.PN)).val, IsN (dF).val, Is (.slice A9 16 c9), IsN ((dF * (b * b : Fin NT.PN) : Fin NT.PN)).val, IsN (((1 : Fin NT.PN) + (dF * (b * b : Fin NT.PN) : Fin NT.PN) : Fin NT.PN)).val, IsN ((iv ((1 : Fin NT.PN) + (dF * (b * b : Fin NT.PN) : Fin NT.PN) : Fin NT.PN))).val, IsN ((((b * b : Fin NT.PN) - (1 : Fin NT.PN) : Fin NT.PN) * (iv ((1 : Fin NT.PN) + (dF * (b * b : Fin NT.PN) : Fin NT.PN) : Fin NT.PN)) : Fin NT.PN)).val, IsN ((((b * b : Fin NT.PN) - (1 : Fin NT.PN) : Fin NT.PN) * (iv ((1 : Fin NT.PN) + (dF * (b * b : Fin NT.PN) : Fin NT.PN) : Fin NT.PN)) : Fin NT.PN)).val] [66, 67, 68, 69, 70, 71, 72, 73, 74, 75, 10] (by kernel_rfl) (by kernel_rfl) (Nat.le_of_eq rfl) (grows_cons (Is.grows _) (grows_cons (IsN.grows _) (grows_cons (IsN.grows _) (grows_cons (IsN.grows _) (grows_cons (IsN.grows _) (grows_cons (Is.grows _) (grows_cons (IsN.grows _) (grows_cons (IsN.grows _) (grows_cons (IsN.grows _) (grows_cons (IsN.grows _) (grows_cons (IsN.grows _) grows_nil)))))))))))
    ⟨step_mv rfl (.inl rfl) rfl rfl (knows_out 9 (by kernel_rfl) rfl),
     step_rn rfl (.inl rfl) rfl cf17 rfl (fun a w hw hf hd => ⟨_, rfl, by rw [map1]; exact rf_small 1 (by decide) w⟩),
     step_rn rfl (.inl rfl) rfl cf21 rfl (rn2 ((knows_in 0 66 (by decide) (by kernel_rfl) rfl rfl).r H9 M9) (knowsN_in 1 67 (by decide) (by kernel_rfl) rfl rfl) (fun h1 h2 h3 h4 => rf_sub h1 h2 h3 h4)),
     step_rn rfl (.inl rfl) rfl cf17 rfl (fun a w hw hf hd => ⟨_, rfl, by rw [map1]; exact rf_small 1 (by decide) w⟩),
     step_rn rfl (.inl rfl) rfl cg21 rfl (fun a w hw hf hd => ⟨#[], by simp, rf_d w⟩),
     step_mv rfl (.inl rfl) rfl rfl (knows_out 9 (by kernel_rfl) rfl),
     step_rn rfl (.inl rfl) rfl cf23 rfl (rn2 (knowsN_in 4 70 (by decide) (by kernel_rfl) rfl rfl) ((knows_in 5 71 (by decide) (by kernel_rfl) rfl rfl).r H9 M9) (fun h1 h2 h3 h4 => rf_mul h1 h2 h3 h4)),
     step_rn rfl (.inl rfl) rfl cf19 rfl (rn2 (knowsN_in 3 69 (by decide) (by kernel_rfl) rfl rfl) (knowsN_in 6 72 (by decide) (by kernel_rfl) rfl rfl) (fun h1 h2 h3 h4 => rf_add h1 h2 h3 h4)),
     step_rn rfl (.inl rfl) rfl cg19 rfl (rn1 (knowsN_in 7 73 (by decide) (by kernel_rfl) rfl rfl) (fun h1 h2 => rf_inv h1 h2)),
     step_rn rfl (.inl rfl) rfl cf23 rfl (rn2 (knowsN_in 2 68 (by decide) (by kernel_rfl) rfl rfl) (knowsN_in 8 74 (by decide) (by kernel_rfl) rfl rfl) (fun h1 h2 h3 h4 => rf_mul h1 h2 h3 h4)),
     step_copyN rfl (.inl rfl) 9 75 (.inr rfl) rfl (by decide) (by kernel_rfl) rfl rfl, trivial⟩ ?_
  intro val w12 hw hS hap hla
  have e66 : val 66 = (.slice A9 16 c9) := hS 0 66 (by decide) rfl
  obtain ⟨A67, c67, y67, e67, H67, M67⟩ := hS 1 67 (by decide) rfl
  obtain ⟨A68, c68, y68, e68, H68, M68⟩ := hS 2 68 (by decide) rfl
  obtain ⟨A69, c69, y69, e69, H69, M69⟩ := hS 3 69 (by decide) rfl
  obtain ⟨A70, c70, y70, e70, H70, M70⟩ := hS 4 70 (by decide) rfl
  have e71 : val 71 = (.slice A9 16 c9) := hS 5 71 (by decide) rfl
  obtain ⟨A72, c72, y72, e72, H72, M72⟩ := hS 6 72 (by decide) rfl
  obtain ⟨A73, c73, y73, e73, H73, M73⟩ := hS 7 73 (by decide) rfl
  obtain ⟨A74, c74, y74, e74, H74, M74⟩ := hS 8 74 (by decide) rfl
  obtain ⟨A75, c75, y75, e75, H75, M75⟩ := hS 9 75 (by decide) rfl
  obtain ⟨A10, c10, y10, e10, H10, M10⟩ := hS 10 10 (by decide) rfl
  simp only [putVals, List.foldl_cons, List.foldl_nil, List.drop_succ_cons, List.drop_zero, Act.put, List.setIfInBounds_toArray, List.set_cons_succ, List.set_cons_zero, e66, e67, e68, e69, e70, e71, e72, e73, e74, e75, e10]
  clear hS hap hla e66 e67 e68 e69 e70 e71 e72 e73 e74 e75 e10 H67 M67 H68 M68 H69 M69 H70 M70 H72 M72 H73 M73 H74 M74 H75 M75
  replace hT := hT.next hw
  replace h1 := h1.next hw
  replace hB3 := hB3.next hw
  replace hB6 := hB6.next hw
  replace M7 := M7.below hw
  replace Z8 := Z8.next hw
  replace M9 := M9.below hw
  replace hW := hW.trans (Below.mono hw hW.size)
  clear hw
  go_upto_region 15 with (fail)
  have s12 := hW.size
  refine region_seq2 10 110 (fun _ => false) [Is (.slice A10 16 c10), Is (.bool true), Is (.bool false), Is (.bool false), Is (.slice A10 16 c10), Is (.bool true), Is (.bool true), Is (.bool true), Is (.bool true), Is (.bool true)] [76, 77, 78, 79, 80, 81, 82, 83, 84, 85] (by kernel_rfl) (by kernel_rfl) (Nat.le_of_eq rfl) (grows_cons (Is.grows _) (grows_cons (Is.grows _) (grows_cons (Is.grows _) (grows_cons (Is.grows _) (grows_cons (Is.grows _) (grows_cons (Is.grows _) (grows_cons (Is.grows _) (grows_cons (Is.grows _) (grows_cons (Is.grows _) (grows_cons (Is.grows _) grows_nil))))))))))
    ⟨step_mv rfl (.inl rfl) rfl rfl (knows_out 10 (by kernel_rfl) rfl),
     step_sqr (m := (((b * b : Fin NT.PN) - (1 : Fin NT.PN) : Fin NT.PN) * (iv ((1 : Fin NT.PN) + (dF * (b * b : Fin NT.PN) : Fin NT.PN) : Fin NT.PN)) : Fin NT.PN)) rfl (.inl rfl) hsq rfl rfl ((knows_in 0 76 (by decide) (by kernel_rfl) rfl rfl).r H10 M10),
     step_not rfl (.inl rfl) (b := true) rfl rfl (knows_in 1 77 (by decide) (by kernel_rfl) rfl rfl),
     step_mv rfl (.inl rfl) rfl rfl (knows_in 2 78 (by decide) (by kernel_rfl) rfl rfl),
     step_mv rfl (.inr ⟨3, false, 79, rfl, by decide, by kernel_rfl, rfl, fun _ _ h => h⟩) rfl rfl (knows_out 10 (by kernel_rfl) rfl),
     step_zer (m := (((b * b : Fin NT.PN) - (1 : Fin NT.PN) : Fin NT.PN) * (iv ((1 : Fin NT.PN) + (dF * (b * b : Fin NT.PN) : Fin NT.PN) : Fin NT.PN)) : Fin NT.PN)) rfl (.inr ⟨3, false, 79, rfl, by decide, by kernel_rfl, rfl, fun _ _ h => h⟩) hze rfl rfl ((knows_in 4 80 (by decide) (by kernel_rfl) rfl rfl).r H10 M10),
     step_mv rfl (.inr ⟨3, false, 79, rfl, by decide, by kernel_rfl, rfl, fun _ _ h => h⟩) rfl rfl (knows_in 5 81 (by decide) (by kernel_rfl) rfl rfl),
     step_mv rfl (.inr ⟨6, true, 82, rfl, by decide, by kernel_rfl, rfl, fun _ _ h => h⟩) rfl rfl (knows_out 5 (by kernel_rfl) rfl),
     step_pick rfl (.inr ⟨3, false, 79, rfl, by decide, by kernel_rfl, rfl, fun _ _ h => h⟩) (b := true) rfl rfl (knows_in 6 82 (by decide) (by kernel_rfl) rfl rfl) (knows_in 7 83 (by decide) (by kernel_rfl) rfl rfl),
     step_pick rfl (.inl rfl) (b := false) rfl rfl (knows_in 3 79 (by decide) (by kernel_rfl) rfl rfl) (knows_in 8 84 (by decide) (by kernel_rfl) rfl rfl), trivial⟩ ?_
  intro val w13 hw hS hap hla
  have e76 : val 76 = (.slice A10 16 c10) := hS 0 76 (by decide) rfl
  have e77 : val 77 = (.bool true) := hS 1 77 (by decide) rfl
  have e78 : val 78 = (.bool false) := hS 2 78 (by decide) rfl
  have e79 : val 79 = (.bool false) := hS 3 79 (by decide) rfl
  have e80 : val 80 = (.slice A10 16 c10) := hS 4 80 (by decide) rfl
  have e81 : val 81 = (.bool true) := hS 5 81 (by decide) rfl
  have e82 : val 82 = (.bool true) := hS 6 82 (by decide) rfl
  have e83 : val 83 = (.bool true) := hS 7 83 (by decide) rfl
  have e84 : val 84 = (.bool true) := hS 8 84 (by decide) rfl
  have e85 : val 85 = (.bool true) := hS 9 85 (by decide) rfl
  simp only [putVals, List.foldl_cons, List.foldl_nil, List.drop_succ_cons, List.drop_zero, Act.put, List.setIfInBounds_toArray, List.set_cons_succ, List.set_cons_zero, e76, e77, e78, e79, e80, e81, e82, e83, e84, e85]
  clear hS hap hla e76 e77 e78 e79 e80 e81 e82 e83 e84 e85 
  replace hT := hT.next hw
  replace h1 := h1.next hw
  replace hB3 := hB3.next hw
  replace hB6 := hB6.next hw
  replace M7 := M7.below hw
  replace Z8 := Z8.next hw
  replace M9 := M9.below hw
  replace M10 := M10.below hw
  replace hW := hW.trans (Below.mono hw hW.size)
  clear hw
  go_upto_region 16 with (fail)
  have s13 := hW.size
  refine region_seq2 8 110 (fun _ => false) [Is (.int .i64 21), Is (.bool true), Is (.bool true), Is (.agg (ints .i64 (zeros 64)).toArray), Is (.bool false), Is (.bool true), Is (.bool true), Is (.bool true)] [86, 87, 88, 89, 90, 91, 92, 2] (by kernel_rfl) (by kernel_rfl) (Nat.le_of_eq rfl) (grows_cons (Is.grows _) (grows_cons (Is.grows _) (grows_cons (Is.grows _) (grows_cons (Is.grows _) (grows_cons (Is.grows _) (grows_cons (Is.grows _) (grows_cons (Is.grows _) (grows_cons (Is.grows _) grows_nil))))))))
    ⟨step_mv rfl (.inl rfl) rfl rfl (knows_out 4 (by kernel_rfl) rfl),
     step_eqE rfl (.inl rfl) rfl rfl rfl (knows_in 0 86 (by decide) (by kernel_rfl) rfl rfl),
     step_mv rfl (.inl rfl) rfl rfl (knows_in 1 87 (by decide) (by kernel_rfl) rfl rfl),
     step_pt rfl (.inr ⟨2, true, 88, rfl, by decide, by kernel_rfl, rfl, fun _ _ h => h⟩) hB3 3 rfl (by kernel_rfl) rfl rfl,
     step_toT rfl (.inr ⟨2, true, 88, rfl, by decide, by kernel_rfl, rfl, fun _ _ h => h⟩) rfl cg9 hT none_on rfl (one_arg (knows_in 3 89 (by decide) (by kernel_rfl) rfl rfl)),
     step_not rfl (.inr ⟨2, true, 88, rfl, by decide, by kernel_rfl, rfl, fun _ _ h => h⟩) (b := false) rfl rfl (knows_in 4 90 (by decide) (by kernel_rfl) rfl rfl),
     step_pick rfl (.inl rfl) (b := true) rfl rfl (knows_in 2 88 (by decide) (by kernel_rfl) rfl rfl) (knows_in 5 91 (by decide) (by kernel_rfl) rfl rfl),
     step_asg rfl (.inl rfl) rfl rfl (knows_in 6 92 (by decide) (by kernel_rfl) rfl rfl), trivial⟩ ?_
  intro val w14 hw hS hap hla
  have e86 : val 86 = (.int .i64 21) := hS 0 86 (by decide) rfl
  have e87 : val 87 = (.bool true) := hS 1 87 (by decide) rfl
  have e88 : val 88 = (.bool true) := hS 2 88 (by decide) rfl
  have e89 : val 89 = (.agg (ints .i64 (zeros 64)).toArray) := hS 3 89 (by decide) rfl
  have e90 : val 90 = (.bool false) := hS 4 90 (by decide) rfl
  have e91 : val 91 = (.bool true) := hS 5 91 (by decide) rfl
  have e92 : val 92 = (.bool true) := hS 6 92 (by decide) rfl
  have e2 : val 2 = (.bool true) := hS 7 2 (by decide) rfl
  simp only [putVals, List.foldl_cons, List.foldl_nil, List.drop_succ_cons, List.drop_zero, Act.put, List.setIfInBounds_toArray, List.set_cons_succ, List.set_cons_zero, e86, e87, e88, e89, e90, e91, e92, e2]
  clear hS hap hla e86 e87 e88 e89 e90 e91 e92 e2 
  replace hT := hT.next hw
  replace h1 := h1.next hw
  replace hB3 := hB3.next hw
  replace hB6 := hB6.next hw
  replace M7 := M7.below hw
  replace Z8 := Z8.next hw
  replace M9 := M9.below hw
  replace M10 := M10.below hw
  replace hW := hW.trans (Below.mono hw hW.size)
  clear hw
  go_wp2_with (fail)
  go_ret
  exact ⟨rfl, hW⟩
set_option maxRecDepth 4000 in
set_option maxHeartbeats 16000000 in
theorem of_Z_e {a : List Int} (la : a.length = 32) {x x' : Int} (hx : a[31]? = some x) (hx0 : 0 ≤ x ∧ x < 256) (hod : ¬ 128 ≤ x) (hx' : x % 128 = x') {ys : List Int} (hys : a.set 31 x' = ys) (ly : ys.length = 32) (yys : Byt ys) (hge : decide (NT.PN ≤ bn ys) = false) {b : Fin NT.PN} (hbv : b.val = bn ys) (hsq : isSq ((b * b - 1) * iv (1 + dF * (b * b))).val = true) (hze : decide ((b * b - 1) * iv (1 + dF * (b * b)) = 0) = true) {off : List Int} {P : Edw.Pt NT.PN} (kof : CallsT 7 #[.agg (ints .u8 a).toArray] (.tuple #[.agg (ints .i64 off).toArray, .int .i64 0])) (hoff : PR off P) (hby : bytesP P = a) : CallsT 3 #[.agg (ints .u8 a).toArray] (.bool true) := by
  have ooff := hoff.on
  have yoff := hoff.bytes
  rw [hby] at yoff
  have eoff := hoff.same hoff
  obtain ⟨cc, hcc, hrr, hon⟩ := hoff
  have hoff : PR off P := ⟨cc, hcc, hrr, hon⟩
  obtain ⟨ksz, hsz⟩ := sumL_spec pn_none hcc
  have osz := c_on_no hsz (no_add dF _)
  have lsz := hsz.len
  obtain ⟨sz, hsze⟩ : ∃ l, sumL (zeros 64) off = l := ⟨_, rfl⟩
  rw [hsze] at ksz osz lsz
  clear hsze hsz
  obtain ⟨ng, kng, hng⟩ := c_pneg pn_none
  have ong := c_on_no hng neg_zero_z
  have lng := hng.len

  intro W hT
  have h1 := By.new W a la
  have hW := below_new W (.cells (ints .u8 a).toArray 22)
  have hT0 := hT
  replace hT := (hT.alloc (.cells (ints .u8 a).toArray 22))
  go_enter Tryd.func3, Tryd.ntmps3
  go_upto_region 1 with (fail)
  generalize W.alloc (.cells (ints .u8 a).toArray 22) = w0 at *
  have s0 := hW.size
  refine region_seq2 2 110 (fun _ => false) [Is (.bool true), Is (.bool false)] [11, 12] (by kernel_rfl) (by kernel_rfl) (Nat.le_of_eq rfl) (grows_cons (Is.grows _) (grows_cons (Is.grows _) grows_nil))
    ⟨step_toT rfl (.inl rfl) rfl cg6 hT awake_any rfl (no_args),
     step_not rfl (.inl rfl) (b := true) rfl rfl (knows_in 0 11 (by decide) (by kernel_rfl) rfl rfl), trivial⟩ ?_
  intro val w1 hw hS hap hla
  have e11 : val 11 = (.bool true) := hS 0 11 (by decide) rfl
  have e12 : val 12 = (.bool false) := hS 1 12 (by decide) rfl
  simp only [putVals, List.foldl_cons, List.foldl_nil, List.drop_succ_cons, List.drop_zero, Act.put, List.setIfInBounds_toArray, List.set_cons_succ, List.set_cons_zero, e11, e12]
  clear hS hap hla e11 e12 
  replace hT := hT.next hw
  replace h1 := h1.next hw
  replace hW := hW.trans (Below.mono hw hW.size)
  clear hw
  go_upto_region 3 with (fail)
  have lt1 := h1.lt
  have s1 := hW.size
  refine region_seq2 6 110 (fun i => i == 5) [Is (.agg (ints .u8 a).toArray), Is (.tuple #[(.agg (ints .i64 off).toArray), (.int .i64 0)]), Is (.tuple #[(.agg (ints .i64 off).toArray), (.int .i64 0)]), Is (.agg (ints .i64 off).toArray), Is (.int .i64 0), IsZ4 w1.heap.size] [14, 15, 13, 16, 17, 3] (by kernel_rfl) (by kernel_rfl) (Nat.le_of_eq rfl) (grows_cons (Is.grows _) (grows_cons (Is.grows _) (grows_cons (Is.grows _) (grows_cons (Is.grows _) (grows_cons (Is.grows _) (grows_cons (IsZ4.grows _) grows_nil))))))
    ⟨step_by rfl (.inl rfl) h1 1 rfl (by kernel_rfl) rfl rfl,
     step_toT rfl (.inl rfl) rfl cg7 hT kof rfl (one_arg (knows_in 0 14 (by decide) (by kernel_rfl) rfl rfl)),
     step_mv rfl (.inl rfl) rfl rfl (knows_in 1 15 (by decide) (by kernel_rfl) rfl rfl),
     step_fst rfl (.inl rfl) rfl rfl (knows_in 2 13 (by decide) (by kernel_rfl) rfl rfl),
     step_snd rfl (.inl rfl) rfl rfl (knows_in 2 13 (by decide) (by kernel_rfl) rfl rfl),
     step_alloc28 (.inl rfl) rfl rfl, trivial⟩ ?_
  intro val w2 hw hS hap hla
  have e14 : val 14 = (.agg (ints .u8 a).toArray) := hS 0 14 (by decide) rfl
  have e15 : val 15 = (.tuple #[(.agg (ints .i64 off).toArray), (.int .i64 0)]) := hS 1 15 (by decide) rfl
  have e13 : val 13 = (.tuple #[(.agg (ints .i64 off).toArray), (.int .i64 0)]) := hS 2 13 (by decide) rfl
  have e16 : val 16 = (.agg (ints .i64 off).toArray) := hS 3 16 (by decide) rfl
  have e17 : val 17 = (.int .i64 0) := hS 4 17 (by decide) rfl
  obtain ⟨b3, e3, L3, Z3⟩ := hS 5 3 (by decide) rfl
  simp only [putVals, List.foldl_cons, List.foldl_nil, List.drop_succ_cons, List.drop_zero, Act.put, List.setIfInBounds_toArray, List.set_cons_succ, List.set_cons_zero, e14, e15, e13, e16, e17, e3]
  clear hS hap hla e14 e15 e13 e16 e17 e3 
  have LL3 := hid hoff.len
  have R3 := Z3.room (l' := off) hoff.len
  have hB3 := Z3.stored (l' := off) hoff.len
  replace hT := hT.next (Below.setCells hw L3 0 (ints .i64 off).toArray.toList)
  replace h1 := h1.next (Below.setCells hw L3 0 (ints .i64 off).toArray.toList)
  replace hW := hW.trans (Below.mono (Below.setCells hw L3 0 (ints .i64 off).toArray.toList) hW.size)
  with_reducible refine wpList_store_mid (op := ⟨none, .store 28 (.tmp 3) (.tmp 16), _, _, _, _⟩) rfl 28 (.tmp 3) (.tmp 16) rfl b3 0 (ints .i64 off).toArray rfl rfl R3 (a28 LL3.out) (ints_all _ _) ?_
  generalize (w2.setCells b3 0 (ints .i64 off).toArray.toList) = w3 at *
  clear hw R3 LL3 Z3 
  obtain ⟨x0, cx, _, HX⟩ := h1.1.spot (i := 31) (by rw [la]; omega)
  rw [Nat.zero_add] at cx
  obtain rfl : x0 = x := by
    have h := HX.out
    rw [hx] at h
    injection h with h
    exact h.symm
  clear HX
  go_upto_region 5 with (fail)
  clear cx
  have n31 : b3 ≠ W.heap.size := by omega
  clear lt1
  have lt3 := hB3.lt
  have lt1 := h1.lt
  have s3 := hW.size
  refine region_seq2 2 110 (fun i => i == 1) [Is (.agg (ints .u8 a).toArray), IsZ22 w3.heap.size] [21, 6] (by kernel_rfl) (by kernel_rfl) (Nat.le_of_eq rfl) (grows_cons (Is.grows _) (grows_cons (IsZ22.grows _) grows_nil))
    ⟨step_by rfl (.inl rfl) h1 1 rfl (by kernel_rfl) rfl rfl,
     step_alloc22 (.inl rfl) rfl rfl, trivial⟩ ?_
  intro val w4 hw hS hap hla
  have e21 : val 21 = (.agg (ints .u8 a).toArray) := hS 0 21 (by decide) rfl
  obtain ⟨b6, e6, L6, Z6⟩ := hS 1 6 (by decide) rfl
  simp only [putVals, List.foldl_cons, List.foldl_nil, List.drop_succ_cons, List.drop_zero, Act.put, List.setIfInBounds_toArray, List.set_cons_succ, List.set_cons_zero, e21, e6]
  clear hS hap hla e21 e6 
  have LL6 := hid la
  have R6 := Z6.room (l' := a) la
  have hB6 := Z6.stored (l' := a) la
  replace hT := hT.next (Below.setCells hw L6 0 (ints .u8 a).toArray.toList)
  replace h1 := h1.next (Below.setCells hw L6 0 (ints .u8 a).toArray.toList)
  replace hB3 := hB3.next (Below.setCells hw L6 0 (ints .u8 a).toArray.toList)
  replace hW := hW.trans (Below.mono (Below.setCells hw L6 0 (ints .u8 a).toArray.toList) hW.size)
  with_reducible refine wpList_store_mid (op := ⟨none, .store 22 (.tmp 6) (.tmp 21), _, _, _, _⟩) rfl 22 (.tmp 6) (.tmp 21) rfl b6 0 (ints .u8 a).toArray rfl rfl R6 (a22 LL6.out) (ints_all _ _) ?_
  generalize (w4.setCells b6 0 (ints .u8 a).toArray.toList) = w5 at *
  clear hw R6 LL6 Z6 
  have n63 : b6 ≠ b3 := by omega
  have n61 : b6 ≠ W.heap.size := by omega
  obtain ⟨x2, cx, fx, HX⟩ := hB6.1.spot (i := 31) (by rw [la]; omega)
  rw [Nat.zero_add] at cx fx
  obtain rfl : x0 = x2 := by
    have h := HX.out
    rw [hx] at h
    injection h
  have hD1 := hB6.1.set 31 x'
  rw [Nat.zero_add, hys] at hD1
  have h6b : By (w5.setCell ⟨b6, 31, none⟩ (.int .u8 x')) b6 ys := ⟨hD1, ly⟩
  have h1b : By (w5.setCell ⟨b6, 31, none⟩ (.int .u8 x')) W.heap.size a := ⟨h1.1.apart (p := ⟨b6, 31, none⟩) (.int .u8 x') (.inl n61), la⟩
  have h3b : B4 (w5.setCell ⟨b6, 31, none⟩ (.int .u8 x')) b3 off := ⟨hB3.1.apart (p := ⟨b6, 31, none⟩) (.int .u8 x') (.inl n63), hB3.2⟩
  have hWb := hW.setCell (p := ⟨b6, 31, none⟩) (by show W.heap.size ≤ b6; omega) (.int .u8 x')
  have hTb := hT0.next hWb
  have htm : Int.tmod x0 128 = x' := by rw [Int.tmod_eq_emod_of_nonneg hx0.1]; exact hx'
  have hx00 := hx0.1
  have hxw : IntKind.u8.wrap x' = x' := wrap_u8 _ (by omega)
  clear h1 hB3 hB6 hW hT HX hD1 hys hx
  go_upto_region 7 with (fail)
  generalize (w5.setCell ⟨b6, 31, none⟩ (.int .u8 x')) = w6 at *
  have h1 := h1b
  have hB3 := h3b
  have hB6 := h6b
  have hW := hWb
  have hT := hTb
  clear h1b h3b h6b hWb hTb cx fx htm hxw n63 n61 n31 lt3 lt1
  have s6 := hW.size
  refine region_seq2 3 110 (fun _ => false) [Is (.agg (ints .u8 ys).toArray), IsN (bn ys), IsN (bn ys)] [26, 27, 7] (by kernel_rfl) (by kernel_rfl) (Nat.le_of_eq rfl) (grows_cons (Is.grows _) (grows_cons (IsN.grows _) (grows_cons (IsN.grows _) grows_nil)))
    ⟨step_by rfl (.inl rfl) hB6 6 rfl (by kernel_rfl) rfl rfl,
     step_dgs rfl (.inl rfl) ly yys rfl rfl (knows_in 0 26 (by decide) (by kernel_rfl) rfl rfl),
     step_copyN rfl (.inl rfl) 1 27 (.inr rfl) rfl (by decide) (by kernel_rfl) rfl rfl, trivial⟩ ?_
  intro val w7 hw hS hap hla
  have e26 : val 26 = (.agg (ints .u8 ys).toArray) := hS 0 26 (by decide) rfl
  obtain ⟨A27, c27, y27, e27, H27, M27⟩ := hS 1 27 (by decide) rfl
  obtain ⟨A7, c7, y7, e7, H7, M7⟩ := hS 2 7 (by decide) rfl
  simp only [putVals, List.foldl_cons, List.foldl_nil, List.drop_succ_cons, List.drop_zero, Act.put, List.setIfInBounds_toArray, List.set_cons_succ, List.set_cons_zero, e26, e27, e7]
  clear hS hap hla e26 e27 e7 H27 M27
  replace hT := hT.next hw
  replace h1 := h1.next hw
  replace hB3 := hB3.next hw
  replace hB6 := hB6.next hw
  replace hW := hW.trans (Below.mono hw hW.size)
  clear hw
  go_upto_region 8 with (fail)
  have s7 := hW.size
  refine region_seq2 1 110 (fun i => i == 0) [IsZ4 w7.heap.size] [8] (by kernel_rfl) (by kernel_rfl) (Nat.le_of_eq rfl) (grows_cons (IsZ4.grows _) grows_nil)
    ⟨step_alloc28 (.inl rfl) rfl rfl, trivial⟩ ?_
  intro val w8 hw hS hap hla
  obtain ⟨b8, e8, L8, Z8⟩ := hS 0 8 (by decide) rfl
  simp only [putVals, List.foldl_cons, List.foldl_nil, List.drop_succ_cons, List.drop_zero, Act.put, List.setIfInBounds_toArray, List.set_cons_succ, List.set_cons_zero, e8]
  clear hS hap hla e8 
  replace hT := hT.next hw
  replace h1 := h1.next hw
  replace hB3 := hB3.next hw
  replace hB6 := hB6.next hw
  replace M7 := M7.below hw
  replace hW := hW.trans (Below.mono hw hW.size)
  clear hw
  go_upto_region 9 with (fail)
  have s8 := hW.size
  refine region_seq2 25 110 (fun _ => false) [Is (.agg (ints .i64 (zeros 64)).toArray), Is (.bool false), Is (.bool false), Is (.agg (ints .i64 (zeros 64)).toArray), Is (.agg (ints .u8 (zeros 32)).toArray), Is (.agg (ints .u8 (zeros 32)).toArray), Is (.bool false), Is (.bool false), Is (.bool false), Is (.agg (ints .i64 (zeros 64)).toArray), Is (.agg (ints .i64 off).toArray), Is (.agg (ints .i64 sz).toArray), Is (.bool false), Is (.bool false), Is (.bool false), Is (.agg (ints .i64 (zeros 64)).toArray), Is (.agg (ints .u8 a).toArray), Is (.agg (ints .i64 (zeros 64)).toArray), Is (.bool false), Is (.bool false), Is (.bool false), Is (.agg (ints .i64 (zeros 64)).toArray), Is (.agg (ints .i64 ng).toArray), Is (.bool false), Is (.bool false)] [28, 29, 30, 31, 32, 33, 34, 35, 36, 37, 38, 39, 40, 41, 42, 43, 44, 45, 46, 47, 48, 49, 50, 51, 52] (by kernel_rfl) (by kernel_rfl) (Nat.le_of_eq rfl) (grows_cons (Is.grows _) (grows_cons (Is.grows _) (grows_cons (Is.grows _) (grows_cons (Is.grows _) (grows_cons (Is.grows _) (grows_cons (Is.grows _) (grows_cons (Is.grows _) (grows_cons (Is.grows _) (grows_cons (Is.grows _) (grows_cons (Is.grows _) (grows_cons (Is.grows _) (grows_cons (Is.grows _) (grows_cons (Is.grows _) (grows_cons (Is.grows _) (grows_cons (Is.grows _) (grows_cons (Is.grows _) (grows_cons (Is.grows _) (grows_cons (Is.grows _) (grows_cons (Is.grows _) (grows_cons (Is.grows _) (grows_cons (Is.grows _) (grows_cons (Is.grows _) (grows_cons (Is.grows _) (grows_cons (Is.grows _) (grows_cons (Is.grows _) grows_nil)))))))))))))))))))))))))
    ⟨step_pt rfl (.inl rfl) Z8 8 rfl (by kernel_rfl) rfl rfl,
     step_toT rfl (.inl rfl) rfl cg9 hT none_on rfl (one_arg (knows_in 0 28 (by decide) (by kernel_rfl) rfl rfl)),
     step_mv rfl (.inl rfl) rfl rfl (knows_in 1 29 (by decide) (by kernel_rfl) rfl rfl),
     step_pt rfl (.inr ⟨2, false, 30, rfl, by decide, by kernel_rfl, rfl, fun _ _ h => h⟩) Z8 8 rfl (by kernel_rfl) rfl rfl,
     step_to rfl (.inr ⟨2, false, 30, rfl, by decide, by kernel_rfl, rfl, fun _ _ h => h⟩) rfl cg10 none_bytes rfl (one_arg (knows_in 3 31 (by decide) (by kernel_rfl) rfl rfl)),
     step_noneB rfl (.inr ⟨2, false, 30, rfl, by decide, by kernel_rfl, rfl, fun _ _ h => h⟩) rfl rfl,
     step_nes rfl (.inr ⟨2, false, 30, rfl, by decide, by kernel_rfl, rfl, fun _ _ h => h⟩) rfl (zeros_len 32) rfl (knows_in 4 32 (by decide) (by kernel_rfl) rfl rfl) (knows_in 5 33 (by decide) (by kernel_rfl) rfl rfl),
     step_pick rfl (.inl rfl) (b := false) rfl rfl (knows_in 2 30 (by decide) (by kernel_rfl) rfl rfl) (knows_in 6 34 (by decide) (by kernel_rfl) rfl rfl),
     step_mv rfl (.inl rfl) rfl rfl (knows_in 7 35 (by decide) (by kernel_rfl) rfl rfl),
     step_pt rfl (.inr ⟨8, false, 36, rfl, by decide, by kernel_rfl, rfl, fun _ _ h => h⟩) Z8 8 rfl (by kernel_rfl) rfl rfl,
     step_pt rfl (.inr ⟨8, false, 36, rfl, by decide, by kernel_rfl, rfl, fun _ _ h => h⟩) hB3 3 rfl (by kernel_rfl) rfl rfl,
     step_toT rfl (.inr ⟨8, false, 36, rfl, by decide, by kernel_rfl, rfl, fun _ _ h => h⟩) rfl cg11 hT ksz rfl (two_args (knows_in 9 37 (by decide) (by kernel_rfl) rfl rfl) (knows_in 10 38 (by decide) (by kernel_rfl) rfl rfl)),
     step_toT rfl (.inr ⟨8, false, 36, rfl, by decide, by kernel_rfl, rfl, fun _ _ h => h⟩) rfl cg9 hT osz rfl (one_arg (knows_in 11 39 (by decide) (by kernel_rfl) rfl rfl)),
     step_pick rfl (.inl rfl) (b := false) rfl rfl (knows_in 8 36 (by decide) (by kernel_rfl) rfl rfl) (knows_in 12 40 (by decide) (by kernel_rfl) rfl rfl),
     step_mv rfl (.inl rfl) rfl rfl (knows_in 13 41 (by decide) (by kernel_rfl) rfl rfl),
     step_pt rfl (.inr ⟨14, false, 42, rfl, by decide, by kernel_rfl, rfl, fun _ _ h => h⟩) Z8 8 rfl (by kernel_rfl) rfl rfl,
     step_by rfl (.inr ⟨14, false, 42, rfl, by decide, by kernel_rfl, rfl, fun _ _ h => h⟩) h1 1 rfl (by kernel_rfl) rfl rfl,
     step_to rfl (.inr ⟨14, false, 42, rfl, by decide, by kernel_rfl, rfl, fun _ _ h => h⟩) rfl cg12 (none_mul la) rfl (two_args (knows_in 15 43 (by decide) (by kernel_rfl) rfl rfl) (knows_in 16 44 (by decide) (by kernel_rfl) rfl rfl)),
     step_toT rfl (.inr ⟨14, false, 42, rfl, by decide, by kernel_rfl, rfl, fun _ _ h => h⟩) rfl cg9 hT none_on rfl (one_arg (knows_in 17 45 (by decide) (by kernel_rfl) rfl rfl)),
     step_pick rfl (.inl rfl) (b := false) rfl rfl (knows_in 14 42 (by decide) (by kernel_rfl) rfl rfl) (knows_in 18 46 (by decide) (by kernel_rfl) rfl rfl),
     step_mv rfl (.inl rfl) rfl rfl (knows_in 19 47 (by decide) (by kernel_rfl) rfl rfl),
     step_pt rfl (.inr ⟨20, false, 48, rfl, by decide, by kernel_rfl, rfl, fun _ _ h => h⟩) Z8 8 rfl (by kernel_rfl) rfl rfl,
     step_to rfl (.inr ⟨20, false, 48, rfl, by decide, by kernel_rfl, rfl, fun _ _ h => h⟩) rfl cg13 kng rfl (one_arg (knows_in 21 49 (by decide) (by kernel_rfl) rfl rfl)),
     step_toT rfl (.inr ⟨20, false, 48, rfl, by decide, by kernel_rfl, rfl, fun _ _ h => h⟩) rfl cg9 hT ong rfl (one_arg (knows_in 22 50 (by decide) (by kernel_rfl) rfl rfl)),
     step_pick rfl (.inl rfl) (b := false) rfl rfl (knows_in 20 48 (by decide) (by kernel_rfl) rfl rfl) (knows_in 23 51 (by decide) (by kernel_rfl) rfl rfl), trivial⟩ ?_
  intro val w9 hw hS hap hla
  have e28 : val 28 = (.agg (ints .i64 (zeros 64)).toArray) := hS 0 28 (by decide) rfl
  have e29 : val 29 = (.bool false) := hS 1 29 (by decide) rfl
  have e30 : val 30 = (.bool false) := hS 2 30 (by decide) rfl
  have e31 : val 31 = (.agg (ints .i64 (zeros 64)).toArray) := hS 3 31 (by decide) rfl
  have e32 : val 32 = (.agg (ints .u8 (zeros 32)).toArray) := hS 4 32 (by decide) rfl
  have e33 : val 33 = (.agg (ints .u8 (zeros 32)).toArray) := hS 5 33 (by decide) rfl
  have e34 : val 34 = (.bool false) := hS 6 34 (by decide) rfl
  have e35 : val 35 = (.bool false) := hS 7 35 (by decide) rfl
  have e36 : val 36 = (.bool false) := hS 8 36 (by decide) rfl
  have e37 : val 37 = (.agg (ints .i64 (zeros 64)).toArray) := hS 9 37 (by decide) rfl
  have e38 : val 38 = (.agg (ints .i64 off).toArray) := hS 10 38 (by decide) rfl
  have e39 : val 39 = (.agg (ints .i64 sz).toArray) := hS 11 39 (by decide) rfl
  have e40 : val 40 = (.bool false) := hS 12 40 (by decide) rfl
  have e41 : val 41 = (.bool false) := hS 13 41 (by decide) rfl
  have e42 : val 42 = (.bool false) := hS 14 42 (by decide) rfl
  have e43 : val 43 = (.agg (ints .i64 (zeros 64)).toArray) := hS 15 43 (by decide) rfl
  have e44 : val 44 = (.agg (ints .u8 a).toArray) := hS 16 44 (by decide) rfl
  have e45 : val 45 = (.agg (ints .i64 (zeros 64)).toArray) := hS 17 45 (by decide) rfl
  have e46 : val 46 = (.bool false) := hS 18 46 (by decide) rfl
  have e47 : val 47 = (.bool false) := hS 19 47 (by decide) rfl
  have e48 : val 48 = (.bool false) := hS 20 48 (by decide) rfl
  have e49 : val 49 = (.agg (ints .i64 (zeros 64)).toArray) := hS 21 49 (by decide) rfl
  have e50 : val 50 = (.agg (ints .i64 ng).toArray) := hS 22 50 (by decide) rfl
  have e51 : val 51 = (.bool false) := hS 23 51 (by decide) rfl
  have e52 : val 52 = (.bool false) := hS 24 52 (by decide) rfl
  simp only [putVals, List.foldl_cons, List.foldl_nil, List.drop_succ_cons, List.drop_zero, Act.put, List.setIfInBounds_toArray, List.set_cons_succ, List.set_cons_zero, e28, e29, e30, e31, e32, e33, e34, e35, e36, e37, e38, e39, e40, e41, e42, e43, e44, e45, e46, e47, e48, e49, e50, e51, e52]
  clear hS hap hla e28 e29 e30 e31 e32 e33 e34 e35 e36 e37 e38 e39 e40 e41 e42 e43 e44 e45 e46 e47 e48 e49 e50 e51 e52 
  replace hT := hT.next hw
  replace h1 := h1.next hw
  replace hB3 := hB3.next hw
  replace hB6 := hB6.next hw
  replace M7 := M7.below hw
  replace Z8 := Z8.next hw
  replace hW := hW.trans (Below.mono hw hW.size)
  clear hw
  go_upto_region 11 with (fail)
  have s9 := hW.size
  refine region_seq2 3 110 (fun _ => false) [Is (.slice A7 16 c7), IsN NT.PN, Is (.bool false)] [53, 54, 55] (by kernel_rfl) (by kernel_rfl) (Nat.le_of_eq rfl) (grows_cons (Is.grows _) (grows_cons (IsN.grows _) (grows_cons (Is.grows _) grows_nil)))
    ⟨step_mv rfl (.inl rfl) rfl rfl (knows_out 7 (by kernel_rfl) rfl),
     step_rn rfl (.inl rfl) rfl cg15 rfl (fun a w hw hf hd => ⟨#[], by simp, rf_p w⟩),
     step_atl rfl (.inl rfl) hge rfl rfl ((knows_in 0 53 (by decide) (by kernel_rfl) rfl rfl).r H7 M7) (knowsN_in 1 54 (by decide) (by kernel_rfl) rfl rfl), trivial⟩ ?_
  intro val w10 hw hS hap hla
  have e53 : val 53 = (.slice A7 16 c7) := hS 0 53 (by decide) rfl
  obtain ⟨A54, c54, y54, e54, H54, M54⟩ := hS 1 54 (by decide) rfl
  have e55 : val 55 = (.bool false) := hS 2 55 (by decide) rfl
  simp only [putVals, List.foldl_cons, List.foldl_nil, List.drop_succ_cons, List.drop_zero, Act.put, List.setIfInBounds_toArray, List.set_cons_succ, List.set_cons_zero, e53, e54, e55]
  clear hS hap hla e53 e54 e55 H54 M54
  replace hT := hT.next hw
  replace h1 := h1.next hw
  replace hB3 := hB3.next hw
  replace hB6 := hB6.next hw
  replace M7 := M7.below hw
  replace Z8 := Z8.next hw
  replace hW := hW.trans (Below.mono hw hW.size)
  clear hw
  go_upto_region 13 with (fail)
  replace H7 : Hid (Rp y7 b.val) := hid (by rw [hbv]; exact H7.out)
  have s10 := hW.size
  refine region_seq2 4 110 (fun _ => false) [Is (.slice A7 16 c7), Is (.slice A7 16 c7), IsN ((b * b : Fin NT.PN)).val, IsN ((b * b : Fin NT.PN)).val] [63, 64, 65, 9] (by kernel_rfl) (by kernel_rfl) (Nat.le_of_eq rfl) (grows_cons (Is.grows _) (grows_cons (Is.grows _) (grows_cons (IsN.grows _) (grows_cons (IsN.grows _) grows_nil))))
    ⟨step_mv rfl (.inl rfl) rfl rfl (knows_out 7 (by kernel_rfl) rfl),
     step_mv rfl (.inl rfl) rfl rfl (knows_out 7 (by kernel_rfl) rfl),
     step_rn rfl (.inl rfl) rfl cf23 rfl (rn2 ((knows_in 0 63 (by decide) (by kernel_rfl) rfl rfl).r H7 M7) ((knows_in 1 64 (by decide) (by kernel_rfl) rfl rfl).r H7 M7) (fun h1 h2 h3 h4 => rf_mul h1 h2 h3 h4)),
     step_copyN rfl (.inl rfl) 2 65 (.inr rfl) rfl (by decide) (by kernel_rfl) rfl rfl, trivial⟩ ?_
  intro val w11 hw hS hap hla
  have e63 : val 63 = (.slice A7 16 c7) := hS 0 63 (by decide) rfl
  have e64 : val 64 = (.slice A7 16 c7) := hS 1 64 (by decide) rfl
  obtain ⟨A65, c65, y65, e65, H65, M65⟩ := hS 2 65 (by decide) rfl
  obtain ⟨A9, c9, y9, e9, H9, M9⟩ := hS 3 9 (by decide) rfl
  simp only [putVals, List.foldl_cons, List.foldl_nil, List.drop_succ_cons, List.drop_zero, Act.put, List.setIfInBounds_toArray, List.set_cons_succ, List.set_cons_zero, e63, e64, e65, e9]
  clear hS hap hla e63 e64 e65 e9 H65 M65
  replace hT := hT.next hw
  replace h1 := h1.next hw
  replace hB3 := hB3.next hw
  replace hB6 := hB6.next hw
  replace M7 := M7.below hw
  replace Z8 := Z8.next hw
  replace hW := hW.trans (Below.mono hw hW.size)
  clear hw
  go_upto_region 14 with (fail)
  have s11 := hW.size
  refine region_seq2 11 110 (fun _ => false) [Is (.slice A9 16 c9), IsN ((1 : Fin NT.PN)).val, IsN (((b * b : Fin NT.PN) - (1 : Fin NT.PN) : Fin NT.PN)).val, IsN ((1 : Fin NT.PN)).val, IsN (dF).val, Is (.slice A9 16 c9), IsN ((dF * (b * b : Fin NT.PN) : Fin NT.PN)).val, IsN (((1 : Fin NT.PN) + (dF * (b * b : Fin NT.PN) : Fin NT.PN) : Fin NT.PN)).val, IsN ((iv ((1 : Fin NT.PN) + (dF * (b * b : Fin NT.PN) : Fin NT.PN) : Fin NT.PN))).val, IsN ((((b * b : Fin NT.PN) - (1 : Fin NT.PN) : Fin NT.PN) * (iv ((1 : Fin NT.PN) + (dF * (b * b : Fin NT.PN) : Fin NT.PN) : Fin NT.PN)) : Fin NT.PN)).val, IsN ((((b * b : Fin NT.PN) - (1 : Fin NT.PN) : Fin NT.PN) * (iv ((1 : Fin NT.PN) + (dF * (b * b : Fin NT.PN) : Fin NT.PN) : Fin NT.PN)) : Fin NT.PN)).val] [66, 67, 68, 69, 70, 71, 72, 73, 74, 75, 10] (by kernel_rfl) (by kernel_rfl) (Nat.le_of_eq rfl) (grows_cons (Is.grows _) (grows_cons (IsN.grows _) (grows_cons (IsN.grows _) (grows_cons (IsN.grows _) (grows_cons (IsN.grows _) (grows_cons (Is.grows _) (grows_cons (IsN.grows _) (grows_cons (IsN.grows _) (grows_cons (IsN.grows _) (grows_cons (IsN.grows _) (grows_cons (IsN.grows _) grows_nil)))))))))))
    ⟨step_mv rfl (.inl rfl) rfl rfl (knows_out 9 (by kernel_rfl) rfl),
     step_rn rfl (.inl rfl) rfl cf17 rfl (fun a w hw hf hd => ⟨_, rfl, by rw [map1]; exact rf_small 1 (by decide) w⟩),
     step_rn rfl (.inl rfl) rfl cf21 rfl (rn2 ((knows_in 0 66 (by decide) (by kernel_rfl) rfl rfl).r H9 M9) (knowsN_in 1 67 (by decide) (by kernel_rfl) rfl rfl) (fun h1 h2 h3 h4 => rf_sub h1 h2 h3 h4)),
     step_rn rfl (.inl rfl) rfl cf17 rfl (fun a w hw hf hd => ⟨_, rfl, by rw [map1]; exact rf_small 1 (by decide) w⟩),
     step_rn rfl (.inl rfl) rfl cg21 rfl (fun a w hw hf hd => ⟨#[], by simp, rf_d w⟩),
     step_mv rfl (.inl rfl) rfl rfl (knows_out 9 (by kernel_rfl) rfl),
     step_rn rfl (.inl rfl) rfl cf23 rfl (rn2 (knowsN_in 4 70 (by decide) (by kernel_rfl) rfl rfl) ((knows_in 5 71 (by decide) (by kernel_rfl) rfl rfl).r H9 M9) (fun h1 h2 h3 h4 => rf_mul h1 h2 h3 h4)),
     step_rn rfl (.inl rfl) rfl cf19 rfl (rn2 (knowsN_in 3 69 (by decide) (by kernel_rfl) rfl rfl) (knowsN_in 6 72 (by decide) (by kernel_rfl) rfl rfl) (fun h1 h2 h3 h4 => rf_add h1 h2 h3 h4)),
     step_rn rfl (.inl rfl) rfl cg19 rfl (rn1 (knowsN_in 7 73 (by decide) (by kernel_rfl) rfl rfl) (fun h1 h2 => rf_inv h1 h2)),
     step_rn rfl (.inl rfl) rfl cf23 rfl (rn2 (knowsN_in 2 68 (by decide) (by kernel_rfl) rfl rfl) (knowsN_in 8 74 (by decide) (by kernel_rfl) rfl rfl) (fun h1 h2 h3 h4 => rf_mul h1 h2 h3 h4)),
     step_copyN rfl (.inl rfl) 9 75 (.inr rfl) rfl (by decide) (by kernel_rfl) rfl rfl, trivial⟩ ?_
  intro val w12 hw hS hap hla
  have e66 : val 66 = (.slice A9 16 c9) := hS 0 66 (by decide) rfl
  obtain ⟨A67, c67, y67, e67, H67, M67⟩ := hS 1 67 (by decide) rfl
  obtain ⟨A68, c68, y68, e68, H68, M68⟩ := hS 2 68 (by decide) rfl
  obtain ⟨A69, c69, y69, e69, H69, M69⟩ := hS 3 69 (by decide) rfl
  obtain ⟨A70, c70, y70, e70, H70, M70⟩ := hS 4 70 (by decide) rfl
  have e71 : val 71 = (.slice A9 16 c9) := hS 5 71 (by decide) rfl
  obtain ⟨A72, c72, y72, e72, H72, M72⟩ := hS 6 72 (by decide) rfl
  obtain ⟨A73, c73, y73, e73, H73, M73⟩ := hS 7 73 (by decide) rfl
  obtain ⟨A74, c74, y74, e74, H74, M74⟩ := hS 8 74 (by decide) rfl
  obtain ⟨A75, c75, y75, e75, H75, M75⟩ := hS 9 75 (by decide) rfl
  obtain ⟨A10, c10, y10, e10, H10, M10⟩ := hS 10 10 (by decide) rfl
  simp only [putVals, List.foldl_cons, List.foldl_nil, List.drop_succ_cons, List.drop_zero, Act.put, List.setIfInBounds_toArray, List.set_cons_succ, List.set_cons_zero, e66, e67, e68, e69, e70, e71, e72, e73, e74, e75, e10]
  clear hS hap hla e66 e67 e68 e69 e70 e71 e72 e73 e74 e75 e10 H67 M67 H68 M68 H69 M69 H70 M70 H72 M72 H73 M73 H74 M74 H75 M75
  replace hT := hT.next hw
  replace h1 := h1.next hw
  replace hB3 := hB3.next hw
  replace hB6 := hB6.next hw
  replace M7 := M7.below hw
  replace Z8 := Z8.next hw
  replace M9 := M9.below hw
  replace hW := hW.trans (Below.mono hw hW.size)
  clear hw
  go_upto_region 15 with (fail)
  have s12 := hW.size
  refine region_seq2 10 110 (fun _ => false) [Is (.slice A10 16 c10), Is (.bool true), Is (.bool false), Is (.bool false), Is (.slice A10 16 c10), Is (.bool true), Is (.bool true), Is (.bool false), Is (.bool false), Is (.bool false)] [76, 77, 78, 79, 80, 81, 82, 83, 84, 85] (by kernel_rfl) (by kernel_rfl) (Nat.le_of_eq rfl) (grows_cons (Is.grows _) (grows_cons (Is.grows _) (grows_cons (Is.grows _) (grows_cons (Is.grows _) (grows_cons (Is.grows _) (grows_cons (Is.grows _) (grows_cons (Is.grows _) (grows_cons (Is.grows _) (grows_cons (Is.grows _) (grows_cons (Is.grows _) grows_nil))))))))))
    ⟨step_mv rfl (.inl rfl) rfl rfl (knows_out 10 (by kernel_rfl) rfl),
     step_sqr (m := (((b * b : Fin NT.PN) - (1 : Fin NT.PN) : Fin NT.PN) * (iv ((1 : Fin NT.PN) + (dF * (b * b : Fin NT.PN) : Fin NT.PN) : Fin NT.PN)) : Fin NT.PN)) rfl (.inl rfl) hsq rfl rfl ((knows_in 0 76 (by decide) (by kernel_rfl) rfl rfl).r H10 M10),
     step_not rfl (.inl rfl) (b := true) rfl rfl (knows_in 1 77 (by decide) (by kernel_rfl) rfl rfl),
     step_mv rfl (.inl rfl) rfl rfl (knows_in 2 78 (by decide) (by kernel_rfl) rfl rfl),
     step_mv rfl (.inr ⟨3, false, 79, rfl, by decide, by kernel_rfl, rfl, fun _ _ h => h⟩) rfl rfl (knows_out 10 (by kernel_rfl) rfl),
     step_zer (m := (((b * b : Fin NT.PN) - (1 : Fin NT.PN) : Fin NT.PN) * (iv ((1 : Fin NT.PN) + (dF * (b * b : Fin NT.PN) : Fin NT.PN) : Fin NT.PN)) : Fin NT.PN)) rfl (.inr ⟨3, false, 79, rfl, by decide, by kernel_rfl, rfl, fun _ _ h => h⟩) hze rfl rfl ((knows_in 4 80 (by decide) (by kernel_rfl) rfl rfl).r H10 M10),
     step_mv rfl (.inr ⟨3, false, 79, rfl, by decide, by kernel_rfl, rfl, fun _ _ h => h⟩) rfl rfl (knows_in 5 81 (by decide) (by kernel_rfl) rfl rfl),
     step_mv rfl (.inr ⟨6, true, 82, rfl, by decide, by kernel_rfl, rfl, fun _ _ h => h⟩) rfl rfl (knows_out 5 (by kernel_rfl) rfl),
     step_pick rfl (.inr ⟨3, false, 79, rfl, by decide, by kernel_rfl, rfl, fun _ _ h => h⟩) (b := true) rfl rfl (knows_in 6 82 (by decide) (by kernel_rfl) rfl rfl) (knows_in 7 83 (by decide) (by kernel_rfl) rfl rfl),
     step_pick rfl (.inl rfl) (b := false) rfl rfl (knows_in 3 79 (by decide) (by kernel_rfl) rfl rfl) (knows_in 8 84 (by decide) (by kernel_rfl) rfl rfl), trivial⟩ ?_
  intro val w13 hw hS hap hla
  have e76 : val 76 = (.slice A10 16 c10) := hS 0 76 (by decide) rfl
  have e77 : val 77 = (.bool true) := hS 1 77 (by decide) rfl
  have e78 : val 78 = (.bool false) := hS 2 78 (by decide) rfl
  have e79 : val 79 = (.bool false) := hS 3 79 (by decide) rfl
  have e80 : val 80 = (.slice A10 16 c10) := hS 4 80 (by decide) rfl
  have e81 : val 81 = (.bool true) := hS 5 81 (by decide) rfl
  have e82 : val 82 = (.bool true) := hS 6 82 (by decide) rfl
  have e83 : val 83 = (.bool false) := hS 7 83 (by decide) rfl
  have e84 : val 84 = (.bool false) := hS 8 84 (by decide) rfl
  have e85 : val 85 = (.bool false) := hS 9 85 (by decide) rfl
  simp only [putVals, List.foldl_cons, List.foldl_nil, List.drop_succ_cons, List.drop_zero, Act.put, List.setIfInBounds_toArray, List.set_cons_succ, List.set_cons_zero, e76, e77, e78, e79, e80, e81, e82, e83, e84, e85]
  clear hS hap hla e76 e77 e78 e79 e80 e81 e82 e83 e84 e85 
  replace hT := hT.next hw
  replace h1 := h1.next hw
  replace hB3 := hB3.next hw
  replace hB6 := hB6.next hw
  replace M7 := M7.below hw
  replace Z8 := Z8.next hw
  replace M9 := M9.below hw
  replace M10 := M10.below hw
  replace hW := hW.trans (Below.mono hw hW.size)
  clear hw
  go_wp2_with (fail)
  have s13 := hW.size
  refine region_spec2 17 110 (fun _ => false) [Is (.int .i64 0), Is (.bool true), Is (.bool true), Is (.agg (ints .i64 off).toArray), Is (.bool true), Is (.bool true), Is (.bool true), Is (.agg (ints .i64 off).toArray), Is (.agg (ints .u8 a).toArray), Is (.agg (ints .u8 a).toArray), Is (.bool true), Is (.bool true), Is (.bool true), Is (.agg (ints .i64 off).toArray), Is (.agg (ints .i64 off).toArray), Is (.bool true), Is (.bool true)] [93, 94, 95, 96, 97, 98, 99, 100, 101, 102, 103, 104, 105, 106, 107, 108, 109] (by kernel_rfl) (by kernel_rfl) (by kernel_rfl) (Nat.le_of_eq rfl) (grows_cons (Is.grows _) (grows_cons (Is.grows _) (grows_cons (Is.grows _) (grows_cons (Is.grows _) (grows_cons (Is.grows _) (grows_cons (Is.grows _) (grows_cons (Is.grows _) (grows_cons (Is.grows _) (grows_cons (Is.grows _) (grows_cons (Is.grows _) (grows_cons (Is.grows _) (grows_cons (Is.grows _) (grows_cons (Is.grows _) (grows_cons (Is.grows _) (grows_cons (Is.grows _) (grows_cons (Is.grows _) (grows_cons (Is.grows _) grows_nil)))))))))))))))))
    ⟨step_mv rfl (.inl rfl) rfl rfl (knows_out 4 (by kernel_rfl) rfl),
     step_eqE rfl (.inl rfl) rfl rfl rfl (knows_in 0 93 (by decide) (by kernel_rfl) rfl rfl),
     step_mv rfl (.inl rfl) rfl rfl (knows_in 1 94 (by decide) (by kernel_rfl) rfl rfl),
     step_pt rfl (.inr ⟨2, true, 95, rfl, by decide, by kernel_rfl, rfl, fun _ _ h => h⟩) hB3 3 rfl (by kernel_rfl) rfl rfl,
     step_toT rfl (.inr ⟨2, true, 95, rfl, by decide, by kernel_rfl, rfl, fun _ _ h => h⟩) rfl cg9 hT ooff rfl (one_arg (knows_in 3 96 (by decide) (by kernel_rfl) rfl rfl)),
     step_pick rfl (.inl rfl) (b := true) rfl rfl (knows_in 2 95 (by decide) (by kernel_rfl) rfl rfl) (knows_in 4 97 (by decide) (by kernel_rfl) rfl rfl),
     step_mv rfl (.inl rfl) rfl rfl (knows_in 5 98 (by decide) (by kernel_rfl) rfl rfl),
     step_pt rfl (.inr ⟨6, true, 99, rfl, by decide, by kernel_rfl, rfl, fun _ _ h => h⟩) hB3 3 rfl (by kernel_rfl) rfl rfl,
     step_to rfl (.inr ⟨6, true, 99, rfl, by decide, by kernel_rfl, rfl, fun _ _ h => h⟩) rfl cg10 yoff rfl (one_arg (knows_in 7 100 (by decide) (by kernel_rfl) rfl rfl)),
     step_by rfl (.inr ⟨6, true, 99, rfl, by decide, by kernel_rfl, rfl, fun _ _ h => h⟩) h1 1 rfl (by kernel_rfl) rfl rfl,
     step_eqs rfl (.inr ⟨6, true, 99, rfl, by decide, by kernel_rfl, rfl, fun _ _ h => h⟩) rfl la rfl (knows_in 8 101 (by decide) (by kernel_rfl) rfl rfl) (knows_in 9 102 (by decide) (by kernel_rfl) rfl rfl),
     step_pick rfl (.inl rfl) (b := true) rfl rfl (knows_in 6 99 (by decide) (by kernel_rfl) rfl rfl) (knows_in 10 103 (by decide) (by kernel_rfl) rfl rfl),
     step_mv rfl (.inl rfl) rfl rfl (knows_in 11 104 (by decide) (by kernel_rfl) rfl rfl),
     step_pt rfl (.inr ⟨12, true, 105, rfl, by decide, by kernel_rfl, rfl, fun _ _ h => h⟩) hB3 3 rfl (by kernel_rfl) rfl rfl,
     step_pt rfl (.inr ⟨12, true, 105, rfl, by decide, by kernel_rfl, rfl, fun _ _ h => h⟩) hB3 3 rfl (by kernel_rfl) rfl rfl,
     step_to rfl (.inr ⟨12, true, 105, rfl, by decide, by kernel_rfl, rfl, fun _ _ h => h⟩) rfl cg24 eoff rfl (two_args (knows_in 13 106 (by decide) (by kernel_rfl) rfl rfl) (knows_in 14 107 (by decide) (by kernel_rfl) rfl rfl)),
     step_pick rfl (.inl rfl) (b := true) rfl rfl (knows_in 12 105 (by decide) (by kernel_rfl) rfl rfl) (knows_in 15 108 (by decide) (by kernel_rfl) rfl rfl), trivial⟩ ?_
  intro val w14 hw hS hap hla
  have e93 : val 93 = (.int .i64 0) := hS 0 93 (by decide) rfl
  have e94 : val 94 = (.bool true) := hS 1 94 (by decide) rfl
  have e95 : val 95 = (.bool true) := hS 2 95 (by decide) rfl
  have e96 : val 96 = (.agg (ints .i64 off).toArray) := hS 3 96 (by decide) rfl
  have e97 : val 97 = (.bool true) := hS 4 97 (by decide) rfl
  have e98 : val 98 = (.bool true) := hS 5 98 (by decide) rfl
  have e99 : val 99 = (.bool true) := hS 6 99 (by decide) rfl
  have e100 : val 100 = (.agg (ints .i64 off).toArray) := hS 7 100 (by decide) rfl
  have e101 : val 101 = (.agg (ints .u8 a).toArray) := hS 8 101 (by decide) rfl
  have e102 : val 102 = (.agg (ints .u8 a).toArray) := hS 9 102 (by decide) rfl
  have e103 : val 103 = (.bool true) := hS 10 103 (by decide) rfl
  have e104 : val 104 = (.bool true) := hS 11 104 (by decide) rfl
  have e105 : val 105 = (.bool true) := hS 12 105 (by decide) rfl
  have e106 : val 106 = (.agg (ints .i64 off).toArray) := hS 13 106 (by decide) rfl
  have e107 : val 107 = (.agg (ints .i64 off).toArray) := hS 14 107 (by decide) rfl
  have e108 : val 108 = (.bool true) := hS 15 108 (by decide) rfl
  have e109 : val 109 = (.bool true) := hS 16 109 (by decide) rfl
  simp only [putVals, List.foldl_cons, List.foldl_nil, List.drop_succ_cons, List.drop_zero, Act.put, List.setIfInBounds_toArray, List.set_cons_succ, List.set_cons_zero, e93, e94, e95, e96, e97, e98, e99, e100, e101, e102, e103, e104, e105, e106, e107, e108, e109]
  clear hS hap hla e93 e94 e95 e96 e97 e98 e99 e100 e101 e102 e103 e104 e105 e106 e107 e108 e109 
  replace hT := hT.next hw
  replace h1 := h1.next hw
  replace hB3 := hB3.next hw
  replace hB6 := hB6.next hw
  replace M7 := M7.below hw
  replace Z8 := Z8.next hw
  replace M9 := M9.below hw
  replace M10 := M10.below hw
  replace hW := hW.trans (Below.mono hw hW.size)
  clear hw
  go_wp2_with (fail)
  go_ret
  exact ⟨rfl, hW⟩
set_option maxRecDepth 4000 in
set_option maxHeartbeats 16000000 in
theorem of_N_o {a : List Int} (la : a.length = 32) {x x' : Int} (hx : a[31]? = some x) (hx0 : 0 ≤ x ∧ x < 256) (hod : 128 ≤ x) (hx' : x % 128 = x') {ys : List Int} (hys : a.set 31 x' = ys) (ly : ys.length = 32) (yys : Byt ys) (hge : decide (NT.PN ≤ bn ys) = false) {b : Fin NT.PN} (hbv : b.val = bn ys) (hsq : isSq ((b * b - 1) * iv (1 + dF * (b * b))).val = true) (hze : decide ((b * b - 1) * iv (1 + dF * (b * b)) = 0) = false) {off : List Int} {P : Edw.Pt NT.PN} (kof : CallsT 7 #[.agg (ints .u8 a).toArray] (.tuple #[.agg (ints .i64 off).toArray, .int .i64 0])) (hoff : PR off P) (hby : bytesP P = a) : CallsT 3 #[.agg (ints .u8 a).toArray] (.bool true) := by
  have ooff := hoff.on
  have yoff := hoff.bytes
  rw [hby] at yoff
  have eoff := hoff.same hoff
  obtain ⟨cc, hcc, hrr, hon⟩ := hoff
  have hoff : PR off P := ⟨cc, hcc, hrr, hon⟩
  obtain ⟨ksz, hsz⟩ := sumL_spec pn_none hcc
  have osz := c_on_no hsz (no_add dF _)
  have lsz := hsz.len
  obtain ⟨sz, hsze⟩ : ∃ l, sumL (zeros 64) off = l := ⟨_, rfl⟩
  rw [hsze] at ksz osz lsz
  clear hsze hsz
  obtain ⟨ng, kng, hng⟩ := c_pneg pn_none
  have ong := c_on_no hng neg_zero_z
  have lng := hng.len

  intro W hT
  have h1 := By.new W a la
  have hW := below_new W (.cells (ints .u8 a).toArray 22)
  have hT0 := hT
  replace hT := (hT.alloc (.cells (ints .u8 a).toArray 22))
  go_enter Tryd.func3, Tryd.ntmps3
  go_upto_region 1 with (fail)
  generalize W.alloc (.cells (ints .u8 a).toArray 22) = w0 at *
  have s0 := hW.size
  refine region_seq2 2 110 (fun _ => false) [Is (.bool true), Is (.bool false)] [11, 12] (by kernel_rfl) (by kernel_rfl) (Nat.le_of_eq rfl) (grows_cons (Is.grows _) (grows_cons (Is.grows _) grows_nil))
    ⟨step_toT rfl (.inl rfl) rfl cg6 hT awake_any rfl (no_args),
     step_not rfl (.inl rfl) (b := true) rfl rfl (knows_in 0 11 (by decide) (by kernel_rfl) rfl rfl), trivial⟩ ?_
  intro val w1 hw hS hap hla
  have e11 : val 11 = (.bool true) := hS 0 11 (by decide) rfl
  have e12 : val 12 = (.bool false) := hS 1 12 (by decide) rfl
  simp only [putVals, List.foldl_cons, List.foldl_nil, List.drop_succ_cons, List.drop_zero, Act.put, List.setIfInBounds_toArray, List.set_cons_succ, List.set_cons_zero, e11, e12]
  clear hS hap hla e11 e12 
  replace hT := hT.next hw
  replace h1 := h1.next hw
  replace hW := hW.trans (Below.mono hw hW.size)
  clear hw
  go_upto_region 3 with (fail)
  have lt1 := h1.lt
  have s1 := hW.size
  refine region_seq2 6 110 (fun i => i == 5) [Is (.agg (ints .u8 a).toArray), Is (.tuple #[(.agg (ints .i64 off).toArray), (.int .i64 0)]), Is (.tuple #[(.agg (ints .i64 off).toArray), (.int .i64 0)]), Is (.agg (ints .i64 off).toArray), Is (.int .i64 0), IsZ4 w1.heap.size] [14, 15, 13, 16, 17, 3] (by kernel_rfl) (by kernel_rfl) (Nat.le_of_eq rfl) (grows_cons (Is.grows _) (grows_cons (Is.grows _) (grows_cons (Is.grows _) (grows_cons (Is.grows _) (grows_cons (Is.grows _) (grows_cons (IsZ4.grows _) grows_nil))))))
    ⟨step_by rfl (.inl rfl) h1 1 rfl (by kernel_rfl) rfl rfl,
     step_toT rfl (.inl rfl) rfl cg7 hT kof rfl (one_arg (knows_in 0 14 (by decide) (by kernel_rfl) rfl rfl)),
     step_mv rfl (.inl rfl) rfl rfl (knows_in 1 15 (by decide) (by kernel_rfl) rfl rfl),
     step_fst rfl (.inl rfl) rfl rfl (knows_in 2 13 (by decide) (by kernel_rfl) rfl rfl),
     step_snd rfl (.inl rfl) rfl rfl (knows_in 2 13 (by decide) (by kernel_rfl) rfl rfl),
     step_alloc28 (.inl rfl) rfl rfl, trivial⟩ ?_
  intro val w2 hw hS hap hla
  have e14 : val 14 = (.agg (ints .u8 a).toArray) := hS 0 14 (by decide) rfl
  have e15 : val 15 = (.tuple #[(.agg (ints .i64 off).toArray), (.int .i64 0)]) := hS 1 15 (by decide) rfl
  have e13 : val 13 = (.tuple #[(.agg (ints .i64 off).toArray), (.int .i64 0)]) := hS 2 13 (by decide) rfl
  have e16 : val 16 = (.agg (ints .i64 off).toArray) := hS 3 16 (by decide) rfl
  have e17 : val 17 = (.int .i64 0) := hS 4 17 (by decide) rfl
  obtain ⟨b3, e3, L3, Z3⟩ := hS 5 3 (by decide) rfl
  simp only [putVals, List.foldl_cons, List.foldl_nil, List.drop_succ_cons, List.drop_zero, Act.put, List.setIfInBounds_toArray, List.set_cons_succ, List.set_cons_zero, e14, e15, e13, e16, e17, e3]
  clear hS hap hla e14 e15 e13 e16 e17 e3 
  have LL3 := hid hoff.len
  have R3 := Z3.room (l' := off) hoff.len
  have hB3 := Z3.stored (l' := off) hoff.len
  replace hT := hT.next (Below.setCells hw L3 0 (ints .i64 off).toArray.toList)
  replace h1 := h1.next (Below.setCells hw L3 0 (ints .i64 off).toArray.toList)
  replace hW := hW.trans (Below.mono (Below.setCells hw L3 0 (ints .i64 off).toArray.toList) hW.size)
  with_reducible refine wpList_store_mid (op := ⟨none, .store 28 (.tmp 3) (.tmp 16), _, _, _, _⟩) rfl 28 (.tmp 3) (.tmp 16) rfl b3 0 (ints .i64 off).toArray rfl rfl R3 (a28 LL3.out) (ints_all _ _) ?_
  generalize (w2.setCells b3 0 (ints .i64 off).toArray.toList) = w3 at *
  clear hw R3 LL3 Z3 
  obtain ⟨x0, cx, _, HX⟩ := h1.1.spot (i := 31) (by rw [la]; omega)
  rw [Nat.zero_add] at cx
  obtain rfl : x0 = x := by
    have h := HX.out
    rw [hx] at h
    injection h with h
    exact h.symm
  clear HX
  go_upto_region 5 with (fail)
  clear cx
  have n31 : b3 ≠ W.heap.size := by omega
  clear lt1
  have lt3 := hB3.lt
  have lt1 := h1.lt
  have s3 := hW.size
  refine region_seq2 2 110 (fun i => i == 1) [Is (.agg (ints .u8 a).toArray), IsZ22 w3.heap.size] [21, 6] (by kernel_rfl) (by kernel_rfl) (Nat.le_of_eq rfl) (grows_cons (Is.grows _) (grows_cons (IsZ22.grows _) grows_nil))
    ⟨step_by rfl (.inl rfl) h1 1 rfl (by kernel_rfl) rfl rfl,
     step_alloc22 (.inl rfl) rfl rfl, trivial⟩ ?_
  intro val w4 hw hS hap hla
  have e21 : val 21 = (.agg (ints .u8 a).toArray) := hS 0 21 (by decide) rfl
  obtain ⟨b6, e6, L6, Z6⟩ := hS 1 6 (by decide) rfl
  simp only [putVals, List.foldl_cons, List.foldl_nil, List.drop_succ_cons, List.drop_zero, Act.put, List.setIfInBounds_toArray, List.set_cons_succ, List.set_cons_zero, e21, e6]
  clear hS hap hla e21 e6 
  have LL6 := hid la
  have R6 := Z6.room (l' := a) la
  have hB6 := Z6.stored (l' := a) la
  replace hT := hT.next (Below.setCells hw L6 0 (ints .u8 a).toArray.toList)
  replace h1 := h1.next (Below.setCells hw L6 0 (ints .u8 a).toArray.toList)
  replace hB3 := hB3.next (Below.setCells hw L6 0 (ints .u8 a).toArray.toList)
  replace hW := hW.trans (Below.mono (Below.setCells hw L6 0 (ints .u8 a).toArray.toList) hW.size)
  with_reducible refine wpList_store_mid (op := ⟨none, .store 22 (.tmp 6) (.tmp 21), _, _, _, _⟩) rfl 22 (.tmp 6) (.tmp 21) rfl b6 0 (ints .u8 a).toArray rfl rfl R6 (a22 LL6.out) (ints_all _ _) ?_
  generalize (w4.setCells b6 0 (ints .u8 a).toArray.toList) = w5 at *
  clear hw R6 LL6 Z6 
  have n63 : b6 ≠ b3 := by omega
  have n61 : b6 ≠ W.heap.size := by omega
  obtain ⟨x2, cx, fx, HX⟩ := hB6.1.spot (i := 31) (by rw [la]; omega)
  rw [Nat.zero_add] at cx fx
  obtain rfl : x0 = x2 := by
    have h := HX.out
    rw [hx] at h
    injection h
  have hD1 := hB6.1.set 31 x'
  rw [Nat.zero_add, hys] at hD1
  have h6b : By (w5.setCell ⟨b6, 31, none⟩ (.int .u8 x')) b6 ys := ⟨hD1, ly⟩
  have h1b : By (w5.setCell ⟨b6, 31, none⟩ (.int .u8 x')) W.heap.size a := ⟨h1.1.apart (p := ⟨b6, 31, none⟩) (.int .u8 x') (.inl n61), la⟩
  have h3b : B4 (w5.setCell ⟨b6, 31, none⟩ (.int .u8 x')) b3 off := ⟨hB3.1.apart (p := ⟨b6, 31, none⟩) (.int .u8 x') (.inl n63), hB3.2⟩
  have hWb := hW.setCell (p := ⟨b6, 31, none⟩) (by show W.heap.size ≤ b6; omega) (.int .u8 x')
  have hTb := hT0.next hWb
  have htm : Int.tmod x0 128 = x' := by rw [Int.tmod_eq_emod_of_nonneg hx0.1]; exact hx'
  have hx00 := hx0.1
  have hxw : IntKind.u8.wrap x' = x' := wrap_u8 _ (by omega)
  clear h1 hB3 hB6 hW hT HX hD1 hys hx
  go_upto_region 7 with (fail)
  generalize (w5.setCell ⟨b6, 31, none⟩ (.int .u8 x')) = w6 at *
  have h1 := h1b
  have hB3 := h3b
  have hB6 := h6b
  have hW := hWb
  have hT := hTb
  clear h1b h3b h6b hWb hTb cx fx htm hxw n63 n61 n31 lt3 lt1
  have s6 := hW.size
  refine region_seq2 3 110 (fun _ => false) [Is (.agg (ints .u8 ys).toArray), IsN (bn ys), IsN (bn ys)] [26, 27, 7] (by kernel_rfl) (by kernel_rfl) (Nat.le_of_eq rfl) (grows_cons (Is.grows _) (grows_cons (IsN.grows _) (grows_cons (IsN.grows _) grows_nil)))
    ⟨step_by rfl (.inl rfl) hB6 6 rfl (by kernel_rfl) rfl rfl,
     step_dgs rfl (.inl rfl) ly yys rfl rfl (knows_in 0 26 (by decide) (by kernel_rfl) rfl rfl),
     step_copyN rfl (.inl rfl) 1 27 (.inr rfl) rfl (by decide) (by kernel_rfl) rfl rfl, trivial⟩ ?_
  intro val w7 hw hS hap hla
  have e26 : val 26 = (.agg (ints .u8 ys).toArray) := hS 0 26 (by decide) rfl
  obtain ⟨A27, c27, y27, e27, H27, M27⟩ := hS 1 27 (by decide) rfl
  obtain ⟨A7, c7, y7, e7, H7, M7⟩ := hS 2 7 (by decide) rfl
  simp only [putVals, List.foldl_cons, List.foldl_nil, List.drop_succ_cons, List.drop_zero, Act.put, List.setIfInBounds_toArray, List.set_cons_succ, List.set_cons_zero, e26, e27, e7]
  clear hS hap hla e26 e27 e7 H27 M27
  replace hT := hT.next hw
  replace h1 := h1.next hw
  replace hB3 := hB3.next hw
  replace hB6 := hB6.next hw
  replace hW := hW.trans (Below.mono hw hW.size)
  clear hw
  go_upto_region 8 with (fail)
  have s7 := hW.size
  refine region_seq2 1 110 (fun i => i == 0) [IsZ4 w7.heap.size] [8] (by kernel_rfl) (by kernel_rfl) (Nat.le_of_eq rfl) (grows_cons (IsZ4.grows _) grows_nil)
    ⟨step_alloc28 (.inl rfl) rfl rfl, trivial⟩ ?_
  intro val w8 hw hS hap hla
  obtain ⟨b8, e8, L8, Z8⟩ := hS 0 8 (by decide) rfl
  simp only [putVals, List.foldl_cons, List.foldl_nil, List.drop_succ_cons, List.drop_zero, Act.put, List.setIfInBounds_toArray, List.set_cons_succ, List.set_cons_zero, e8]
  clear hS hap hla e8 
  replace hT := hT.next hw
  replace h1 := h1.next hw
  replace hB3 := hB3.next hw
  replace hB6 := hB6.next hw
  replace M7 := M7.below hw
  replace hW := hW.trans (Below.mono hw hW.size)
  clear hw
  go_upto_region 9 with (fail)
  have s8 := hW.size
  refine region_seq2 25 110 (fun _ => false) [Is (.agg (ints .i64 (zeros 64)).toArray), Is (.bool false), Is (.bool false), Is (.agg (ints .i64 (zeros 64)).toArray), Is (.agg (ints .u8 (zeros 32)).toArray), Is (.agg (ints .u8 (zeros 32)).toArray), Is (.bool false), Is (.bool false), Is (.bool false), Is (.agg (ints .i64 (zeros 64)).toArray), Is (.agg (ints .i64 off).toArray), Is (.agg (ints .i64 sz).toArray), Is (.bool false), Is (.bool false), Is (.bool false), Is (.agg (ints .i64 (zeros 64)).toArray), Is (.agg (ints .u8 a).toArray), Is (.agg (ints .i64 (zeros 64)).toArray), Is (.bool false), Is (.bool false), Is (.bool false), Is (.agg (ints .i64 (zeros 64)).toArray), Is (.agg (ints .i64 ng).toArray), Is (.bool false), Is (.bool false)] [28, 29, 30, 31, 32, 33, 34, 35, 36, 37, 38, 39, 40, 41, 42, 43, 44, 45, 46, 47, 48, 49, 50, 51, 52] (by kernel_rfl) (by kernel_rfl) (Nat.le_of_eq rfl) (grows_cons (Is.grows _) (grows_cons (Is.grows _) (grows_cons (Is.grows _) (grows_cons (Is.grows _) (grows_cons (Is.grows _) (grows_cons (Is.grows _) (grows_cons (Is.grows _) (grows_cons (Is.grows _) (grows_cons (Is.grows _) (grows_cons (Is.grows _) (grows_cons (Is.grows _) (grows_cons (Is.grows _) (grows_cons (Is.grows _) (grows_cons (Is.grows _) (grows_cons (Is.grows _) (grows_cons (Is.grows _) (grows_cons (Is.grows _) (grows_cons (Is.grows _) (grows_cons (Is.grows _) (grows_cons (Is.grows _) (grows_cons (Is.grows _) (grows_cons (Is.grows _) (grows_cons (Is.grows _) (grows_cons (Is.grows _) (grows_cons (Is.grows _) grows_nil)))))))))))))))))))))))))
    ⟨step_pt rfl (.inl rfl) Z8 8 rfl (by kernel_rfl) rfl rfl,
     step_toT rfl (.inl rfl) rfl cg9 hT none_on rfl (one_arg (knows_in 0 28 (by decide) (by kernel_rfl) rfl rfl)),
     step_mv rfl (.inl rfl) rfl rfl (knows_in 1 29 (by decide) (by kernel_rfl) rfl rfl),
     step_pt rfl (.inr ⟨2, false, 30, rfl, by decide, by kernel_rfl, rfl, fun _ _ h => h⟩) Z8 8 rfl (by kernel_rfl) rfl rfl,
     step_to rfl (.inr ⟨2, false, 30, rfl, by decide, by kernel_rfl, rfl, fun _ _ h => h⟩) rfl cg10 none_bytes rfl (one_arg (knows_in 3 31 (by decide) (by kernel_rfl) rfl rfl)),
     step_noneB rfl (.inr ⟨2, false, 30, rfl, by decide, by kernel_rfl, rfl, fun _ _ h => h⟩) rfl rfl,
     step_nes rfl (.inr ⟨2, false, 30, rfl, by decide, by kernel_rfl, rfl, fun _ _ h => h⟩) rfl (zeros_len 32) rfl (knows_in 4 32 (by decide) (by kernel_rfl) rfl rfl) (knows_in 5 33 (by decide) (by kernel_rfl) rfl rfl),
     step_pick rfl (.inl rfl) (b := false) rfl rfl (knows_in 2 30 (by decide) (by kernel_rfl) rfl rfl) (knows_in 6 34 (by decide) (by kernel_rfl) rfl rfl),
     step_mv rfl (.inl rfl) rfl rfl (knows_in 7 35 (by decide) (by kernel_rfl) rfl rfl),
     step_pt rfl (.inr ⟨8, false, 36, rfl, by decide, by kernel_rfl, rfl, fun _ _ h => h⟩) Z8 8 rfl (by kernel_rfl) rfl rfl,
     step_pt rfl (.inr ⟨8, false, 36, rfl, by decide, by kernel_rfl, rfl, fun _ _ h => h⟩) hB3 3 rfl (by kernel_rfl) rfl rfl,
     step_toT rfl (.inr ⟨8, false, 36, rfl, by decide, by kernel_rfl, rfl, fun _ _ h => h⟩) rfl cg11 hT ksz rfl (two_args (knows_in 9 37 (by decide) (by kernel_rfl) rfl rfl) (knows_in 10 38 (by decide) (by kernel_rfl) rfl rfl)),
     step_toT rfl (.inr ⟨8, false, 36, rfl, by decide, by kernel_rfl, rfl, fun _ _ h => h⟩) rfl cg9 hT osz rfl (one_arg (knows_in 11 39 (by decide) (by kernel_rfl) rfl rfl)),
     step_pick rfl (.inl rfl) (b := false) rfl rfl (knows_in 8 36 (by decide) (by kernel_rfl) rfl rfl) (knows_in 12 40 (by decide) (by kernel_rfl) rfl rfl),
     step_mv rfl (.inl rfl) rfl rfl (knows_in 13 41 (by decide) (by kernel_rfl) rfl rfl),
     step_pt rfl (.inr ⟨14, false, 42, rfl, by decide, by kernel_rfl, rfl, fun _ _ h => h⟩) Z8 8 rfl (by kernel_rfl) rfl rfl,
     step_by rfl (.inr ⟨14, false, 42, rfl, by decide, by kernel_rfl, rfl, fun _ _ h => h⟩) h1 1 rfl (by kernel_rfl) rfl rfl,
     step_to rfl (.inr ⟨14, false, 42, rfl, by decide, by kernel_rfl, rfl, fun _ _ h => h⟩) rfl cg12 (none_mul la) rfl (two_args (knows_in 15 43 (by decide) (by kernel_rfl) rfl rfl) (knows_in 16 44 (by decide) (by kernel_rfl) rfl rfl)),
     step_toT rfl (.inr ⟨14, false, 42, rfl, by decide, by kernel_rfl, rfl, fun _ _ h => h⟩) rfl cg9 hT none_on rfl (one_arg (knows_in 17 45 (by decide) (by kernel_rfl) rfl rfl)),
     step_pick rfl (.inl rfl) (b := false) rfl rfl (knows_in 14 42 (by decide) (by kernel_rfl) rfl rfl) (knows_in 18 46 (by decide) (by kernel_rfl) rfl rfl),
     step_mv rfl (.inl rfl) rfl rfl (knows_in 19 47 (by decide) (by kernel_rfl) rfl rfl),
     step_pt rfl (.inr ⟨20, false, 48, rfl, by decide, by kernel_rfl, rfl, fun _ _ h => h⟩) Z8 8 rfl (by kernel_rfl) rfl rfl,
     step_to rfl (.inr ⟨20, false, 48, rfl, by decide, by kernel_rfl, rfl, fun _ _ h => h⟩) rfl cg13 kng rfl (one_arg (knows_in 21 49 (by decide) (by kernel_rfl) rfl rfl)),
     step_toT rfl (.inr ⟨20, false, 48, rfl, by decide, by kernel_rfl, rfl, fun _ _ h => h⟩) rfl cg9 hT ong rfl (one_arg (knows_in 22 50 (by decide) (by kernel_rfl) rfl rfl)),
     step_pick rfl (.inl rfl) (b := false) rfl rfl (knows_in 20 48 (by decide) (by kernel_rfl) rfl rfl) (knows_in 23 51 (by decide) (by kernel_rfl) rfl rfl), trivial⟩ ?_
  intro val w9 hw hS hap hla
  have e28 : val 28 = (.agg (ints .i64 (zeros 64)).toArray) := hS 0 28 (by decide) rfl
  have e29 : val 29 = (.bool false) := hS 1 29 (by decide) rfl
  have e30 : val 30 = (.bool false) := hS 2 30 (by decide) rfl
  have e31 : val 31 = (.agg (ints .i64 (zeros 64)).toArray) := hS 3 31 (by decide) rfl
  have e32 : val 32 = (.agg (ints .u8 (zeros 32)).toArray) := hS 4 32 (by decide) rfl
  have e33 : val 33 = (.agg (ints .u8 (zeros 32)).toArray) := hS 5 33 (by decide) rfl
  have e34 : val 34 = (.bool false) := hS 6 34 (by decide) rfl
  have e35 : val 35 = (.bool false) := hS 7 35 (by decide) rfl
  have e36 : val 36 = (.bool false) := hS 8 36 (by decide) rfl
  have e37 : val 37 = (.agg (ints .i64 (zeros 64)).toArray) := hS 9 37 (by decide) rfl
  have e38 : val 38 = (.agg (ints .i64 off).toArray) := hS 10 38 (by decide) rfl
  have e39 : val 39 = (.agg (ints .i64 sz).toArray) := hS 11 39 (by decide) rfl
  have e40 : val 40 = (.bool false) := hS 12 40 (by decide) rfl
  have e41 : val 41 = (.bool false) := hS 13 41 (by decide) rfl
  have e42 : val 42 = (.bool false) := hS 14 42 (by decide) rfl
  have e43 : val 43 = (.agg (ints .i64 (zeros 64)).toArray) := hS 15 43 (by decide) rfl
  have e44 : val 44 = (.agg (ints .u8 a).toArray) := hS 16 44 (by decide) rfl
  have e45 : val 45 = (.agg (ints .i64 (zeros 64)).toArray) := hS 17 45 (by decide) rfl
  have e46 : val 46 = (.bool false) := hS 18 46 (by decide) rfl
  have e47 : val 47 = (.bool false) := hS 19 47 (by decide) rfl
  have e48 : val 48 = (.bool false) := hS 20 48 (by decide) rfl
  have e49 : val 49 = (.agg (ints .i64 (zeros 64)).toArray) := hS 21 49 (by decide) rfl
  have e50 : val 50 = (.agg (ints .i64 ng).toArray) := hS 22 50 (by decide) rfl
  have e51 : val 51 = (.bool false) := hS 23 51 (by decide) rfl
  have e52 : val 52 = (.bool false) := hS 24 52 (by decide) rfl
  simp only [putVals, List.foldl_cons, List.foldl_nil, List.drop_succ_cons, List.drop_zero, Act.put, List.setIfInBounds_toArray, List.set_cons_succ, List.set_cons_zero, e28, e29, e30, e31, e32, e33, e34, e35, e36, e37, e38, e39, e40, e41, e42, e43, e44, e45, e46, e47, e48, e49, e50, e51, e52]
  clear hS hap hla e28 e29 e30 e31 e32 e33 e34 e35 e36 e37 e38 e39 e40 e41 e42 e43 e44 e45 e46 e47 e48 e49 e50 e51 e52 
  replace hT := hT.next hw
  replace h1 := h1.next hw
  replace hB3 := hB3.next hw
  replace hB6 := hB6.next hw
  replace M7 := M7.below hw
  replace Z8 := Z8.next hw
  replace hW := hW.trans (Below.mono hw hW.size)
  clear hw
  go_upto_region 11 with (fail)
  have s9 := hW.size
  refine region_seq2 3 110 (fun _ => false) [Is (.slice A7 16 c7), IsN NT.PN, Is (.bool false)] [53, 54, 55] (by kernel_rfl) (by kernel_rfl) (Nat.le_of_eq rfl) (grows_cons (Is.grows _) (grows_cons (IsN.grows _) (grows_cons (Is.grows _) grows_nil)))
    ⟨step_mv rfl (.inl rfl) rfl rfl (knows_out 7 (by kernel_rfl) rfl),
     step_rn rfl (.inl rfl) rfl cg15 rfl (fun a w hw hf hd => ⟨#[], by simp, rf_p w⟩),
     step_atl rfl (.inl rfl) hge rfl rfl ((knows_in 0 53 (by decide) (by kernel_rfl) rfl rfl).r H7 M7) (knowsN_in 1 54 (by decide) (by kernel_rfl) rfl rfl), trivial⟩ ?_
  intro val w10 hw hS hap hla
  have e53 : val 53 = (.slice A7 16 c7) := hS 0 53 (by decide) rfl
  obtain ⟨A54, c54, y54, e54, H54, M54⟩ := hS 1 54 (by decide) rfl
  have e55 : val 55 = (.bool false) := hS 2 55 (by decide) rfl
  simp only [putVals, List.foldl_cons, List.foldl_nil, List.drop_succ_cons, List.drop_zero, Act.put, List.setIfInBounds_toArray, List.set_cons_succ, List.set_cons_zero, e53, e54, e55]
  clear hS hap hla e53 e54 e55 H54 M54
  replace hT := hT.next hw
  replace h1 := h1.next hw
  replace hB3 := hB3.next hw
  replace hB6 := hB6.next hw
  replace M7 := M7.below hw
  replace Z8 := Z8.next hw
  replace hW := hW.trans (Below.mono hw hW.size)
  clear hw
  go_upto_region 13 with (fail)
  replace H7 : Hid (Rp y7 b.val) := hid (by rw [hbv]; exact H7.out)
  have s10 := hW.size
  refine region_seq2 4 110 (fun _ => false) [Is (.slice A7 16 c7), Is (.slice A7 16 c7), IsN ((b * b : Fin NT.PN)).val, IsN ((b * b : Fin NT.PN)).val] [63, 64, 65, 9] (by kernel_rfl) (by kernel_rfl) (Nat.le_of_eq rfl) (grows_cons (Is.grows _) (grows_cons (Is.grows _) (grows_cons (IsN.grows _) (grows_cons (IsN.grows _) grows_nil))))
    ⟨step_mv rfl (.inl rfl) rfl rfl (knows_out 7 (by kernel_rfl) rfl),
     step_mv rfl (.inl rfl) rfl rfl (knows_out 7 (by kernel_rfl) rfl),
     step_rn rfl (.inl rfl) rfl cf23 rfl (rn2 ((knows_in 0 63 (by decide) (by kernel_rfl) rfl rfl).r H7 M7) ((knows_in 1 64 (by decide) (by kernel_rfl) rfl rfl).r H7 M7) (fun h1 h2 h3 h4 => rf_mul h1 h2 h3 h4)),
     step_copyN rfl (.inl rfl) 2 65 (.inr rfl) rfl (by decide) (by kernel_rfl) rfl rfl, trivial⟩ ?_
  intro val w11 hw hS hap hla
  have e63 : val 63 = (.slice A7 16 c7) := hS 0 63 (by decide) rfl
  have e64 : val 64 = (.slice A7 16 c7) := hS 1 64 (by decide) rfl
  obtain ⟨A65, c65, y65, e65, H65, M65⟩ := hS 2 65 (by decide) rfl
  obtain ⟨A9, c9, y9, e9, H9, M9⟩ := hS 3 9 (by decide) rfl
  simp only [putVals, List.foldl_cons, List.foldl_nil, List.drop_succ_cons, List.drop_zero, Act.put, List.setIfInBounds_toArray, List.set_cons_succ, List.set_cons_zero, e63, e64, e65, e9]
  clear hS hap hla e63 e64 e65 e9 H65 M65
  replace hT := hT.next hw
  replace h1 := h1.next hw
  replace hB3 := hB3.next hw
  replace hB6 := hB6.next hw
  replace M7 := M7.below hw
  replace Z8 := Z8.next hw
  replace hW := hW.trans (Below.mono hw hW.size)
  clear hw
  go_upto_region 14 with (fail)
  have s11 := hW.size
  refine region_seq2 11 110 (fun _ => false) [Is (.slice A9 16 c9), IsN ((1 : Fin NT.PN)).val, IsN (((b * b : Fin NT.PN) - (1 : Fin NT.PN) : Fin NT.PN)).val, IsN ((1 : Fin NT.PN)).val, IsN (dF).val, Is (.slice A9 16 c9), IsN ((dF * (b * b : Fin NT.PN) : Fin NT.PN)).val, IsN (((1 : Fin NT.PN) + (dF * (b * b : Fin NT.PN) : Fin NT.PN) : Fin NT.PN)).val, IsN ((iv ((1 : Fin NT.PN) + (dF * (b * b : Fin NT.PN) : Fin NT.PN) : Fin NT.PN))).val, IsN ((((b * b : Fin NT.PN) - (1 : Fin NT.PN) : Fin NT.PN) * (iv ((1 : Fin NT.PN) + (dF * (b * b : Fin NT.PN) : Fin NT.PN) : Fin NT.PN)) : Fin NT.PN)).val, IsN ((((b * b : Fin NT.PN) - (1 : Fin NT.PN) : Fin NT.PN) * (iv ((1 : Fin NT.PN) + (dF * (b * b : Fin NT.PN) : Fin NT.PN) : Fin NT.PN)) : Fin NT.PN)).val] [66, 67, 68, 69, 70, 71, 72, 73, 74, 75, 10] (by kernel_rfl) (by kernel_rfl) (Nat.le_of_eq rfl) (grows_cons (Is.grows _) (grows_cons (IsN.grows _) (grows_cons (IsN.grows _) (grows_cons (IsN.grows _) (grows_cons (IsN.grows _) (grows_cons (Is.grows _) (grows_cons (IsN.grows _) (grows_cons (IsN.grows _) (grows_cons (IsN.grows _) (grows_cons (IsN.grows _) (grows_cons (IsN.grows _) grows_nil)))))))))))
    ⟨step_mv rfl (.inl rfl) rfl rfl (knows_out 9 (by kernel_rfl) rfl),
     step_rn rfl (.inl rfl) rfl cf17 rfl (fun a w hw hf hd => ⟨_, rfl, by rw [map1]; exact rf_small 1 (by decide) w⟩),
     step_rn rfl (.inl rfl) rfl cf21 rfl (rn2 ((knows_in 0 66 (by decide) (by kernel_rfl) rfl rfl).r H9 M9) (knowsN_in 1 67 (by decide) (by kernel_rfl) rfl rfl) (fun h1 h2 h3 h4 => rf_sub h1 h2 h3 h4)),
     step_rn rfl (.inl rfl) rfl cf17 rfl (fun a w hw hf hd => ⟨_, rfl, by rw [map1]; exact rf_small 1 (by decide) w⟩),
     step_rn rfl (.inl rfl) rfl cg21 rfl (fun a w hw hf hd => ⟨#[], by simp, rf_d w⟩),
     step_mv rfl (.inl rfl) rfl rfl (knows_out 9 (by kernel_rfl) rfl),
     step_rn rfl (.inl rfl) rfl cf23 rfl (rn2 (knowsN_in 4 70 (by decide) (by kernel_rfl) rfl rfl) ((knows_in 5 71 (by decide) (by kernel_rfl) rfl rfl).r H9 M9) (fun h1 h2 h3 h4 => rf_mul h1 h2 h3 h4)),
     step_rn rfl (.inl rfl) rfl cf19 rfl (rn2 (knowsN_in 3 69 (by decide) (by kernel_rfl) rfl rfl) (knowsN_in 6 72 (by decide) (by kernel_rfl) rfl rfl) (fun h1 h2 h3 h4 => rf_add h1 h2 h3 h4)),
     step_rn rfl (.inl rfl) rfl cg19 rfl (rn1 (knowsN_in 7 73 (by decide) (by kernel_rfl) rfl rfl) (fun h1 h2 => rf_inv h1 h2)),
     step_rn rfl (.inl rfl) rfl cf23 rfl (rn2 (knowsN_in 2 68 (by decide) (by kernel_rfl) rfl rfl) (knowsN_in 8 74 (by decide) (by kernel_rfl) rfl rfl) (fun h1 h2 h3 h4 => rf_mul h1 h2 h3 h4)),
     step_copyN rfl (.inl rfl) 9 75 (.inr rfl) rfl (by decide) (by kernel_rfl) rfl rfl, trivial⟩ ?_
  intro val w12 hw hS hap hla
  have e66 : val 66 = (.slice A9 16 c9) := hS 0 66 (by decide) rfl
  obtain ⟨A67, c67, y67, e67, H67, M67⟩ := hS 1 67 (by decide) rfl
  obtain ⟨A68, c68, y68, e68, H68, M68⟩ := hS 2 68 (by decide) rfl
  obtain ⟨A69, c69, y69, e69, H69, M69⟩ := hS 3 69 (by decide) rfl
  obtain ⟨A70, c70, y70, e70, H70, M70⟩ := hS 4 70 (by decide) rfl
  have e71 : val 71 = (.slice A9 16 c9) := hS 5 71 (by decide) rfl
  obtain ⟨A72, c72, y72, e72, H72, M72⟩ := hS 6 72 (by decide) rfl
  obtain ⟨A73, c73, y73, e73, H73, M73⟩ := hS 7 73 (by decide) rfl
  obtain ⟨A74, c74, y74, e74, H74, M74⟩ := hS 8 74 (by decide) rfl
  obtain ⟨A75, c75, y75, e75, H75, M75⟩ := hS 9 75 (by decide) rfl
  obtain ⟨A10, c10, y10, e10, H10, M10⟩ := hS 10 10 (by decide) rfl
  simp only [putVals, List.foldl_cons, List.foldl_nil, List.drop_succ_cons, List.drop_zero, Act.put, List.setIfInBounds_toArray, List.set_cons_succ, List.set_cons_zero, e66, e67, e68, e69, e70, e71, e72, e73, e74, e75, e10]
  clear hS hap hla e66 e67 e68 e69 e70 e71 e72 e73 e74 e75 e10 H67 M67 H68 M68 H69 M69 H70 M70 H72 M72 H73 M73 H74 M74 H75 M75
  replace hT := hT.next hw
  replace h1 := h1.next hw
  replace hB3 := hB3.next hw
  replace hB6 := hB6.next hw
  replace M7 := M7.below hw
  replace Z8 := Z8.next hw
  replace M9 := M9.below hw
  replace hW := hW.trans (Below.mono hw hW.size)
  clear hw
  go_upto_region 15 with (fail)
  have s12 := hW.size
  refine region_seq2 10 110 (fun _ => false) [Is (.slice A10 16 c10), Is (.bool true), Is (.bool false), Is (.bool false), Is (.slice A10 16 c10), Is (.bool false), Is (.bool false), Is undef, Is (.bool false), Is (.bool false)] [76, 77, 78, 79, 80, 81, 82, 83, 84, 85] (by kernel_rfl) (by kernel_rfl) (Nat.le_of_eq rfl) (grows_cons (Is.grows _) (grows_cons (Is.grows _) (grows_cons (Is.grows _) (grows_cons (Is.grows _) (grows_cons (Is.grows _) (grows_cons (Is.grows _) (grows_cons (Is.grows _) (grows_cons (Is.grows _) (grows_cons (Is.grows _) (grows_cons (Is.grows _) grows_nil))))))))))
    ⟨step_mv rfl (.inl rfl) rfl rfl (knows_out 10 (by kernel_rfl) rfl),
     step_sqr (m := (((b * b : Fin NT.PN) - (1 : Fin NT.PN) : Fin NT.PN) * (iv ((1 : Fin NT.PN) + (dF * (b * b : Fin NT.PN) : Fin NT.PN) : Fin NT.PN)) : Fin NT.PN)) rfl (.inl rfl) hsq rfl rfl ((knows_in 0 76 (by decide) (by kernel_rfl) rfl rfl).r H10 M10),
     step_not rfl (.inl rfl) (b := true) rfl rfl (knows_in 1 77 (by decide) (by kernel_rfl) rfl rfl),
     step_mv rfl (.inl rfl) rfl rfl (knows_in 2 78 (by decide) (by kernel_rfl) rfl rfl),
     step_mv rfl (.inr ⟨3, false, 79, rfl, by decide, by kernel_rfl, rfl, fun _ _ h => h⟩) rfl rfl (knows_out 10 (by kernel_rfl) rfl),
     step_zer (m := (((b * b : Fin NT.PN) - (1 : Fin NT.PN) : Fin NT.PN) * (iv ((1 : Fin NT.PN) + (dF * (b * b : Fin NT.PN) : Fin NT.PN) : Fin NT.PN)) : Fin NT.PN)) rfl (.inr ⟨3, false, 79, rfl, by decide, by kernel_rfl, rfl, fun _ _ h => h⟩) hze rfl rfl ((knows_in 4 80 (by decide) (by kernel_rfl) rfl rfl).r H10 M10),
     step_mv rfl (.inr ⟨3, false, 79, rfl, by decide, by kernel_rfl, rfl, fun _ _ h => h⟩) rfl rfl (knows_in 5 81 (by decide) (by kernel_rfl) rfl rfl),
     step_off rfl ⟨6, true, 82, rfl, by decide, by kernel_rfl, rfl, fun _ _ h => .inl h⟩ (fun _ => rfl),
     step_pick rfl (.inr ⟨3, false, 79, rfl, by decide, by kernel_rfl, rfl, fun _ _ h => h⟩) (b := false) rfl rfl (knows_in 6 82 (by decide) (by kernel_rfl) rfl rfl) (knows_const _),
     step_pick rfl (.inl rfl) (b := false) rfl rfl (knows_in 3 79 (by decide) (by kernel_rfl) rfl rfl) (knows_in 8 84 (by decide) (by kernel_rfl) rfl rfl), trivial⟩ ?_
  intro val w13 hw hS hap hla
  have e76 : val 76 = (.slice A10 16 c10) := hS 0 76 (by decide) rfl
  have e77 : val 77 = (.bool true) := hS 1 77 (by decide) rfl
  have e78 : val 78 = (.bool false) := hS 2 78 (by decide) rfl
  have e79 : val 79 = (.bool false) := hS 3 79 (by decide) rfl
  have e80 : val 80 = (.slice A10 16 c10) := hS 4 80 (by decide) rfl
  have e81 : val 81 = (.bool false) := hS 5 81 (by decide) rfl
  have e82 : val 82 = (.bool false) := hS 6 82 (by decide) rfl
  have e83 : val 83 = undef := hS 7 83 (by decide) rfl
  have e84 : val 84 = (.bool false) := hS 8 84 (by decide) rfl
  have e85 : val 85 = (.bool false) := hS 9 85 (by decide) rfl
  simp only [putVals, List.foldl_cons, List.foldl_nil, List.drop_succ_cons, List.drop_zero, Act.put, List.setIfInBounds_toArray, List.set_cons_succ, List.set_cons_zero, e76, e77, e78, e79, e80, e81, e82, e83, e84, e85]
  clear hS hap hla e76 e77 e78 e79 e80 e81 e82 e83 e84 e85 
  replace hT := hT.next hw
  replace h1 := h1.next hw
  replace hB3 := hB3.next hw
  replace hB6 := hB6.next hw
  replace M7 := M7.below hw
  replace Z8 := Z8.next hw
  replace M9 := M9.below hw
  replace M10 := M10.below hw
  replace hW := hW.trans (Below.mono hw hW.size)
  clear hw
  go_wp2_with (fail)
  have s13 := hW.size
  refine region_spec2 17 110 (fun _ => false) [Is (.int .i64 0), Is (.bool true), Is (.bool true), Is (.agg (ints .i64 off).toArray), Is (.bool true), Is (.bool true), Is (.bool true), Is (.agg (ints .i64 off).toArray), Is (.agg (ints .u8 a).toArray), Is (.agg (ints .u8 a).toArray), Is (.bool true), Is (.bool true), Is (.bool true), Is (.agg (ints .i64 off).toArray), Is (.agg (ints .i64 off).toArray), Is (.bool true), Is (.bool true)] [93, 94, 95, 96, 97, 98, 99, 100, 101, 102, 103, 104, 105, 106, 107, 108, 109] (by kernel_rfl) (by kernel_rfl) (by kernel_rfl) (Nat.le_of_eq rfl) (grows_cons (Is.grows _) (grows_cons (Is.grows _) (grows_cons (Is.grows _) (grows_cons (Is.grows _) (grows_cons (Is.grows _) (grows_cons (Is.grows _) (grows_cons (Is.grows _) (grows_cons (Is.grows _) (grows_cons (Is.grows _) (grows_cons (Is.grows _) (grows_cons (Is.grows _) (grows_cons (Is.grows _) (grows_cons (Is.grows _) (grows_cons (Is.grows _) (grows_cons (Is.grows _) (grows_cons (Is.grows _) (grows_cons (Is.grows _) grows_nil)))))))))))))))))
    ⟨step_mv rfl (.inl rfl) rfl rfl (knows_out 4 (by kernel_rfl) rfl),
     step_eqE rfl (.inl rfl) rfl rfl rfl (knows_in 0 93 (by decide) (by kernel_rfl) rfl rfl),
     step_mv rfl (.inl rfl) rfl rfl (knows_in 1 94 (by decide) (by kernel_rfl) rfl rfl),
     step_pt rfl (.inr ⟨2, true, 95, rfl, by decide, by kernel_rfl, rfl, fun _ _ h => h⟩) hB3 3 rfl (by kernel_rfl) rfl rfl,
     step_toT rfl (.inr ⟨2, true, 95, rfl, by decide, by kernel_rfl, rfl, fun _ _ h => h⟩) rfl cg9 hT ooff rfl (one_arg (knows_in 3 96 (by decide) (by kernel_rfl) rfl rfl)),
     step_pick rfl (.inl rfl) (b := true) rfl rfl (knows_in 2 95 (by decide) (by kernel_rfl) rfl rfl) (knows_in 4 97 (by decide) (by kernel_rfl) rfl rfl),
     step_mv rfl (.inl rfl) rfl rfl (knows_in 5 98 (by decide) (by kernel_rfl) rfl rfl),
     step_pt rfl (.inr ⟨6, true, 99, rfl, by decide, by kernel_rfl, rfl, fun _ _ h => h⟩) hB3 3 rfl (by kernel_rfl) rfl rfl,
     step_to rfl (.inr ⟨6, true, 99, rfl, by decide, by kernel_rfl, rfl, fun _ _ h => h⟩) rfl cg10 yoff rfl (one_arg (knows_in 7 100 (by decide) (by kernel_rfl) rfl rfl)),
     step_by rfl (.inr ⟨6, true, 99, rfl, by decide, by kernel_rfl, rfl, fun _ _ h => h⟩) h1 1 rfl (by kernel_rfl) rfl rfl,
     step_eqs rfl (.inr ⟨6, true, 99, rfl, by decide, by kernel_rfl, rfl, fun _ _ h => h⟩) rfl la rfl (knows_in 8 101 (by decide) (by kernel_rfl) rfl rfl) (knows_in 9 102 (by decide) (by kernel_rfl) rfl rfl),
     step_pick rfl (.inl rfl) (b := true) rfl rfl (knows_in 6 99 (by decide) (by kernel_rfl) rfl rfl) (knows_in 10 103 (by decide) (by kernel_rfl) rfl rfl),
     step_mv rfl (.inl rfl) rfl rfl (knows_in 11 104 (by decide) (by kernel_rfl) rfl rfl),
     step_pt rfl (.inr ⟨12, true, 105, rfl, by decide, by kernel_rfl, rfl, fun _ _ h => h⟩) hB3 3 rfl (by kernel_rfl) rfl rfl,
     step_pt rfl (.inr ⟨12, true, 105, rfl, by decide, by kernel_rfl, rfl, fun _ _ h => h⟩) hB3 3 rfl (by kernel_rfl) rfl rfl,
     step_to rfl (.inr ⟨12, true, 105, rfl, by decide, by kernel_rfl, rfl, fun _ _ h => h⟩) rfl cg24 eoff rfl (two_args (knows_in 13 106 (by decide) (by kernel_rfl) rfl rfl) (knows_in 14 107 (by decide) (by kernel_rfl) rfl rfl)),
     step_pick rfl (.inl rfl) (b := true) rfl rfl (knows_in 12 105 (by decide) (by kernel_rfl) rfl rfl) (knows_in 15 108 (by decide) (by kernel_rfl) rfl rfl), trivial⟩ ?_
  intro val w14 hw hS hap hla
  have e93 : val 93 = (.int .i64 0) := hS 0 93 (by decide) rfl
  have e94 : val 94 = (.bool true) := hS 1 94 (by decide) rfl
  have e95 : val 95 = (.bool true) := hS 2 95 (by decide) rfl
  have e96 : val 96 = (.agg (ints .i64 off).toArray) := hS 3 96 (by decide) rfl
  have e97 : val 97 = (.bool true) := hS 4 97 (by decide) rfl
  have e98 : val 98 = (.bool true) := hS 5 98 (by decide) rfl
  have e99 : val 99 = (.bool true) := hS 6 99 (by decide) rfl
  have e100 : val 100 = (.agg (ints .i64 off).toArray) := hS 7 100 (by decide) rfl
  have e101 : val 101 = (.agg (ints .u8 a).toArray) := hS 8 101 (by decide) rfl
  have e102 : val 102 = (.agg (ints .u8 a).toArray) := hS 9 102 (by decide) rfl
  have e103 : val 103 = (.bool true) := hS 10 103 (by decide) rfl
  have e104 : val 104 = (.bool true) := hS 11 104 (by decide) rfl
  have e105 : val 105 = (.bool true) := hS 12 105 (by decide) rfl
  have e106 : val 106 = (.agg (ints .i64 off).toArray) := hS 13 106 (by decide) rfl
  have e107 : val 107 = (.agg (ints .i64 off).toArray) := hS 14 107 (by decide) rfl
  have e108 : val 108 = (.bool true) := hS 15 108 (by decide) rfl
  have e109 : val 109 = (.bool true) := hS 16 109 (by decide) rfl
  simp only [putVals, List.foldl_cons, List.foldl_nil, List.drop_succ_cons, List.drop_zero, Act.put, List.setIfInBounds_toArray, List.set_cons_succ, List.set_cons_zero, e93, e94, e95, e96, e97, e98, e99, e100, e101, e102, e103, e104, e105, e106, e107, e108, e109]
  clear hS hap hla e93 e94 e95 e96 e97 e98 e99 e100 e101 e102 e103 e104 e105 e106 e107 e108 e109 
  replace hT := hT.next hw
  replace h1 := h1.next hw
  replace hB3 := hB3.next hw
  replace hB6 := hB6.next hw
  replace M7 := M7.below hw
  replace Z8 := Z8.next hw
  replace M9 := M9.below hw
  replace M10 := M10.below hw
  replace hW := hW.trans (Below.mono hw hW.size)
  clear hw
  go_wp2_with (fail)
  go_ret
  exact ⟨rfl, hW⟩
set_option maxRecDepth 4000 in
set_option maxHeartbeats 16000000 in
theorem of_N_e {a : List Int} (la : a.length = 32) {x x' : Int} (hx : a[31]? = some x) (hx0 : 0 ≤ x ∧ x < 256) (hod : ¬ 128 ≤ x) (hx' : x % 128 = x') {ys : List Int} (hys : a.set 31 x' = ys) (ly : ys.length = 32) (yys : Byt ys) (hge : decide (NT.PN ≤ bn ys) = false) {b : Fin NT.PN} (hbv : b.val = bn ys) (hsq : isSq ((b * b - 1) * iv (1 + dF * (b * b))).val = true) (hze : decide ((b * b - 1) * iv (1 + dF * (b * b)) = 0) = false) {off : List Int} {P : Edw.Pt NT.PN} (kof : CallsT 7 #[.agg (ints .u8 a).toArray] (.tuple #[.agg (ints .i64 off).toArray, .int .i64 0])) (hoff : PR off P) (hby : bytesP P = a) : CallsT 3 #[.agg (ints .u8 a).toArray] (.bool true) := by
  have ooff := hoff.on
  have yoff := hoff.bytes
  rw [hby] at yoff
  have eoff := hoff.same hoff
  obtain ⟨cc, hcc, hrr, hon⟩ := hoff
  have hoff : PR off P := ⟨cc, hcc, hrr, hon⟩
  obtain ⟨ksz, hsz⟩ := sumL_spec pn_none hcc
  have osz := c_on_no hsz (no_add dF _)
  have lsz := hsz.len
  obtain ⟨sz, hsze⟩ : ∃ l, sumL (zeros 64) off = l := ⟨_, rfl⟩
  rw [hsze] at ksz osz lsz
  clear hsze hsz
  obtain ⟨ng, kng, hng⟩ := c_pneg pn_none
  have ong := c_on_no hng neg_zero_z
  have lng := hng.len

  intro W hT
  have h1 := By.new W a la
  have hW := below_new W (.cells (ints .u8 a).toArray 22)
  have hT0 := hT
  replace hT := (hT.alloc (.cells (ints .u8 a).toArray 22))
  go_enter Tryd.func3, Tryd.ntmps3
  go_upto_region 1 with (fail)
  generalize W.alloc (.cells (ints .u8 a).toArray 22) = w0 at *
  have s0 := hW.size
  refine region_seq2 2 110 (fun _ => false) [Is (.bool true), Is (.bool false)] [11, 12] (by kernel_rfl) (by kernel_rfl) (Nat.le_of_eq rfl) (grows_cons (Is.grows _) (grows_cons (Is.grows _) grows_nil))
    ⟨step_toT rfl (.inl rfl) rfl cg6 hT awake_any rfl (no_args),
     step_not rfl (.inl rfl) (b := true) rfl rfl (knows_in 0 11 (by decide) (by kernel_rfl) rfl rfl), trivial⟩ ?_
  intro val w1 hw hS hap hla
  have e11 : val 11 = (.bool true) := hS 0 11 (by decide) rfl
  have e12 : val 12 = (.bool false) := hS 1 12 (by decide) rfl
  simp only [putVals, List.foldl_cons, List.foldl_nil, List.drop_succ_cons, List.drop_zero, Act.put, List.setIfInBounds_toArray, List.set_cons_succ, List.set_cons_zero, e11, e12]
  clear hS hap hla e11 e12 
  replace hT := hT.next hw
  replace h1 := h1.next hw
  replace hW := hW.trans (Below.mono hw hW.size)
  clear hw
  go_upto_region 3 with (fail)
  have lt1 := h1.lt
  have s1 := hW.size
  refine region_seq2 6 110 (fun i => i == 5) [Is (.agg (ints .u8 a).toArray), Is (.tuple #[(.agg (ints .i64 off).toArray), (.int .i64 0)]), Is (.tuple #[(.agg (ints .i64 off).toArray), (.int .i64 0)]), Is (.agg (ints .i64 off).toArray), Is (.int .i64 0), IsZ4 w1.heap.size] [14, 15, 13, 16, 17, 3] (by kernel_rfl) (by kernel_rfl) (Nat.le_of_eq rfl) (grows_cons (Is.grows _) (grows_cons (Is.grows _) (grows_cons (Is.grows _) (grows_cons (Is.grows _) (grows_cons (Is.grows _) (grows_cons (IsZ4.grows _) grows_nil))))))
    ⟨step_by rfl (.inl rfl) h1 1 rfl (by kernel_rfl) rfl rfl,
     step_toT rfl (.inl rfl) rfl cg7 hT kof rfl (one_arg (knows_in 0 14 (by decide) (by kernel_rfl) rfl rfl)),
     step_mv rfl (.inl rfl) rfl rfl (knows_in 1 15 (by decide) (by kernel_rfl) rfl rfl),
     step_fst rfl (.inl rfl) rfl rfl (knows_in 2 13 (by decide) (by kernel_rfl) rfl rfl),
     step_snd rfl (.inl rfl) rfl rfl (knows_in 2 13 (by decide) (by kernel_rfl) rfl rfl),
     step_alloc28 (.inl rfl) rfl rfl, trivial⟩ ?_
  intro val w2 hw hS hap hla
  have e14 : val 14 = (.agg (ints .u8 a).toArray) := hS 0 14 (by decide) rfl
  have e15 : val 15 = (.tuple #[(.agg (ints .i64 off).toArray), (.int .i64 0)]) := hS 1 15 (by decide) rfl
  have e13 : val 13 = (.tuple #[(.agg (ints .i64 off).toArray), (.int .i64 0)]) := hS 2 13 (by decide) rfl
  have e16 : val 16 = (.agg (ints .i64 off).toArray) := hS 3 16 (by decide) rfl
  have e17 : val 17 = (.int .i64 0) := hS 4 17 (by decide) rfl
  obtain ⟨b3, e3, L3, Z3⟩ := hS 5 3 (by decide) rfl
  simp only [putVals, List.foldl_cons, List.foldl_nil, List.drop_succ_cons, List.drop_zero, Act.put, List.setIfInBounds_toArray, List.set_cons_succ, List.set_cons_zero, e14, e15, e13, e16, e17, e3]
  clear hS hap hla e14 e15 e13 e16 e17 e3 
  have LL3 := hid hoff.len
  have R3 := Z3.room (l' := off) hoff.len
  have hB3 := Z3.stored (l' := off) hoff.len
  replace hT := hT.next (Below.setCells hw L3 0 (ints .i64 off).toArray.toList)
  replace h1 := h1.next (Below.setCells hw L3 0 (ints .i64 off).toArray.toList)
  replace hW := hW.trans (Below.mono (Below.setCells hw L3 0 (ints .i64 off).toArray.toList) hW.size)
  with_reducible refine wpList_store_mid (op := ⟨none, .store 28 (.tmp 3) (.tmp 16), _, _, _, _⟩) rfl 28 (.tmp 3) (.tmp 16) rfl b3 0 (ints .i64 off).toArray rfl rfl R3 (a28 LL3.out) (ints_all _ _) ?_
  generalize (w2.setCells b3 0 (ints .i64 off).toArray.toList) = w3 at *
  clear hw R3 LL3 Z3 
  obtain ⟨x0, cx, _, HX⟩ := h1.1.spot (i := 31) (by rw [la]; omega)
  rw [Nat.zero_add] at cx
  obtain rfl : x0 = x := by
    have h := HX.out
    rw [hx] at h
    injection h with h
    exact h.symm
  clear HX
  go_upto_region 5 with (fail)
  clear cx
  have n31 : b3 ≠ W.heap.size := by omega
  clear lt1
  have lt3 := hB3.lt
  have lt1 := h1.lt
  have s3 := hW.size
  refine region_seq2 2 110 (fun i => i == 1) [Is (.agg (ints .u8 a).toArray), IsZ22 w3.heap.size] [21, 6] (by kernel_rfl) (by kernel_rfl) (Nat.le_of_eq rfl) (grows_cons (Is.grows _) (grows_cons (IsZ22.grows _) grows_nil))
    ⟨step_by rfl (.inl rfl) h1 1 rfl (by kernel_rfl) rfl rfl,
     step_alloc22 (.inl rfl) rfl rfl, trivial⟩ ?_
  intro val w4 hw hS hap hla
  have e21 : val 21 = (.agg (ints .u8 a).toArray) := hS 0 21 (by decide) rfl
  obtain ⟨b6, e6, L6, Z6⟩ := hS 1 6 (by decide) rfl
  simp only [putVals, List.foldl_cons, List.foldl_nil, List.drop_succ_cons, List.drop_zero, Act.put, List.setIfInBounds_toArray, List.set_cons_succ, List.set_cons_zero, e21, e6]
  clear hS hap hla e21 e6 
  have LL6 := hid la
  have R6 := Z6.room (l' := a) la
  have hB6 := Z6.stored (l' := a) la
  replace hT := hT.next (Below.setCells hw L6 0 (ints .u8 a).toArray.toList)
  replace h1 := h1.next (Below.setCells hw L6 0 (ints .u8 a).toArray.toList)
  replace hB3 := hB3.next (Below.setCells hw L6 0 (ints .u8 a).toArray.toList)
  replace hW := hW.trans (Below.mono (Below.setCells hw L6 0 (ints .u8 a).toArray.toList) hW.size)
  with_reducible refine wpList_store_mid (op := ⟨none, .store 22 (.tmp 6) (.tmp 21), _, _, _, _⟩) rfl 22 (.tmp 6) (.tmp 21) rfl b6 0 (ints .u8 a).toArray rfl rfl R6 (a22 LL6.out) (ints_all _ _) ?_
  generalize (w4.setCells b6 0 (ints .u8 a).toArray.toList) = w5 at *
  clear hw R6 LL6 Z6 
  have n63 : b6 ≠ b3 := by omega
  have n61 : b6 ≠ W.heap.size := by omega
  obtain ⟨x2, cx, fx, HX⟩ := hB6.1.spot (i := 31) (by rw [la]; omega)
  rw [Nat.zero_add] at cx fx
  obtain rfl : x0 = x2 := by
    have h := HX.out
    rw [hx] at h
    injection h
  have hD1 := hB6.1.set 31 x'
  rw [Nat.zero_add, hys] at hD1
  have h6b : By (w5.setCell ⟨b6, 31, none⟩ (.int .u8 x')) b6 ys := ⟨hD1, ly⟩
  have h1b : By (w5.setCell ⟨b6, 31, none⟩ (.int .u8 x')) W.heap.size a := ⟨h1.1.apart (p := ⟨b6, 31, none⟩) (.int .u8 x') (.inl n61), la⟩
  have h3b : B4 (w5.setCell ⟨b6, 31, none⟩ (.int .u8 x')) b3 off := ⟨hB3.1.apart (p := ⟨b6, 31, none⟩) (.int .u8 x') (.inl n63), hB3.2⟩
  have hWb := hW.setCell (p := ⟨b6, 31, none⟩) (by show W.heap.size ≤ b6; omega) (.int .u8 x')
  have hTb := hT0.next hWb
  have htm : Int.tmod x0 128 = x' := by rw [Int.tmod_eq_emod_of_nonneg hx0.1]; exact hx'
  have hx00 := hx0.1
  have hxw : IntKind.u8.wrap x' = x' := wrap_u8 _ (by omega)
  clear h1 hB3 hB6 hW hT HX hD1 hys hx
  go_upto_region 7 with (fail)
  generalize (w5.setCell ⟨b6, 31, none⟩ (.int .u8 x')) = w6 at *
  have h1 := h1b
  have hB3 := h3b
  have hB6 := h6b
  have hW := hWb
  have hT := hTb
  clear h1b h3b h6b hWb hTb cx fx htm hxw n63 n61 n31 lt3 lt1
  have s6 := hW.size
  refine region_seq2 3 110 (fun _ => false) [Is (.agg (ints .u8 ys).toArray), IsN (bn ys), IsN (bn ys)] [26, 27, 7] (by kernel_rfl) (by kernel_rfl) (Nat.le_of_eq rfl) (grows_cons (Is.grows _) (grows_cons (IsN.grows _) (grows_cons (IsN.grows _) grows_nil)))
    ⟨step_by rfl (.inl rfl) hB6 6 rfl (by kernel_rfl) rfl rfl,
     step_dgs rfl (.inl rfl) ly yys rfl rfl (knows_in 0 26 (by decide) (by kernel_rfl) rfl rfl),
     step_copyN rfl (.inl rfl) 1 27 (.inr rfl) rfl (by decide) (by kernel_rfl) rfl rfl, trivial⟩ ?_
  intro val w7 hw hS hap hla
  have e26 : val 26 = (.agg (ints .u8 ys).toArray) := hS 0 26 (by decide) rfl
  obtain ⟨A27, c27, y27, e27, H27, M27⟩ := hS 1 27 (by decide) rfl
  obtain ⟨A7, c7, y7, e7, H7, M7⟩ := hS 2 7 (by decide) rfl
  simp only [putVals, List.foldl_cons, List.foldl_nil, List.drop_succ_cons, List.drop_zero, Act.put, List.setIfInBounds_toArray, List.set_cons_succ, List.set_cons_zero, e26, e27, e7]
  clear hS hap hla e26 e27 e7 H27 M27
  replace hT := hT.next hw
  replace h1 := h1.next hw
  replace hB3 := hB3.next hw
  replace hB6 := hB6.next hw
  replace hW := hW.trans (Below.mono hw hW.size)
  clear hw
  go_upto_region 8 with (fail)
  have s7 := hW.size
  refine region_seq2 1 110 (fun i => i == 0) [IsZ4 w7.heap.size] [8] (by kernel_rfl) (by kernel_rfl) (Nat.le_of_eq rfl) (grows_cons (IsZ4.grows _) grows_nil)
    ⟨step_alloc28 (.inl rfl) rfl rfl, trivial⟩ ?_
  intro val w8 hw hS hap hla
  obtain ⟨b8, e8, L8, Z8⟩ := hS 0 8 (by decide) rfl
  simp only [putVals, List.foldl_cons, List.foldl_nil, List.drop_succ_cons, List.drop_zero, Act.put, List.setIfInBounds_toArray, List.set_cons_succ, List.set_cons_zero, e8]
  clear hS hap hla e8 
  replace hT := hT.next hw
  replace h1 := h1.next hw
  replace hB3 := hB3.next hw
  replace hB6 := hB6.next hw
  replace M7 := M7.below hw
  replace hW := hW.trans (Below.mono hw hW.size)
  clear hw
  go_upto_region 9 with (fail)
  have s8 := hW.size
  refine region_seq2 25 110 (fun _ => false) [Is (.agg (ints .i64 (zeros 64)).toArray), Is (.bool false), Is (.bool false), Is (.agg (ints .i64 (zeros 64)).toArray), Is (.agg (ints .u8 (zeros 32)).toArray), Is (.agg (ints .u8 (zeros 32)).toArray), Is (.bool false), Is (.bool false), Is (.bool false), Is (.agg (ints .i64 (zeros 64)).toArray), Is (.agg (ints .i64 off).toArray), Is (.agg (ints .i64 sz).toArray), Is (.bool false), Is (.bool false), Is (.bool false), Is (.agg (ints .i64 (zeros 64)).toArray), Is (.agg (ints .u8 a).toArray), Is (.agg (ints .i64 (zeros 64)).toArray), Is (.bool false), Is (.bool false), Is (.bool false), Is (.agg (ints .i64 (zeros 64)).toArray), Is (.agg (ints .i64 ng).toArray), Is (.bool false), Is (.bool false)] [28, 29, 30, 31, 32, 33, 34, 35, 36, 37, 38, 39, 40, 41, 42, 43, 44, 45, 46, 47, 48, 49, 50, 51, 52] (by kernel_rfl) (by kernel_rfl) (Nat.le_of_eq rfl) (grows_cons (Is.grows _) (grows_cons (Is.grows _) (grows_cons (Is.grows _) (grows_cons (Is.grows _) (grows_cons (Is.grows _) (grows_cons (Is.grows _) (grows_cons (Is.grows _) (grows_cons (Is.grows _) (grows_cons (Is.grows _) (grows_cons (Is.grows _) (grows_cons (Is.grows _) (grows_cons (Is.grows _) (grows_cons (Is.grows _) (grows_cons (Is.grows _) (grows_cons (Is.grows _) (grows_cons (Is.grows _) (grows_cons (Is.grows _) (grows_cons (Is.grows _) (grows_cons (Is.grows _) (grows_cons (Is.grows _) (grows_cons (Is.grows _) (grows_cons (Is.grows _) (grows_cons (Is.grows _) (grows_cons (Is.grows _) (grows_cons (Is.grows _) grows_nil)))))))))))))))))))))))))
    ⟨step_pt rfl (.inl rfl) Z8 8 rfl (by kernel_rfl) rfl rfl,
     step_toT rfl (.inl rfl) rfl cg9 hT none_on rfl (one_arg (knows_in 0 28 (by decide) (by kernel_rfl) rfl rfl)),
     step_mv rfl (.inl rfl) rfl rfl (knows_in 1 29 (by decide) (by kernel_rfl) rfl rfl),
     step_pt rfl (.inr ⟨2, false, 30, rfl, by decide, by kernel_rfl, rfl, fun _ _ h => h⟩) Z8 8 rfl (by kernel_rfl) rfl rfl,
     step_to rfl (.inr ⟨2, false, 30, rfl, by decide, by kernel_rfl, rfl, fun _ _ h => h⟩) rfl cg10 none_bytes rfl (one_arg (knows_in 3 31 (by decide) (by kernel_rfl) rfl rfl)),
     step_noneB rfl (.inr ⟨2, false, 30, rfl, by decide, by kernel_rfl, rfl, fun _ _ h => h⟩) rfl rfl,
     step_nes rfl (.inr ⟨2, false, 30, rfl, by decide, by kernel_rfl, rfl, fun _ _ h => h⟩) rfl (zeros_len 32) rfl (knows_in 4 32 (by decide) (by kernel_rfl) rfl rfl) (knows_in 5 33 (by decide) (by kernel_rfl) rfl rfl),
     step_pick rfl (.inl rfl) (b := false) rfl rfl (knows_in 2 30 (by decide) (by kernel_rfl) rfl rfl) (knows_in 6 34 (by decide) (by kernel_rfl) rfl rfl),
     step_mv rfl (.inl rfl) rfl rfl (knows_in 7 35 (by decide) (by kernel_rfl) rfl rfl),
     step_pt rfl (.inr ⟨8, false, 36, rfl, by decide, by kernel_rfl, rfl, fun _ _ h => h⟩) Z8 8 rfl (by kernel_rfl) rfl rfl,
     step_pt rfl (.inr ⟨8, false, 36, rfl, by decide, by kernel_rfl, rfl, fun _ _ h => h⟩) hB3 3 rfl (by kernel_rfl) rfl rfl,
     step_toT rfl (.inr ⟨8, false, 36, rfl, by decide, by kernel_rfl, rfl, fun _ _ h => h⟩) rfl cg11 hT ksz rfl (two_args (knows_in 9 37 (by decide) (by kernel_rfl) rfl rfl) (knows_in 10 38 (by decide) (by kernel_rfl) rfl rfl)),
     step_toT rfl (.inr ⟨8, false, 36, rfl, by decide, by kernel_rfl, rfl, fun _ _ h => h⟩) rfl cg9 hT osz rfl (one_arg (knows_in 11 39 (by decide) (by kernel_rfl) rfl rfl)),
     step_pick rfl (.inl rfl) (b := false) rfl rfl (knows_in 8 36 (by decide) (by kernel_rfl) rfl rfl) (knows_in 12 40 (by decide) (by kernel_rfl) rfl rfl),
     step_mv rfl (.inl rfl) rfl rfl (knows_in 13 41 (by decide) (by kernel_rfl) rfl rfl),
     step_pt rfl (.inr ⟨14, false, 42, rfl, by decide, by kernel_rfl, rfl, fun _ _ h => h⟩) Z8 8 rfl (by kernel_rfl) rfl rfl,
     step_by rfl (.inr ⟨14, false, 42, rfl, by decide, by kernel_rfl, rfl, fun _ _ h => h⟩) h1 1 rfl (by kernel_rfl) rfl rfl,
     step_to rfl (.inr ⟨14, false, 42, rfl, by decide, by kernel_rfl, rfl, fun _ _ h => h⟩) rfl cg12 (none_mul la) rfl (two_args (knows_in 15 43 (by decide) (by kernel_rfl) rfl rfl) (knows_in 16 44 (by decide) (by kernel_rfl) rfl rfl)),
     step_toT rfl (.inr ⟨14, false, 42, rfl, by decide, by kernel_rfl, rfl, fun _ _ h => h⟩) rfl cg9 hT none_on rfl (one_arg (knows_in 17 45 (by decide) (by kernel_rfl) rfl rfl)),
     step_pick rfl (.inl rfl) (b := false) rfl rfl (knows_in 14 42 (by decide) (by kernel_rfl) rfl rfl) (knows_in 18 46 (by decide) (by kernel_rfl) rfl rfl),
     step_mv rfl (.inl rfl) rfl rfl (knows_in 19 47 (by decide) (by kernel_rfl) rfl rfl),
     step_pt rfl (.inr ⟨20, false, 48, rfl, by decide, by kernel_rfl, rfl, fun _ _ h => h⟩) Z8 8 rfl (by kernel_rfl) rfl rfl,
     step_to rfl (.inr ⟨20, false, 48, rfl, by decide, by kernel_rfl, rfl, fun _ _ h => h⟩) rfl cg13 kng rfl (one_arg (knows_in 21 49 (by decide) (by kernel_rfl) rfl rfl)),
     step_toT rfl (.inr ⟨20, false, 48, rfl, by decide, by kernel_rfl, rfl, fun _ _ h => h⟩) rfl cg9 hT ong rfl (one_arg (knows_in 22 50 (by decide) (by kernel_rfl) rfl rfl)),
     step_pick rfl (.inl rfl) (b := false) rfl rfl (knows_in 20 48 (by decide) (by kernel_rfl) rfl rfl) (knows_in 23 51 (by decide) (by kernel_rfl) rfl rfl), trivial⟩ ?_
  intro val w9 hw hS hap hla
  have e28 : val 28 = (.agg (ints .i64 (zeros 64)).toArray) := hS 0 28 (by decide) rfl
  have e29 : val 29 = (.bool false) := hS 1 29 (by decide) rfl
  have e30 : val 30 = (.bool false) := hS 2 30 (by decide) rfl
  have e31 : val 31 = (.agg (ints .i64 (zeros 64)).toArray) := hS 3 31 (by decide) rfl
  have e32 : val 32 = (.agg (ints .u8 (zeros 32)).toArray) := hS 4 32 (by decide) rfl
  have e33 : val 33 = (.agg (ints .u8 (zeros 32)).toArray) := hS 5 33 (by decide) rfl
  have e34 : val 34 = (.bool false) := hS 6 34 (by decide) rfl
  have e35 : val 35 = (.bool false) := hS 7 35 (by decide) rfl
  have e36 : val 36 = (.bool false) := hS 8 36 (by decide) rfl
  have e37 : val 37 = (.agg (ints .i64 (zeros 64)).toArray) := hS 9 37 (by decide) rfl
  have e38 : val 38 = (.agg (ints .i64 off).toArray) := hS 10 38 (by decide) rfl
  have e39 : val 39 = (.agg (ints .i64 sz).toArray) := hS 11 39 (by decide) rfl
  have e40 : val 40 = (.bool false) := hS 12 40 (by decide) rfl
  have e41 : val 41 = (.bool false) := hS 13 41 (by decide) rfl
  have e42 : val 42 = (.bool false) := hS 14 42 (by decide) rfl
  have e43 : val 43 = (.agg (ints .i64 (zeros 64)).toArray) := hS 15 43 (by decide) rfl
  have e44 : val 44 = (.agg (ints .u8 a).toArray) := hS 16 44 (by decide) rfl
  have e45 : val 45 = (.agg (ints .i64 (zeros 64)).toArray) := hS 17 45 (by decide) rfl
  have e46 : val 46 = (.bool false) := hS 18 46 (by decide) rfl
  have e47 : val 47 = (.bool false) := hS 19 47 (by decide) rfl
  have e48 : val 48 = (.bool false) := hS 20 48 (by decide) rfl
  have e49 : val 49 = (.agg (ints .i64 (zeros 64)).toArray) := hS 21 49 (by decide) rfl
  have e50 : val 50 = (.agg (ints .i64 ng).toArray) := hS 22 50 (by decide) rfl
  have e51 : val 51 = (.bool false) := hS 23 51 (by decide) rfl
  have e52 : val 52 = (.bool false) := hS 24 52 (by decide) rfl
  simp only [putVals, List.foldl_cons, List.foldl_nil, List.drop_succ_cons, List.drop_zero, Act.put, List.setIfInBounds_toArray, List.set_cons_succ, List.set_cons_zero, e28, e29, e30, e31, e32, e33, e34, e35, e36, e37, e38, e39, e40, e41, e42, e43, e44, e45, e46, e47, e48, e49, e50, e51, e52]
  clear hS hap hla e28 e29 e30 e31 e32 e33 e34 e35 e36 e37 e38 e39 e40 e41 e42 e43 e44 e45 e46 e47 e48 e49 e50 e51 e52 
  replace hT := hT.next hw
  replace h1 := h1.next hw
  replace hB3 := hB3.next hw
  replace hB6 := hB6.next hw
  replace M7 := M7.below hw
  replace Z8 := Z8.next hw
  replace hW := hW.trans (Below.mono hw hW.size)
  clear hw
  go_upto_region 11 with (fail)
  have s9 := hW.size
  refine region_seq2 3 110 (fun _ => false) [Is (.slice A7 16 c7), IsN NT.PN, Is (.bool false)] [53, 54, 55] (by kernel_rfl) (by kernel_rfl) (Nat.le_of_eq rfl) (grows_cons (Is.grows _) (grows_cons (IsN.grows _) (grows_cons (Is.grows _) grows_nil)))
    ⟨step_mv rfl (.inl rfl) rfl rfl (knows_out 7 (by kernel_rfl) rfl),
     step_rn rfl (.inl rfl) rfl cg15 rfl (fun a w hw hf hd => ⟨#[], by simp, rf_p w⟩),
     step_atl rfl (.inl rfl) hge rfl rfl ((knows_in 0 53 (by decide) (by kernel_rfl) rfl rfl).r H7 M7) (knowsN_in 1 54 (by decide) (by kernel_rfl) rfl rfl), trivial⟩ ?_
  intro val w10 hw hS hap hla
  have e53 : val 53 = (.slice A7 16 c7) := hS 0 53 (by decide) rfl
  obtain ⟨A54, c54, y54, e54, H54, M54⟩ := hS 1 54 (by decide) rfl
  have e55 : val 55 = (.bool false) := hS 2 55 (by decide) rfl
  simp only [putVals, List.foldl_cons, List.foldl_nil, List.drop_succ_cons, List.drop_zero, Act.put, List.setIfInBounds_toArray, List.set_cons_succ, List.set_cons_zero, e53, e54, e55]
  clear hS hap hla e53 e54 e55 H54 M54
  replace hT := hT.next hw
  replace h1 := h1.next hw
  replace hB3 := hB3.next hw
  replace hB6 := hB6.next hw
  replace M7 := M7.below hw
  replace Z8 := Z8.next hw
  replace hW := hW.trans (Below.mono hw hW.size)
  clear hw
  go_upto_region 13 with (fail)
  replace H7 : Hid (Rp y7 b.val) := hid (by rw [hbv]; exact H7.out)
  have s10 := hW.size
  refine region_seq2 4 110 (fun _ => false) [Is (.slice A7 16 c7), Is (.slice A7 16 c7), IsN ((b * b : Fin NT.PN)).val, IsN ((b * b : Fin NT.PN)).val] [63, 64, 65, 9] (by kernel_rfl) (by kernel_rfl) (Nat.le_of_eq rfl) (grows_cons (Is.grows _) (grows_cons (Is.grows _) (grows_cons (IsN.grows _) (grows_cons (IsN.grows _) grows_nil))))
    ⟨step_mv rfl (.inl rfl) rfl rfl (knows_out 7 (by kernel_rfl) rfl),
     step_mv rfl (.inl rfl) rfl rfl (knows_out 7 (by kernel_rfl) rfl),
     step_rn rfl (.inl rfl) rfl cf23 rfl (rn2 ((knows_in 0 63 (by decide) (by kernel_rfl) rfl rfl).r H7 M7) ((knows_in 1 64 (by decide) (by kernel_rfl) rfl rfl).r H7 M7) (fun h1 h2 h3 h4 => rf_mul h1 h2 h3 h4)),
     step_copyN rfl (.inl rfl) 2 65 (.inr rfl) rfl (by decide) (by kernel_rfl) rfl rfl, trivial⟩ ?_
  intro val w11 hw hS hap hla
  have e63 : val 63 = (.slice A7 16 c7) := hS 0 63 (by decide) rfl
  have e64 : val 64 = (.slice A7 16 c7) := hS 1 64 (by decide) rfl
  obtain ⟨A65, c65, y65, e65, H65, M65⟩ := hS 2 65 (by decide) rfl
  obtain ⟨A9, c9, y9, e9, H9, M9⟩ := hS 3 9 (by decide) rfl
  simp only [putVals, List.foldl_cons, List.foldl_nil, List.drop_succ_cons, List.drop_zero, Act.put, List.setIfInBounds_toArray, List.set_cons_succ, List.set_cons_zero, e63, e64, e65, e9]
  clear hS hap hla e63 e64 e65 e9 H65 M65
  replace hT := hT.next hw
  replace h1 := h1.next hw
  replace hB3 := hB3.next hw
  replace hB6 := hB6.next hw
  replace M7 := M7.below hw
  replace Z8 := Z8.next hw
  replace hW := hW.trans (Below.mono hw hW.size)
  clear hw
  go_upto_region 14 with (fail)
  have s11 := hW.size
  refine region_seq2 11 110 (fun _ => false) [Is (.slice A9 16 c9), IsN ((1 : Fin NT.PN)).val, IsN (((b * b : Fin NT.PN) - (1 : Fin NT.PN) : Fin NT.PN)).val, IsN ((1 : Fin NT.PN)).val, IsN (dF).val, Is (.slice A9 16 c9), IsN ((dF * (b * b : Fin NT.PN) : Fin NT.PN)).val, IsN (((1 : Fin NT.PN) + (dF * (b * b : Fin NT.PN) : Fin NT.PN) : Fin NT.PN)).val, IsN ((iv ((1 : Fin NT.PN) + (dF * (b * b : Fin NT.PN) : Fin NT.PN) : Fin NT.PN))).val, IsN ((((b * b : Fin NT.PN) - (1 : Fin NT.PN) : Fin NT.PN) * (iv ((1 : Fin NT.PN) + (dF * (b * b : Fin NT.PN) : Fin NT.PN) : Fin NT.PN)) : Fin NT.PN)).val, IsN ((((b * b : Fin NT.PN) - (1 : Fin NT.PN) : Fin NT.PN) * (iv ((1 : Fin NT.PN) + (dF * (b * b : Fin NT.PN) : Fin NT.PN) : Fin NT.PN)) : Fin NT.PN)).val] [66, 67, 68, 69, 70, 71, 72, 73, 74, 75, 10] (by kernel_rfl) (by kernel_rfl) (Nat.le_of_eq rfl) (grows_cons (Is.grows _) (grows_cons (IsN.grows _) (grows_cons (IsN.grows _) (grows_cons (IsN.grows _) (grows_cons (IsN.grows _) (grows_cons (Is.grows _) (grows_cons (IsN.grows _) (grows_cons (IsN.grows _) (grows_cons (IsN.grows _) (grows_cons (IsN.grows _) (grows_cons (IsN.grows _) grows_nil)))))))))))
    ⟨step_mv rfl (.inl rfl) rfl rfl (knows_out 9 (by kernel_rfl) rfl),
     step_rn rfl (.inl rfl) rfl cf17 rfl (fun a w hw hf hd => ⟨_, rfl, by rw [map1]; exact rf_small 1 (by decide) w⟩),
     step_rn rfl (.inl rfl) rfl cf21 rfl (rn2 ((knows_in 0 66 (by decide) (by kernel_rfl) rfl rfl).r H9 M9) (knowsN_in 1 67 (by decide) (by kernel_rfl) rfl rfl) (fun h1 h2 h3 h4 => rf_sub h1 h2 h3 h4)),
     step_rn rfl (.inl rfl) rfl cf17 rfl (fun a w hw hf hd => ⟨_, rfl, by rw [map1]; exact rf_small 1 (by decide) w⟩),
     step_rn rfl (.inl rfl) rfl cg21 rfl (fun a w hw hf hd => ⟨#[], by simp, rf_d w⟩),
     step_mv rfl (.inl rfl) rfl rfl (knows_out 9 (by kernel_rfl) rfl),
     step_rn rfl (.inl rfl) rfl cf23 rfl (rn2 (knowsN_in 4 70 (by decide) (by kernel_rfl) rfl rfl) ((knows_in 5 71 (by decide) (by kernel_rfl) rfl rfl).r H9 M9) (fun h1 h2 h3 h4 => rf_mul h1 h2 h3 h4)),
     step_rn rfl (.inl rfl) rfl cf19 rfl (rn2 (knowsN_in 3 69 (by decide) (by kernel_rfl) rfl rfl) (knowsN_in 6 72 (by decide) (by kernel_rfl) rfl rfl) (fun h1 h2 h3 h4 => rf_add h1 h2 h3 h4)),
     step_rn rfl (.inl rfl) rfl cg19 rfl (rn1 (knowsN_in 7 73 (by decide) (by kernel_rfl) rfl rfl) (fun h1 h2 => rf_inv h1 h2)),
     step_rn rfl (.inl rfl) rfl cf23 rfl (rn2 (knowsN_in 2 68 (by decide) (by kernel_rfl) rfl rfl) (knowsN_in 8 74 (by decide) (by kernel_rfl) rfl rfl) (fun h1 h2 h3 h4 => rf_mul h1 h2 h3 h4)),
     step_copyN rfl (.inl rfl) 9 75 (.inr rfl) rfl (by decide) (by kernel_rfl) rfl rfl, trivial⟩ ?_
  intro val w12 hw hS hap hla
  have e66 : val 66 = (.slice A9 16 c9) := hS 0 66 (by decide) rfl
  obtain ⟨A67, c67, y67, e67, H67, M67⟩ := hS 1 67 (by decide) rfl
  obtain ⟨A68, c68, y68, e68, H68, M68⟩ := hS 2 68 (by decide) rfl
  obtain ⟨A69, c69, y69, e69, H69, M69⟩ := hS 3 69 (by decide) rfl
  obtain ⟨A70, c70, y70, e70, H70, M70⟩ := hS 4 70 (by decide) rfl
  have e71 : val 71 = (.slice A9 16 c9) := hS 5 71 (by decide) rfl
  obtain ⟨A72, c72, y72, e72, H72, M72⟩ := hS 6 72 (by decide) rfl
  obtain ⟨A73, c73, y73, e73, H73, M73⟩ := hS 7 73 (by decide) rfl
  obtain ⟨A74, c74, y74, e74, H74, M74⟩ := hS 8 74 (by decide) rfl
  obtain ⟨A75, c75, y75, e75, H75, M75⟩ := hS 9 75 (by decide) rfl
  obtain ⟨A10, c10, y10, e10, H10, M10⟩ := hS 10 10 (by decide) rfl
  simp only [putVals, List.foldl_cons, List.foldl_nil, List.drop_succ_cons, List.drop_zero, Act.put, List.setIfInBounds_toArray, List.set_cons_succ, List.set_cons_zero, e66, e67, e68, e69, e70, e71, e72, e73, e74, e75, e10]
  clear hS hap hla e66 e67 e68 e69 e70 e71 e72 e73 e74 e75 e10 H67 M67 H68 M68 H69 M69 H70 M70 H72 M72 H73 M73 H74 M74 H75 M75
  replace hT := hT.next hw
  replace h1 := h1.next hw
  replace hB3 := hB3.next hw
  replace hB6 := hB6.next hw
  replace M7 := M7.below hw
  replace Z8 := Z8.next hw
  replace M9 := M9.below hw
  replace hW := hW.trans (Below.mono hw hW.size)
  clear hw
  go_upto_region 15 with (fail)
  have s12 := hW.size
  refine region_seq2 10 110 (fun _ => false) [Is (.slice A10 16 c10), Is (.bool true), Is (.bool false), Is (.bool false), Is (.slice A10 16 c10), Is (.bool false), Is (.bool false), Is undef, Is (.bool false), Is (.bool false)] [76, 77, 78, 79, 80, 81, 82, 83, 84, 85] (by kernel_rfl) (by kernel_rfl) (Nat.le_of_eq rfl) (grows_cons (Is.grows _) (grows_cons (Is.grows _) (grows_cons (Is.grows _) (grows_cons (Is.grows _) (grows_cons (Is.grows _) (grows_cons (Is.grows _) (grows_cons (Is.grows _) (grows_cons (Is.grows _) (grows_cons (Is.grows _) (grows_cons (Is.grows _) grows_nil))))))))))
    ⟨step_mv rfl (.inl rfl) rfl rfl (knows_out 10 (by kernel_rfl) rfl),
     step_sqr (m := (((b * b : Fin NT.PN) - (1 : Fin NT.PN) : Fin NT.PN) * (iv ((1 : Fin NT.PN) + (dF * (b * b : Fin NT.PN) : Fin NT.PN) : Fin NT.PN)) : Fin NT.PN)) rfl (.inl rfl) hsq rfl rfl ((knows_in 0 76 (by decide) (by kernel_rfl) rfl rfl).r H10 M10),
     step_not rfl (.inl rfl) (b := true) rfl rfl (knows_in 1 77 (by decide) (by kernel_rfl) rfl rfl),
     step_mv rfl (.inl rfl) rfl rfl (knows_in 2 78 (by decide) (by kernel_rfl) rfl rfl),
     step_mv rfl (.inr ⟨3, false, 79, rfl, by decide, by kernel_rfl, rfl, fun _ _ h => h⟩) rfl rfl (knows_out 10 (by kernel_rfl) rfl),
     step_zer (m := (((b * b : Fin NT.PN) - (1 : Fin NT.PN) : Fin NT.PN) * (iv ((1 : Fin NT.PN) + (dF * (b * b : Fin NT.PN) : Fin NT.PN) : Fin NT.PN)) : Fin NT.PN)) rfl (.inr ⟨3, false, 79, rfl, by decide, by kernel_rfl, rfl, fun _ _ h => h⟩) hze rfl rfl ((knows_in 4 80 (by decide) (by kernel_rfl) rfl rfl).r H10 M10),
     step_mv rfl (.inr ⟨3, false, 79, rfl, by decide, by kernel_rfl, rfl, fun _ _ h => h⟩) rfl rfl (knows_in 5 81 (by decide) (by kernel_rfl) rfl rfl),
     step_off rfl ⟨6, true, 82, rfl, by decide, by kernel_rfl, rfl, fun _ _ h => .inl h⟩ (fun _ => rfl),
     step_pick rfl (.inr ⟨3, false, 79, rfl, by decide, by kernel_rfl, rfl, fun _ _ h => h⟩) (b := false) rfl rfl (knows_in 6 82 (by decide) (by kernel_rfl) rfl rfl) (knows_const _),
     step_pick rfl (.inl rfl) (b := false) rfl rfl (knows_in 3 79 (by decide) (by kernel_rfl) rfl rfl) (knows_in 8 84 (by decide) (by kernel_rfl) rfl rfl), trivial⟩ ?_
  intro val w13 hw hS hap hla
  have e76 : val 76 = (.slice A10 16 c10) := hS 0 76 (by decide) rfl
  have e77 : val 77 = (.bool true) := hS 1 77 (by decide) rfl
  have e78 : val 78 = (.bool false) := hS 2 78 (by decide) rfl
  have e79 : val 79 = (.bool false) := hS 3 79 (by decide) rfl
  have e80 : val 80 = (.slice A10 16 c10) := hS 4 80 (by decide) rfl
  have e81 : val 81 = (.bool false) := hS 5 81 (by decide) rfl
  have e82 : val 82 = (.bool false) := hS 6 82 (by decide) rfl
  have e83 : val 83 = undef := hS 7 83 (by decide) rfl
  have e84 : val 84 = (.bool false) := hS 8 84 (by decide) rfl
  have e85 : val 85 = (.bool false) := hS 9 85 (by decide) rfl
  simp only [putVals, List.foldl_cons, List.foldl_nil, List.drop_succ_cons, List.drop_zero, Act.put, List.setIfInBounds_toArray, List.set_cons_succ, List.set_cons_zero, e76, e77, e78, e79, e80, e81, e82, e83, e84, e85]
  clear hS hap hla e76 e77 e78 e79 e80 e81 e82 e83 e84 e85 
  replace hT := hT.next hw
  replace h1 := h1.next hw
  replace hB3 := hB3.next hw
  replace hB6 := hB6.next hw
  replace M7 := M7.below hw
  replace Z8 := Z8.next hw
  replace M9 := M9.below hw
  replace M10 := M10.below hw
  replace hW := hW.trans (Below.mono hw hW.size)
  clear hw
  go_wp2_with (fail)
  have s13 := hW.size
  refine region_spec2 17 110 (fun _ => false) [Is (.int .i64 0), Is (.bool true), Is (.bool true), Is (.agg (ints .i64 off).toArray), Is (.bool true), Is (.bool true), Is (.bool true), Is (.agg (ints .i64 off).toArray), Is (.agg (ints .u8 a).toArray), Is (.agg (ints .u8 a).toArray), Is (.bool true), Is (.bool true), Is (.bool true), Is (.agg (ints .i64 off).toArray), Is (.agg (ints .i64 off).toArray), Is (.bool true), Is (.bool true)] [93, 94, 95, 96, 97, 98, 99, 100, 101, 102, 103, 104, 105, 106, 107, 108, 109] (by kernel_rfl) (by kernel_rfl) (by kernel_rfl) (Nat.le_of_eq rfl) (grows_cons (Is.grows _) (grows_cons (Is.grows _) (grows_cons (Is.grows _) (grows_cons (Is.grows _) (grows_cons (Is.grows _) (grows_cons (Is.grows _) (grows_cons (Is.grows _) (grows_cons (Is.grows _) (grows_cons (Is.grows _) (grows_cons (Is.grows _) (grows_cons (Is.grows _) (grows_cons (Is.grows _) (grows_cons (Is.grows _) (grows_cons (Is.grows _) (grows_cons (Is.grows _) (grows_cons (Is.grows _) (grows_cons (Is.grows _) grows_nil)))))))))))))))))
    ⟨step_mv rfl (.inl rfl) rfl rfl (knows_out 4 (by kernel_rfl) rfl),
     step_eqE rfl (.inl rfl) rfl rfl rfl (knows_in 0 93 (by decide) (by kernel_rfl) rfl rfl),
     step_mv rfl (.inl rfl) rfl rfl (knows_in 1 94 (by decide) (by kernel_rfl) rfl rfl),
     step_pt rfl (.inr ⟨2, true, 95, rfl, by decide, by kernel_rfl, rfl, fun _ _ h => h⟩) hB3 3 rfl (by kernel_rfl) rfl rfl,
     step_toT rfl (.inr ⟨2, true, 95, rfl, by decide, by kernel_rfl, rfl, fun _ _ h => h⟩) rfl cg9 hT ooff rfl (one_arg (knows_in 3 96 (by decide) (by kernel_rfl) rfl rfl)),
     step_pick rfl (.inl rfl) (b := true) rfl rfl (knows_in 2 95 (by decide) (by kernel_rfl) rfl rfl) (knows_in 4 97 (by decide) (by kernel_rfl) rfl rfl),
     step_mv rfl (.inl rfl) rfl rfl (knows_in 5 98 (by decide) (by kernel_rfl) rfl rfl),
     step_pt rfl (.inr ⟨6, true, 99, rfl, by decide, by kernel_rfl, rfl, fun _ _ h => h⟩) hB3 3 rfl (by kernel_rfl) rfl rfl,
     step_to rfl (.inr ⟨6, true, 99, rfl, by decide, by kernel_rfl, rfl, fun _ _ h => h⟩) rfl cg10 yoff rfl (one_arg (knows_in 7 100 (by decide) (by kernel_rfl) rfl rfl)),
     step_by rfl (.inr ⟨6, true, 99, rfl, by decide, by kernel_rfl, rfl, fun _ _ h => h⟩) h1 1 rfl (by kernel_rfl) rfl rfl,
     step_eqs rfl (.inr ⟨6, true, 99, rfl, by decide, by kernel_rfl, rfl, fun _ _ h => h⟩) rfl la rfl (knows_in 8 101 (by decide) (by kernel_rfl) rfl rfl) (knows_in 9 102 (by decide) (by kernel_rfl) rfl rfl),
     step_pick rfl (.inl rfl) (b := true) rfl rfl (knows_in 6 99 (by decide) (by kernel_rfl) rfl rfl) (knows_in 10 103 (by decide) (by kernel_rfl) rfl rfl),
     step_mv rfl (.inl rfl) rfl rfl (knows_in 11 104 (by decide) (by kernel_rfl) rfl rfl),
     step_pt rfl (.inr ⟨12, true, 105, rfl, by decide, by kernel_rfl, rfl, fun _ _ h => h⟩) hB3 3 rfl (by kernel_rfl) rfl rfl,
     step_pt rfl (.inr ⟨12, true, 105, rfl, by decide, by kernel_rfl, rfl, fun _ _ h => h⟩) hB3 3 rfl (by kernel_rfl) rfl rfl,
     step_to rfl (.inr ⟨12, true, 105, rfl, by decide, by kernel_rfl, rfl, fun _ _ h => h⟩) rfl cg24 eoff rfl (two_args (knows_in 13 106 (by decide) (by kernel_rfl) rfl rfl) (knows_in 14 107 (by decide) (by kernel_rfl) rfl rfl)),
     step_pick rfl (.inl rfl) (b := true) rfl rfl (knows_in 12 105 (by decide) (by kernel_rfl) rfl rfl) (knows_in 15 108 (by decide) (by kernel_rfl) rfl rfl), trivial⟩ ?_
  intro val w14 hw hS hap hla
  have e93 : val 93 = (.int .i64 0) := hS 0 93 (by decide) rfl
  have e94 : val 94 = (.bool true) := hS 1 94 (by decide) rfl
  have e95 : val 95 = (.bool true) := hS 2 95 (by decide) rfl
  have e96 : val 96 = (.agg (ints .i64 off).toArray) := hS 3 96 (by decide) rfl
  have e97 : val 97 = (.bool true) := hS 4 97 (by decide) rfl
  have e98 : val 98 = (.bool true) := hS 5 98 (by decide) rfl
  have e99 : val 99 = (.bool true) := hS 6 99 (by decide) rfl
  have e100 : val 100 = (.agg (ints .i64 off).toArray) := hS 7 100 (by decide) rfl
  have e101 : val 101 = (.agg (ints .u8 a).toArray) := hS 8 101 (by decide) rfl
  have e102 : val 102 = (.agg (ints .u8 a).toArray) := hS 9 102 (by decide) rfl
  have e103 : val 103 = (.bool true) := hS 10 103 (by decide) rfl
  have e104 : val 104 = (.bool true) := hS 11 104 (by decide) rfl
  have e105 : val 105 = (.bool true) := hS 12 105 (by decide) rfl
  have e106 : val 106 = (.agg (ints .i64 off).toArray) := hS 13 106 (by decide) rfl
  have e107 : val 107 = (.agg (ints .i64 off).toArray) := hS 14 107 (by decide) rfl
  have e108 : val 108 = (.bool true) := hS 15 108 (by decide) rfl
  have e109 : val 109 = (.bool true) := hS 16 109 (by decide) rfl
  simp only [putVals, List.foldl_cons, List.foldl_nil, List.drop_succ_cons, List.drop_zero, Act.put, List.setIfInBounds_toArray, List.set_cons_succ, List.set_cons_zero, e93, e94, e95, e96, e97, e98, e99, e100, e101, e102, e103, e104, e105, e106, e107, e108, e109]
  clear hS hap hla e93 e94 e95 e96 e97 e98 e99 e100 e101 e102 e103 e104 e105 e106 e107 e108 e109 
  replace hT := hT.next hw
  replace h1 := h1.next hw
  replace hB3 := hB3.next hw
  replace hB6 := hB6.next hw
  replace M7 := M7.below hw
  replace Z8 := Z8.next hw
  replace M9 := M9.below hw
  replace M10 := M10.below hw
  replace hW := hW.trans (Below.mono hw hW.size)
  clear hw
  go_wp2_with (fail)
  go_ret
  exact ⟨rfl, hW⟩
end Go.Proofs.YtpaopdjbhmdfjaaDoor
