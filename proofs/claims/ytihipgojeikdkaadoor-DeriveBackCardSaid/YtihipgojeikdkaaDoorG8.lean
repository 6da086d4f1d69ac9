/- Texts of this proof, laid together: VBackS, VBackZ. -/
import Derived.Test.YtihipgojeikdkaaDoorG7
import Derived.Deep.Cut
/- Numbers of steps for which the law of states says nothing, or asks an error. -/
namespace Go.Proofs.YtihipgojeikdkaaDoor
open Go Go.RowKit

theorem uaVc : Tryd.prog.underlying 39 = some (.slice (Tryd.prog.elem 39)) := by kernel_rfl
set_option maxRecDepth 50000 in
theorem back_long_a (st : List Int) (n k : Int) (w : World) (hT : TabsH w) (h : 40 < n ∧ n ≤ 4096) : Calls Tryd.prog 5 #[.agg (ints .u8 st).toArray, .int .i64 n, .int .i64 k] w fun e w' => e = .returned (.bool true) ∧ Below w.heap.size w w' := by
  have hW := below_new w (.cells (ints .u8 st).toArray 30)
  have hT1 := hT.next hW
  have hs := hW.size
  have en0 : decide ((40 : Int) < n) = true := decide_eq_true (by omega)
  have en1 : decide (n ≤ (4096 : Int)) = true := decide_eq_true (by omega)
  clear h hT
  go_enter Tryd.func5, Tryd.ntmps5
  go_wp2_with (go_at_call 6; generalize w.alloc (.cells (ints .u8 st).toArray 30) = w1 at *; refine (awake_any _ hT1).mono ?_; rintro e w2 ⟨rfl, hb2⟩)
  go_ret
  exact ⟨rfl, hW.trans (hb2.mono hs)⟩
set_option maxRecDepth 50000 in
theorem back_long_b (st : List Int) (n k : Int) (w : World) (hT : TabsH w) (h : n ≤ 40 ∧ 40 < k ∧ k ≤ 4096) : Calls Tryd.prog 5 #[.agg (ints .u8 st).toArray, .int .i64 n, .int .i64 k] w fun e w' => e = .returned (.bool true) ∧ Below w.heap.size w w' := by
  have hW := below_new w (.cells (ints .u8 st).toArray 30)
  have hT1 := hT.next hW
  have hs := hW.size
  have en0 : decide ((40 : Int) < n) = false := decide_eq_false (by omega)
  have ek0 : decide ((40 : Int) < k) = true := decide_eq_true (by omega)
  have ek1 : decide (k ≤ (4096 : Int)) = true := decide_eq_true (by omega)
  clear h hT
  go_enter Tryd.func5, Tryd.ntmps5
  go_wp2_with (go_at_call 6; generalize w.alloc (.cells (ints .u8 st).toArray 30) = w1 at *; refine (awake_any _ hT1).mono ?_; rintro e w2 ⟨rfl, hb2⟩)
  go_ret
  exact ⟨rfl, hW.trans (hb2.mono hs)⟩
set_option maxRecDepth 50000 in
theorem back_long_c (st : List Int) (n k : Int) (w : World) (hT : TabsH w) (h : 4096 < n ∧ 40 < k ∧ k ≤ 4096) : Calls Tryd.prog 5 #[.agg (ints .u8 st).toArray, .int .i64 n, .int .i64 k] w fun e w' => e = .returned (.bool true) ∧ Below w.heap.size w w' := by
  have hW := below_new w (.cells (ints .u8 st).toArray 30)
  have hT1 := hT.next hW
  have hs := hW.size
  have en0 : decide ((40 : Int) < n) = true := decide_eq_true (by omega)
  have en1 : decide (n ≤ (4096 : Int)) = false := decide_eq_false (by omega)
  have ek0 : decide ((40 : Int) < k) = true := decide_eq_true (by omega)
  have ek1 : decide (k ≤ (4096 : Int)) = true := decide_eq_true (by omega)
  clear h hT
  go_enter Tryd.func5, Tryd.ntmps5
  go_wp2_with (go_at_call 6; generalize w.alloc (.cells (ints .u8 st).toArray 30) = w1 at *; refine (awake_any _ hT1).mono ?_; rintro e w2 ⟨rfl, hb2⟩)
  go_ret
  exact ⟨rfl, hW.trans (hb2.mono hs)⟩
set_option maxRecDepth 50000 in
set_option maxHeartbeats 4000000 in
theorem back_bad_a (st : List Int) (n k : Int) (w : World) (hT : TabsH w) (HSL : Hid (st.length = 32)) (h : n < 0 ∧ k ≤ 40) : Calls Tryd.prog 5 #[.agg (ints .u8 st).toArray, .int .i64 n, .int .i64 k] w fun e w' => e = .returned (.bool true) ∧ Below w.heap.size w w' := by
  obtain ⟨z32, s32⟩ := zero_of_info infS32
  have h3 := Rw.new w (ints .u8 st) 30
  have hW := below_new w (.cells (ints .u8 st).toArray 30)
  replace hT := hT.next hW
  have hB : n < 0 ∨ 4096 < n := by omega
  have hC : n < 1 ∨ 4096 < n := by omega
  have en0 : decide ((40 : Int) < n) = false := decide_eq_false (by omega)
  have en2 : decide (n < 0) = true := decide_eq_true (by omega)
  have ek0 : decide ((40 : Int) < k) = false := decide_eq_false (by omega)
  clear h
  have HBB := hid hB
  have HCC := hid hC
  clear hB hC
  go_enter Tryd.func5, Tryd.ntmps5
  go_upto_region 8 with (first
    | (go_at_call 6; generalize w.alloc (.cells (ints .u8 st).toArray 30) = w1 at *; refine (awake_any _ hT).mono ?_; rintro e w2 ⟨rfl, hb2⟩
       replace h3 := h3.next hb2
       replace hW := hW.trans (Below.mono hb2 hW.size)
       have r3 := h3.range
       clear hb2)
    | (with_reducible refine wpList_load_mid (op := ⟨some 34, .load 30 (.tmp 3), _, _, _, _⟩) rfl 30 (.tmp 3) rfl w.heap.size 0 rfl (ints .u8 st) _ r3 Tryd.underlying30 rfl (szV infS32 (il HSL.out)) ?_)
    | (go_at_call 14; clear r3; refine (back_bad st n _ HBB.out).mono ?_; rintro e w3 ⟨rfl, hb3⟩
       have R7 := (Rw.new w3 (ints .u8 (hzeros 32)) 30).roomA (us := ints .u8 (hzeros 32)) rfl
       have h7 := (Rw.new w3 (ints .u8 (hzeros 32)) 30).storedA (us := ints .u8 (hzeros 32)) rfl
       have hb4 := hb3.trans (Below.mono (Below.setCells (below_new w3 (.cells (ints .u8 (hzeros 32)).toArray 30)) (Nat.le_refl _) 0 (ints .u8 (hzeros 32)).toArray.toList) hb3.size)
       replace h3 := h3.next hb4
       replace hW := hW.trans (Below.mono hb4 hW.size)
       have r3b := h3.range
       clear hb3 hb4)
    | (with_reducible refine wpList_store_mid (op := ⟨none, .store 30 (.tmp 7) (.tmp 37), _, _, _, _⟩) rfl 30 (.tmp 7) (.tmp 37) rfl w3.heap.size 0 (ints .u8 (hzeros 32)).toArray rfl rfl R7 (szA infS32 (il (hz_len 32))) (ints_all _ _) ?_
       generalize (w3.alloc (.cells (ints .u8 (hzeros 32)).toArray 30)).setCells w3.heap.size 0 (ints .u8 (hzeros 32)).toArray.toList = w5 at *
       generalize w3.heap.size = b7 at *
       clear R7)
    | (with_reducible refine wpList_load_mid (op := ⟨some 40, .load 30 (.tmp 3), _, _, _, _⟩) rfl 30 (.tmp 3) rfl w.heap.size 0 rfl (ints .u8 st) _ r3b Tryd.underlying30 rfl (szV infS32 (il HSL.out)) ?_)
    | (go_at_call 15; clear r3b; refine (chain_bad st n _ HCC.out).mono ?_; rintro e w4 ⟨rfl, hb5⟩
       replace h7 := h7.next hb5
       replace hW := hW.trans (Below.mono hb5 hW.size)
       clear hb5 h3))
  have s4 := hW.size
  refine region_seq2 17 172 (fun _ => false) [Is (.int .i64 2), Is (.bool true), Is (.bool true), Is (.int .i64 2), Is (.bool true), Is (.bool true), Is (.bool true), Is (.agg (ints .u8 (hzeros 32)).toArray), Is (.agg (ints .u8 (hzeros 32)).toArray), Is (.bool true), Is (.bool true), Is (.bool true), Is (.slice none 0 0), Is (.int .i64 0), Is (.bool true), Is (.bool true), Is (.bool true)] [51, 52, 53, 54, 55, 56, 57, 58, 59, 60, 61, 62, 63, 64, 65, 66, 6] (by kernel_rfl) (by kernel_rfl) (Nat.le_of_eq rfl) (grows_cons (Is.grows _) (grows_cons (Is.grows _) (grows_cons (Is.grows _) (grows_cons (Is.grows _) (grows_cons (Is.grows _) (grows_cons (Is.grows _) (grows_cons (Is.grows _) (grows_cons (Is.grows _) (grows_cons (Is.grows _) (grows_cons (Is.grows _) (grows_cons (Is.grows _) (grows_cons (Is.grows _) (grows_cons (Is.grows _) (grows_cons (Is.grows _) (grows_cons (Is.grows _) (grows_cons (Is.grows _) (grows_cons (Is.grows _) grows_nil)))))))))))))))))
    ⟨step_mvP rfl (.inl rfl) rfl rfl (knows_out 8 (by kernel_rfl) rfl),
     step_eqC rfl (.inl rfl) rfl Tryd.underlying31 rfl (by decide) (knows_in 0 51 (by decide) (by kernel_rfl) rfl rfl),
     step_mvP rfl (.inl rfl) rfl rfl (knows_in 1 52 (by decide) (by kernel_rfl) rfl rfl),
     step_mvP rfl (.inr ⟨2, true, 53, rfl, by decide, by kernel_rfl, rfl, fun _ _ h => h⟩) rfl rfl (knows_out 10 (by kernel_rfl) rfl),
     step_eqC rfl (.inr ⟨2, true, 53, rfl, by decide, by kernel_rfl, rfl, fun _ _ h => h⟩) rfl Tryd.underlying31 rfl (by decide) (knows_in 3 54 (by decide) (by kernel_rfl) rfl rfl),
     step_pick rfl (.inl rfl) (b := true) rfl rfl (knows_in 2 53 (by decide) (by kernel_rfl) rfl rfl) (knows_in 4 55 (by decide) (by kernel_rfl) rfl rfl),
     step_mvP rfl (.inl rfl) rfl rfl (knows_in 5 56 (by decide) (by kernel_rfl) rfl rfl),
     step_ldV rfl (.inr ⟨6, true, 57, rfl, by decide, by kernel_rfl, rfl, fun _ _ h => h⟩) (fun _ hw => (h7.next hw).range) rfl Tryd.underlying30 rfl (szV infS32 (il (hz_len 32))) rfl (knows_out 7 (by kernel_rfl) rfl),
     step_buildP rfl (.inr ⟨6, true, 57, rfl, by decide, by kernel_rfl, rfl, fun _ _ h => h⟩) rfl builtV32 rfl (partsN),
     step_eqA rfl (.inr ⟨6, true, 57, rfl, by decide, by kernel_rfl, rfl, fun _ _ h => h⟩) rfl eqV32 (hz_len 32) (hz_len 32) (decide_eq_true rfl) rfl (knows_in 7 58 (by decide) (by kernel_rfl) rfl rfl) (knows_in 8 59 (by decide) (by kernel_rfl) rfl rfl),
     step_pick rfl (.inl rfl) (b := true) rfl rfl (knows_in 6 57 (by decide) (by kernel_rfl) rfl rfl) (knows_in 9 60 (by decide) (by kernel_rfl) rfl rfl),
     step_mvP rfl (.inl rfl) rfl rfl (knows_in 10 61 (by decide) (by kernel_rfl) rfl rfl),
     step_mvP rfl (.inr ⟨11, true, 62, rfl, by decide, by kernel_rfl, rfl, fun _ _ h => h⟩) rfl rfl (knows_out 9 (by kernel_rfl) rfl),
     step_len rfl (.inr ⟨11, true, 62, rfl, by decide, by kernel_rfl, rfl, fun _ _ h => h⟩) uaVc rfl rfl (knows_in 12 63 (by decide) (by kernel_rfl) rfl rfl),
     step_eqC rfl (.inr ⟨11, true, 62, rfl, by decide, by kernel_rfl, rfl, fun _ _ h => h⟩) rfl Tryd.underlying3 rfl (by decide) (knows_in 13 64 (by decide) (by kernel_rfl) rfl rfl),
     step_pick rfl (.inl rfl) (b := true) rfl rfl (knows_in 11 62 (by decide) (by kernel_rfl) rfl rfl) (knows_in 14 65 (by decide) (by kernel_rfl) rfl rfl),
     step_asgP rfl (.inl rfl) rfl rfl (knows_in 15 66 (by decide) (by kernel_rfl) rfl rfl), trivial⟩ ?_
  intro val w5 hw hS hap hla
  have e51 : val 51 = (.int .i64 2) := hS 0 51 (by decide) rfl
  have e52 : val 52 = (.bool true) := hS 1 52 (by decide) rfl
  have e53 : val 53 = (.bool true) := hS 2 53 (by decide) rfl
  have e54 : val 54 = (.int .i64 2) := hS 3 54 (by decide) rfl
  have e55 : val 55 = (.bool true) := hS 4 55 (by decide) rfl
  have e56 : val 56 = (.bool true) := hS 5 56 (by decide) rfl
  have e57 : val 57 = (.bool true) := hS 6 57 (by decide) rfl
  have e58 : val 58 = (.agg (ints .u8 (hzeros 32)).toArray) := hS 7 58 (by decide) rfl
  have e59 : val 59 = (.agg (ints .u8 (hzeros 32)).toArray) := hS 8 59 (by decide) rfl
  have e60 : val 60 = (.bool true) := hS 9 60 (by decide) rfl
  have e61 : val 61 = (.bool true) := hS 10 61 (by decide) rfl
  have e62 : val 62 = (.bool true) := hS 11 62 (by decide) rfl
  have e63 : val 63 = (.slice none 0 0) := hS 12 63 (by decide) rfl
  have e64 : val 64 = (.int .i64 0) := hS 13 64 (by decide) rfl
  have e65 : val 65 = (.bool true) := hS 14 65 (by decide) rfl
  have e66 : val 66 = (.bool true) := hS 15 66 (by decide) rfl
  have e6 : val 6 = (.bool true) := hS 16 6 (by decide) rfl
  simp only [putVals, List.foldl_cons, List.foldl_nil, List.drop_succ_cons, List.drop_zero, Act.put, List.setIfInBounds_toArray, List.set_cons_succ, List.set_cons_zero, e51, e52, e53, e54, e55, e56, e57, e58, e59, e60, e61, e62, e63, e64, e65, e66, e6]
  clear hS hap hla e51 e52 e53 e54 e55 e56 e57 e58 e59 e60 e61 e62 e63 e64 e65 e66 e6 
  replace hW := hW.trans (Below.mono hw hW.size)
  clear hw
  go_wp2
  go_ret
  exact ⟨rfl, hW⟩
set_option maxRecDepth 50000 in
set_option maxHeartbeats 4000000 in
theorem back_bad_b (st : List Int) (n k : Int) (w : World) (hT : TabsH w) (HSL : Hid (st.length = 32)) (h : n < 0 ∧ 4096 < k) : Calls Tryd.prog 5 #[.agg (ints .u8 st).toArray, .int .i64 n, .int .i64 k] w fun e w' => e = .returned (.bool true) ∧ Below w.heap.size w w' := by
  obtain ⟨z32, s32⟩ := zero_of_info infS32
  have h3 := Rw.new w (ints .u8 st) 30
  have hW := below_new w (.cells (ints .u8 st).toArray 30)
  replace hT := hT.next hW
  have hB : n < 0 ∨ 4096 < n := by omega
  have hC : n < 1 ∨ 4096 < n := by omega
  have en0 : decide ((40 : Int) < n) = false := decide_eq_false (by omega)
  have en2 : decide (n < 0) = true := decide_eq_true (by omega)
  have ek0 : decide ((40 : Int) < k) = true := decide_eq_true (by omega)
  have ek1 : decide (k ≤ (4096 : Int)) = false := decide_eq_false (by omega)
  clear h
  have HBB := hid hB
  have HCC := hid hC
  clear hB hC
  go_enter Tryd.func5, Tryd.ntmps5
  go_upto_region 8 with (first
    | (go_at_call 6; generalize w.alloc (.cells (ints .u8 st).toArray 30) = w1 at *; refine (awake_any _ hT).mono ?_; rintro e w2 ⟨rfl, hb2⟩
       replace h3 := h3.next hb2
       replace hW := hW.trans (Below.mono hb2 hW.size)
       have r3 := h3.range
       clear hb2)
    | (with_reducible refine wpList_load_mid (op := ⟨some 34, .load 30 (.tmp 3), _, _, _, _⟩) rfl 30 (.tmp 3) rfl w.heap.size 0 rfl (ints .u8 st) _ r3 Tryd.underlying30 rfl (szV infS32 (il HSL.out)) ?_)
    | (go_at_call 14; clear r3; refine (back_bad st n _ HBB.out).mono ?_; rintro e w3 ⟨rfl, hb3⟩
       have R7 := (Rw.new w3 (ints .u8 (hzeros 32)) 30).roomA (us := ints .u8 (hzeros 32)) rfl
       have h7 := (Rw.new w3 (ints .u8 (hzeros 32)) 30).storedA (us := ints .u8 (hzeros 32)) rfl
       have hb4 := hb3.trans (Below.mono (Below.setCells (below_new w3 (.cells (ints .u8 (hzeros 32)).toArray 30)) (Nat.le_refl _) 0 (ints .u8 (hzeros 32)).toArray.toList) hb3.size)
       replace h3 := h3.next hb4
       replace hW := hW.trans (Below.mono hb4 hW.size)
       have r3b := h3.range
       clear hb3 hb4)
    | (with_reducible refine wpList_store_mid (op := ⟨none, .store 30 (.tmp 7) (.tmp 37), _, _, _, _⟩) rfl 30 (.tmp 7) (.tmp 37) rfl w3.heap.size 0 (ints .u8 (hzeros 32)).toArray rfl rfl R7 (szA infS32 (il (hz_len 32))) (ints_all _ _) ?_
       generalize (w3.alloc (.cells (ints .u8 (hzeros 32)).toArray 30)).setCells w3.heap.size 0 (ints .u8 (hzeros 32)).toArray.toList = w5 at *
       generalize w3.heap.size = b7 at *
       clear R7)
    | (with_reducible refine wpList_load_mid (op := ⟨some 40, .load 30 (.tmp 3), _, _, _, _⟩) rfl 30 (.tmp 3) rfl w.heap.size 0 rfl (ints .u8 st) _ r3b Tryd.underlying30 rfl (szV infS32 (il HSL.out)) ?_)
    | (go_at_call 15; clear r3b; refine (chain_bad st n _ HCC.out).mono ?_; rintro e w4 ⟨rfl, hb5⟩
       replace h7 := h7.next hb5
       replace hW := hW.trans (Below.mono hb5 hW.size)
       clear hb5 h3))
  have s4 := hW.size
  refine region_seq2 17 172 (fun _ => false) [Is (.int .i64 2), Is (.bool true), Is (.bool true), Is (.int .i64 2), Is (.bool true), Is (.bool true), Is (.bool true), Is (.agg (ints .u8 (hzeros 32)).toArray), Is (.agg (ints .u8 (hzeros 32)).toArray), Is (.bool true), Is (.bool true), Is (.bool true), Is (.slice none 0 0), Is (.int .i64 0), Is (.bool true), Is (.bool true), Is (.bool true)] [51, 52, 53, 54, 55, 56, 57, 58, 59, 60, 61, 62, 63, 64, 65, 66, 6] (by kernel_rfl) (by kernel_rfl) (Nat.le_of_eq rfl) (grows_cons (Is.grows _) (grows_cons (Is.grows _) (grows_cons (Is.grows _) (grows_cons (Is.grows _) (grows_cons (Is.grows _) (grows_cons (Is.grows _) (grows_cons (Is.grows _) (grows_cons (Is.grows _) (grows_cons (Is.grows _) (grows_cons (Is.grows _) (grows_cons (Is.grows _) (grows_cons (Is.grows _) (grows_cons (Is.grows _) (grows_cons (Is.grows _) (grows_cons (Is.grows _) (grows_cons (Is.grows _) (grows_cons (Is.grows _) grows_nil)))))))))))))))))
    ⟨step_mvP rfl (.inl rfl) rfl rfl (knows_out 8 (by kernel_rfl) rfl),
     step_eqC rfl (.inl rfl) rfl Tryd.underlying31 rfl (by decide) (knows_in 0 51 (by decide) (by kernel_rfl) rfl rfl),
     step_mvP rfl (.inl rfl) rfl rfl (knows_in 1 52 (by decide) (by kernel_rfl) rfl rfl),
     step_mvP rfl (.inr ⟨2, true, 53, rfl, by decide, by kernel_rfl, rfl, fun _ _ h => h⟩) rfl rfl (knows_out 10 (by kernel_rfl) rfl),
     step_eqC rfl (.inr ⟨2, true, 53, rfl, by decide, by kernel_rfl, rfl, fun _ _ h => h⟩) rfl Tryd.underlying31 rfl (by decide) (knows_in 3 54 (by decide) (by kernel_rfl) rfl rfl),
     step_pick rfl (.inl rfl) (b := true) rfl rfl (knows_in 2 53 (by decide) (by kernel_rfl) rfl rfl) (knows_in 4 55 (by decide) (by kernel_rfl) rfl rfl),
     step_mvP rfl (.inl rfl) rfl rfl (knows_in 5 56 (by decide) (by kernel_rfl) rfl rfl),
     step_ldV rfl (.inr ⟨6, true, 57, rfl, by decide, by kernel_rfl, rfl, fun _ _ h => h⟩) (fun _ hw => (h7.next hw).range) rfl Tryd.underlying30 rfl (szV infS32 (il (hz_len 32))) rfl (knows_out 7 (by kernel_rfl) rfl),
     step_buildP rfl (.inr ⟨6, true, 57, rfl, by decide, by kernel_rfl, rfl, fun _ _ h => h⟩) rfl builtV32 rfl (partsN),
     step_eqA rfl (.inr ⟨6, true, 57, rfl, by decide, by kernel_rfl, rfl, fun _ _ h => h⟩) rfl eqV32 (hz_len 32) (hz_len 32) (decide_eq_true rfl) rfl (knows_in 7 58 (by decide) (by kernel_rfl) rfl rfl) (knows_in 8 59 (by decide) (by kernel_rfl) rfl rfl),
     step_pick rfl (.inl rfl) (b := true) rfl rfl (knows_in 6 57 (by decide) (by kernel_rfl) rfl rfl) (knows_in 9 60 (by decide) (by kernel_rfl) rfl rfl),
     step_mvP rfl (.inl rfl) rfl rfl (knows_in 10 61 (by decide) (by kernel_rfl) rfl rfl),
     step_mvP rfl (.inr ⟨11, true, 62, rfl, by decide, by kernel_rfl, rfl, fun _ _ h => h⟩) rfl rfl (knows_out 9 (by kernel_rfl) rfl),
     step_len rfl (.inr ⟨11, true, 62, rfl, by decide, by kernel_rfl, rfl, fun _ _ h => h⟩) uaVc rfl rfl (knows_in 12 63 (by decide) (by kernel_rfl) rfl rfl),
     step_eqC rfl (.inr ⟨11, true, 62, rfl, by decide, by kernel_rfl, rfl, fun _ _ h => h⟩) rfl Tryd.underlying3 rfl (by decide) (knows_in 13 64 (by decide) (by kernel_rfl) rfl rfl),
     step_pick rfl (.inl rfl) (b := true) rfl rfl (knows_in 11 62 (by decide) (by kernel_rfl) rfl rfl) (knows_in 14 65 (by decide) (by kernel_rfl) rfl rfl),
     step_asgP rfl (.inl rfl) rfl rfl (knows_in 15 66 (by decide) (by kernel_rfl) rfl rfl), trivial⟩ ?_
  intro val w5 hw hS hap hla
  have e51 : val 51 = (.int .i64 2) := hS 0 51 (by decide) rfl
  have e52 : val 52 = (.bool true) := hS 1 52 (by decide) rfl
  have e53 : val 53 = (.bool true) := hS 2 53 (by decide) rfl
  have e54 : val 54 = (.int .i64 2) := hS 3 54 (by decide) rfl
  have e55 : val 55 = (.bool true) := hS 4 55 (by decide) rfl
  have e56 : val 56 = (.bool true) := hS 5 56 (by decide) rfl
  have e57 : val 57 = (.bool true) := hS 6 57 (by decide) rfl
  have e58 : val 58 = (.agg (ints .u8 (hzeros 32)).toArray) := hS 7 58 (by decide) rfl
  have e59 : val 59 = (.agg (ints .u8 (hzeros 32)).toArray) := hS 8 59 (by decide) rfl
  have e60 : val 60 = (.bool true) := hS 9 60 (by decide) rfl
  have e61 : val 61 = (.bool true) := hS 10 61 (by decide) rfl
  have e62 : val 62 = (.bool true) := hS 11 62 (by decide) rfl
  have e63 : val 63 = (.slice none 0 0) := hS 12 63 (by decide) rfl
  have e64 : val 64 = (.int .i64 0) := hS 13 64 (by decide) rfl
  have e65 : val 65 = (.bool true) := hS 14 65 (by decide) rfl
  have e66 : val 66 = (.bool true) := hS 15 66 (by decide) rfl
  have e6 : val 6 = (.bool true) := hS 16 6 (by decide) rfl
  simp only [putVals, List.foldl_cons, List.foldl_nil, List.drop_succ_cons, List.drop_zero, Act.put, List.setIfInBounds_toArray, List.set_cons_succ, List.set_cons_zero, e51, e52, e53, e54, e55, e56, e57, e58, e59, e60, e61, e62, e63, e64, e65, e66, e6]
  clear hS hap hla e51 e52 e53 e54 e55 e56 e57 e58 e59 e60 e61 e62 e63 e64 e65 e66 e6 
  replace hW := hW.trans (Below.mono hw hW.size)
  clear hw
  go_wp2
  go_ret
  exact ⟨rfl, hW⟩
set_option maxRecDepth 50000 in
set_option maxHeartbeats 4000000 in
theorem back_bad_c (st : List Int) (n k : Int) (w : World) (hT : TabsH w) (HSL : Hid (st.length = 32)) (h : 4096 < n ∧ k ≤ 40) : Calls Tryd.prog 5 #[.agg (ints .u8 st).toArray, .int .i64 n, .int .i64 k] w fun e w' => e = .returned (.bool true) ∧ Below w.heap.size w w' := by
  obtain ⟨z32, s32⟩ := zero_of_info infS32
  have h3 := Rw.new w (ints .u8 st) 30
  have hW := below_new w (.cells (ints .u8 st).toArray 30)
  replace hT := hT.next hW
  have hB : n < 0 ∨ 4096 < n := by omega
  have hC : n < 1 ∨ 4096 < n := by omega
  have en0 : decide ((40 : Int) < n) = true := decide_eq_true (by omega)
  have en1 : decide (n ≤ (4096 : Int)) = false := decide_eq_false (by omega)
  have en2 : decide (n < 0) = false := decide_eq_false (by omega)
  have en3 : decide ((4096 : Int) < n) = true := decide_eq_true (by omega)
  have ek0 : decide ((40 : Int) < k) = false := decide_eq_false (by omega)
  clear h
  have HBB := hid hB
  have HCC := hid hC
  clear hB hC
  go_enter Tryd.func5, Tryd.ntmps5
  go_upto_region 8 with (first
    | (go_at_call 6; generalize w.alloc (.cells (ints .u8 st).toArray 30) = w1 at *; refine (awake_any _ hT).mono ?_; rintro e w2 ⟨rfl, hb2⟩
       replace h3 := h3.next hb2
       replace hW := hW.trans (Below.mono hb2 hW.size)
       have r3 := h3.range
       clear hb2)
    | (with_reducible refine wpList_load_mid (op := ⟨some 34, .load 30 (.tmp 3), _, _, _, _⟩) rfl 30 (.tmp 3) rfl w.heap.size 0 rfl (ints .u8 st) _ r3 Tryd.underlying30 rfl (szV infS32 (il HSL.out)) ?_)
    | (go_at_call 14; clear r3; refine (back_bad st n _ HBB.out).mono ?_; rintro e w3 ⟨rfl, hb3⟩
       have R7 := (Rw.new w3 (ints .u8 (hzeros 32)) 30).roomA (us := ints .u8 (hzeros 32)) rfl
       have h7 := (Rw.new w3 (ints .u8 (hzeros 32)) 30).storedA (us := ints .u8 (hzeros 32)) rfl
       have hb4 := hb3.trans (Below.mono (Below.setCells (below_new w3 (.cells (ints .u8 (hzeros 32)).toArray 30)) (Nat.le_refl _) 0 (ints .u8 (hzeros 32)).toArray.toList) hb3.size)
       replace h3 := h3.next hb4
       replace hW := hW.trans (Below.mono hb4 hW.size)
       have r3b := h3.range
       clear hb3 hb4)
    | (with_reducible refine wpList_store_mid (op := ⟨none, .store 30 (.tmp 7) (.tmp 37), _, _, _, _⟩) rfl 30 (.tmp 7) (.tmp 37) rfl w3.heap.size 0 (ints .u8 (hzeros 32)).toArray rfl rfl R7 (szA infS32 (il (hz_len 32))) (ints_all _ _) ?_
       generalize (w3.alloc (.cells (ints .u8 (hzeros 32)).toArray 30)).setCells w3.heap.size 0 (ints .u8 (hzeros 32)).toArray.toList = w5 at *
       generalize w3.heap.size = b7 at *
       clear R7)
    | (with_reducible refine wpList_load_mid (op := ⟨some 40, .load 30 (.tmp 3), _, _, _, _⟩) rfl 30 (.tmp 3) rfl w.heap.size 0 rfl (ints .u8 st) _ r3b Tryd.underlying30 rfl (szV infS32 (il HSL.out)) ?_)
    | (go_at_call 15; clear r3b; refine (chain_bad st n _ HCC.out).mono ?_; rintro e w4 ⟨rfl, hb5⟩
       replace h7 := h7.next hb5
       replace hW := hW.trans (Below.mono hb5 hW.size)
       clear hb5 h3))
  have s4 := hW.size
  refine region_seq2 17 172 (fun _ => false) [Is (.int .i64 2), Is (.bool true), Is (.bool true), Is (.int .i64 2), Is (.bool true), Is (.bool true), Is (.bool true), Is (.agg (ints .u8 (hzeros 32)).toArray), Is (.agg (ints .u8 (hzeros 32)).toArray), Is (.bool true), Is (.bool true), Is (.bool true), Is (.slice none 0 0), Is (.int .i64 0), Is (.bool true), Is (.bool true), Is (.bool true)] [51, 52, 53, 54, 55, 56, 57, 58, 59, 60, 61, 62, 63, 64, 65, 66, 6] (by kernel_rfl) (by kernel_rfl) (Nat.le_of_eq rfl) (grows_cons (Is.grows _) (grows_cons (Is.grows _) (grows_cons (Is.grows _) (grows_cons (Is.grows _) (grows_cons (Is.grows _) (grows_cons (Is.grows _) (grows_cons (Is.grows _) (grows_cons (Is.grows _) (grows_cons (Is.grows _) (grows_cons (Is.grows _) (grows_cons (Is.grows _) (grows_cons (Is.grows _) (grows_cons (Is.grows _) (grows_cons (Is.grows _) (grows_cons (Is.grows _) (grows_cons (Is.grows _) (grows_cons (Is.grows _) grows_nil)))))))))))))))))
    ⟨step_mvP rfl (.inl rfl) rfl rfl (knows_out 8 (by kernel_rfl) rfl),
     step_eqC rfl (.inl rfl) rfl Tryd.underlying31 rfl (by decide) (knows_in 0 51 (by decide) (by kernel_rfl) rfl rfl),
     step_mvP rfl (.inl rfl) rfl rfl (knows_in 1 52 (by decide) (by kernel_rfl) rfl rfl),
     step_mvP rfl (.inr ⟨2, true, 53, rfl, by decide, by kernel_rfl, rfl, fun _ _ h => h⟩) rfl rfl (knows_out 10 (by kernel_rfl) rfl),
     step_eqC rfl (.inr ⟨2, true, 53, rfl, by decide, by kernel_rfl, rfl, fun _ _ h => h⟩) rfl Tryd.underlying31 rfl (by decide) (knows_in 3 54 (by decide) (by kernel_rfl) rfl rfl),
     step_pick rfl (.inl rfl) (b := true) rfl rfl (knows_in 2 53 (by decide) (by kernel_rfl) rfl rfl) (knows_in 4 55 (by decide) (by kernel_rfl) rfl rfl),
     step_mvP rfl (.inl rfl) rfl rfl (knows_in 5 56 (by decide) (by kernel_rfl) rfl rfl),
     step_ldV rfl (.inr ⟨6, true, 57, rfl, by decide, by kernel_rfl, rfl, fun _ _ h => h⟩) (fun _ hw => (h7.next hw).range) rfl Tryd.underlying30 rfl (szV infS32 (il (hz_len 32))) rfl (knows_out 7 (by kernel_rfl) rfl),
     step_buildP rfl (.inr ⟨6, true, 57, rfl, by decide, by kernel_rfl, rfl, fun _ _ h => h⟩) rfl builtV32 rfl (partsN),
     step_eqA rfl (.inr ⟨6, true, 57, rfl, by decide, by kernel_rfl, rfl, fun _ _ h => h⟩) rfl eqV32 (hz_len 32) (hz_len 32) (decide_eq_true rfl) rfl (knows_in 7 58 (by decide) (by kernel_rfl) rfl rfl) (knows_in 8 59 (by decide) (by kernel_rfl) rfl rfl),
     step_pick rfl (.inl rfl) (b := true) rfl rfl (knows_in 6 57 (by decide) (by kernel_rfl) rfl rfl) (knows_in 9 60 (by decide) (by kernel_rfl) rfl rfl),
     step_mvP rfl (.inl rfl) rfl rfl (knows_in 10 61 (by decide) (by kernel_rfl) rfl rfl),
     step_mvP rfl (.inr ⟨11, true, 62, rfl, by decide, by kernel_rfl, rfl, fun _ _ h => h⟩) rfl rfl (knows_out 9 (by kernel_rfl) rfl),
     step_len rfl (.inr ⟨11, true, 62, rfl, by decide, by kernel_rfl, rfl, fun _ _ h => h⟩) uaVc rfl rfl (knows_in 12 63 (by decide) (by kernel_rfl) rfl rfl),
     step_eqC rfl (.inr ⟨11, true, 62, rfl, by decide, by kernel_rfl, rfl, fun _ _ h => h⟩) rfl Tryd.underlying3 rfl (by decide) (knows_in 13 64 (by decide) (by kernel_rfl) rfl rfl),
     step_pick rfl (.inl rfl) (b := true) rfl rfl (knows_in 11 62 (by decide) (by kernel_rfl) rfl rfl) (knows_in 14 65 (by decide) (by kernel_rfl) rfl rfl),
     step_asgP rfl (.inl rfl) rfl rfl (knows_in 15 66 (by decide) (by kernel_rfl) rfl rfl), trivial⟩ ?_
  intro val w5 hw hS hap hla
  have e51 : val 51 = (.int .i64 2) := hS 0 51 (by decide) rfl
  have e52 : val 52 = (.bool true) := hS 1 52 (by decide) rfl
  have e53 : val 53 = (.bool true) := hS 2 53 (by decide) rfl
  have e54 : val 54 = (.int .i64 2) := hS 3 54 (by decide) rfl
  have e55 : val 55 = (.bool true) := hS 4 55 (by decide) rfl
  have e56 : val 56 = (.bool true) := hS 5 56 (by decide) rfl
  have e57 : val 57 = (.bool true) := hS 6 57 (by decide) rfl
  have e58 : val 58 = (.agg (ints .u8 (hzeros 32)).toArray) := hS 7 58 (by decide) rfl
  have e59 : val 59 = (.agg (ints .u8 (hzeros 32)).toArray) := hS 8 59 (by decide) rfl
  have e60 : val 60 = (.bool true) := hS 9 60 (by decide) rfl
  have e61 : val 61 = (.bool true) := hS 10 61 (by decide) rfl
  have e62 : val 62 = (.bool true) := hS 11 62 (by decide) rfl
  have e63 : val 63 = (.slice none 0 0) := hS 12 63 (by decide) rfl
  have e64 : val 64 = (.int .i64 0) := hS 13 64 (by decide) rfl
  have e65 : val 65 = (.bool true) := hS 14 65 (by decide) rfl
  have e66 : val 66 = (.bool true) := hS 15 66 (by decide) rfl
  have e6 : val 6 = (.bool true) := hS 16 6 (by decide) rfl
  simp only [putVals, List.foldl_cons, List.foldl_nil, List.drop_succ_cons, List.drop_zero, Act.put, List.setIfInBounds_toArray, List.set_cons_succ, List.set_cons_zero, e51, e52, e53, e54, e55, e56, e57, e58, e59, e60, e61, e62, e63, e64, e65, e66, e6]
  clear hS hap hla e51 e52 e53 e54 e55 e56 e57 e58 e59 e60 e61 e62 e63 e64 e65 e66 e6 
  replace hW := hW.trans (Below.mono hw hW.size)
  clear hw
  go_wp2
  go_ret
  exact ⟨rfl, hW⟩
set_option maxRecDepth 50000 in
set_option maxHeartbeats 4000000 in
theorem back_bad_d (st : List Int) (n k : Int) (w : World) (hT : TabsH w) (HSL : Hid (st.length = 32)) (h : 4096 < n ∧ 4096 < k) : Calls Tryd.prog 5 #[.agg (ints .u8 st).toArray, .int .i64 n, .int .i64 k] w fun e w' => e = .returned (.bool true) ∧ Below w.heap.size w w' := by
  obtain ⟨z32, s32⟩ := zero_of_info infS32
  have h3 := Rw.new w (ints .u8 st) 30
  have hW := below_new w (.cells (ints .u8 st).toArray 30)
  replace hT := hT.next hW
  have hB : n < 0 ∨ 4096 < n := by omega
  have hC : n < 1 ∨ 4096 < n := by omega
  have en0 : decide ((40 : Int) < n) = true := decide_eq_true (by omega)
  have en1 : decide (n ≤ (4096 : Int)) = false := decide_eq_false (by omega)
  have en2 : decide (n < 0) = false := decide_eq_false (by omega)
  have en3 : decide ((4096 : Int) < n) = true := decide_eq_true (by omega)
  have ek0 : decide ((40 : Int) < k) = true := decide_eq_true (by omega)
  have ek1 : decide (k ≤ (4096 : Int)) = false := decide_eq_false (by omega)
  clear h
  have HBB := hid hB
  have HCC := hid hC
  clear hB hC
  go_enter Tryd.func5, Tryd.ntmps5
  go_upto_region 8 with (first
    | (go_at_call 6; generalize w.alloc (.cells (ints .u8 st).toArray 30) = w1 at *; refine (awake_any _ hT).mono ?_; rintro e w2 ⟨rfl, hb2⟩
       replace h3 := h3.next hb2
       replace hW := hW.trans (Below.mono hb2 hW.size)
       have r3 := h3.range
       clear hb2)
    | (with_reducible refine wpList_load_mid (op := ⟨some 34, .load 30 (.tmp 3), _, _, _, _⟩) rfl 30 (.tmp 3) rfl w.heap.size 0 rfl (ints .u8 st) _ r3 Tryd.underlying30 rfl (szV infS32 (il HSL.out)) ?_)
    | (go_at_call 14; clear r3; refine (back_bad st n _ HBB.out).mono ?_; rintro e w3 ⟨rfl, hb3⟩
       have R7 := (Rw.new w3 (ints .u8 (hzeros 32)) 30).roomA (us := ints .u8 (hzeros 32)) rfl
       have h7 := (Rw.new w3 (ints .u8 (hzeros 32)) 30).storedA (us := ints .u8 (hzeros 32)) rfl
       have hb4 := hb3.trans (Below.mono (Below.setCells (below_new w3 (.cells (ints .u8 (hzeros 32)).toArray 30)) (Nat.le_refl _) 0 (ints .u8 (hzeros 32)).toArray.toList) hb3.size)
       replace h3 := h3.next hb4
       replace hW := hW.trans (Below.mono hb4 hW.size)
       have r3b := h3.range
       clear hb3 hb4)
    | (with_reducible refine wpList_store_mid (op := ⟨none, .store 30 (.tmp 7) (.tmp 37), _, _, _, _⟩) rfl 30 (.tmp 7) (.tmp 37) rfl w3.heap.size 0 (ints .u8 (hzeros 32)).toArray rfl rfl R7 (szA infS32 (il (hz_len 32))) (ints_all _ _) ?_
       generalize (w3.alloc (.cells (ints .u8 (hzeros 32)).toArray 30)).setCells w3.heap.size 0 (ints .u8 (hzeros 32)).toArray.toList = w5 at *
       generalize w3.heap.size = b7 at *
       clear R7)
    | (with_reducible refine wpList_load_mid (op := ⟨some 40, .load 30 (.tmp 3), _, _, _, _⟩) rfl 30 (.tmp 3) rfl w.heap.size 0 rfl (ints .u8 st) _ r3b Tryd.underlying30 rfl (szV infS32 (il HSL.out)) ?_)
    | (go_at_call 15; clear r3b; refine (chain_bad st n _ HCC.out).mono ?_; rintro e w4 ⟨rfl, hb5⟩
       replace h7 := h7.next hb5
       replace hW := hW.trans (Below.mono hb5 hW.size)
       clear hb5 h3))
  have s4 := hW.size
  refine region_seq2 17 172 (fun _ => false) [Is (.int .i64 2), Is (.bool true), Is (.bool true), Is (.int .i64 2), Is (.bool true), Is (.bool true), Is (.bool true), Is (.agg (ints .u8 (hzeros 32)).toArray), Is (.agg (ints .u8 (hzeros 32)).toArray), Is (.bool true), Is (.bool true), Is (.bool true), Is (.slice none 0 0), Is (.int .i64 0), Is (.bool true), Is (.bool true), Is (.bool true)] [51, 52, 53, 54, 55, 56, 57, 58, 59, 60, 61, 62, 63, 64, 65, 66, 6] (by kernel_rfl) (by kernel_rfl) (Nat.le_of_eq rfl) (grows_cons (Is.grows _) (grows_cons (Is.grows _) (grows_cons (Is.grows _) (grows_cons (Is.grows _) (grows_cons (Is.grows _) (grows_cons (Is.grows _) (grows_cons (Is.grows _) (grows_cons (Is.grows _) (grows_cons (Is.grows _) (grows_cons (Is.grows _) (grows_cons (Is.grows _) (grows_cons (Is.grows _) (grows_cons (Is.grows _) (grows_cons (Is.grows _) (grows_cons (Is.grows _) (grows_cons (Is.grows _) (grows_cons (Is.grows _) grows_nil)))))))))))))))))
    ⟨step_mvP rfl (.inl rfl) rfl rfl (knows_out 8 (by kernel_rfl) rfl),
     step_eqC rfl (.inl rfl) rfl Tryd.underlying31 rfl (by decide) (knows_in 0 51 (by decide) (by kernel_rfl) rfl rfl),
     step_mvP rfl (.inl rfl) rfl rfl (knows_in 1 52 (by decide) (by kernel_rfl) rfl rfl),
     step_mvP rfl (.inr ⟨2, true, 53, rfl, by decide, by kernel_rfl, rfl, fun _ _ h => h⟩) rfl rfl (knows_out 10 (by kernel_rfl) rfl),
     step_eqC rfl (.inr ⟨2, true, 53, rfl, by decide, by kernel_rfl, rfl, fun _ _ h => h⟩) rfl Tryd.underlying31 rfl (by decide) (knows_in 3 54 (by decide) (by kernel_rfl) rfl rfl),
     step_pick rfl (.inl rfl) (b := true) rfl rfl (knows_in 2 53 (by decide) (by kernel_rfl) rfl rfl) (knows_in 4 55 (by decide) (by kernel_rfl) rfl rfl),
     step_mvP rfl (.inl rfl) rfl rfl (knows_in 5 56 (by decide) (by kernel_rfl) rfl rfl),
     step_ldV rfl (.inr ⟨6, true, 57, rfl, by decide, by kernel_rfl, rfl, fun _ _ h => h⟩) (fun _ hw => (h7.next hw).range) rfl Tryd.underlying30 rfl (szV infS32 (il (hz_len 32))) rfl (knows_out 7 (by kernel_rfl) rfl),
     step_buildP rfl (.inr ⟨6, true, 57, rfl, by decide, by kernel_rfl, rfl, fun _ _ h => h⟩) rfl builtV32 rfl (partsN),
     step_eqA rfl (.inr ⟨6, true, 57, rfl, by decide, by kernel_rfl, rfl, fun _ _ h => h⟩) rfl eqV32 (hz_len 32) (hz_len 32) (decide_eq_true rfl) rfl (knows_in 7 58 (by decide) (by kernel_rfl) rfl rfl) (knows_in 8 59 (by decide) (by kernel_rfl) rfl rfl),
     step_pick rfl (.inl rfl) (b := true) rfl rfl (knows_in 6 57 (by decide) (by kernel_rfl) rfl rfl) (knows_in 9 60 (by decide) (by kernel_rfl) rfl rfl),
     step_mvP rfl (.inl rfl) rfl rfl (knows_in 10 61 (by decide) (by kernel_rfl) rfl rfl),
     step_mvP rfl (.inr ⟨11, true, 62, rfl, by decide, by kernel_rfl, rfl, fun _ _ h => h⟩) rfl rfl (knows_out 9 (by kernel_rfl) rfl),
     step_len rfl (.inr ⟨11, true, 62, rfl, by decide, by kernel_rfl, rfl, fun _ _ h => h⟩) uaVc rfl rfl (knows_in 12 63 (by decide) (by kernel_rfl) rfl rfl),
     step_eqC rfl (.inr ⟨11, true, 62, rfl, by decide, by kernel_rfl, rfl, fun _ _ h => h⟩) rfl Tryd.underlying3 rfl (by decide) (knows_in 13 64 (by decide) (by kernel_rfl) rfl rfl),
     step_pick rfl (.inl rfl) (b := true) rfl rfl (knows_in 11 62 (by decide) (by kernel_rfl) rfl rfl) (knows_in 14 65 (by decide) (by kernel_rfl) rfl rfl),
     step_asgP rfl (.inl rfl) rfl rfl (knows_in 15 66 (by decide) (by kernel_rfl) rfl rfl), trivial⟩ ?_
  intro val w5 hw hS hap hla
  have e51 : val 51 = (.int .i64 2) := hS 0 51 (by decide) rfl
  have e52 : val 52 = (.bool true) := hS 1 52 (by decide) rfl
  have e53 : val 53 = (.bool true) := hS 2 53 (by decide) rfl
  have e54 : val 54 = (.int .i64 2) := hS 3 54 (by decide) rfl
  have e55 : val 55 = (.bool true) := hS 4 55 (by decide) rfl
  have e56 : val 56 = (.bool true) := hS 5 56 (by decide) rfl
  have e57 : val 57 = (.bool true) := hS 6 57 (by decide) rfl
  have e58 : val 58 = (.agg (ints .u8 (hzeros 32)).toArray) := hS 7 58 (by decide) rfl
  have e59 : val 59 = (.agg (ints .u8 (hzeros 32)).toArray) := hS 8 59 (by decide) rfl
  have e60 : val 60 = (.bool true) := hS 9 60 (by decide) rfl
  have e61 : val 61 = (.bool true) := hS 10 61 (by decide) rfl
  have e62 : val 62 = (.bool true) := hS 11 62 (by decide) rfl
  have e63 : val 63 = (.slice none 0 0) := hS 12 63 (by decide) rfl
  have e64 : val 64 = (.int .i64 0) := hS 13 64 (by decide) rfl
  have e65 : val 65 = (.bool true) := hS 14 65 (by decide) rfl
  have e66 : val 66 = (.bool true) := hS 15 66 (by decide) rfl
  have e6 : val 6 = (.bool true) := hS 16 6 (by decide) rfl
  simp only [putVals, List.foldl_cons, List.foldl_nil, List.drop_succ_cons, List.drop_zero, Act.put, List.setIfInBounds_toArray, List.set_cons_succ, List.set_cons_zero, e51, e52, e53, e54, e55, e56, e57, e58, e59, e60, e61, e62, e63, e64, e65, e66, e6]
  clear hS hap hla e51 e52 e53 e54 e55 e56 e57 e58 e59 e60 e61 e62 e63 e64 e65 e66 e6 
  replace hW := hW.trans (Below.mono hw hW.size)
  clear hw
  go_wp2
  go_ret
  exact ⟨rfl, hW⟩
end Go.Proofs.YtihipgojeikdkaaDoor

/- No steps: the law of states. -/
namespace Go.Proofs.YtihipgojeikdkaaDoor
open Go Go.RowKit

theorem Rw.only {w w' : World} {b o g : Nat} {vs : List Value} (h : Rw w b o vs) (hb : Only g w w') (hne : b ≠ g) : Rw w' b o vs := fun i v hi => by
  have hl := World.block_lt_of_cell? w _ (h i v hi).1
  exact h.same (hb.block b hl hne) i v hi
theorem ChainK.only {w w' : World} {g n i b : Nat} {st : List Int} (h : ChainK w g n st i) (hb : Only b w w') (hne : g ≠ b) : ChainK w' g n st i := fun j h1 h2 => (h j h1 h2).only hb hne
set_option maxRecDepth 50000 in
set_option maxHeartbeats 4000000 in
theorem back_zero_l (st : List Int) (k : Int) (w : World) (hT : TabsH w) (HSL : Hid (st.length = 32)) (hby : HByt st) (h : k ≤ 40) : Calls Tryd.prog 5 #[.agg (ints .u8 st).toArray, .int .i64 0, .int .i64 k] w fun e w' => e = .returned (.bool true) ∧ Below w.heap.size w w' := by
  obtain ⟨z32, s32⟩ := zero_of_info infS32
  have h3 := Rw.new w (ints .u8 st) 30
  have hW := below_new w (.cells (ints .u8 st).toArray 30)
  replace hT := hT.next hW
  have ek0 : decide ((40 : Int) < k) = false := decide_eq_false (by omega)
  clear h
  go_enter Tryd.func5, Tryd.ntmps5
  go_wp2_with (first
    | (go_at_call 6; generalize w.alloc (.cells (ints .u8 st).toArray 30) = w1 at *; refine (awake_any _ hT).mono ?_; rintro e w2 ⟨rfl, hb2⟩
       replace h3 := h3.next hb2
       replace hT := hT.next hb2
       replace hW := hW.trans (Below.mono hb2 hW.size)
       have r3 := h3.range
       clear hb2)
    | (with_reducible refine wpList_load_mid (op := ⟨some 34, .load 30 (.tmp 3), _, _, _, _⟩) rfl 30 (.tmp 3) rfl w.heap.size 0 rfl (ints .u8 st) _ r3 Tryd.underlying30 rfl (szV infS32 (il HSL.out)) ?_)
    | (go_at_call 14; clear r3; refine (back_any st 0 _ hT HSL.out hby (by omega)).mono ?_; rintro e w3 ⟨rfl, hb3⟩
       rw [show backV st 0 = st from rfl]
       have R7 := (Rw.new w3 (ints .u8 (hzeros 32)) 30).roomA (us := ints .u8 st) ((il HSL.out).trans (il (hz_len 32)).symm)
       have h7 := (Rw.new w3 (ints .u8 (hzeros 32)) 30).storedA (us := ints .u8 st) ((il HSL.out).trans (il (hz_len 32)).symm)
       have hb4 := hb3.trans (Below.mono (Below.setCells (below_new w3 (.cells (ints .u8 (hzeros 32)).toArray 30)) (Nat.le_refl _) 0 (ints .u8 st).toArray.toList) hb3.size)
       replace h3 := h3.next hb4
       replace hW := hW.trans (Below.mono hb4 hW.size)
       have r3b := h3.range
       clear hb3 hb4 hT)
    | (with_reducible refine wpList_store_mid (op := ⟨none, .store 30 (.tmp 7) (.tmp 37), _, _, _, _⟩) rfl 30 (.tmp 7) (.tmp 37) rfl w3.heap.size 0 (ints .u8 st).toArray rfl rfl R7 (szA infS32 (il HSL.out)) (ints_all _ _) ?_
       generalize (w3.alloc (.cells (ints .u8 (hzeros 32)).toArray 30)).setCells w3.heap.size 0 (ints .u8 st).toArray.toList = w5 at *
       generalize w3.heap.size = b7 at *
       clear R7)
    | (with_reducible refine wpList_load_mid (op := ⟨some 40, .load 30 (.tmp 3), _, _, _, _⟩) rfl 30 (.tmp 3) rfl w.heap.size 0 rfl (ints .u8 st) _ r3b Tryd.underlying30 rfl (szV infS32 (il HSL.out)) ?_)
    | (go_at_call 15; clear r3b; refine (chain_bad st 0 _ (.inl (by omega))).mono ?_; rintro e w4 ⟨rfl, hb5⟩
       replace h3 := h3.next hb5
       replace h7 := h7.next hb5
       replace hW := hW.trans (Below.mono hb5 hW.size)
       have r3c := h3.range
       have hn4 := below_new w4 (.cells (ints .u8 (hzeros 32)).toArray 30)
       have R11 := (Rw.new w4 (ints .u8 (hzeros 32)) 30).roomA (us := ints .u8 st) ((il HSL.out).trans (il (hz_len 32)).symm)
       have h11 := (Rw.new w4 (ints .u8 (hzeros 32)) 30).storedA (us := ints .u8 st) ((il HSL.out).trans (il (hz_len 32)).symm)
       have hb6 := Below.setCells hn4 (Nat.le_refl _) 0 (ints .u8 st).toArray.toList
       replace h7 := h7.next hb6
       replace hW := hW.trans (Below.mono hb6 hW.size)
       clear hb5 hb6 h3 hn4)
    | (with_reducible refine wpList_load_mid (op := ⟨some 67, .load 30 (.tmp 3), _, _, _, _⟩) rfl 30 (.tmp 3) rfl w.heap.size 0 rfl (ints .u8 st) _ r3c Tryd.underlying30 rfl (szV infS32 (il HSL.out)) ?_)
    | (with_reducible refine wpList_store_mid (op := ⟨none, .store 30 (.tmp 11) (.tmp 67), _, _, _, _⟩) rfl 30 (.tmp 11) (.tmp 67) rfl w4.heap.size 0 (ints .u8 st).toArray rfl rfl R11 (szA infS32 (il HSL.out)) (ints_all _ _) ?_
       generalize (w4.alloc (.cells (ints .u8 (hzeros 32)).toArray 30)).setCells w4.heap.size 0 (ints .u8 st).toArray.toList = w9 at *
       generalize w4.heap.size = b11 at *
       clear R11 r3c))
  go_loopw [69] (fun i wr => i = .int .i64 0 ∧ wr = w9) (fun i _ => 0)
  case atStart => exact ⟨rfl, rfl⟩
  case round =>
    obtain ⟨rfl, rfl⟩ := hrel
    generalize wr = w9 at *
    go_upto_region 14 with (fail)
    have s9 := hW.size
    refine region_seq2 7 172 (fun _ => false) [Is (.int .i64 0), Is (.bool false), Is (.bool false), Is (.agg (ints .u8 st).toArray), Is (.agg (ints .u8 st).toArray), Is (.bool false), Is (.bool false)] [74, 75, 76, 77, 78, 79, 80] (by kernel_rfl) (by kernel_rfl) (Nat.le_of_eq rfl) (grows_cons (Is.grows _) (grows_cons (Is.grows _) (grows_cons (Is.grows _) (grows_cons (Is.grows _) (grows_cons (Is.grows _) (grows_cons (Is.grows _) (grows_cons (Is.grows _) grows_nil)))))))
      ⟨step_mvP rfl (.inl rfl) rfl rfl (knows_out 8 (by kernel_rfl) rfl),
       step_neC rfl (.inl rfl) rfl Tryd.underlying31 rfl (by decide) (knows_in 0 74 (by decide) (by kernel_rfl) rfl rfl),
       step_mvP rfl (.inl rfl) rfl rfl (knows_in 1 75 (by decide) (by kernel_rfl) rfl rfl),
       step_ldV rfl (.inr ⟨2, false, 76, rfl, by decide, by kernel_rfl, rfl, fun _ _ h => h⟩) (fun _ hw => (h7.next hw).range) rfl Tryd.underlying30 rfl (szV infS32 (il HSL.out)) rfl (knows_out 7 (by kernel_rfl) rfl),
       step_ldV rfl (.inr ⟨2, false, 76, rfl, by decide, by kernel_rfl, rfl, fun _ _ h => h⟩) (fun _ hw => (h11.next hw).range) rfl Tryd.underlying30 rfl (szV infS32 (il HSL.out)) rfl (knows_out 11 (by kernel_rfl) rfl),
       step_neA rfl (.inr ⟨2, false, 76, rfl, by decide, by kernel_rfl, rfl, fun _ _ h => h⟩) rfl eqV32 HSL.out HSL.out (decide_eq_true rfl) rfl (knows_in 3 77 (by decide) (by kernel_rfl) rfl rfl) (knows_in 4 78 (by decide) (by kernel_rfl) rfl rfl),
       step_pick rfl (.inl rfl) (b := false) rfl rfl (knows_in 2 76 (by decide) (by kernel_rfl) rfl rfl) (knows_in 5 79 (by decide) (by kernel_rfl) rfl rfl), trivial⟩ ?_
    intro val w10 hw hS hap hla
    have e74 : val 74 = (.int .i64 0) := hS 0 74 (by decide) rfl
    have e75 : val 75 = (.bool false) := hS 1 75 (by decide) rfl
    have e76 : val 76 = (.bool false) := hS 2 76 (by decide) rfl
    have e77 : val 77 = (.agg (ints .u8 st).toArray) := hS 3 77 (by decide) rfl
    have e78 : val 78 = (.agg (ints .u8 st).toArray) := hS 4 78 (by decide) rfl
    have e79 : val 79 = (.bool false) := hS 5 79 (by decide) rfl
    have e80 : val 80 = (.bool false) := hS 6 80 (by decide) rfl
    simp only [putVals, List.foldl_cons, List.foldl_nil, List.drop_succ_cons, List.drop_zero, Act.put, List.setIfInBounds_toArray, List.set_cons_succ, List.set_cons_zero, e74, e75, e76, e77, e78, e79, e80]
    clear hS hap hla e74 e75 e76 e77 e78 e79 e80 
    replace hW := hW.trans (Below.mono hw hW.size)
    clear hw
    go_wp2
    go_ret
    exact ⟨rfl, hW⟩
set_option maxRecDepth 50000 in
set_option maxHeartbeats 4000000 in
theorem back_zero_h (st : List Int) (k : Int) (w : World) (hT : TabsH w) (HSL : Hid (st.length = 32)) (hby : HByt st) (h : 4096 < k) : Calls Tryd.prog 5 #[.agg (ints .u8 st).toArray, .int .i64 0, .int .i64 k] w fun e w' => e = .returned (.bool true) ∧ Below w.heap.size w w' := by
  obtain ⟨z32, s32⟩ := zero_of_info infS32
  have h3 := Rw.new w (ints .u8 st) 30
  have hW := below_new w (.cells (ints .u8 st).toArray 30)
  replace hT := hT.next hW
  have ek0 : decide ((40 : Int) < k) = true := decide_eq_true (by omega)
  have ek1 : decide (k ≤ (4096 : Int)) = false := decide_eq_false (by omega)
  clear h
  go_enter Tryd.func5, Tryd.ntmps5
  go_wp2_with (first
    | (go_at_call 6; generalize w.alloc (.cells (ints .u8 st).toArray 30) = w1 at *; refine (awake_any _ hT).mono ?_; rintro e w2 ⟨rfl, hb2⟩
       replace h3 := h3.next hb2
       replace hT := hT.next hb2
       replace hW := hW.trans (Below.mono hb2 hW.size)
       have r3 := h3.range
       clear hb2)
    | (with_reducible refine wpList_load_mid (op := ⟨some 34, .load 30 (.tmp 3), _, _, _, _⟩) rfl 30 (.tmp 3) rfl w.heap.size 0 rfl (ints .u8 st) _ r3 Tryd.underlying30 rfl (szV infS32 (il HSL.out)) ?_)
    | (go_at_call 14; clear r3; refine (back_any st 0 _ hT HSL.out hby (by omega)).mono ?_; rintro e w3 ⟨rfl, hb3⟩
       rw [show backV st 0 = st from rfl]
       have R7 := (Rw.new w3 (ints .u8 (hzeros 32)) 30).roomA (us := ints .u8 st) ((il HSL.out).trans (il (hz_len 32)).symm)
       have h7 := (Rw.new w3 (ints .u8 (hzeros 32)) 30).storedA (us := ints .u8 st) ((il HSL.out).trans (il (hz_len 32)).symm)
       have hb4 := hb3.trans (Below.mono (Below.setCells (below_new w3 (.cells (ints .u8 (hzeros 32)).toArray 30)) (Nat.le_refl _) 0 (ints .u8 st).toArray.toList) hb3.size)
       replace h3 := h3.next hb4
       replace hW := hW.trans (Below.mono hb4 hW.size)
       have r3b := h3.range
       clear hb3 hb4 hT)
    | (with_reducible refine wpList_store_mid (op := ⟨none, .store 30 (.tmp 7) (.tmp 37), _, _, _, _⟩) rfl 30 (.tmp 7) (.tmp 37) rfl w3.heap.size 0 (ints .u8 st).toArray rfl rfl R7 (szA infS32 (il HSL.out)) (ints_all _ _) ?_
       generalize (w3.alloc (.cells (ints .u8 (hzeros 32)).toArray 30)).setCells w3.heap.size 0 (ints .u8 st).toArray.toList = w5 at *
       generalize w3.heap.size = b7 at *
       clear R7)
    | (with_reducible refine wpList_load_mid (op := ⟨some 40, .load 30 (.tmp 3), _, _, _, _⟩) rfl 30 (.tmp 3) rfl w.heap.size 0 rfl (ints .u8 st) _ r3b Tryd.underlying30 rfl (szV infS32 (il HSL.out)) ?_)
    | (go_at_call 15; clear r3b; refine (chain_bad st 0 _ (.inl (by omega))).mono ?_; rintro e w4 ⟨rfl, hb5⟩
       replace h3 := h3.next hb5
       replace h7 := h7.next hb5
       replace hW := hW.trans (Below.mono hb5 hW.size)
       have r3c := h3.range
       have hn4 := below_new w4 (.cells (ints .u8 (hzeros 32)).toArray 30)
       have R11 := (Rw.new w4 (ints .u8 (hzeros 32)) 30).roomA (us := ints .u8 st) ((il HSL.out).trans (il (hz_len 32)).symm)
       have h11 := (Rw.new w4 (ints .u8 (hzeros 32)) 30).storedA (us := ints .u8 st) ((il HSL.out).trans (il (hz_len 32)).symm)
       have hb6 := Below.setCells hn4 (Nat.le_refl _) 0 (ints .u8 st).toArray.toList
       replace h7 := h7.next hb6
       replace hW := hW.trans (Below.mono hb6 hW.size)
       clear hb5 hb6 h3 hn4)
    | (with_reducible refine wpList_load_mid (op := ⟨some 67, .load 30 (.tmp 3), _, _, _, _⟩) rfl 30 (.tmp 3) rfl w.heap.size 0 rfl (ints .u8 st) _ r3c Tryd.underlying30 rfl (szV infS32 (il HSL.out)) ?_)
    | (with_reducible refine wpList_store_mid (op := ⟨none, .store 30 (.tmp 11) (.tmp 67), _, _, _, _⟩) rfl 30 (.tmp 11) (.tmp 67) rfl w4.heap.size 0 (ints .u8 st).toArray rfl rfl R11 (szA infS32 (il HSL.out)) (ints_all _ _) ?_
       generalize (w4.alloc (.cells (ints .u8 (hzeros 32)).toArray 30)).setCells w4.heap.size 0 (ints .u8 st).toArray.toList = w9 at *
       generalize w4.heap.size = b11 at *
       clear R11 r3c))
  go_loopw [69] (fun i wr => i = .int .i64 0 ∧ wr = w9) (fun i _ => 0)
  case atStart => exact ⟨rfl, rfl⟩
  case round =>
    obtain ⟨rfl, rfl⟩ := hrel
    generalize wr = w9 at *
    go_upto_region 14 with (fail)
    have s9 := hW.size
    refine region_seq2 7 172 (fun _ => false) [Is (.int .i64 0), Is (.bool false), Is (.bool false), Is (.agg (ints .u8 st).toArray), Is (.agg (ints .u8 st).toArray), Is (.bool false), Is (.bool false)] [74, 75, 76, 77, 78, 79, 80] (by kernel_rfl) (by kernel_rfl) (Nat.le_of_eq rfl) (grows_cons (Is.grows _) (grows_cons (Is.grows _) (grows_cons (Is.grows _) (grows_cons (Is.grows _) (grows_cons (Is.grows _) (grows_cons (Is.grows _) (grows_cons (Is.grows _) grows_nil)))))))
      ⟨step_mvP rfl (.inl rfl) rfl rfl (knows_out 8 (by kernel_rfl) rfl),
       step_neC rfl (.inl rfl) rfl Tryd.underlying31 rfl (by decide) (knows_in 0 74 (by decide) (by kernel_rfl) rfl rfl),
       step_mvP rfl (.inl rfl) rfl rfl (knows_in 1 75 (by decide) (by kernel_rfl) rfl rfl),
       step_ldV rfl (.inr ⟨2, false, 76, rfl, by decide, by kernel_rfl, rfl, fun _ _ h => h⟩) (fun _ hw => (h7.next hw).range) rfl Tryd.underlying30 rfl (szV infS32 (il HSL.out)) rfl (knows_out 7 (by kernel_rfl) rfl),
       step_ldV rfl (.inr ⟨2, false, 76, rfl, by decide, by kernel_rfl, rfl, fun _ _ h => h⟩) (fun _ hw => (h11.next hw).range) rfl Tryd.underlying30 rfl (szV infS32 (il HSL.out)) rfl (knows_out 11 (by kernel_rfl) rfl),
       step_neA rfl (.inr ⟨2, false, 76, rfl, by decide, by kernel_rfl, rfl, fun _ _ h => h⟩) rfl eqV32 HSL.out HSL.out (decide_eq_true rfl) rfl (knows_in 3 77 (by decide) (by kernel_rfl) rfl rfl) (knows_in 4 78 (by decide) (by kernel_rfl) rfl rfl),
       step_pick rfl (.inl rfl) (b := false) rfl rfl (knows_in 2 76 (by decide) (by kernel_rfl) rfl rfl) (knows_in 5 79 (by decide) (by kernel_rfl) rfl rfl), trivial⟩ ?_
    intro val w10 hw hS hap hla
    have e74 : val 74 = (.int .i64 0) := hS 0 74 (by decide) rfl
    have e75 : val 75 = (.bool false) := hS 1 75 (by decide) rfl
    have e76 : val 76 = (.bool false) := hS 2 76 (by decide) rfl
    have e77 : val 77 = (.agg (ints .u8 st).toArray) := hS 3 77 (by decide) rfl
    have e78 : val 78 = (.agg (ints .u8 st).toArray) := hS 4 78 (by decide) rfl
    have e79 : val 79 = (.bool false) := hS 5 79 (by decide) rfl
    have e80 : val 80 = (.bool false) := hS 6 80 (by decide) rfl
    simp only [putVals, List.foldl_cons, List.foldl_nil, List.drop_succ_cons, List.drop_zero, Act.put, List.setIfInBounds_toArray, List.set_cons_succ, List.set_cons_zero, e74, e75, e76, e77, e78, e79, e80]
    clear hS hap hla e74 e75 e76 e77 e78 e79 e80 
    replace hW := hW.trans (Below.mono hw hW.size)
    clear hw
    go_wp2
    go_ret
    exact ⟨rfl, hW⟩
end Go.Proofs.YtihipgojeikdkaaDoor
