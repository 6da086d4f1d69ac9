/- Shared, Base, Public. -/
import Derived.Test.YtkblmdakejmmhaaDoorLMulM
namespace Go.Proofs.YtkblmdakejmmhaaDoor
open Go Go.RowKit

set_option maxRecDepth 50000 in
theorem cf8 (vs : Array Value) (w : World) : (callFunc 14 vs).run Tryd.prog w = .ok (.enter 14 vs) w := by go_simp
set_option maxRecDepth 50000 in
theorem cf12b (vs : Array Value) (w : World) : (callFunc 15 vs).run Tryd.prog w = .ok (.enter 15 vs) w := by go_simp
set_option maxRecDepth 4000 in
set_option maxHeartbeats 4000000 in
theorem shared_yes {sb pb m : List Int} (lsb : sb.length = 32) (lpb : pb.length = 32) (lm : m.length = 32) (kmul : CallsTo 14 #[.agg (ints .u8 sb).toArray, .agg (ints .u8 pb).toArray] (.agg (ints .u8 m).toArray)) (hd : Hid (decide (m = rbytes 0) = true)) :
    CallsTo 17 #[.agg (ints .u8 sb).toArray, .agg (ints .u8 pb).toArray] (.tuple #[.agg (ints .u8 m).toArray, .int .i64 21]) := fun W => by
  obtain ⟨z22, s22⟩ := zero_of_info inf22
  have hS2 := ((By.new W sb lsb).next (below_new _ (.cells (ints .u8 pb).toArray 22))).next (below_new _ (.cells (ints .u8 (zeros 32)).toArray 22))
  have hS3 := (By.new (W.alloc (.cells (ints .u8 sb).toArray 22)) pb lpb).next (below_new _ (.cells (ints .u8 (zeros 32)).toArray 22))
  have h4 := By.new ((W.alloc (.cells (ints .u8 sb).toArray 22)).alloc (.cells (ints .u8 pb).toArray 22)) (zeros 32) (zeros_len 32)
  have hW := ((below_new W (.cells (ints .u8 sb).toArray 22)).alloc (by simp) (.cells (ints .u8 pb).toArray 22)).alloc (by simp; omega) (.cells (ints .u8 (zeros 32)).toArray 22)
  simp only [World.size_alloc] at hS3 h4
  go_enter Tryd.func17, Tryd.ntmps17
  go_upto_region 1 with (fail)
  generalize ((W.alloc (.cells (ints .u8 sb).toArray 22)).alloc (.cells (ints .u8 pb).toArray 22)).alloc (.cells (ints .u8 (zeros 32)).toArray 22) = w0 at *
  have s0 := hW.size
  refine region_seq2 4 15 (fun i => i == 3) [Is (.agg (ints .u8 sb).toArray), Is (.agg (ints .u8 pb).toArray), Is (.agg (ints .u8 m).toArray), IsZ22 w0.heap.size] [7, 8, 9, 6] (by kernel_rfl) (by kernel_rfl) (Nat.le_of_eq rfl) (grows_cons (Is.grows _) (grows_cons (Is.grows _) (grows_cons (Is.grows _) (grows_cons (IsZ22.grows _) grows_nil))))
    ⟨step_by rfl (.inl rfl) hS2 2 rfl (by kernel_rfl) rfl rfl,
     step_by rfl (.inl rfl) hS3 3 rfl (by kernel_rfl) rfl rfl,
     step_to rfl (.inl rfl) rfl cf8 kmul rfl (two_args (knows_in 0 7 (by decide) (by kernel_rfl) rfl rfl) (knows_in 1 8 (by decide) (by kernel_rfl) rfl rfl)),
     step_alloc22 (.inl rfl) rfl rfl, trivial⟩ ?_
  intro val w1 hw hS hap hla
  have e7 : val 7 = (.agg (ints .u8 sb).toArray) := hS 0 7 (by decide) rfl
  have e8 : val 8 = (.agg (ints .u8 pb).toArray) := hS 1 8 (by decide) rfl
  have e9 : val 9 = (.agg (ints .u8 m).toArray) := hS 2 9 (by decide) rfl
  obtain ⟨b6, e6, L6, Z6⟩ := hS 3 6 (by decide) rfl
  simp only [putVals, List.foldl_cons, List.foldl_nil, List.drop_succ_cons, List.drop_zero, Act.put, List.setIfInBounds_toArray, List.set_cons_succ, List.set_cons_zero, e7, e8, e9, e6]
  clear hS hap hla e7 e8 e9 e6
  have LL6 := hid lm
  have R6 := Z6.room (l' := m) lm
  have hB6 := Z6.stored (l' := m) lm
  replace hS2 := hS2.next (Below.setCells hw L6 0 (ints .u8 m).toArray.toList)
  replace hS3 := hS3.next (Below.setCells hw L6 0 (ints .u8 m).toArray.toList)
  replace h4 := h4.next (Below.setCells hw L6 0 (ints .u8 m).toArray.toList)
  replace hW := hW.trans (Below.mono (Below.setCells hw L6 0 (ints .u8 m).toArray.toList) hW.size)
  with_reducible refine wpList_store_mid (op := ⟨none, .store 22 (.tmp 6) (.tmp 9), _, _, _, _⟩) rfl 22 (.tmp 6) (.tmp 9) rfl b6 0 (ints .u8 m).toArray rfl rfl R6 (a22 LL6.out) (ints_all _ _) ?_
  generalize (w1.setCells b6 0 (ints .u8 m).toArray.toList) = w2 at *
  clear hw  R6 LL6 Z6 
  clear hS2 hS3
  go_upto_region 2 with (fail)
  have s2 := hW.size
  refine region_seq2 3 15 (fun _ => false) [Is (.agg (ints .u8 m).toArray), Is (.agg (ints .u8 (rbytes 0)).toArray), Is (.bool (decide (m = rbytes 0)))] [10, 11, 12] (by kernel_rfl) (by kernel_rfl) (Nat.le_of_eq rfl) (grows_cons (Is.grows _) (grows_cons (Is.grows _) (grows_cons (Is.grows _) grows_nil)))
    ⟨step_by rfl (.inl rfl) hB6 6 rfl (by kernel_rfl) rfl rfl,
     step_zero22 rfl (.inl rfl) rfl rfl,
     step_eq22 rfl (.inl rfl) rfl lm (rbytes_length _) rfl (knows_in 0 10 (by decide) (by kernel_rfl) rfl rfl) (knows_in 1 11 (by decide) (by kernel_rfl) rfl rfl), trivial⟩ ?_
  intro val w3 hw hS hap hla
  have e10 : val 10 = (.agg (ints .u8 m).toArray) := hS 0 10 (by decide) rfl
  have e11 : val 11 = (.agg (ints .u8 (rbytes 0)).toArray) := hS 1 11 (by decide) rfl
  have e12 : val 12 = (.bool (decide (m = rbytes 0))) := hS 2 12 (by decide) rfl
  simp only [putVals, List.foldl_cons, List.foldl_nil, List.drop_succ_cons, List.drop_zero, Act.put, List.setIfInBounds_toArray, List.set_cons_succ, List.set_cons_zero, e10, e11, e12]
  clear hS hap hla e10 e11 e12
  replace h4 := h4.next hw
  replace hB6 := hB6.next hw
  replace hW := hW.trans (Below.mono hw hW.size)
  clear hw
  rw [hd.out]
  have LM := hid lm
  have lt4 := h4.lt
  have r4 := h4.room LM.out
  have hf4 := h4.stored LM.out
  replace hW := Below.setCells hW (g := W.heap.size + 1 + 1) (by omega) 0 (ints .u8 m).toArray.toList
  clear lm h4 kmul hd lsb lpb
  go_wp2_with (first
    | (with_reducible refine wpList_load_mid (op := ⟨some 13, .load 22 (.tmp 6), _, _, _, _⟩) rfl 22 (.tmp 6) rfl b6 0 rfl (ints .u8 m) _ (hB6.range) Tryd.underlying22 rfl (l22 LM.out) ?_)
    | (with_reducible refine wpList_store_mid (op := ⟨none, .store 22 (.tmp 4) (.tmp 13), _, _, _, _⟩) rfl 22 (.tmp 4) (.tmp 13) rfl (W.heap.size + 1 + 1) 0 (ints .u8 m).toArray rfl rfl r4 (a22 LM.out) (ints_all _ _) ?_))
  exact bodyPost_ret (results_row2 rfl _ _ (W.heap.size + 1 + 1) 0 rfl (.int .i64 21) rfl (ints .u8 m) _ hf4.range Tryd.underlying22 rfl (l22 LM.out)) rfl ⟨rfl, hW⟩

set_option maxRecDepth 4000 in
set_option maxHeartbeats 4000000 in
theorem shared_no {sb pb m : List Int} (lsb : sb.length = 32) (lpb : pb.length = 32) (lm : m.length = 32) (kmul : CallsTo 14 #[.agg (ints .u8 sb).toArray, .agg (ints .u8 pb).toArray] (.agg (ints .u8 m).toArray)) (hd : Hid (decide (m = rbytes 0) = false)) :
    CallsTo 17 #[.agg (ints .u8 sb).toArray, .agg (ints .u8 pb).toArray] (.tuple #[.agg (ints .u8 m).toArray, .int .i64 0]) := fun W => by
  obtain ⟨z22, s22⟩ := zero_of_info inf22
  have hS2 := ((By.new W sb lsb).next (below_new _ (.cells (ints .u8 pb).toArray 22))).next (below_new _ (.cells (ints .u8 (zeros 32)).toArray 22))
  have hS3 := (By.new (W.alloc (.cells (ints .u8 sb).toArray 22)) pb lpb).next (below_new _ (.cells (ints .u8 (zeros 32)).toArray 22))
  have h4 := By.new ((W.alloc (.cells (ints .u8 sb).toArray 22)).alloc (.cells (ints .u8 pb).toArray 22)) (zeros 32) (zeros_len 32)
  have hW := ((below_new W (.cells (ints .u8 sb).toArray 22)).alloc (by simp) (.cells (ints .u8 pb).toArray 22)).alloc (by simp; omega) (.cells (ints .u8 (zeros 32)).toArray 22)
  simp only [World.size_alloc] at hS3 h4
  go_enter Tryd.func17, Tryd.ntmps17
  go_upto_region 1 with (fail)
  generalize ((W.alloc (.cells (ints .u8 sb).toArray 22)).alloc (.cells (ints .u8 pb).toArray 22)).alloc (.cells (ints .u8 (zeros 32)).toArray 22) = w0 at *
  have s0 := hW.size
  refine region_seq2 4 15 (fun i => i == 3) [Is (.agg (ints .u8 sb).toArray), Is (.agg (ints .u8 pb).toArray), Is (.agg (ints .u8 m).toArray), IsZ22 w0.heap.size] [7, 8, 9, 6] (by kernel_rfl) (by kernel_rfl) (Nat.le_of_eq rfl) (grows_cons (Is.grows _) (grows_cons (Is.grows _) (grows_cons (Is.grows _) (grows_cons (IsZ22.grows _) grows_nil))))
    ⟨step_by rfl (.inl rfl) hS2 2 rfl (by kernel_rfl) rfl rfl,
     step_by rfl (.inl rfl) hS3 3 rfl (by kernel_rfl) rfl rfl,
     step_to rfl (.inl rfl) rfl cf8 kmul rfl (two_args (knows_in 0 7 (by decide) (by kernel_rfl) rfl rfl) (knows_in 1 8 (by decide) (by kernel_rfl) rfl rfl)),
     step_alloc22 (.inl rfl) rfl rfl, trivial⟩ ?_
  intro val w1 hw hS hap hla
  have e7 : val 7 = (.agg (ints .u8 sb).toArray) := hS 0 7 (by decide) rfl
  have e8 : val 8 = (.agg (ints .u8 pb).toArray) := hS 1 8 (by decide) rfl
  have e9 : val 9 = (.agg (ints .u8 m).toArray) := hS 2 9 (by decide) rfl
  obtain ⟨b6, e6, L6, Z6⟩ := hS 3 6 (by decide) rfl
  simp only [putVals, List.foldl_cons, List.foldl_nil, List.drop_succ_cons, List.drop_zero, Act.put, List.setIfInBounds_toArray, List.set_cons_succ, List.set_cons_zero, e7, e8, e9, e6]
  clear hS hap hla e7 e8 e9 e6
  have LL6 := hid lm
  have R6 := Z6.room (l' := m) lm
  have hB6 := Z6.stored (l' := m) lm
  replace hS2 := hS2.next (Below.setCells hw L6 0 (ints .u8 m).toArray.toList)
  replace hS3 := hS3.next (Below.setCells hw L6 0 (ints .u8 m).toArray.toList)
  replace h4 := h4.next (Below.setCells hw L6 0 (ints .u8 m).toArray.toList)
  replace hW := hW.trans (Below.mono (Below.setCells hw L6 0 (ints .u8 m).toArray.toList) hW.size)
  with_reducible refine wpList_store_mid (op := ⟨none, .store 22 (.tmp 6) (.tmp 9), _, _, _, _⟩) rfl 22 (.tmp 6) (.tmp 9) rfl b6 0 (ints .u8 m).toArray rfl rfl R6 (a22 LL6.out) (ints_all _ _) ?_
  generalize (w1.setCells b6 0 (ints .u8 m).toArray.toList) = w2 at *
  clear hw  R6 LL6 Z6 
  clear hS2 hS3
  go_upto_region 2 with (fail)
  have s2 := hW.size
  refine region_seq2 3 15 (fun _ => false) [Is (.agg (ints .u8 m).toArray), Is (.agg (ints .u8 (rbytes 0)).toArray), Is (.bool (decide (m = rbytes 0)))] [10, 11, 12] (by kernel_rfl) (by kernel_rfl) (Nat.le_of_eq rfl) (grows_cons (Is.grows _) (grows_cons (Is.grows _) (grows_cons (Is.grows _) grows_nil)))
    ⟨step_by rfl (.inl rfl) hB6 6 rfl (by kernel_rfl) rfl rfl,
     step_zero22 rfl (.inl rfl) rfl rfl,
     step_eq22 rfl (.inl rfl) rfl lm (rbytes_length _) rfl (knows_in 0 10 (by decide) (by kernel_rfl) rfl rfl) (knows_in 1 11 (by decide) (by kernel_rfl) rfl rfl), trivial⟩ ?_
  intro val w3 hw hS hap hla
  have e10 : val 10 = (.agg (ints .u8 m).toArray) := hS 0 10 (by decide) rfl
  have e11 : val 11 = (.agg (ints .u8 (rbytes 0)).toArray) := hS 1 11 (by decide) rfl
  have e12 : val 12 = (.bool (decide (m = rbytes 0))) := hS 2 12 (by decide) rfl
  simp only [putVals, List.foldl_cons, List.foldl_nil, List.drop_succ_cons, List.drop_zero, Act.put, List.setIfInBounds_toArray, List.set_cons_succ, List.set_cons_zero, e10, e11, e12]
  clear hS hap hla e10 e11 e12
  replace h4 := h4.next hw
  replace hB6 := hB6.next hw
  replace hW := hW.trans (Below.mono hw hW.size)
  clear hw
  rw [hd.out]
  have LM := hid lm
  have lt4 := h4.lt
  have r4 := h4.room LM.out
  have hf4 := h4.stored LM.out
  replace hW := Below.setCells hW (g := W.heap.size + 1 + 1) (by omega) 0 (ints .u8 m).toArray.toList
  clear lm h4 kmul hd lsb lpb
  go_wp2_with (first
    | (with_reducible refine wpList_load_mid (op := ⟨some 14, .load 22 (.tmp 6), _, _, _, _⟩) rfl 22 (.tmp 6) rfl b6 0 rfl (ints .u8 m) _ (hB6.range) Tryd.underlying22 rfl (l22 LM.out) ?_)
    | (with_reducible refine wpList_store_mid (op := ⟨none, .store 22 (.tmp 4) (.tmp 14), _, _, _, _⟩) rfl 22 (.tmp 4) (.tmp 14) rfl (W.heap.size + 1 + 1) 0 (ints .u8 m).toArray rfl rfl r4 (a22 LM.out) (ints_all _ _) ?_))
  exact bodyPost_ret (results_row2 rfl _ _ (W.heap.size + 1 + 1) 0 rfl (.int .i64 0) rfl (ints .u8 m) _ hf4.range Tryd.underlying22 rfl (l22 LM.out)) rfl ⟨rfl, hW⟩

set_option maxRecDepth 4000 in
set_option maxHeartbeats 4000000 in
theorem public_core {sb bb m : List Int} (lsb : sb.length = 32) (lm : m.length = 32) (kbase : CallsTo 15 #[] (.agg (ints .u8 bb).toArray)) (kmul : CallsTo 14 #[.agg (ints .u8 sb).toArray, .agg (ints .u8 bb).toArray] (.agg (ints .u8 m).toArray)) :
    CallsTo 6 #[.agg (ints .u8 sb).toArray] (.agg (ints .u8 m).toArray) := fun W => by
  obtain ⟨z22, s22⟩ := zero_of_info inf22
  have hS2 := (By.new W sb lsb).next (below_new _ (.cells (ints .u8 (zeros 32)).toArray 22))
  have h2 := By.new (W.alloc (.cells (ints .u8 sb).toArray 22)) (zeros 32) (zeros_len 32)
  have hW := (below_new W (.cells (ints .u8 sb).toArray 22)).alloc (by simp) (.cells (ints .u8 (zeros 32)).toArray 22)
  simp only [World.size_alloc] at h2
  go_enter Tryd.func6, Tryd.ntmps6
  go_wp2_with (fail)
  generalize (W.alloc (.cells (ints .u8 sb).toArray 22)).alloc (.cells (ints .u8 (zeros 32)).toArray 22) = w0 at *
  have s0 := hW.size
  refine region_spec2 3 6 (fun _ => false) [Is (.agg (ints .u8 sb).toArray), Is (.agg (ints .u8 bb).toArray), Is (.agg (ints .u8 m).toArray)] [3, 4, 5] (by kernel_rfl) (by kernel_rfl) (by kernel_rfl) (Nat.le_of_eq rfl) (grows_cons (Is.grows _) (grows_cons (Is.grows _) (grows_cons (Is.grows _) grows_nil)))
    ⟨step_by rfl (.inl rfl) hS2 1 rfl (by kernel_rfl) rfl rfl,
     step_to0 rfl (.inl rfl) rfl cf12b kbase rfl,
     step_to rfl (.inl rfl) rfl cf8 kmul rfl (two_args (knows_in 0 3 (by decide) (by kernel_rfl) rfl rfl) (knows_in 1 4 (by decide) (by kernel_rfl) rfl rfl)), trivial⟩ ?_
  intro val w1 hw hS hap hla
  have e3 : val 3 = (.agg (ints .u8 sb).toArray) := hS 0 3 (by decide) rfl
  have e4 : val 4 = (.agg (ints .u8 bb).toArray) := hS 1 4 (by decide) rfl
  have e5 : val 5 = (.agg (ints .u8 m).toArray) := hS 2 5 (by decide) rfl
  simp only [putVals, List.foldl_cons, List.foldl_nil, List.drop_succ_cons, List.drop_zero, Act.put, List.setIfInBounds_toArray, List.set_cons_succ, List.set_cons_zero, e3, e4, e5]
  clear hS hap hla e3 e4 e5
  replace hS2 := hS2.next hw
  replace h2 := h2.next hw
  replace hW := hW.trans (Below.mono hw hW.size)
  clear hw
  have LM := hid lm
  have r4 := h2.room LM.out
  have hf4 := h2.stored LM.out
  replace hW := Below.setCells hW (g := W.heap.size + 1) (by omega) 0 (ints .u8 m).toArray.toList
  clear lm h2 kmul lsb kbase
  go_wp2_with (first
    | (with_reducible refine wpList_store_mid (op := ⟨none, .store 22 (.tmp 2) (.tmp 5), _, _, _, _⟩) rfl 22 (.tmp 2) (.tmp 5) rfl (W.heap.size + 1) 0 (ints .u8 m).toArray rfl rfl r4 (a22 LM.out) (ints_all _ _) ?_))
  exact ret_rows rfl (W.heap.size + 1) 0 rfl (ints .u8 m) _ hf4.range Tryd.underlying22 rfl (l22 LM.out) rfl ⟨rfl, hW⟩

def baseL : List Int := 9 :: zeros 31
set_option maxRecDepth 50000 in
theorem built22b : Tryd.prog.built 22 [(0, .int .u8 9)] = some (ints .u8 baseL).toArray := by kernel_rfl
set_option maxRecDepth 50000 in
theorem c_base : CallsTo 15 #[] (.agg (ints .u8 baseL).toArray) := fun W => by
  obtain ⟨z22, s22⟩ := zero_of_info inf22
  have h0 := By.new W (zeros 32) (zeros_len 32)
  have hW := below_new W (.cells (ints .u8 (zeros 32)).toArray 22)
  have LM := hid (show baseL.length = 32 by simp [baseL, zeros])
  have r0 := h0.room LM.out
  have hf := h0.stored LM.out
  replace hW := Below.setCells hW (g := W.heap.size) (Nat.le_refl _) 0 (ints .u8 baseL).toArray.toList
  have hb22 := built22b
  generalize baseL = m at *
  go_enter Tryd.func15, Tryd.ntmps15
  go_upto_region 1 with (fail)
  refine wp_region_lit ?_
  refine wpList_built rfl 22 #[(0, .const (.int .u8 9))] rfl [(0, .int .u8 9)] _ (by simp [Act.eval]) hb22 ?_
  simp only [Act.put, List.setIfInBounds_toArray, List.set_cons_succ, List.set_cons_zero]
  with_reducible refine wpList_store_mid (op := ⟨none, .store 22 (.tmp 0) (.tmp 1), _, _, _, _⟩) rfl 22 (.tmp 0) (.tmp 1) rfl W.heap.size 0 (ints .u8 m).toArray rfl rfl r0 (a22 LM.out) (ints_all _ _) ?_
  go_wp2_with (fail)
  exact ret_rows rfl W.heap.size 0 rfl (ints .u8 m) _ hf.range Tryd.underlying22 rfl (l22 LM.out) rfl ⟨rfl, hW⟩
set_option maxRecDepth 50000 in
theorem base_byt : Byt baseL := fun x hx => by
  rcases List.mem_cons.1 hx with h | h
  · omega
  · have := List.eq_of_mem_replicate h
    omega
set_option maxRecDepth 50000 in
theorem base_len : baseL.length = 32 := by simp [baseL, zeros]
set_option maxRecDepth 50000 in
theorem c_shared {sb pb : List Int} (ls : sb.length = 32) (bs : Byt sb) (lp : pb.length = 32) (bp : Byt pb) (d : Bool) (hd : decide (rbytes (mulN sb (uOf pb)) = rbytes 0) = d) : CallsTo 17 #[.agg (ints .u8 sb).toArray, .agg (ints .u8 pb).toArray] (.tuple #[.agg (ints .u8 (rbytes (mulN sb (uOf pb)))).toArray, .int .i64 (if d then 21 else 0)]) := by
  cases d with
  | true => exact shared_yes ls lp (rbytes_length _) (c_lmul ls bs lp bp) (hid hd)
  | false => exact shared_no ls lp (rbytes_length _) (c_lmul ls bs lp bp) (hid hd)
set_option maxRecDepth 50000 in
theorem c_public {sb : List Int} (ls : sb.length = 32) (bs : Byt sb) : CallsTo 6 #[.agg (ints .u8 sb).toArray] (.agg (ints .u8 (rbytes (mulN sb (uOf baseL)))).toArray) :=
  public_core ls (rbytes_length _) c_base (c_lmul ls bs base_len base_byt)
end Go.Proofs.YtkblmdakejmmhaaDoor
