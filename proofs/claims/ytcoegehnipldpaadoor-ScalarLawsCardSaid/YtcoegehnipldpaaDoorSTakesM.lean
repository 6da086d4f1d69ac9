/- Which scalar bytes are: the walk. -/
import Derived.Test.YtcoegehnipldpaaDoorSLawSM
namespace Go.Proofs.YtcoegehnipldpaaDoor
open Go Go.RowKit

theorem lt_le_ne (m n : Nat) : (decide (m < n) == decide (n ≤ m)) = false := by
  by_cases h : m < n
  · rw [decide_eq_true h, decide_eq_false (by omega)]; rfl
  · rw [decide_eq_false h, decide_eq_true (by omega)]; rfl
set_option maxRecDepth 4000 in
set_option maxHeartbeats 8000000 in
theorem takes_yes (W : World) (hT : Tabs W) (A : Option Addr) (L cp : Nat) (bs : List Int) (hA : Nums W .u8 A bs) {c : List Int} (lc : c.length = 32) (yc : Byt c) {x : List Int} (lx : x.length = 32) (kright : CallsT 11 #[.agg (ints .u8 x).toArray] (.bool true)) (krof : ∀ w0 : World, Nums w0 .u8 A bs → Calls Tryd.prog 14 #[.slice A L cp] w0 fun e w' => e = .returned (.agg (ints .u8 x).toArray) ∧ Below w0.heap.size w0 w') (hL : ¬ (128 : Int) < (L : Int))
    (kof : ∀ w0 : World, Tabs w0 → Nums w0 .u8 A bs → Calls Tryd.prog 7 #[.slice A L cp] w0 fun e w' => e = .returned (.tuple #[.agg (ints .u8 x).toArray, .int .i64 0]) ∧ Below w0.heap.size w0 w') :
    Calls Tryd.prog 3 #[.slice A L cp, .agg (ints .u8 c).toArray] W fun e w' => e = .returned (.bool true) ∧ Below W.heap.size W w' := by
  obtain ⟨z22, s22⟩ := zero_of_info inf22
  have h3 := By.new W c lc
  have hW := below_new W (.cells (ints .u8 c).toArray 23)
  replace hT := hT.below hW hT.1
  replace hA := hA.below hW
  go_enter Tryd.func3, Tryd.ntmps3
  go_wp2_with (fail)
  generalize W.alloc (.cells (ints .u8 c).toArray 23) = wa at *
  refine (awake_any _ hT).mono ?_
  rintro e wc ⟨rfl, hb1⟩
  replace h3 := h3.next hb1
  replace hA := hA.below hb1
  replace hT := hT.next hb1
  replace hW := hW.trans (hb1.mono hW.size)
  clear hb1
  go_wp2_with (fail)
  refine (kof _ hT hA).mono ?_
  rintro e w2 ⟨rfl, hb2⟩
  have h3b := h3.next hb2
  have hAb := hA.below hb2
  have hW2 := hW.trans (hb2.mono hW.size)
  have hT2 := hT.next hb2
  have h9a := Arr.made w2 .u8 (zeros 32) 23
  have hs1 : (w2.alloc (.cells (ints .u8 (zeros 32)).toArray 23)).there w2.heap.size 0 (ints .u8 x).toArray.size := h9a.room lx
  have h9 : By ((w2.alloc (.cells (ints .u8 (zeros 32)).toArray 23)).setCells w2.heap.size 0 (ints .u8 x).toArray.toList) w2.heap.size x := ⟨h9a.stored lx, lx⟩
  have hbs : Below w2.heap.size w2 ((w2.alloc (.cells (ints .u8 (zeros 32)).toArray 23)).setCells w2.heap.size 0 (ints .u8 x).toArray.toList) := Below.setCells (below_new _ _) (Nat.le_refl _) 0 _
  have h3c := h3b.next hbs
  have hAc := hAb.below hbs
  have hW3 := hW2.trans (hbs.mono hW2.size)
  have hT3 := hT2.next hbs
  clear h3 hA hW hT hb2 h3b hAb hW2 hT2 h9a hbs
  go_upto_region 4 with (first
    | (with_reducible refine wpList_store_mid (op := ⟨none, .store 23 (.tmp 5) (.tmp 12), _, _, _, _⟩) rfl 23 (.tmp 5) (.tmp 12) rfl w2.heap.size 0 (ints .u8 x).toArray rfl rfl hs1 (a22 lx) (ints_all _ _) ?_; generalize (w2.alloc (.cells (ints .u8 (zeros 32)).toArray 23)).setCells w2.heap.size 0 (ints .u8 x).toArray.toList = wb at *))
  generalize w2.heap.size = b9 at *
  have h3 := h3c
  have hA := hAc
  have hW := hW3
  have hT := hT3
  clear hs1 h3c hAc hW3 hT3
  generalize wb = w0 at *
  have s0 := hW.size
  refine region_spec2 12 49 (fun i => i == 1 || i == 8 || i == 9) [Is (.agg (ints .u8 (rbytes QN)).toArray), IsR w0.heap.size QN, Is (.agg (ints .u8 (rbytes QN)).toArray), Is (.bool false), Is (.bool false), Is (.agg (ints .u8 c).toArray), Is (.bool (decide (bn c < QN))), Is (.agg (ints .u8 c).toArray), IsR w0.heap.size (bn c), IsR w0.heap.size QN, Is (.bool (decide (QN ≤ bn c))), Is (.bool false)] [14, 15, 16, 17, 18, 19, 20, 21, 22, 23, 24, 25] (by kernel_rfl) (by kernel_rfl) (by kernel_rfl) (Nat.le_of_eq rfl) (grows_cons (Is.grows _) (grows_cons (IsR.grows _ _) (grows_cons (Is.grows _) (grows_cons (Is.grows _) (grows_cons (Is.grows _) (grows_cons (Is.grows _) (grows_cons (Is.grows _) (grows_cons (Is.grows _) (grows_cons (IsR.grows _ _) (grows_cons (IsR.grows _ _) (grows_cons (Is.grows _) (grows_cons (Is.grows _) grows_nil))))))))))))
    ⟨step_toT rfl (.inl rfl) rfl cfT8 hT c_order rfl (no_args),
     step_rout (.inl rfl) rfl cfT10 rfl (fun a w hw hf hd => ⟨#[], by simp, q_out w⟩),
     step_rbytes rfl (.inl rfl) rfl cfT9 rfl (knowsR_in 1 15 (by decide) (by kernel_rfl) rfl rfl),
     step_nes rfl (.inl rfl) rfl (rbytes_length _) rfl (knows_in 0 14 (by decide) (by kernel_rfl) rfl rfl) (knows_in 2 16 (by decide) (by kernel_rfl) rfl rfl),
     step_mv rfl (.inl rfl) rfl rfl (knows_in 3 17 (by decide) (by kernel_rfl) rfl rfl),
     step_by rfl (.inr ⟨4, false, 18, rfl, by decide, by kernel_rfl, rfl, fun _ _ h => h⟩) h3 3 rfl (by kernel_rfl) rfl rfl,
     step_toT rfl (.inr ⟨4, false, 18, rfl, by decide, by kernel_rfl, rfl, fun _ _ h => h⟩) rfl cfT11 hT (c_right lc yc) rfl (one_arg (knows_in 5 19 (by decide) (by kernel_rfl) rfl rfl)),
     step_by rfl (.inr ⟨4, false, 18, rfl, by decide, by kernel_rfl, rfl, fun _ _ h => h⟩) h3 3 rfl (by kernel_rfl) rfl rfl,
     step_rout (.inr ⟨4, false, 18, rfl, by decide, by kernel_rfl, rfl, fun _ _ h => h⟩) rfl cfT13 rfl (fun a w hw hf hd => ⟨_, one_arg (knows_in 7 21 (by decide) (by kernel_rfl) rfl rfl) a w hw hf hd, rdig_out lc yc⟩),
     step_rout (.inr ⟨4, false, 18, rfl, by decide, by kernel_rfl, rfl, fun _ _ h => h⟩) rfl cfT10 rfl (fun a w hw hf hd => ⟨#[], by simp, q_out w⟩),
     step_ral rfl (.inr ⟨4, false, 18, rfl, by decide, by kernel_rfl, rfl, fun _ _ h => h⟩) rfl cfT12 rfl (knowsR_in 8 22 (by decide) (by kernel_rfl) rfl rfl) (knowsR_in 9 23 (by decide) (by kernel_rfl) rfl rfl),
     step_eqbn rfl (.inr ⟨4, false, 18, rfl, by decide, by kernel_rfl, rfl, fun _ _ h => h⟩) (lt_le_ne _ _) rfl rfl (knows_in 6 20 (by decide) (by kernel_rfl) rfl rfl) (knows_in 10 24 (by decide) (by kernel_rfl) rfl rfl), trivial⟩ ?_
  intro val w1 hw hS hap hla
  have e14 : val 14 = (.agg (ints .u8 (rbytes QN)).toArray) := hS 0 14 (by decide) rfl
  obtain ⟨A15, c15, y15, e15, H15, N15⟩ := hS 1 15 (by decide) rfl
  have e16 : val 16 = (.agg (ints .u8 (rbytes QN)).toArray) := hS 2 16 (by decide) rfl
  have e17 : val 17 = (.bool false) := hS 3 17 (by decide) rfl
  have e18 : val 18 = (.bool false) := hS 4 18 (by decide) rfl
  have e19 : val 19 = (.agg (ints .u8 c).toArray) := hS 5 19 (by decide) rfl
  have e20 : val 20 = (.bool (decide (bn c < QN))) := hS 6 20 (by decide) rfl
  have e21 : val 21 = (.agg (ints .u8 c).toArray) := hS 7 21 (by decide) rfl
  obtain ⟨A22, c22, y22, e22, H22, N22⟩ := hS 8 22 (by decide) rfl
  obtain ⟨A23, c23, y23, e23, H23, N23⟩ := hS 9 23 (by decide) rfl
  have e24 : val 24 = (.bool (decide (QN ≤ bn c))) := hS 10 24 (by decide) rfl
  have e25 : val 25 = (.bool false) := hS 11 25 (by decide) rfl
  simp only [putVals, List.foldl_cons, List.foldl_nil, List.drop_succ_cons, List.drop_zero, Act.put, List.setIfInBounds_toArray, List.set_cons_succ, List.set_cons_zero, e14, e15, e16, e17, e18, e19, e20, e21, e22, e23, e24, e25]
  clear hS hap hla e14 e15 e16 e17 e18 e19 e20 e21 e22 e23 e24 e25 H15 N15 H22 N22 H23 N23
  replace h3 := h3.next hw
  replace h9 := h9.next hw
  replace hA := hA.below hw
  replace hT := hT.next hw
  replace hW := hW.trans (Below.mono hw hW.size)
  clear hw
  go_upto_region 8 with (fail)
  have s1 := hW.size
  refine region_spec2 12 49 (fun _ => false) [Is (.int .i64 0), Is (.bool true), Is (.bool true), Is (.agg (ints .u8 x).toArray), Is (.slice A L cp), Is (.agg (ints .u8 x).toArray), Is (.bool true), Is (.bool true), Is (.bool true), Is (.agg (ints .u8 x).toArray), Is (.bool true), Is (.bool true)] [37, 38, 39, 40, 41, 42, 43, 44, 45, 46, 47, 48] (by kernel_rfl) (by kernel_rfl) (by kernel_rfl) (Nat.le_of_eq rfl) (grows_cons (Is.grows _) (grows_cons (Is.grows _) (grows_cons (Is.grows _) (grows_cons (Is.grows _) (grows_cons (Is.grows _) (grows_cons (Is.grows _) (grows_cons (Is.grows _) (grows_cons (Is.grows _) (grows_cons (Is.grows _) (grows_cons (Is.grows _) (grows_cons (Is.grows _) (grows_cons (Is.grows _) grows_nil))))))))))))
    ⟨step_mv rfl (.inl rfl) rfl rfl (knows_out 6 (by kernel_rfl) rfl),
     step_eqE rfl (.inl rfl) rfl rfl rfl (knows_in 0 37 (by decide) (by kernel_rfl) rfl rfl),
     step_mv rfl (.inl rfl) rfl rfl (knows_in 1 38 (by decide) (by kernel_rfl) rfl rfl),
     step_by rfl (.inr ⟨2, true, 39, rfl, by decide, by kernel_rfl, rfl, fun _ _ h => h⟩) h9 5 rfl (by kernel_rfl) rfl rfl,
     step_mv rfl (.inr ⟨2, true, 39, rfl, by decide, by kernel_rfl, rfl, fun _ _ h => h⟩) rfl rfl (knows_out 0 (by kernel_rfl) rfl),
     step_call rfl (.inr ⟨2, true, 39, rfl, by decide, by kernel_rfl, rfl, fun _ _ h => h⟩) fun a w hw hf hd => ⟨14, #[.slice A L cp], ex_fn rfl cfT14 rfl _ (one_arg (knows_in 4 41 (by decide) (by kernel_rfl) rfl rfl) a w hw hf hd) w, (krof w (hA.below hw)).mono fun _ _ ⟨he, hb⟩ => ⟨_, he, rfl, hb⟩⟩,
     step_eqs rfl (.inr ⟨2, true, 39, rfl, by decide, by kernel_rfl, rfl, fun _ _ h => h⟩) rfl lx rfl (knows_in 3 40 (by decide) (by kernel_rfl) rfl rfl) (knows_in 5 42 (by decide) (by kernel_rfl) rfl rfl),
     step_pick rfl (.inl rfl) (b := true) rfl rfl (knows_in 2 39 (by decide) (by kernel_rfl) rfl rfl) (knows_in 6 43 (by decide) (by kernel_rfl) rfl rfl),
     step_mv rfl (.inl rfl) rfl rfl (knows_in 7 44 (by decide) (by kernel_rfl) rfl rfl),
     step_by rfl (.inr ⟨8, true, 45, rfl, by decide, by kernel_rfl, rfl, fun _ _ h => h⟩) h9 5 rfl (by kernel_rfl) rfl rfl,
     step_toT rfl (.inr ⟨8, true, 45, rfl, by decide, by kernel_rfl, rfl, fun _ _ h => h⟩) rfl cfT11 hT kright rfl (one_arg (knows_in 9 46 (by decide) (by kernel_rfl) rfl rfl)),
     step_pick rfl (.inl rfl) (b := true) rfl rfl (knows_in 8 45 (by decide) (by kernel_rfl) rfl rfl) (knows_in 10 47 (by decide) (by kernel_rfl) rfl rfl), trivial⟩ ?_
  intro val w2 hw hS hap hla
  have e37 : val 37 = (.int .i64 0) := hS 0 37 (by decide) rfl
  have e38 : val 38 = (.bool true) := hS 1 38 (by decide) rfl
  have e39 : val 39 = (.bool true) := hS 2 39 (by decide) rfl
  have e40 : val 40 = (.agg (ints .u8 x).toArray) := hS 3 40 (by decide) rfl
  have e41 : val 41 = (.slice A L cp) := hS 4 41 (by decide) rfl
  have e42 : val 42 = (.agg (ints .u8 x).toArray) := hS 5 42 (by decide) rfl
  have e43 : val 43 = (.bool true) := hS 6 43 (by decide) rfl
  have e44 : val 44 = (.bool true) := hS 7 44 (by decide) rfl
  have e45 : val 45 = (.bool true) := hS 8 45 (by decide) rfl
  have e46 : val 46 = (.agg (ints .u8 x).toArray) := hS 9 46 (by decide) rfl
  have e47 : val 47 = (.bool true) := hS 10 47 (by decide) rfl
  have e48 : val 48 = (.bool true) := hS 11 48 (by decide) rfl
  simp only [putVals, List.foldl_cons, List.foldl_nil, List.drop_succ_cons, List.drop_zero, Act.put, List.setIfInBounds_toArray, List.set_cons_succ, List.set_cons_zero, e37, e38, e39, e40, e41, e42, e43, e44, e45, e46, e47, e48]
  clear hS hap hla e37 e38 e39 e40 e41 e42 e43 e44 e45 e46 e47 e48 
  replace h3 := h3.next hw
  replace h9 := h9.next hw
  replace hA := hA.below hw
  replace hT := hT.next hw
  replace hW := hW.trans (Below.mono hw hW.size)
  clear hw
  go_wp2_with (fail)
  go_ret
  exact ⟨rfl, hW⟩

set_option maxRecDepth 4000 in
set_option maxHeartbeats 8000000 in
theorem takes_no (W : World) (hT : Tabs W) (A : Option Addr) (L cp : Nat) (bs : List Int) (hA : Nums W .u8 A bs) {c : List Int} (lc : c.length = 32) (yc : Byt c) (hL : (128 : Int) < (L : Int))
    (kof : ∀ w0 : World, Tabs w0 → Nums w0 .u8 A bs → Calls Tryd.prog 7 #[.slice A L cp] w0 fun e w' => e = .returned (.tuple #[.agg (ints .u8 (zeros 32)).toArray, .int .i64 3]) ∧ Below w0.heap.size w0 w') :
    Calls Tryd.prog 3 #[.slice A L cp, .agg (ints .u8 c).toArray] W fun e w' => e = .returned (.bool true) ∧ Below W.heap.size W w' := by
  obtain ⟨z22, s22⟩ := zero_of_info inf22
  have h3 := By.new W c lc
  have hW := below_new W (.cells (ints .u8 c).toArray 23)
  replace hT := hT.below hW hT.1
  replace hA := hA.below hW
  go_enter Tryd.func3, Tryd.ntmps3
  go_wp2_with (fail)
  generalize W.alloc (.cells (ints .u8 c).toArray 23) = wa at *
  refine (awake_any _ hT).mono ?_
  rintro e wc ⟨rfl, hb1⟩
  replace h3 := h3.next hb1
  replace hA := hA.below hb1
  replace hT := hT.next hb1
  replace hW := hW.trans (hb1.mono hW.size)
  clear hb1
  go_wp2_with (fail)
  refine (kof _ hT hA).mono ?_
  rintro e w2 ⟨rfl, hb2⟩
  have h3b := h3.next hb2
  have hAb := hA.below hb2
  have hW2 := hW.trans (hb2.mono hW.size)
  have hT2 := hT.next hb2
  have h9a := Arr.made w2 .u8 (zeros 32) 23
  have hs1 : (w2.alloc (.cells (ints .u8 (zeros 32)).toArray 23)).there w2.heap.size 0 (ints .u8 (zeros 32)).toArray.size := h9a.room (zeros_len 32)
  have h9 : By ((w2.alloc (.cells (ints .u8 (zeros 32)).toArray 23)).setCells w2.heap.size 0 (ints .u8 (zeros 32)).toArray.toList) w2.heap.size (zeros 32) := ⟨h9a.stored (zeros_len 32), (zeros_len 32)⟩
  have hbs : Below w2.heap.size w2 ((w2.alloc (.cells (ints .u8 (zeros 32)).toArray 23)).setCells w2.heap.size 0 (ints .u8 (zeros 32)).toArray.toList) := Below.setCells (below_new _ _) (Nat.le_refl _) 0 _
  have h3c := h3b.next hbs
  have hAc := hAb.below hbs
  have hW3 := hW2.trans (hbs.mono hW2.size)
  have hT3 := hT2.next hbs
  clear h3 hA hW hT hb2 h3b hAb hW2 hT2 h9a hbs
  go_upto_region 4 with (first
    | (with_reducible refine wpList_store_mid (op := ⟨none, .store 23 (.tmp 5) (.tmp 12), _, _, _, _⟩) rfl 23 (.tmp 5) (.tmp 12) rfl w2.heap.size 0 (ints .u8 (zeros 32)).toArray rfl rfl hs1 (a22 (zeros_len 32)) (ints_all _ _) ?_; generalize (w2.alloc (.cells (ints .u8 (zeros 32)).toArray 23)).setCells w2.heap.size 0 (ints .u8 (zeros 32)).toArray.toList = wb at *))
  generalize w2.heap.size = b9 at *
  have h3 := h3c
  have hA := hAc
  have hW := hW3
  have hT := hT3
  clear hs1 h3c hAc hW3 hT3
  generalize wb = w0 at *
  have s0 := hW.size
  refine region_spec2 12 49 (fun i => i == 1 || i == 8 || i == 9) [Is (.agg (ints .u8 (rbytes QN)).toArray), IsR w0.heap.size QN, Is (.agg (ints .u8 (rbytes QN)).toArray), Is (.bool false), Is (.bool false), Is (.agg (ints .u8 c).toArray), Is (.bool (decide (bn c < QN))), Is (.agg (ints .u8 c).toArray), IsR w0.heap.size (bn c), IsR w0.heap.size QN, Is (.bool (decide (QN ≤ bn c))), Is (.bool false)] [14, 15, 16, 17, 18, 19, 20, 21, 22, 23, 24, 25] (by kernel_rfl) (by kernel_rfl) (by kernel_rfl) (Nat.le_of_eq rfl) (grows_cons (Is.grows _) (grows_cons (IsR.grows _ _) (grows_cons (Is.grows _) (grows_cons (Is.grows _) (grows_cons (Is.grows _) (grows_cons (Is.grows _) (grows_cons (Is.grows _) (grows_cons (Is.grows _) (grows_cons (IsR.grows _ _) (grows_cons (IsR.grows _ _) (grows_cons (Is.grows _) (grows_cons (Is.grows _) grows_nil))))))))))))
    ⟨step_toT rfl (.inl rfl) rfl cfT8 hT c_order rfl (no_args),
     step_rout (.inl rfl) rfl cfT10 rfl (fun a w hw hf hd => ⟨#[], by simp, q_out w⟩),
     step_rbytes rfl (.inl rfl) rfl cfT9 rfl (knowsR_in 1 15 (by decide) (by kernel_rfl) rfl rfl),
     step_nes rfl (.inl rfl) rfl (rbytes_length _) rfl (knows_in 0 14 (by decide) (by kernel_rfl) rfl rfl) (knows_in 2 16 (by decide) (by kernel_rfl) rfl rfl),
     step_mv rfl (.inl rfl) rfl rfl (knows_in 3 17 (by decide) (by kernel_rfl) rfl rfl),
     step_by rfl (.inr ⟨4, false, 18, rfl, by decide, by kernel_rfl, rfl, fun _ _ h => h⟩) h3 3 rfl (by kernel_rfl) rfl rfl,
     step_toT rfl (.inr ⟨4, false, 18, rfl, by decide, by kernel_rfl, rfl, fun _ _ h => h⟩) rfl cfT11 hT (c_right lc yc) rfl (one_arg (knows_in 5 19 (by decide) (by kernel_rfl) rfl rfl)),
     step_by rfl (.inr ⟨4, false, 18, rfl, by decide, by kernel_rfl, rfl, fun _ _ h => h⟩) h3 3 rfl (by kernel_rfl) rfl rfl,
     step_rout (.inr ⟨4, false, 18, rfl, by decide, by kernel_rfl, rfl, fun _ _ h => h⟩) rfl cfT13 rfl (fun a w hw hf hd => ⟨_, one_arg (knows_in 7 21 (by decide) (by kernel_rfl) rfl rfl) a w hw hf hd, rdig_out lc yc⟩),
     step_rout (.inr ⟨4, false, 18, rfl, by decide, by kernel_rfl, rfl, fun _ _ h => h⟩) rfl cfT10 rfl (fun a w hw hf hd => ⟨#[], by simp, q_out w⟩),
     step_ral rfl (.inr ⟨4, false, 18, rfl, by decide, by kernel_rfl, rfl, fun _ _ h => h⟩) rfl cfT12 rfl (knowsR_in 8 22 (by decide) (by kernel_rfl) rfl rfl) (knowsR_in 9 23 (by decide) (by kernel_rfl) rfl rfl),
     step_eqbn rfl (.inr ⟨4, false, 18, rfl, by decide, by kernel_rfl, rfl, fun _ _ h => h⟩) (lt_le_ne _ _) rfl rfl (knows_in 6 20 (by decide) (by kernel_rfl) rfl rfl) (knows_in 10 24 (by decide) (by kernel_rfl) rfl rfl), trivial⟩ ?_
  intro val w1 hw hS hap hla
  have e14 : val 14 = (.agg (ints .u8 (rbytes QN)).toArray) := hS 0 14 (by decide) rfl
  obtain ⟨A15, c15, y15, e15, H15, N15⟩ := hS 1 15 (by decide) rfl
  have e16 : val 16 = (.agg (ints .u8 (rbytes QN)).toArray) := hS 2 16 (by decide) rfl
  have e17 : val 17 = (.bool false) := hS 3 17 (by decide) rfl
  have e18 : val 18 = (.bool false) := hS 4 18 (by decide) rfl
  have e19 : val 19 = (.agg (ints .u8 c).toArray) := hS 5 19 (by decide) rfl
  have e20 : val 20 = (.bool (decide (bn c < QN))) := hS 6 20 (by decide) rfl
  have e21 : val 21 = (.agg (ints .u8 c).toArray) := hS 7 21 (by decide) rfl
  obtain ⟨A22, c22, y22, e22, H22, N22⟩ := hS 8 22 (by decide) rfl
  obtain ⟨A23, c23, y23, e23, H23, N23⟩ := hS 9 23 (by decide) rfl
  have e24 : val 24 = (.bool (decide (QN ≤ bn c))) := hS 10 24 (by decide) rfl
  have e25 : val 25 = (.bool false) := hS 11 25 (by decide) rfl
  simp only [putVals, List.foldl_cons, List.foldl_nil, List.drop_succ_cons, List.drop_zero, Act.put, List.setIfInBounds_toArray, List.set_cons_succ, List.set_cons_zero, e14, e15, e16, e17, e18, e19, e20, e21, e22, e23, e24, e25]
  clear hS hap hla e14 e15 e16 e17 e18 e19 e20 e21 e22 e23 e24 e25 H15 N15 H22 N22 H23 N23
  replace h3 := h3.next hw
  replace h9 := h9.next hw
  replace hA := hA.below hw
  replace hT := hT.next hw
  replace hW := hW.trans (Below.mono hw hW.size)
  clear hw
  go_upto_region 7 with (fail)
  have s1 := hW.size
  refine region_seq2 7 49 (fun _ => false) [Is (.int .i64 3), Is (.bool true), Is (.bool true), Is (.agg (ints .u8 (zeros 32)).toArray), Is (.agg (ints .u8 (zeros 32)).toArray), Is (.bool true), Is (.bool true)] [30, 31, 32, 33, 34, 35, 36] (by kernel_rfl) (by kernel_rfl) (Nat.le_of_eq rfl) (grows_cons (Is.grows _) (grows_cons (Is.grows _) (grows_cons (Is.grows _) (grows_cons (Is.grows _) (grows_cons (Is.grows _) (grows_cons (Is.grows _) (grows_cons (Is.grows _) grows_nil)))))))
    ⟨step_mv rfl (.inl rfl) rfl rfl (knows_out 6 (by kernel_rfl) rfl),
     step_eqE rfl (.inl rfl) rfl rfl rfl (knows_in 0 30 (by decide) (by kernel_rfl) rfl rfl),
     step_mv rfl (.inl rfl) rfl rfl (knows_in 1 31 (by decide) (by kernel_rfl) rfl rfl),
     step_by rfl (.inr ⟨2, true, 32, rfl, by decide, by kernel_rfl, rfl, fun _ _ h => h⟩) h9 5 rfl (by kernel_rfl) rfl rfl,
     step_noneB rfl (.inr ⟨2, true, 32, rfl, by decide, by kernel_rfl, rfl, fun _ _ h => h⟩) rfl rfl,
     step_eqs rfl (.inr ⟨2, true, 32, rfl, by decide, by kernel_rfl, rfl, fun _ _ h => h⟩) rfl (zeros_len 32) rfl (knows_in 3 33 (by decide) (by kernel_rfl) rfl rfl) (knows_in 4 34 (by decide) (by kernel_rfl) rfl rfl),
     step_pick rfl (.inl rfl) (b := true) rfl rfl (knows_in 2 32 (by decide) (by kernel_rfl) rfl rfl) (knows_in 5 35 (by decide) (by kernel_rfl) rfl rfl), trivial⟩ ?_
  intro val w2 hw hS hap hla
  have e30 : val 30 = (.int .i64 3) := hS 0 30 (by decide) rfl
  have e31 : val 31 = (.bool true) := hS 1 31 (by decide) rfl
  have e32 : val 32 = (.bool true) := hS 2 32 (by decide) rfl
  have e33 : val 33 = (.agg (ints .u8 (zeros 32)).toArray) := hS 3 33 (by decide) rfl
  have e34 : val 34 = (.agg (ints .u8 (zeros 32)).toArray) := hS 4 34 (by decide) rfl
  have e35 : val 35 = (.bool true) := hS 5 35 (by decide) rfl
  have e36 : val 36 = (.bool true) := hS 6 36 (by decide) rfl
  simp only [putVals, List.foldl_cons, List.foldl_nil, List.drop_succ_cons, List.drop_zero, Act.put, List.setIfInBounds_toArray, List.set_cons_succ, List.set_cons_zero, e30, e31, e32, e33, e34, e35, e36]
  clear hS hap hla e30 e31 e32 e33 e34 e35 e36 
  replace h3 := h3.next hw
  replace h9 := h9.next hw
  replace hA := hA.below hw
  replace hT := hT.next hw
  replace hW := hW.trans (Below.mono hw hW.size)
  clear hw
  go_wp2_with (fail)
  go_ret
  exact ⟨rfl, hW⟩

end Go.Proofs.YtcoegehnipldpaaDoor
