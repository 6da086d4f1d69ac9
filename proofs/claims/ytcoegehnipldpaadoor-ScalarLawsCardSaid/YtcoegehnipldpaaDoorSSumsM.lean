/- Any sums, products and negatives: the walk. -/
import Derived.Test.YtcoegehnipldpaaDoorSLawSM
namespace Go.Proofs.YtcoegehnipldpaaDoor
open Go Go.RowKit

set_option maxRecDepth 4000 in
set_option maxHeartbeats 8000000 in
theorem sums_core (W : World) (hT : Tabs W) {a b c ab mab mc na : List Int} (la : a.length = 32) (lb : b.length = 32) (lc : c.length = 32) (lab : ab.length = 32) (lmab : mab.length = 32) (lmc : mc.length = 32) (lna : na.length = 32) (k0 : CallsT 16 #[.agg (ints .u8 a).toArray, .agg (ints .u8 b).toArray] (.agg (ints .u8 ab).toArray)) (k1 : CallsT 17 #[.agg (ints .u8 a).toArray, .agg (ints .u8 b).toArray] (.agg (ints .u8 ab).toArray)) (k2 : CallsT 18 #[.agg (ints .u8 a).toArray, .agg (ints .u8 b).toArray] (.agg (ints .u8 mab).toArray)) (k3 : CallsT 19 #[.agg (ints .u8 a).toArray, .agg (ints .u8 b).toArray] (.agg (ints .u8 mab).toArray)) (k4 : CallsT 20 #[.agg (ints .u8 a).toArray, .agg (ints .u8 b).toArray, .agg (ints .u8 c).toArray] (.agg (ints .u8 mc).toArray)) (k5 : CallsT 17 #[.agg (ints .u8 mab).toArray, .agg (ints .u8 c).toArray] (.agg (ints .u8 mc).toArray)) (k6 : CallsT 17 #[.agg (ints .u8 na).toArray, .agg (ints .u8 a).toArray] (.agg (ints .u8 (zeros 32)).toArray)) (kright : CallsT 11 #[.agg (ints .u8 na).toArray] (.bool true)) (kneg : CallsT 15 #[.agg (ints .u8 a).toArray] (.agg (ints .u8 na).toArray)) :
    Calls Tryd.prog 4 #[.agg (ints .u8 a).toArray, .agg (ints .u8 b).toArray, .agg (ints .u8 c).toArray] W fun e w' => e = .returned (.bool true) ∧ Below W.heap.size W w' := by
  obtain ⟨z22, s22⟩ := zero_of_info inf22
  have h3 := ((By.new W a la).next (below_new _ (.cells (ints .u8 b).toArray 23))).next (below_new _ (.cells (ints .u8 c).toArray 23))
  have h4 := (By.new (W.alloc (.cells (ints .u8 a).toArray 23)) b lb).next (below_new _ (.cells (ints .u8 c).toArray 23))
  have h5 := By.new ((W.alloc (.cells (ints .u8 a).toArray 23)).alloc (.cells (ints .u8 b).toArray 23)) c lc
  have hW := ((below_new W (.cells (ints .u8 a).toArray 23)).alloc (by simp) (.cells (ints .u8 b).toArray 23)).alloc (by simp; omega) (.cells (ints .u8 c).toArray 23)
  simp only [World.size_alloc] at h4 h5
  replace hT := hT.below hW hT.1
  go_enter Tryd.func4, Tryd.ntmps4
  go_wp2_with (fail)
  generalize ((W.alloc (.cells (ints .u8 a).toArray 23)).alloc (.cells (ints .u8 b).toArray 23)).alloc (.cells (ints .u8 c).toArray 23) = wa at *
  refine (awake_any _ hT).mono ?_
  rintro e wc ⟨rfl, hb1⟩
  replace h3 := h3.next hb1
  replace h4 := h4.next hb1
  replace h5 := h5.next hb1
  replace hT := hT.next hb1
  replace hW := hW.trans (hb1.mono hW.size)
  clear hb1
  go_wp2_with (first
    | (with_reducible refine wpList_load_mid (op := ⟨some 10, .load 23 (.tmp 3), _, _, _, _⟩) rfl 23 (.tmp 3) rfl W.heap.size 0 rfl (ints .u8 a) _ h3.range Tryd.underlying23 rfl (l22 la) ?_))
  refine (kneg _ hT).mono ?_
  rintro e w2 ⟨rfl, hb2⟩
  have h3b := h3.next hb2
  have h4b := h4.next hb2
  have h5b := h5.next hb2
  have hW2 := hW.trans (hb2.mono hW.size)
  have hT2 := hT.next hb2
  have h9a := Arr.made w2 .u8 (zeros 32) 23
  have hs1 : (w2.alloc (.cells (ints .u8 (zeros 32)).toArray 23)).there w2.heap.size 0 (ints .u8 na).toArray.size := h9a.room (by rw [zeros_len]; exact lna)
  have h9 : By ((w2.alloc (.cells (ints .u8 (zeros 32)).toArray 23)).setCells w2.heap.size 0 (ints .u8 na).toArray.toList) w2.heap.size na := ⟨h9a.stored (by rw [zeros_len]; exact lna), lna⟩
  have hbs : Below w2.heap.size w2 ((w2.alloc (.cells (ints .u8 (zeros 32)).toArray 23)).setCells w2.heap.size 0 (ints .u8 na).toArray.toList) := Below.setCells (below_new _ _) (Nat.le_refl _) 0 _
  have h3c := h3b.next hbs
  have h4c := h4b.next hbs
  have h5c := h5b.next hbs
  have hW3 := hW2.trans (hbs.mono hW2.size)
  have hT3 := hT2.next hbs
  clear h3 h4 h5 hW hT hb2 h3b h4b h5b hW2 hT2 h9a hbs
  go_upto_region 4 with (first
    | (with_reducible refine wpList_store_mid (op := ⟨none, .store 23 (.tmp 7) (.tmp 11), _, _, _, _⟩) rfl 23 (.tmp 7) (.tmp 11) rfl w2.heap.size 0 (ints .u8 na).toArray rfl rfl hs1 (a22 lna) (ints_all _ _) ?_; generalize (w2.alloc (.cells (ints .u8 (zeros 32)).toArray 23)).setCells w2.heap.size 0 (ints .u8 na).toArray.toList = wb at *))
  generalize w2.heap.size = b9 at *
  have h3 := h3c
  have h4 := h4c
  have h5 := h5c
  have hW := hW3
  have hT := hT3
  clear hs1 h3c h4c h5c hW3 hT3
  generalize wb = w0 at *
  have s0 := hW.size
  refine region_spec2 39 51 (fun _ => false) [Is (.agg (ints .u8 a).toArray), Is (.agg (ints .u8 b).toArray), Is (.agg (ints .u8 ab).toArray), Is (.agg (ints .u8 a).toArray), Is (.agg (ints .u8 b).toArray), Is (.agg (ints .u8 ab).toArray), Is (.bool true), Is (.bool true), Is (.agg (ints .u8 a).toArray), Is (.agg (ints .u8 b).toArray), Is (.agg (ints .u8 mab).toArray), Is (.agg (ints .u8 a).toArray), Is (.agg (ints .u8 b).toArray), Is (.agg (ints .u8 mab).toArray), Is (.bool true), Is (.bool true), Is (.bool true), Is (.agg (ints .u8 a).toArray), Is (.agg (ints .u8 b).toArray), Is (.agg (ints .u8 c).toArray), Is (.agg (ints .u8 mc).toArray), Is (.agg (ints .u8 a).toArray), Is (.agg (ints .u8 b).toArray), Is (.agg (ints .u8 mab).toArray), Is (.agg (ints .u8 c).toArray), Is (.agg (ints .u8 mc).toArray), Is (.bool true), Is (.bool true), Is (.bool true), Is (.agg (ints .u8 na).toArray), Is (.bool true), Is (.bool true), Is (.bool true), Is (.agg (ints .u8 na).toArray), Is (.agg (ints .u8 a).toArray), Is (.agg (ints .u8 (zeros 32)).toArray), Is (.agg (ints .u8 (zeros 32)).toArray), Is (.bool true), Is (.bool true)] [12, 13, 14, 15, 16, 17, 18, 19, 20, 21, 22, 23, 24, 25, 26, 27, 28, 29, 30, 31, 32, 33, 34, 35, 36, 37, 38, 39, 40, 41, 42, 43, 44, 45, 46, 47, 48, 49, 50] (by kernel_rfl) (by kernel_rfl) (by kernel_rfl) (Nat.le_of_eq rfl) (grows_cons (Is.grows _) (grows_cons (Is.grows _) (grows_cons (Is.grows _) (grows_cons (Is.grows _) (grows_cons (Is.grows _) (grows_cons (Is.grows _) (grows_cons (Is.grows _) (grows_cons (Is.grows _) (grows_cons (Is.grows _) (grows_cons (Is.grows _) (grows_cons (Is.grows _) (grows_cons (Is.grows _) (grows_cons (Is.grows _) (grows_cons (Is.grows _) (grows_cons (Is.grows _) (grows_cons (Is.grows _) (grows_cons (Is.grows _) (grows_cons (Is.grows _) (grows_cons (Is.grows _) (grows_cons (Is.grows _) (grows_cons (Is.grows _) (grows_cons (Is.grows _) (grows_cons (Is.grows _) (grows_cons (Is.grows _) (grows_cons (Is.grows _) (grows_cons (Is.grows _) (grows_cons (Is.grows _) (grows_cons (Is.grows _) (grows_cons (Is.grows _) (grows_cons (Is.grows _) (grows_cons (Is.grows _) (grows_cons (Is.grows _) (grows_cons (Is.grows _) (grows_cons (Is.grows _) (grows_cons (Is.grows _) (grows_cons (Is.grows _) (grows_cons (Is.grows _) (grows_cons (Is.grows _) (grows_cons (Is.grows _) grows_nil)))))))))))))))))))))))))))))))))))))))
    ⟨step_by rfl (.inl rfl) h3 3 rfl (by kernel_rfl) rfl rfl,
     step_by rfl (.inl rfl) h4 4 rfl (by kernel_rfl) rfl rfl,
     step_toT rfl (.inl rfl) rfl cfT16 hT k0 rfl (two_args (knows_in 0 12 (by decide) (by kernel_rfl) rfl rfl) (knows_in 1 13 (by decide) (by kernel_rfl) rfl rfl)),
     step_by rfl (.inl rfl) h3 3 rfl (by kernel_rfl) rfl rfl,
     step_by rfl (.inl rfl) h4 4 rfl (by kernel_rfl) rfl rfl,
     step_toT rfl (.inl rfl) rfl cfT17 hT k1 rfl (two_args (knows_in 3 15 (by decide) (by kernel_rfl) rfl rfl) (knows_in 4 16 (by decide) (by kernel_rfl) rfl rfl)),
     step_eqs rfl (.inl rfl) rfl lab rfl (knows_in 2 14 (by decide) (by kernel_rfl) rfl rfl) (knows_in 5 17 (by decide) (by kernel_rfl) rfl rfl),
     step_mv rfl (.inl rfl) rfl rfl (knows_in 6 18 (by decide) (by kernel_rfl) rfl rfl),
     step_by rfl (.inr ⟨7, true, 19, rfl, by decide, by kernel_rfl, rfl, fun _ _ h => h⟩) h3 3 rfl (by kernel_rfl) rfl rfl,
     step_by rfl (.inr ⟨7, true, 19, rfl, by decide, by kernel_rfl, rfl, fun _ _ h => h⟩) h4 4 rfl (by kernel_rfl) rfl rfl,
     step_toT rfl (.inr ⟨7, true, 19, rfl, by decide, by kernel_rfl, rfl, fun _ _ h => h⟩) rfl cfT18 hT k2 rfl (two_args (knows_in 8 20 (by decide) (by kernel_rfl) rfl rfl) (knows_in 9 21 (by decide) (by kernel_rfl) rfl rfl)),
     step_by rfl (.inr ⟨7, true, 19, rfl, by decide, by kernel_rfl, rfl, fun _ _ h => h⟩) h3 3 rfl (by kernel_rfl) rfl rfl,
     step_by rfl (.inr ⟨7, true, 19, rfl, by decide, by kernel_rfl, rfl, fun _ _ h => h⟩) h4 4 rfl (by kernel_rfl) rfl rfl,
     step_toT rfl (.inr ⟨7, true, 19, rfl, by decide, by kernel_rfl, rfl, fun _ _ h => h⟩) rfl cfT19 hT k3 rfl (two_args (knows_in 11 23 (by decide) (by kernel_rfl) rfl rfl) (knows_in 12 24 (by decide) (by kernel_rfl) rfl rfl)),
     step_eqs rfl (.inr ⟨7, true, 19, rfl, by decide, by kernel_rfl, rfl, fun _ _ h => h⟩) rfl lmab rfl (knows_in 10 22 (by decide) (by kernel_rfl) rfl rfl) (knows_in 13 25 (by decide) (by kernel_rfl) rfl rfl),
     step_pick rfl (.inl rfl) (b := true) rfl rfl (knows_in 7 19 (by decide) (by kernel_rfl) rfl rfl) (knows_in 14 26 (by decide) (by kernel_rfl) rfl rfl),
     step_mv rfl (.inl rfl) rfl rfl (knows_in 15 27 (by decide) (by kernel_rfl) rfl rfl),
     step_by rfl (.inr ⟨16, true, 28, rfl, by decide, by kernel_rfl, rfl, fun _ _ h => h⟩) h3 3 rfl (by kernel_rfl) rfl rfl,
     step_by rfl (.inr ⟨16, true, 28, rfl, by decide, by kernel_rfl, rfl, fun _ _ h => h⟩) h4 4 rfl (by kernel_rfl) rfl rfl,
     step_by rfl (.inr ⟨16, true, 28, rfl, by decide, by kernel_rfl, rfl, fun _ _ h => h⟩) h5 5 rfl (by kernel_rfl) rfl rfl,
     step_toT rfl (.inr ⟨16, true, 28, rfl, by decide, by kernel_rfl, rfl, fun _ _ h => h⟩) rfl cfT20 hT k4 rfl (three_args (knows_in 17 29 (by decide) (by kernel_rfl) rfl rfl) (knows_in 18 30 (by decide) (by kernel_rfl) rfl rfl) (knows_in 19 31 (by decide) (by kernel_rfl) rfl rfl)),
     step_by rfl (.inr ⟨16, true, 28, rfl, by decide, by kernel_rfl, rfl, fun _ _ h => h⟩) h3 3 rfl (by kernel_rfl) rfl rfl,
     step_by rfl (.inr ⟨16, true, 28, rfl, by decide, by kernel_rfl, rfl, fun _ _ h => h⟩) h4 4 rfl (by kernel_rfl) rfl rfl,
     step_toT rfl (.inr ⟨16, true, 28, rfl, by decide, by kernel_rfl, rfl, fun _ _ h => h⟩) rfl cfT19 hT k3 rfl (two_args (knows_in 21 33 (by decide) (by kernel_rfl) rfl rfl) (knows_in 22 34 (by decide) (by kernel_rfl) rfl rfl)),
     step_by rfl (.inr ⟨16, true, 28, rfl, by decide, by kernel_rfl, rfl, fun _ _ h => h⟩) h5 5 rfl (by kernel_rfl) rfl rfl,
     step_toT rfl (.inr ⟨16, true, 28, rfl, by decide, by kernel_rfl, rfl, fun _ _ h => h⟩) rfl cfT17 hT k5 rfl (two_args (knows_in 23 35 (by decide) (by kernel_rfl) rfl rfl) (knows_in 24 36 (by decide) (by kernel_rfl) rfl rfl)),
     step_eqs rfl (.inr ⟨16, true, 28, rfl, by decide, by kernel_rfl, rfl, fun _ _ h => h⟩) rfl lmc rfl (knows_in 20 32 (by decide) (by kernel_rfl) rfl rfl) (knows_in 25 37 (by decide) (by kernel_rfl) rfl rfl),
     step_pick rfl (.inl rfl) (b := true) rfl rfl (knows_in 16 28 (by decide) (by kernel_rfl) rfl rfl) (knows_in 26 38 (by decide) (by kernel_rfl) rfl rfl),
     step_mv rfl (.inl rfl) rfl rfl (knows_in 27 39 (by decide) (by kernel_rfl) rfl rfl),
     step_by rfl (.inr ⟨28, true, 40, rfl, by decide, by kernel_rfl, rfl, fun _ _ h => h⟩) h9 7 rfl (by kernel_rfl) rfl rfl,
     step_toT rfl (.inr ⟨28, true, 40, rfl, by decide, by kernel_rfl, rfl, fun _ _ h => h⟩) rfl cfT11 hT kright rfl (one_arg (knows_in 29 41 (by decide) (by kernel_rfl) rfl rfl)),
     step_pick rfl (.inl rfl) (b := true) rfl rfl (knows_in 28 40 (by decide) (by kernel_rfl) rfl rfl) (knows_in 30 42 (by decide) (by kernel_rfl) rfl rfl),
     step_mv rfl (.inl rfl) rfl rfl (knows_in 31 43 (by decide) (by kernel_rfl) rfl rfl),
     step_by rfl (.inr ⟨32, true, 44, rfl, by decide, by kernel_rfl, rfl, fun _ _ h => h⟩) h9 7 rfl (by kernel_rfl) rfl rfl,
     step_by rfl (.inr ⟨32, true, 44, rfl, by decide, by kernel_rfl, rfl, fun _ _ h => h⟩) h3 3 rfl (by kernel_rfl) rfl rfl,
     step_toT rfl (.inr ⟨32, true, 44, rfl, by decide, by kernel_rfl, rfl, fun _ _ h => h⟩) rfl cfT17 hT k6 rfl (two_args (knows_in 33 45 (by decide) (by kernel_rfl) rfl rfl) (knows_in 34 46 (by decide) (by kernel_rfl) rfl rfl)),
     step_noneB rfl (.inr ⟨32, true, 44, rfl, by decide, by kernel_rfl, rfl, fun _ _ h => h⟩) rfl rfl,
     step_eqs rfl (.inr ⟨32, true, 44, rfl, by decide, by kernel_rfl, rfl, fun _ _ h => h⟩) rfl (zeros_len 32) rfl (knows_in 35 47 (by decide) (by kernel_rfl) rfl rfl) (knows_in 36 48 (by decide) (by kernel_rfl) rfl rfl),
     step_pick rfl (.inl rfl) (b := true) rfl rfl (knows_in 32 44 (by decide) (by kernel_rfl) rfl rfl) (knows_in 37 49 (by decide) (by kernel_rfl) rfl rfl), trivial⟩ ?_
  intro val w1 hw hS hap hla
  have e12 : val 12 = (.agg (ints .u8 a).toArray) := hS 0 12 (by decide) rfl
  have e13 : val 13 = (.agg (ints .u8 b).toArray) := hS 1 13 (by decide) rfl
  have e14 : val 14 = (.agg (ints .u8 ab).toArray) := hS 2 14 (by decide) rfl
  have e15 : val 15 = (.agg (ints .u8 a).toArray) := hS 3 15 (by decide) rfl
  have e16 : val 16 = (.agg (ints .u8 b).toArray) := hS 4 16 (by decide) rfl
  have e17 : val 17 = (.agg (ints .u8 ab).toArray) := hS 5 17 (by decide) rfl
  have e18 : val 18 = (.bool true) := hS 6 18 (by decide) rfl
  have e19 : val 19 = (.bool true) := hS 7 19 (by decide) rfl
  have e20 : val 20 = (.agg (ints .u8 a).toArray) := hS 8 20 (by decide) rfl
  have e21 : val 21 = (.agg (ints .u8 b).toArray) := hS 9 21 (by decide) rfl
  have e22 : val 22 = (.agg (ints .u8 mab).toArray) := hS 10 22 (by decide) rfl
  have e23 : val 23 = (.agg (ints .u8 a).toArray) := hS 11 23 (by decide) rfl
  have e24 : val 24 = (.agg (ints .u8 b).toArray) := hS 12 24 (by decide) rfl
  have e25 : val 25 = (.agg (ints .u8 mab).toArray) := hS 13 25 (by decide) rfl
  have e26 : val 26 = (.bool true) := hS 14 26 (by decide) rfl
  have e27 : val 27 = (.bool true) := hS 15 27 (by decide) rfl
  have e28 : val 28 = (.bool true) := hS 16 28 (by decide) rfl
  have e29 : val 29 = (.agg (ints .u8 a).toArray) := hS 17 29 (by decide) rfl
  have e30 : val 30 = (.agg (ints .u8 b).toArray) := hS 18 30 (by decide) rfl
  have e31 : val 31 = (.agg (ints .u8 c).toArray) := hS 19 31 (by decide) rfl
  have e32 : val 32 = (.agg (ints .u8 mc).toArray) := hS 20 32 (by decide) rfl
  have e33 : val 33 = (.agg (ints .u8 a).toArray) := hS 21 33 (by decide) rfl
  have e34 : val 34 = (.agg (ints .u8 b).toArray) := hS 22 34 (by decide) rfl
  have e35 : val 35 = (.agg (ints .u8 mab).toArray) := hS 23 35 (by decide) rfl
  have e36 : val 36 = (.agg (ints .u8 c).toArray) := hS 24 36 (by decide) rfl
  have e37 : val 37 = (.agg (ints .u8 mc).toArray) := hS 25 37 (by decide) rfl
  have e38 : val 38 = (.bool true) := hS 26 38 (by decide) rfl
  have e39 : val 39 = (.bool true) := hS 27 39 (by decide) rfl
  have e40 : val 40 = (.bool true) := hS 28 40 (by decide) rfl
  have e41 : val 41 = (.agg (ints .u8 na).toArray) := hS 29 41 (by decide) rfl
  have e42 : val 42 = (.bool true) := hS 30 42 (by decide) rfl
  have e43 : val 43 = (.bool true) := hS 31 43 (by decide) rfl
  have e44 : val 44 = (.bool true) := hS 32 44 (by decide) rfl
  have e45 : val 45 = (.agg (ints .u8 na).toArray) := hS 33 45 (by decide) rfl
  have e46 : val 46 = (.agg (ints .u8 a).toArray) := hS 34 46 (by decide) rfl
  have e47 : val 47 = (.agg (ints .u8 (zeros 32)).toArray) := hS 35 47 (by decide) rfl
  have e48 : val 48 = (.agg (ints .u8 (zeros 32)).toArray) := hS 36 48 (by decide) rfl
  have e49 : val 49 = (.bool true) := hS 37 49 (by decide) rfl
  have e50 : val 50 = (.bool true) := hS 38 50 (by decide) rfl
  simp only [putVals, List.foldl_cons, List.foldl_nil, List.drop_succ_cons, List.drop_zero, Act.put, List.setIfInBounds_toArray, List.set_cons_succ, List.set_cons_zero, e12, e13, e14, e15, e16, e17, e18, e19, e20, e21, e22, e23, e24, e25, e26, e27, e28, e29, e30, e31, e32, e33, e34, e35, e36, e37, e38, e39, e40, e41, e42, e43, e44, e45, e46, e47, e48, e49, e50]
  clear hS hap hla e12 e13 e14 e15 e16 e17 e18 e19 e20 e21 e22 e23 e24 e25 e26 e27 e28 e29 e30 e31 e32 e33 e34 e35 e36 e37 e38 e39 e40 e41 e42 e43 e44 e45 e46 e47 e48 e49 e50
  replace h3 := h3.next hw
  replace h4 := h4.next hw
  replace h5 := h5.next hw
  replace hT := hT.next hw
  replace h9 := h9.next hw
  replace hW := hW.trans (Below.mono hw hW.size)
  clear hw
  go_wp2_with (fail)
  go_ret
  exact ⟨rfl, hW⟩

end Go.Proofs.YtcoegehnipldpaaDoor
