/- The laws of sums and products: the walk. -/
import Derived.Test.YtcoegehnipldpaaDoorSLawSM
namespace Go.Proofs.YtcoegehnipldpaaDoor
open Go Go.RowKit

set_option maxRecDepth 4000 in
set_option maxHeartbeats 8000000 in
theorem laws_core (W : World) (hT : Tabs W) {a b c ab abc bc mab mabc mbc p mac na x q : List Int} (la : a.length = 32) (lb : b.length = 32) (lc : c.length = 32) (lab : ab.length = 32) (labc : abc.length = 32) (lbc : bc.length = 32) (lmab : mab.length = 32) (lmabc : mabc.length = 32) (lmbc : mbc.length = 32) (lp : p.length = 32) (lmac : mac.length = 32) (lna : na.length = 32) (lx : x.length = 32) (lq : q.length = 32) (k0 : CallsT 16 #[.agg (ints .u8 a).toArray, .agg (ints .u8 b).toArray] (.agg (ints .u8 ab).toArray)) (k1 : CallsT 16 #[.agg (ints .u8 b).toArray, .agg (ints .u8 a).toArray] (.agg (ints .u8 ab).toArray)) (k2 : CallsT 18 #[.agg (ints .u8 a).toArray, .agg (ints .u8 b).toArray] (.agg (ints .u8 mab).toArray)) (k3 : CallsT 18 #[.agg (ints .u8 b).toArray, .agg (ints .u8 a).toArray] (.agg (ints .u8 mab).toArray)) (k4 : CallsT 16 #[.agg (ints .u8 ab).toArray, .agg (ints .u8 c).toArray] (.agg (ints .u8 abc).toArray)) (k5 : CallsT 16 #[.agg (ints .u8 b).toArray, .agg (ints .u8 c).toArray] (.agg (ints .u8 bc).toArray)) (k6 : CallsT 16 #[.agg (ints .u8 a).toArray, .agg (ints .u8 bc).toArray] (.agg (ints .u8 abc).toArray)) (k7 : CallsT 18 #[.agg (ints .u8 mab).toArray, .agg (ints .u8 c).toArray] (.agg (ints .u8 mabc).toArray)) (k8 : CallsT 18 #[.agg (ints .u8 b).toArray, .agg (ints .u8 c).toArray] (.agg (ints .u8 mbc).toArray)) (k9 : CallsT 18 #[.agg (ints .u8 a).toArray, .agg (ints .u8 mbc).toArray] (.agg (ints .u8 mabc).toArray)) (k10 : CallsT 18 #[.agg (ints .u8 a).toArray, .agg (ints .u8 bc).toArray] (.agg (ints .u8 p).toArray)) (k11 : CallsT 18 #[.agg (ints .u8 a).toArray, .agg (ints .u8 c).toArray] (.agg (ints .u8 mac).toArray)) (k12 : CallsT 16 #[.agg (ints .u8 mab).toArray, .agg (ints .u8 mac).toArray] (.agg (ints .u8 p).toArray)) (k13 : CallsT 15 #[.agg (ints .u8 a).toArray] (.agg (ints .u8 na).toArray)) (k14 : CallsT 16 #[.agg (ints .u8 a).toArray, .agg (ints .u8 na).toArray] (.agg (ints .u8 (zeros 32)).toArray)) (k15 : CallsT 16 #[.agg (ints .u8 a).toArray, .agg (ints .u8 (zeros 32)).toArray] (.agg (ints .u8 x).toArray)) (k16 : CallsT 18 #[.agg (ints .u8 a).toArray, .agg (ints .u8 oneL).toArray] (.agg (ints .u8 x).toArray)) (k17 : CallsT 8 #[] (.agg (ints .u8 q).toArray)) (k18 : CallsT 18 #[.agg (ints .u8 q).toArray, .agg (ints .u8 a).toArray] (.agg (ints .u8 (zeros 32)).toArray))
    (kof : ∀ w0 : World, Tabs w0 → Nums w0 .u8 (some ⟨W.heap.size, 0, none⟩) a → Calls Tryd.prog 7 #[.slice (some ⟨W.heap.size, 0, none⟩) 32 32] w0 fun e w' => e = .returned (.tuple #[.agg (ints .u8 x).toArray, .int .i64 0]) ∧ Below w0.heap.size w0 w') :
    Calls Tryd.prog 5 #[.agg (ints .u8 a).toArray, .agg (ints .u8 b).toArray, .agg (ints .u8 c).toArray] W fun e w' => e = .returned (.bool true) ∧ Below W.heap.size W w' := by
  obtain ⟨z22, s22⟩ := zero_of_info inf22
  have h3 := ((By.new W a la).next (below_new _ (.cells (ints .u8 b).toArray 23))).next (below_new _ (.cells (ints .u8 c).toArray 23))
  have h4 := (By.new (W.alloc (.cells (ints .u8 a).toArray 23)) b lb).next (below_new _ (.cells (ints .u8 c).toArray 23))
  have h5 := By.new ((W.alloc (.cells (ints .u8 a).toArray 23)).alloc (.cells (ints .u8 b).toArray 23)) c lc
  have hW := ((below_new W (.cells (ints .u8 a).toArray 23)).alloc (by simp) (.cells (ints .u8 b).toArray 23)).alloc (by simp; omega) (.cells (ints .u8 c).toArray 23)
  simp only [World.size_alloc] at h4 h5
  replace hT := hT.below hW hT.1
  go_enter Tryd.func5, Tryd.ntmps5
  go_wp2_with (fail)
  generalize ((W.alloc (.cells (ints .u8 a).toArray 23)).alloc (.cells (ints .u8 b).toArray 23)).alloc (.cells (ints .u8 c).toArray 23) = wa at *
  refine (awake_any _ hT).mono ?_
  rintro e w0 ⟨rfl, hb1⟩
  replace h3 := h3.next hb1
  replace h4 := h4.next hb1
  replace h5 := h5.next hb1
  replace hT := hT.next hb1
  replace hW := hW.trans (hb1.mono hW.size)
  clear hb1
  go_upto_region 4 with (fail)
  have s0 := hW.size
  refine region_spec2 53 127 (fun _ => false) [Is (.func (.func 16) #[] #[]), Is (.agg (ints .u8 a).toArray), Is (.agg (ints .u8 b).toArray), Is (.agg (ints .u8 ab).toArray), Is (.func (.func 16) #[] #[]), Is (.agg (ints .u8 b).toArray), Is (.agg (ints .u8 a).toArray), Is (.agg (ints .u8 ab).toArray), Is (.bool false), Is (.bool false), Is (.func (.func 18) #[] #[]), Is (.agg (ints .u8 a).toArray), Is (.agg (ints .u8 b).toArray), Is (.agg (ints .u8 mab).toArray), Is (.func (.func 18) #[] #[]), Is (.agg (ints .u8 b).toArray), Is (.agg (ints .u8 a).toArray), Is (.agg (ints .u8 mab).toArray), Is (.bool false), Is (.bool false), Is (.bool false), Is (.func (.func 16) #[] #[]), Is (.func (.func 16) #[] #[]), Is (.agg (ints .u8 a).toArray), Is (.agg (ints .u8 b).toArray), Is (.agg (ints .u8 ab).toArray), Is (.agg (ints .u8 c).toArray), Is (.agg (ints .u8 abc).toArray), Is (.func (.func 16) #[] #[]), Is (.agg (ints .u8 a).toArray), Is (.func (.func 16) #[] #[]), Is (.agg (ints .u8 b).toArray), Is (.agg (ints .u8 c).toArray), Is (.agg (ints .u8 bc).toArray), Is (.agg (ints .u8 abc).toArray), Is (.bool false), Is (.bool false), Is (.bool false), Is (.func (.func 18) #[] #[]), Is (.func (.func 18) #[] #[]), Is (.agg (ints .u8 a).toArray), Is (.agg (ints .u8 b).toArray), Is (.agg (ints .u8 mab).toArray), Is (.agg (ints .u8 c).toArray), Is (.agg (ints .u8 mabc).toArray), Is (.func (.func 18) #[] #[]), Is (.agg (ints .u8 a).toArray), Is (.func (.func 18) #[] #[]), Is (.agg (ints .u8 b).toArray), Is (.agg (ints .u8 c).toArray), Is (.agg (ints .u8 mbc).toArray), Is (.agg (ints .u8 mabc).toArray), Is (.bool false)] [13, 14, 15, 16, 17, 18, 19, 20, 21, 22, 23, 24, 25, 26, 27, 28, 29, 30, 31, 32, 33, 34, 35, 36, 37, 38, 39, 40, 41, 42, 43, 44, 45, 46, 47, 48, 49, 50, 51, 52, 53, 54, 55, 56, 57, 58, 59, 60, 61, 62, 63, 64, 65] (by kernel_rfl) (by kernel_rfl) (by kernel_rfl) (Nat.le_of_eq rfl) (grows_cons (Is.grows _) (grows_cons (Is.grows _) (grows_cons (Is.grows _) (grows_cons (Is.grows _) (grows_cons (Is.grows _) (grows_cons (Is.grows _) (grows_cons (Is.grows _) (grows_cons (Is.grows _) (grows_cons (Is.grows _) (grows_cons (Is.grows _) (grows_cons (Is.grows _) (grows_cons (Is.grows _) (grows_cons (Is.grows _) (grows_cons (Is.grows _) (grows_cons (Is.grows _) (grows_cons (Is.grows _) (grows_cons (Is.grows _) (grows_cons (Is.grows _) (grows_cons (Is.grows _) (grows_cons (Is.grows _) (grows_cons (Is.grows _) (grows_cons (Is.grows _) (grows_cons (Is.grows _) (grows_cons (Is.grows _) (grows_cons (Is.grows _) (grows_cons (Is.grows _) (grows_cons (Is.grows _) (grows_cons (Is.grows _) (grows_cons (Is.grows _) (grows_cons (Is.grows _) (grows_cons (Is.grows _) (grows_cons (Is.grows _) (grows_cons (Is.grows _) (grows_cons (Is.grows _) (grows_cons (Is.grows _) (grows_cons (Is.grows _) (grows_cons (Is.grows _) (grows_cons (Is.grows _) (grows_cons (Is.grows _) (grows_cons (Is.grows _) (grows_cons (Is.grows _) (grows_cons (Is.grows _) (grows_cons (Is.grows _) (grows_cons (Is.grows _) (grows_cons (Is.grows _) (grows_cons (Is.grows _) (grows_cons (Is.grows _) (grows_cons (Is.grows _) (grows_cons (Is.grows _) (grows_cons (Is.grows _) (grows_cons (Is.grows _) (grows_cons (Is.grows _) (grows_cons (Is.grows _) grows_nil)))))))))))))))))))))))))))))))))))))))))))))))))))))
    ⟨step_mv rfl (.inl rfl) rfl rfl (knows_out 7 (by kernel_rfl) rfl),
     step_by rfl (.inl rfl) h3 3 rfl (by kernel_rfl) rfl rfl,
     step_by rfl (.inl rfl) h4 4 rfl (by kernel_rfl) rfl rfl,
     step_toV rfl (.inl rfl) rfl cfT16 (knows_in 0 13 (by decide) (by kernel_rfl) rfl rfl) hT k0 rfl (two_args (knows_in 1 14 (by decide) (by kernel_rfl) rfl rfl) (knows_in 2 15 (by decide) (by kernel_rfl) rfl rfl)),
     step_mv rfl (.inl rfl) rfl rfl (knows_out 7 (by kernel_rfl) rfl),
     step_by rfl (.inl rfl) h4 4 rfl (by kernel_rfl) rfl rfl,
     step_by rfl (.inl rfl) h3 3 rfl (by kernel_rfl) rfl rfl,
     step_toV rfl (.inl rfl) rfl cfT16 (knows_in 4 17 (by decide) (by kernel_rfl) rfl rfl) hT k1 rfl (two_args (knows_in 5 18 (by decide) (by kernel_rfl) rfl rfl) (knows_in 6 19 (by decide) (by kernel_rfl) rfl rfl)),
     step_nes rfl (.inl rfl) rfl lab rfl (knows_in 3 16 (by decide) (by kernel_rfl) rfl rfl) (knows_in 7 20 (by decide) (by kernel_rfl) rfl rfl),
     step_mv rfl (.inl rfl) rfl rfl (knows_in 8 21 (by decide) (by kernel_rfl) rfl rfl),
     step_mv rfl (.inr ⟨9, false, 22, rfl, by decide, by kernel_rfl, rfl, fun _ _ h => h⟩) rfl rfl (knows_out 8 (by kernel_rfl) rfl),
     step_by rfl (.inr ⟨9, false, 22, rfl, by decide, by kernel_rfl, rfl, fun _ _ h => h⟩) h3 3 rfl (by kernel_rfl) rfl rfl,
     step_by rfl (.inr ⟨9, false, 22, rfl, by decide, by kernel_rfl, rfl, fun _ _ h => h⟩) h4 4 rfl (by kernel_rfl) rfl rfl,
     step_toV rfl (.inr ⟨9, false, 22, rfl, by decide, by kernel_rfl, rfl, fun _ _ h => h⟩) rfl cfT18 (knows_in 10 23 (by decide) (by kernel_rfl) rfl rfl) hT k2 rfl (two_args (knows_in 11 24 (by decide) (by kernel_rfl) rfl rfl) (knows_in 12 25 (by decide) (by kernel_rfl) rfl rfl)),
     step_mv rfl (.inr ⟨9, false, 22, rfl, by decide, by kernel_rfl, rfl, fun _ _ h => h⟩) rfl rfl (knows_out 8 (by kernel_rfl) rfl),
     step_by rfl (.inr ⟨9, false, 22, rfl, by decide, by kernel_rfl, rfl, fun _ _ h => h⟩) h4 4 rfl (by kernel_rfl) rfl rfl,
     step_by rfl (.inr ⟨9, false, 22, rfl, by decide, by kernel_rfl, rfl, fun _ _ h => h⟩) h3 3 rfl (by kernel_rfl) rfl rfl,
     step_toV rfl (.inr ⟨9, false, 22, rfl, by decide, by kernel_rfl, rfl, fun _ _ h => h⟩) rfl cfT18 (knows_in 14 27 (by decide) (by kernel_rfl) rfl rfl) hT k3 rfl (two_args (knows_in 15 28 (by decide) (by kernel_rfl) rfl rfl) (knows_in 16 29 (by decide) (by kernel_rfl) rfl rfl)),
     step_nes rfl (.inr ⟨9, false, 22, rfl, by decide, by kernel_rfl, rfl, fun _ _ h => h⟩) rfl lmab rfl (knows_in 13 26 (by decide) (by kernel_rfl) rfl rfl) (knows_in 17 30 (by decide) (by kernel_rfl) rfl rfl),
     step_pick rfl (.inl rfl) (b := false) rfl rfl (knows_in 9 22 (by decide) (by kernel_rfl) rfl rfl) (knows_in 18 31 (by decide) (by kernel_rfl) rfl rfl),
     step_mv rfl (.inl rfl) rfl rfl (knows_in 19 32 (by decide) (by kernel_rfl) rfl rfl),
     step_mv rfl (.inr ⟨20, false, 33, rfl, by decide, by kernel_rfl, rfl, fun _ _ h => h⟩) rfl rfl (knows_out 7 (by kernel_rfl) rfl),
     step_mv rfl (.inr ⟨20, false, 33, rfl, by decide, by kernel_rfl, rfl, fun _ _ h => h⟩) rfl rfl (knows_out 7 (by kernel_rfl) rfl),
     step_by rfl (.inr ⟨20, false, 33, rfl, by decide, by kernel_rfl, rfl, fun _ _ h => h⟩) h3 3 rfl (by kernel_rfl) rfl rfl,
     step_by rfl (.inr ⟨20, false, 33, rfl, by decide, by kernel_rfl, rfl, fun _ _ h => h⟩) h4 4 rfl (by kernel_rfl) rfl rfl,
     step_toV rfl (.inr ⟨20, false, 33, rfl, by decide, by kernel_rfl, rfl, fun _ _ h => h⟩) rfl cfT16 (knows_in 22 35 (by decide) (by kernel_rfl) rfl rfl) hT k0 rfl (two_args (knows_in 23 36 (by decide) (by kernel_rfl) rfl rfl) (knows_in 24 37 (by decide) (by kernel_rfl) rfl rfl)),
     step_by rfl (.inr ⟨20, false, 33, rfl, by decide, by kernel_rfl, rfl, fun _ _ h => h⟩) h5 5 rfl (by kernel_rfl) rfl rfl,
     step_toV rfl (.inr ⟨20, false, 33, rfl, by decide, by kernel_rfl, rfl, fun _ _ h => h⟩) rfl cfT16 (knows_in 21 34 (by decide) (by kernel_rfl) rfl rfl) hT k4 rfl (two_args (knows_in 25 38 (by decide) (by kernel_rfl) rfl rfl) (knows_in 26 39 (by decide) (by kernel_rfl) rfl rfl)),
     step_mv rfl (.inr ⟨20, false, 33, rfl, by decide, by kernel_rfl, rfl, fun _ _ h => h⟩) rfl rfl (knows_out 7 (by kernel_rfl) rfl),
     step_by rfl (.inr ⟨20, false, 33, rfl, by decide, by kernel_rfl, rfl, fun _ _ h => h⟩) h3 3 rfl (by kernel_rfl) rfl rfl,
     step_mv rfl (.inr ⟨20, false, 33, rfl, by decide, by kernel_rfl, rfl, fun _ _ h => h⟩) rfl rfl (knows_out 7 (by kernel_rfl) rfl),
     step_by rfl (.inr ⟨20, false, 33, rfl, by decide, by kernel_rfl, rfl, fun _ _ h => h⟩) h4 4 rfl (by kernel_rfl) rfl rfl,
     step_by rfl (.inr ⟨20, false, 33, rfl, by decide, by kernel_rfl, rfl, fun _ _ h => h⟩) h5 5 rfl (by kernel_rfl) rfl rfl,
     step_toV rfl (.inr ⟨20, false, 33, rfl, by decide, by kernel_rfl, rfl, fun _ _ h => h⟩) rfl cfT16 (knows_in 30 43 (by decide) (by kernel_rfl) rfl rfl) hT k5 rfl (two_args (knows_in 31 44 (by decide) (by kernel_rfl) rfl rfl) (knows_in 32 45 (by decide) (by kernel_rfl) rfl rfl)),
     step_toV rfl (.inr ⟨20, false, 33, rfl, by decide, by kernel_rfl, rfl, fun _ _ h => h⟩) rfl cfT16 (knows_in 28 41 (by decide) (by kernel_rfl) rfl rfl) hT k6 rfl (two_args (knows_in 29 42 (by decide) (by kernel_rfl) rfl rfl) (knows_in 33 46 (by decide) (by kernel_rfl) rfl rfl)),
     step_nes rfl (.inr ⟨20, false, 33, rfl, by decide, by kernel_rfl, rfl, fun _ _ h => h⟩) rfl labc rfl (knows_in 27 40 (by decide) (by kernel_rfl) rfl rfl) (knows_in 34 47 (by decide) (by kernel_rfl) rfl rfl),
     step_pick rfl (.inl rfl) (b := false) rfl rfl (knows_in 20 33 (by decide) (by kernel_rfl) rfl rfl) (knows_in 35 48 (by decide) (by kernel_rfl) rfl rfl),
     step_mv rfl (.inl rfl) rfl rfl (knows_in 36 49 (by decide) (by kernel_rfl) rfl rfl),
     step_mv rfl (.inr ⟨37, false, 50, rfl, by decide, by kernel_rfl, rfl, fun _ _ h => h⟩) rfl rfl (knows_out 8 (by kernel_rfl) rfl),
     step_mv rfl (.inr ⟨37, false, 50, rfl, by decide, by kernel_rfl, rfl, fun _ _ h => h⟩) rfl rfl (knows_out 8 (by kernel_rfl) rfl),
     step_by rfl (.inr ⟨37, false, 50, rfl, by decide, by kernel_rfl, rfl, fun _ _ h => h⟩) h3 3 rfl (by kernel_rfl) rfl rfl,
     step_by rfl (.inr ⟨37, false, 50, rfl, by decide, by kernel_rfl, rfl, fun _ _ h => h⟩) h4 4 rfl (by kernel_rfl) rfl rfl,
     step_toV rfl (.inr ⟨37, false, 50, rfl, by decide, by kernel_rfl, rfl, fun _ _ h => h⟩) rfl cfT18 (knows_in 39 52 (by decide) (by kernel_rfl) rfl rfl) hT k2 rfl (two_args (knows_in 40 53 (by decide) (by kernel_rfl) rfl rfl) (knows_in 41 54 (by decide) (by kernel_rfl) rfl rfl)),
     step_by rfl (.inr ⟨37, false, 50, rfl, by decide, by kernel_rfl, rfl, fun _ _ h => h⟩) h5 5 rfl (by kernel_rfl) rfl rfl,
     step_toV rfl (.inr ⟨37, false, 50, rfl, by decide, by kernel_rfl, rfl, fun _ _ h => h⟩) rfl cfT18 (knows_in 38 51 (by decide) (by kernel_rfl) rfl rfl) hT k7 rfl (two_args (knows_in 42 55 (by decide) (by kernel_rfl) rfl rfl) (knows_in 43 56 (by decide) (by kernel_rfl) rfl rfl)),
     step_mv rfl (.inr ⟨37, false, 50, rfl, by decide, by kernel_rfl, rfl, fun _ _ h => h⟩) rfl rfl (knows_out 8 (by kernel_rfl) rfl),
     step_by rfl (.inr ⟨37, false, 50, rfl, by decide, by kernel_rfl, rfl, fun _ _ h => h⟩) h3 3 rfl (by kernel_rfl) rfl rfl,
     step_mv rfl (.inr ⟨37, false, 50, rfl, by decide, by kernel_rfl, rfl, fun _ _ h => h⟩) rfl rfl (knows_out 8 (by kernel_rfl) rfl),
     step_by rfl (.inr ⟨37, false, 50, rfl, by decide, by kernel_rfl, rfl, fun _ _ h => h⟩) h4 4 rfl (by kernel_rfl) rfl rfl,
     step_by rfl (.inr ⟨37, false, 50, rfl, by decide, by kernel_rfl, rfl, fun _ _ h => h⟩) h5 5 rfl (by kernel_rfl) rfl rfl,
     step_toV rfl (.inr ⟨37, false, 50, rfl, by decide, by kernel_rfl, rfl, fun _ _ h => h⟩) rfl cfT18 (knows_in 47 60 (by decide) (by kernel_rfl) rfl rfl) hT k8 rfl (two_args (knows_in 48 61 (by decide) (by kernel_rfl) rfl rfl) (knows_in 49 62 (by decide) (by kernel_rfl) rfl rfl)),
     step_toV rfl (.inr ⟨37, false, 50, rfl, by decide, by kernel_rfl, rfl, fun _ _ h => h⟩) rfl cfT18 (knows_in 45 58 (by decide) (by kernel_rfl) rfl rfl) hT k9 rfl (two_args (knows_in 46 59 (by decide) (by kernel_rfl) rfl rfl) (knows_in 50 63 (by decide) (by kernel_rfl) rfl rfl)),
     step_nes rfl (.inr ⟨37, false, 50, rfl, by decide, by kernel_rfl, rfl, fun _ _ h => h⟩) rfl lmabc rfl (knows_in 44 57 (by decide) (by kernel_rfl) rfl rfl) (knows_in 51 64 (by decide) (by kernel_rfl) rfl rfl), trivial⟩ ?_
  intro val w1 hw hS hap hla
  have e13 : val 13 = (.func (.func 16) #[] #[]) := hS 0 13 (by decide) rfl
  have e14 : val 14 = (.agg (ints .u8 a).toArray) := hS 1 14 (by decide) rfl
  have e15 : val 15 = (.agg (ints .u8 b).toArray) := hS 2 15 (by decide) rfl
  have e16 : val 16 = (.agg (ints .u8 ab).toArray) := hS 3 16 (by decide) rfl
  have e17 : val 17 = (.func (.func 16) #[] #[]) := hS 4 17 (by decide) rfl
  have e18 : val 18 = (.agg (ints .u8 b).toArray) := hS 5 18 (by decide) rfl
  have e19 : val 19 = (.agg (ints .u8 a).toArray) := hS 6 19 (by decide) rfl
  have e20 : val 20 = (.agg (ints .u8 ab).toArray) := hS 7 20 (by decide) rfl
  have e21 : val 21 = (.bool false) := hS 8 21 (by decide) rfl
  have e22 : val 22 = (.bool false) := hS 9 22 (by decide) rfl
  have e23 : val 23 = (.func (.func 18) #[] #[]) := hS 10 23 (by decide) rfl
  have e24 : val 24 = (.agg (ints .u8 a).toArray) := hS 11 24 (by decide) rfl
  have e25 : val 25 = (.agg (ints .u8 b).toArray) := hS 12 25 (by decide) rfl
  have e26 : val 26 = (.agg (ints .u8 mab).toArray) := hS 13 26 (by decide) rfl
  have e27 : val 27 = (.func (.func 18) #[] #[]) := hS 14 27 (by decide) rfl
  have e28 : val 28 = (.agg (ints .u8 b).toArray) := hS 15 28 (by decide) rfl
  have e29 : val 29 = (.agg (ints .u8 a).toArray) := hS 16 29 (by decide) rfl
  have e30 : val 30 = (.agg (ints .u8 mab).toArray) := hS 17 30 (by decide) rfl
  have e31 : val 31 = (.bool false) := hS 18 31 (by decide) rfl
  have e32 : val 32 = (.bool false) := hS 19 32 (by decide) rfl
  have e33 : val 33 = (.bool false) := hS 20 33 (by decide) rfl
  have e34 : val 34 = (.func (.func 16) #[] #[]) := hS 21 34 (by decide) rfl
  have e35 : val 35 = (.func (.func 16) #[] #[]) := hS 22 35 (by decide) rfl
  have e36 : val 36 = (.agg (ints .u8 a).toArray) := hS 23 36 (by decide) rfl
  have e37 : val 37 = (.agg (ints .u8 b).toArray) := hS 24 37 (by decide) rfl
  have e38 : val 38 = (.agg (ints .u8 ab).toArray) := hS 25 38 (by decide) rfl
  have e39 : val 39 = (.agg (ints .u8 c).toArray) := hS 26 39 (by decide) rfl
  have e40 : val 40 = (.agg (ints .u8 abc).toArray) := hS 27 40 (by decide) rfl
  have e41 : val 41 = (.func (.func 16) #[] #[]) := hS 28 41 (by decide) rfl
  have e42 : val 42 = (.agg (ints .u8 a).toArray) := hS 29 42 (by decide) rfl
  have e43 : val 43 = (.func (.func 16) #[] #[]) := hS 30 43 (by decide) rfl
  have e44 : val 44 = (.agg (ints .u8 b).toArray) := hS 31 44 (by decide) rfl
  have e45 : val 45 = (.agg (ints .u8 c).toArray) := hS 32 45 (by decide) rfl
  have e46 : val 46 = (.agg (ints .u8 bc).toArray) := hS 33 46 (by decide) rfl
  have e47 : val 47 = (.agg (ints .u8 abc).toArray) := hS 34 47 (by decide) rfl
  have e48 : val 48 = (.bool false) := hS 35 48 (by decide) rfl
  have e49 : val 49 = (.bool false) := hS 36 49 (by decide) rfl
  have e50 : val 50 = (.bool false) := hS 37 50 (by decide) rfl
  have e51 : val 51 = (.func (.func 18) #[] #[]) := hS 38 51 (by decide) rfl
  have e52 : val 52 = (.func (.func 18) #[] #[]) := hS 39 52 (by decide) rfl
  have e53 : val 53 = (.agg (ints .u8 a).toArray) := hS 40 53 (by decide) rfl
  have e54 : val 54 = (.agg (ints .u8 b).toArray) := hS 41 54 (by decide) rfl
  have e55 : val 55 = (.agg (ints .u8 mab).toArray) := hS 42 55 (by decide) rfl
  have e56 : val 56 = (.agg (ints .u8 c).toArray) := hS 43 56 (by decide) rfl
  have e57 : val 57 = (.agg (ints .u8 mabc).toArray) := hS 44 57 (by decide) rfl
  have e58 : val 58 = (.func (.func 18) #[] #[]) := hS 45 58 (by decide) rfl
  have e59 : val 59 = (.agg (ints .u8 a).toArray) := hS 46 59 (by decide) rfl
  have e60 : val 60 = (.func (.func 18) #[] #[]) := hS 47 60 (by decide) rfl
  have e61 : val 61 = (.agg (ints .u8 b).toArray) := hS 48 61 (by decide) rfl
  have e62 : val 62 = (.agg (ints .u8 c).toArray) := hS 49 62 (by decide) rfl
  have e63 : val 63 = (.agg (ints .u8 mbc).toArray) := hS 50 63 (by decide) rfl
  have e64 : val 64 = (.agg (ints .u8 mabc).toArray) := hS 51 64 (by decide) rfl
  have e65 : val 65 = (.bool false) := hS 52 65 (by decide) rfl
  simp only [putVals, List.foldl_cons, List.foldl_nil, List.drop_succ_cons, List.drop_zero, Act.put, List.setIfInBounds_toArray, List.set_cons_succ, List.set_cons_zero, e13, e14, e15, e16, e17, e18, e19, e20, e21, e22, e23, e24, e25, e26, e27, e28, e29, e30, e31, e32, e33, e34, e35, e36, e37, e38, e39, e40, e41, e42, e43, e44, e45, e46, e47, e48, e49, e50, e51, e52, e53, e54, e55, e56, e57, e58, e59, e60, e61, e62, e63, e64, e65]
  clear hS hap hla e13 e14 e15 e16 e17 e18 e19 e20 e21 e22 e23 e24 e25 e26 e27 e28 e29 e30 e31 e32 e33 e34 e35 e36 e37 e38 e39 e40 e41 e42 e43 e44 e45 e46 e47 e48 e49 e50 e51 e52 e53 e54 e55 e56 e57 e58 e59 e60 e61 e62 e63 e64 e65
  replace h3 := h3.next hw
  replace h4 := h4.next hw
  replace h5 := h5.next hw
  replace hT := hT.next hw
  replace hW := hW.trans (Below.mono hw hW.size)
  clear hw
  go_wp2_with (fail)
  refine (kof _ hT h3.1.nums).mono ?_
  rintro e w2 ⟨rfl, hb2⟩
  have h3b := h3.next hb2
  have h4b := h4.next hb2
  have h5b := h5.next hb2
  have hW2 := hW.trans (hb2.mono hW.size)
  have hT2 := hT.next hb2
  have h9a := Arr.made w2 .u8 (zeros 32) 23
  have hs1 : (w2.alloc (.cells (ints .u8 (zeros 32)).toArray 23)).there w2.heap.size 0 (ints .u8 x).toArray.size := h9a.room (by rw [zeros_len]; exact lx)
  have h9 : By ((w2.alloc (.cells (ints .u8 (zeros 32)).toArray 23)).setCells w2.heap.size 0 (ints .u8 x).toArray.toList) w2.heap.size x := ⟨h9a.stored (by rw [zeros_len]; exact lx), lx⟩
  have hbs : Below w2.heap.size w2 ((w2.alloc (.cells (ints .u8 (zeros 32)).toArray 23)).setCells w2.heap.size 0 (ints .u8 x).toArray.toList) := Below.setCells (below_new _ _) (Nat.le_refl _) 0 _
  have h3c := h3b.next hbs
  have h4c := h4b.next hbs
  have h5c := h5b.next hbs
  have hW3 := hW2.trans (hbs.mono hW2.size)
  have hT3 := hT2.next hbs
  clear h3 h4 h5 hW hT hb2 h3b h4b h5b hW2 hT2 h9a hbs
  go_upto_region 7 with (first
    | (with_reducible refine wpList_store_mid (op := ⟨none, .store 23 (.tmp 9) (.tmp 70), _, _, _, _⟩) rfl 23 (.tmp 9) (.tmp 70) rfl w2.heap.size 0 (ints .u8 x).toArray rfl rfl hs1 (a22 lx) (ints_all _ _) ?_; generalize (w2.alloc (.cells (ints .u8 (zeros 32)).toArray 23)).setCells w2.heap.size 0 (ints .u8 x).toArray.toList = wb at *))
  generalize w2.heap.size = b9 at *
  have h3 := h3c
  have h4 := h4c
  have h5 := h5c
  have hW := hW3
  have hT := hT3
  clear hs1 h3c h4c h5c hW3 hT3
  generalize wb = w1 at *
  have s1 := hW.size
  refine region_spec2 55 127 (fun _ => false) [Is (.func (.func 18) #[] #[]), Is (.agg (ints .u8 a).toArray), Is (.func (.func 16) #[] #[]), Is (.agg (ints .u8 b).toArray), Is (.agg (ints .u8 c).toArray), Is (.agg (ints .u8 bc).toArray), Is (.agg (ints .u8 p).toArray), Is (.func (.func 16) #[] #[]), Is (.func (.func 18) #[] #[]), Is (.agg (ints .u8 a).toArray), Is (.agg (ints .u8 b).toArray), Is (.agg (ints .u8 mab).toArray), Is (.func (.func 18) #[] #[]), Is (.agg (ints .u8 a).toArray), Is (.agg (ints .u8 c).toArray), Is (.agg (ints .u8 mac).toArray), Is (.agg (ints .u8 p).toArray), Is (.bool true), Is (.bool true), Is (.func (.func 16) #[] #[]), Is (.agg (ints .u8 a).toArray), Is (.agg (ints .u8 a).toArray), Is (.agg (ints .u8 na).toArray), Is (.agg (ints .u8 (zeros 32)).toArray), Is (.agg (ints .u8 (zeros 32)).toArray), Is (.bool true), Is (.bool true), Is (.bool true), Is (.int .i64 0), Is (.bool true), Is (.bool true), Is (.bool true), Is (.func (.func 16) #[] #[]), Is (.agg (ints .u8 a).toArray), Is (.agg (ints .u8 (zeros 32)).toArray), Is (.agg (ints .u8 x).toArray), Is (.agg (ints .u8 x).toArray), Is (.bool true), Is (.bool true), Is (.bool true), Is (.func (.func 18) #[] #[]), Is (.agg (ints .u8 a).toArray), Is (.agg (ints .u8 oneL).toArray), Is (.agg (ints .u8 x).toArray), Is (.agg (ints .u8 x).toArray), Is (.bool true), Is (.bool true), Is (.bool true), Is (.func (.func 18) #[] #[]), Is (.agg (ints .u8 q).toArray), Is (.agg (ints .u8 a).toArray), Is (.agg (ints .u8 (zeros 32)).toArray), Is (.agg (ints .u8 (zeros 32)).toArray), Is (.bool true), Is (.bool true)] [72, 73, 74, 75, 76, 77, 78, 79, 80, 81, 82, 83, 84, 85, 86, 87, 88, 89, 90, 91, 92, 93, 94, 95, 96, 97, 98, 99, 100, 101, 102, 103, 104, 105, 106, 107, 108, 109, 110, 111, 112, 113, 114, 115, 116, 117, 118, 119, 120, 121, 122, 123, 124, 125, 126] (by kernel_rfl) (by kernel_rfl) (by kernel_rfl) (Nat.le_of_eq rfl) (grows_cons (Is.grows _) (grows_cons (Is.grows _) (grows_cons (Is.grows _) (grows_cons (Is.grows _) (grows_cons (Is.grows _) (grows_cons (Is.grows _) (grows_cons (Is.grows _) (grows_cons (Is.grows _) (grows_cons (Is.grows _) (grows_cons (Is.grows _) (grows_cons (Is.grows _) (grows_cons (Is.grows _) (grows_cons (Is.grows _) (grows_cons (Is.grows _) (grows_cons (Is.grows _) (grows_cons (Is.grows _) (grows_cons (Is.grows _) (grows_cons (Is.grows _) (grows_cons (Is.grows _) (grows_cons (Is.grows _) (grows_cons (Is.grows _) (grows_cons (Is.grows _) (grows_cons (Is.grows _) (grows_cons (Is.grows _) (grows_cons (Is.grows _) (grows_cons (Is.grows _) (grows_cons (Is.grows _) (grows_cons (Is.grows _) (grows_cons (Is.grows _) (grows_cons (Is.grows _) (grows_cons (Is.grows _) (grows_cons (Is.grows _) (grows_cons (Is.grows _) (grows_cons (Is.grows _) (grows_cons (Is.grows _) (grows_cons (Is.grows _) (grows_cons (Is.grows _) (grows_cons (Is.grows _) (grows_cons (Is.grows _) (grows_cons (Is.grows _) (grows_cons (Is.grows _) (grows_cons (Is.grows _) (grows_cons (Is.grows _) (grows_cons (Is.grows _) (grows_cons (Is.grows _) (grows_cons (Is.grows _) (grows_cons (Is.grows _) (grows_cons (Is.grows _) (grows_cons (Is.grows _) (grows_cons (Is.grows _) (grows_cons (Is.grows _) (grows_cons (Is.grows _) (grows_cons (Is.grows _) (grows_cons (Is.grows _) (grows_cons (Is.grows _) grows_nil)))))))))))))))))))))))))))))))))))))))))))))))))))))))
    ⟨step_mv rfl (.inl rfl) rfl rfl (knows_out 8 (by kernel_rfl) rfl),
     step_by rfl (.inl rfl) h3 3 rfl (by kernel_rfl) rfl rfl,
     step_mv rfl (.inl rfl) rfl rfl (knows_out 7 (by kernel_rfl) rfl),
     step_by rfl (.inl rfl) h4 4 rfl (by kernel_rfl) rfl rfl,
     step_by rfl (.inl rfl) h5 5 rfl (by kernel_rfl) rfl rfl,
     step_toV rfl (.inl rfl) rfl cfT16 (knows_in 2 74 (by decide) (by kernel_rfl) rfl rfl) hT k5 rfl (two_args (knows_in 3 75 (by decide) (by kernel_rfl) rfl rfl) (knows_in 4 76 (by decide) (by kernel_rfl) rfl rfl)),
     step_toV rfl (.inl rfl) rfl cfT18 (knows_in 0 72 (by decide) (by kernel_rfl) rfl rfl) hT k10 rfl (two_args (knows_in 1 73 (by decide) (by kernel_rfl) rfl rfl) (knows_in 5 77 (by decide) (by kernel_rfl) rfl rfl)),
     step_mv rfl (.inl rfl) rfl rfl (knows_out 7 (by kernel_rfl) rfl),
     step_mv rfl (.inl rfl) rfl rfl (knows_out 8 (by kernel_rfl) rfl),
     step_by rfl (.inl rfl) h3 3 rfl (by kernel_rfl) rfl rfl,
     step_by rfl (.inl rfl) h4 4 rfl (by kernel_rfl) rfl rfl,
     step_toV rfl (.inl rfl) rfl cfT18 (knows_in 8 80 (by decide) (by kernel_rfl) rfl rfl) hT k2 rfl (two_args (knows_in 9 81 (by decide) (by kernel_rfl) rfl rfl) (knows_in 10 82 (by decide) (by kernel_rfl) rfl rfl)),
     step_mv rfl (.inl rfl) rfl rfl (knows_out 8 (by kernel_rfl) rfl),
     step_by rfl (.inl rfl) h3 3 rfl (by kernel_rfl) rfl rfl,
     step_by rfl (.inl rfl) h5 5 rfl (by kernel_rfl) rfl rfl,
     step_toV rfl (.inl rfl) rfl cfT18 (knows_in 12 84 (by decide) (by kernel_rfl) rfl rfl) hT k11 rfl (two_args (knows_in 13 85 (by decide) (by kernel_rfl) rfl rfl) (knows_in 14 86 (by decide) (by kernel_rfl) rfl rfl)),
     step_toV rfl (.inl rfl) rfl cfT16 (knows_in 7 79 (by decide) (by kernel_rfl) rfl rfl) hT k12 rfl (two_args (knows_in 11 83 (by decide) (by kernel_rfl) rfl rfl) (knows_in 15 87 (by decide) (by kernel_rfl) rfl rfl)),
     step_eqs rfl (.inl rfl) rfl lp rfl (knows_in 6 78 (by decide) (by kernel_rfl) rfl rfl) (knows_in 16 88 (by decide) (by kernel_rfl) rfl rfl),
     step_mv rfl (.inl rfl) rfl rfl (knows_in 17 89 (by decide) (by kernel_rfl) rfl rfl),
     step_mv rfl (.inr ⟨18, true, 90, rfl, by decide, by kernel_rfl, rfl, fun _ _ h => h⟩) rfl rfl (knows_out 7 (by kernel_rfl) rfl),
     step_by rfl (.inr ⟨18, true, 90, rfl, by decide, by kernel_rfl, rfl, fun _ _ h => h⟩) h3 3 rfl (by kernel_rfl) rfl rfl,
     step_by rfl (.inr ⟨18, true, 90, rfl, by decide, by kernel_rfl, rfl, fun _ _ h => h⟩) h3 3 rfl (by kernel_rfl) rfl rfl,
     step_toT rfl (.inr ⟨18, true, 90, rfl, by decide, by kernel_rfl, rfl, fun _ _ h => h⟩) rfl cfT15 hT k13 rfl (one_arg (knows_in 21 93 (by decide) (by kernel_rfl) rfl rfl)),
     step_toV rfl (.inr ⟨18, true, 90, rfl, by decide, by kernel_rfl, rfl, fun _ _ h => h⟩) rfl cfT16 (knows_in 19 91 (by decide) (by kernel_rfl) rfl rfl) hT k14 rfl (two_args (knows_in 20 92 (by decide) (by kernel_rfl) rfl rfl) (knows_in 22 94 (by decide) (by kernel_rfl) rfl rfl)),
     step_noneB rfl (.inr ⟨18, true, 90, rfl, by decide, by kernel_rfl, rfl, fun _ _ h => h⟩) rfl rfl,
     step_eqs rfl (.inr ⟨18, true, 90, rfl, by decide, by kernel_rfl, rfl, fun _ _ h => h⟩) rfl (zeros_len 32) rfl (knows_in 23 95 (by decide) (by kernel_rfl) rfl rfl) (knows_in 24 96 (by decide) (by kernel_rfl) rfl rfl),
     step_pick rfl (.inl rfl) (b := true) rfl rfl (knows_in 18 90 (by decide) (by kernel_rfl) rfl rfl) (knows_in 25 97 (by decide) (by kernel_rfl) rfl rfl),
     step_mv rfl (.inl rfl) rfl rfl (knows_in 26 98 (by decide) (by kernel_rfl) rfl rfl),
     step_mv rfl (.inr ⟨27, true, 99, rfl, by decide, by kernel_rfl, rfl, fun _ _ h => h⟩) rfl rfl (knows_out 10 (by kernel_rfl) rfl),
     step_eqE rfl (.inr ⟨27, true, 99, rfl, by decide, by kernel_rfl, rfl, fun _ _ h => h⟩) rfl rfl rfl (knows_in 28 100 (by decide) (by kernel_rfl) rfl rfl),
     step_pick rfl (.inl rfl) (b := true) rfl rfl (knows_in 27 99 (by decide) (by kernel_rfl) rfl rfl) (knows_in 29 101 (by decide) (by kernel_rfl) rfl rfl),
     step_mv rfl (.inl rfl) rfl rfl (knows_in 30 102 (by decide) (by kernel_rfl) rfl rfl),
     step_mv rfl (.inr ⟨31, true, 103, rfl, by decide, by kernel_rfl, rfl, fun _ _ h => h⟩) rfl rfl (knows_out 7 (by kernel_rfl) rfl),
     step_by rfl (.inr ⟨31, true, 103, rfl, by decide, by kernel_rfl, rfl, fun _ _ h => h⟩) h3 3 rfl (by kernel_rfl) rfl rfl,
     step_noneB rfl (.inr ⟨31, true, 103, rfl, by decide, by kernel_rfl, rfl, fun _ _ h => h⟩) rfl rfl,
     step_toV rfl (.inr ⟨31, true, 103, rfl, by decide, by kernel_rfl, rfl, fun _ _ h => h⟩) rfl cfT16 (knows_in 32 104 (by decide) (by kernel_rfl) rfl rfl) hT k15 rfl (two_args (knows_in 33 105 (by decide) (by kernel_rfl) rfl rfl) (knows_in 34 106 (by decide) (by kernel_rfl) rfl rfl)),
     step_by rfl (.inr ⟨31, true, 103, rfl, by decide, by kernel_rfl, rfl, fun _ _ h => h⟩) h9 9 rfl (by kernel_rfl) rfl rfl,
     step_eqs rfl (.inr ⟨31, true, 103, rfl, by decide, by kernel_rfl, rfl, fun _ _ h => h⟩) rfl lx rfl (knows_in 35 107 (by decide) (by kernel_rfl) rfl rfl) (knows_in 36 108 (by decide) (by kernel_rfl) rfl rfl),
     step_pick rfl (.inl rfl) (b := true) rfl rfl (knows_in 31 103 (by decide) (by kernel_rfl) rfl rfl) (knows_in 37 109 (by decide) (by kernel_rfl) rfl rfl),
     step_mv rfl (.inl rfl) rfl rfl (knows_in 38 110 (by decide) (by kernel_rfl) rfl rfl),
     step_mv rfl (.inr ⟨39, true, 111, rfl, by decide, by kernel_rfl, rfl, fun _ _ h => h⟩) rfl rfl (knows_out 8 (by kernel_rfl) rfl),
     step_by rfl (.inr ⟨39, true, 111, rfl, by decide, by kernel_rfl, rfl, fun _ _ h => h⟩) h3 3 rfl (by kernel_rfl) rfl rfl,
     step_oneB rfl (.inr ⟨39, true, 111, rfl, by decide, by kernel_rfl, rfl, fun _ _ h => h⟩) rfl built_one rfl,
     step_toV rfl (.inr ⟨39, true, 111, rfl, by decide, by kernel_rfl, rfl, fun _ _ h => h⟩) rfl cfT18 (knows_in 40 112 (by decide) (by kernel_rfl) rfl rfl) hT k16 rfl (two_args (knows_in 41 113 (by decide) (by kernel_rfl) rfl rfl) (knows_in 42 114 (by decide) (by kernel_rfl) rfl rfl)),
     step_by rfl (.inr ⟨39, true, 111, rfl, by decide, by kernel_rfl, rfl, fun _ _ h => h⟩) h9 9 rfl (by kernel_rfl) rfl rfl,
     step_eqs rfl (.inr ⟨39, true, 111, rfl, by decide, by kernel_rfl, rfl, fun _ _ h => h⟩) rfl lx rfl (knows_in 43 115 (by decide) (by kernel_rfl) rfl rfl) (knows_in 44 116 (by decide) (by kernel_rfl) rfl rfl),
     step_pick rfl (.inl rfl) (b := true) rfl rfl (knows_in 39 111 (by decide) (by kernel_rfl) rfl rfl) (knows_in 45 117 (by decide) (by kernel_rfl) rfl rfl),
     step_mv rfl (.inl rfl) rfl rfl (knows_in 46 118 (by decide) (by kernel_rfl) rfl rfl),
     step_mv rfl (.inr ⟨47, true, 119, rfl, by decide, by kernel_rfl, rfl, fun _ _ h => h⟩) rfl rfl (knows_out 8 (by kernel_rfl) rfl),
     step_toT rfl (.inr ⟨47, true, 119, rfl, by decide, by kernel_rfl, rfl, fun _ _ h => h⟩) rfl cfT8 hT k17 rfl (no_args),
     step_by rfl (.inr ⟨47, true, 119, rfl, by decide, by kernel_rfl, rfl, fun _ _ h => h⟩) h3 3 rfl (by kernel_rfl) rfl rfl,
     step_toV rfl (.inr ⟨47, true, 119, rfl, by decide, by kernel_rfl, rfl, fun _ _ h => h⟩) rfl cfT18 (knows_in 48 120 (by decide) (by kernel_rfl) rfl rfl) hT k18 rfl (two_args (knows_in 49 121 (by decide) (by kernel_rfl) rfl rfl) (knows_in 50 122 (by decide) (by kernel_rfl) rfl rfl)),
     step_noneB rfl (.inr ⟨47, true, 119, rfl, by decide, by kernel_rfl, rfl, fun _ _ h => h⟩) rfl rfl,
     step_eqs rfl (.inr ⟨47, true, 119, rfl, by decide, by kernel_rfl, rfl, fun _ _ h => h⟩) rfl (zeros_len 32) rfl (knows_in 51 123 (by decide) (by kernel_rfl) rfl rfl) (knows_in 52 124 (by decide) (by kernel_rfl) rfl rfl),
     step_pick rfl (.inl rfl) (b := true) rfl rfl (knows_in 47 119 (by decide) (by kernel_rfl) rfl rfl) (knows_in 53 125 (by decide) (by kernel_rfl) rfl rfl), trivial⟩ ?_
  intro val w2 hw hS hap hla
  have e72 : val 72 = (.func (.func 18) #[] #[]) := hS 0 72 (by decide) rfl
  have e73 : val 73 = (.agg (ints .u8 a).toArray) := hS 1 73 (by decide) rfl
  have e74 : val 74 = (.func (.func 16) #[] #[]) := hS 2 74 (by decide) rfl
  have e75 : val 75 = (.agg (ints .u8 b).toArray) := hS 3 75 (by decide) rfl
  have e76 : val 76 = (.agg (ints .u8 c).toArray) := hS 4 76 (by decide) rfl
  have e77 : val 77 = (.agg (ints .u8 bc).toArray) := hS 5 77 (by decide) rfl
  have e78 : val 78 = (.agg (ints .u8 p).toArray) := hS 6 78 (by decide) rfl
  have e79 : val 79 = (.func (.func 16) #[] #[]) := hS 7 79 (by decide) rfl
  have e80 : val 80 = (.func (.func 18) #[] #[]) := hS 8 80 (by decide) rfl
  have e81 : val 81 = (.agg (ints .u8 a).toArray) := hS 9 81 (by decide) rfl
  have e82 : val 82 = (.agg (ints .u8 b).toArray) := hS 10 82 (by decide) rfl
  have e83 : val 83 = (.agg (ints .u8 mab).toArray) := hS 11 83 (by decide) rfl
  have e84 : val 84 = (.func (.func 18) #[] #[]) := hS 12 84 (by decide) rfl
  have e85 : val 85 = (.agg (ints .u8 a).toArray) := hS 13 85 (by decide) rfl
  have e86 : val 86 = (.agg (ints .u8 c).toArray) := hS 14 86 (by decide) rfl
  have e87 : val 87 = (.agg (ints .u8 mac).toArray) := hS 15 87 (by decide) rfl
  have e88 : val 88 = (.agg (ints .u8 p).toArray) := hS 16 88 (by decide) rfl
  have e89 : val 89 = (.bool true) := hS 17 89 (by decide) rfl
  have e90 : val 90 = (.bool true) := hS 18 90 (by decide) rfl
  have e91 : val 91 = (.func (.func 16) #[] #[]) := hS 19 91 (by decide) rfl
  have e92 : val 92 = (.agg (ints .u8 a).toArray) := hS 20 92 (by decide) rfl
  have e93 : val 93 = (.agg (ints .u8 a).toArray) := hS 21 93 (by decide) rfl
  have e94 : val 94 = (.agg (ints .u8 na).toArray) := hS 22 94 (by decide) rfl
  have e95 : val 95 = (.agg (ints .u8 (zeros 32)).toArray) := hS 23 95 (by decide) rfl
  have e96 : val 96 = (.agg (ints .u8 (zeros 32)).toArray) := hS 24 96 (by decide) rfl
  have e97 : val 97 = (.bool true) := hS 25 97 (by decide) rfl
  have e98 : val 98 = (.bool true) := hS 26 98 (by decide) rfl
  have e99 : val 99 = (.bool true) := hS 27 99 (by decide) rfl
  have e100 : val 100 = (.int .i64 0) := hS 28 100 (by decide) rfl
  have e101 : val 101 = (.bool true) := hS 29 101 (by decide) rfl
  have e102 : val 102 = (.bool true) := hS 30 102 (by decide) rfl
  have e103 : val 103 = (.bool true) := hS 31 103 (by decide) rfl
  have e104 : val 104 = (.func (.func 16) #[] #[]) := hS 32 104 (by decide) rfl
  have e105 : val 105 = (.agg (ints .u8 a).toArray) := hS 33 105 (by decide) rfl
  have e106 : val 106 = (.agg (ints .u8 (zeros 32)).toArray) := hS 34 106 (by decide) rfl
  have e107 : val 107 = (.agg (ints .u8 x).toArray) := hS 35 107 (by decide) rfl
  have e108 : val 108 = (.agg (ints .u8 x).toArray) := hS 36 108 (by decide) rfl
  have e109 : val 109 = (.bool true) := hS 37 109 (by decide) rfl
  have e110 : val 110 = (.bool true) := hS 38 110 (by decide) rfl
  have e111 : val 111 = (.bool true) := hS 39 111 (by decide) rfl
  have e112 : val 112 = (.func (.func 18) #[] #[]) := hS 40 112 (by decide) rfl
  have e113 : val 113 = (.agg (ints .u8 a).toArray) := hS 41 113 (by decide) rfl
  have e114 : val 114 = (.agg (ints .u8 oneL).toArray) := hS 42 114 (by decide) rfl
  have e115 : val 115 = (.agg (ints .u8 x).toArray) := hS 43 115 (by decide) rfl
  have e116 : val 116 = (.agg (ints .u8 x).toArray) := hS 44 116 (by decide) rfl
  have e117 : val 117 = (.bool true) := hS 45 117 (by decide) rfl
  have e118 : val 118 = (.bool true) := hS 46 118 (by decide) rfl
  have e119 : val 119 = (.bool true) := hS 47 119 (by decide) rfl
  have e120 : val 120 = (.func (.func 18) #[] #[]) := hS 48 120 (by decide) rfl
  have e121 : val 121 = (.agg (ints .u8 q).toArray) := hS 49 121 (by decide) rfl
  have e122 : val 122 = (.agg (ints .u8 a).toArray) := hS 50 122 (by decide) rfl
  have e123 : val 123 = (.agg (ints .u8 (zeros 32)).toArray) := hS 51 123 (by decide) rfl
  have e124 : val 124 = (.agg (ints .u8 (zeros 32)).toArray) := hS 52 124 (by decide) rfl
  have e125 : val 125 = (.bool true) := hS 53 125 (by decide) rfl
  have e126 : val 126 = (.bool true) := hS 54 126 (by decide) rfl
  simp only [putVals, List.foldl_cons, List.foldl_nil, List.drop_succ_cons, List.drop_zero, Act.put, List.setIfInBounds_toArray, List.set_cons_succ, List.set_cons_zero, e72, e73, e74, e75, e76, e77, e78, e79, e80, e81, e82, e83, e84, e85, e86, e87, e88, e89, e90, e91, e92, e93, e94, e95, e96, e97, e98, e99, e100, e101, e102, e103, e104, e105, e106, e107, e108, e109, e110, e111, e112, e113, e114, e115, e116, e117, e118, e119, e120, e121, e122, e123, e124, e125, e126]
  clear hS hap hla e72 e73 e74 e75 e76 e77 e78 e79 e80 e81 e82 e83 e84 e85 e86 e87 e88 e89 e90 e91 e92 e93 e94 e95 e96 e97 e98 e99 e100 e101 e102 e103 e104 e105 e106 e107 e108 e109 e110 e111 e112 e113 e114 e115 e116 e117 e118 e119 e120 e121 e122 e123 e124 e125 e126
  replace h3 := h3.next hw
  replace h4 := h4.next hw
  replace h5 := h5.next hw
  replace hT := hT.next hw
  replace h9 := h9.next hw
  replace hW := hW.trans (Below.mono hw hW.size)
  clear hw
  go_wp2_with (fail)
  go_ret
  exact ⟨rfl, hW⟩

end Go.Proofs.YtcoegehnipldpaaDoor
