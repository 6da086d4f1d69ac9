/- The laws of sums and products. -/
import Derived.Test.YthohfhloobmlpaaPAwake
import Derived.Test.YthohfhloobmlpaaStores
namespace Go.Proofs.Ythohfhloobmlpaa
open Go Go.RowKit

set_option maxRecDepth 8000 in
set_option maxHeartbeats 4000000 in
theorem laws_core {a b c sxy pxy pxyz pyz sxyz syz q pxz rx : List Int} (w : World) (Ha : Hid (a.length = 17)) (Hb : Hid (b.length = 17)) (Hc : Hid (c.length = 17)) (Hsxy : Hid (sxy.length = 17)) (Hpxy : Hid (pxy.length = 17)) (Hpxyz : Hid (pxyz.length = 17)) (Hpyz : Hid (pyz.length = 17)) (Hsxyz : Hid (sxyz.length = 17)) (Hsyz : Hid (syz.length = 17)) (Hq : Hid (q.length = 17)) (Hpxz : Hid (pxz.length = 17)) (Hrx : Hid (rx.length = 17))
    (k11_a_b : Hid (CallsTo 11 #[.agg (ints .u8 a).toArray, .agg (ints .u8 b).toArray] (.agg (ints .u8 sxy).toArray))) (k11_b_a : Hid (CallsTo 11 #[.agg (ints .u8 b).toArray, .agg (ints .u8 a).toArray] (.agg (ints .u8 sxy).toArray))) (k13_a_b : Hid (CallsTo 13 #[.agg (ints .u8 a).toArray, .agg (ints .u8 b).toArray] (.agg (ints .u8 pxy).toArray))) (k13_b_a : Hid (CallsTo 13 #[.agg (ints .u8 b).toArray, .agg (ints .u8 a).toArray] (.agg (ints .u8 pxy).toArray))) (k13_pxy_c : Hid (CallsTo 13 #[.agg (ints .u8 pxy).toArray, .agg (ints .u8 c).toArray] (.agg (ints .u8 pxyz).toArray))) (k13_b_c : Hid (CallsTo 13 #[.agg (ints .u8 b).toArray, .agg (ints .u8 c).toArray] (.agg (ints .u8 pyz).toArray))) (k13_a_pyz : Hid (CallsTo 13 #[.agg (ints .u8 a).toArray, .agg (ints .u8 pyz).toArray] (.agg (ints .u8 pxyz).toArray))) (k11_sxy_c : Hid (CallsTo 11 #[.agg (ints .u8 sxy).toArray, .agg (ints .u8 c).toArray] (.agg (ints .u8 sxyz).toArray))) (k11_b_c : Hid (CallsTo 11 #[.agg (ints .u8 b).toArray, .agg (ints .u8 c).toArray] (.agg (ints .u8 syz).toArray))) (k11_a_syz : Hid (CallsTo 11 #[.agg (ints .u8 a).toArray, .agg (ints .u8 syz).toArray] (.agg (ints .u8 sxyz).toArray))) (k13_a_syz : Hid (CallsTo 13 #[.agg (ints .u8 a).toArray, .agg (ints .u8 syz).toArray] (.agg (ints .u8 q).toArray))) (k13_a_c : Hid (CallsTo 13 #[.agg (ints .u8 a).toArray, .agg (ints .u8 c).toArray] (.agg (ints .u8 pxz).toArray))) (k11_pxy_pxz : Hid (CallsTo 11 #[.agg (ints .u8 pxy).toArray, .agg (ints .u8 pxz).toArray] (.agg (ints .u8 q).toArray))) (k13_a_one : Hid (CallsTo 13 #[.agg (ints .u8 a).toArray, .agg (ints .u8 (1 :: zeros 16)).toArray] (.agg (ints .u8 rx).toArray))) (k9_rx : Hid (CallsTo 9 #[.agg (ints .u8 rx).toArray] (.agg (ints .u8 rx).toArray))) (k9_a : Hid (CallsTo 9 #[.agg (ints .u8 a).toArray] (.agg (ints .u8 rx).toArray))) (k11_a_zr : Hid (CallsTo 11 #[.agg (ints .u8 a).toArray, .agg (ints .u8 (zeros 17)).toArray] (.agg (ints .u8 rx).toArray))) :
    Calls Try.prog 5 #[.agg (ints .u8 a).toArray, .agg (ints .u8 b).toArray, .agg (ints .u8 c).toArray] w fun e w' => e = .returned (.bool true) ∧ Below w.heap.size w w' := by
  have h1 := (((Rw.new w (ints .u8 a) 22).next (below_new _ (.cells (ints .u8 b).toArray 22))).next (below_new _ (.cells (ints .u8 c).toArray 22)))
  have h2 := ((Rw.new (w.alloc (.cells (ints .u8 a).toArray 22)) (ints .u8 b) 22).next (below_new _ (.cells (ints .u8 c).toArray 22)))
  have h3 := Rw.new ((w.alloc (.cells (ints .u8 a).toArray 22)).alloc (.cells (ints .u8 b).toArray 22)) (ints .u8 c) 22
  have hW := ((below_new w (.cells (ints .u8 a).toArray 22)).alloc (by simp) (.cells (ints .u8 b).toArray 22)).alloc (by simp; omega) (.cells (ints .u8 c).toArray 22)
  rw [World.size_alloc] at h2
  rw [World.size_alloc, World.size_alloc] at h3
  go_enter Try.func5, Try.ntmps5
  go_wp2_with (fail)
  generalize ((w.alloc (.cells (ints .u8 a).toArray 22)).alloc (.cells (ints .u8 b).toArray 22)).alloc (.cells (ints .u8 c).toArray 22) = w0 at *
  refine (c_awake _).mono ?_
  rintro e w1 ⟨rfl, hb1⟩
  replace h1 := h1.next hb1
  replace h2 := h2.next hb1
  replace h3 := h3.next hb1
  replace hW := hW.trans (Below.mono hb1 hW.size)
  clear hb1
  go_wp2_with (fail)
  have s1 := hW.size
  refine region_stores 6 90 3 (fun i => i == 3 || i == 4 || i == 5) [Is (.agg (ints .u8 a).toArray), Is (.agg (ints .u8 b).toArray), Is (.agg (ints .u8 c).toArray), IsZV w1.heap.size (ints .u8 (zeros 17)), IsZV w1.heap.size (ints .u8 (zeros 17)), IsZV w1.heap.size (ints .u8 (zeros 17))] [12, 13, 14, 7, 8, 9] 25 [⟨3, 7, 0, 12, (ints .u8 a).toArray⟩, ⟨4, 8, 1, 13, (ints .u8 b).toArray⟩, ⟨5, 9, 2, 14, (ints .u8 c).toArray⟩] rfl (by kernel_rfl) (by kernel_rfl) (by kernel_rfl) (Nat.le_of_eq rfl) (grows_cons (Is.grows _) (grows_cons (Is.grows _) (grows_cons (Is.grows _) (grows_cons (IsZV.grows _ _) (grows_cons (IsZV.grows _ _) (grows_cons (IsZV.grows _ _) grows_nil))))))
    ⟨step_ldV rfl (.inl rfl) (fun _ hw => (h1.next hw).range) rfl Try.underlying22 rfl (szV inf22 (il Ha.out)) rfl (knows_out 3 (by kernel_rfl) rfl),
     step_ldV rfl (.inl rfl) (fun _ hw => (h2.next hw).range) rfl Try.underlying22 rfl (szV inf22 (il Hb.out)) rfl (knows_out 4 (by kernel_rfl) rfl),
     step_ldV rfl (.inl rfl) (fun _ hw => (h3.next hw).range) rfl Try.underlying22 rfl (szV inf22 (il Hc.out)) rfl (knows_out 5 (by kernel_rfl) rfl),
     step_allocV (.inl rfl) inf25 rfl rfl,
     step_allocV (.inl rfl) inf25 rfl rfl,
     step_allocV (.inl rfl) inf25 rfl rfl, trivial⟩
    ⟨⟨⟨_, rfl, rfl, rfl, rfl⟩, (by show 3 < 6; decide), (by show 0 < 6; decide), by kernel_rfl, by kernel_rfl, by kernel_rfl, by kernel_rfl, fun _ _ h => sto_p h ((zv .u8 17).trans (il Ha.out).symm), fun _ _ h => h, szA inf25 (il Ha.out), (ints_all _ _)⟩, ⟨⟨_, rfl, rfl, rfl, rfl⟩, (by show 4 < 6; decide), (by show 1 < 6; decide), by kernel_rfl, by kernel_rfl, by kernel_rfl, by kernel_rfl, fun _ _ h => sto_p h ((zv .u8 17).trans (il Hb.out).symm), fun _ _ h => h, szA inf25 (il Hb.out), (ints_all _ _)⟩, ⟨⟨_, rfl, rfl, rfl, rfl⟩, (by show 5 < 6; decide), (by show 2 < 6; decide), by kernel_rfl, by kernel_rfl, by kernel_rfl, by kernel_rfl, fun _ _ h => sto_p h ((zv .u8 17).trans (il Hc.out).symm), fun _ _ h => h, szA inf25 (il Hc.out), (ints_all _ _)⟩, trivial⟩ ⟨.inl (by kernel_rfl), .inr ⟨rfl, free_ldV rfl (fun _ hw => (h2.next hw).range) rfl Try.underlying22 rfl (szV inf22 (il Hb.out)) rfl (by kernel_rfl) rfl⟩, .inr ⟨rfl, free_ldV rfl (fun _ hw => (h3.next hw).range) rfl Try.underlying22 rfl (szV inf22 (il Hc.out)) rfl (by kernel_rfl) rfl⟩, .inl (by kernel_rfl), .inl (by kernel_rfl), .inl (by kernel_rfl), trivial⟩ ?_
  intro val w2 hw hS hap hla
  have e12 : val 12 = (.agg (ints .u8 a).toArray) := hS 0 12 (by decide) rfl
  have e13 : val 13 = (.agg (ints .u8 b).toArray) := hS 1 13 (by decide) rfl
  have e14 : val 14 = (.agg (ints .u8 c).toArray) := hS 2 14 (by decide) rfl
  obtain ⟨b7, e7, L7, Z7⟩ := hS 3 7 (by decide) rfl
  obtain ⟨b8, e8, L8, Z8⟩ := hS 4 8 (by decide) rfl
  obtain ⟨b9, e9, L9, Z9⟩ := hS 5 9 (by decide) rfl
  have ne7_8 : b7 ≠ b8 := fun e => hap 3 4 7 8 (by decide) (by decide) rfl rfl (by decide) rfl rfl (by rw [e7, e8, e])
  have ne7_9 : b7 ≠ b9 := fun e => hap 3 5 7 9 (by decide) (by decide) rfl rfl (by decide) rfl rfl (by rw [e7, e9, e])
  have ne8_9 : b8 ≠ b9 := fun e => hap 4 5 8 9 (by decide) (by decide) rfl rfl (by decide) rfl rfl (by rw [e8, e9, e])
  simp only [aft, blkOf, putVals, List.foldl_cons, List.foldl_nil, List.drop_succ_cons, List.drop_zero, Act.put, List.setIfInBounds_toArray, List.set_cons_succ, List.set_cons_zero, e12, e13, e14, e7, e8, e9]
  clear hS hap hla e12 e13 e14 e7 e8 e9 
  have LL7 := hid (show ((ints .u8 a)).length = 17 from (il Ha.out))
  have R7 := Z7.roomA (us := (ints .u8 a)) (LL7.out.trans (zv .u8 17).symm)
  have hx := Z7.storedA (us := (ints .u8 a)) (LL7.out.trans (zv .u8 17).symm)
  replace Z8 := Z8.pastA ne7_8 0 (ints .u8 a)
  replace Z9 := Z9.pastA ne7_9 0 (ints .u8 a)
  have LL8 := hid (show ((ints .u8 b)).length = 17 from (il Hb.out))
  have R8 := Z8.roomA (us := (ints .u8 b)) (LL8.out.trans (zv .u8 17).symm)
  have hy := Z8.storedA (us := (ints .u8 b)) (LL8.out.trans (zv .u8 17).symm)
  replace Z9 := Z9.pastA ne8_9 0 (ints .u8 b)
  replace hx := hx.pastA (Ne.symm ne7_8) 0 (ints .u8 b)
  have LL9 := hid (show ((ints .u8 c)).length = 17 from (il Hc.out))
  have R9 := Z9.roomA (us := (ints .u8 c)) (LL9.out.trans (zv .u8 17).symm)
  have hz := Z9.storedA (us := (ints .u8 c)) (LL9.out.trans (zv .u8 17).symm)
  replace hx := hx.pastA (Ne.symm ne7_9) 0 (ints .u8 c)
  replace hy := hy.pastA (Ne.symm ne8_9) 0 (ints .u8 c)
  replace h1 := h1.next (Below.setCells (Below.setCells (Below.setCells hw L7 0 (ints .u8 a).toArray.toList) L8 0 (ints .u8 b).toArray.toList) L9 0 (ints .u8 c).toArray.toList)
  replace h2 := h2.next (Below.setCells (Below.setCells (Below.setCells hw L7 0 (ints .u8 a).toArray.toList) L8 0 (ints .u8 b).toArray.toList) L9 0 (ints .u8 c).toArray.toList)
  replace h3 := h3.next (Below.setCells (Below.setCells (Below.setCells hw L7 0 (ints .u8 a).toArray.toList) L8 0 (ints .u8 b).toArray.toList) L9 0 (ints .u8 c).toArray.toList)
  replace hW := hW.trans (Below.mono (Below.setCells (Below.setCells (Below.setCells hw L7 0 (ints .u8 a).toArray.toList) L8 0 (ints .u8 b).toArray.toList) L9 0 (ints .u8 c).toArray.toList) hW.size)
  generalize (((w2.setCells b7 0 (ints .u8 a).toArray.toList).setCells b8 0 (ints .u8 b).toArray.toList).setCells b9 0 (ints .u8 c).toArray.toList) = w3 at *
  clear hw R7 LL7 Z7 L7 R8 LL8 Z8 L8 R9 LL9 Z9 L9
  go_wp2_with (fail)
  have s3 := hW.size
  refine region_spec2 75 90 (fun _ => false) [Is (.agg (ints .u8 a).toArray), Is (.agg (ints .u8 b).toArray), Is (.agg (ints .u8 sxy).toArray), Is (.agg (ints .u8 b).toArray), Is (.agg (ints .u8 a).toArray), Is (.agg (ints .u8 sxy).toArray), Is (.bool true), Is (.bool true), Is (.agg (ints .u8 a).toArray), Is (.agg (ints .u8 b).toArray), Is (.agg (ints .u8 pxy).toArray), Is (.agg (ints .u8 b).toArray), Is (.agg (ints .u8 a).toArray), Is (.agg (ints .u8 pxy).toArray), Is (.bool true), Is (.bool true), Is (.bool true), Is (.agg (ints .u8 a).toArray), Is (.agg (ints .u8 b).toArray), Is (.agg (ints .u8 pxy).toArray), Is (.agg (ints .u8 c).toArray), Is (.agg (ints .u8 pxyz).toArray), Is (.agg (ints .u8 a).toArray), Is (.agg (ints .u8 b).toArray), Is (.agg (ints .u8 c).toArray), Is (.agg (ints .u8 pyz).toArray), Is (.agg (ints .u8 pxyz).toArray), Is (.bool true), Is (.bool true), Is (.bool true), Is (.agg (ints .u8 a).toArray), Is (.agg (ints .u8 b).toArray), Is (.agg (ints .u8 sxy).toArray), Is (.agg (ints .u8 c).toArray), Is (.agg (ints .u8 sxyz).toArray), Is (.agg (ints .u8 a).toArray), Is (.agg (ints .u8 b).toArray), Is (.agg (ints .u8 c).toArray), Is (.agg (ints .u8 syz).toArray), Is (.agg (ints .u8 sxyz).toArray), Is (.bool true), Is (.bool true), Is (.bool true), Is (.agg (ints .u8 a).toArray), Is (.agg (ints .u8 b).toArray), Is (.agg (ints .u8 c).toArray), Is (.agg (ints .u8 syz).toArray), Is (.agg (ints .u8 q).toArray), Is (.agg (ints .u8 a).toArray), Is (.agg (ints .u8 b).toArray), Is (.agg (ints .u8 pxy).toArray), Is (.agg (ints .u8 a).toArray), Is (.agg (ints .u8 c).toArray), Is (.agg (ints .u8 pxz).toArray), Is (.agg (ints .u8 q).toArray), Is (.bool true), Is (.bool true), Is (.bool true), Is (.agg (ints .u8 a).toArray), Is (.agg (ints .u8 (1 :: zeros 16)).toArray), Is (.agg (ints .u8 rx).toArray), Is (.agg (ints .u8 rx).toArray), Is (.agg (ints .u8 a).toArray), Is (.agg (ints .u8 rx).toArray), Is (.bool true), Is (.bool true), Is (.bool true), Is (.agg (ints .u8 a).toArray), Is (.agg (ints .u8 (zeros 17)).toArray), Is (.agg (ints .u8 rx).toArray), Is (.agg (ints .u8 rx).toArray), Is (.agg (ints .u8 a).toArray), Is (.agg (ints .u8 rx).toArray), Is (.bool true), Is (.bool true)] [15, 16, 17, 18, 19, 20, 21, 22, 23, 24, 25, 26, 27, 28, 29, 30, 31, 32, 33, 34, 35, 36, 37, 38, 39, 40, 41, 42, 43, 44, 45, 46, 47, 48, 49, 50, 51, 52, 53, 54, 55, 56, 57, 58, 59, 60, 61, 62, 63, 64, 65, 66, 67, 68, 69, 70, 71, 72, 73, 74, 75, 76, 77, 78, 79, 80, 81, 82, 83, 84, 85, 86, 87, 88, 89] (by kernel_rfl) (by kernel_rfl) (by kernel_rfl) (Nat.le_of_eq rfl) (grows_cons (Is.grows _) (grows_cons (Is.grows _) (grows_cons (Is.grows _) (grows_cons (Is.grows _) (grows_cons (Is.grows _) (grows_cons (Is.grows _) (grows_cons (Is.grows _) (grows_cons (Is.grows _) (grows_cons (Is.grows _) (grows_cons (Is.grows _) (grows_cons (Is.grows _) (grows_cons (Is.grows _) (grows_cons (Is.grows _) (grows_cons (Is.grows _) (grows_cons (Is.grows _) (grows_cons (Is.grows _) (grows_cons (Is.grows _) (grows_cons (Is.grows _) (grows_cons (Is.grows _) (grows_cons (Is.grows _) (grows_cons (Is.grows _) (grows_cons (Is.grows _) (grows_cons (Is.grows _) (grows_cons (Is.grows _) (grows_cons (Is.grows _) (grows_cons (Is.grows _) (grows_cons (Is.grows _) (grows_cons (Is.grows _) (grows_cons (Is.grows _) (grows_cons (Is.grows _) (grows_cons (Is.grows _) (grows_cons (Is.grows _) (grows_cons (Is.grows _) (grows_cons (Is.grows _) (grows_cons (Is.grows _) (grows_cons (Is.grows _) (grows_cons (Is.grows _) (grows_cons (Is.grows _) (grows_cons (Is.grows _) (grows_cons (Is.grows _) (grows_cons (Is.grows _) (grows_cons (Is.grows _) (grows_cons (Is.grows _) (grows_cons (Is.grows _) (grows_cons (Is.grows _) (grows_cons (Is.grows _) (grows_cons (Is.grows _) (grows_cons (Is.grows _) (grows_cons (Is.grows _) (grows_cons (Is.grows _) (grows_cons (Is.grows _) (grows_cons (Is.grows _) (grows_cons (Is.grows _) (grows_cons (Is.grows _) (grows_cons (Is.grows _) (grows_cons (Is.grows _) (grows_cons (Is.grows _) (grows_cons (Is.grows _) (grows_cons (Is.grows _) (grows_cons (Is.grows _) (grows_cons (Is.grows _) (grows_cons (Is.grows _) (grows_cons (Is.grows _) (grows_cons (Is.grows _) (grows_cons (Is.grows _) (grows_cons (Is.grows _) (grows_cons (Is.grows _) (grows_cons (Is.grows _) (grows_cons (Is.grows _) (grows_cons (Is.grows _) (grows_cons (Is.grows _) (grows_cons (Is.grows _) (grows_cons (Is.grows _) (grows_cons (Is.grows _) (grows_cons (Is.grows _) grows_nil)))))))))))))))))))))))))))))))))))))))))))))))))))))))))))))))))))))))))))
    ⟨step_ldV rfl (.inl rfl) (fun _ hw => (hx.next hw).range) rfl Try.underlying25 rfl (szV inf25 (il Ha.out)) rfl (knows_out 7 (by kernel_rfl) rfl),
     step_ldV rfl (.inl rfl) (fun _ hw => (hy.next hw).range) rfl Try.underlying25 rfl (szV inf25 (il Hb.out)) rfl (knows_out 8 (by kernel_rfl) rfl),
     step_to rfl (.inl rfl) rfl cx11 k11_a_b.out rfl (two_args (knows_in 0 15 (by decide) (by kernel_rfl) rfl rfl) (knows_in 1 16 (by decide) (by kernel_rfl) rfl rfl)),
     step_ldV rfl (.inl rfl) (fun _ hw => (hy.next hw).range) rfl Try.underlying25 rfl (szV inf25 (il Hb.out)) rfl (knows_out 8 (by kernel_rfl) rfl),
     step_ldV rfl (.inl rfl) (fun _ hw => (hx.next hw).range) rfl Try.underlying25 rfl (szV inf25 (il Ha.out)) rfl (knows_out 7 (by kernel_rfl) rfl),
     step_to rfl (.inl rfl) rfl cx11 k11_b_a.out rfl (two_args (knows_in 3 18 (by decide) (by kernel_rfl) rfl rfl) (knows_in 4 19 (by decide) (by kernel_rfl) rfl rfl)),
     step_eqA rfl (.inl rfl) rfl eqt25 Hsxy.out Hsxy.out (decide_eq_true rfl) rfl (knows_in 2 17 (by decide) (by kernel_rfl) rfl rfl) (knows_in 5 20 (by decide) (by kernel_rfl) rfl rfl),
     step_mvP rfl (.inl rfl) rfl rfl (knows_in 6 21 (by decide) (by kernel_rfl) rfl rfl),
     step_ldV rfl (.inr ⟨7, true, 22, rfl, by decide, by kernel_rfl, rfl, fun _ _ h => h⟩) (fun _ hw => (hx.next hw).range) rfl Try.underlying25 rfl (szV inf25 (il Ha.out)) rfl (knows_out 7 (by kernel_rfl) rfl),
     step_ldV rfl (.inr ⟨7, true, 22, rfl, by decide, by kernel_rfl, rfl, fun _ _ h => h⟩) (fun _ hw => (hy.next hw).range) rfl Try.underlying25 rfl (szV inf25 (il Hb.out)) rfl (knows_out 8 (by kernel_rfl) rfl),
     step_to rfl (.inr ⟨7, true, 22, rfl, by decide, by kernel_rfl, rfl, fun _ _ h => h⟩) rfl cx13 k13_a_b.out rfl (two_args (knows_in 8 23 (by decide) (by kernel_rfl) rfl rfl) (knows_in 9 24 (by decide) (by kernel_rfl) rfl rfl)),
     step_ldV rfl (.inr ⟨7, true, 22, rfl, by decide, by kernel_rfl, rfl, fun _ _ h => h⟩) (fun _ hw => (hy.next hw).range) rfl Try.underlying25 rfl (szV inf25 (il Hb.out)) rfl (knows_out 8 (by kernel_rfl) rfl),
     step_ldV rfl (.inr ⟨7, true, 22, rfl, by decide, by kernel_rfl, rfl, fun _ _ h => h⟩) (fun _ hw => (hx.next hw).range) rfl Try.underlying25 rfl (szV inf25 (il Ha.out)) rfl (knows_out 7 (by kernel_rfl) rfl),
     step_to rfl (.inr ⟨7, true, 22, rfl, by decide, by kernel_rfl, rfl, fun _ _ h => h⟩) rfl cx13 k13_b_a.out rfl (two_args (knows_in 11 26 (by decide) (by kernel_rfl) rfl rfl) (knows_in 12 27 (by decide) (by kernel_rfl) rfl rfl)),
     step_eqA rfl (.inr ⟨7, true, 22, rfl, by decide, by kernel_rfl, rfl, fun _ _ h => h⟩) rfl eqt25 Hpxy.out Hpxy.out (decide_eq_true rfl) rfl (knows_in 10 25 (by decide) (by kernel_rfl) rfl rfl) (knows_in 13 28 (by decide) (by kernel_rfl) rfl rfl),
     step_pick rfl (.inl rfl) (b := true) rfl rfl (knows_in 7 22 (by decide) (by kernel_rfl) rfl rfl) (knows_in 14 29 (by decide) (by kernel_rfl) rfl rfl),
     step_mvP rfl (.inl rfl) rfl rfl (knows_in 15 30 (by decide) (by kernel_rfl) rfl rfl),
     step_ldV rfl (.inr ⟨16, true, 31, rfl, by decide, by kernel_rfl, rfl, fun _ _ h => h⟩) (fun _ hw => (hx.next hw).range) rfl Try.underlying25 rfl (szV inf25 (il Ha.out)) rfl (knows_out 7 (by kernel_rfl) rfl),
     step_ldV rfl (.inr ⟨16, true, 31, rfl, by decide, by kernel_rfl, rfl, fun _ _ h => h⟩) (fun _ hw => (hy.next hw).range) rfl Try.underlying25 rfl (szV inf25 (il Hb.out)) rfl (knows_out 8 (by kernel_rfl) rfl),
     step_to rfl (.inr ⟨16, true, 31, rfl, by decide, by kernel_rfl, rfl, fun _ _ h => h⟩) rfl cx13 k13_a_b.out rfl (two_args (knows_in 17 32 (by decide) (by kernel_rfl) rfl rfl) (knows_in 18 33 (by decide) (by kernel_rfl) rfl rfl)),
     step_ldV rfl (.inr ⟨16, true, 31, rfl, by decide, by kernel_rfl, rfl, fun _ _ h => h⟩) (fun _ hw => (hz.next hw).range) rfl Try.underlying25 rfl (szV inf25 (il Hc.out)) rfl (knows_out 9 (by kernel_rfl) rfl),
     step_to rfl (.inr ⟨16, true, 31, rfl, by decide, by kernel_rfl, rfl, fun _ _ h => h⟩) rfl cx13 k13_pxy_c.out rfl (two_args (knows_in 19 34 (by decide) (by kernel_rfl) rfl rfl) (knows_in 20 35 (by decide) (by kernel_rfl) rfl rfl)),
     step_ldV rfl (.inr ⟨16, true, 31, rfl, by decide, by kernel_rfl, rfl, fun _ _ h => h⟩) (fun _ hw => (hx.next hw).range) rfl Try.underlying25 rfl (szV inf25 (il Ha.out)) rfl (knows_out 7 (by kernel_rfl) rfl),
     step_ldV rfl (.inr ⟨16, true, 31, rfl, by decide, by kernel_rfl, rfl, fun _ _ h => h⟩) (fun _ hw => (hy.next hw).range) rfl Try.underlying25 rfl (szV inf25 (il Hb.out)) rfl (knows_out 8 (by kernel_rfl) rfl),
     step_ldV rfl (.inr ⟨16, true, 31, rfl, by decide, by kernel_rfl, rfl, fun _ _ h => h⟩) (fun _ hw => (hz.next hw).range) rfl Try.underlying25 rfl (szV inf25 (il Hc.out)) rfl (knows_out 9 (by kernel_rfl) rfl),
     step_to rfl (.inr ⟨16, true, 31, rfl, by decide, by kernel_rfl, rfl, fun _ _ h => h⟩) rfl cx13 k13_b_c.out rfl (two_args (knows_in 23 38 (by decide) (by kernel_rfl) rfl rfl) (knows_in 24 39 (by decide) (by kernel_rfl) rfl rfl)),
     step_to rfl (.inr ⟨16, true, 31, rfl, by decide, by kernel_rfl, rfl, fun _ _ h => h⟩) rfl cx13 k13_a_pyz.out rfl (two_args (knows_in 22 37 (by decide) (by kernel_rfl) rfl rfl) (knows_in 25 40 (by decide) (by kernel_rfl) rfl rfl)),
     step_eqA rfl (.inr ⟨16, true, 31, rfl, by decide, by kernel_rfl, rfl, fun _ _ h => h⟩) rfl eqt25 Hpxyz.out Hpxyz.out (decide_eq_true rfl) rfl (knows_in 21 36 (by decide) (by kernel_rfl) rfl rfl) (knows_in 26 41 (by decide) (by kernel_rfl) rfl rfl),
     step_pick rfl (.inl rfl) (b := true) rfl rfl (knows_in 16 31 (by decide) (by kernel_rfl) rfl rfl) (knows_in 27 42 (by decide) (by kernel_rfl) rfl rfl),
     step_mvP rfl (.inl rfl) rfl rfl (knows_in 28 43 (by decide) (by kernel_rfl) rfl rfl),
     step_ldV rfl (.inr ⟨29, true, 44, rfl, by decide, by kernel_rfl, rfl, fun _ _ h => h⟩) (fun _ hw => (hx.next hw).range) rfl Try.underlying25 rfl (szV inf25 (il Ha.out)) rfl (knows_out 7 (by kernel_rfl) rfl),
     step_ldV rfl (.inr ⟨29, true, 44, rfl, by decide, by kernel_rfl, rfl, fun _ _ h => h⟩) (fun _ hw => (hy.next hw).range) rfl Try.underlying25 rfl (szV inf25 (il Hb.out)) rfl (knows_out 8 (by kernel_rfl) rfl),
     step_to rfl (.inr ⟨29, true, 44, rfl, by decide, by kernel_rfl, rfl, fun _ _ h => h⟩) rfl cx11 k11_a_b.out rfl (two_args (knows_in 30 45 (by decide) (by kernel_rfl) rfl rfl) (knows_in 31 46 (by decide) (by kernel_rfl) rfl rfl)),
     step_ldV rfl (.inr ⟨29, true, 44, rfl, by decide, by kernel_rfl, rfl, fun _ _ h => h⟩) (fun _ hw => (hz.next hw).range) rfl Try.underlying25 rfl (szV inf25 (il Hc.out)) rfl (knows_out 9 (by kernel_rfl) rfl),
     step_to rfl (.inr ⟨29, true, 44, rfl, by decide, by kernel_rfl, rfl, fun _ _ h => h⟩) rfl cx11 k11_sxy_c.out rfl (two_args (knows_in 32 47 (by decide) (by kernel_rfl) rfl rfl) (knows_in 33 48 (by decide) (by kernel_rfl) rfl rfl)),
     step_ldV rfl (.inr ⟨29, true, 44, rfl, by decide, by kernel_rfl, rfl, fun _ _ h => h⟩) (fun _ hw => (hx.next hw).range) rfl Try.underlying25 rfl (szV inf25 (il Ha.out)) rfl (knows_out 7 (by kernel_rfl) rfl),
     step_ldV rfl (.inr ⟨29, true, 44, rfl, by decide, by kernel_rfl, rfl, fun _ _ h => h⟩) (fun _ hw => (hy.next hw).range) rfl Try.underlying25 rfl (szV inf25 (il Hb.out)) rfl (knows_out 8 (by kernel_rfl) rfl),
     step_ldV rfl (.inr ⟨29, true, 44, rfl, by decide, by kernel_rfl, rfl, fun _ _ h => h⟩) (fun _ hw => (hz.next hw).range) rfl Try.underlying25 rfl (szV inf25 (il Hc.out)) rfl (knows_out 9 (by kernel_rfl) rfl),
     step_to rfl (.inr ⟨29, true, 44, rfl, by decide, by kernel_rfl, rfl, fun _ _ h => h⟩) rfl cx11 k11_b_c.out rfl (two_args (knows_in 36 51 (by decide) (by kernel_rfl) rfl rfl) (knows_in 37 52 (by decide) (by kernel_rfl) rfl rfl)),
     step_to rfl (.inr ⟨29, true, 44, rfl, by decide, by kernel_rfl, rfl, fun _ _ h => h⟩) rfl cx11 k11_a_syz.out rfl (two_args (knows_in 35 50 (by decide) (by kernel_rfl) rfl rfl) (knows_in 38 53 (by decide) (by kernel_rfl) rfl rfl)),
     step_eqA rfl (.inr ⟨29, true, 44, rfl, by decide, by kernel_rfl, rfl, fun _ _ h => h⟩) rfl eqt25 Hsxyz.out Hsxyz.out (decide_eq_true rfl) rfl (knows_in 34 49 (by decide) (by kernel_rfl) rfl rfl) (knows_in 39 54 (by decide) (by kernel_rfl) rfl rfl),
     step_pick rfl (.inl rfl) (b := true) rfl rfl (knows_in 29 44 (by decide) (by kernel_rfl) rfl rfl) (knows_in 40 55 (by decide) (by kernel_rfl) rfl rfl),
     step_mvP rfl (.inl rfl) rfl rfl (knows_in 41 56 (by decide) (by kernel_rfl) rfl rfl),
     step_ldV rfl (.inr ⟨42, true, 57, rfl, by decide, by kernel_rfl, rfl, fun _ _ h => h⟩) (fun _ hw => (hx.next hw).range) rfl Try.underlying25 rfl (szV inf25 (il Ha.out)) rfl (knows_out 7 (by kernel_rfl) rfl),
     step_ldV rfl (.inr ⟨42, true, 57, rfl, by decide, by kernel_rfl, rfl, fun _ _ h => h⟩) (fun _ hw => (hy.next hw).range) rfl Try.underlying25 rfl (szV inf25 (il Hb.out)) rfl (knows_out 8 (by kernel_rfl) rfl),
     step_ldV rfl (.inr ⟨42, true, 57, rfl, by decide, by kernel_rfl, rfl, fun _ _ h => h⟩) (fun _ hw => (hz.next hw).range) rfl Try.underlying25 rfl (szV inf25 (il Hc.out)) rfl (knows_out 9 (by kernel_rfl) rfl),
     step_to rfl (.inr ⟨42, true, 57, rfl, by decide, by kernel_rfl, rfl, fun _ _ h => h⟩) rfl cx11 k11_b_c.out rfl (two_args (knows_in 44 59 (by decide) (by kernel_rfl) rfl rfl) (knows_in 45 60 (by decide) (by kernel_rfl) rfl rfl)),
     step_to rfl (.inr ⟨42, true, 57, rfl, by decide, by kernel_rfl, rfl, fun _ _ h => h⟩) rfl cx13 k13_a_syz.out rfl (two_args (knows_in 43 58 (by decide) (by kernel_rfl) rfl rfl) (knows_in 46 61 (by decide) (by kernel_rfl) rfl rfl)),
     step_ldV rfl (.inr ⟨42, true, 57, rfl, by decide, by kernel_rfl, rfl, fun _ _ h => h⟩) (fun _ hw => (hx.next hw).range) rfl Try.underlying25 rfl (szV inf25 (il Ha.out)) rfl (knows_out 7 (by kernel_rfl) rfl),
     step_ldV rfl (.inr ⟨42, true, 57, rfl, by decide, by kernel_rfl, rfl, fun _ _ h => h⟩) (fun _ hw => (hy.next hw).range) rfl Try.underlying25 rfl (szV inf25 (il Hb.out)) rfl (knows_out 8 (by kernel_rfl) rfl),
     step_to rfl (.inr ⟨42, true, 57, rfl, by decide, by kernel_rfl, rfl, fun _ _ h => h⟩) rfl cx13 k13_a_b.out rfl (two_args (knows_in 48 63 (by decide) (by kernel_rfl) rfl rfl) (knows_in 49 64 (by decide) (by kernel_rfl) rfl rfl)),
     step_ldV rfl (.inr ⟨42, true, 57, rfl, by decide, by kernel_rfl, rfl, fun _ _ h => h⟩) (fun _ hw => (hx.next hw).range) rfl Try.underlying25 rfl (szV inf25 (il Ha.out)) rfl (knows_out 7 (by kernel_rfl) rfl),
     step_ldV rfl (.inr ⟨42, true, 57, rfl, by decide, by kernel_rfl, rfl, fun _ _ h => h⟩) (fun _ hw => (hz.next hw).range) rfl Try.underlying25 rfl (szV inf25 (il Hc.out)) rfl (knows_out 9 (by kernel_rfl) rfl),
     step_to rfl (.inr ⟨42, true, 57, rfl, by decide, by kernel_rfl, rfl, fun _ _ h => h⟩) rfl cx13 k13_a_c.out rfl (two_args (knows_in 51 66 (by decide) (by kernel_rfl) rfl rfl) (knows_in 52 67 (by decide) (by kernel_rfl) rfl rfl)),
     step_to rfl (.inr ⟨42, true, 57, rfl, by decide, by kernel_rfl, rfl, fun _ _ h => h⟩) rfl cx11 k11_pxy_pxz.out rfl (two_args (knows_in 50 65 (by decide) (by kernel_rfl) rfl rfl) (knows_in 53 68 (by decide) (by kernel_rfl) rfl rfl)),
     step_eqA rfl (.inr ⟨42, true, 57, rfl, by decide, by kernel_rfl, rfl, fun _ _ h => h⟩) rfl eqt25 Hq.out Hq.out (decide_eq_true rfl) rfl (knows_in 47 62 (by decide) (by kernel_rfl) rfl rfl) (knows_in 54 69 (by decide) (by kernel_rfl) rfl rfl),
     step_pick rfl (.inl rfl) (b := true) rfl rfl (knows_in 42 57 (by decide) (by kernel_rfl) rfl rfl) (knows_in 55 70 (by decide) (by kernel_rfl) rfl rfl),
     step_mvP rfl (.inl rfl) rfl rfl (knows_in 56 71 (by decide) (by kernel_rfl) rfl rfl),
     step_ldV rfl (.inr ⟨57, true, 72, rfl, by decide, by kernel_rfl, rfl, fun _ _ h => h⟩) (fun _ hw => (hx.next hw).range) rfl Try.underlying25 rfl (szV inf25 (il Ha.out)) rfl (knows_out 7 (by kernel_rfl) rfl),
     step_buildP rfl (.inr ⟨57, true, 72, rfl, by decide, by kernel_rfl, rfl, fun _ _ h => h⟩) rfl built25_1 rfl (parts1 (knows_const _)),
     step_to rfl (.inr ⟨57, true, 72, rfl, by decide, by kernel_rfl, rfl, fun _ _ h => h⟩) rfl cx13 k13_a_one.out rfl (two_args (knows_in 58 73 (by decide) (by kernel_rfl) rfl rfl) (knows_in 59 74 (by decide) (by kernel_rfl) rfl rfl)),
     step_to rfl (.inr ⟨57, true, 72, rfl, by decide, by kernel_rfl, rfl, fun _ _ h => h⟩) rfl cx9 k9_rx.out rfl (one_arg (knows_in 60 75 (by decide) (by kernel_rfl) rfl rfl)),
     step_ldV rfl (.inr ⟨57, true, 72, rfl, by decide, by kernel_rfl, rfl, fun _ _ h => h⟩) (fun _ hw => (hx.next hw).range) rfl Try.underlying25 rfl (szV inf25 (il Ha.out)) rfl (knows_out 7 (by kernel_rfl) rfl),
     step_to rfl (.inr ⟨57, true, 72, rfl, by decide, by kernel_rfl, rfl, fun _ _ h => h⟩) rfl cx9 k9_a.out rfl (one_arg (knows_in 62 77 (by decide) (by kernel_rfl) rfl rfl)),
     step_eqA rfl (.inr ⟨57, true, 72, rfl, by decide, by kernel_rfl, rfl, fun _ _ h => h⟩) rfl eqt22 Hrx.out Hrx.out (decide_eq_true rfl) rfl (knows_in 61 76 (by decide) (by kernel_rfl) rfl rfl) (knows_in 63 78 (by decide) (by kernel_rfl) rfl rfl),
     step_pick rfl (.inl rfl) (b := true) rfl rfl (knows_in 57 72 (by decide) (by kernel_rfl) rfl rfl) (knows_in 64 79 (by decide) (by kernel_rfl) rfl rfl),
     step_mvP rfl (.inl rfl) rfl rfl (knows_in 65 80 (by decide) (by kernel_rfl) rfl rfl),
     step_ldV rfl (.inr ⟨66, true, 81, rfl, by decide, by kernel_rfl, rfl, fun _ _ h => h⟩) (fun _ hw => (hx.next hw).range) rfl Try.underlying25 rfl (szV inf25 (il Ha.out)) rfl (knows_out 7 (by kernel_rfl) rfl),
     step_buildP rfl (.inr ⟨66, true, 81, rfl, by decide, by kernel_rfl, rfl, fun _ _ h => h⟩) rfl built25 rfl (partsN),
     step_to rfl (.inr ⟨66, true, 81, rfl, by decide, by kernel_rfl, rfl, fun _ _ h => h⟩) rfl cx11 k11_a_zr.out rfl (two_args (knows_in 67 82 (by decide) (by kernel_rfl) rfl rfl) (knows_in 68 83 (by decide) (by kernel_rfl) rfl rfl)),
     step_to rfl (.inr ⟨66, true, 81, rfl, by decide, by kernel_rfl, rfl, fun _ _ h => h⟩) rfl cx9 k9_rx.out rfl (one_arg (knows_in 69 84 (by decide) (by kernel_rfl) rfl rfl)),
     step_ldV rfl (.inr ⟨66, true, 81, rfl, by decide, by kernel_rfl, rfl, fun _ _ h => h⟩) (fun _ hw => (hx.next hw).range) rfl Try.underlying25 rfl (szV inf25 (il Ha.out)) rfl (knows_out 7 (by kernel_rfl) rfl),
     step_to rfl (.inr ⟨66, true, 81, rfl, by decide, by kernel_rfl, rfl, fun _ _ h => h⟩) rfl cx9 k9_a.out rfl (one_arg (knows_in 71 86 (by decide) (by kernel_rfl) rfl rfl)),
     step_eqA rfl (.inr ⟨66, true, 81, rfl, by decide, by kernel_rfl, rfl, fun _ _ h => h⟩) rfl eqt22 Hrx.out Hrx.out (decide_eq_true rfl) rfl (knows_in 70 85 (by decide) (by kernel_rfl) rfl rfl) (knows_in 72 87 (by decide) (by kernel_rfl) rfl rfl),
     step_pick rfl (.inl rfl) (b := true) rfl rfl (knows_in 66 81 (by decide) (by kernel_rfl) rfl rfl) (knows_in 73 88 (by decide) (by kernel_rfl) rfl rfl), trivial⟩ ?_
  intro val w4 hw hS hap hla
  have e15 : val 15 = (.agg (ints .u8 a).toArray) := hS 0 15 (by decide) rfl
  have e16 : val 16 = (.agg (ints .u8 b).toArray) := hS 1 16 (by decide) rfl
  have e17 : val 17 = (.agg (ints .u8 sxy).toArray) := hS 2 17 (by decide) rfl
  have e18 : val 18 = (.agg (ints .u8 b).toArray) := hS 3 18 (by decide) rfl
  have e19 : val 19 = (.agg (ints .u8 a).toArray) := hS 4 19 (by decide) rfl
  have e20 : val 20 = (.agg (ints .u8 sxy).toArray) := hS 5 20 (by decide) rfl
  have e21 : val 21 = (.bool true) := hS 6 21 (by decide) rfl
  have e22 : val 22 = (.bool true) := hS 7 22 (by decide) rfl
  have e23 : val 23 = (.agg (ints .u8 a).toArray) := hS 8 23 (by decide) rfl
  have e24 : val 24 = (.agg (ints .u8 b).toArray) := hS 9 24 (by decide) rfl
  have e25 : val 25 = (.agg (ints .u8 pxy).toArray) := hS 10 25 (by decide) rfl
  have e26 : val 26 = (.agg (ints .u8 b).toArray) := hS 11 26 (by decide) rfl
  have e27 : val 27 = (.agg (ints .u8 a).toArray) := hS 12 27 (by decide) rfl
  have e28 : val 28 = (.agg (ints .u8 pxy).toArray) := hS 13 28 (by decide) rfl
  have e29 : val 29 = (.bool true) := hS 14 29 (by decide) rfl
  have e30 : val 30 = (.bool true) := hS 15 30 (by decide) rfl
  have e31 : val 31 = (.bool true) := hS 16 31 (by decide) rfl
  have e32 : val 32 = (.agg (ints .u8 a).toArray) := hS 17 32 (by decide) rfl
  have e33 : val 33 = (.agg (ints .u8 b).toArray) := hS 18 33 (by decide) rfl
  have e34 : val 34 = (.agg (ints .u8 pxy).toArray) := hS 19 34 (by decide) rfl
  have e35 : val 35 = (.agg (ints .u8 c).toArray) := hS 20 35 (by decide) rfl
  have e36 : val 36 = (.agg (ints .u8 pxyz).toArray) := hS 21 36 (by decide) rfl
  have e37 : val 37 = (.agg (ints .u8 a).toArray) := hS 22 37 (by decide) rfl
  have e38 : val 38 = (.agg (ints .u8 b).toArray) := hS 23 38 (by decide) rfl
  have e39 : val 39 = (.agg (ints .u8 c).toArray) := hS 24 39 (by decide) rfl
  have e40 : val 40 = (.agg (ints .u8 pyz).toArray) := hS 25 40 (by decide) rfl
  have e41 : val 41 = (.agg (ints .u8 pxyz).toArray) := hS 26 41 (by decide) rfl
  have e42 : val 42 = (.bool true) := hS 27 42 (by decide) rfl
  have e43 : val 43 = (.bool true) := hS 28 43 (by decide) rfl
  have e44 : val 44 = (.bool true) := hS 29 44 (by decide) rfl
  have e45 : val 45 = (.agg (ints .u8 a).toArray) := hS 30 45 (by decide) rfl
  have e46 : val 46 = (.agg (ints .u8 b).toArray) := hS 31 46 (by decide) rfl
  have e47 : val 47 = (.agg (ints .u8 sxy).toArray) := hS 32 47 (by decide) rfl
  have e48 : val 48 = (.agg (ints .u8 c).toArray) := hS 33 48 (by decide) rfl
  have e49 : val 49 = (.agg (ints .u8 sxyz).toArray) := hS 34 49 (by decide) rfl
  have e50 : val 50 = (.agg (ints .u8 a).toArray) := hS 35 50 (by decide) rfl
  have e51 : val 51 = (.agg (ints .u8 b).toArray) := hS 36 51 (by decide) rfl
  have e52 : val 52 = (.agg (ints .u8 c).toArray) := hS 37 52 (by decide) rfl
  have e53 : val 53 = (.agg (ints .u8 syz).toArray) := hS 38 53 (by decide) rfl
  have e54 : val 54 = (.agg (ints .u8 sxyz).toArray) := hS 39 54 (by decide) rfl
  have e55 : val 55 = (.bool true) := hS 40 55 (by decide) rfl
  have e56 : val 56 = (.bool true) := hS 41 56 (by decide) rfl
  have e57 : val 57 = (.bool true) := hS 42 57 (by decide) rfl
  have e58 : val 58 = (.agg (ints .u8 a).toArray) := hS 43 58 (by decide) rfl
  have e59 : val 59 = (.agg (ints .u8 b).toArray) := hS 44 59 (by decide) rfl
  have e60 : val 60 = (.agg (ints .u8 c).toArray) := hS 45 60 (by decide) rfl
  have e61 : val 61 = (.agg (ints .u8 syz).toArray) := hS 46 61 (by decide) rfl
  have e62 : val 62 = (.agg (ints .u8 q).toArray) := hS 47 62 (by decide) rfl
  have e63 : val 63 = (.agg (ints .u8 a).toArray) := hS 48 63 (by decide) rfl
  have e64 : val 64 = (.agg (ints .u8 b).toArray) := hS 49 64 (by decide) rfl
  have e65 : val 65 = (.agg (ints .u8 pxy).toArray) := hS 50 65 (by decide) rfl
  have e66 : val 66 = (.agg (ints .u8 a).toArray) := hS 51 66 (by decide) rfl
  have e67 : val 67 = (.agg (ints .u8 c).toArray) := hS 52 67 (by decide) rfl
  have e68 : val 68 = (.agg (ints .u8 pxz).toArray) := hS 53 68 (by decide) rfl
  have e69 : val 69 = (.agg (ints .u8 q).toArray) := hS 54 69 (by decide) rfl
  have e70 : val 70 = (.bool true) := hS 55 70 (by decide) rfl
  have e71 : val 71 = (.bool true) := hS 56 71 (by decide) rfl
  have e72 : val 72 = (.bool true) := hS 57 72 (by decide) rfl
  have e73 : val 73 = (.agg (ints .u8 a).toArray) := hS 58 73 (by decide) rfl
  have e74 : val 74 = (.agg (ints .u8 (1 :: zeros 16)).toArray) := hS 59 74 (by decide) rfl
  have e75 : val 75 = (.agg (ints .u8 rx).toArray) := hS 60 75 (by decide) rfl
  have e76 : val 76 = (.agg (ints .u8 rx).toArray) := hS 61 76 (by decide) rfl
  have e77 : val 77 = (.agg (ints .u8 a).toArray) := hS 62 77 (by decide) rfl
  have e78 : val 78 = (.agg (ints .u8 rx).toArray) := hS 63 78 (by decide) rfl
  have e79 : val 79 = (.bool true) := hS 64 79 (by decide) rfl
  have e80 : val 80 = (.bool true) := hS 65 80 (by decide) rfl
  have e81 : val 81 = (.bool true) := hS 66 81 (by decide) rfl
  have e82 : val 82 = (.agg (ints .u8 a).toArray) := hS 67 82 (by decide) rfl
  have e83 : val 83 = (.agg (ints .u8 (zeros 17)).toArray) := hS 68 83 (by decide) rfl
  have e84 : val 84 = (.agg (ints .u8 rx).toArray) := hS 69 84 (by decide) rfl
  have e85 : val 85 = (.agg (ints .u8 rx).toArray) := hS 70 85 (by decide) rfl
  have e86 : val 86 = (.agg (ints .u8 a).toArray) := hS 71 86 (by decide) rfl
  have e87 : val 87 = (.agg (ints .u8 rx).toArray) := hS 72 87 (by decide) rfl
  have e88 : val 88 = (.bool true) := hS 73 88 (by decide) rfl
  have e89 : val 89 = (.bool true) := hS 74 89 (by decide) rfl
  simp only [putVals, List.foldl_cons, List.foldl_nil, List.drop_succ_cons, List.drop_zero, Act.put, List.setIfInBounds_toArray, List.set_cons_succ, List.set_cons_zero, e15, e16, e17, e18, e19, e20, e21, e22, e23, e24, e25, e26, e27, e28, e29, e30, e31, e32, e33, e34, e35, e36, e37, e38, e39, e40, e41, e42, e43, e44, e45, e46, e47, e48, e49, e50, e51, e52, e53, e54, e55, e56, e57, e58, e59, e60, e61, e62, e63, e64, e65, e66, e67, e68, e69, e70, e71, e72, e73, e74, e75, e76, e77, e78, e79, e80, e81, e82, e83, e84, e85, e86, e87, e88, e89]
  clear hS hap hla e15 e16 e17 e18 e19 e20 e21 e22 e23 e24 e25 e26 e27 e28 e29 e30 e31 e32 e33 e34 e35 e36 e37 e38 e39 e40 e41 e42 e43 e44 e45 e46 e47 e48 e49 e50 e51 e52 e53 e54 e55 e56 e57 e58 e59 e60 e61 e62 e63 e64 e65 e66 e67 e68 e69 e70 e71 e72 e73 e74 e75 e76 e77 e78 e79 e80 e81 e82 e83 e84 e85 e86 e87 e88 e89 
  replace h1 := h1.next hw
  replace h2 := h2.next hw
  replace h3 := h3.next hw
  replace hx := hx.next hw
  replace hy := hy.next hw
  replace hz := hz.next hw
  replace hW := hW.trans (Below.mono hw hW.size)
  clear hw
  go_wp2
  go_ret
  exact ⟨rfl, hW⟩
theorem c_addN {x y r : List Int} {m : Nat} (hx : x.length = 17) (hy : y.length = 17) (bx : Byt x) (b_y : Byt y) (hr : pb m = r) (hm : (bn x + bn y) % PN = m) : CallsTo 11 #[.agg (ints .u8 x).toArray, .agg (ints .u8 y).toArray] (.agg (ints .u8 r).toArray) := by
  subst hr hm
  exact c_add hx hy bx b_y
theorem c_mulN {x y r : List Int} {m : Nat} (hx : x.length = 17) (hy : y.length = 17) (bx : Byt x) (b_y : Byt y) (hr : pb m = r) (hm : bn x * bn y % PN = m) : CallsTo 13 #[.agg (ints .u8 x).toArray, .agg (ints .u8 y).toArray] (.agg (ints .u8 r).toArray) := by
  subst hr hm
  exact c_mul hx hy bx b_y
theorem c_bytesN {x r : List Int} {m : Nat} (hx : x.length = 17) (bx : Byt x) (hr : pb m = r) (hm : bn x % PN = m) : CallsTo 9 #[.agg (ints .u8 x).toArray] (.agg (ints .u8 r).toArray) := by
  subst hr hm
  exact c_bytes hx bx
theorem laws_any {a b c : List Int} (w : World) (ha : a.length = 17) (hb : b.length = 17) (hc : c.length = 17) (ya : Byt a) (yb : Byt b) (yc : Byt c) :
    Calls Try.prog 5 #[.agg (ints .u8 a).toArray, .agg (ints .u8 b).toArray, .agg (ints .u8 c).toArray] w fun e w' => e = .returned (.bool true) ∧ Below w.heap.size w w' := by
  have l := pb_length
  have y := pb_byt
  have e1 : bn (1 :: zeros 16) = 1 := bn_one 1 16
  have e0 : bn (zeros 17) = 0 := by unfold bn; rw [bv_zeros]; rfl
  refine laws_core (sxy := pb ((bn a + bn b) % PN)) (pxy := pb (bn a * bn b % PN)) (pxyz := pb (bn a * bn b * bn c % PN)) (pyz := pb (bn b * bn c % PN)) (sxyz := pb ((bn a + bn b + bn c) % PN)) (syz := pb ((bn b + bn c) % PN)) (q := pb (bn a * (bn b + bn c) % PN)) (pxz := pb (bn a * bn c % PN)) (rx := pb (bn a % PN)) w (hid ha) (hid hb) (hid hc) (hid (l _)) (hid (l _)) (hid (l _)) (hid (l _)) (hid (l _)) (hid (l _)) (hid (l _)) (hid (l _)) (hid (l _))
    (hid (c_addN ha hb ya yb rfl rfl)) (hid (c_addN hb ha yb ya rfl (by rw [Nat.add_comm]))) (hid (c_mulN ha hb ya yb rfl rfl)) (hid (c_mulN hb ha yb ya rfl (by rw [Nat.mul_comm])))
    (hid (c_mulN (l _) hc (y _) yc rfl (by rw [pmod_bn, Nat.mod_mul_mod]))) (hid (c_mulN hb hc yb yc rfl rfl)) (hid (c_mulN ha (l _) ya (y _) rfl (by rw [pmod_bn, Nat.mul_mod_mod, Nat.mul_assoc])))
    (hid (c_addN (l _) hc (y _) yc rfl (by rw [pmod_bn, Nat.mod_add_mod]))) (hid (c_addN hb hc yb yc rfl rfl)) (hid (c_addN ha (l _) ya (y _) rfl (by rw [pmod_bn, Nat.add_mod_mod, Nat.add_assoc])))
    (hid (c_mulN ha (l _) ya (y _) rfl (by rw [pmod_bn, Nat.mul_mod_mod]))) (hid (c_mulN ha hc ya yc rfl rfl)) (hid (c_addN (l _) (l _) (y _) (y _) rfl (by rw [pmod_bn, pmod_bn, ← Nat.add_mod, Nat.mul_add])))
    (hid (c_mulN ha (one_len 1 16) ya (small_byt (x := 1) (by omega) 16) rfl (by rw [e1, Nat.mul_one]))) (hid (c_bytesN (l _) (y _) rfl (by rw [pmod_bn, Nat.mod_mod]))) (hid (c_bytesN ha ya rfl rfl)) (hid (c_addN ha (zeros_len 17) ya (byt_zeros 17) rfl (by rw [e0, Nat.add_zero])))
end Go.Proofs.Ythohfhloobmlpaa
