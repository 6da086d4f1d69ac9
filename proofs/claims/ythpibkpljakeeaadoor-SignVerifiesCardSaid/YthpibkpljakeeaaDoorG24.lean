/- Texts laid together. -/
import Derived.Test.YthpibkpljakeeaaDoorG7
import Derived.Test.YthpibkpljakeeaaDoorG21
import Derived.Test.YthpibkpljakeeaaDoorG14
import Derived.Test.YthpibkpljakeeaaDoorG22
namespace Go.Proofs.YthpibkpljakeeaaDoor
set_option maxHeartbeats 8000000
set_option maxRecDepth 8000
open Go Go.RowKit
theorem ex_yes {b : Nat} {w : World} (hc : w.cell? ⟨b, 0, none⟩ = some (.bool true)) : Calls Tryd.prog 78 #[.pointer (some ⟨b, 0, none⟩)] w fun e w' => e = .returned (.bool true) ∧ Below w.heap.size w w' := by
 go_enter Tryd.func78, Tryd.ntmps78
 go_wp2
 go_ret
 exact ⟨rfl, Below.refl _ _⟩
theorem mpub {num pre pub : List Int} (HN : Hid (num.length = 32)) (HNB : Hid (Byt num)) (HPR : Hid (pre.length = 32)) (HPB : Hid (Byt pre)) (HP : Hid (pub.length = 32)) (HPUB : Hid (Byt pub)) {b : Nat} (w : World) (hT : TabsA w) (hS0 : Rw w b 0 (sgv num pre pub)) :
   Calls Tryd.prog 54 #[.pointer (some ⟨b, 0, none⟩)] w fun e w' => e = .returned (.tuple #[.agg (ints .u8 pub).toArray, .int .i64 0]) ∧ Below w.heap.size w w' := by
 obtain ⟨z2_, s2_⟩ := zero_of_info inf32
 have h2 := Rw.new w (ints .u8 (zeros 32)) 22
 have hW := below_new w (.cells (ints .u8 (zeros 32)).toArray 22)
 replace hT := hT.next hW
 replace hS0 := hS0.next hW
 go_enter Tryd.func54, Tryd.ntmps54
 go_upto_region 1 with (fail)
 generalize w.alloc (.cells (ints .u8 (zeros 32)).toArray 22) = w0 at *
 have s0 := hW.size
 refine rSeq 3 12 (fun _ => false) [Is (.pointer (some ⟨b, 0, none⟩)), Is (.bool true), Is (.bool false)] [4, 5, 6] (gC (gC (gC grows_nil)))
   ⟨step_mvP rfl (.inl rfl) rfl rfl (kO 0 rfl),
    step_cw rfl (.inl rfl) rfl cx78 rfl (fun aa ww hw hf hd => ⟨_, (one_arg (kI 0 4 rfl rfl)) aa ww hw hf hd, ex_yes (hS0.next hw).sg0⟩),
    step_not rfl (.inl rfl) (b := true) rfl rfl (kI 1 5 rfl rfl), trivial⟩ ?_
 intro val w1 hw hS hap hla
 simp only [pA, pB, pC, pD, pE, Act.put, pG, pH, pI, eVal hS 0 4 rfl rfl, eVal hS 1 5 rfl rfl, eVal hS 2 6 rfl rfl]
 clear hS hap hla
 replace hT := hT.next hw
 replace hS0 := hS0.next hw
 replace h2 := h2.next hw
 replace hW := bT hW hw
 clear hw
 go_upto_region 3 with (fail)
 have s1 := hW.size
 refine rSeq 4 12 (fun _ => false) [Is (.pointer (some ⟨b, 0, none⟩)), Is (.pointer (some ⟨b, 0, none⟩)), Is (.pointer (some ⟨b, 65, none⟩)), Is (.agg (ints .u8 pub).toArray)] [8, 9, 10, 11] (gC (gC (gC (gC grows_nil))))
   ⟨step_mvP rfl (.inl rfl) rfl rfl (kO 0 rfl),
    step_one rfl (.inl rfl) (fun ev w h hc => ex_nilc rfl ev w h hc) rfl (kI 0 8 rfl rfl),
    step_one rfl (.inl rfl) (fun ev w h hc => ex_fld (P := Tryd.prog) rfl (fldS3 _) ev w h hc) rfl (kI 1 9 rfl rfl),
    step_ldV rfl (.inl rfl) (fun _ hw => (((hS0.next hw).sg3 HN.out HPR.out)).range) rfl Tryd.underlying22 rfl (szV inf32 (il HP.out)) rfl (kI 2 10 rfl rfl), trivial⟩ ?_
 intro val w2 hw hS hap hla
 simp only [pA, pB, pC, pD, pE, Act.put, pG, pH, pI, eVal hS 0 8 rfl rfl, eVal hS 1 9 rfl rfl, eVal hS 2 10 rfl rfl, eVal hS 3 11 rfl rfl]
 clear hS hap hla
 have LL2 := hid (show ((ints .u8 pub)).length = 32 from (il HP.out))
 have Y2 := h2.next hw
 have R2 := Y2.roomA (us := (ints .u8 pub)) (LL2.out.trans (il (zeros_len 32)).symm)
 have X2 := Y2.storedA (us := (ints .u8 pub)) (LL2.out.trans (il (zeros_len 32)).symm)
 replace hT := hT.next hw
 replace hS0 := hS0.next hw
 replace h2 := h2.next hw
 replace hW := bT hW hw
 with_reducible refine wpList_store_mid (op := ⟨none, .store 22 (.tmp 2) (.tmp 11), _, _, _, _⟩) rfl 22 (.tmp 2) (.tmp 11) rfl w.heap.size 0 (ints .u8 pub).toArray rfl rfl R2 (szA inf32 LL2.out) (ints_all _ _) ?_
 replace hW := Below.setCells hW (g := w.heap.size) (by omega) 0 (ints .u8 pub).toArray.toList
 generalize (w2.setCells w.heap.size 0 (ints .u8 pub).toArray.toList) = w3 at *
 clear hw R2 LL2 Y2
 go_wp2_with (fail)
 exact bodyPost_ret (results_row2 rfl _ _ w.heap.size 0 rfl (.int .i64 0) rfl (ints .u8 pub) _ X2.range Tryd.underlying22 rfl (szV inf32 (il HP.out))) rfl ⟨rfl, hW⟩
theorem msign {num pre pub tx rr bb m1 fi kk se : List Int} (HN : Hid (num.length = 32)) (HNB : Hid (Byt num)) (HPR : Hid (pre.length = 32)) (HPB : Hid (Byt pre)) (HP : Hid (pub.length = 32)) (HPUB : Hid (Byt pub)) (HR : Hid (rr.length = 32)) (HRB : Hid (Byt rr)) (HRE : Hid (scal (pre ++ tx) = rr)) (HBB : Hid (bb.length = 64)) (HM1 : Hid (m1.length = 64)) (HF : Hid (fi.length = 32)) (HFB : Hid (Byt fi)) (HK : Hid (kk.length = 32)) (HKB : Hid (Byt kk)) (HKE : Hid (scal (fi ++ (pub ++ tx)) = kk)) (HSE : Hid (se.length = 32)) (HSEB : Hid (Byt se)) (HFS : Hid ((fi ++ se).length = 64))
   (kb : CallsP 20 #[] (.agg (ints .i64 bb).toArray)) (km : CallsP 14 #[.agg (ints .i64 bb).toArray, .agg (ints .u8 rr).toArray] (.agg (ints .i64 m1).toArray)) (kby : CallsTo 15 #[.agg (ints .i64 m1).toArray] (.agg (ints .u8 fi).toArray))
   (kma : CallsQ 79 #[.agg (ints .u8 kk).toArray, .agg (ints .u8 num).toArray, .agg (ints .u8 rr).toArray] (.agg (ints .u8 se).toArray)) {b : Nat} {A : Option Addr} {m c : Nat} (HXL : Hid (tx.length = m)) (HXC : Hid (m ≤ c)) (HX3 : Hid (m ≤ 1000)) (HXB : Hid (Byt tx)) (w : World) (hT : TabsA w) (hS0 : Rw w b 0 (sgv num pre pub)) (hX : Nums w .u8 A tx) :
   Calls Tryd.prog 53 #[.pointer (some ⟨b, 0, none⟩), .slice A m c] w fun e w' => e = .returned (.tuple #[.agg (ints .u8 (fi ++ se)).toArray, .int .i64 0]) ∧ Below w.heap.size w w' := by
 obtain ⟨z4_, s4_⟩ := zero_of_info inf64
 have h4 := Rw.new w (ints .u8 (zeros 64)) 46
 have hW := below_new w (.cells (ints .u8 (zeros 64)).toArray 46)
 replace hT := hT.next hW
 replace hS0 := hS0.next hW
 replace hX := hX.below hW
 go_enter Tryd.func53, Tryd.ntmps53
 go_upto_region 1 with (fail)
 generalize w.alloc (.cells (ints .u8 (zeros 64)).toArray 46) = w0 at *
 have s0 := hW.size
 refine rSeq 3 45 (fun _ => false) [Is (.pointer (some ⟨b, 0, none⟩)), Is (.bool true), Is (.bool false)] [10, 11, 12] (gC (gC (gC grows_nil)))
   ⟨step_mvP rfl (.inl rfl) rfl rfl (kO 0 rfl),
    step_cw rfl (.inl rfl) rfl cx78 rfl (fun aa ww hw hf hd => ⟨_, (one_arg (kI 0 10 rfl rfl)) aa ww hw hf hd, ex_yes (hS0.next hw).sg0⟩),
    step_not rfl (.inl rfl) (b := true) rfl rfl (kI 1 11 rfl rfl), trivial⟩ ?_
 intro val w1 hw hS hap hla
 simp only [pA, pB, pC, pD, pE, Act.put, pG, pH, pI, eVal hS 0 10 rfl rfl, eVal hS 1 11 rfl rfl, eVal hS 2 12 rfl rfl]
 clear hS hap hla
 replace hT := hT.next hw
 replace hS0 := hS0.next hw
 replace hX := hX.below hw
 replace h4 := h4.next hw
 replace hW := bT hW hw
 clear hw
 go_upto_region 3 with (fail)
 have s1 := hW.size
 refine rSeq 8 45 (fun i => i == 5 || i == 7) [Is (.pointer (some ⟨b, 0, none⟩)), Is (.pointer (some ⟨b, 0, none⟩)), Is (.pointer (some ⟨b, 33, none⟩)), Is (.slice (some ⟨b, 33, none⟩) 32 32), Is (.slice A m c), IsRowV w1.heap.size 2 [(.slice (some ⟨b, 33, none⟩) 32 32), (.slice A m c)], Is (.agg (ints .u8 rr).toArray), IsZV w1.heap.size (ints .u8 (zeros 32))] [14, 15, 16, 17, 18, 19, 20, 6] (gC (gC (gC (gC (gC (grows_cons (IsRowV.grows _ _ _) (gC (grows_cons (IsZV.grows _ _) grows_nil))))))))
   ⟨step_mvP rfl (.inl rfl) rfl rfl (kO 0 rfl),
    step_one rfl (.inl rfl) (fun ev w h hc => ex_nilc rfl ev w h hc) rfl (kI 0 14 rfl rfl),
    step_one rfl (.inl rfl) (fun ev w h hc => ex_fld (P := Tryd.prog) rfl (fldS2 _) ev w h hc) rfl (kI 1 15 rfl rfl),
    step_one rfl (.inl rfl) (fun ev w h hc => ex_slA (P := Tryd.prog) u32 z32 (m := 32) rfl rfl ev w h hc) rfl (kI 2 16 rfl rfl),
    step_mvP rfl (.inl rfl) rfl rfl (kO 1 rfl),
    step_bsl (.inl rfl) rfl Tryd.underlying78 infSl (by decide) (by decide) (vs := [(.slice (some ⟨b, 33, none⟩) 32 32), (.slice A m c)]) (by kernel_rfl) rfl (parts2 (kI 3 17 rfl rfl) (kI 4 18 rfl rfl)),
    step_cw rfl (.inl rfl) rfl cx19 rfl (fun aa ww hw hf hd => by
      obtain ⟨b, e, _, hR⟩ := ((knowsW_in 5 19 (by decide) (by kernel_rfl) rfl rfl) : KnowsW _ _ _ _ _ _ _ _ (IsRowV _ 2 [(.slice (some ⟨b, 33, none⟩) 32 32), (.slice A m c)])) aa ww hw hf hd
      have h := sc2 (hT.next hw) hR ⟨HPR.out, by decide, by decide, HPB.out, (((hS0.next hw).sg2 HN.out)).nums⟩ ⟨HXL.out, HXC.out, (by have := HX3.out; omega), HXB.out, hX.below hw⟩
      rw [HRE.out] at h
      exact ⟨_, by rw [map1, e], h⟩),
    step_allocV (.inl rfl) inf32 rfl rfl, trivial⟩ ?_
 intro val w2 hw hS hap hla
 have e14 := eVal hS 0 14 rfl rfl
 have e15 := eVal hS 1 15 rfl rfl
 have e16 := eVal hS 2 16 rfl rfl
 have e17 := eVal hS 3 17 rfl rfl
 have e18 := eVal hS 4 18 rfl rfl
 obtain ⟨b19, e19, L19, Z19⟩ := hS 5 19 (by decide) rfl
 have e20 := eVal hS 6 20 rfl rfl
 obtain ⟨b6, e6, L6, Z6⟩ := hS 7 6 (by decide) rfl
 simp only [pA, pB, pC, pD, pE, Act.put, pG, pH, pI, e14, e15, e16, e17, e18, e19, e20, e6]
 clear hS hap hla e14 e15 e16 e17 e18 e19 e20 e6 L19 Z19
 have LL6 := hid (show ((ints .u8 rr)).length = 32 from (il HR.out))
 have R6 := Z6.roomA (us := (ints .u8 rr)) (LL6.out.trans (zv .u8 32).symm)
 have h6 := Z6.storedA (us := (ints .u8 rr)) (LL6.out.trans (zv .u8 32).symm)
 have hu := Below.setCells hw L6 0 (ints .u8 rr).toArray.toList
 replace hT := hT.next hu
 replace hS0 := hS0.next hu
 replace hX := hX.below hu
 replace h4 := h4.next hu
 replace hW := bT hW hu
 clear hu
 with_reducible refine wpList_store_mid (op := ⟨none, .store 22 (.tmp 6) (.tmp 20), _, _, _, _⟩) rfl 22 (.tmp 6) (.tmp 20) rfl b6 0 (ints .u8 rr).toArray rfl rfl R6 (szA inf32 LL6.out) (ints_all _ _) ?_
 generalize (w2.setCells b6 0 (ints .u8 rr).toArray.toList) = w3 at *
 clear hw R6 LL6 Z6 L6
 go_wp2_with (fail)
 have s3 := hW.size
 refine rSpec 5 45 (fun i => i == 4) [IsL bb, Is (.agg (ints .u8 rr).toArray), IsL m1, Is (.agg (ints .u8 fi).toArray), IsZV w3.heap.size (ints .u8 (zeros 32))] [21, 22, 23, 24, 7] (gC (gC (gC (gC (grows_cons (IsZV.grows _ _) grows_nil)))))
   ⟨step_toP rfl (.inl rfl) rfl cx20 hT.p kb rfl (no_args),
    step_ldV rfl (.inl rfl) (fun _ hw => (h6.next hw).range) rfl Tryd.underlying22 rfl (szV inf32 (il HR.out)) rfl (kO 6 rfl),
    step_toP rfl (.inl rfl) rfl cx14 hT.p km rfl (two_args (kI 0 21 rfl rfl) (kI 1 22 rfl rfl)),
    step_to rfl (.inl rfl) rfl cx15 kby rfl (one_arg (kI 2 23 rfl rfl)),
    step_allocV (.inl rfl) inf32 rfl rfl, trivial⟩ ?_
 intro val w4 hw hS hap hla
 obtain ⟨b7, e7, L7, Z7⟩ := hS 4 7 (by decide) rfl
 simp only [pA, pB, pC, pD, pE, Act.put, pG, pH, pI, eVal hS 0 21 rfl rfl, eVal hS 1 22 rfl rfl, eVal hS 2 23 rfl rfl, eVal hS 3 24 rfl rfl, e7]
 clear hS hap hla e7
 have LL7 := hid (show ((ints .u8 fi)).length = 32 from (il HF.out))
 have R7 := Z7.roomA (us := (ints .u8 fi)) (LL7.out.trans (zv .u8 32).symm)
 have h7 := Z7.storedA (us := (ints .u8 fi)) (LL7.out.trans (zv .u8 32).symm)
 have hu := Below.setCells hw L7 0 (ints .u8 fi).toArray.toList
 replace hT := hT.next hu
 replace hS0 := hS0.next hu
 replace hX := hX.below hu
 replace h4 := h4.next hu
 replace h6 := h6.next hu
 replace hW := bT hW hu
 clear hu
 with_reducible refine wpList_store_mid (op := ⟨none, .store 22 (.tmp 7) (.tmp 24), _, _, _, _⟩) rfl 22 (.tmp 7) (.tmp 24) rfl b7 0 (ints .u8 fi).toArray rfl rfl R7 (szA inf32 LL7.out) (ints_all _ _) ?_
 generalize (w4.setCells b7 0 (ints .u8 fi).toArray.toList) = w5 at *
 clear hw R7 LL7 Z7 L7
 go_wp2_with (fail)
 have s5 := hW.size
 refine rSpec 9 45 (fun i => i == 6 || i == 8) [Is (.slice (some ⟨b7, 0, none⟩) 32 32), Is (.pointer (some ⟨b, 0, none⟩)), Is (.pointer (some ⟨b, 0, none⟩)), Is (.pointer (some ⟨b, 65, none⟩)), Is (.slice (some ⟨b, 65, none⟩) 32 32), Is (.slice A m c), IsRowV w5.heap.size 3 [(.slice (some ⟨b7, 0, none⟩) 32 32), (.slice (some ⟨b, 65, none⟩) 32 32), (.slice A m c)], Is (.agg (ints .u8 kk).toArray), IsZV w5.heap.size (ints .u8 (zeros 32))] [25, 26, 27, 28, 29, 30, 31, 32, 8] (gC (gC (gC (gC (gC (gC (grows_cons (IsRowV.grows _ _ _) (gC (grows_cons (IsZV.grows _ _) grows_nil)))))))))
   ⟨step_one rfl (.inl rfl) (fun ev w h hc => ex_slA (P := Tryd.prog) u32 z32 (m := 32) rfl rfl ev w h hc) rfl (kO 7 rfl),
    step_mvP rfl (.inl rfl) rfl rfl (kO 0 rfl),
    step_one rfl (.inl rfl) (fun ev w h hc => ex_nilc rfl ev w h hc) rfl (kI 1 26 rfl rfl),
    step_one rfl (.inl rfl) (fun ev w h hc => ex_fld (P := Tryd.prog) rfl (fldS3 _) ev w h hc) rfl (kI 2 27 rfl rfl),
    step_one rfl (.inl rfl) (fun ev w h hc => ex_slA (P := Tryd.prog) u32 z32 (m := 32) rfl rfl ev w h hc) rfl (kI 3 28 rfl rfl),
    step_mvP rfl (.inl rfl) rfl rfl (kO 1 rfl),
    step_bsl (.inl rfl) rfl Tryd.underlying78 infSl (by decide) (by decide) (vs := [(.slice (some ⟨b7, 0, none⟩) 32 32), (.slice (some ⟨b, 65, none⟩) 32 32), (.slice A m c)]) (by kernel_rfl) rfl (parts3 (kI 0 25 rfl rfl) (kI 4 29 rfl rfl) (kI 5 30 rfl rfl)),
    step_cw rfl (.inl rfl) rfl cx19 rfl (fun aa ww hw hf hd => by
      obtain ⟨b, e, _, hR⟩ := ((knowsW_in 6 31 (by decide) (by kernel_rfl) rfl rfl) : KnowsW _ _ _ _ _ _ _ _ (IsRowV _ 3 [(.slice (some ⟨b7, 0, none⟩) 32 32), (.slice (some ⟨b, 65, none⟩) 32 32), (.slice A m c)])) aa ww hw hf hd
      have h := sc3 (hT.next hw) hR ⟨HF.out, by decide, by decide, HFB.out, ((h7.next hw)).nums⟩ ⟨HP.out, by decide, by decide, HPUB.out, (((hS0.next hw).sg3 HN.out HPR.out)).nums⟩ ⟨HXL.out, HXC.out, (by have := HX3.out; omega), HXB.out, hX.below hw⟩
      rw [HKE.out] at h
      exact ⟨_, by rw [map1, e], h⟩),
    step_allocV (.inl rfl) inf32 rfl rfl, trivial⟩ ?_
 intro val w6 hw hS hap hla
 have e25 := eVal hS 0 25 rfl rfl
 have e26 := eVal hS 1 26 rfl rfl
 have e27 := eVal hS 2 27 rfl rfl
 have e28 := eVal hS 3 28 rfl rfl
 have e29 := eVal hS 4 29 rfl rfl
 have e30 := eVal hS 5 30 rfl rfl
 obtain ⟨b31, e31, L31, Z31⟩ := hS 6 31 (by decide) rfl
 have e32 := eVal hS 7 32 rfl rfl
 obtain ⟨b8, e8, L8, Z8⟩ := hS 8 8 (by decide) rfl
 simp only [pA, pB, pC, pD, pE, Act.put, pG, pH, pI, e25, e26, e27, e28, e29, e30, e31, e32, e8]
 clear hS hap hla e25 e26 e27 e28 e29 e30 e31 e32 e8 L31 Z31
 have LL8 := hid (show ((ints .u8 kk)).length = 32 from (il HK.out))
 have R8 := Z8.roomA (us := (ints .u8 kk)) (LL8.out.trans (zv .u8 32).symm)
 have h8 := Z8.storedA (us := (ints .u8 kk)) (LL8.out.trans (zv .u8 32).symm)
 have hu := Below.setCells hw L8 0 (ints .u8 kk).toArray.toList
 replace hT := hT.next hu
 replace hS0 := hS0.next hu
 replace hX := hX.below hu
 replace h4 := h4.next hu
 replace h6 := h6.next hu
 replace h7 := h7.next hu
 replace hW := bT hW hu
 clear hu
 with_reducible refine wpList_store_mid (op := ⟨none, .store 22 (.tmp 8) (.tmp 32), _, _, _, _⟩) rfl 22 (.tmp 8) (.tmp 32) rfl b8 0 (ints .u8 kk).toArray rfl rfl R8 (szA inf32 LL8.out) (ints_all _ _) ?_
 generalize (w6.setCells b8 0 (ints .u8 kk).toArray.toList) = w7 at *
 clear hw R8 LL8 Z8 L8
 go_wp2_with (fail)
 have s7 := hW.size
 refine rSpec 8 45 (fun i => i == 7) [Is (.agg (ints .u8 kk).toArray), Is (.pointer (some ⟨b, 0, none⟩)), Is (.pointer (some ⟨b, 0, none⟩)), Is (.pointer (some ⟨b, 1, none⟩)), Is (.agg (ints .u8 num).toArray), Is (.agg (ints .u8 rr).toArray), Is (.agg (ints .u8 se).toArray), IsZV w7.heap.size (ints .u8 (zeros 32))] [33, 34, 35, 36, 37, 38, 39, 9] (gC (gC (gC (gC (gC (gC (gC (grows_cons (IsZV.grows _ _) grows_nil))))))))
   ⟨step_ldV rfl (.inl rfl) (fun _ hw => (h8.next hw).range) rfl Tryd.underlying22 rfl (szV inf32 (il HK.out)) rfl (kO 8 rfl),
    step_mvP rfl (.inl rfl) rfl rfl (kO 0 rfl),
    step_one rfl (.inl rfl) (fun ev w h hc => ex_nilc rfl ev w h hc) rfl (kI 1 34 rfl rfl),
    step_one rfl (.inl rfl) (fun ev w h hc => ex_fld (P := Tryd.prog) rfl (fldS1 _) ev w h hc) rfl (kI 2 35 rfl rfl),
    step_ldV rfl (.inl rfl) (fun _ hw => (((hS0.next hw).sg1)).range) rfl Tryd.underlying22 rfl (szV inf32 (il HN.out)) rfl (kI 3 36 rfl rfl),
    step_ldV rfl (.inl rfl) (fun _ hw => (h6.next hw).range) rfl Tryd.underlying22 rfl (szV inf32 (il HR.out)) rfl (kO 6 rfl),
    step_toQ rfl (.inl rfl) rfl cx79 hT.q kma rfl (three_args (kI 0 33 rfl rfl) (kI 4 37 rfl rfl) (kI 5 38 rfl rfl)),
    step_allocV (.inl rfl) inf32 rfl rfl, trivial⟩ ?_
 intro val w8 hw hS hap hla
 obtain ⟨b9, e9, L9, Z9⟩ := hS 7 9 (by decide) rfl
 simp only [pA, pB, pC, pD, pE, Act.put, pG, pH, pI, eVal hS 0 33 rfl rfl, eVal hS 1 34 rfl rfl, eVal hS 2 35 rfl rfl, eVal hS 3 36 rfl rfl, eVal hS 4 37 rfl rfl, eVal hS 5 38 rfl rfl, eVal hS 6 39 rfl rfl, e9]
 clear hS hap hla e9
 have LL9 := hid (show ((ints .u8 se)).length = 32 from (il HSE.out))
 have R9 := Z9.roomA (us := (ints .u8 se)) (LL9.out.trans (zv .u8 32).symm)
 have h9 := Z9.storedA (us := (ints .u8 se)) (LL9.out.trans (zv .u8 32).symm)
 have hu := Below.setCells hw L9 0 (ints .u8 se).toArray.toList
 replace hT := hT.next hu
 replace hS0 := hS0.next hu
 replace hX := hX.below hu
 replace h4 := h4.next hu
 replace h6 := h6.next hu
 replace h7 := h7.next hu
 replace h8 := h8.next hu
 replace hW := bT hW hu
 clear hu
 with_reducible refine wpList_store_mid (op := ⟨none, .store 22 (.tmp 9) (.tmp 39), _, _, _, _⟩) rfl 22 (.tmp 9) (.tmp 39) rfl b9 0 (ints .u8 se).toArray rfl rfl R9 (szA inf32 LL9.out) (ints_all _ _) ?_
 generalize (w8.setCells b9 0 (ints .u8 se).toArray.toList) = w9 at *
 clear hw R9 LL9 Z9 L9
 go_wp2_with (fail)
 have s9 := hW.size
 refine rSpec 5 45 (fun _ => false) [Is (.slice (some ⟨b7, 0, none⟩) 32 32), Is (.slice (some ⟨b9, 0, none⟩) 32 32), IsSlV 64 (ints .u8 (fi ++ se)), IsPt (ints .u8 (fi ++ se)), Is (.agg (ints .u8 (fi ++ se)).toArray)] [40, 41, 42, 43, 44] (gC (gC (grows_cons (IsSlV.grows _ _) (grows_cons (IsPt.grows _) (gC grows_nil)))))
   ⟨step_one rfl (.inl rfl) (fun ev w h hc => ex_slA (P := Tryd.prog) u32 z32 (m := 32) rfl rfl ev w h hc) rfl (kO 7 rfl),
    step_one rfl (.inl rfl) (fun ev w h hc => ex_slA (P := Tryd.prog) u32 z32 (m := 32) rfl rfl ev w h hc) rfl (kO 9 rfl),
    step_appF (.inl rfl) rfl Tryd.underlying23 infB3 HF.out HSE.out (by decide) (by decide) (fun _ hw => ((h7.next hw)).nums) (fun _ hw => ((h9.next hw)).nums) (by decide) (by decide) rfl rfl (kI 0 40 rfl rfl) (kI 1 41 rfl rfl),
    step_arrW rfl (.inl rfl) Tryd.underlying46 (by decide) rfl rfl (knowsW_in 2 42 (by decide) (by kernel_rfl) rfl rfl),
    step_ldP rfl (.inl rfl) rfl Tryd.underlying46 rfl (szV inf64 (il HFS.out)) rfl (knowsW_in 3 43 (by decide) (by kernel_rfl) rfl rfl), trivial⟩ ?_
 intro val w10 hw hS hap hla
 have e40 := eVal hS 0 40 rfl rfl
 have e41 := eVal hS 1 41 rfl rfl
 have e44 := eVal hS 4 44 rfl rfl
 simp only [pA, pB, pC, pD, pE, Act.put, pG, pH, pI, e40, e41, e44]
 generalize val 42 = g42
 generalize val 43 = g43
 clear hS hap hla e40 e41 e44
 have LL4 := hid (show ((ints .u8 (fi ++ se))).length = 64 from (il HFS.out))
 have Y4 := h4.next hw
 have R4 := Y4.roomA (us := (ints .u8 (fi ++ se))) (LL4.out.trans (il (zeros_len 64)).symm)
 have X4 := Y4.storedA (us := (ints .u8 (fi ++ se))) (LL4.out.trans (il (zeros_len 64)).symm)
 replace hT := hT.next hw
 replace hS0 := hS0.next hw
 replace hX := hX.below hw
 replace h4 := h4.next hw
 replace h6 := h6.next hw
 replace h7 := h7.next hw
 replace h8 := h8.next hw
 replace h9 := h9.next hw
 replace hW := bT hW hw
 with_reducible refine wpList_store_mid (op := ⟨none, .store 46 (.tmp 4) (.tmp 44), _, _, _, _⟩) rfl 46 (.tmp 4) (.tmp 44) rfl w.heap.size 0 (ints .u8 (fi ++ se)).toArray rfl rfl R4 (szA inf64 LL4.out) (ints_all _ _) ?_
 replace hW := Below.setCells hW (g := w.heap.size) (by omega) 0 (ints .u8 (fi ++ se)).toArray.toList
 generalize (w10.setCells w.heap.size 0 (ints .u8 (fi ++ se)).toArray.toList) = w11 at *
 clear hw R4 LL4 Y4
 go_wp2_with (fail)
 exact bodyPost_ret (results_row2 rfl _ _ w.heap.size 0 rfl (.int .i64 0) rfl (ints .u8 (fi ++ se)) _ X4.range Tryd.underlying46 rfl (szV inf64 (il HFS.out))) rfl ⟨rfl, hW⟩
set_option maxHeartbeats 8000000
set_option maxRecDepth 8000
open Go Go.RowKit
def IsP0 (vs : List Value) : Value → World → Prop := fun v w => ∃ b, v = .pointer (some ⟨b, 0, none⟩) ∧ Rw w b 0 vs
theorem IsP0.grows (vs : List Value) : Grows (IsP0 vs) := fun _ _ _ ⟨b, h1, h2⟩ hb => ⟨b, h1, h2.next hb⟩
section
variable {ops : Array Oper} {md : Region.Mode} {W : World} {a0 : Act} {n : Nat} {al : Nat → Bool} {S : Nat → Value → World → Prop} {Q : Exit → Act → World → Prop} {i : Nat} {o : Oper}
theorem step_cR (hal : al i = false) (hg : GuardOn ops md n S i o) {f : FuncId} {xs : Array Operand} {ts : Array TypeId} {R : Value → World → Prop} (ho : o.op = .call { callee := .value (.func f), args := xs, argTypes := ts }) (hcf : ∀ vs w, (callFunc f vs).run Tryd.prog w = .ok (.enter f vs) w)
   (hS : S i = R) (hv : ∀ (a : Act) (w : World), Cl W w → Fr ops n a0 a → Dp ops md n S i a w → ∃ vs, xs.map a.eval = vs ∧ Calls Tryd.prog f vs w fun e w' => ∃ v, e = .returned v ∧ R v w' ∧ Below w.heap.size w w') : StepOk Tryd.prog ops md W a0 n al S Q i o :=
 step_call hal hg fun a w hw hf hd => by
   obtain ⟨vs, h1, h2⟩ := hv a w hw hf hd
   exact ⟨f, vs, ex_fnP rfl hcf ho vs h1 w, h2.mono fun _ _ ⟨v, he, hr, hb⟩ => ⟨v, he, by rw [hS]; exact hr, hb⟩⟩
end
theorem pub_core {sd num pre pub : List Int} (HSD : Hid (sd.length = 32)) (HP : Hid (pub.length = 32)) (KK : Hid (∀ w, TabsA w → Calls Tryd.prog 52 #[.agg (ints .u8 sd).toArray] w fun e w' => ∃ b, e = .returned (.pointer (some ⟨b, 0, none⟩)) ∧ Rw w' b 0 (sgv num pre pub) ∧ Below w.heap.size w w')) (KM : Hid (∀ (b : Nat) w, TabsA w → Rw w b 0 (sgv num pre pub) → Calls Tryd.prog 54 #[.pointer (some ⟨b, 0, none⟩)] w fun e w' => e = .returned (.tuple #[.agg (ints .u8 pub).toArray, .int .i64 0]) ∧ Below w.heap.size w w')) : CallsA 17 #[.agg (ints .u8 sd).toArray] (.agg (ints .u8 pub).toArray) := by
 intro w hT
 obtain ⟨z1_, s1_⟩ := zero_of_info inf32
 obtain ⟨z2_, s2_⟩ := zero_of_info inf32
 have h1 := Rw.new w (ints .u8 sd) 22
 have h2 := Rw.new (w.alloc (.cells (ints .u8 sd).toArray 22)) (ints .u8 (zeros 32)) 22
 replace h1 := h1.next (below_new _ (.cells (ints .u8 (zeros 32)).toArray 22))
 simp only [World.size_alloc] at h2
 have hW := (below_new w (.cells (ints .u8 sd).toArray 22)).alloc (by simp) (.cells (ints .u8 (zeros 32)).toArray 22)
 replace hT := hT.next hW
 go_enter Tryd.func17, Tryd.ntmps17
 go_upto_region 1 with (fail)
 generalize (w.alloc (.cells (ints .u8 sd).toArray 22)).alloc (.cells (ints .u8 (zeros 32)).toArray 22) = w0 at *
 have s0 := hW.size
 refine rSeq 7 12 (fun i => i == 6) [Is (.agg (ints .u8 sd).toArray), IsP0 (sgv num pre pub), Is (.tuple #[(.agg (ints .u8 pub).toArray), (.int .i64 0)]), Is (.tuple #[(.agg (ints .u8 pub).toArray), (.int .i64 0)]), Is (.agg (ints .u8 pub).toArray), Is (.int .i64 0), IsZV w0.heap.size (ints .u8 (zeros 32))] [6, 7, 8, 5, 9, 10, 3] (gC (grows_cons (IsP0.grows _) (gC (gC (gC (gC (grows_cons (IsZV.grows _ _) grows_nil)))))))
   ⟨step_ldV rfl (.inl rfl) (fun _ hw => (h1.next hw).range) rfl Tryd.underlying22 rfl (szV inf32 (il HSD.out)) rfl (kO 1 rfl),
    step_cR rfl (.inl rfl) rfl cx52 rfl (fun aa ww hw hf hd => ⟨_, one_arg (kI 0 6 rfl rfl) aa ww hw hf hd, (KK.out ww (hT.next hw)).mono fun _ _ ⟨b, he, hR, hb⟩ => ⟨_, he, ⟨b, rfl, hR⟩, hb⟩⟩),
    step_cw rfl (.inl rfl) rfl cx54 rfl (fun aa ww hw hf hd => by
      obtain ⟨b, e, hR⟩ := ((knowsW_in 1 7 (by decide) (by kernel_rfl) rfl rfl) : KnowsW _ _ _ _ _ _ _ _ (IsP0 (sgv num pre pub))) aa ww hw hf hd
      exact ⟨_, by rw [map1, e], KM.out b ww (hT.next hw) hR⟩),
    step_mvP rfl (.inl rfl) rfl rfl (kI 2 8 rfl rfl),
    step_fst rfl (.inl rfl) rfl rfl (kI 3 5 rfl rfl),
    step_snd rfl (.inl rfl) rfl rfl (kI 3 5 rfl rfl),
    step_allocV (.inl rfl) inf32 rfl rfl, trivial⟩ ?_
 intro val w1 hw hS hap hla
 have e6 := eVal hS 0 6 rfl rfl
 have e8 := eVal hS 2 8 rfl rfl
 have e5 := eVal hS 3 5 rfl rfl
 have e9 := eVal hS 4 9 rfl rfl
 have e10 := eVal hS 5 10 rfl rfl
 obtain ⟨b3, e3, L3, Z3⟩ := hS 6 3 (by decide) rfl
 simp only [pA, pB, pC, pD, pE, Act.put, pG, pH, pI, e6, e8, e5, e9, e10, e3]
 generalize val 7 = g7
 clear hS hap hla e6 e8 e5 e9 e10 e3
 have LL3 := hid (show ((ints .u8 pub)).length = 32 from (il HP.out))
 have R3 := Z3.roomA (us := (ints .u8 pub)) (LL3.out.trans (zv .u8 32).symm)
 have h3 := Z3.storedA (us := (ints .u8 pub)) (LL3.out.trans (zv .u8 32).symm)
 have hu := Below.setCells hw L3 0 (ints .u8 pub).toArray.toList
 replace hT := hT.next hu
 replace h1 := h1.next hu
 replace h2 := h2.next hu
 replace hW := bT hW hu
 clear hu
 with_reducible refine wpList_store_mid (op := ⟨none, .store 22 (.tmp 3) (.tmp 9), _, _, _, _⟩) rfl 22 (.tmp 3) (.tmp 9) rfl b3 0 (ints .u8 pub).toArray rfl rfl R3 (szA inf32 LL3.out) (ints_all _ _) ?_
 generalize (w1.setCells b3 0 (ints .u8 pub).toArray.toList) = w2 at *
 clear hw R3 LL3 Z3 L3
 go_upto_region 2 with (fail)
 have s2 := hW.size
 refine rSeq 1 12 (fun _ => false) [Is (.agg (ints .u8 pub).toArray)] [11] (gC grows_nil)
   ⟨step_ldV rfl (.inl rfl) (fun _ hw => (h3.next hw).range) rfl Tryd.underlying22 rfl (szV inf32 (il HP.out)) rfl (kO 3 rfl), trivial⟩ ?_
 intro val w3 hw hS hap hla
 simp only [pA, pB, pC, pD, pE, Act.put, pG, pH, pI, eVal hS 0 11 rfl rfl]
 clear hS hap hla
 have LL2 := hid (show ((ints .u8 pub)).length = 32 from (il HP.out))
 have Y2 := h2.next hw
 have R2 := Y2.roomA (us := (ints .u8 pub)) (LL2.out.trans (il (zeros_len 32)).symm)
 have X2 := Y2.storedA (us := (ints .u8 pub)) (LL2.out.trans (il (zeros_len 32)).symm)
 replace hT := hT.next hw
 replace h1 := h1.next hw
 replace h2 := h2.next hw
 replace h3 := h3.next hw
 replace hW := bT hW hw
 with_reducible refine wpList_store_mid (op := ⟨none, .store 22 (.tmp 2) (.tmp 11), _, _, _, _⟩) rfl 22 (.tmp 2) (.tmp 11) rfl (w.heap.size + 1) 0 (ints .u8 pub).toArray rfl rfl R2 (szA inf32 LL2.out) (ints_all _ _) ?_
 replace hW := Below.setCells hW (g := (w.heap.size + 1)) (by omega) 0 (ints .u8 pub).toArray.toList
 generalize (w3.setCells (w.heap.size + 1) 0 (ints .u8 pub).toArray.toList) = w4 at *
 clear hw R2 LL2 Y2
 go_wp2_with (fail)
 exact ret_rows rfl (w.heap.size + 1) 0 rfl (ints .u8 pub) _ X2.range Tryd.underlying22 rfl (szV inf32 (il HP.out)) rfl ⟨rfl, hW⟩
theorem sign_core {sd num pre pub tx sg : List Int} {A : Option Addr} {m c : Nat} (HSD : Hid (sd.length = 32)) (HSG : Hid (sg.length = 64)) (KK : Hid (∀ w, TabsA w → Calls Tryd.prog 52 #[.agg (ints .u8 sd).toArray] w fun e w' => ∃ b, e = .returned (.pointer (some ⟨b, 0, none⟩)) ∧ Rw w' b 0 (sgv num pre pub) ∧ Below w.heap.size w w')) (KM : Hid (∀ (b : Nat) w, TabsA w → Rw w b 0 (sgv num pre pub) → Nums w .u8 A tx → Calls Tryd.prog 53 #[.pointer (some ⟨b, 0, none⟩), .slice A m c] w fun e w' => e = .returned (.tuple #[.agg (ints .u8 sg).toArray, .int .i64 0]) ∧ Below w.heap.size w w')) (w : World) (hT : TabsA w) (hX : Nums w .u8 A tx) :
   Calls Tryd.prog 16 #[.agg (ints .u8 sd).toArray, .slice A m c] w fun e w' => e = .returned (.agg (ints .u8 sg).toArray) ∧ Below w.heap.size w w' := by
 obtain ⟨z2_, s2_⟩ := zero_of_info inf32
 obtain ⟨z4_, s4_⟩ := zero_of_info inf64
 have h1 := Rw.new w (ints .u8 sd) 22
 have h4 := Rw.new (w.alloc (.cells (ints .u8 sd).toArray 22)) (ints .u8 (zeros 64)) 46
 replace h1 := h1.next (below_new _ (.cells (ints .u8 (zeros 64)).toArray 46))
 simp only [World.size_alloc] at h4
 have hW := (below_new w (.cells (ints .u8 sd).toArray 22)).alloc (by simp) (.cells (ints .u8 (zeros 64)).toArray 46)
 replace hT := hT.next hW
 replace hX := hX.below hW
 go_enter Tryd.func16, Tryd.ntmps16
 go_upto_region 1 with (fail)
 generalize (w.alloc (.cells (ints .u8 sd).toArray 22)).alloc (.cells (ints .u8 (zeros 64)).toArray 46) = w0 at *
 have s0 := hW.size
 refine rSeq 8 15 (fun i => i == 7) [Is (.agg (ints .u8 sd).toArray), IsP0 (sgv num pre pub), Is (.slice A m c), Is (.tuple #[(.agg (ints .u8 sg).toArray), (.int .i64 0)]), Is (.tuple #[(.agg (ints .u8 sg).toArray), (.int .i64 0)]), Is (.agg (ints .u8 sg).toArray), Is (.int .i64 0), IsZV w0.heap.size (ints .u8 (zeros 64))] [8, 9, 10, 11, 7, 12, 13, 5] (gC (grows_cons (IsP0.grows _) (gC (gC (gC (gC (gC (grows_cons (IsZV.grows _ _) grows_nil))))))))
   ⟨step_ldV rfl (.inl rfl) (fun _ hw => (h1.next hw).range) rfl Tryd.underlying22 rfl (szV inf32 (il HSD.out)) rfl (kO 2 rfl),
    step_cR rfl (.inl rfl) rfl cx52 rfl (fun aa ww hw hf hd => ⟨_, one_arg (kI 0 8 rfl rfl) aa ww hw hf hd, (KK.out ww (hT.next hw)).mono fun _ _ ⟨b, he, hR, hb⟩ => ⟨_, he, ⟨b, rfl, hR⟩, hb⟩⟩),
    step_mvP rfl (.inl rfl) rfl rfl (kO 1 rfl),
    step_cw rfl (.inl rfl) rfl cx53 rfl (fun aa ww hw hf hd => by
      obtain ⟨b, e, hR⟩ := ((knowsW_in 1 9 (by decide) (by kernel_rfl) rfl rfl) : KnowsW _ _ _ _ _ _ _ _ (IsP0 (sgv num pre pub))) aa ww hw hf hd
      exact ⟨_, by rw [map2, e, (kI 2 10 rfl rfl) aa ww hw hf hd], KM.out b ww (hT.next hw) hR (hX.below hw)⟩),
    step_mvP rfl (.inl rfl) rfl rfl (kI 3 11 rfl rfl),
    step_fst rfl (.inl rfl) rfl rfl (kI 4 7 rfl rfl),
    step_snd rfl (.inl rfl) rfl rfl (kI 4 7 rfl rfl),
    step_allocV (.inl rfl) inf64 rfl rfl, trivial⟩ ?_
 intro val w1 hw hS hap hla
 have e8 := eVal hS 0 8 rfl rfl
 have e10 := eVal hS 2 10 rfl rfl
 have e11 := eVal hS 3 11 rfl rfl
 have e7 := eVal hS 4 7 rfl rfl
 have e12 := eVal hS 5 12 rfl rfl
 have e13 := eVal hS 6 13 rfl rfl
 obtain ⟨b5, e5, L5, Z5⟩ := hS 7 5 (by decide) rfl
 simp only [pA, pB, pC, pD, pE, Act.put, pG, pH, pI, e8, e10, e11, e7, e12, e13, e5]
 generalize val 9 = g9
 clear hS hap hla e8 e10 e11 e7 e12 e13 e5
 have LL5 := hid (show ((ints .u8 sg)).length = 64 from (il HSG.out))
 have R5 := Z5.roomA (us := (ints .u8 sg)) (LL5.out.trans (zv .u8 64).symm)
 have h5 := Z5.storedA (us := (ints .u8 sg)) (LL5.out.trans (zv .u8 64).symm)
 have hu := Below.setCells hw L5 0 (ints .u8 sg).toArray.toList
 replace hT := hT.next hu
 replace hX := hX.below hu
 replace h1 := h1.next hu
 replace h4 := h4.next hu
 replace hW := bT hW hu
 clear hu
 with_reducible refine wpList_store_mid (op := ⟨none, .store 46 (.tmp 5) (.tmp 12), _, _, _, _⟩) rfl 46 (.tmp 5) (.tmp 12) rfl b5 0 (ints .u8 sg).toArray rfl rfl R5 (szA inf64 LL5.out) (ints_all _ _) ?_
 generalize (w1.setCells b5 0 (ints .u8 sg).toArray.toList) = w2 at *
 clear hw R5 LL5 Z5 L5
 go_upto_region 2 with (fail)
 have s2 := hW.size
 refine rSeq 1 15 (fun _ => false) [Is (.agg (ints .u8 sg).toArray)] [14] (gC grows_nil)
   ⟨step_ldV rfl (.inl rfl) (fun _ hw => (h5.next hw).range) rfl Tryd.underlying46 rfl (szV inf64 (il HSG.out)) rfl (kO 5 rfl), trivial⟩ ?_
 intro val w3 hw hS hap hla
 simp only [pA, pB, pC, pD, pE, Act.put, pG, pH, pI, eVal hS 0 14 rfl rfl]
 clear hS hap hla
 have LL4 := hid (show ((ints .u8 sg)).length = 64 from (il HSG.out))
 have Y4 := h4.next hw
 have R4 := Y4.roomA (us := (ints .u8 sg)) (LL4.out.trans (il (zeros_len 64)).symm)
 have X4 := Y4.storedA (us := (ints .u8 sg)) (LL4.out.trans (il (zeros_len 64)).symm)
 replace hT := hT.next hw
 replace hX := hX.below hw
 replace h1 := h1.next hw
 replace h4 := h4.next hw
 replace h5 := h5.next hw
 replace hW := bT hW hw
 with_reducible refine wpList_store_mid (op := ⟨none, .store 46 (.tmp 4) (.tmp 14), _, _, _, _⟩) rfl 46 (.tmp 4) (.tmp 14) rfl (w.heap.size + 1) 0 (ints .u8 sg).toArray rfl rfl R4 (szA inf64 LL4.out) (ints_all _ _) ?_
 replace hW := Below.setCells hW (g := (w.heap.size + 1)) (by omega) 0 (ints .u8 sg).toArray.toList
 generalize (w3.setCells (w.heap.size + 1) 0 (ints .u8 sg).toArray.toList) = w4 at *
 clear hw R4 LL4 Y4
 go_wp2_with (fail)
 exact ret_rows rfl (w.heap.size + 1) 0 rfl (ints .u8 sg) _ X4.range Tryd.underlying46 rfl (szV inf64 (il HSG.out)) rfl ⟨rfl, hW⟩
def numL (sd : List Int) : List Int := clampL ((hash sd).take 32)
def preL (sd : List Int) : List Int := (hash sd).drop 32
theorem lo_len (sd : List Int) : ((hash sd).take 32).length = 32 := by rw [List.length_take, hash_len]; rfl
theorem lo_byt (sd : List Int) : Byt ((hash sd).take 32) := fun x hx => hash_byt sd x (List.mem_of_mem_take hx)
theorem preL_len (sd : List Int) : (preL sd).length = 32 := by unfold preL; rw [List.length_drop, hash_len]
theorem preL_byt (sd : List Int) : Byt (preL sd) := fun x hx => hash_byt sd x (List.mem_of_mem_drop hx)
theorem numL_len (sd : List Int) : (numL sd).length = 32 := (clampL_length _).trans (lo_len sd)
theorem numL_byt (sd : List Int) : Byt (numL sd) := clampL_byt (lo_byt sd) (lo_len sd)
noncomputable def timesB (l : List Int) : Edw.Pt NT.PN := Edw.mul eF (bn l) baseP
theorem timesB_on (l : List Int) : Edw.On eF (timesB l) := Edw.mul_on pn_fld ns_e base_on _
noncomputable def pubL (sd : List Int) : List Int := bytesP (timesB (numL sd))
noncomputable def rL (sd tx : List Int) : List Int := scal (preL sd ++ tx)
noncomputable def firstL (sd tx : List Int) : List Int := bytesP (timesB (rL sd tx))
noncomputable def kL (sd tx : List Int) : List Int := scal (firstL sd tx ++ (pubL sd ++ tx))
noncomputable def secondL (sd tx : List Int) : List Int := rbytes ((bn (kL sd tx) * bn (numL sd) + bn (rL sd tx)) % QN)
noncomputable def sigL (sd tx : List Int) : List Int := firstL sd tx ++ secondL sd tx
theorem pbytes_byt {m : Nat} (h : m < NT.PN) (o : Bool) : Byt (pbytes m o) := by
 unfold pbytes
 split
 · intro x hx
   rcases List.mem_or_eq_of_mem_set hx with h1 | h1
   · exact rbytes_byt m x h1
   · have := rb_top h; omega
 · exact rbytes_byt m
theorem bytesP_byt (P : Edw.Pt NT.PN) : Byt (bytesP P) := pbytes_byt P.y.isLt _
theorem pubL_len (sd : List Int) : (pubL sd).length = 32 := bytesP_len _
theorem firstL_len (sd tx : List Int) : (firstL sd tx).length = 32 := bytesP_len _
theorem secondL_len (sd tx : List Int) : (secondL sd tx).length = 32 := rbytes_length _
theorem sigL_len (sd tx : List Int) : (sigL sd tx).length = 64 := by unfold sigL; rw [List.length_append, firstL_len, secondL_len]
noncomputable def bbL : List Int := pr_base.choose
theorem bbL_spec : CallsP 20 #[] (.agg (ints .i64 bbL).toArray) ∧ PR bbL baseP := pr_base.choose_spec
theorem times_row {l : List Int} (h : l.length = 32) (hb : Byt l) : ∃ r, CallsP 14 #[.agg (ints .i64 bbL).toArray, .agg (ints .u8 l).toArray] (.agg (ints .i64 r).toArray) ∧ PR r (timesB l) := bbL_spec.2.mul h hb
theorem key_any {sd : List Int} (hl : sd.length = 32) (hb : Byt sd) (w : World) (hT : TabsA w) : Calls Tryd.prog 52 #[.agg (ints .u8 sd).toArray] w fun e w' => ∃ b, e = .returned (.pointer (some ⟨b, 0, none⟩)) ∧ Rw w' b 0 (sgv (numL sd) (preL sd) (pubL sd)) ∧ Below w.heap.size w w' := by
 obtain ⟨m1, km, hm⟩ := times_row (numL_len sd) (numL_byt sd)
 have hsp : (hash sd).take 32 ++ (hash sd).drop 32 = hash sd := List.take_append_drop 32 _
 refine (key_core (sd := sd) (lo := (hash sd).take 32) (hi := preL sd) (num := numL sd) (pub := pubL sd) (bb := bbL) (m1 := m1) (hid hl) (hid hb) (hid hsp.symm) (hid (by show ((hash sd).take 32 ++ (hash sd).drop 32).length = 64; rw [hsp]; exact hash_len sd)) (hid (by show Byt ((hash sd).take 32 ++ (hash sd).drop 32); rw [hsp]; exact hash_byt sd)) (hid (lo_len sd)) (hid (lo_byt sd)) (hid (preL_len sd)) (hid (preL_byt sd)) (hid (numL_len sd)) (hid (numL_byt sd)) (hid bbL_spec.2.len) (hid hm.len) (hid (pubL_len sd)) (c_clamp (lo_len sd) (lo_byt sd)) bbL_spec.1 km hm.bytes w hT).mono ?_
 rintro e w' ⟨b, he, _, hR, hb⟩
 exact ⟨b, he, hR, hb⟩
theorem pub_any {sd : List Int} (hl : sd.length = 32) (hb : Byt sd) : CallsA 17 #[.agg (ints .u8 sd).toArray] (.agg (ints .u8 (pubL sd)).toArray) :=
 pub_core (num := numL sd) (pre := preL sd) (hid hl) (hid (pubL_len sd)) (hid fun w hT => key_any hl hb w hT) (hid fun b w hT hR => mpub (hid (numL_len sd)) (hid (numL_byt sd)) (hid (preL_len sd)) (hid (preL_byt sd)) (hid (pubL_len sd)) (hid (bytesP_byt _)) w hT hR)
theorem msign_any {sd tx : List Int} {A : Option Addr} {m c : Nat} (ht : tx.length = m) (hmc : m ≤ c) (hm : m ≤ 1000) (htb : Byt tx) {b : Nat} (w : World) (hT : TabsA w) (hR : Rw w b 0 (sgv (numL sd) (preL sd) (pubL sd))) (hX : Nums w .u8 A tx) : Calls Tryd.prog 53 #[.pointer (some ⟨b, 0, none⟩), .slice A m c] w fun e w' => e = .returned (.tuple #[.agg (ints .u8 (sigL sd tx)).toArray, .int .i64 0]) ∧ Below w.heap.size w w' := by
 obtain ⟨m1, km, hm1⟩ := times_row (l := rL sd tx) (scal_len _) (scal_byt _)
 exact msign (num := numL sd) (pre := preL sd) (pub := pubL sd) (tx := tx) (rr := rL sd tx) (bb := bbL) (m1 := m1) (fi := firstL sd tx) (kk := kL sd tx) (se := secondL sd tx) (hid (numL_len sd)) (hid (numL_byt sd)) (hid (preL_len sd)) (hid (preL_byt sd)) (hid (pubL_len sd)) (hid (bytesP_byt _)) (hid (scal_len _)) (hid (scal_byt _)) (hid rfl) (hid bbL_spec.2.len) (hid hm1.len) (hid (firstL_len _ _)) (hid (bytesP_byt _)) (hid (scal_len _)) (hid (scal_byt _)) (hid rfl) (hid (secondL_len _ _)) (hid (rbytes_byt _)) (hid (sigL_len _ _)) bbL_spec.1 km hm1.bytes (cs_muladd (scal_len _) (numL_len sd) (scal_len _) (scal_byt _) (numL_byt sd) (scal_byt _)) (hid ht) (hid hmc) (hid hm) (hid htb) w hT hR hX
theorem sign_any {sd tx : List Int} {A : Option Addr} {m c : Nat} (hl : sd.length = 32) (hb : Byt sd) (ht : tx.length = m) (hmc : m ≤ c) (hm : m ≤ 1000) (htb : Byt tx) (w : World) (hT : TabsA w) (hX : Nums w .u8 A tx) : Calls Tryd.prog 16 #[.agg (ints .u8 sd).toArray, .slice A m c] w fun e w' => e = .returned (.agg (ints .u8 (sigL sd tx)).toArray) ∧ Below w.heap.size w w' :=
 sign_core (num := numL sd) (pre := preL sd) (pub := pubL sd) (tx := tx) (hid hl) (hid (sigL_len sd tx)) (hid fun w hT => key_any hl hb w hT) (hid fun b w hT hR hX => msign_any ht hmc hm htb w hT hR hX) w hT hX
end Go.Proofs.YthpibkpljakeeaaDoor
