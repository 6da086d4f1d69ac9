/- Texts laid together. -/
import Derived.Test.YthpibkpljakeeaaDoorG7
import Derived.Test.YthpibkpljakeeaaDoorG24
import Derived.Test.YthpibkpljakeeaaDoorG13
import Derived.Test.YthpibkpljakeeaaDoorQPrimeM
namespace Go.Proofs.YthpibkpljakeeaaDoor
set_option maxHeartbeats 8000000
set_option maxRecDepth 8000
open Go Go.RowKit
theorem verify_len {pk : List Int} {A B : Option Addr} {m c k d : Nat} (hk : k ≠ 64) (w : World) : Calls Tryd.prog 6 #[.agg (ints .u8 pk).toArray, .slice A m c, .slice B k d] w fun e w' => e = .returned (.int .i64 2) ∧ Below w.heap.size w w' := by
 have hne : ¬ (k : Int) = 64 := by omega
 have hW := below_new w (.cells (ints .u8 pk).toArray 22)
 go_enter Tryd.func6, Tryd.ntmps6
 go_wp2
 go_ret
 exact ⟨rfl, hW⟩
theorem verify_bad {pk tx fi se : List Int} (HPK : Hid (pk.length = 32)) (HPKB : Hid (Byt pk)) (HF : Hid (fi.length = 32)) (HFB : Hid (Byt fi)) (HE : Hid (se.length = 32)) (HEB : Hid (Byt se)) {A : Option Addr} {m c b2 o2 c2 : Nat} (HC2 : Hid (64 ≤ c2)) (HXL : Hid (tx.length = m)) (HXC : Hid (m ≤ c)) (HX3 : Hid (m ≤ 1000)) (HXB : Hid (Byt tx)) (kof : CallsP 7 #[.agg (ints .u8 pk).toArray] (.tuple #[.agg (ints .i64 (zeros 64)).toArray, .int .i64 21])) (w : World) (hT : TabsA w) (hX : Nums w .u8 A tx) (hG1 : Nums w .u8 (some ⟨b2, o2, none⟩) fi) (hG2 : Nums w .u8 (some ⟨b2, o2 + 32, none⟩) se) : Calls Tryd.prog 6 #[.agg (ints .u8 pk).toArray, .slice A m c, .slice (some ⟨b2, o2, none⟩) 64 c2] w fun e w' => e = .returned (.int .i64 21) ∧ Below w.heap.size w w' := by
 obtain ⟨z3_, s3_⟩ := zero_of_info inf32
 have h3 := Rw.new w (ints .u8 pk) 22
 have hW := below_new w (.cells (ints .u8 pk).toArray 22)
 replace hT := hT.next hW
 replace hX := hX.below hW
 replace hG1 := hG1.below hW
 replace hG2 := hG2.below hW
 go_enter Tryd.func6, Tryd.ntmps6
 go_upto_region 1 with (fail)
 generalize w.alloc (.cells (ints .u8 pk).toArray 22) = w0 at *
 have s0 := hW.size
 refine rSeq 3 50 (fun _ => false) [Is (.slice (some ⟨b2, o2, none⟩) 64 c2), Is (.int .i64 64), Is (.bool false)] [12, 13, 14] (gC (gC (gC grows_nil)))
   ⟨step_mvP rfl (.inl rfl) rfl rfl (kO 2 rfl),
    step_len rfl (.inl rfl) usl rfl rfl (kI 0 12 rfl rfl),
    step_neC rfl (.inl rfl) rfl Tryd.underlying3 rfl (by decide) (kI 1 13 rfl rfl), trivial⟩ ?_
 intro val w1 hw hS hap hla
 simp only [pA, pB, pC, pD, pE, Act.put, pG, pH, pI, eVal hS 0 12 rfl rfl, eVal hS 1 13 rfl rfl, eVal hS 2 14 rfl rfl]
 clear hS hap hla
 replace hT := hT.next hw
 replace hX := hX.below hw
 replace hG1 := hG1.below hw
 replace hG2 := hG2.below hw
 replace h3 := h3.next hw
 replace hW := bT hW hw
 clear hw
 go_upto_region 3 with (fail)
 have s1 := hW.size
 refine rSeq 6 50 (fun i => i == 5) [Is (.agg (ints .u8 pk).toArray), Is (.tuple #[(.agg (ints .i64 (zeros 64)).toArray), (.int .i64 21)]), Is (.tuple #[(.agg (ints .i64 (zeros 64)).toArray), (.int .i64 21)]), IsL (zeros 64), Is (.int .i64 21), IsZV w1.heap.size (ints .i64 (zeros 64))] [16, 17, 15, 18, 19, 7] (gC (gC (gC (gC (gC (grows_cons (IsZV.grows _ _) grows_nil))))))
   ⟨step_ldV rfl (.inl rfl) (fun _ hw => (h3.next hw).range) rfl Tryd.underlying22 rfl (szV inf32 (il HPK.out)) rfl (kO 3 rfl),
    step_toP rfl (.inl rfl) rfl cx7 hT.p kof rfl (one_arg (kI 0 16 rfl rfl)),
    step_mvP rfl (.inl rfl) rfl rfl (kI 1 17 rfl rfl),
    step_fst rfl (.inl rfl) rfl rfl (kI 2 15 rfl rfl),
    step_snd rfl (.inl rfl) rfl rfl (kI 2 15 rfl rfl),
    step_allocV (.inl rfl) infP rfl rfl, trivial⟩ ?_
 intro val w2 hw hS hap hla
 obtain ⟨b7, e7, L7, Z7⟩ := hS 5 7 (by decide) rfl
 simp only [pA, pB, pC, pD, pE, Act.put, pG, pH, pI, eVal hS 0 16 rfl rfl, eVal hS 1 17 rfl rfl, eVal hS 2 15 rfl rfl, eVal hS 3 18 rfl rfl, eVal hS 4 19 rfl rfl, e7]
 clear hS hap hla e7
 have LL7 := hid (show ((ints .i64 (zeros 64))).length = 64 from (il (zeros_len 64)))
 have R7 := Z7.roomA (us := (ints .i64 (zeros 64))) (LL7.out.trans (zv .i64 64).symm)
 have h7 := Z7.storedA (us := (ints .i64 (zeros 64))) (LL7.out.trans (zv .i64 64).symm)
 have hu := Below.setCells hw L7 0 (ints .i64 (zeros 64)).toArray.toList
 replace hT := hT.next hu
 replace hX := hX.below hu
 replace hG1 := hG1.below hu
 replace hG2 := hG2.below hu
 replace h3 := h3.next hu
 replace hW := bT hW hu
 clear hu
 with_reducible refine wpList_store_mid (op := ⟨none, .store 31 (.tmp 7) (.tmp 18), _, _, _, _⟩) rfl 31 (.tmp 7) (.tmp 18) rfl b7 0 (ints .i64 (zeros 64)).toArray rfl rfl R7 (szA infP LL7.out) (ints_all _ _) ?_
 generalize (w2.setCells b7 0 (ints .i64 (zeros 64)).toArray.toList) = w3 at *
 clear hw R7 LL7 Z7 L7
 go_upto_region 4 with (fail)
 go_wp2_with (fail)
 go_ret
 exact ⟨rfl, hW⟩
theorem verify_big {pk tx fi se rr : List Int} (HPK : Hid (pk.length = 32)) (HPKB : Hid (Byt pk)) (HF : Hid (fi.length = 32)) (HFB : Hid (Byt fi)) (HE : Hid (se.length = 32)) (HEB : Hid (Byt se)) {A : Option Addr} {m c b2 o2 c2 : Nat} (HC2 : Hid (64 ≤ c2)) (HXL : Hid (tx.length = m)) (HXC : Hid (m ≤ c)) (HX3 : Hid (m ≤ 1000)) (HXB : Hid (Byt tx)) (HRR : Hid (rr.length = 64)) (kof : CallsP 7 #[.agg (ints .u8 pk).toArray] (.tuple #[.agg (ints .i64 rr).toArray, .int .i64 0])) (kri : CallsQ 18 #[.agg (ints .u8 se).toArray] (.bool false)) (w : World) (hT : TabsA w) (hX : Nums w .u8 A tx) (hG1 : Nums w .u8 (some ⟨b2, o2, none⟩) fi) (hG2 : Nums w .u8 (some ⟨b2, o2 + 32, none⟩) se) : Calls Tryd.prog 6 #[.agg (ints .u8 pk).toArray, .slice A m c, .slice (some ⟨b2, o2, none⟩) 64 c2] w fun e w' => e = .returned (.int .i64 22) ∧ Below w.heap.size w w' := by
 obtain ⟨z3_, s3_⟩ := zero_of_info inf32
 have h3 := Rw.new w (ints .u8 pk) 22
 have hW := below_new w (.cells (ints .u8 pk).toArray 22)
 replace hT := hT.next hW
 replace hX := hX.below hW
 replace hG1 := hG1.below hW
 replace hG2 := hG2.below hW
 go_enter Tryd.func6, Tryd.ntmps6
 go_upto_region 1 with (fail)
 generalize w.alloc (.cells (ints .u8 pk).toArray 22) = w0 at *
 have s0 := hW.size
 refine rSeq 3 50 (fun _ => false) [Is (.slice (some ⟨b2, o2, none⟩) 64 c2), Is (.int .i64 64), Is (.bool false)] [12, 13, 14] (gC (gC (gC grows_nil)))
   ⟨step_mvP rfl (.inl rfl) rfl rfl (kO 2 rfl),
    step_len rfl (.inl rfl) usl rfl rfl (kI 0 12 rfl rfl),
    step_neC rfl (.inl rfl) rfl Tryd.underlying3 rfl (by decide) (kI 1 13 rfl rfl), trivial⟩ ?_
 intro val w1 hw hS hap hla
 simp only [pA, pB, pC, pD, pE, Act.put, pG, pH, pI, eVal hS 0 12 rfl rfl, eVal hS 1 13 rfl rfl, eVal hS 2 14 rfl rfl]
 clear hS hap hla
 replace hT := hT.next hw
 replace hX := hX.below hw
 replace hG1 := hG1.below hw
 replace hG2 := hG2.below hw
 replace h3 := h3.next hw
 replace hW := bT hW hw
 clear hw
 go_upto_region 3 with (fail)
 have s1 := hW.size
 refine rSeq 6 50 (fun i => i == 5) [Is (.agg (ints .u8 pk).toArray), Is (.tuple #[(.agg (ints .i64 rr).toArray), (.int .i64 0)]), Is (.tuple #[(.agg (ints .i64 rr).toArray), (.int .i64 0)]), IsL rr, Is (.int .i64 0), IsZV w1.heap.size (ints .i64 (zeros 64))] [16, 17, 15, 18, 19, 7] (gC (gC (gC (gC (gC (grows_cons (IsZV.grows _ _) grows_nil))))))
   ⟨step_ldV rfl (.inl rfl) (fun _ hw => (h3.next hw).range) rfl Tryd.underlying22 rfl (szV inf32 (il HPK.out)) rfl (kO 3 rfl),
    step_toP rfl (.inl rfl) rfl cx7 hT.p kof rfl (one_arg (kI 0 16 rfl rfl)),
    step_mvP rfl (.inl rfl) rfl rfl (kI 1 17 rfl rfl),
    step_fst rfl (.inl rfl) rfl rfl (kI 2 15 rfl rfl),
    step_snd rfl (.inl rfl) rfl rfl (kI 2 15 rfl rfl),
    step_allocV (.inl rfl) infP rfl rfl, trivial⟩ ?_
 intro val w2 hw hS hap hla
 obtain ⟨b7, e7, L7, Z7⟩ := hS 5 7 (by decide) rfl
 simp only [pA, pB, pC, pD, pE, Act.put, pG, pH, pI, eVal hS 0 16 rfl rfl, eVal hS 1 17 rfl rfl, eVal hS 2 15 rfl rfl, eVal hS 3 18 rfl rfl, eVal hS 4 19 rfl rfl, e7]
 clear hS hap hla e7
 have LL7 := hid (show ((ints .i64 rr)).length = 64 from (il HRR.out))
 have R7 := Z7.roomA (us := (ints .i64 rr)) (LL7.out.trans (zv .i64 64).symm)
 have h7 := Z7.storedA (us := (ints .i64 rr)) (LL7.out.trans (zv .i64 64).symm)
 have hu := Below.setCells hw L7 0 (ints .i64 rr).toArray.toList
 replace hT := hT.next hu
 replace hX := hX.below hu
 replace hG1 := hG1.below hu
 replace hG2 := hG2.below hu
 replace h3 := h3.next hu
 replace hW := bT hW hu
 clear hu
 with_reducible refine wpList_store_mid (op := ⟨none, .store 31 (.tmp 7) (.tmp 18), _, _, _, _⟩) rfl 31 (.tmp 7) (.tmp 18) rfl b7 0 (ints .i64 rr).toArray rfl rfl R7 (szA infP LL7.out) (ints_all _ _) ?_
 generalize (w2.setCells b7 0 (ints .i64 rr).toArray.toList) = w3 at *
 clear hw R7 LL7 Z7 L7
 go_upto_region 4 with (fail)
 have s3 := hW.size
 refine rSeq 2 50 (fun _ => false) [Is (.int .i64 0), Is (.bool false)] [20, 21] (gC (gC grows_nil))
   ⟨step_mvP rfl (.inl rfl) rfl rfl (kO 8 rfl),
    step_neC rfl (.inl rfl) rfl Tryd.underlying25 rfl (by decide) (kI 0 20 rfl rfl), trivial⟩ ?_
 intro val w4 hw hS hap hla
 simp only [pA, pB, pC, pD, pE, Act.put, pG, pH, pI, eVal hS 0 20 rfl rfl, eVal hS 1 21 rfl rfl]
 clear hS hap hla
 replace hT := hT.next hw
 replace hX := hX.below hw
 replace hG1 := hG1.below hw
 replace hG2 := hG2.below hw
 replace h3 := h3.next hw
 replace h7 := h7.next hw
 replace hW := bT hW hw
 clear hw
 go_wp2_with (fail)
 have s4 := hW.size
 refine rSpec 10 50 (fun i => i == 8 || i == 9) [Is (.slice (some ⟨b2, o2, none⟩) 64 c2), Is (.slice (some ⟨b2, o2, none⟩) 32 c2), Is (.pointer (some ⟨b2, o2, none⟩)), Is (.agg (ints .u8 fi).toArray), Is (.slice (some ⟨b2, o2, none⟩) 64 c2), Is (.slice (some ⟨b2, o2 + 32, none⟩) 32 (c2 - 32)), Is (.pointer (some ⟨b2, o2 + 32, none⟩)), Is (.agg (ints .u8 se).toArray), IsZV w4.heap.size (ints .u8 (zeros 32)), IsZV w4.heap.size (ints .u8 (zeros 32))] [23, 24, 25, 26, 27, 28, 29, 30, 9, 10] (gC (gC (gC (gC (gC (gC (gC (gC (grows_cons (IsZV.grows _ _) (grows_cons (IsZV.grows _ _) grows_nil))))))))))
   ⟨step_mvP rfl (.inl rfl) rfl rfl (kO 2 rfl),
    step_one rfl (.inl rfl) (fun ev w h hc => ex_slSh (P := Tryd.prog) usl zsl (h := 32) (by have := HC2.out; omega) rfl (.inr (by decide)) ev w h hc) rfl (kI 0 23 rfl rfl),
    step_one rfl (.inl rfl) (fun ev w h hc => ex_arrP (P := Tryd.prog) Tryd.underlying22 (by decide) rfl ev w h hc) rfl (kI 1 24 rfl rfl),
    step_ldV rfl (.inl rfl) (fun _ hw => (hG1.below hw).range) rfl Tryd.underlying22 rfl (szV inf32 (il HF.out)) rfl (kI 2 25 rfl rfl),
    step_mvP rfl (.inl rfl) rfl rfl (kO 2 rfl),
    step_one rfl (.inl rfl) (fun ev w h hc => ex_slSl (P := Tryd.prog) usl zsl (l := 32) (by decide) (by have := HC2.out; omega) rfl rfl rfl rfl ev w h hc) rfl (kI 4 27 rfl rfl),
    step_one rfl (.inl rfl) (fun ev w h hc => ex_arrP (P := Tryd.prog) Tryd.underlying22 (by decide) rfl ev w h hc) rfl (kI 5 28 rfl rfl),
    step_ldV rfl (.inl rfl) (fun _ hw => (hG2.below hw).range) rfl Tryd.underlying22 rfl (szV inf32 (il HE.out)) rfl (kI 6 29 rfl rfl),
    step_allocV (.inl rfl) inf32 rfl rfl,
    step_allocV (.inl rfl) inf32 rfl rfl, trivial⟩ ?_
 intro val w5 hw hS hap hla
 obtain ⟨b9, e9, L9, Z9⟩ := hS 8 9 (by decide) rfl
 obtain ⟨b10, e10, L10, Z10⟩ := hS 9 10 (by decide) rfl
 have ne9_10 : b9 ≠ b10 := fun e => hap 8 9 9 10 (by decide) (by decide) rfl rfl (by decide) rfl rfl (by rw [e9, e10, e])
 simp only [pA, pB, pC, pD, pE, Act.put, pG, pH, pI, eVal hS 0 23 rfl rfl, eVal hS 1 24 rfl rfl, eVal hS 2 25 rfl rfl, eVal hS 3 26 rfl rfl, eVal hS 4 27 rfl rfl, eVal hS 5 28 rfl rfl, eVal hS 6 29 rfl rfl, eVal hS 7 30 rfl rfl, e9, e10]
 clear hS hap hla e9 e10
 have LL9 := hid (show ((ints .u8 fi)).length = 32 from (il HF.out))
 have R9 := Z9.roomA (us := (ints .u8 fi)) (LL9.out.trans (zv .u8 32).symm)
 have h9 := Z9.storedA (us := (ints .u8 fi)) (LL9.out.trans (zv .u8 32).symm)
 replace Z10 := Z10.pastA ne9_10 0 (ints .u8 fi)
 have LL10 := hid (show ((ints .u8 se)).length = 32 from (il HE.out))
 have R10 := Z10.roomA (us := (ints .u8 se)) (LL10.out.trans (zv .u8 32).symm)
 have h10 := Z10.storedA (us := (ints .u8 se)) (LL10.out.trans (zv .u8 32).symm)
 replace h9 := h9.pastA (Ne.symm ne9_10) 0 (ints .u8 se)
 have hu := Below.setCells (Below.setCells hw L9 0 (ints .u8 fi).toArray.toList) L10 0 (ints .u8 se).toArray.toList
 replace hT := hT.next hu
 replace hX := hX.below hu
 replace hG1 := hG1.below hu
 replace hG2 := hG2.below hu
 replace h3 := h3.next hu
 replace h7 := h7.next hu
 replace hW := bT hW hu
 clear hu
 with_reducible refine wpList_store_mid (op := ⟨none, .store 22 (.tmp 9) (.tmp 26), _, _, _, _⟩) rfl 22 (.tmp 9) (.tmp 26) rfl b9 0 (ints .u8 fi).toArray rfl rfl R9 (szA inf32 LL9.out) (ints_all _ _) ?_
 with_reducible refine wpList_store_mid (op := ⟨none, .store 22 (.tmp 10) (.tmp 30), _, _, _, _⟩) rfl 22 (.tmp 10) (.tmp 30) rfl b10 0 (ints .u8 se).toArray rfl rfl R10 (szA inf32 LL10.out) (ints_all _ _) ?_
 generalize ((w5.setCells b9 0 (ints .u8 fi).toArray.toList).setCells b10 0 (ints .u8 se).toArray.toList) = w6 at *
 clear hw R9 LL9 Z9 L9 R10 LL10 Z10 L10
 go_upto_region 7 with (fail)
 have s6 := hW.size
 refine rSeq 3 50 (fun _ => false) [Is (.agg (ints .u8 se).toArray), Is (.bool false), Is (.bool true)] [31, 32, 33] (gC (gC (gC grows_nil)))
   ⟨step_ldV rfl (.inl rfl) (fun _ hw => (h10.next hw).range) rfl Tryd.underlying22 rfl (szV inf32 (il HE.out)) rfl (kO 10 rfl),
    step_toQ rfl (.inl rfl) rfl cx18 hT.q kri rfl (one_arg (kI 0 31 rfl rfl)),
    step_not rfl (.inl rfl) (b := false) rfl rfl (kI 1 32 rfl rfl), trivial⟩ ?_
 intro val w7 hw hS hap hla
 simp only [pA, pB, pC, pD, pE, Act.put, pG, pH, pI, eVal hS 0 31 rfl rfl, eVal hS 1 32 rfl rfl, eVal hS 2 33 rfl rfl]
 clear hS hap hla
 replace hT := hT.next hw
 replace hX := hX.below hw
 replace hG1 := hG1.below hw
 replace hG2 := hG2.below hw
 replace h3 := h3.next hw
 replace h7 := h7.next hw
 replace h9 := h9.next hw
 replace h10 := h10.next hw
 replace hW := bT hW hw
 clear hw
 go_wp2_with (fail)
 go_ret
 exact ⟨rfl, hW⟩
theorem verify_core {pk tx fi se rr kk bb m1 m2 m3 m4 ys : List Int} {dd : Bool} (HPK : Hid (pk.length = 32)) (HPKB : Hid (Byt pk)) (HF : Hid (fi.length = 32)) (HFB : Hid (Byt fi)) (HE : Hid (se.length = 32)) (HEB : Hid (Byt se)) {A : Option Addr} {m c b2 o2 c2 : Nat} (HC2 : Hid (64 ≤ c2)) (HXL : Hid (tx.length = m)) (HXC : Hid (m ≤ c)) (HX3 : Hid (m ≤ 1000)) (HXB : Hid (Byt tx)) (HRR : Hid (rr.length = 64)) (kof : CallsP 7 #[.agg (ints .u8 pk).toArray] (.tuple #[.agg (ints .i64 rr).toArray, .int .i64 0])) (kri : CallsQ 18 #[.agg (ints .u8 se).toArray] (.bool true)) (HK : Hid (kk.length = 32)) (HKB : Hid (Byt kk)) (HKE : Hid (scal (fi ++ (pk ++ tx)) = kk)) (HBB : Hid (bb.length = 64)) (HM1 : Hid (m1.length = 64)) (HM2 : Hid (m2.length = 64)) (HM3 : Hid (m3.length = 64)) (HM4 : Hid (m4.length = 64)) (HY : Hid (ys.length = 32))
   (kb : CallsP 20 #[] (.agg (ints .i64 bb).toArray)) (km1 : CallsP 14 #[.agg (ints .i64 bb).toArray, .agg (ints .u8 se).toArray] (.agg (ints .i64 m1).toArray)) (km2 : CallsP 14 #[.agg (ints .i64 rr).toArray, .agg (ints .u8 kk).toArray] (.agg (ints .i64 m2).toArray)) (kneg : CallsTo 21 #[.agg (ints .i64 m2).toArray] (.agg (ints .i64 m3).toArray)) (kadd : CallsP 13 #[.agg (ints .i64 m1).toArray, .agg (ints .i64 m3).toArray] (.agg (ints .i64 m4).toArray)) (kby : CallsTo 15 #[.agg (ints .i64 m4).toArray] (.agg (ints .u8 ys).toArray)) (HD : Hid (decide (ys = fi) = dd)) (w : World) (hT : TabsA w) (hX : Nums w .u8 A tx) (hG1 : Nums w .u8 (some ⟨b2, o2, none⟩) fi) (hG2 : Nums w .u8 (some ⟨b2, o2 + 32, none⟩) se) : Calls Tryd.prog 6 #[.agg (ints .u8 pk).toArray, .slice A m c, .slice (some ⟨b2, o2, none⟩) 64 c2] w fun e w' => e = .returned (.int .i64 (if dd then 0 else 22)) ∧ Below w.heap.size w w' := by
 obtain ⟨z3_, s3_⟩ := zero_of_info inf32
 have h3 := Rw.new w (ints .u8 pk) 22
 have hW := below_new w (.cells (ints .u8 pk).toArray 22)
 replace hT := hT.next hW
 replace hX := hX.below hW
 replace hG1 := hG1.below hW
 replace hG2 := hG2.below hW
 go_enter Tryd.func6, Tryd.ntmps6
 go_upto_region 1 with (fail)
 generalize w.alloc (.cells (ints .u8 pk).toArray 22) = w0 at *
 have s0 := hW.size
 refine rSeq 3 50 (fun _ => false) [Is (.slice (some ⟨b2, o2, none⟩) 64 c2), Is (.int .i64 64), Is (.bool false)] [12, 13, 14] (gC (gC (gC grows_nil)))
   ⟨step_mvP rfl (.inl rfl) rfl rfl (kO 2 rfl),
    step_len rfl (.inl rfl) usl rfl rfl (kI 0 12 rfl rfl),
    step_neC rfl (.inl rfl) rfl Tryd.underlying3 rfl (by decide) (kI 1 13 rfl rfl), trivial⟩ ?_
 intro val w1 hw hS hap hla
 simp only [pA, pB, pC, pD, pE, Act.put, pG, pH, pI, eVal hS 0 12 rfl rfl, eVal hS 1 13 rfl rfl, eVal hS 2 14 rfl rfl]
 clear hS hap hla
 replace hT := hT.next hw
 replace hX := hX.below hw
 replace hG1 := hG1.below hw
 replace hG2 := hG2.below hw
 replace h3 := h3.next hw
 replace hW := bT hW hw
 clear hw
 go_upto_region 3 with (fail)
 have s1 := hW.size
 refine rSeq 6 50 (fun i => i == 5) [Is (.agg (ints .u8 pk).toArray), Is (.tuple #[(.agg (ints .i64 rr).toArray), (.int .i64 0)]), Is (.tuple #[(.agg (ints .i64 rr).toArray), (.int .i64 0)]), IsL rr, Is (.int .i64 0), IsZV w1.heap.size (ints .i64 (zeros 64))] [16, 17, 15, 18, 19, 7] (gC (gC (gC (gC (gC (grows_cons (IsZV.grows _ _) grows_nil))))))
   ⟨step_ldV rfl (.inl rfl) (fun _ hw => (h3.next hw).range) rfl Tryd.underlying22 rfl (szV inf32 (il HPK.out)) rfl (kO 3 rfl),
    step_toP rfl (.inl rfl) rfl cx7 hT.p kof rfl (one_arg (kI 0 16 rfl rfl)),
    step_mvP rfl (.inl rfl) rfl rfl (kI 1 17 rfl rfl),
    step_fst rfl (.inl rfl) rfl rfl (kI 2 15 rfl rfl),
    step_snd rfl (.inl rfl) rfl rfl (kI 2 15 rfl rfl),
    step_allocV (.inl rfl) infP rfl rfl, trivial⟩ ?_
 intro val w2 hw hS hap hla
 obtain ⟨b7, e7, L7, Z7⟩ := hS 5 7 (by decide) rfl
 simp only [pA, pB, pC, pD, pE, Act.put, pG, pH, pI, eVal hS 0 16 rfl rfl, eVal hS 1 17 rfl rfl, eVal hS 2 15 rfl rfl, eVal hS 3 18 rfl rfl, eVal hS 4 19 rfl rfl, e7]
 clear hS hap hla e7
 have LL7 := hid (show ((ints .i64 rr)).length = 64 from (il HRR.out))
 have R7 := Z7.roomA (us := (ints .i64 rr)) (LL7.out.trans (zv .i64 64).symm)
 have h7 := Z7.storedA (us := (ints .i64 rr)) (LL7.out.trans (zv .i64 64).symm)
 have hu := Below.setCells hw L7 0 (ints .i64 rr).toArray.toList
 replace hT := hT.next hu
 replace hX := hX.below hu
 replace hG1 := hG1.below hu
 replace hG2 := hG2.below hu
 replace h3 := h3.next hu
 replace hW := bT hW hu
 clear hu
 with_reducible refine wpList_store_mid (op := ⟨none, .store 31 (.tmp 7) (.tmp 18), _, _, _, _⟩) rfl 31 (.tmp 7) (.tmp 18) rfl b7 0 (ints .i64 rr).toArray rfl rfl R7 (szA infP LL7.out) (ints_all _ _) ?_
 generalize (w2.setCells b7 0 (ints .i64 rr).toArray.toList) = w3 at *
 clear hw R7 LL7 Z7 L7
 go_upto_region 4 with (fail)
 have s3 := hW.size
 refine rSeq 2 50 (fun _ => false) [Is (.int .i64 0), Is (.bool false)] [20, 21] (gC (gC grows_nil))
   ⟨step_mvP rfl (.inl rfl) rfl rfl (kO 8 rfl),
    step_neC rfl (.inl rfl) rfl Tryd.underlying25 rfl (by decide) (kI 0 20 rfl rfl), trivial⟩ ?_
 intro val w4 hw hS hap hla
 simp only [pA, pB, pC, pD, pE, Act.put, pG, pH, pI, eVal hS 0 20 rfl rfl, eVal hS 1 21 rfl rfl]
 clear hS hap hla
 replace hT := hT.next hw
 replace hX := hX.below hw
 replace hG1 := hG1.below hw
 replace hG2 := hG2.below hw
 replace h3 := h3.next hw
 replace h7 := h7.next hw
 replace hW := bT hW hw
 clear hw
 go_wp2_with (fail)
 have s4 := hW.size
 refine rSpec 10 50 (fun i => i == 8 || i == 9) [Is (.slice (some ⟨b2, o2, none⟩) 64 c2), Is (.slice (some ⟨b2, o2, none⟩) 32 c2), Is (.pointer (some ⟨b2, o2, none⟩)), Is (.agg (ints .u8 fi).toArray), Is (.slice (some ⟨b2, o2, none⟩) 64 c2), Is (.slice (some ⟨b2, o2 + 32, none⟩) 32 (c2 - 32)), Is (.pointer (some ⟨b2, o2 + 32, none⟩)), Is (.agg (ints .u8 se).toArray), IsZV w4.heap.size (ints .u8 (zeros 32)), IsZV w4.heap.size (ints .u8 (zeros 32))] [23, 24, 25, 26, 27, 28, 29, 30, 9, 10] (gC (gC (gC (gC (gC (gC (gC (gC (grows_cons (IsZV.grows _ _) (grows_cons (IsZV.grows _ _) grows_nil))))))))))
   ⟨step_mvP rfl (.inl rfl) rfl rfl (kO 2 rfl),
    step_one rfl (.inl rfl) (fun ev w h hc => ex_slSh (P := Tryd.prog) usl zsl (h := 32) (by have := HC2.out; omega) rfl (.inr (by decide)) ev w h hc) rfl (kI 0 23 rfl rfl),
    step_one rfl (.inl rfl) (fun ev w h hc => ex_arrP (P := Tryd.prog) Tryd.underlying22 (by decide) rfl ev w h hc) rfl (kI 1 24 rfl rfl),
    step_ldV rfl (.inl rfl) (fun _ hw => (hG1.below hw).range) rfl Tryd.underlying22 rfl (szV inf32 (il HF.out)) rfl (kI 2 25 rfl rfl),
    step_mvP rfl (.inl rfl) rfl rfl (kO 2 rfl),
    step_one rfl (.inl rfl) (fun ev w h hc => ex_slSl (P := Tryd.prog) usl zsl (l := 32) (by decide) (by have := HC2.out; omega) rfl rfl rfl rfl ev w h hc) rfl (kI 4 27 rfl rfl),
    step_one rfl (.inl rfl) (fun ev w h hc => ex_arrP (P := Tryd.prog) Tryd.underlying22 (by decide) rfl ev w h hc) rfl (kI 5 28 rfl rfl),
    step_ldV rfl (.inl rfl) (fun _ hw => (hG2.below hw).range) rfl Tryd.underlying22 rfl (szV inf32 (il HE.out)) rfl (kI 6 29 rfl rfl),
    step_allocV (.inl rfl) inf32 rfl rfl,
    step_allocV (.inl rfl) inf32 rfl rfl, trivial⟩ ?_
 intro val w5 hw hS hap hla
 obtain ⟨b9, e9, L9, Z9⟩ := hS 8 9 (by decide) rfl
 obtain ⟨b10, e10, L10, Z10⟩ := hS 9 10 (by decide) rfl
 have ne9_10 : b9 ≠ b10 := fun e => hap 8 9 9 10 (by decide) (by decide) rfl rfl (by decide) rfl rfl (by rw [e9, e10, e])
 simp only [pA, pB, pC, pD, pE, Act.put, pG, pH, pI, eVal hS 0 23 rfl rfl, eVal hS 1 24 rfl rfl, eVal hS 2 25 rfl rfl, eVal hS 3 26 rfl rfl, eVal hS 4 27 rfl rfl, eVal hS 5 28 rfl rfl, eVal hS 6 29 rfl rfl, eVal hS 7 30 rfl rfl, e9, e10]
 clear hS hap hla e9 e10
 have LL9 := hid (show ((ints .u8 fi)).length = 32 from (il HF.out))
 have R9 := Z9.roomA (us := (ints .u8 fi)) (LL9.out.trans (zv .u8 32).symm)
 have h9 := Z9.storedA (us := (ints .u8 fi)) (LL9.out.trans (zv .u8 32).symm)
 replace Z10 := Z10.pastA ne9_10 0 (ints .u8 fi)
 have LL10 := hid (show ((ints .u8 se)).length = 32 from (il HE.out))
 have R10 := Z10.roomA (us := (ints .u8 se)) (LL10.out.trans (zv .u8 32).symm)
 have h10 := Z10.storedA (us := (ints .u8 se)) (LL10.out.trans (zv .u8 32).symm)
 replace h9 := h9.pastA (Ne.symm ne9_10) 0 (ints .u8 se)
 have hu := Below.setCells (Below.setCells hw L9 0 (ints .u8 fi).toArray.toList) L10 0 (ints .u8 se).toArray.toList
 replace hT := hT.next hu
 replace hX := hX.below hu
 replace hG1 := hG1.below hu
 replace hG2 := hG2.below hu
 replace h3 := h3.next hu
 replace h7 := h7.next hu
 replace hW := bT hW hu
 clear hu
 with_reducible refine wpList_store_mid (op := ⟨none, .store 22 (.tmp 9) (.tmp 26), _, _, _, _⟩) rfl 22 (.tmp 9) (.tmp 26) rfl b9 0 (ints .u8 fi).toArray rfl rfl R9 (szA inf32 LL9.out) (ints_all _ _) ?_
 with_reducible refine wpList_store_mid (op := ⟨none, .store 22 (.tmp 10) (.tmp 30), _, _, _, _⟩) rfl 22 (.tmp 10) (.tmp 30) rfl b10 0 (ints .u8 se).toArray rfl rfl R10 (szA inf32 LL10.out) (ints_all _ _) ?_
 generalize ((w5.setCells b9 0 (ints .u8 fi).toArray.toList).setCells b10 0 (ints .u8 se).toArray.toList) = w6 at *
 clear hw R9 LL9 Z9 L9 R10 LL10 Z10 L10
 go_upto_region 7 with (fail)
 have s6 := hW.size
 refine rSeq 3 50 (fun _ => false) [Is (.agg (ints .u8 se).toArray), Is (.bool true), Is (.bool false)] [31, 32, 33] (gC (gC (gC grows_nil)))
   ⟨step_ldV rfl (.inl rfl) (fun _ hw => (h10.next hw).range) rfl Tryd.underlying22 rfl (szV inf32 (il HE.out)) rfl (kO 10 rfl),
    step_toQ rfl (.inl rfl) rfl cx18 hT.q kri rfl (one_arg (kI 0 31 rfl rfl)),
    step_not rfl (.inl rfl) (b := true) rfl rfl (kI 1 32 rfl rfl), trivial⟩ ?_
 intro val w7 hw hS hap hla
 simp only [pA, pB, pC, pD, pE, Act.put, pG, pH, pI, eVal hS 0 31 rfl rfl, eVal hS 1 32 rfl rfl, eVal hS 2 33 rfl rfl]
 clear hS hap hla
 replace hT := hT.next hw
 replace hX := hX.below hw
 replace hG1 := hG1.below hw
 replace hG2 := hG2.below hw
 replace h3 := h3.next hw
 replace h7 := h7.next hw
 replace h9 := h9.next hw
 replace h10 := h10.next hw
 replace hW := bT hW hw
 clear hw
 go_wp2_with (fail)
 have s7 := hW.size
 refine rSpec 6 50 (fun i => i == 3 || i == 5) [Is (.slice (some ⟨b9, 0, none⟩) 32 32), Is (.slice (some ⟨w.heap.size, 0, none⟩) 32 32), Is (.slice A m c), IsRowV w7.heap.size 3 [(.slice (some ⟨b9, 0, none⟩) 32 32), (.slice (some ⟨w.heap.size, 0, none⟩) 32 32), (.slice A m c)], Is (.agg (ints .u8 kk).toArray), IsZV w7.heap.size (ints .u8 (zeros 32))] [34, 35, 36, 37, 38, 11] (gC (gC (gC (grows_cons (IsRowV.grows _ _ _) (gC (grows_cons (IsZV.grows _ _) grows_nil))))))
   ⟨step_one rfl (.inl rfl) (fun ev w h hc => ex_slA (P := Tryd.prog) u32 z32 (m := 32) rfl rfl ev w h hc) rfl (kO 9 rfl),
    step_one rfl (.inl rfl) (fun ev w h hc => ex_slA (P := Tryd.prog) u32 z32 (m := 32) rfl rfl ev w h hc) rfl (kO 3 rfl),
    step_mvP rfl (.inl rfl) rfl rfl (kO 1 rfl),
    step_bsl (.inl rfl) rfl Tryd.underlying78 infSl (by decide) (by decide) (vs := [(.slice (some ⟨b9, 0, none⟩) 32 32), (.slice (some ⟨w.heap.size, 0, none⟩) 32 32), (.slice A m c)]) (by kernel_rfl) rfl (parts3 (kI 0 34 rfl rfl) (kI 1 35 rfl rfl) (kI 2 36 rfl rfl)),
    step_cw rfl (.inl rfl) rfl cx19 rfl (fun aa ww hw hf hd => by
      obtain ⟨b, e, _, hR⟩ := ((knowsW_in 3 37 (by decide) (by kernel_rfl) rfl rfl) : KnowsW _ _ _ _ _ _ _ _ (IsRowV _ 3 [(.slice (some ⟨b9, 0, none⟩) 32 32), (.slice (some ⟨w.heap.size, 0, none⟩) 32 32), (.slice A m c)])) aa ww hw hf hd
      have h := sc3 (hT.next hw) hR ⟨HF.out, by decide, by decide, HFB.out, ((h9.next hw)).nums⟩ ⟨HPK.out, by decide, by decide, HPKB.out, ((h3.next hw)).nums⟩ ⟨HXL.out, HXC.out, (by have := HX3.out; omega), HXB.out, hX.below hw⟩
      rw [HKE.out] at h
      exact ⟨_, by rw [map1, e], h⟩),
    step_allocV (.inl rfl) inf32 rfl rfl, trivial⟩ ?_
 intro val w8 hw hS hap hla
 have e34 := eVal hS 0 34 rfl rfl
 have e35 := eVal hS 1 35 rfl rfl
 have e36 := eVal hS 2 36 rfl rfl
 obtain ⟨b37, e37, L37, Z37⟩ := hS 3 37 (by decide) rfl
 have e38 := eVal hS 4 38 rfl rfl
 obtain ⟨b11, e11, L11, Z11⟩ := hS 5 11 (by decide) rfl
 simp only [pA, pB, pC, pD, pE, Act.put, pG, pH, pI, e34, e35, e36, e37, e38, e11]
 clear hS hap hla e34 e35 e36 e37 e38 e11 L37 Z37
 have LL11 := hid (show ((ints .u8 kk)).length = 32 from (il HK.out))
 have R11 := Z11.roomA (us := (ints .u8 kk)) (LL11.out.trans (zv .u8 32).symm)
 have h11 := Z11.storedA (us := (ints .u8 kk)) (LL11.out.trans (zv .u8 32).symm)
 have hu := Below.setCells hw L11 0 (ints .u8 kk).toArray.toList
 replace hT := hT.next hu
 replace hX := hX.below hu
 replace hG1 := hG1.below hu
 replace hG2 := hG2.below hu
 replace h3 := h3.next hu
 replace h7 := h7.next hu
 replace h9 := h9.next hu
 replace h10 := h10.next hu
 replace hW := bT hW hu
 clear hu
 with_reducible refine wpList_store_mid (op := ⟨none, .store 22 (.tmp 11) (.tmp 38), _, _, _, _⟩) rfl 22 (.tmp 11) (.tmp 38) rfl b11 0 (ints .u8 kk).toArray rfl rfl R11 (szA inf32 LL11.out) (ints_all _ _) ?_
 generalize (w8.setCells b11 0 (ints .u8 kk).toArray.toList) = w9 at *
 clear hw R11 LL11 Z11 L11
 go_wp2_with (fail)
 have s9 := hW.size
 refine rSpec 10 50 (fun _ => false) [IsL bb, Is (.agg (ints .u8 se).toArray), IsL m1, IsL rr, Is (.agg (ints .u8 kk).toArray), IsL m2, IsL m3, IsL m4, Is (.agg (ints .u8 ys).toArray), Is (.agg (ints .u8 fi).toArray)] [39, 40, 41, 42, 43, 44, 45, 46, 47, 48] (gC (gC (gC (gC (gC (gC (gC (gC (gC (gC grows_nil))))))))))
   ⟨step_toP rfl (.inl rfl) rfl cx20 hT.p kb rfl (no_args),
    step_ldV rfl (.inl rfl) (fun _ hw => (h10.next hw).range) rfl Tryd.underlying22 rfl (szV inf32 (il HE.out)) rfl (kO 10 rfl),
    step_toP rfl (.inl rfl) rfl cx14 hT.p km1 rfl (two_args (kI 0 39 rfl rfl) (kI 1 40 rfl rfl)),
    step_ldV rfl (.inl rfl) (fun _ hw => (h7.next hw).range) rfl Tryd.underlying31 rfl (szV infP (il HRR.out)) rfl (kO 7 rfl),
    step_ldV rfl (.inl rfl) (fun _ hw => (h11.next hw).range) rfl Tryd.underlying22 rfl (szV inf32 (il HK.out)) rfl (kO 11 rfl),
    step_toP rfl (.inl rfl) rfl cx14 hT.p km2 rfl (two_args (kI 3 42 rfl rfl) (kI 4 43 rfl rfl)),
    step_to rfl (.inl rfl) rfl cx21 kneg rfl (one_arg (kI 5 44 rfl rfl)),
    step_toP rfl (.inl rfl) rfl cx13 hT.p kadd rfl (two_args (kI 2 41 rfl rfl) (kI 6 45 rfl rfl)),
    step_to rfl (.inl rfl) rfl cx15 kby rfl (one_arg (kI 7 46 rfl rfl)),
    step_ldV rfl (.inl rfl) (fun _ hw => (h9.next hw).range) rfl Tryd.underlying22 rfl (szV inf32 (il HF.out)) rfl (kO 9 rfl), trivial⟩ ?_
 intro val w10 hw hS hap hla
 simp only [pA, pB, pC, pD, pE, Act.put, pG, pH, pI, eVal hS 0 39 rfl rfl, eVal hS 1 40 rfl rfl, eVal hS 2 41 rfl rfl, eVal hS 3 42 rfl rfl, eVal hS 4 43 rfl rfl, eVal hS 5 44 rfl rfl, eVal hS 6 45 rfl rfl, eVal hS 7 46 rfl rfl, eVal hS 8 47 rfl rfl, eVal hS 9 48 rfl rfl]
 clear hS hap hla
 replace hT := hT.next hw
 replace hX := hX.below hw
 replace hG1 := hG1.below hw
 replace hG2 := hG2.below hw
 replace h3 := h3.next hw
 replace h7 := h7.next hw
 replace h9 := h9.next hw
 replace h10 := h10.next hw
 replace h11 := h11.next hw
 replace hW := bT hW hw
 clear hw
 have he : ∀ W, (Op.equalIn 10000 22 (.agg (ints .u8 ys).toArray) (.agg (ints .u8 fi).toArray)).run Tryd.prog W = .ok dd W := fun W => by
   rw [← HD.out]
   exact arr_eq_run (P := Tryd.prog) 22 5 32 .u8 ys fi eq32.1 eq32.2.1 eq32.2.2.1 HY.out HF.out 9998 W
 have heg := eq32.2.2.2
 cases dd
 · go_wp2_with (fail)
   go_ret
   exact ⟨rfl, hW⟩
 · go_wp2_with (fail)
   go_ret
   exact ⟨rfl, hW⟩
noncomputable def verN (P : Edw.Pt NT.PN) (pk tx fi se : List Int) : Int := if bn se < QN then (if bytesP (Edw.add eF (timesB se) (Edw.neg (Edw.mul eF (bn (scal (fi ++ (pk ++ tx)))) P))) = fi then 0 else 22) else 22
section
variable {pk tx fi se rr : List Int} {P : Edw.Pt NT.PN} {A : Option Addr} {m c b2 o2 c2 : Nat} {w : World}
theorem verify_any (hpk : pk.length = 32) (hpb : Byt pk) (hf : fi.length = 32) (hfb : Byt fi) (he : se.length = 32) (heb : Byt se) (hc2 : 64 ≤ c2) (hxl : tx.length = m) (hxc : m ≤ c) (hx3 : m ≤ 1000) (hxb : Byt tx) (hr : PR rr P) (kof : CallsP 7 #[.agg (ints .u8 pk).toArray] (.tuple #[.agg (ints .i64 rr).toArray, .int .i64 0])) (hT : TabsA w) (hX : Nums w .u8 A tx) (hG : Nums w .u8 (some ⟨b2, o2, none⟩) (fi ++ se)) : Calls Tryd.prog 6 #[.agg (ints .u8 pk).toArray, .slice A m c, .slice (some ⟨b2, o2, none⟩) 64 c2] w fun e w' => e = .returned (.int .i64 (verN P pk tx fi se)) ∧ Below w.heap.size w w' := by
 have kri := cs_right he heb
 have hG1 := hG.first
 have hG2 := hG.from (o' := o2 + 32) (by rw [hf])
 unfold verN
 by_cases hq : bn se < QN
 · rw [decide_eq_true hq] at kri
   rw [if_pos hq]
   obtain ⟨m1, km1, hm1⟩ := times_row he heb
   obtain ⟨m2, km2, hm2⟩ := hr.mul (scal_len (fi ++ (pk ++ tx))) (scal_byt _)
   obtain ⟨m3, kneg, hm3⟩ := hm2.neg
   obtain ⟨kadd, hm4⟩ := hm1.add hm3
   have h := verify_core (dd := decide (bytesP (Edw.add eF (timesB se) (Edw.neg (Edw.mul eF (bn (scal (fi ++ (pk ++ tx)))) P))) = fi)) (hid hpk) (hid hpb) (hid hf) (hid hfb) (hid he) (hid heb) (hid hc2) (hid hxl) (hid hxc) (hid hx3) (hid hxb) (hid hr.len) kof kri (hid (scal_len _)) (hid (scal_byt _)) (hid rfl) (hid bbL_spec.2.len) (hid hm1.len) (hid hm2.len) (hid hm3.len) (hid hm4.len) (hid (bytesP_len _)) bbL_spec.1 km1 km2 kneg kadd hm4.bytes (hid rfl) w hT hX hG1 hG2
   refine h.mono fun e w' ⟨h1, h2⟩ => ⟨?_, h2⟩
   rw [h1]
   by_cases hd : bytesP (Edw.add eF (timesB se) (Edw.neg (Edw.mul eF (bn (scal (fi ++ (pk ++ tx)))) P))) = fi
   · rw [decide_eq_true hd, if_pos hd]; rfl
   · rw [decide_eq_false hd, if_neg hd]; rfl
 · rw [decide_eq_false hq] at kri
   rw [if_neg hq]
   exact verify_big (hid hpk) (hid hpb) (hid hf) (hid hfb) (hid he) (hid heb) (hid hc2) (hid hxl) (hid hxc) (hid hx3) (hid hxb) (hid hr.len) kof kri w hT hX hG1 hG2
theorem verify_none (hpk : pk.length = 32) (hpb : Byt pk) (hf : fi.length = 32) (hfb : Byt fi) (he : se.length = 32) (heb : Byt se) (hc2 : 64 ≤ c2) (hxl : tx.length = m) (hxc : m ≤ c) (hx3 : m ≤ 1000) (hxb : Byt tx) (hbad : Bad pk) (hT : TabsA w) (hX : Nums w .u8 A tx) (hG : Nums w .u8 (some ⟨b2, o2, none⟩) (fi ++ se)) : Calls Tryd.prog 6 #[.agg (ints .u8 pk).toArray, .slice A m c, .slice (some ⟨b2, o2, none⟩) 64 c2] w fun e w' => e = .returned (.int .i64 21) ∧ Below w.heap.size w w' :=
 verify_bad (hid hpk) (hid hpb) (hid hf) (hid hfb) (hid he) (hid heb) (hid hc2) (hid hxl) (hid hxc) (hid hx3) (hid hxb) (of_bad hpk hpb hbad) w hT hX hG.first (hG.from (o' := o2 + 32) (by rw [hf]))
end
theorem add_neg {P Q : Edw.Pt NT.PN} (hP : Edw.On eF P) (hQ : Edw.On eF Q) : Edw.add eF (Edw.add eF P Q) (Edw.neg P) = Q := by
 rw [Edw.comm, Edw.back pn_fld ns_e hQ hP]
theorem neg_back {P Q : Edw.Pt NT.PN} (hP : Edw.On eF P) (hQ : Edw.On eF Q) : Edw.add eF (Edw.add eF P (Edw.neg Q)) Q = P := by
 rw [Edw.assoc pn_fld ns_e hP (Edw.neg_on hQ) hQ, Edw.neg_add pn_fld ns_e hQ, Edw.comm, Edw.O_add pn_fld ns_e hP]
theorem second_bn (sd tx : List Int) : bn (secondL sd tx) = (bn (kL sd tx) * bn (numL sd) + bn (rL sd tx)) % QN := bn_rbytes (modq_lt _)
theorem second_byt (sd tx : List Int) : Byt (secondL sd tx) := rbytes_byt _
theorem second_lt (sd tx : List Int) : bn (secondL sd tx) < QN := by rw [second_bn]; exact Nat.mod_lt _ qn_pos
theorem second_times (sd tx : List Int) : timesB (secondL sd tx) = Edw.add eF (Edw.mul eF (bn (kL sd tx)) (timesB (numL sd))) (timesB (rL sd tx)) := by
 unfold timesB
 rw [second_bn, mul_mod, Edw.mul_add pn_fld ns_e base_on, Edw.mul_mul pn_fld ns_e base_on]
theorem ver_back (sd tx : List Int) : verN (timesB (numL sd)) (pubL sd) tx (firstL sd tx) (secondL sd tx) = 0 := by
 unfold verN
 rw [if_pos (second_lt sd tx)]
 refine if_pos ?_
 show bytesP (Edw.add eF (timesB (secondL sd tx)) (Edw.neg (Edw.mul eF (bn (kL sd tx)) (timesB (numL sd))))) = bytesP (timesB (rL sd tx))
 rw [second_times, add_neg (Edw.mul_on pn_fld ns_e (timesB_on _) _) (timesB_on _)]
theorem fin_zero {n : Nat} [NeZero n] {a : Fin n} (h : a.val = 0) : a = 0 := Fin.ext (by rw [h]; simp)
theorem zero_num : bn (offB (zeros 32)) = 0 := by decide +kernel
theorem flat_alg {n : Nat} [NeZero n] {x y e : Fin n} (h : x * x + y * y = 1 + e * x * x * y * y) (hy : y = 0) : x * x = 1 := by subst hy; grind
theorem two_alg {n : Nat} [NeZero n] {x y e : Fin n} (hy : y = 0) : (0 : Fin n) * (1 + e * x * x * y * y) = x * y + x * y := by subst hy; grind
theorem two_algy {n : Nat} [NeZero n] {x y e : Fin n} (hy : y = 0) (hx : x * x = 1) : (-1 : Fin n) * (1 - e * x * x * y * y) = y * y - x * x := by subst hy; grind
theorem four_alg0 {n : Nat} [NeZero n] (e : Fin n) : (0 : Fin n) * (1 + e * 0 * 0 * -1 * -1) = 0 * -1 + 0 * -1 := by grind
theorem four_algy {n : Nat} [NeZero n] (e : Fin n) : (1 : Fin n) * (1 - e * 0 * 0 * -1 * -1) = -1 * -1 - 0 * 0 := by grind
theorem low_on {n : Nat} [NeZero n] (e : Fin n) : (0 : Fin n) * 0 + -1 * -1 = 1 + e * 0 * 0 * -1 * -1 := by grind
theorem low_four {n : Nat} [NeZero n] (F : Edw.Fld n) {e : Fin n} (ns : Edw.NS e) {P : Edw.Pt n} (hP : Edw.On e P) (hy : P.y = 0) : Edw.mul e 4 P = Edw.O := by
 have hx : P.x * P.x = 1 := flat_alg hP hy
 have hl : Edw.On e (⟨0, -1⟩ : Edw.Pt n) := low_on e
 have e2 : Edw.add e P P = ⟨0, -1⟩ := (Edw.add_eq (r := ⟨0, -1⟩) F ns hP hP (two_alg hy) (two_algy hy hx)).symm
 have e4 : Edw.add e (⟨0, -1⟩ : Edw.Pt n) ⟨0, -1⟩ = Edw.O := (Edw.add_eq (r := Edw.O) F ns hl hl (four_alg0 e) (four_algy e)).symm
 have m2 : Edw.mul e 2 P = ⟨0, -1⟩ := by
   rw [show 2 = 1 + 1 from rfl, Edw.mul_add F ns hP, Edw.mul_one F ns hP, e2]
 rw [show 4 = 2 + 2 from rfl, Edw.mul_add F ns hP, m2, e4]
theorem times_nz (l : List Int) : bytesP (timesB l) ≠ zeros 32 := fun h => by
 have hP := timesB_on l
 generalize hp : timesB l = P at h hP
 have hy : P.y = 0 := by
   rw [bytesP_is] at h
   have h1 := pb_num P.y.isLt (oddB (axP P).val)
   rw [h, zero_num] at h1
   exact fin_zero h1.symm
 have m4 : Edw.mul eF 4 P = Edw.O := low_four pn_fld ns_e hP hy
 have mq : Edw.mul eF QN P = Edw.O := by
   rw [← hp]
   unfold timesB
   rw [Edw.mul_mul pn_fld ns_e base_on, Nat.mul_comm, ← Edw.mul_mul pn_fld ns_e base_on, order_base, Edw.mul_O pn_fld ns_e]
 have m1 := mul_gcd hP 4 QN m4 mq
 rw [show Nat.gcd 4 QN = 1 by decide +kernel, Edw.mul_one pn_fld ns_e hP] at m1
 rw [m1] at hy
 exact pn_fld.one hy
theorem sig_nz (sd tx : List Int) : sigL sd tx ≠ zeros 64 := fun h => by
 refine times_nz (rL sd tx) ?_
 have h1 := congrArg (List.take 32) h
 unfold sigL at h1
 rw [List.take_append_of_le_length (by rw [firstL_len]; exact Nat.le_refl _), List.take_of_length_le (by rw [firstL_len]; exact Nat.le_refl _)] at h1
 exact h1
theorem of_point {P : Edw.Pt NT.PN} (hP : Edw.On eF P) : ∃ r, CallsP 7 #[.agg (ints .u8 (bytesP P)).toArray] (.tuple #[.agg (ints .i64 r).toArray, .int .i64 0]) ∧ PR r P := by
 obtain ⟨r, Q, hc, hr, hb⟩ := of_good (bytesP_len P) (bytesP_byt P) (bytesP_good hP)
 obtain ⟨c, h1, h2, h3⟩ := hr
 have e := bytesP_inj h3 hP hb
 subst e
 exact ⟨r, hc, c, h1, h2, h3⟩
end Go.Proofs.YthpibkpljakeeaaDoor
