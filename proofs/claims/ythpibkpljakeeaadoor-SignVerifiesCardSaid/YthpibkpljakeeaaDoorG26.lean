/- Texts laid together. -/
import Derived.Test.YthpibkpljakeeaaDoorG7
import Derived.Test.YthpibkpljakeeaaDoorSgWM
import Derived.Test.YthpibkpljakeeaaDoorSgRM
import Derived.Test.YthpibkpljakeeaaDoorG14
namespace Go.Proofs.YthpibkpljakeeaaDoor
set_option maxHeartbeats 8000000
set_option maxRecDepth 8000
open Go Go.RowKit
theorem sv_long {pk tx sg : List Int} {A B : Option Addr} {m c k d : Nat} (HPK : Hid (pk.length = 32)) (hm : (300 : Int) < (m : Int) ∨ (100 : Int) < (k : Int)) (w : World) (hT : TabsA w) (hX : Nums w .u8 A tx) (hG : Nums w .u8 B sg) : Calls Tryd.prog 3 #[.agg (ints .u8 pk).toArray, .slice A m c, .slice B k d] w fun e w' => e = .returned (.bool true) ∧ Below w.heap.size w w' := by
 obtain ⟨z3_, s3_⟩ := zero_of_info inf32
 have h3 := Rw.new w (ints .u8 pk) 22
 have hW := below_new w (.cells (ints .u8 pk).toArray 22)
 have hT0 := hT
 replace hT := hT.next hW
 have hX0 := hX
 replace hX := hX.below hW
 replace hG := hG.below hW
 go_enter Tryd.func3, Tryd.ntmps3
 go_upto_region 1 with (fail)
 generalize w.alloc (.cells (ints .u8 pk).toArray 22) = w0 at *
 have s0 := hW.size
 refine rSeq 2 90 (fun _ => false) [Is (.bool true), Is (.bool false)] [16, 17] (gC (gC grows_nil))
   ⟨step_toA rfl (.inl rfl) rfl cx5 hT awake_any rfl (no_args),
    step_not rfl (.inl rfl) (b := true) rfl rfl (kI 0 16 rfl rfl), trivial⟩ ?_
 intro val w1 hw hS hap hla
 simp only [pA, pB, pC, pD, pE, Act.put, pG, pH, pI, eVal hS 0 16 rfl rfl, eVal hS 1 17 rfl rfl]
 clear hS hap hla
 replace hT := hT.next hw
 replace hX := hX.below hw
 replace hG := hG.below hw
 replace h3 := h3.next hw
 replace hW := bT hW hw
 clear hw
 go_upto_region 3 with (fail)
 by_cases h1 : (300 : Int) < (m : Int)
 · go_wp2_with (fail)
   go_ret
   exact ⟨rfl, hW⟩
 · have h2 : (100 : Int) < (k : Int) := hm.resolve_left h1
   clear hm
   go_wp2_with (fail)
   go_ret
   exact ⟨rfl, hW⟩
theorem sv_len {pk tx sg : List Int} {A B : Option Addr} {m c k d : Nat} (HPK : Hid (pk.length = 32)) (h1 : ¬ (300 : Int) < (m : Int)) (h2 : ¬ (100 : Int) < (k : Int)) (h3 : ¬ (k : Int) = 64) (KV : Hid (∀ w, Calls Tryd.prog 6 #[.agg (ints .u8 pk).toArray, .slice A m c, .slice B k d] w fun e w' => e = .returned (.int .i64 2) ∧ Below w.heap.size w w')) (w : World) (hT : TabsA w) (hX : Nums w .u8 A tx) (hG : Nums w .u8 B sg) : Calls Tryd.prog 3 #[.agg (ints .u8 pk).toArray, .slice A m c, .slice B k d] w fun e w' => e = .returned (.bool true) ∧ Below w.heap.size w w' := by
 obtain ⟨z3_, s3_⟩ := zero_of_info inf32
 have h3 := Rw.new w (ints .u8 pk) 22
 have hW := below_new w (.cells (ints .u8 pk).toArray 22)
 have hT0 := hT
 replace hT := hT.next hW
 have hX0 := hX
 replace hX := hX.below hW
 replace hG := hG.below hW
 go_enter Tryd.func3, Tryd.ntmps3
 go_upto_region 1 with (fail)
 generalize w.alloc (.cells (ints .u8 pk).toArray 22) = w0 at *
 have s0 := hW.size
 refine rSeq 2 90 (fun _ => false) [Is (.bool true), Is (.bool false)] [16, 17] (gC (gC grows_nil))
   ⟨step_toA rfl (.inl rfl) rfl cx5 hT awake_any rfl (no_args),
    step_not rfl (.inl rfl) (b := true) rfl rfl (kI 0 16 rfl rfl), trivial⟩ ?_
 intro val w1 hw hS hap hla
 simp only [pA, pB, pC, pD, pE, Act.put, pG, pH, pI, eVal hS 0 16 rfl rfl, eVal hS 1 17 rfl rfl]
 clear hS hap hla
 replace hT := hT.next hw
 replace hX := hX.below hw
 replace hG := hG.below hw
 replace h3 := h3.next hw
 replace hW := bT hW hw
 clear hw
 go_upto_region 3 with (fail)
 go_upto_region 5 with (fail)
 have s1 := hW.size
 refine rSeq 5 90 (fun _ => false) [Is (.agg (ints .u8 pk).toArray), Is (.slice A m c), Is (.slice B k d), Is (.int .i64 2), Is (.int .i64 2)] [26, 27, 28, 29, 7] (gC (gC (gC (gC (gC grows_nil)))))
   ⟨step_ldV rfl (.inl rfl) (fun _ hw => (h3.next hw).range) rfl Tryd.underlying22 rfl (szV inf32 (il HPK.out)) rfl (kO 3 rfl),
    step_mvP rfl (.inl rfl) rfl rfl (kO 1 rfl),
    step_mvP rfl (.inl rfl) rfl rfl (kO 2 rfl),
    step_cw rfl (.inl rfl) rfl cx6 rfl (fun aa ww hw hf hd => ⟨_, (three_args (kI 0 26 rfl rfl) (kI 1 27 rfl rfl) (kI 2 28 rfl rfl)) aa ww hw hf hd, KV.out ww⟩),
    step_asgP rfl (.inl rfl) rfl rfl (kI 3 29 rfl rfl), trivial⟩ ?_
 intro val w2 hw hS hap hla
 simp only [pA, pB, pC, pD, pE, Act.put, pG, pH, pI, eVal hS 0 26 rfl rfl, eVal hS 1 27 rfl rfl, eVal hS 2 28 rfl rfl, eVal hS 3 29 rfl rfl, eVal hS 4 7 rfl rfl]
 clear hS hap hla
 replace hT := hT.next hw
 replace hX := hX.below hw
 replace hG := hG.below hw
 replace h3 := h3.next hw
 replace hW := bT hW hw
 clear hw
 go_upto_region 6 with (fail)
 go_wp2_with (fail)
 go_ret
 exact ⟨rfl, hW⟩
theorem sv_bad {pk tx fi se : List Int} (HPK : Hid (pk.length = 32)) (HPKB : Hid (Byt pk)) (HF : Hid (fi.length = 32)) (HFB : Hid (Byt fi)) (HE : Hid (se.length = 32)) (HEB : Hid (Byt se)) {A : Option Addr} {m c b2 o2 c2 : Nat} (HC2 : Hid (64 ≤ c2)) (HXL : Hid (tx.length = m)) (HXC : Hid (m ≤ c)) (HX3 : Hid (m ≤ 1000)) (HXB : Hid (Byt tx)) (h1 : ¬ (300 : Int) < (m : Int)) (kof : CallsP 7 #[.agg (ints .u8 pk).toArray] (.tuple #[.agg (ints .i64 (zeros 64)).toArray, .int .i64 21])) (KV : Hid (∀ w, TabsA w → Nums w .u8 A tx → Nums w .u8 (some ⟨b2, o2, none⟩) fi → Nums w .u8 (some ⟨b2, o2 + 32, none⟩) se → Calls Tryd.prog 6 #[.agg (ints .u8 pk).toArray, .slice A m c, .slice (some ⟨b2, o2, none⟩) 64 c2] w fun e w' => e = .returned (.int .i64 21) ∧ Below w.heap.size w w')) (w : World) (hT : TabsA w) (hX : Nums w .u8 A tx) (hG1 : Nums w .u8 (some ⟨b2, o2, none⟩) fi) (hG2 : Nums w .u8 (some ⟨b2, o2 + 32, none⟩) se) : Calls Tryd.prog 3 #[.agg (ints .u8 pk).toArray, .slice A m c, .slice (some ⟨b2, o2, none⟩) 64 c2] w fun e w' => e = .returned (.bool true) ∧ Below w.heap.size w w' := by
 obtain ⟨z3_, s3_⟩ := zero_of_info inf32
 have h3 := Rw.new w (ints .u8 pk) 22
 have hW := below_new w (.cells (ints .u8 pk).toArray 22)
 have hT0 := hT
 replace hT := hT.next hW
 have hX0 := hX
 replace hX := hX.below hW
 have hG10 := hG1
 have hG20 := hG2
 replace hG1 := hG1.below hW
 replace hG2 := hG2.below hW
 go_enter Tryd.func3, Tryd.ntmps3
 go_upto_region 1 with (fail)
 generalize w.alloc (.cells (ints .u8 pk).toArray 22) = w0 at *
 have s0 := hW.size
 refine rSeq 2 90 (fun _ => false) [Is (.bool true), Is (.bool false)] [16, 17] (gC (gC grows_nil))
   ⟨step_toA rfl (.inl rfl) rfl cx5 hT awake_any rfl (no_args),
    step_not rfl (.inl rfl) (b := true) rfl rfl (kI 0 16 rfl rfl), trivial⟩ ?_
 intro val w1 hw hS hap hla
 simp only [pA, pB, pC, pD, pE, Act.put, pG, pH, pI, eVal hS 0 16 rfl rfl, eVal hS 1 17 rfl rfl]
 clear hS hap hla
 replace hT := hT.next hw
 replace hX := hX.below hw
 replace hG1 := hG1.below hw
 replace hG2 := hG2.below hw
 replace h3 := h3.next hw
 replace hW := bT hW hw
 clear hw
 go_upto_region 3 with (fail)
 go_upto_region 5 with (fail)
 have s1 := hW.size
 refine rSeq 5 90 (fun _ => false) [Is (.agg (ints .u8 pk).toArray), Is (.slice A m c), Is (.slice (some ⟨b2, o2, none⟩) 64 c2), Is (.int .i64 21), Is (.int .i64 21)] [26, 27, 28, 29, 7] (gC (gC (gC (gC (gC grows_nil)))))
   ⟨step_ldV rfl (.inl rfl) (fun _ hw => (h3.next hw).range) rfl Tryd.underlying22 rfl (szV inf32 (il HPK.out)) rfl (kO 3 rfl),
    step_mvP rfl (.inl rfl) rfl rfl (kO 1 rfl),
    step_mvP rfl (.inl rfl) rfl rfl (kO 2 rfl),
    step_cw rfl (.inl rfl) rfl cx6 rfl (fun aa ww hw hf hd => ⟨_, (three_args (kI 0 26 rfl rfl) (kI 1 27 rfl rfl) (kI 2 28 rfl rfl)) aa ww hw hf hd, KV.out ww (hT.next hw) (hX.below hw) (hG1.below hw) (hG2.below hw)⟩),
    step_asgP rfl (.inl rfl) rfl rfl (kI 3 29 rfl rfl), trivial⟩ ?_
 intro val w2 hw hS hap hla
 simp only [pA, pB, pC, pD, pE, Act.put, pG, pH, pI, eVal hS 0 26 rfl rfl, eVal hS 1 27 rfl rfl, eVal hS 2 28 rfl rfl, eVal hS 3 29 rfl rfl, eVal hS 4 7 rfl rfl]
 clear hS hap hla
 replace hT := hT.next hw
 replace hX := hX.below hw
 replace hG1 := hG1.below hw
 replace hG2 := hG2.below hw
 replace h3 := h3.next hw
 replace hW := bT hW hw
 clear hw
 go_upto_region 6 with (fail)
 go_upto_region 8 with (fail)
 have s2 := hW.size
 refine rSeq 6 90 (fun i => i == 5) [Is (.agg (ints .u8 pk).toArray), Is (.tuple #[(.agg (ints .i64 (zeros 64)).toArray), (.int .i64 21)]), Is (.tuple #[(.agg (ints .i64 (zeros 64)).toArray), (.int .i64 21)]), IsL (zeros 64), Is (.int .i64 21), IsZV w2.heap.size (ints .i64 (zeros 64))] [36, 37, 35, 38, 39, 8] (gC (gC (gC (gC (gC (grows_cons (IsZV.grows _ _) grows_nil))))))
   ⟨step_ldV rfl (.inl rfl) (fun _ hw => (h3.next hw).range) rfl Tryd.underlying22 rfl (szV inf32 (il HPK.out)) rfl (kO 3 rfl),
    step_toP rfl (.inl rfl) rfl cx7 hT.p kof rfl (one_arg (kI 0 36 rfl rfl)),
    step_mvP rfl (.inl rfl) rfl rfl (kI 1 37 rfl rfl),
    step_fst rfl (.inl rfl) rfl rfl (kI 2 35 rfl rfl),
    step_snd rfl (.inl rfl) rfl rfl (kI 2 35 rfl rfl),
    step_allocV (.inl rfl) infP rfl rfl, trivial⟩ ?_
 intro val w3 hw hS hap hla
 obtain ⟨b8, e8, L8, Z8⟩ := hS 5 8 (by decide) rfl
 simp only [pA, pB, pC, pD, pE, Act.put, pG, pH, pI, eVal hS 0 36 rfl rfl, eVal hS 1 37 rfl rfl, eVal hS 2 35 rfl rfl, eVal hS 3 38 rfl rfl, eVal hS 4 39 rfl rfl, e8]
 clear hS hap hla e8
 have LL8 := hid (show ((ints .i64 (zeros 64))).length = 64 from (il (zeros_len 64)))
 have R8 := Z8.roomA (us := (ints .i64 (zeros 64))) (LL8.out.trans (zv .i64 64).symm)
 have h8 := Z8.storedA (us := (ints .i64 (zeros 64))) (LL8.out.trans (zv .i64 64).symm)
 have hu := Below.setCells hw L8 0 (ints .i64 (zeros 64)).toArray.toList
 replace hT := hT.next hu
 replace hX := hX.below hu
 replace hG1 := hG1.below hu
 replace hG2 := hG2.below hu
 replace h3 := h3.next hu
 replace hW := bT hW hu
 clear hu
 with_reducible refine wpList_store_mid (op := ⟨none, .store 31 (.tmp 8) (.tmp 38), _, _, _, _⟩) rfl 31 (.tmp 8) (.tmp 38) rfl b8 0 (ints .i64 (zeros 64)).toArray rfl rfl R8 (szA infP LL8.out) (ints_all _ _) ?_
 generalize (w3.setCells b8 0 (ints .i64 (zeros 64)).toArray.toList) = w4 at *
 clear hw R8 LL8 Z8 L8
 go_wp2_with (fail)
 go_ret
 exact ⟨rfl, hW⟩
theorem sv_big {pk tx fi se rr : List Int} (HPK : Hid (pk.length = 32)) (HPKB : Hid (Byt pk)) (HF : Hid (fi.length = 32)) (HFB : Hid (Byt fi)) (HE : Hid (se.length = 32)) (HEB : Hid (Byt se)) {A : Option Addr} {m c b2 o2 c2 : Nat} (HC2 : Hid (64 ≤ c2)) (HXL : Hid (tx.length = m)) (HXC : Hid (m ≤ c)) (HX3 : Hid (m ≤ 1000)) (HXB : Hid (Byt tx)) (h1 : ¬ (300 : Int) < (m : Int)) (HRR : Hid (rr.length = 64)) (kof : CallsP 7 #[.agg (ints .u8 pk).toArray] (.tuple #[.agg (ints .i64 rr).toArray, .int .i64 0])) (krs : CallsTo 8 #[.agg (ints .u8 se).toArray] (.bool false)) (KV : Hid (∀ w, TabsA w → Nums w .u8 A tx → Nums w .u8 (some ⟨b2, o2, none⟩) fi → Nums w .u8 (some ⟨b2, o2 + 32, none⟩) se → Calls Tryd.prog 6 #[.agg (ints .u8 pk).toArray, .slice A m c, .slice (some ⟨b2, o2, none⟩) 64 c2] w fun e w' => e = .returned (.int .i64 22) ∧ Below w.heap.size w w')) (w : World) (hT : TabsA w) (hX : Nums w .u8 A tx) (hG1 : Nums w .u8 (some ⟨b2, o2, none⟩) fi) (hG2 : Nums w .u8 (some ⟨b2, o2 + 32, none⟩) se) : Calls Tryd.prog 3 #[.agg (ints .u8 pk).toArray, .slice A m c, .slice (some ⟨b2, o2, none⟩) 64 c2] w fun e w' => e = .returned (.bool true) ∧ Below w.heap.size w w' := by
 obtain ⟨z3_, s3_⟩ := zero_of_info inf32
 have h3 := Rw.new w (ints .u8 pk) 22
 have hW := below_new w (.cells (ints .u8 pk).toArray 22)
 have hT0 := hT
 replace hT := hT.next hW
 have hX0 := hX
 replace hX := hX.below hW
 have hG10 := hG1
 have hG20 := hG2
 replace hG1 := hG1.below hW
 replace hG2 := hG2.below hW
 go_enter Tryd.func3, Tryd.ntmps3
 go_upto_region 1 with (fail)
 generalize w.alloc (.cells (ints .u8 pk).toArray 22) = w0 at *
 have s0 := hW.size
 refine rSeq 2 90 (fun _ => false) [Is (.bool true), Is (.bool false)] [16, 17] (gC (gC grows_nil))
   ⟨step_toA rfl (.inl rfl) rfl cx5 hT awake_any rfl (no_args),
    step_not rfl (.inl rfl) (b := true) rfl rfl (kI 0 16 rfl rfl), trivial⟩ ?_
 intro val w1 hw hS hap hla
 simp only [pA, pB, pC, pD, pE, Act.put, pG, pH, pI, eVal hS 0 16 rfl rfl, eVal hS 1 17 rfl rfl]
 clear hS hap hla
 replace hT := hT.next hw
 replace hX := hX.below hw
 replace hG1 := hG1.below hw
 replace hG2 := hG2.below hw
 replace h3 := h3.next hw
 replace hW := bT hW hw
 clear hw
 go_upto_region 3 with (fail)
 go_upto_region 5 with (fail)
 have s1 := hW.size
 refine rSeq 5 90 (fun _ => false) [Is (.agg (ints .u8 pk).toArray), Is (.slice A m c), Is (.slice (some ⟨b2, o2, none⟩) 64 c2), Is (.int .i64 22), Is (.int .i64 22)] [26, 27, 28, 29, 7] (gC (gC (gC (gC (gC grows_nil)))))
   ⟨step_ldV rfl (.inl rfl) (fun _ hw => (h3.next hw).range) rfl Tryd.underlying22 rfl (szV inf32 (il HPK.out)) rfl (kO 3 rfl),
    step_mvP rfl (.inl rfl) rfl rfl (kO 1 rfl),
    step_mvP rfl (.inl rfl) rfl rfl (kO 2 rfl),
    step_cw rfl (.inl rfl) rfl cx6 rfl (fun aa ww hw hf hd => ⟨_, (three_args (kI 0 26 rfl rfl) (kI 1 27 rfl rfl) (kI 2 28 rfl rfl)) aa ww hw hf hd, KV.out ww (hT.next hw) (hX.below hw) (hG1.below hw) (hG2.below hw)⟩),
    step_asgP rfl (.inl rfl) rfl rfl (kI 3 29 rfl rfl), trivial⟩ ?_
 intro val w2 hw hS hap hla
 simp only [pA, pB, pC, pD, pE, Act.put, pG, pH, pI, eVal hS 0 26 rfl rfl, eVal hS 1 27 rfl rfl, eVal hS 2 28 rfl rfl, eVal hS 3 29 rfl rfl, eVal hS 4 7 rfl rfl]
 clear hS hap hla
 replace hT := hT.next hw
 replace hX := hX.below hw
 replace hG1 := hG1.below hw
 replace hG2 := hG2.below hw
 replace h3 := h3.next hw
 replace hW := bT hW hw
 clear hw
 go_upto_region 6 with (fail)
 go_upto_region 8 with (fail)
 have s2 := hW.size
 refine rSeq 6 90 (fun i => i == 5) [Is (.agg (ints .u8 pk).toArray), Is (.tuple #[(.agg (ints .i64 rr).toArray), (.int .i64 0)]), Is (.tuple #[(.agg (ints .i64 rr).toArray), (.int .i64 0)]), IsL rr, Is (.int .i64 0), IsZV w2.heap.size (ints .i64 (zeros 64))] [36, 37, 35, 38, 39, 8] (gC (gC (gC (gC (gC (grows_cons (IsZV.grows _ _) grows_nil))))))
   ⟨step_ldV rfl (.inl rfl) (fun _ hw => (h3.next hw).range) rfl Tryd.underlying22 rfl (szV inf32 (il HPK.out)) rfl (kO 3 rfl),
    step_toP rfl (.inl rfl) rfl cx7 hT.p kof rfl (one_arg (kI 0 36 rfl rfl)),
    step_mvP rfl (.inl rfl) rfl rfl (kI 1 37 rfl rfl),
    step_fst rfl (.inl rfl) rfl rfl (kI 2 35 rfl rfl),
    step_snd rfl (.inl rfl) rfl rfl (kI 2 35 rfl rfl),
    step_allocV (.inl rfl) infP rfl rfl, trivial⟩ ?_
 intro val w3 hw hS hap hla
 obtain ⟨b8, e8, L8, Z8⟩ := hS 5 8 (by decide) rfl
 simp only [pA, pB, pC, pD, pE, Act.put, pG, pH, pI, eVal hS 0 36 rfl rfl, eVal hS 1 37 rfl rfl, eVal hS 2 35 rfl rfl, eVal hS 3 38 rfl rfl, eVal hS 4 39 rfl rfl, e8]
 clear hS hap hla e8
 have LL8 := hid (show ((ints .i64 rr)).length = 64 from (il HRR.out))
 have R8 := Z8.roomA (us := (ints .i64 rr)) (LL8.out.trans (zv .i64 64).symm)
 have h8 := Z8.storedA (us := (ints .i64 rr)) (LL8.out.trans (zv .i64 64).symm)
 have hu := Below.setCells hw L8 0 (ints .i64 rr).toArray.toList
 replace hT := hT.next hu
 replace hX := hX.below hu
 replace hG1 := hG1.below hu
 replace hG2 := hG2.below hu
 replace h3 := h3.next hu
 replace hW := bT hW hu
 clear hu
 with_reducible refine wpList_store_mid (op := ⟨none, .store 31 (.tmp 8) (.tmp 38), _, _, _, _⟩) rfl 31 (.tmp 8) (.tmp 38) rfl b8 0 (ints .i64 rr).toArray rfl rfl R8 (szA infP LL8.out) (ints_all _ _) ?_
 generalize (w3.setCells b8 0 (ints .i64 rr).toArray.toList) = w4 at *
 clear hw R8 LL8 Z8 L8
 go_upto_region 11 with (fail)
 have lt3 := h3.lt (by rw [ints_length, HPK.out]; decide)
 have lt8 := h8.lt (by rw [ints_length, HRR.out]; decide)
 have s4 := hW.size
 refine rSeq 2 90 (fun i => i == 0 || i == 1) [IsZV w4.heap.size (ints .u8 (zeros 32)), IsZV w4.heap.size (ints .u8 (zeros 32))] [10, 11] (grows_cons (IsZV.grows _ _) (grows_cons (IsZV.grows _ _) grows_nil))
   ⟨step_allocV (.inl rfl) inf32 rfl rfl,
    step_allocV (.inl rfl) inf32 rfl rfl, trivial⟩ ?_
 intro val w5 hw hS hap hla
 obtain ⟨b10, e10, L10, Z10⟩ := hS 0 10 (by decide) rfl
 obtain ⟨b11, e11, L11, Z11⟩ := hS 1 11 (by decide) rfl
 have ne10_11 : b10 ≠ b11 := fun e => hap 0 1 10 11 (by decide) (by decide) rfl rfl (by decide) rfl rfl (by rw [e10, e11, e])
 simp only [pA, pB, pC, pD, pE, Act.put, pG, pH, pI, e10, e11]
 clear hS hap hla e10 e11
 replace hT := hT.next hw
 replace hX := hX.below hw
 replace hG1 := hG1.below hw
 replace hG2 := hG2.below hw
 replace h3 := h3.next hw
 replace h8 := h8.next hw
 replace hW := bT hW hw
 clear hw
 go_wp2_with (fail)
 have s5 := hW.size
 refine rSpec 3 90 (fun _ => false) [Is (.slice (some ⟨b10, 0, none⟩) 32 32), Is (.slice (some ⟨b2, o2, none⟩) 64 c2), Is (.slice (some ⟨b2, o2, none⟩) 32 c2)] [44, 45, 46] (gC (gC (gC grows_nil)))
   ⟨step_one rfl (.inl rfl) (fun ev w h hc => ex_slA (P := Tryd.prog) u32 z32 (m := 32) rfl rfl ev w h hc) rfl (kO 10 rfl),
    step_mvP rfl (.inl rfl) rfl rfl (kO 2 rfl),
    step_one rfl (.inl rfl) (fun ev w h hc => ex_slSh (P := Tryd.prog) usl zsl (h := 32) (by have := HC2.out; omega) rfl (.inr (by decide)) ev w h hc) rfl (kI 1 45 rfl rfl), trivial⟩ ?_
 intro val w6 hw hS hap hla
 simp only [pA, pB, pC, pD, pE, Act.put, pG, pH, pI, eVal hS 0 44 rfl rfl, eVal hS 1 45 rfl rfl, eVal hS 2 46 rfl rfl]
 clear hS hap hla
 replace hT := hT.next hw
 replace hX := hX.below hw
 replace hG1 := hG1.below hw
 replace hG2 := hG2.below hw
 replace h3 := h3.next hw
 replace h8 := h8.next hw
 replace Z10 := Z10.next hw
 replace Z11 := Z11.next hw
 replace hW := bT hW hw
 clear hw
 refine wpList_copyR rfl (.tmp 44) (.tmp 46) 23 23 rfl Tryd.underlying23 eq32.2.2.1 rfl rfl Z10 (il (zeros_len 32)) HF.out (by decide) hG1 ?_
 have h10 := Z10.storedA (us := ints .u8 fi) ((il HF.out).trans (il (zeros_len 32)).symm)
 replace Z11 := Z11.pastA (b' := b10) (by first | exact ne10_11 | exact Ne.symm ne10_11) 0 (ints .u8 fi)
 replace h3 := h3.pastA (b' := b10) (by omega) 0 (ints .u8 fi)
 replace h8 := h8.pastA (b' := b10) (by omega) 0 (ints .u8 fi)
 replace hW := Below.setCells hW (g := b10) (by omega) 0 (ints .u8 fi).toArray.toList
 replace hT := hT0.next hW
 replace hX := hX0.below hW
 replace hG1 := hG10.below hW
 replace hG2 := hG20.below hW
 clear Z10
 generalize w6.setCells b10 0 (ints .u8 fi).toArray.toList = w7 at *
 go_wp2_with (fail)
 have s7 := hW.size
 refine rSpec 3 90 (fun _ => false) [Is (.slice (some ⟨b11, 0, none⟩) 32 32), Is (.slice (some ⟨b2, o2, none⟩) 64 c2), Is (.slice (some ⟨b2, o2 + 32, none⟩) 32 (c2 - 32))] [48, 49, 50] (gC (gC (gC grows_nil)))
   ⟨step_one rfl (.inl rfl) (fun ev w h hc => ex_slA (P := Tryd.prog) u32 z32 (m := 32) rfl rfl ev w h hc) rfl (kO 11 rfl),
    step_mvP rfl (.inl rfl) rfl rfl (kO 2 rfl),
    step_one rfl (.inl rfl) (fun ev w h hc => ex_slSl (P := Tryd.prog) usl zsl (l := 32) (by decide) (by have := HC2.out; omega) rfl rfl rfl rfl ev w h hc) rfl (kI 1 49 rfl rfl), trivial⟩ ?_
 intro val w8 hw hS hap hla
 simp only [pA, pB, pC, pD, pE, Act.put, pG, pH, pI, eVal hS 0 48 rfl rfl, eVal hS 1 49 rfl rfl, eVal hS 2 50 rfl rfl]
 clear hS hap hla
 replace hT := hT.next hw
 replace hX := hX.below hw
 replace hG1 := hG1.below hw
 replace hG2 := hG2.below hw
 replace h3 := h3.next hw
 replace h8 := h8.next hw
 replace Z11 := Z11.next hw
 replace h10 := h10.next hw
 replace hW := bT hW hw
 clear hw
 refine wpList_copyR rfl (.tmp 48) (.tmp 50) 23 23 rfl Tryd.underlying23 eq32.2.2.1 rfl rfl Z11 (il (zeros_len 32)) HE.out (by decide) hG2 ?_
 have h11 := Z11.storedA (us := ints .u8 se) ((il HE.out).trans (il (zeros_len 32)).symm)
 replace h10 := h10.pastA (b' := b11) (by first | exact ne10_11 | exact Ne.symm ne10_11) 0 (ints .u8 se)
 replace h3 := h3.pastA (b' := b11) (by omega) 0 (ints .u8 se)
 replace h8 := h8.pastA (b' := b11) (by omega) 0 (ints .u8 se)
 replace hW := Below.setCells hW (g := b11) (by omega) 0 (ints .u8 se).toArray.toList
 replace hT := hT0.next hW
 replace hX := hX0.below hW
 replace hG1 := hG10.below hW
 replace hG2 := hG20.below hW
 clear Z11
 generalize w8.setCells b11 0 (ints .u8 se).toArray.toList = w9 at *
 go_upto_region 14 with (fail)
 have s9 := hW.size
 refine rSeq 3 90 (fun _ => false) [Is (.agg (ints .u8 se).toArray), Is (.bool false), Is (.bool true)] [52, 53, 54] (gC (gC (gC grows_nil)))
   ⟨step_ldV rfl (.inl rfl) (fun _ hw => (h11.next hw).range) rfl Tryd.underlying22 rfl (szV inf32 (il HE.out)) rfl (kO 11 rfl),
    step_to rfl (.inl rfl) rfl cx8 krs rfl (one_arg (kI 0 52 rfl rfl)),
    step_not rfl (.inl rfl) (b := false) rfl rfl (kI 1 53 rfl rfl), trivial⟩ ?_
 intro val w10 hw hS hap hla
 simp only [pA, pB, pC, pD, pE, Act.put, pG, pH, pI, eVal hS 0 52 rfl rfl, eVal hS 1 53 rfl rfl, eVal hS 2 54 rfl rfl]
 clear hS hap hla
 replace hT := hT.next hw
 replace hX := hX.below hw
 replace hG1 := hG1.below hw
 replace hG2 := hG2.below hw
 replace h3 := h3.next hw
 replace h8 := h8.next hw
 replace h10 := h10.next hw
 replace h11 := h11.next hw
 replace hW := bT hW hw
 clear hw
 go_wp2_with (fail)
 go_ret
 exact ⟨rfl, hW⟩
theorem sv_none {pk tx fi se rr kk : List Int} (HPK : Hid (pk.length = 32)) (HPKB : Hid (Byt pk)) (HF : Hid (fi.length = 32)) (HFB : Hid (Byt fi)) (HE : Hid (se.length = 32)) (HEB : Hid (Byt se)) {A : Option Addr} {m c b2 o2 c2 : Nat} (HC2 : Hid (64 ≤ c2)) (HXL : Hid (tx.length = m)) (HXC : Hid (m ≤ c)) (HX3 : Hid (m ≤ 1000)) (HXB : Hid (Byt tx)) (h1 : ¬ (300 : Int) < (m : Int)) (HRR : Hid (rr.length = 64)) (kof : CallsP 7 #[.agg (ints .u8 pk).toArray] (.tuple #[.agg (ints .i64 rr).toArray, .int .i64 0])) (krs : CallsTo 8 #[.agg (ints .u8 se).toArray] (.bool true)) (HK : Hid (kk.length = 32)) (HKB : Hid (Byt kk)) (HKE : Hid (scal (fi ++ (pk ++ tx)) = kk)) (HM3 : Hid (m ≤ 300)) (HALL : Hid (Byt (fi ++ (pk ++ tx)))) (kof2 : CallsP 7 #[.agg (ints .u8 fi).toArray] (.tuple #[.agg (ints .i64 (zeros 64)).toArray, .int .i64 21])) (KV : Hid (∀ w, TabsA w → Nums w .u8 A tx → Nums w .u8 (some ⟨b2, o2, none⟩) fi → Nums w .u8 (some ⟨b2, o2 + 32, none⟩) se → Calls Tryd.prog 6 #[.agg (ints .u8 pk).toArray, .slice A m c, .slice (some ⟨b2, o2, none⟩) 64 c2] w fun e w' => e = .returned (.int .i64 22) ∧ Below w.heap.size w w')) (w : World) (hT : TabsA w) (hX : Nums w .u8 A tx) (hG1 : Nums w .u8 (some ⟨b2, o2, none⟩) fi) (hG2 : Nums w .u8 (some ⟨b2, o2 + 32, none⟩) se) : Calls Tryd.prog 3 #[.agg (ints .u8 pk).toArray, .slice A m c, .slice (some ⟨b2, o2, none⟩) 64 c2] w fun e w' => e = .returned (.bool true) ∧ Below w.heap.size w w' := by
 obtain ⟨z3_, s3_⟩ := zero_of_info inf32
 have h3 := Rw.new w (ints .u8 pk) 22
 have hW := below_new w (.cells (ints .u8 pk).toArray 22)
 have hT0 := hT
 replace hT := hT.next hW
 have hX0 := hX
 replace hX := hX.below hW
 have hG10 := hG1
 have hG20 := hG2
 replace hG1 := hG1.below hW
 replace hG2 := hG2.below hW
 go_enter Tryd.func3, Tryd.ntmps3
 go_upto_region 1 with (fail)
 generalize w.alloc (.cells (ints .u8 pk).toArray 22) = w0 at *
 have s0 := hW.size
 refine rSeq 2 90 (fun _ => false) [Is (.bool true), Is (.bool false)] [16, 17] (gC (gC grows_nil))
   ⟨step_toA rfl (.inl rfl) rfl cx5 hT awake_any rfl (no_args),
    step_not rfl (.inl rfl) (b := true) rfl rfl (kI 0 16 rfl rfl), trivial⟩ ?_
 intro val w1 hw hS hap hla
 simp only [pA, pB, pC, pD, pE, Act.put, pG, pH, pI, eVal hS 0 16 rfl rfl, eVal hS 1 17 rfl rfl]
 clear hS hap hla
 replace hT := hT.next hw
 replace hX := hX.below hw
 replace hG1 := hG1.below hw
 replace hG2 := hG2.below hw
 replace h3 := h3.next hw
 replace hW := bT hW hw
 clear hw
 go_upto_region 3 with (fail)
 go_upto_region 5 with (fail)
 have s1 := hW.size
 refine rSeq 5 90 (fun _ => false) [Is (.agg (ints .u8 pk).toArray), Is (.slice A m c), Is (.slice (some ⟨b2, o2, none⟩) 64 c2), Is (.int .i64 22), Is (.int .i64 22)] [26, 27, 28, 29, 7] (gC (gC (gC (gC (gC grows_nil)))))
   ⟨step_ldV rfl (.inl rfl) (fun _ hw => (h3.next hw).range) rfl Tryd.underlying22 rfl (szV inf32 (il HPK.out)) rfl (kO 3 rfl),
    step_mvP rfl (.inl rfl) rfl rfl (kO 1 rfl),
    step_mvP rfl (.inl rfl) rfl rfl (kO 2 rfl),
    step_cw rfl (.inl rfl) rfl cx6 rfl (fun aa ww hw hf hd => ⟨_, (three_args (kI 0 26 rfl rfl) (kI 1 27 rfl rfl) (kI 2 28 rfl rfl)) aa ww hw hf hd, KV.out ww (hT.next hw) (hX.below hw) (hG1.below hw) (hG2.below hw)⟩),
    step_asgP rfl (.inl rfl) rfl rfl (kI 3 29 rfl rfl), trivial⟩ ?_
 intro val w2 hw hS hap hla
 simp only [pA, pB, pC, pD, pE, Act.put, pG, pH, pI, eVal hS 0 26 rfl rfl, eVal hS 1 27 rfl rfl, eVal hS 2 28 rfl rfl, eVal hS 3 29 rfl rfl, eVal hS 4 7 rfl rfl]
 clear hS hap hla
 replace hT := hT.next hw
 replace hX := hX.below hw
 replace hG1 := hG1.below hw
 replace hG2 := hG2.below hw
 replace h3 := h3.next hw
 replace hW := bT hW hw
 clear hw
 go_upto_region 6 with (fail)
 go_upto_region 8 with (fail)
 have s2 := hW.size
 refine rSeq 6 90 (fun i => i == 5) [Is (.agg (ints .u8 pk).toArray), Is (.tuple #[(.agg (ints .i64 rr).toArray), (.int .i64 0)]), Is (.tuple #[(.agg (ints .i64 rr).toArray), (.int .i64 0)]), IsL rr, Is (.int .i64 0), IsZV w2.heap.size (ints .i64 (zeros 64))] [36, 37, 35, 38, 39, 8] (gC (gC (gC (gC (gC (grows_cons (IsZV.grows _ _) grows_nil))))))
   ⟨step_ldV rfl (.inl rfl) (fun _ hw => (h3.next hw).range) rfl Tryd.underlying22 rfl (szV inf32 (il HPK.out)) rfl (kO 3 rfl),
    step_toP rfl (.inl rfl) rfl cx7 hT.p kof rfl (one_arg (kI 0 36 rfl rfl)),
    step_mvP rfl (.inl rfl) rfl rfl (kI 1 37 rfl rfl),
    step_fst rfl (.inl rfl) rfl rfl (kI 2 35 rfl rfl),
    step_snd rfl (.inl rfl) rfl rfl (kI 2 35 rfl rfl),
    step_allocV (.inl rfl) infP rfl rfl, trivial⟩ ?_
 intro val w3 hw hS hap hla
 obtain ⟨b8, e8, L8, Z8⟩ := hS 5 8 (by decide) rfl
 simp only [pA, pB, pC, pD, pE, Act.put, pG, pH, pI, eVal hS 0 36 rfl rfl, eVal hS 1 37 rfl rfl, eVal hS 2 35 rfl rfl, eVal hS 3 38 rfl rfl, eVal hS 4 39 rfl rfl, e8]
 clear hS hap hla e8
 have LL8 := hid (show ((ints .i64 rr)).length = 64 from (il HRR.out))
 have R8 := Z8.roomA (us := (ints .i64 rr)) (LL8.out.trans (zv .i64 64).symm)
 have h8 := Z8.storedA (us := (ints .i64 rr)) (LL8.out.trans (zv .i64 64).symm)
 have hu := Below.setCells hw L8 0 (ints .i64 rr).toArray.toList
 replace hT := hT.next hu
 replace hX := hX.below hu
 replace hG1 := hG1.below hu
 replace hG2 := hG2.below hu
 replace h3 := h3.next hu
 replace hW := bT hW hu
 clear hu
 with_reducible refine wpList_store_mid (op := ⟨none, .store 31 (.tmp 8) (.tmp 38), _, _, _, _⟩) rfl 31 (.tmp 8) (.tmp 38) rfl b8 0 (ints .i64 rr).toArray rfl rfl R8 (szA infP LL8.out) (ints_all _ _) ?_
 generalize (w3.setCells b8 0 (ints .i64 rr).toArray.toList) = w4 at *
 clear hw R8 LL8 Z8 L8
 go_upto_region 11 with (fail)
 have lt3 := h3.lt (by rw [ints_length, HPK.out]; decide)
 have lt8 := h8.lt (by rw [ints_length, HRR.out]; decide)
 have s4 := hW.size
 refine rSeq 2 90 (fun i => i == 0 || i == 1) [IsZV w4.heap.size (ints .u8 (zeros 32)), IsZV w4.heap.size (ints .u8 (zeros 32))] [10, 11] (grows_cons (IsZV.grows _ _) (grows_cons (IsZV.grows _ _) grows_nil))
   ⟨step_allocV (.inl rfl) inf32 rfl rfl,
    step_allocV (.inl rfl) inf32 rfl rfl, trivial⟩ ?_
 intro val w5 hw hS hap hla
 obtain ⟨b10, e10, L10, Z10⟩ := hS 0 10 (by decide) rfl
 obtain ⟨b11, e11, L11, Z11⟩ := hS 1 11 (by decide) rfl
 have ne10_11 : b10 ≠ b11 := fun e => hap 0 1 10 11 (by decide) (by decide) rfl rfl (by decide) rfl rfl (by rw [e10, e11, e])
 simp only [pA, pB, pC, pD, pE, Act.put, pG, pH, pI, e10, e11]
 clear hS hap hla e10 e11
 replace hT := hT.next hw
 replace hX := hX.below hw
 replace hG1 := hG1.below hw
 replace hG2 := hG2.below hw
 replace h3 := h3.next hw
 replace h8 := h8.next hw
 replace hW := bT hW hw
 clear hw
 go_wp2_with (fail)
 have s5 := hW.size
 refine rSpec 3 90 (fun _ => false) [Is (.slice (some ⟨b10, 0, none⟩) 32 32), Is (.slice (some ⟨b2, o2, none⟩) 64 c2), Is (.slice (some ⟨b2, o2, none⟩) 32 c2)] [44, 45, 46] (gC (gC (gC grows_nil)))
   ⟨step_one rfl (.inl rfl) (fun ev w h hc => ex_slA (P := Tryd.prog) u32 z32 (m := 32) rfl rfl ev w h hc) rfl (kO 10 rfl),
    step_mvP rfl (.inl rfl) rfl rfl (kO 2 rfl),
    step_one rfl (.inl rfl) (fun ev w h hc => ex_slSh (P := Tryd.prog) usl zsl (h := 32) (by have := HC2.out; omega) rfl (.inr (by decide)) ev w h hc) rfl (kI 1 45 rfl rfl), trivial⟩ ?_
 intro val w6 hw hS hap hla
 simp only [pA, pB, pC, pD, pE, Act.put, pG, pH, pI, eVal hS 0 44 rfl rfl, eVal hS 1 45 rfl rfl, eVal hS 2 46 rfl rfl]
 clear hS hap hla
 replace hT := hT.next hw
 replace hX := hX.below hw
 replace hG1 := hG1.below hw
 replace hG2 := hG2.below hw
 replace h3 := h3.next hw
 replace h8 := h8.next hw
 replace Z10 := Z10.next hw
 replace Z11 := Z11.next hw
 replace hW := bT hW hw
 clear hw
 refine wpList_copyR rfl (.tmp 44) (.tmp 46) 23 23 rfl Tryd.underlying23 eq32.2.2.1 rfl rfl Z10 (il (zeros_len 32)) HF.out (by decide) hG1 ?_
 have h10 := Z10.storedA (us := ints .u8 fi) ((il HF.out).trans (il (zeros_len 32)).symm)
 replace Z11 := Z11.pastA (b' := b10) (by first | exact ne10_11 | exact Ne.symm ne10_11) 0 (ints .u8 fi)
 replace h3 := h3.pastA (b' := b10) (by omega) 0 (ints .u8 fi)
 replace h8 := h8.pastA (b' := b10) (by omega) 0 (ints .u8 fi)
 replace hW := Below.setCells hW (g := b10) (by omega) 0 (ints .u8 fi).toArray.toList
 replace hT := hT0.next hW
 replace hX := hX0.below hW
 replace hG1 := hG10.below hW
 replace hG2 := hG20.below hW
 clear Z10
 generalize w6.setCells b10 0 (ints .u8 fi).toArray.toList = w7 at *
 go_wp2_with (fail)
 have s7 := hW.size
 refine rSpec 3 90 (fun _ => false) [Is (.slice (some ⟨b11, 0, none⟩) 32 32), Is (.slice (some ⟨b2, o2, none⟩) 64 c2), Is (.slice (some ⟨b2, o2 + 32, none⟩) 32 (c2 - 32))] [48, 49, 50] (gC (gC (gC grows_nil)))
   ⟨step_one rfl (.inl rfl) (fun ev w h hc => ex_slA (P := Tryd.prog) u32 z32 (m := 32) rfl rfl ev w h hc) rfl (kO 11 rfl),
    step_mvP rfl (.inl rfl) rfl rfl (kO 2 rfl),
    step_one rfl (.inl rfl) (fun ev w h hc => ex_slSl (P := Tryd.prog) usl zsl (l := 32) (by decide) (by have := HC2.out; omega) rfl rfl rfl rfl ev w h hc) rfl (kI 1 49 rfl rfl), trivial⟩ ?_
 intro val w8 hw hS hap hla
 simp only [pA, pB, pC, pD, pE, Act.put, pG, pH, pI, eVal hS 0 48 rfl rfl, eVal hS 1 49 rfl rfl, eVal hS 2 50 rfl rfl]
 clear hS hap hla
 replace hT := hT.next hw
 replace hX := hX.below hw
 replace hG1 := hG1.below hw
 replace hG2 := hG2.below hw
 replace h3 := h3.next hw
 replace h8 := h8.next hw
 replace Z11 := Z11.next hw
 replace h10 := h10.next hw
 replace hW := bT hW hw
 clear hw
 refine wpList_copyR rfl (.tmp 48) (.tmp 50) 23 23 rfl Tryd.underlying23 eq32.2.2.1 rfl rfl Z11 (il (zeros_len 32)) HE.out (by decide) hG2 ?_
 have h11 := Z11.storedA (us := ints .u8 se) ((il HE.out).trans (il (zeros_len 32)).symm)
 replace h10 := h10.pastA (b' := b11) (by first | exact ne10_11 | exact Ne.symm ne10_11) 0 (ints .u8 se)
 replace h3 := h3.pastA (b' := b11) (by omega) 0 (ints .u8 se)
 replace h8 := h8.pastA (b' := b11) (by omega) 0 (ints .u8 se)
 replace hW := Below.setCells hW (g := b11) (by omega) 0 (ints .u8 se).toArray.toList
 replace hT := hT0.next hW
 replace hX := hX0.below hW
 replace hG1 := hG10.below hW
 replace hG2 := hG20.below hW
 clear Z11
 generalize w8.setCells b11 0 (ints .u8 se).toArray.toList = w9 at *
 go_upto_region 14 with (fail)
 have s9 := hW.size
 refine rSeq 3 90 (fun _ => false) [Is (.agg (ints .u8 se).toArray), Is (.bool true), Is (.bool false)] [52, 53, 54] (gC (gC (gC grows_nil)))
   ⟨step_ldV rfl (.inl rfl) (fun _ hw => (h11.next hw).range) rfl Tryd.underlying22 rfl (szV inf32 (il HE.out)) rfl (kO 11 rfl),
    step_to rfl (.inl rfl) rfl cx8 krs rfl (one_arg (kI 0 52 rfl rfl)),
    step_not rfl (.inl rfl) (b := true) rfl rfl (kI 1 53 rfl rfl), trivial⟩ ?_
 intro val w10 hw hS hap hla
 simp only [pA, pB, pC, pD, pE, Act.put, pG, pH, pI, eVal hS 0 52 rfl rfl, eVal hS 1 53 rfl rfl, eVal hS 2 54 rfl rfl]
 clear hS hap hla
 replace hT := hT.next hw
 replace hX := hX.below hw
 replace hG1 := hG1.below hw
 replace hG2 := hG2.below hw
 replace h3 := h3.next hw
 replace h8 := h8.next hw
 replace h10 := h10.next hw
 replace h11 := h11.next hw
 replace hW := bT hW hw
 clear hw
 go_wp2_with (fail)
 have s10 := hW.size
 refine region_grow 9 90 (fun i => i == 0 || i == 2 || i == 4 || i == 6 || i == 8) (fun i => if i == 2 then some 0 else if i == 4 then some 2 else if i == 6 then some 4 else none) [IsOwn w10.heap.size 5 .u8 [], Is (.slice (some ⟨b10, 0, none⟩) 32 32), IsOwn w10.heap.size 5 .u8 fi, Is (.slice (some ⟨w.heap.size, 0, none⟩) 32 32), IsOwn w10.heap.size 5 .u8 (fi ++ pk), Is (.slice A m c), IsOwn w10.heap.size 5 .u8 (fi ++ (pk ++ tx)), Is (.agg (ints .u8 kk).toArray), IsZV w10.heap.size (ints .u8 (zeros 32))] [57, 58, 59, 60, 61, 62, 63, 64, 12] (by kernel_rfl) (by kernel_rfl) (by kernel_rfl) (by kernel_rfl) (Nat.le_of_eq rfl) ⟨(IsOwn.keeps _ _ _ _), (Is.keeps _ _), (IsOwn.keeps _ _ _ _), (Is.keeps _ _), (IsOwn.keeps _ _ _ _), (Is.keeps _ _), (IsOwn.keeps _ _ _ _), (Is.keeps _ _), (IsZV.keeps _ _), trivial⟩
   ⟨(step_bsl0 (.inl rfl) rfl Tryd.underlying23 infB rfl).up,
    (step_one rfl (.inl rfl) (fun ev w h hc => ex_slA (P := Tryd.prog) u32 z32 (m := 32) rfl rfl ev w h hc) rfl (kO 10 rfl)).up,
    step_appG rfl 0 57 (xs := []) (ys := fi) rfl rfl Tryd.underlying23 infB3 (by decide) rfl (by decide) (by kernel_rfl) rfl rfl rfl (by simp only [List.length_append, List.length_nil, HF.out, HPK.out, HXL.out]; have := HX3.out; omega) rfl ((kI 1 58 rfl rfl).nm HF.out (fun _ hw => ((h10.next hw)).nums)),
    (step_one rfl (.inl rfl) (fun ev w h hc => ex_slA (P := Tryd.prog) u32 z32 (m := 32) rfl rfl ev w h hc) rfl (kO 3 rfl)).up,
    step_appG rfl 2 59 (xs := fi) (ys := pk) rfl rfl Tryd.underlying23 infB3 (by decide) rfl (by decide) (by kernel_rfl) rfl rfl rfl (by simp only [List.length_append, List.length_nil, HF.out, HPK.out, HXL.out]; have := HX3.out; omega) rfl ((kI 3 60 rfl rfl).nm HPK.out (fun _ hw => ((h3.next hw)).nums)),
    (step_mvP rfl (.inl rfl) rfl rfl (kO 1 rfl)).up,
    step_appG rfl 4 61 (xs := (fi ++ pk)) (ys := tx) rfl rfl Tryd.underlying23 infB3 (by decide) rfl (by decide) (by kernel_rfl) rfl rfl (List.append_assoc _ _ _).symm (by simp only [List.length_append, List.length_nil, HF.out, HPK.out, HXL.out]; have := HX3.out; omega) rfl ((kI 5 62 rfl rfl).nm HXL.out (fun _ hw => hX.below hw)),
    (step_cw rfl (.inl rfl) rfl cx9 rfl (fun aa ww hw hf hd => by
      obtain ⟨A', c', e, hO⟩ := ((knowsW_in 6 63 (by decide) (by kernel_rfl) rfl rfl) : KnowsW _ _ _ _ _ _ _ _ (IsOwn _ 5 .u8 (fi ++ (pk ++ tx)))) aa ww hw hf hd
      rw [e] at hO
      have h := rnum_any (A := A') (c := c') (tx := fi ++ (pk ++ tx)) rfl (by simp only [List.length_append, HF.out, HPK.out, HXL.out]; have := HM3.out; omega) HALL.out ww hO.nums
      rw [HKE.out] at h
      exact ⟨_, by rw [map1, e], h⟩)).up,
    (step_allocV (.inl rfl) inf32 rfl rfl).up, trivial⟩ ?_
 intro val w11 hw hS hap hla
 have e58 : val 58 = (.slice (some ⟨b10, 0, none⟩) 32 32) := hS 1 58 (by decide) (by decide) rfl
 have e60 : val 60 = (.slice (some ⟨w.heap.size, 0, none⟩) 32 32) := hS 3 60 (by decide) (by decide) rfl
 have e62 : val 62 = (.slice A m c) := hS 5 62 (by decide) (by decide) rfl
 obtain ⟨A63, c63, e63, O63⟩ := hS 6 63 (by decide) (by decide) rfl
 have e64 : val 64 = (.agg (ints .u8 kk).toArray) := hS 7 64 (by decide) (by decide) rfl
 obtain ⟨b12, e12, L12, Z12⟩ := hS 8 12 (by decide) (by decide) rfl
 simp only [pA, pB, pC, pD, pE, Act.put, pG, pH, pI, e58, e60, e62, e63, e64, e12]
 generalize val 57 = g57
 generalize val 59 = g59
 generalize val 61 = g61
 clear hS hap hla e58 e60 e62 e63 e64 e12 O63
 have LL12 := hid (show ((ints .u8 kk)).length = 32 from (il HK.out))
 have R12 := Z12.roomA (us := (ints .u8 kk)) (LL12.out.trans (zv .u8 32).symm)
 have h12 := Z12.storedA (us := (ints .u8 kk)) (LL12.out.trans (zv .u8 32).symm)
 have hu := Below.setCells hw L12 0 (ints .u8 kk).toArray.toList
 replace hT := hT.next hu
 replace hX := hX.below hu
 replace hG1 := hG1.below hu
 replace hG2 := hG2.below hu
 replace h3 := h3.next hu
 replace h8 := h8.next hu
 replace h10 := h10.next hu
 replace h11 := h11.next hu
 replace hW := bT hW hu
 clear hu
 with_reducible refine wpList_store_mid (op := ⟨none, .store 22 (.tmp 12) (.tmp 64), _, _, _, _⟩) rfl 22 (.tmp 12) (.tmp 64) rfl b12 0 (ints .u8 kk).toArray rfl rfl R12 (szA inf32 LL12.out) (ints_all _ _) ?_
 generalize (w11.setCells b12 0 (ints .u8 kk).toArray.toList) = w12 at *
 clear hw R12 LL12 Z12 L12
 go_upto_region 17 with (fail)
 have s12 := hW.size
 refine rSeq 6 90 (fun i => i == 5) [Is (.agg (ints .u8 fi).toArray), Is (.tuple #[(.agg (ints .i64 (zeros 64)).toArray), (.int .i64 21)]), Is (.tuple #[(.agg (ints .i64 (zeros 64)).toArray), (.int .i64 21)]), IsL (zeros 64), Is (.int .i64 21), IsZV w12.heap.size (ints .i64 (zeros 64))] [66, 67, 65, 68, 69, 13] (gC (gC (gC (gC (gC (grows_cons (IsZV.grows _ _) grows_nil))))))
   ⟨step_ldV rfl (.inl rfl) (fun _ hw => (h10.next hw).range) rfl Tryd.underlying22 rfl (szV inf32 (il HF.out)) rfl (kO 10 rfl),
    step_toP rfl (.inl rfl) rfl cx7 hT.p kof2 rfl (one_arg (kI 0 66 rfl rfl)),
    step_mvP rfl (.inl rfl) rfl rfl (kI 1 67 rfl rfl),
    step_fst rfl (.inl rfl) rfl rfl (kI 2 65 rfl rfl),
    step_snd rfl (.inl rfl) rfl rfl (kI 2 65 rfl rfl),
    step_allocV (.inl rfl) infP rfl rfl, trivial⟩ ?_
 intro val w13 hw hS hap hla
 obtain ⟨b13, e13, L13, Z13⟩ := hS 5 13 (by decide) rfl
 simp only [pA, pB, pC, pD, pE, Act.put, pG, pH, pI, eVal hS 0 66 rfl rfl, eVal hS 1 67 rfl rfl, eVal hS 2 65 rfl rfl, eVal hS 3 68 rfl rfl, eVal hS 4 69 rfl rfl, e13]
 clear hS hap hla e13
 have LL13 := hid (show ((ints .i64 (zeros 64))).length = 64 from (il (zeros_len 64)))
 have R13 := Z13.roomA (us := (ints .i64 (zeros 64))) (LL13.out.trans (zv .i64 64).symm)
 have h13 := Z13.storedA (us := (ints .i64 (zeros 64))) (LL13.out.trans (zv .i64 64).symm)
 have hu := Below.setCells hw L13 0 (ints .i64 (zeros 64)).toArray.toList
 replace hT := hT.next hu
 replace hX := hX.below hu
 replace hG1 := hG1.below hu
 replace hG2 := hG2.below hu
 replace h3 := h3.next hu
 replace h8 := h8.next hu
 replace h10 := h10.next hu
 replace h11 := h11.next hu
 replace h12 := h12.next hu
 replace hW := bT hW hu
 clear hu
 with_reducible refine wpList_store_mid (op := ⟨none, .store 31 (.tmp 13) (.tmp 68), _, _, _, _⟩) rfl 31 (.tmp 13) (.tmp 68) rfl b13 0 (ints .i64 (zeros 64)).toArray rfl rfl R13 (szA infP LL13.out) (ints_all _ _) ?_
 generalize (w13.setCells b13 0 (ints .i64 (zeros 64)).toArray.toList) = w14 at *
 clear hw R13 LL13 Z13 L13
 go_wp2_with (fail)
 go_ret
 exact ⟨rfl, hW⟩
set_option maxHeartbeats 8000000
set_option maxRecDepth 8000
open Go Go.RowKit
theorem sv_yes {pk tx fi se rr kk ff m2 m5 ys zs : List Int} (HPK : Hid (pk.length = 32)) (HPKB : Hid (Byt pk)) (HF : Hid (fi.length = 32)) (HFB : Hid (Byt fi)) (HE : Hid (se.length = 32)) (HEB : Hid (Byt se)) {A : Option Addr} {m c b2 o2 c2 : Nat} (HC2 : Hid (64 ≤ c2)) (HXL : Hid (tx.length = m)) (HXC : Hid (m ≤ c)) (HX3 : Hid (m ≤ 1000)) (HXB : Hid (Byt tx)) (h1 : ¬ (300 : Int) < (m : Int)) (HRR : Hid (rr.length = 64)) (kof : CallsP 7 #[.agg (ints .u8 pk).toArray] (.tuple #[.agg (ints .i64 rr).toArray, .int .i64 0])) (krs : CallsTo 8 #[.agg (ints .u8 se).toArray] (.bool true)) (HK : Hid (kk.length = 32)) (HKB : Hid (Byt kk)) (HKE : Hid (scal (fi ++ (pk ++ tx)) = kk)) (HM3 : Hid (m ≤ 300)) (HALL : Hid (Byt (fi ++ (pk ++ tx)))) (HFF : Hid (ff.length = 64)) (kof2 : CallsP 7 #[.agg (ints .u8 fi).toArray] (.tuple #[.agg (ints .i64 ff).toArray, .int .i64 0]))
   (HM2 : Hid (m2.length = 64)) (HM5 : Hid (m5.length = 64)) (HY : Hid (ys.length = 32)) (HYE : Hid (bytesP (timesB se) = ys)) (HZ : Hid (zs.length = 32)) (km2 : CallsP 14 #[.agg (ints .i64 rr).toArray, .agg (ints .u8 kk).toArray] (.agg (ints .i64 m2).toArray)) (kadd : CallsP 13 #[.agg (ints .i64 ff).toArray, .agg (ints .i64 m2).toArray] (.agg (ints .i64 m5).toArray)) (kby : CallsTo 15 #[.agg (ints .i64 m5).toArray] (.agg (ints .u8 zs).toArray)) (HD : Hid (decide (ys = zs) = true)) (KV : Hid (∀ w, TabsA w → Nums w .u8 A tx → Nums w .u8 (some ⟨b2, o2, none⟩) fi → Nums w .u8 (some ⟨b2, o2 + 32, none⟩) se → Calls Tryd.prog 6 #[.agg (ints .u8 pk).toArray, .slice A m c, .slice (some ⟨b2, o2, none⟩) 64 c2] w fun e w' => e = .returned (.int .i64 0) ∧ Below w.heap.size w w')) (w : World) (hT : TabsA w) (hX : Nums w .u8 A tx) (hG1 : Nums w .u8 (some ⟨b2, o2, none⟩) fi) (hG2 : Nums w .u8 (some ⟨b2, o2 + 32, none⟩) se) : Calls Tryd.prog 3 #[.agg (ints .u8 pk).toArray, .slice A m c, .slice (some ⟨b2, o2, none⟩) 64 c2] w fun e w' => e = .returned (.bool true) ∧ Below w.heap.size w w' := by
 obtain ⟨z3_, s3_⟩ := zero_of_info inf32
 have h3 := Rw.new w (ints .u8 pk) 22
 have hW := below_new w (.cells (ints .u8 pk).toArray 22)
 have hT0 := hT
 replace hT := hT.next hW
 have hX0 := hX
 replace hX := hX.below hW
 have hG10 := hG1
 have hG20 := hG2
 replace hG1 := hG1.below hW
 replace hG2 := hG2.below hW
 go_enter Tryd.func3, Tryd.ntmps3
 go_upto_region 1 with (fail)
 generalize w.alloc (.cells (ints .u8 pk).toArray 22) = w0 at *
 have s0 := hW.size
 refine rSeq 2 90 (fun _ => false) [Is (.bool true), Is (.bool false)] [16, 17] (gC (gC grows_nil))
   ⟨step_toA rfl (.inl rfl) rfl cx5 hT awake_any rfl (no_args),
    step_not rfl (.inl rfl) (b := true) rfl rfl (kI 0 16 rfl rfl), trivial⟩ ?_
 intro val w1 hw hS hap hla
 simp only [pA, pB, pC, pD, pE, Act.put, pG, pH, pI, eVal hS 0 16 rfl rfl, eVal hS 1 17 rfl rfl]
 clear hS hap hla
 replace hT := hT.next hw
 replace hX := hX.below hw
 replace hG1 := hG1.below hw
 replace hG2 := hG2.below hw
 replace h3 := h3.next hw
 replace hW := bT hW hw
 clear hw
 go_upto_region 3 with (fail)
 go_upto_region 5 with (fail)
 have s1 := hW.size
 refine rSeq 5 90 (fun _ => false) [Is (.agg (ints .u8 pk).toArray), Is (.slice A m c), Is (.slice (some ⟨b2, o2, none⟩) 64 c2), Is (.int .i64 0), Is (.int .i64 0)] [26, 27, 28, 29, 7] (gC (gC (gC (gC (gC grows_nil)))))
   ⟨step_ldV rfl (.inl rfl) (fun _ hw => (h3.next hw).range) rfl Tryd.underlying22 rfl (szV inf32 (il HPK.out)) rfl (kO 3 rfl),
    step_mvP rfl (.inl rfl) rfl rfl (kO 1 rfl),
    step_mvP rfl (.inl rfl) rfl rfl (kO 2 rfl),
    step_cw rfl (.inl rfl) rfl cx6 rfl (fun aa ww hw hf hd => ⟨_, (three_args (kI 0 26 rfl rfl) (kI 1 27 rfl rfl) (kI 2 28 rfl rfl)) aa ww hw hf hd, KV.out ww (hT.next hw) (hX.below hw) (hG1.below hw) (hG2.below hw)⟩),
    step_asgP rfl (.inl rfl) rfl rfl (kI 3 29 rfl rfl), trivial⟩ ?_
 intro val w2 hw hS hap hla
 simp only [pA, pB, pC, pD, pE, Act.put, pG, pH, pI, eVal hS 0 26 rfl rfl, eVal hS 1 27 rfl rfl, eVal hS 2 28 rfl rfl, eVal hS 3 29 rfl rfl, eVal hS 4 7 rfl rfl]
 clear hS hap hla
 replace hT := hT.next hw
 replace hX := hX.below hw
 replace hG1 := hG1.below hw
 replace hG2 := hG2.below hw
 replace h3 := h3.next hw
 replace hW := bT hW hw
 clear hw
 go_upto_region 6 with (fail)
 go_upto_region 8 with (fail)
 have s2 := hW.size
 refine rSeq 6 90 (fun i => i == 5) [Is (.agg (ints .u8 pk).toArray), Is (.tuple #[(.agg (ints .i64 rr).toArray), (.int .i64 0)]), Is (.tuple #[(.agg (ints .i64 rr).toArray), (.int .i64 0)]), IsL rr, Is (.int .i64 0), IsZV w2.heap.size (ints .i64 (zeros 64))] [36, 37, 35, 38, 39, 8] (gC (gC (gC (gC (gC (grows_cons (IsZV.grows _ _) grows_nil))))))
   ⟨step_ldV rfl (.inl rfl) (fun _ hw => (h3.next hw).range) rfl Tryd.underlying22 rfl (szV inf32 (il HPK.out)) rfl (kO 3 rfl),
    step_toP rfl (.inl rfl) rfl cx7 hT.p kof rfl (one_arg (kI 0 36 rfl rfl)),
    step_mvP rfl (.inl rfl) rfl rfl (kI 1 37 rfl rfl),
    step_fst rfl (.inl rfl) rfl rfl (kI 2 35 rfl rfl),
    step_snd rfl (.inl rfl) rfl rfl (kI 2 35 rfl rfl),
    step_allocV (.inl rfl) infP rfl rfl, trivial⟩ ?_
 intro val w3 hw hS hap hla
 obtain ⟨b8, e8, L8, Z8⟩ := hS 5 8 (by decide) rfl
 simp only [pA, pB, pC, pD, pE, Act.put, pG, pH, pI, eVal hS 0 36 rfl rfl, eVal hS 1 37 rfl rfl, eVal hS 2 35 rfl rfl, eVal hS 3 38 rfl rfl, eVal hS 4 39 rfl rfl, e8]
 clear hS hap hla e8
 have LL8 := hid (show ((ints .i64 rr)).length = 64 from (il HRR.out))
 have R8 := Z8.roomA (us := (ints .i64 rr)) (LL8.out.trans (zv .i64 64).symm)
 have h8 := Z8.storedA (us := (ints .i64 rr)) (LL8.out.trans (zv .i64 64).symm)
 have hu := Below.setCells hw L8 0 (ints .i64 rr).toArray.toList
 replace hT := hT.next hu
 replace hX := hX.below hu
 replace hG1 := hG1.below hu
 replace hG2 := hG2.below hu
 replace h3 := h3.next hu
 replace hW := bT hW hu
 clear hu
 with_reducible refine wpList_store_mid (op := ⟨none, .store 31 (.tmp 8) (.tmp 38), _, _, _, _⟩) rfl 31 (.tmp 8) (.tmp 38) rfl b8 0 (ints .i64 rr).toArray rfl rfl R8 (szA infP LL8.out) (ints_all _ _) ?_
 generalize (w3.setCells b8 0 (ints .i64 rr).toArray.toList) = w4 at *
 clear hw R8 LL8 Z8 L8
 go_upto_region 11 with (fail)
 have lt3 := h3.lt (by rw [ints_length, HPK.out]; decide)
 have lt8 := h8.lt (by rw [ints_length, HRR.out]; decide)
 have s4 := hW.size
 refine rSeq 2 90 (fun i => i == 0 || i == 1) [IsZV w4.heap.size (ints .u8 (zeros 32)), IsZV w4.heap.size (ints .u8 (zeros 32))] [10, 11] (grows_cons (IsZV.grows _ _) (grows_cons (IsZV.grows _ _) grows_nil))
   ⟨step_allocV (.inl rfl) inf32 rfl rfl,
    step_allocV (.inl rfl) inf32 rfl rfl, trivial⟩ ?_
 intro val w5 hw hS hap hla
 obtain ⟨b10, e10, L10, Z10⟩ := hS 0 10 (by decide) rfl
 obtain ⟨b11, e11, L11, Z11⟩ := hS 1 11 (by decide) rfl
 have ne10_11 : b10 ≠ b11 := fun e => hap 0 1 10 11 (by decide) (by decide) rfl rfl (by decide) rfl rfl (by rw [e10, e11, e])
 simp only [pA, pB, pC, pD, pE, Act.put, pG, pH, pI, e10, e11]
 clear hS hap hla e10 e11
 replace hT := hT.next hw
 replace hX := hX.below hw
 replace hG1 := hG1.below hw
 replace hG2 := hG2.below hw
 replace h3 := h3.next hw
 replace h8 := h8.next hw
 replace hW := bT hW hw
 clear hw
 go_wp2_with (fail)
 have s5 := hW.size
 refine rSpec 3 90 (fun _ => false) [Is (.slice (some ⟨b10, 0, none⟩) 32 32), Is (.slice (some ⟨b2, o2, none⟩) 64 c2), Is (.slice (some ⟨b2, o2, none⟩) 32 c2)] [44, 45, 46] (gC (gC (gC grows_nil)))
   ⟨step_one rfl (.inl rfl) (fun ev w h hc => ex_slA (P := Tryd.prog) u32 z32 (m := 32) rfl rfl ev w h hc) rfl (kO 10 rfl),
    step_mvP rfl (.inl rfl) rfl rfl (kO 2 rfl),
    step_one rfl (.inl rfl) (fun ev w h hc => ex_slSh (P := Tryd.prog) usl zsl (h := 32) (by have := HC2.out; omega) rfl (.inr (by decide)) ev w h hc) rfl (kI 1 45 rfl rfl), trivial⟩ ?_
 intro val w6 hw hS hap hla
 simp only [pA, pB, pC, pD, pE, Act.put, pG, pH, pI, eVal hS 0 44 rfl rfl, eVal hS 1 45 rfl rfl, eVal hS 2 46 rfl rfl]
 clear hS hap hla
 replace hT := hT.next hw
 replace hX := hX.below hw
 replace hG1 := hG1.below hw
 replace hG2 := hG2.below hw
 replace h3 := h3.next hw
 replace h8 := h8.next hw
 replace Z10 := Z10.next hw
 replace Z11 := Z11.next hw
 replace hW := bT hW hw
 clear hw
 refine wpList_copyR rfl (.tmp 44) (.tmp 46) 23 23 rfl Tryd.underlying23 eq32.2.2.1 rfl rfl Z10 (il (zeros_len 32)) HF.out (by decide) hG1 ?_
 have h10 := Z10.storedA (us := ints .u8 fi) ((il HF.out).trans (il (zeros_len 32)).symm)
 replace Z11 := Z11.pastA (b' := b10) (by first | exact ne10_11 | exact Ne.symm ne10_11) 0 (ints .u8 fi)
 replace h3 := h3.pastA (b' := b10) (by omega) 0 (ints .u8 fi)
 replace h8 := h8.pastA (b' := b10) (by omega) 0 (ints .u8 fi)
 replace hW := Below.setCells hW (g := b10) (by omega) 0 (ints .u8 fi).toArray.toList
 replace hT := hT0.next hW
 replace hX := hX0.below hW
 replace hG1 := hG10.below hW
 replace hG2 := hG20.below hW
 clear Z10
 generalize w6.setCells b10 0 (ints .u8 fi).toArray.toList = w7 at *
 go_wp2_with (fail)
 have s7 := hW.size
 refine rSpec 3 90 (fun _ => false) [Is (.slice (some ⟨b11, 0, none⟩) 32 32), Is (.slice (some ⟨b2, o2, none⟩) 64 c2), Is (.slice (some ⟨b2, o2 + 32, none⟩) 32 (c2 - 32))] [48, 49, 50] (gC (gC (gC grows_nil)))
   ⟨step_one rfl (.inl rfl) (fun ev w h hc => ex_slA (P := Tryd.prog) u32 z32 (m := 32) rfl rfl ev w h hc) rfl (kO 11 rfl),
    step_mvP rfl (.inl rfl) rfl rfl (kO 2 rfl),
    step_one rfl (.inl rfl) (fun ev w h hc => ex_slSl (P := Tryd.prog) usl zsl (l := 32) (by decide) (by have := HC2.out; omega) rfl rfl rfl rfl ev w h hc) rfl (kI 1 49 rfl rfl), trivial⟩ ?_
 intro val w8 hw hS hap hla
 simp only [pA, pB, pC, pD, pE, Act.put, pG, pH, pI, eVal hS 0 48 rfl rfl, eVal hS 1 49 rfl rfl, eVal hS 2 50 rfl rfl]
 clear hS hap hla
 replace hT := hT.next hw
 replace hX := hX.below hw
 replace hG1 := hG1.below hw
 replace hG2 := hG2.below hw
 replace h3 := h3.next hw
 replace h8 := h8.next hw
 replace Z11 := Z11.next hw
 replace h10 := h10.next hw
 replace hW := bT hW hw
 clear hw
 refine wpList_copyR rfl (.tmp 48) (.tmp 50) 23 23 rfl Tryd.underlying23 eq32.2.2.1 rfl rfl Z11 (il (zeros_len 32)) HE.out (by decide) hG2 ?_
 have h11 := Z11.storedA (us := ints .u8 se) ((il HE.out).trans (il (zeros_len 32)).symm)
 replace h10 := h10.pastA (b' := b11) (by first | exact ne10_11 | exact Ne.symm ne10_11) 0 (ints .u8 se)
 replace h3 := h3.pastA (b' := b11) (by omega) 0 (ints .u8 se)
 replace h8 := h8.pastA (b' := b11) (by omega) 0 (ints .u8 se)
 replace hW := Below.setCells hW (g := b11) (by omega) 0 (ints .u8 se).toArray.toList
 replace hT := hT0.next hW
 replace hX := hX0.below hW
 replace hG1 := hG10.below hW
 replace hG2 := hG20.below hW
 clear Z11
 generalize w8.setCells b11 0 (ints .u8 se).toArray.toList = w9 at *
 go_upto_region 14 with (fail)
 have s9 := hW.size
 refine rSeq 3 90 (fun _ => false) [Is (.agg (ints .u8 se).toArray), Is (.bool true), Is (.bool false)] [52, 53, 54] (gC (gC (gC grows_nil)))
   ⟨step_ldV rfl (.inl rfl) (fun _ hw => (h11.next hw).range) rfl Tryd.underlying22 rfl (szV inf32 (il HE.out)) rfl (kO 11 rfl),
    step_to rfl (.inl rfl) rfl cx8 krs rfl (one_arg (kI 0 52 rfl rfl)),
    step_not rfl (.inl rfl) (b := true) rfl rfl (kI 1 53 rfl rfl), trivial⟩ ?_
 intro val w10 hw hS hap hla
 simp only [pA, pB, pC, pD, pE, Act.put, pG, pH, pI, eVal hS 0 52 rfl rfl, eVal hS 1 53 rfl rfl, eVal hS 2 54 rfl rfl]
 clear hS hap hla
 replace hT := hT.next hw
 replace hX := hX.below hw
 replace hG1 := hG1.below hw
 replace hG2 := hG2.below hw
 replace h3 := h3.next hw
 replace h8 := h8.next hw
 replace h10 := h10.next hw
 replace h11 := h11.next hw
 replace hW := bT hW hw
 clear hw
 go_wp2_with (fail)
 have s10 := hW.size
 refine region_grow 9 90 (fun i => i == 0 || i == 2 || i == 4 || i == 6 || i == 8) (fun i => if i == 2 then some 0 else if i == 4 then some 2 else if i == 6 then some 4 else none) [IsOwn w10.heap.size 5 .u8 [], Is (.slice (some ⟨b10, 0, none⟩) 32 32), IsOwn w10.heap.size 5 .u8 fi, Is (.slice (some ⟨w.heap.size, 0, none⟩) 32 32), IsOwn w10.heap.size 5 .u8 (fi ++ pk), Is (.slice A m c), IsOwn w10.heap.size 5 .u8 (fi ++ (pk ++ tx)), Is (.agg (ints .u8 kk).toArray), IsZV w10.heap.size (ints .u8 (zeros 32))] [57, 58, 59, 60, 61, 62, 63, 64, 12] (by kernel_rfl) (by kernel_rfl) (by kernel_rfl) (by kernel_rfl) (Nat.le_of_eq rfl) ⟨(IsOwn.keeps _ _ _ _), (Is.keeps _ _), (IsOwn.keeps _ _ _ _), (Is.keeps _ _), (IsOwn.keeps _ _ _ _), (Is.keeps _ _), (IsOwn.keeps _ _ _ _), (Is.keeps _ _), (IsZV.keeps _ _), trivial⟩
   ⟨(step_bsl0 (.inl rfl) rfl Tryd.underlying23 infB rfl).up,
    (step_one rfl (.inl rfl) (fun ev w h hc => ex_slA (P := Tryd.prog) u32 z32 (m := 32) rfl rfl ev w h hc) rfl (kO 10 rfl)).up,
    step_appG rfl 0 57 (xs := []) (ys := fi) rfl rfl Tryd.underlying23 infB3 (by decide) rfl (by decide) (by kernel_rfl) rfl rfl rfl (by simp only [List.length_append, List.length_nil, HF.out, HPK.out, HXL.out]; have := HX3.out; omega) rfl ((kI 1 58 rfl rfl).nm HF.out (fun _ hw => ((h10.next hw)).nums)),
    (step_one rfl (.inl rfl) (fun ev w h hc => ex_slA (P := Tryd.prog) u32 z32 (m := 32) rfl rfl ev w h hc) rfl (kO 3 rfl)).up,
    step_appG rfl 2 59 (xs := fi) (ys := pk) rfl rfl Tryd.underlying23 infB3 (by decide) rfl (by decide) (by kernel_rfl) rfl rfl rfl (by simp only [List.length_append, List.length_nil, HF.out, HPK.out, HXL.out]; have := HX3.out; omega) rfl ((kI 3 60 rfl rfl).nm HPK.out (fun _ hw => ((h3.next hw)).nums)),
    (step_mvP rfl (.inl rfl) rfl rfl (kO 1 rfl)).up,
    step_appG rfl 4 61 (xs := (fi ++ pk)) (ys := tx) rfl rfl Tryd.underlying23 infB3 (by decide) rfl (by decide) (by kernel_rfl) rfl rfl (List.append_assoc _ _ _).symm (by simp only [List.length_append, List.length_nil, HF.out, HPK.out, HXL.out]; have := HX3.out; omega) rfl ((kI 5 62 rfl rfl).nm HXL.out (fun _ hw => hX.below hw)),
    (step_cw rfl (.inl rfl) rfl cx9 rfl (fun aa ww hw hf hd => by
      obtain ⟨A', c', e, hO⟩ := ((knowsW_in 6 63 (by decide) (by kernel_rfl) rfl rfl) : KnowsW _ _ _ _ _ _ _ _ (IsOwn _ 5 .u8 (fi ++ (pk ++ tx)))) aa ww hw hf hd
      rw [e] at hO
      have h := rnum_any (A := A') (c := c') (tx := fi ++ (pk ++ tx)) rfl (by simp only [List.length_append, HF.out, HPK.out, HXL.out]; have := HM3.out; omega) HALL.out ww hO.nums
      rw [HKE.out] at h
      exact ⟨_, by rw [map1, e], h⟩)).up,
    (step_allocV (.inl rfl) inf32 rfl rfl).up, trivial⟩ ?_
 intro val w11 hw hS hap hla
 have e58 : val 58 = (.slice (some ⟨b10, 0, none⟩) 32 32) := hS 1 58 (by decide) (by decide) rfl
 have e60 : val 60 = (.slice (some ⟨w.heap.size, 0, none⟩) 32 32) := hS 3 60 (by decide) (by decide) rfl
 have e62 : val 62 = (.slice A m c) := hS 5 62 (by decide) (by decide) rfl
 obtain ⟨A63, c63, e63, O63⟩ := hS 6 63 (by decide) (by decide) rfl
 have e64 : val 64 = (.agg (ints .u8 kk).toArray) := hS 7 64 (by decide) (by decide) rfl
 obtain ⟨b12, e12, L12, Z12⟩ := hS 8 12 (by decide) (by decide) rfl
 simp only [pA, pB, pC, pD, pE, Act.put, pG, pH, pI, e58, e60, e62, e63, e64, e12]
 generalize val 57 = g57
 generalize val 59 = g59
 generalize val 61 = g61
 clear hS hap hla e58 e60 e62 e63 e64 e12 O63
 have LL12 := hid (show ((ints .u8 kk)).length = 32 from (il HK.out))
 have R12 := Z12.roomA (us := (ints .u8 kk)) (LL12.out.trans (zv .u8 32).symm)
 have h12 := Z12.storedA (us := (ints .u8 kk)) (LL12.out.trans (zv .u8 32).symm)
 have hu := Below.setCells hw L12 0 (ints .u8 kk).toArray.toList
 replace hT := hT.next hu
 replace hX := hX.below hu
 replace hG1 := hG1.below hu
 replace hG2 := hG2.below hu
 replace h3 := h3.next hu
 replace h8 := h8.next hu
 replace h10 := h10.next hu
 replace h11 := h11.next hu
 replace hW := bT hW hu
 clear hu
 with_reducible refine wpList_store_mid (op := ⟨none, .store 22 (.tmp 12) (.tmp 64), _, _, _, _⟩) rfl 22 (.tmp 12) (.tmp 64) rfl b12 0 (ints .u8 kk).toArray rfl rfl R12 (szA inf32 LL12.out) (ints_all _ _) ?_
 generalize (w11.setCells b12 0 (ints .u8 kk).toArray.toList) = w12 at *
 clear hw R12 LL12 Z12 L12
 go_upto_region 17 with (fail)
 have s12 := hW.size
 refine rSeq 6 90 (fun i => i == 5) [Is (.agg (ints .u8 fi).toArray), Is (.tuple #[(.agg (ints .i64 ff).toArray), (.int .i64 0)]), Is (.tuple #[(.agg (ints .i64 ff).toArray), (.int .i64 0)]), IsL ff, Is (.int .i64 0), IsZV w12.heap.size (ints .i64 (zeros 64))] [66, 67, 65, 68, 69, 13] (gC (gC (gC (gC (gC (grows_cons (IsZV.grows _ _) grows_nil))))))
   ⟨step_ldV rfl (.inl rfl) (fun _ hw => (h10.next hw).range) rfl Tryd.underlying22 rfl (szV inf32 (il HF.out)) rfl (kO 10 rfl),
    step_toP rfl (.inl rfl) rfl cx7 hT.p kof2 rfl (one_arg (kI 0 66 rfl rfl)),
    step_mvP rfl (.inl rfl) rfl rfl (kI 1 67 rfl rfl),
    step_fst rfl (.inl rfl) rfl rfl (kI 2 65 rfl rfl),
    step_snd rfl (.inl rfl) rfl rfl (kI 2 65 rfl rfl),
    step_allocV (.inl rfl) infP rfl rfl, trivial⟩ ?_
 intro val w13 hw hS hap hla
 obtain ⟨b13, e13, L13, Z13⟩ := hS 5 13 (by decide) rfl
 simp only [pA, pB, pC, pD, pE, Act.put, pG, pH, pI, eVal hS 0 66 rfl rfl, eVal hS 1 67 rfl rfl, eVal hS 2 65 rfl rfl, eVal hS 3 68 rfl rfl, eVal hS 4 69 rfl rfl, e13]
 clear hS hap hla e13
 have LL13 := hid (show ((ints .i64 ff)).length = 64 from (il HFF.out))
 have R13 := Z13.roomA (us := (ints .i64 ff)) (LL13.out.trans (zv .i64 64).symm)
 have h13 := Z13.storedA (us := (ints .i64 ff)) (LL13.out.trans (zv .i64 64).symm)
 have hu := Below.setCells hw L13 0 (ints .i64 ff).toArray.toList
 replace hT := hT.next hu
 replace hX := hX.below hu
 replace hG1 := hG1.below hu
 replace hG2 := hG2.below hu
 replace h3 := h3.next hu
 replace h8 := h8.next hu
 replace h10 := h10.next hu
 replace h11 := h11.next hu
 replace h12 := h12.next hu
 replace hW := bT hW hu
 clear hu
 with_reducible refine wpList_store_mid (op := ⟨none, .store 31 (.tmp 13) (.tmp 68), _, _, _, _⟩) rfl 31 (.tmp 13) (.tmp 68) rfl b13 0 (ints .i64 ff).toArray rfl rfl R13 (szA infP LL13.out) (ints_all _ _) ?_
 generalize (w13.setCells b13 0 (ints .i64 ff).toArray.toList) = w14 at *
 clear hw R13 LL13 Z13 L13
 go_wp2_with (fail)
 have lt10 := h10.lt (by rw [ints_length, HF.out]; decide)
 have lt11 := h11.lt (by rw [ints_length, HE.out]; decide)
 have lt12 := h12.lt (by rw [ints_length, HK.out]; decide)
 have lt13 := h13.lt (by rw [ints_length, HFF.out]; decide)
 have lt3b := h3.lt (by rw [ints_length, HPK.out]; decide)
 have lt8b := h8.lt (by rw [ints_length, HRR.out]; decide)
 go_wp2_with (fail)
 have s14 := hW.size
 refine rSpec 4 90 (fun i => i == 3) [IsP ⟨bxF, byF, 1⟩, Is (.agg (ints .u8 se).toArray), IsQ (timesB se), IsZ47 w14.heap.size] [74, 75, 76, 15] (grows_cons (IsP.grows _) (gC (grows_cons (IsQ.grows _) (grows_cons (IsZ47.grows _) grows_nil))))
   ⟨step_qbase rfl (.inl rfl) rfl rfl,
    step_ldV rfl (.inl rfl) (fun _ hw => (h11.next hw).range) rfl Tryd.underlying22 rfl (szV inf32 (il HE.out)) rfl (kO 11 rfl),
    step_qmul rfl (.inl rfl) base_on HE.out HEB.out rfl rfl rfl (fun aa ww hw hf hd => base_q ((knowsP_in 0 74 (by decide) (by kernel_rfl) rfl rfl) aa ww hw hf hd)) (kI 1 75 rfl rfl),
    step_alloc47 (.inl rfl) rfl rfl, trivial⟩ ?_
 intro val w15 hw hS hap hla
 have e75 := eVal hS 1 75 rfl rfl
 obtain ⟨A76, B76, C76, a76, b_76, d76, e76, J76⟩ := (show IsQ (timesB se) (val 76) w15 from hS 2 76 (by decide) rfl).val
 obtain ⟨b15, e15, L15, Z15⟩ := hS 3 15 (by decide) rfl
 simp only [pA, pB, pC, pD, pE, Act.put, pG, pH, pI, e75, e76, e15]
 generalize val 74 = g74
 clear hS hap hla e75 e76 e15
 replace hT := hT.next hw
 replace hX := hX.below hw
 replace hG1 := hG1.below hw
 replace hG2 := hG2.below hw
 replace h3 := h3.next hw
 replace h8 := h8.next hw
 replace h10 := h10.next hw
 replace h11 := h11.next hw
 replace h12 := h12.next hw
 replace h13 := h13.next hw
 replace hW := bT hW hw
 clear hw
 have R15 := Z15.room (us := (pv3 A76 B76 C76 a76 b_76 d76)) rfl
 replace J76 := Z15.isq J76 (pv3 A76 B76 C76 a76 b_76 d76).toArray.toList
 replace h3 := h3.pastA (b' := b15) (by omega) 0 (pv3 A76 B76 C76 a76 b_76 d76)
 replace h8 := h8.pastA (b' := b15) (by omega) 0 (pv3 A76 B76 C76 a76 b_76 d76)
 replace h10 := h10.pastA (b' := b15) (by omega) 0 (pv3 A76 B76 C76 a76 b_76 d76)
 replace h11 := h11.pastA (b' := b15) (by omega) 0 (pv3 A76 B76 C76 a76 b_76 d76)
 replace h12 := h12.pastA (b' := b15) (by omega) 0 (pv3 A76 B76 C76 a76 b_76 d76)
 replace h13 := h13.pastA (b' := b15) (by omega) 0 (pv3 A76 B76 C76 a76 b_76 d76)
 replace Z15 := Z15.stored (us := (pv3 A76 B76 C76 a76 b_76 d76)) rfl (pv3_sl _ _ _ _ _ _)
 replace hW := Below.setCells hW (g := b15) (by omega) 0 (pv3 A76 B76 C76 a76 b_76 d76).toArray.toList
 replace hT := hT0.next hW
 with_reducible refine wpList_store_mid (op := ⟨none, .store 38 (.tmp 15) (.tmp 76), _, _, _, _⟩) rfl 38 (.tmp 15) (.tmp 76) rfl b15 0 (pv3 A76 B76 C76 a76 b_76 d76).toArray rfl rfl R15 (a47 rfl) (sl_one (pv3_sl _ _ _ _ _ _)) ?_
 clear R15 hX hG1 hG2
 generalize (w15.setCells b15 0 (pv3 A76 B76 C76 a76 b_76 d76).toArray.toList) = w16 at *
 go_wp2_with (fail)
 have s16 := hW.size
 refine rSpec 8 90 (fun _ => false) [Is (.agg (pv3 A76 B76 C76 a76 b_76 d76).toArray), Is (.agg (ints .u8 ys).toArray), IsL ff, IsL rr, Is (.agg (ints .u8 kk).toArray), IsL m2, IsL m5, Is (.agg (ints .u8 zs).toArray)] [77, 78, 79, 80, 81, 82, 83, 84] (gC (gC (gC (gC (gC (gC (gC (gC grows_nil))))))))
   ⟨step_rb rfl (.inl rfl) Z15 15 rfl (by kernel_rfl) rfl rfl,
    step_qbytes rfl (.inl rfl) HYE.out rfl rfl ((kI 0 77 rfl rfl).q J76),
    step_ldV rfl (.inl rfl) (fun _ hw => (h13.next hw).range) rfl Tryd.underlying31 rfl (szV infP (il HFF.out)) rfl (kO 13 rfl),
    step_ldV rfl (.inl rfl) (fun _ hw => (h8.next hw).range) rfl Tryd.underlying31 rfl (szV infP (il HRR.out)) rfl (kO 8 rfl),
    step_ldV rfl (.inl rfl) (fun _ hw => (h12.next hw).range) rfl Tryd.underlying22 rfl (szV inf32 (il HK.out)) rfl (kO 12 rfl),
    step_toP rfl (.inl rfl) rfl cx14 hT.p km2 rfl (two_args (kI 3 80 rfl rfl) (kI 4 81 rfl rfl)),
    step_toP rfl (.inl rfl) rfl cx13 hT.p kadd rfl (two_args (kI 2 79 rfl rfl) (kI 5 82 rfl rfl)),
    step_to rfl (.inl rfl) rfl cx15 kby rfl (one_arg (kI 6 83 rfl rfl)), trivial⟩ ?_
 intro val w17 hw hS hap hla
 simp only [pA, pB, pC, pD, pE, Act.put, pG, pH, pI, eVal hS 0 77 rfl rfl, eVal hS 1 78 rfl rfl, eVal hS 2 79 rfl rfl, eVal hS 3 80 rfl rfl, eVal hS 4 81 rfl rfl, eVal hS 5 82 rfl rfl, eVal hS 6 83 rfl rfl, eVal hS 7 84 rfl rfl]
 clear hS hap hla
 replace hT := hT.next hw
 replace h3 := h3.next hw
 replace h8 := h8.next hw
 replace h10 := h10.next hw
 replace h11 := h11.next hw
 replace h12 := h12.next hw
 replace h13 := h13.next hw
 replace Z15 := Z15.next hw
 replace J76 := J76.next hw
 replace hW := bT hW hw
 clear hw
 have he : ∀ W, (Op.equalIn 10000 22 (.agg (ints .u8 ys).toArray) (.agg (ints .u8 zs).toArray)).run Tryd.prog W = .ok true W := fun W => by
   rw [← HD.out]
   exact arr_eq_run (P := Tryd.prog) 22 5 32 .u8 ys zs eq32.1 eq32.2.1 eq32.2.2.1 HY.out HZ.out 9998 W
 have heg := eq32.2.2.2
 go_wp2_with (fail)
 go_ret
 exact ⟨rfl, hW⟩
theorem sv_no {pk tx fi se rr kk ff m2 m5 ys zs : List Int} (HPK : Hid (pk.length = 32)) (HPKB : Hid (Byt pk)) (HF : Hid (fi.length = 32)) (HFB : Hid (Byt fi)) (HE : Hid (se.length = 32)) (HEB : Hid (Byt se)) {A : Option Addr} {m c b2 o2 c2 : Nat} (HC2 : Hid (64 ≤ c2)) (HXL : Hid (tx.length = m)) (HXC : Hid (m ≤ c)) (HX3 : Hid (m ≤ 1000)) (HXB : Hid (Byt tx)) (h1 : ¬ (300 : Int) < (m : Int)) (HRR : Hid (rr.length = 64)) (kof : CallsP 7 #[.agg (ints .u8 pk).toArray] (.tuple #[.agg (ints .i64 rr).toArray, .int .i64 0])) (krs : CallsTo 8 #[.agg (ints .u8 se).toArray] (.bool true)) (HK : Hid (kk.length = 32)) (HKB : Hid (Byt kk)) (HKE : Hid (scal (fi ++ (pk ++ tx)) = kk)) (HM3 : Hid (m ≤ 300)) (HALL : Hid (Byt (fi ++ (pk ++ tx)))) (HFF : Hid (ff.length = 64)) (kof2 : CallsP 7 #[.agg (ints .u8 fi).toArray] (.tuple #[.agg (ints .i64 ff).toArray, .int .i64 0]))
   (HM2 : Hid (m2.length = 64)) (HM5 : Hid (m5.length = 64)) (HY : Hid (ys.length = 32)) (HYE : Hid (bytesP (timesB se) = ys)) (HZ : Hid (zs.length = 32)) (km2 : CallsP 14 #[.agg (ints .i64 rr).toArray, .agg (ints .u8 kk).toArray] (.agg (ints .i64 m2).toArray)) (kadd : CallsP 13 #[.agg (ints .i64 ff).toArray, .agg (ints .i64 m2).toArray] (.agg (ints .i64 m5).toArray)) (kby : CallsTo 15 #[.agg (ints .i64 m5).toArray] (.agg (ints .u8 zs).toArray)) (HD : Hid (decide (ys = zs) = false)) (KV : Hid (∀ w, TabsA w → Nums w .u8 A tx → Nums w .u8 (some ⟨b2, o2, none⟩) fi → Nums w .u8 (some ⟨b2, o2 + 32, none⟩) se → Calls Tryd.prog 6 #[.agg (ints .u8 pk).toArray, .slice A m c, .slice (some ⟨b2, o2, none⟩) 64 c2] w fun e w' => e = .returned (.int .i64 22) ∧ Below w.heap.size w w')) (w : World) (hT : TabsA w) (hX : Nums w .u8 A tx) (hG1 : Nums w .u8 (some ⟨b2, o2, none⟩) fi) (hG2 : Nums w .u8 (some ⟨b2, o2 + 32, none⟩) se) : Calls Tryd.prog 3 #[.agg (ints .u8 pk).toArray, .slice A m c, .slice (some ⟨b2, o2, none⟩) 64 c2] w fun e w' => e = .returned (.bool true) ∧ Below w.heap.size w w' := by
 obtain ⟨z3_, s3_⟩ := zero_of_info inf32
 have h3 := Rw.new w (ints .u8 pk) 22
 have hW := below_new w (.cells (ints .u8 pk).toArray 22)
 have hT0 := hT
 replace hT := hT.next hW
 have hX0 := hX
 replace hX := hX.below hW
 have hG10 := hG1
 have hG20 := hG2
 replace hG1 := hG1.below hW
 replace hG2 := hG2.below hW
 go_enter Tryd.func3, Tryd.ntmps3
 go_upto_region 1 with (fail)
 generalize w.alloc (.cells (ints .u8 pk).toArray 22) = w0 at *
 have s0 := hW.size
 refine rSeq 2 90 (fun _ => false) [Is (.bool true), Is (.bool false)] [16, 17] (gC (gC grows_nil))
   ⟨step_toA rfl (.inl rfl) rfl cx5 hT awake_any rfl (no_args),
    step_not rfl (.inl rfl) (b := true) rfl rfl (kI 0 16 rfl rfl), trivial⟩ ?_
 intro val w1 hw hS hap hla
 simp only [pA, pB, pC, pD, pE, Act.put, pG, pH, pI, eVal hS 0 16 rfl rfl, eVal hS 1 17 rfl rfl]
 clear hS hap hla
 replace hT := hT.next hw
 replace hX := hX.below hw
 replace hG1 := hG1.below hw
 replace hG2 := hG2.below hw
 replace h3 := h3.next hw
 replace hW := bT hW hw
 clear hw
 go_upto_region 3 with (fail)
 go_upto_region 5 with (fail)
 have s1 := hW.size
 refine rSeq 5 90 (fun _ => false) [Is (.agg (ints .u8 pk).toArray), Is (.slice A m c), Is (.slice (some ⟨b2, o2, none⟩) 64 c2), Is (.int .i64 22), Is (.int .i64 22)] [26, 27, 28, 29, 7] (gC (gC (gC (gC (gC grows_nil)))))
   ⟨step_ldV rfl (.inl rfl) (fun _ hw => (h3.next hw).range) rfl Tryd.underlying22 rfl (szV inf32 (il HPK.out)) rfl (kO 3 rfl),
    step_mvP rfl (.inl rfl) rfl rfl (kO 1 rfl),
    step_mvP rfl (.inl rfl) rfl rfl (kO 2 rfl),
    step_cw rfl (.inl rfl) rfl cx6 rfl (fun aa ww hw hf hd => ⟨_, (three_args (kI 0 26 rfl rfl) (kI 1 27 rfl rfl) (kI 2 28 rfl rfl)) aa ww hw hf hd, KV.out ww (hT.next hw) (hX.below hw) (hG1.below hw) (hG2.below hw)⟩),
    step_asgP rfl (.inl rfl) rfl rfl (kI 3 29 rfl rfl), trivial⟩ ?_
 intro val w2 hw hS hap hla
 simp only [pA, pB, pC, pD, pE, Act.put, pG, pH, pI, eVal hS 0 26 rfl rfl, eVal hS 1 27 rfl rfl, eVal hS 2 28 rfl rfl, eVal hS 3 29 rfl rfl, eVal hS 4 7 rfl rfl]
 clear hS hap hla
 replace hT := hT.next hw
 replace hX := hX.below hw
 replace hG1 := hG1.below hw
 replace hG2 := hG2.below hw
 replace h3 := h3.next hw
 replace hW := bT hW hw
 clear hw
 go_upto_region 6 with (fail)
 go_upto_region 8 with (fail)
 have s2 := hW.size
 refine rSeq 6 90 (fun i => i == 5) [Is (.agg (ints .u8 pk).toArray), Is (.tuple #[(.agg (ints .i64 rr).toArray), (.int .i64 0)]), Is (.tuple #[(.agg (ints .i64 rr).toArray), (.int .i64 0)]), IsL rr, Is (.int .i64 0), IsZV w2.heap.size (ints .i64 (zeros 64))] [36, 37, 35, 38, 39, 8] (gC (gC (gC (gC (gC (grows_cons (IsZV.grows _ _) grows_nil))))))
   ⟨step_ldV rfl (.inl rfl) (fun _ hw => (h3.next hw).range) rfl Tryd.underlying22 rfl (szV inf32 (il HPK.out)) rfl (kO 3 rfl),
    step_toP rfl (.inl rfl) rfl cx7 hT.p kof rfl (one_arg (kI 0 36 rfl rfl)),
    step_mvP rfl (.inl rfl) rfl rfl (kI 1 37 rfl rfl),
    step_fst rfl (.inl rfl) rfl rfl (kI 2 35 rfl rfl),
    step_snd rfl (.inl rfl) rfl rfl (kI 2 35 rfl rfl),
    step_allocV (.inl rfl) infP rfl rfl, trivial⟩ ?_
 intro val w3 hw hS hap hla
 obtain ⟨b8, e8, L8, Z8⟩ := hS 5 8 (by decide) rfl
 simp only [pA, pB, pC, pD, pE, Act.put, pG, pH, pI, eVal hS 0 36 rfl rfl, eVal hS 1 37 rfl rfl, eVal hS 2 35 rfl rfl, eVal hS 3 38 rfl rfl, eVal hS 4 39 rfl rfl, e8]
 clear hS hap hla e8
 have LL8 := hid (show ((ints .i64 rr)).length = 64 from (il HRR.out))
 have R8 := Z8.roomA (us := (ints .i64 rr)) (LL8.out.trans (zv .i64 64).symm)
 have h8 := Z8.storedA (us := (ints .i64 rr)) (LL8.out.trans (zv .i64 64).symm)
 have hu := Below.setCells hw L8 0 (ints .i64 rr).toArray.toList
 replace hT := hT.next hu
 replace hX := hX.below hu
 replace hG1 := hG1.below hu
 replace hG2 := hG2.below hu
 replace h3 := h3.next hu
 replace hW := bT hW hu
 clear hu
 with_reducible refine wpList_store_mid (op := ⟨none, .store 31 (.tmp 8) (.tmp 38), _, _, _, _⟩) rfl 31 (.tmp 8) (.tmp 38) rfl b8 0 (ints .i64 rr).toArray rfl rfl R8 (szA infP LL8.out) (ints_all _ _) ?_
 generalize (w3.setCells b8 0 (ints .i64 rr).toArray.toList) = w4 at *
 clear hw R8 LL8 Z8 L8
 go_upto_region 11 with (fail)
 have lt3 := h3.lt (by rw [ints_length, HPK.out]; decide)
 have lt8 := h8.lt (by rw [ints_length, HRR.out]; decide)
 have s4 := hW.size
 refine rSeq 2 90 (fun i => i == 0 || i == 1) [IsZV w4.heap.size (ints .u8 (zeros 32)), IsZV w4.heap.size (ints .u8 (zeros 32))] [10, 11] (grows_cons (IsZV.grows _ _) (grows_cons (IsZV.grows _ _) grows_nil))
   ⟨step_allocV (.inl rfl) inf32 rfl rfl,
    step_allocV (.inl rfl) inf32 rfl rfl, trivial⟩ ?_
 intro val w5 hw hS hap hla
 obtain ⟨b10, e10, L10, Z10⟩ := hS 0 10 (by decide) rfl
 obtain ⟨b11, e11, L11, Z11⟩ := hS 1 11 (by decide) rfl
 have ne10_11 : b10 ≠ b11 := fun e => hap 0 1 10 11 (by decide) (by decide) rfl rfl (by decide) rfl rfl (by rw [e10, e11, e])
 simp only [pA, pB, pC, pD, pE, Act.put, pG, pH, pI, e10, e11]
 clear hS hap hla e10 e11
 replace hT := hT.next hw
 replace hX := hX.below hw
 replace hG1 := hG1.below hw
 replace hG2 := hG2.below hw
 replace h3 := h3.next hw
 replace h8 := h8.next hw
 replace hW := bT hW hw
 clear hw
 go_wp2_with (fail)
 have s5 := hW.size
 refine rSpec 3 90 (fun _ => false) [Is (.slice (some ⟨b10, 0, none⟩) 32 32), Is (.slice (some ⟨b2, o2, none⟩) 64 c2), Is (.slice (some ⟨b2, o2, none⟩) 32 c2)] [44, 45, 46] (gC (gC (gC grows_nil)))
   ⟨step_one rfl (.inl rfl) (fun ev w h hc => ex_slA (P := Tryd.prog) u32 z32 (m := 32) rfl rfl ev w h hc) rfl (kO 10 rfl),
    step_mvP rfl (.inl rfl) rfl rfl (kO 2 rfl),
    step_one rfl (.inl rfl) (fun ev w h hc => ex_slSh (P := Tryd.prog) usl zsl (h := 32) (by have := HC2.out; omega) rfl (.inr (by decide)) ev w h hc) rfl (kI 1 45 rfl rfl), trivial⟩ ?_
 intro val w6 hw hS hap hla
 simp only [pA, pB, pC, pD, pE, Act.put, pG, pH, pI, eVal hS 0 44 rfl rfl, eVal hS 1 45 rfl rfl, eVal hS 2 46 rfl rfl]
 clear hS hap hla
 replace hT := hT.next hw
 replace hX := hX.below hw
 replace hG1 := hG1.below hw
 replace hG2 := hG2.below hw
 replace h3 := h3.next hw
 replace h8 := h8.next hw
 replace Z10 := Z10.next hw
 replace Z11 := Z11.next hw
 replace hW := bT hW hw
 clear hw
 refine wpList_copyR rfl (.tmp 44) (.tmp 46) 23 23 rfl Tryd.underlying23 eq32.2.2.1 rfl rfl Z10 (il (zeros_len 32)) HF.out (by decide) hG1 ?_
 have h10 := Z10.storedA (us := ints .u8 fi) ((il HF.out).trans (il (zeros_len 32)).symm)
 replace Z11 := Z11.pastA (b' := b10) (by first | exact ne10_11 | exact Ne.symm ne10_11) 0 (ints .u8 fi)
 replace h3 := h3.pastA (b' := b10) (by omega) 0 (ints .u8 fi)
 replace h8 := h8.pastA (b' := b10) (by omega) 0 (ints .u8 fi)
 replace hW := Below.setCells hW (g := b10) (by omega) 0 (ints .u8 fi).toArray.toList
 replace hT := hT0.next hW
 replace hX := hX0.below hW
 replace hG1 := hG10.below hW
 replace hG2 := hG20.below hW
 clear Z10
 generalize w6.setCells b10 0 (ints .u8 fi).toArray.toList = w7 at *
 go_wp2_with (fail)
 have s7 := hW.size
 refine rSpec 3 90 (fun _ => false) [Is (.slice (some ⟨b11, 0, none⟩) 32 32), Is (.slice (some ⟨b2, o2, none⟩) 64 c2), Is (.slice (some ⟨b2, o2 + 32, none⟩) 32 (c2 - 32))] [48, 49, 50] (gC (gC (gC grows_nil)))
   ⟨step_one rfl (.inl rfl) (fun ev w h hc => ex_slA (P := Tryd.prog) u32 z32 (m := 32) rfl rfl ev w h hc) rfl (kO 11 rfl),
    step_mvP rfl (.inl rfl) rfl rfl (kO 2 rfl),
    step_one rfl (.inl rfl) (fun ev w h hc => ex_slSl (P := Tryd.prog) usl zsl (l := 32) (by decide) (by have := HC2.out; omega) rfl rfl rfl rfl ev w h hc) rfl (kI 1 49 rfl rfl), trivial⟩ ?_
 intro val w8 hw hS hap hla
 simp only [pA, pB, pC, pD, pE, Act.put, pG, pH, pI, eVal hS 0 48 rfl rfl, eVal hS 1 49 rfl rfl, eVal hS 2 50 rfl rfl]
 clear hS hap hla
 replace hT := hT.next hw
 replace hX := hX.below hw
 replace hG1 := hG1.below hw
 replace hG2 := hG2.below hw
 replace h3 := h3.next hw
 replace h8 := h8.next hw
 replace Z11 := Z11.next hw
 replace h10 := h10.next hw
 replace hW := bT hW hw
 clear hw
 refine wpList_copyR rfl (.tmp 48) (.tmp 50) 23 23 rfl Tryd.underlying23 eq32.2.2.1 rfl rfl Z11 (il (zeros_len 32)) HE.out (by decide) hG2 ?_
 have h11 := Z11.storedA (us := ints .u8 se) ((il HE.out).trans (il (zeros_len 32)).symm)
 replace h10 := h10.pastA (b' := b11) (by first | exact ne10_11 | exact Ne.symm ne10_11) 0 (ints .u8 se)
 replace h3 := h3.pastA (b' := b11) (by omega) 0 (ints .u8 se)
 replace h8 := h8.pastA (b' := b11) (by omega) 0 (ints .u8 se)
 replace hW := Below.setCells hW (g := b11) (by omega) 0 (ints .u8 se).toArray.toList
 replace hT := hT0.next hW
 replace hX := hX0.below hW
 replace hG1 := hG10.below hW
 replace hG2 := hG20.below hW
 clear Z11
 generalize w8.setCells b11 0 (ints .u8 se).toArray.toList = w9 at *
 go_upto_region 14 with (fail)
 have s9 := hW.size
 refine rSeq 3 90 (fun _ => false) [Is (.agg (ints .u8 se).toArray), Is (.bool true), Is (.bool false)] [52, 53, 54] (gC (gC (gC grows_nil)))
   ⟨step_ldV rfl (.inl rfl) (fun _ hw => (h11.next hw).range) rfl Tryd.underlying22 rfl (szV inf32 (il HE.out)) rfl (kO 11 rfl),
    step_to rfl (.inl rfl) rfl cx8 krs rfl (one_arg (kI 0 52 rfl rfl)),
    step_not rfl (.inl rfl) (b := true) rfl rfl (kI 1 53 rfl rfl), trivial⟩ ?_
 intro val w10 hw hS hap hla
 simp only [pA, pB, pC, pD, pE, Act.put, pG, pH, pI, eVal hS 0 52 rfl rfl, eVal hS 1 53 rfl rfl, eVal hS 2 54 rfl rfl]
 clear hS hap hla
 replace hT := hT.next hw
 replace hX := hX.below hw
 replace hG1 := hG1.below hw
 replace hG2 := hG2.below hw
 replace h3 := h3.next hw
 replace h8 := h8.next hw
 replace h10 := h10.next hw
 replace h11 := h11.next hw
 replace hW := bT hW hw
 clear hw
 go_wp2_with (fail)
 have s10 := hW.size
 refine region_grow 9 90 (fun i => i == 0 || i == 2 || i == 4 || i == 6 || i == 8) (fun i => if i == 2 then some 0 else if i == 4 then some 2 else if i == 6 then some 4 else none) [IsOwn w10.heap.size 5 .u8 [], Is (.slice (some ⟨b10, 0, none⟩) 32 32), IsOwn w10.heap.size 5 .u8 fi, Is (.slice (some ⟨w.heap.size, 0, none⟩) 32 32), IsOwn w10.heap.size 5 .u8 (fi ++ pk), Is (.slice A m c), IsOwn w10.heap.size 5 .u8 (fi ++ (pk ++ tx)), Is (.agg (ints .u8 kk).toArray), IsZV w10.heap.size (ints .u8 (zeros 32))] [57, 58, 59, 60, 61, 62, 63, 64, 12] (by kernel_rfl) (by kernel_rfl) (by kernel_rfl) (by kernel_rfl) (Nat.le_of_eq rfl) ⟨(IsOwn.keeps _ _ _ _), (Is.keeps _ _), (IsOwn.keeps _ _ _ _), (Is.keeps _ _), (IsOwn.keeps _ _ _ _), (Is.keeps _ _), (IsOwn.keeps _ _ _ _), (Is.keeps _ _), (IsZV.keeps _ _), trivial⟩
   ⟨(step_bsl0 (.inl rfl) rfl Tryd.underlying23 infB rfl).up,
    (step_one rfl (.inl rfl) (fun ev w h hc => ex_slA (P := Tryd.prog) u32 z32 (m := 32) rfl rfl ev w h hc) rfl (kO 10 rfl)).up,
    step_appG rfl 0 57 (xs := []) (ys := fi) rfl rfl Tryd.underlying23 infB3 (by decide) rfl (by decide) (by kernel_rfl) rfl rfl rfl (by simp only [List.length_append, List.length_nil, HF.out, HPK.out, HXL.out]; have := HX3.out; omega) rfl ((kI 1 58 rfl rfl).nm HF.out (fun _ hw => ((h10.next hw)).nums)),
    (step_one rfl (.inl rfl) (fun ev w h hc => ex_slA (P := Tryd.prog) u32 z32 (m := 32) rfl rfl ev w h hc) rfl (kO 3 rfl)).up,
    step_appG rfl 2 59 (xs := fi) (ys := pk) rfl rfl Tryd.underlying23 infB3 (by decide) rfl (by decide) (by kernel_rfl) rfl rfl rfl (by simp only [List.length_append, List.length_nil, HF.out, HPK.out, HXL.out]; have := HX3.out; omega) rfl ((kI 3 60 rfl rfl).nm HPK.out (fun _ hw => ((h3.next hw)).nums)),
    (step_mvP rfl (.inl rfl) rfl rfl (kO 1 rfl)).up,
    step_appG rfl 4 61 (xs := (fi ++ pk)) (ys := tx) rfl rfl Tryd.underlying23 infB3 (by decide) rfl (by decide) (by kernel_rfl) rfl rfl (List.append_assoc _ _ _).symm (by simp only [List.length_append, List.length_nil, HF.out, HPK.out, HXL.out]; have := HX3.out; omega) rfl ((kI 5 62 rfl rfl).nm HXL.out (fun _ hw => hX.below hw)),
    (step_cw rfl (.inl rfl) rfl cx9 rfl (fun aa ww hw hf hd => by
      obtain ⟨A', c', e, hO⟩ := ((knowsW_in 6 63 (by decide) (by kernel_rfl) rfl rfl) : KnowsW _ _ _ _ _ _ _ _ (IsOwn _ 5 .u8 (fi ++ (pk ++ tx)))) aa ww hw hf hd
      rw [e] at hO
      have h := rnum_any (A := A') (c := c') (tx := fi ++ (pk ++ tx)) rfl (by simp only [List.length_append, HF.out, HPK.out, HXL.out]; have := HM3.out; omega) HALL.out ww hO.nums
      rw [HKE.out] at h
      exact ⟨_, by rw [map1, e], h⟩)).up,
    (step_allocV (.inl rfl) inf32 rfl rfl).up, trivial⟩ ?_
 intro val w11 hw hS hap hla
 have e58 : val 58 = (.slice (some ⟨b10, 0, none⟩) 32 32) := hS 1 58 (by decide) (by decide) rfl
 have e60 : val 60 = (.slice (some ⟨w.heap.size, 0, none⟩) 32 32) := hS 3 60 (by decide) (by decide) rfl
 have e62 : val 62 = (.slice A m c) := hS 5 62 (by decide) (by decide) rfl
 obtain ⟨A63, c63, e63, O63⟩ := hS 6 63 (by decide) (by decide) rfl
 have e64 : val 64 = (.agg (ints .u8 kk).toArray) := hS 7 64 (by decide) (by decide) rfl
 obtain ⟨b12, e12, L12, Z12⟩ := hS 8 12 (by decide) (by decide) rfl
 simp only [pA, pB, pC, pD, pE, Act.put, pG, pH, pI, e58, e60, e62, e63, e64, e12]
 generalize val 57 = g57
 generalize val 59 = g59
 generalize val 61 = g61
 clear hS hap hla e58 e60 e62 e63 e64 e12 O63
 have LL12 := hid (show ((ints .u8 kk)).length = 32 from (il HK.out))
 have R12 := Z12.roomA (us := (ints .u8 kk)) (LL12.out.trans (zv .u8 32).symm)
 have h12 := Z12.storedA (us := (ints .u8 kk)) (LL12.out.trans (zv .u8 32).symm)
 have hu := Below.setCells hw L12 0 (ints .u8 kk).toArray.toList
 replace hT := hT.next hu
 replace hX := hX.below hu
 replace hG1 := hG1.below hu
 replace hG2 := hG2.below hu
 replace h3 := h3.next hu
 replace h8 := h8.next hu
 replace h10 := h10.next hu
 replace h11 := h11.next hu
 replace hW := bT hW hu
 clear hu
 with_reducible refine wpList_store_mid (op := ⟨none, .store 22 (.tmp 12) (.tmp 64), _, _, _, _⟩) rfl 22 (.tmp 12) (.tmp 64) rfl b12 0 (ints .u8 kk).toArray rfl rfl R12 (szA inf32 LL12.out) (ints_all _ _) ?_
 generalize (w11.setCells b12 0 (ints .u8 kk).toArray.toList) = w12 at *
 clear hw R12 LL12 Z12 L12
 go_upto_region 17 with (fail)
 have s12 := hW.size
 refine rSeq 6 90 (fun i => i == 5) [Is (.agg (ints .u8 fi).toArray), Is (.tuple #[(.agg (ints .i64 ff).toArray), (.int .i64 0)]), Is (.tuple #[(.agg (ints .i64 ff).toArray), (.int .i64 0)]), IsL ff, Is (.int .i64 0), IsZV w12.heap.size (ints .i64 (zeros 64))] [66, 67, 65, 68, 69, 13] (gC (gC (gC (gC (gC (grows_cons (IsZV.grows _ _) grows_nil))))))
   ⟨step_ldV rfl (.inl rfl) (fun _ hw => (h10.next hw).range) rfl Tryd.underlying22 rfl (szV inf32 (il HF.out)) rfl (kO 10 rfl),
    step_toP rfl (.inl rfl) rfl cx7 hT.p kof2 rfl (one_arg (kI 0 66 rfl rfl)),
    step_mvP rfl (.inl rfl) rfl rfl (kI 1 67 rfl rfl),
    step_fst rfl (.inl rfl) rfl rfl (kI 2 65 rfl rfl),
    step_snd rfl (.inl rfl) rfl rfl (kI 2 65 rfl rfl),
    step_allocV (.inl rfl) infP rfl rfl, trivial⟩ ?_
 intro val w13 hw hS hap hla
 obtain ⟨b13, e13, L13, Z13⟩ := hS 5 13 (by decide) rfl
 simp only [pA, pB, pC, pD, pE, Act.put, pG, pH, pI, eVal hS 0 66 rfl rfl, eVal hS 1 67 rfl rfl, eVal hS 2 65 rfl rfl, eVal hS 3 68 rfl rfl, eVal hS 4 69 rfl rfl, e13]
 clear hS hap hla e13
 have LL13 := hid (show ((ints .i64 ff)).length = 64 from (il HFF.out))
 have R13 := Z13.roomA (us := (ints .i64 ff)) (LL13.out.trans (zv .i64 64).symm)
 have h13 := Z13.storedA (us := (ints .i64 ff)) (LL13.out.trans (zv .i64 64).symm)
 have hu := Below.setCells hw L13 0 (ints .i64 ff).toArray.toList
 replace hT := hT.next hu
 replace hX := hX.below hu
 replace hG1 := hG1.below hu
 replace hG2 := hG2.below hu
 replace h3 := h3.next hu
 replace h8 := h8.next hu
 replace h10 := h10.next hu
 replace h11 := h11.next hu
 replace h12 := h12.next hu
 replace hW := bT hW hu
 clear hu
 with_reducible refine wpList_store_mid (op := ⟨none, .store 31 (.tmp 13) (.tmp 68), _, _, _, _⟩) rfl 31 (.tmp 13) (.tmp 68) rfl b13 0 (ints .i64 ff).toArray rfl rfl R13 (szA infP LL13.out) (ints_all _ _) ?_
 generalize (w13.setCells b13 0 (ints .i64 ff).toArray.toList) = w14 at *
 clear hw R13 LL13 Z13 L13
 go_wp2_with (fail)
 have lt10 := h10.lt (by rw [ints_length, HF.out]; decide)
 have lt11 := h11.lt (by rw [ints_length, HE.out]; decide)
 have lt12 := h12.lt (by rw [ints_length, HK.out]; decide)
 have lt13 := h13.lt (by rw [ints_length, HFF.out]; decide)
 have lt3b := h3.lt (by rw [ints_length, HPK.out]; decide)
 have lt8b := h8.lt (by rw [ints_length, HRR.out]; decide)
 go_wp2_with (fail)
 have s14 := hW.size
 refine rSpec 4 90 (fun i => i == 3) [IsP ⟨bxF, byF, 1⟩, Is (.agg (ints .u8 se).toArray), IsQ (timesB se), IsZ47 w14.heap.size] [74, 75, 76, 15] (grows_cons (IsP.grows _) (gC (grows_cons (IsQ.grows _) (grows_cons (IsZ47.grows _) grows_nil))))
   ⟨step_qbase rfl (.inl rfl) rfl rfl,
    step_ldV rfl (.inl rfl) (fun _ hw => (h11.next hw).range) rfl Tryd.underlying22 rfl (szV inf32 (il HE.out)) rfl (kO 11 rfl),
    step_qmul rfl (.inl rfl) base_on HE.out HEB.out rfl rfl rfl (fun aa ww hw hf hd => base_q ((knowsP_in 0 74 (by decide) (by kernel_rfl) rfl rfl) aa ww hw hf hd)) (kI 1 75 rfl rfl),
    step_alloc47 (.inl rfl) rfl rfl, trivial⟩ ?_
 intro val w15 hw hS hap hla
 have e75 := eVal hS 1 75 rfl rfl
 obtain ⟨A76, B76, C76, a76, b_76, d76, e76, J76⟩ := (show IsQ (timesB se) (val 76) w15 from hS 2 76 (by decide) rfl).val
 obtain ⟨b15, e15, L15, Z15⟩ := hS 3 15 (by decide) rfl
 simp only [pA, pB, pC, pD, pE, Act.put, pG, pH, pI, e75, e76, e15]
 generalize val 74 = g74
 clear hS hap hla e75 e76 e15
 replace hT := hT.next hw
 replace hX := hX.below hw
 replace hG1 := hG1.below hw
 replace hG2 := hG2.below hw
 replace h3 := h3.next hw
 replace h8 := h8.next hw
 replace h10 := h10.next hw
 replace h11 := h11.next hw
 replace h12 := h12.next hw
 replace h13 := h13.next hw
 replace hW := bT hW hw
 clear hw
 have R15 := Z15.room (us := (pv3 A76 B76 C76 a76 b_76 d76)) rfl
 replace J76 := Z15.isq J76 (pv3 A76 B76 C76 a76 b_76 d76).toArray.toList
 replace h3 := h3.pastA (b' := b15) (by omega) 0 (pv3 A76 B76 C76 a76 b_76 d76)
 replace h8 := h8.pastA (b' := b15) (by omega) 0 (pv3 A76 B76 C76 a76 b_76 d76)
 replace h10 := h10.pastA (b' := b15) (by omega) 0 (pv3 A76 B76 C76 a76 b_76 d76)
 replace h11 := h11.pastA (b' := b15) (by omega) 0 (pv3 A76 B76 C76 a76 b_76 d76)
 replace h12 := h12.pastA (b' := b15) (by omega) 0 (pv3 A76 B76 C76 a76 b_76 d76)
 replace h13 := h13.pastA (b' := b15) (by omega) 0 (pv3 A76 B76 C76 a76 b_76 d76)
 replace Z15 := Z15.stored (us := (pv3 A76 B76 C76 a76 b_76 d76)) rfl (pv3_sl _ _ _ _ _ _)
 replace hW := Below.setCells hW (g := b15) (by omega) 0 (pv3 A76 B76 C76 a76 b_76 d76).toArray.toList
 replace hT := hT0.next hW
 with_reducible refine wpList_store_mid (op := ⟨none, .store 38 (.tmp 15) (.tmp 76), _, _, _, _⟩) rfl 38 (.tmp 15) (.tmp 76) rfl b15 0 (pv3 A76 B76 C76 a76 b_76 d76).toArray rfl rfl R15 (a47 rfl) (sl_one (pv3_sl _ _ _ _ _ _)) ?_
 clear R15 hX hG1 hG2
 generalize (w15.setCells b15 0 (pv3 A76 B76 C76 a76 b_76 d76).toArray.toList) = w16 at *
 go_wp2_with (fail)
 have s16 := hW.size
 refine rSpec 8 90 (fun _ => false) [Is (.agg (pv3 A76 B76 C76 a76 b_76 d76).toArray), Is (.agg (ints .u8 ys).toArray), IsL ff, IsL rr, Is (.agg (ints .u8 kk).toArray), IsL m2, IsL m5, Is (.agg (ints .u8 zs).toArray)] [77, 78, 79, 80, 81, 82, 83, 84] (gC (gC (gC (gC (gC (gC (gC (gC grows_nil))))))))
   ⟨step_rb rfl (.inl rfl) Z15 15 rfl (by kernel_rfl) rfl rfl,
    step_qbytes rfl (.inl rfl) HYE.out rfl rfl ((kI 0 77 rfl rfl).q J76),
    step_ldV rfl (.inl rfl) (fun _ hw => (h13.next hw).range) rfl Tryd.underlying31 rfl (szV infP (il HFF.out)) rfl (kO 13 rfl),
    step_ldV rfl (.inl rfl) (fun _ hw => (h8.next hw).range) rfl Tryd.underlying31 rfl (szV infP (il HRR.out)) rfl (kO 8 rfl),
    step_ldV rfl (.inl rfl) (fun _ hw => (h12.next hw).range) rfl Tryd.underlying22 rfl (szV inf32 (il HK.out)) rfl (kO 12 rfl),
    step_toP rfl (.inl rfl) rfl cx14 hT.p km2 rfl (two_args (kI 3 80 rfl rfl) (kI 4 81 rfl rfl)),
    step_toP rfl (.inl rfl) rfl cx13 hT.p kadd rfl (two_args (kI 2 79 rfl rfl) (kI 5 82 rfl rfl)),
    step_to rfl (.inl rfl) rfl cx15 kby rfl (one_arg (kI 6 83 rfl rfl)), trivial⟩ ?_
 intro val w17 hw hS hap hla
 simp only [pA, pB, pC, pD, pE, Act.put, pG, pH, pI, eVal hS 0 77 rfl rfl, eVal hS 1 78 rfl rfl, eVal hS 2 79 rfl rfl, eVal hS 3 80 rfl rfl, eVal hS 4 81 rfl rfl, eVal hS 5 82 rfl rfl, eVal hS 6 83 rfl rfl, eVal hS 7 84 rfl rfl]
 clear hS hap hla
 replace hT := hT.next hw
 replace h3 := h3.next hw
 replace h8 := h8.next hw
 replace h10 := h10.next hw
 replace h11 := h11.next hw
 replace h12 := h12.next hw
 replace h13 := h13.next hw
 replace Z15 := Z15.next hw
 replace J76 := J76.next hw
 replace hW := bT hW hw
 clear hw
 have he : ∀ W, (Op.equalIn 10000 22 (.agg (ints .u8 ys).toArray) (.agg (ints .u8 zs).toArray)).run Tryd.prog W = .ok false W := fun W => by
   rw [← HD.out]
   exact arr_eq_run (P := Tryd.prog) 22 5 32 .u8 ys zs eq32.1 eq32.2.1 eq32.2.2.1 HY.out HZ.out 9998 W
 have heg := eq32.2.2.2
 go_wp2_with (fail)
 go_ret
 exact ⟨rfl, hW⟩
theorem ver_big {P : Edw.Pt NT.PN} {pk tx fi se : List Int} (h : ¬ bn se < QN) : verN P pk tx fi se = 22 := if_neg h
theorem ver_bad {P : Edw.Pt NT.PN} (hP : Edw.On eF P) {pk tx fi se : List Int} (h : Bad fi) : verN P pk tx fi se = 22 := by
 unfold verN
 by_cases hq : bn se < QN
 · rw [if_pos hq]
   refine if_neg fun e => ?_
   rw [← e] at h
   exact bytesP_good (Edw.add_on pn_fld ns_e (timesB_on _) (Edw.neg_on (Edw.mul_on pn_fld ns_e hP _))) h
 · exact if_neg hq
theorem ver_is {P R : Edw.Pt NT.PN} (hP : Edw.On eF P) (hR : Edw.On eF R) {pk tx fi se : List Int} (hq : bn se < QN) (hf : bytesP R = fi) : verN P pk tx fi se = if bytesP (timesB se) = bytesP (Edw.add eF R (Edw.mul eF (bn (scal (fi ++ (pk ++ tx)))) P)) then 0 else 22 := by
 unfold verN
 rw [if_pos hq]
 have hK := Edw.mul_on pn_fld ns_e hP (bn (scal (fi ++ (pk ++ tx))))
 generalize Edw.mul eF (bn (scal (fi ++ (pk ++ tx)))) P = K at hK ⊢
 have hS := timesB_on se
 by_cases h : bytesP (timesB se) = bytesP (Edw.add eF R K)
 · rw [if_pos h]
   have e := bytesP_inj hS (Edw.add_on pn_fld ns_e hR hK) h
   refine if_pos ?_
   rw [e, Edw.comm eF R K, add_neg hK hR, hf]
 · rw [if_neg h]
   refine if_neg fun e => h ?_
   rw [← hf] at e
   have e2 := bytesP_inj (Edw.add_on pn_fld ns_e hS (Edw.neg_on hK)) hR e
   rw [← e2, neg_back hS hK]
theorem pr_on {l : List Int} {P : Edw.Pt NT.PN} (h : PR l P) : Edw.On eF P := by
 obtain ⟨c, _, _, h3⟩ := h
 exact h3
theorem signVerifies_walk (w : World) (ht : TabsA w) (pk : List Int) (lk : pk.length = 32) (wk : ∀ x ∈ pk, (Lit.int .u8 x).wf = true) (A : Option Addr) (c : Nat) (tx : List Int) (hc : tx.length ≤ c) (_ : c ≤ maxLen) (wx : ∀ x ∈ tx, (Lit.int .u8 x).wf = true) (hX : Nums w .u8 A tx)
   (B : Option Addr) (d : Nat) (sg : List Int) (hd : sg.length ≤ d) (_ : d ≤ maxLen) (wg : ∀ x ∈ sg, (Lit.int .u8 x).wf = true) (hG : Nums w .u8 B sg) :
   Calls Tryd.prog 3 #[.agg (ints .u8 pk).toArray, .slice A tx.length c, .slice B sg.length d] w fun e w' => e = .returned (.bool true) ∧ Below w.heap.size w w' := by
 have hkb := byt_of_wf wk
 have htb := byt_of_wf wx
 have hgb := byt_of_wf wg
 by_cases h1 : 300 < tx.length
 · exact sv_long (hid lk) (.inl (by omega)) w ht hX hG
 by_cases h2 : 100 < sg.length
 · exact sv_long (hid lk) (.inr (by omega)) w ht hX hG
 by_cases h3 : sg.length = 64
 · obtain ⟨b2, o2, rfl, _, _⟩ := hG (by omega)
   have hsp : sg.take 32 ++ sg.drop 32 = sg := List.take_append_drop 32 sg
   have hf : (sg.take 32).length = 32 := by rw [List.length_take, h3]; rfl
   have he : (sg.drop 32).length = 32 := by rw [List.length_drop, h3]
   have hfb : Byt (sg.take 32) := fun x hx => hgb x (List.mem_of_mem_take hx)
   have heb : Byt (sg.drop 32) := fun x hx => hgb x (List.mem_of_mem_drop hx)
   rw [h3]
   rw [← hsp] at hG
   have hd2 : 64 ≤ d := by omega
   clear hsp wg hgb hd h2
   generalize sg.take 32 = fi at *
   generalize sg.drop 32 = se at *
   clear h3
   have hG1 := hG.first
   have hG2 := hG.from (o' := o2 + 32) (by rw [hf])
   have both : ∀ w', Nums w' .u8 (some ⟨b2, o2, none⟩) fi → Nums w' .u8 (some ⟨b2, o2 + 32, none⟩) se → Nums w' .u8 (some ⟨b2, o2, none⟩) (fi ++ se) := fun w' g1 g2 hp => by
     obtain ⟨b', f', e1, hlt, hc1⟩ := g1 (by omega)
     obtain ⟨b3, f3, e3, _, hc3⟩ := g2 (by omega)
     injection e1 with e1
     injection e1 with e1 e2
     injection e3 with e3
     injection e3 with e3 e4
     subst e1 e2 e3 e4
     refine ⟨b2, o2, rfl, hlt, fun i hi => ?_⟩
     by_cases hi2 : i < 32
     · rw [hc1 i (by omega), List.getD_eq_getElem?_getD, List.getD_eq_getElem?_getD, List.getElem?_append_left (by omega)]
     · rw [List.length_append] at hi
       have h5 := hc3 (i - 32) (by omega)
       rw [show o2 + 32 + (i - 32) = o2 + i by omega] at h5
       rw [h5, List.getD_eq_getElem?_getD, List.getD_eq_getElem?_getD, List.getElem?_append_right (by omega), hf]
   by_cases hb : Bad pk
   · exact sv_bad (tx := tx) (hid lk) (hid hkb) (hid hf) (hid hfb) (hid he) (hid heb) (hid hd2) (hid rfl) (hid hc) (hid (by omega)) (hid htb) (by omega) (of_bad lk hkb hb)
       (hid fun w' hT hX g1 g2 => verify_none lk hkb hf hfb he heb hd2 rfl hc (by omega) htb hb hT hX (both w' g1 g2)) w ht hX hG1 hG2
   · obtain ⟨rr, P, kof, hr, _⟩ := of_good lk hkb hb
     have hP := pr_on hr
     have KV : ∀ rv, verN P pk tx fi se = rv → ∀ w', TabsA w' → Nums w' .u8 A tx → Nums w' .u8 (some ⟨b2, o2, none⟩) fi → Nums w' .u8 (some ⟨b2, o2 + 32, none⟩) se → Calls Tryd.prog 6 #[.agg (ints .u8 pk).toArray, .slice A tx.length c, .slice (some ⟨b2, o2, none⟩) 64 d] w' fun e w2 => e = .returned (.int .i64 rv) ∧ Below w'.heap.size w' w2 := fun rv hv w' hT hX g1 g2 => by
       have h := verify_any (rr := rr) (P := P) (pk := pk) (tx := tx) (fi := fi) (se := se) lk hkb hf hfb he heb hd2 rfl hc (by omega) htb hr kof hT hX (both w' g1 g2)
       rw [hv] at h
       exact h
     have krs := rscalar_any he heb
     by_cases hq : bn se < QN
     · rw [decide_eq_true hq] at krs
       have HALL : Byt (fi ++ (pk ++ tx)) := fun x hx => by
         rcases List.mem_append.1 hx with h | h
         · exact hfb x h
         · rcases List.mem_append.1 h with h | h
           · exact hkb x h
           · exact htb x h
       by_cases hb2 : Bad fi
       · exact sv_none (tx := tx) (hid lk) (hid hkb) (hid hf) (hid hfb) (hid he) (hid heb) (hid hd2) (hid rfl) (hid hc) (hid (by omega)) (hid htb) (by omega) (hid hr.len) kof krs (hid (scal_len _)) (hid (scal_byt _)) (hid rfl) (hid (by omega)) (hid HALL) (of_bad hf hfb hb2) (hid (KV 22 (ver_bad hP hb2))) w ht hX hG1 hG2
       · obtain ⟨ff, R, kof2, hff, hfi⟩ := of_good hf hfb hb2
         have hR := pr_on hff
         obtain ⟨m2, km2, hm2⟩ := hr.mul (scal_len (fi ++ (pk ++ tx))) (scal_byt _)
         obtain ⟨kadd, hm5⟩ := hff.add hm2
         have hv := ver_is hP hR (pk := pk) (tx := tx) hq hfi
         by_cases hz : bytesP (timesB se) = bytesP (Edw.add eF R (Edw.mul eF (bn (scal (fi ++ (pk ++ tx)))) P))
         · rw [if_pos hz] at hv
           exact sv_yes (tx := tx) (hid lk) (hid hkb) (hid hf) (hid hfb) (hid he) (hid heb) (hid hd2) (hid rfl) (hid hc) (hid (by omega)) (hid htb) (by omega) (hid hr.len) kof krs (hid (scal_len _)) (hid (scal_byt _)) (hid rfl) (hid (by omega)) (hid HALL) (hid hff.len) kof2 (hid hm2.len) (hid hm5.len) (hid (bytesP_len _)) (hid rfl) (hid (bytesP_len _)) km2 kadd hm5.bytes (hid (decide_eq_true hz)) (hid (KV 0 hv)) w ht hX hG1 hG2
         · rw [if_neg hz] at hv
           exact sv_no (tx := tx) (hid lk) (hid hkb) (hid hf) (hid hfb) (hid he) (hid heb) (hid hd2) (hid rfl) (hid hc) (hid (by omega)) (hid htb) (by omega) (hid hr.len) kof krs (hid (scal_len _)) (hid (scal_byt _)) (hid rfl) (hid (by omega)) (hid HALL) (hid hff.len) kof2 (hid hm2.len) (hid hm5.len) (hid (bytesP_len _)) (hid rfl) (hid (bytesP_len _)) km2 kadd hm5.bytes (hid (decide_eq_false hz)) (hid (KV 22 hv)) w ht hX hG1 hG2
     · rw [decide_eq_false hq] at krs
       exact sv_big (tx := tx) (hid lk) (hid hkb) (hid hf) (hid hfb) (hid he) (hid heb) (hid hd2) (hid rfl) (hid hc) (hid (by omega)) (hid htb) (by omega) (hid hr.len) kof krs (hid (KV 22 (ver_big hq))) w ht hX hG1 hG2
 · exact sv_len (tx := tx) (sg := sg) (hid lk) (by omega) (by omega) (by omega) (hid fun w' => verify_len h3 w') w ht hX hG
end Go.Proofs.YthpibkpljakeeaaDoor
