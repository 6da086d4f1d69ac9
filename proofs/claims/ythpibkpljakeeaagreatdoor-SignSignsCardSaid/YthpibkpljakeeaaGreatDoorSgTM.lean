import Derived.Test.YthpibkpljakeeaaGreatDoorG7
import Derived.Test.YthpibkpljakeeaaGreatDoorG26
import Derived.Test.YthpibkpljakeeaaGreatDoorSgWM
import Derived.Test.YthpibkpljakeeaaGreatDoorHWSame
namespace Go.Proofs.YthpibkpljakeeaaGreatDoor
set_option maxHeartbeats 8000000
set_option maxRecDepth 8000
open Go Go.RowKit
theorem built32z : Tryz.prog.built 22 [] = some (ints .u8 (zeros 32)).toArray := by kernel_rfl
theorem mpub_nil (w : World) : Calls Tryz.prog 5 #[.pointer none] w fun e w' => e = .returned (.tuple #[.agg (ints .u8 (zeros 32)).toArray, .int .i64 1]) ∧ Below w.heap.size w w' := by
 obtain ⟨z2_, s2_⟩ := zero_of_info inf32
 have h2 := Rw.new w (ints .u8 (zeros 32)) 22
 have hW := below_new w (.cells (ints .u8 (zeros 32)).toArray 22)
 go_enter Tryz.func5, Tryz.ntmps5
 go_upto_region 1 with (fail)
 generalize w.alloc (.cells (ints .u8 (zeros 32)).toArray 22) = w0 at *
 have s0 := hW.size
 refine rSeq 3 12 (fun _ => false) [Is (.pointer none), Is (.bool false), Is (.bool true)] [4, 5, 6] (gC (gC (gC grows_nil)))
   ⟨step_mvP rfl (.inl rfl) rfl rfl (kO 0 rfl),
    step_cw rfl (.inl rfl) rfl cx14 rfl (fun aa ww hw hf hd => ⟨_, (one_arg (kI 0 4 rfl rfl)) aa ww hw hf hd, ex_no ww⟩),
    step_not rfl (.inl rfl) (b := false) rfl rfl (kI 1 5 rfl rfl), trivial⟩ ?_
 intro val w1 hw hS hap hla
 simp only [pA, pB, pC, pD, pE, Act.put, pG, pH, pI, eVal hS 0 4 rfl rfl, eVal hS 1 5 rfl rfl, eVal hS 2 6 rfl rfl]
 clear hS hap hla
 replace h2 := h2.next hw
 replace hW := bT hW hw
 clear hw
 go_upto_region 2 with (fail)
 have s1 := hW.size
 refine rSeq 1 12 (fun _ => false) [Is (.agg (ints .u8 (zeros 32)).toArray)] [7] (gC grows_nil)
   ⟨step_buildP rfl (.inl rfl) rfl built32z rfl (partsN), trivial⟩ ?_
 intro val w2 hw hS hap hla
 simp only [pA, pB, pC, pD, pE, Act.put, pG, pH, pI, eVal hS 0 7 rfl rfl]
 clear hS hap hla
 have LL2 := hid (show ((ints .u8 (zeros 32))).length = 32 from (il (zeros_len 32)))
 have Y2 := h2.next hw
 have R2 := Y2.roomA (us := (ints .u8 (zeros 32))) (LL2.out.trans (il (zeros_len 32)).symm)
 have X2 := Y2.storedA (us := (ints .u8 (zeros 32))) (LL2.out.trans (il (zeros_len 32)).symm)
 replace h2 := h2.next hw
 replace hW := bT hW hw
 with_reducible refine wpList_store_mid (op := ⟨none, .store 22 (.tmp 2) (.tmp 7), _, _, _, _⟩) rfl 22 (.tmp 2) (.tmp 7) rfl w.heap.size 0 (ints .u8 (zeros 32)).toArray rfl rfl R2 (szA inf32 LL2.out) (ints_all _ _) ?_
 replace hW := Below.setCells hW (g := w.heap.size) (by omega) 0 (ints .u8 (zeros 32)).toArray.toList
 generalize (w2.setCells w.heap.size 0 (ints .u8 (zeros 32)).toArray.toList) = w3 at *
 clear hw R2 LL2 Y2
 go_wp2_with (fail)
 exact bodyPost_ret (results_row2 rfl _ _ w.heap.size 0 rfl (.int .i64 1) rfl (ints .u8 (zeros 32)) _ X2.range Tryz.underlying22 rfl (szV inf32 (il (zeros_len 32)))) rfl ⟨rfl, hW⟩
theorem msign_nil {A : Option Addr} {m c : Nat} (w : World) : Calls Tryz.prog 6 #[.pointer none, .slice A m c] w fun e w' => e = .returned (.tuple #[.agg (ints .u8 (zeros 64)).toArray, .int .i64 1]) ∧ Below w.heap.size w w' := by
 obtain ⟨z4_, s4_⟩ := zero_of_info inf64
 have h4 := Rw.new w (ints .u8 (zeros 64)) 29
 have hW := below_new w (.cells (ints .u8 (zeros 64)).toArray 29)
 go_enter Tryz.func6, Tryz.ntmps6
 go_upto_region 1 with (fail)
 generalize w.alloc (.cells (ints .u8 (zeros 64)).toArray 29) = w0 at *
 have s0 := hW.size
 refine rSeq 3 45 (fun _ => false) [Is (.pointer none), Is (.bool false), Is (.bool true)] [10, 11, 12] (gC (gC (gC grows_nil)))
   ⟨step_mvP rfl (.inl rfl) rfl rfl (kO 0 rfl),
    step_cw rfl (.inl rfl) rfl cx14 rfl (fun aa ww hw hf hd => ⟨_, (one_arg (kI 0 10 rfl rfl)) aa ww hw hf hd, ex_no ww⟩),
    step_not rfl (.inl rfl) (b := false) rfl rfl (kI 1 11 rfl rfl), trivial⟩ ?_
 intro val w1 hw hS hap hla
 simp only [pA, pB, pC, pD, pE, Act.put, pG, pH, pI, eVal hS 0 10 rfl rfl, eVal hS 1 11 rfl rfl, eVal hS 2 12 rfl rfl]
 clear hS hap hla
 replace h4 := h4.next hw
 replace hW := bT hW hw
 clear hw
 go_upto_region 2 with (fail)
 have s1 := hW.size
 refine rSeq 1 45 (fun _ => false) [Is (.agg (ints .u8 (zeros 64)).toArray)] [13] (gC grows_nil)
   ⟨step_buildP rfl (.inl rfl) rfl built64z rfl (partsN), trivial⟩ ?_
 intro val w2 hw hS hap hla
 simp only [pA, pB, pC, pD, pE, Act.put, pG, pH, pI, eVal hS 0 13 rfl rfl]
 clear hS hap hla
 have LL4 := hid (show ((ints .u8 (zeros 64))).length = 64 from (il (zeros_len 64)))
 have Y4 := h4.next hw
 have R4 := Y4.roomA (us := (ints .u8 (zeros 64))) (LL4.out.trans (il (zeros_len 64)).symm)
 have X4 := Y4.storedA (us := (ints .u8 (zeros 64))) (LL4.out.trans (il (zeros_len 64)).symm)
 replace h4 := h4.next hw
 replace hW := bT hW hw
 with_reducible refine wpList_store_mid (op := ⟨none, .store 29 (.tmp 4) (.tmp 13), _, _, _, _⟩) rfl 29 (.tmp 4) (.tmp 13) rfl w.heap.size 0 (ints .u8 (zeros 64)).toArray rfl rfl R4 (szA inf64 LL4.out) (ints_all _ _) ?_
 replace hW := Below.setCells hW (g := w.heap.size) (by omega) 0 (ints .u8 (zeros 64)).toArray.toList
 generalize (w2.setCells w.heap.size 0 (ints .u8 (zeros 64)).toArray.toList) = w3 at *
 clear hw R4 LL4 Y4
 go_wp2_with (fail)
 exact bodyPost_ret (results_row2 rfl _ _ w.heap.size 0 rfl (.int .i64 1) rfl (ints .u8 (zeros 64)) _ X4.range Tryz.underlying29 rfl (szV inf64 (il (zeros_len 64)))) rfl ⟨rfl, hW⟩
theorem add_back (a b : Nat) : (b + a % QN) % QN = (a + b) % QN := by rw [Nat.add_mod, Nat.mod_mod, ← Nat.add_mod, Nat.add_comm]
theorem rsign_any {sd tx : List Int} (hl : sd.length = 32) (hb : Byt sd) (htb : Byt tx) (ht : tx.length ≤ 300) {A : Option Addr} {c : Nat} (w : World) (hX : Nums w .u8 A tx) : Calls Tryz.prog 12 #[.agg (ints .u8 sd).toArray, .slice A tx.length c] w fun e w' => ∃ A' c', e = .returned (.slice A' 64 c') ∧ Nums w' .u8 A' (sigL sd tx) ∧ Below w.heap.size w w' := by
 have kmu : CallsTo 29 #[.agg (ints .u8 (kL sd tx)).toArray, .agg (ints .u8 (numL sd)).toArray] (.agg (ints .u8 (rbytes (bn (kL sd tx) * bn (numL sd) % QN))).toArray) := fun w => rmulq_walk (scal_len _) (numL_len sd) (scal_byt _) (numL_byt sd)
 have kadd : CallsTo 28 #[.agg (ints .u8 (rL sd tx)).toArray, .agg (ints .u8 (rbytes (bn (kL sd tx) * bn (numL sd) % QN))).toArray] (.agg (ints .u8 (secondL sd tx)).toArray) := fun w => by
   have h := raddq_walk (w := w) (al := rL sd tx) (bl := rbytes (bn (kL sd tx) * bn (numL sd) % QN)) (scal_len _) (rbytes_length _) (scal_byt _) (rbytes_byt _)
   have e1 : bn (rbytes (bn (kL sd tx) * bn (numL sd) % QN)) = bn (kL sd tx) * bn (numL sd) % QN := bn_rbytes (modq_lt _)
   rw [e1, add_back] at h
   exact h
 have hpt : Byt (preL sd ++ tx) := fun x hx => (List.mem_append.1 hx).elim (preL_byt sd x) (htb x)
 have hft : Byt (firstL sd tx ++ (pubL sd ++ tx)) := fun x hx => (List.mem_append.1 hx).elim (bytesP_byt _ x) fun h => (List.mem_append.1 h).elim (bytesP_byt _ x) (htb x)
 have h := rsign_core (hi := preL sd) (tx := tx) (rr := rL sd tx) (fi := firstL sd tx) (kk := kL sd tx) (se := secondL sd tx) (A := A) (c := c) (hid hl) (hid (numL_len sd)) (hid (numL_byt sd)) (hid (preL_len sd)) (hid (pubL_len sd)) (hid (bytesP_byt _)) (hid fun w => rhal_any hl hb w) (hid (preL_len sd)) (hid hb) (hid htb) (hid ht) (hid (scal_len _)) (hid (scal_byt _)) (hid (firstL_len _ _)) (hid (bytesP_byt _)) (hid rfl) (hid (scal_len _)) (hid (scal_byt _)) (hid (rbytes_length _)) (hid (rbytes_byt _)) (hid (secondL_len _ _)) (hid (rbytes_byt _)) (rpub_any hl hb)
   (hid fun w A n c hn hN => rnum_any hn.symm (by have := preL_len sd; rw [hn, List.length_append]; omega) hpt w hN)
   (hid fun w A n c hn hN => rnum_any hn.symm (by have := firstL_len sd tx; have := pubL_len sd; rw [hn, List.length_append, List.length_append]; omega) hft w hN) kmu kadd w hX
 refine h.mono fun e w' ⟨A', c', he, hN, hb⟩ => ⟨A', c', ?_, hN, hb⟩
 have hs : (firstL sd tx ++ secondL sd tx).length = 64 := sigL_len sd tx
 rw [he, hs]
theorem same_at {xs : List Int} (hl : xs.length = 64) {A B : Option Addr} {c d : Nat} (w : World) (hA : Nums w .u8 A xs) (hB : Nums w .u8 B xs) : Calls Tryz.prog 11 #[.slice A 64 c, .slice B 64 d] w fun e w' => e = .returned (.bool true) ∧ Below w.heap.size w w' := by
 have h := same_eq A B c d xs xs w rfl (by rw [hl]; decide) hA hB
 rw [hl] at h
 exact h.mono fun e w' ⟨he, hb⟩ => ⟨he, hb⟩
theorem ss_core {sd num pre pub sg tx : List Int} {A : Option Addr} {c : Nat} (HSD : Hid (sd.length = 32)) (HN : Hid (num.length = 32)) (HPR : Hid (pre.length = 32)) (HP : Hid (pub.length = 32)) (HSG : Hid (sg.length = 64)) (HSGB : Hid (Byt sg)) (hm : ¬ (300 : Int) < (tx.length : Int))
   (KK : Hid (∀ w, TabsA w → Calls Tryz.prog 7 #[.agg (ints .u8 sd).toArray] w fun e w' => ∃ b, e = .returned (.pointer (some ⟨b, 0, none⟩)) ∧ Rw w' b 0 (sgv num pre pub) ∧ Below w.heap.size w w'))
   (KMP : Hid (∀ w (b : Nat), TabsA w → Rw w b 0 (sgv num pre pub) → Calls Tryz.prog 5 #[.pointer (some ⟨b, 0, none⟩)] w fun e w' => e = .returned (.tuple #[.agg (ints .u8 pub).toArray, .int .i64 0]) ∧ Below w.heap.size w w'))
   (KMS : Hid (∀ w (b : Nat), TabsA w → Rw w b 0 (sgv num pre pub) → Nums w .u8 A tx → Calls Tryz.prog 6 #[.pointer (some ⟨b, 0, none⟩), .slice A tx.length c] w fun e w' => e = .returned (.tuple #[.agg (ints .u8 sg).toArray, .int .i64 0]) ∧ Below w.heap.size w w'))
   (KS : Hid (∀ w, TabsA w → Nums w .u8 A tx → Calls Tryz.prog 8 #[.agg (ints .u8 sd).toArray, .slice A tx.length c] w fun e w' => e = .returned (.agg (ints .u8 sg).toArray) ∧ Below w.heap.size w w'))
   (kpub : CallsA 9 #[.agg (ints .u8 sd).toArray] (.agg (ints .u8 pub).toArray)) (krpub : CallsTo 10 #[.agg (ints .u8 sd).toArray] (.agg (ints .u8 pub).toArray))
   (KRS : Hid (∀ w, Nums w .u8 A tx → Calls Tryz.prog 12 #[.agg (ints .u8 sd).toArray, .slice A tx.length c] w fun e w' => ∃ A' c', e = .returned (.slice A' 64 c') ∧ Nums w' .u8 A' sg ∧ Below w.heap.size w w'))
   (w : World) (hT : TabsA w) (hX : Nums w .u8 A tx) : Calls Tryz.prog 3 #[.agg (ints .u8 sd).toArray, .slice A tx.length c] w fun e w' => e = .returned (.bool true) ∧ Below w.heap.size w w' := by
 obtain ⟨z2_, s2_⟩ := zero_of_info inf32
 have h2 := Rw.new w (ints .u8 sd) 22
 have hW := below_new w (.cells (ints .u8 sd).toArray 22)
 replace hT := hT.next hW
 replace hX := hX.below hW
 go_enter Tryz.func3, Tryz.ntmps3
 go_upto_region 1 with (fail)
 generalize w.alloc (.cells (ints .u8 sd).toArray 22) = w0 at *
 have s0 := hW.size
 refine rSeq 2 82 (fun _ => false) [Is (.bool true), Is (.bool false)] [16, 17] (gC (gC grows_nil))
   ⟨step_toA rfl (.inl rfl) rfl cx4 hT awake_any rfl (no_args),
    step_not rfl (.inl rfl) (b := true) rfl rfl (kI 0 16 rfl rfl), trivial⟩ ?_
 intro val w1 hw hS hap hla
 simp only [pA, pB, pC, pD, pE, Act.put, pG, pH, pI, eVal hS 0 16 rfl rfl, eVal hS 1 17 rfl rfl]
 clear hS hap hla
 replace hT := hT.next hw
 replace hX := hX.below hw
 replace h2 := h2.next hw
 replace hW := bT hW hw
 clear hw
 go_upto_region 3 with (fail)
 go_upto_region 6 with (fail)
 have s1 := hW.size
 refine rSeq 6 82 (fun i => i == 5) [Is (.pointer none), Is (.tuple #[(.agg (ints .u8 (zeros 32)).toArray), (.int .i64 1)]), Is (.tuple #[(.agg (ints .u8 (zeros 32)).toArray), (.int .i64 1)]), Is (.agg (ints .u8 (zeros 32)).toArray), Is (.int .i64 1), IsZV w1.heap.size (ints .u8 (zeros 32))] [22, 23, 21, 24, 25, 6] (gC (gC (gC (gC (gC (grows_cons (IsZV.grows _ _) grows_nil))))))
   ⟨step_mvP rfl (.inl rfl) rfl rfl (kO 5 rfl),
    step_cw rfl (.inl rfl) rfl cx5 rfl (fun aa ww hw hf hd => ⟨_, (one_arg (kI 0 22 rfl rfl)) aa ww hw hf hd, mpub_nil ww⟩),
    step_mvP rfl (.inl rfl) rfl rfl (kI 1 23 rfl rfl),
    step_fst rfl (.inl rfl) rfl rfl (kI 2 21 rfl rfl),
    step_snd rfl (.inl rfl) rfl rfl (kI 2 21 rfl rfl),
    step_allocV (.inl rfl) inf32 rfl rfl, trivial⟩ ?_
 intro val w2 hw hS hap hla
 obtain ⟨b6, e6, L6, Z6⟩ := hS 5 6 (by decide) rfl
 simp only [pA, pB, pC, pD, pE, Act.put, pG, pH, pI, eVal hS 0 22 rfl rfl, eVal hS 1 23 rfl rfl, eVal hS 2 21 rfl rfl, eVal hS 3 24 rfl rfl, eVal hS 4 25 rfl rfl, e6]
 clear hS hap hla e6
 have LL6 := hid (show ((ints .u8 (zeros 32))).length = 32 from (il (zeros_len 32)))
 have R6 := Z6.roomA (us := (ints .u8 (zeros 32))) (LL6.out.trans (zv .u8 32).symm)
 have h6 := Z6.storedA (us := (ints .u8 (zeros 32))) (LL6.out.trans (zv .u8 32).symm)
 have hu := Below.setCells hw L6 0 (ints .u8 (zeros 32)).toArray.toList
 replace hT := hT.next hu
 replace hX := hX.below hu
 replace h2 := h2.next hu
 replace hW := bT hW hu
 clear hu
 with_reducible refine wpList_store_mid (op := ⟨none, .store 22 (.tmp 6) (.tmp 24), _, _, _, _⟩) rfl 22 (.tmp 6) (.tmp 24) rfl b6 0 (ints .u8 (zeros 32)).toArray rfl rfl R6 (szA inf32 LL6.out) (ints_all _ _) ?_
 generalize (w2.setCells b6 0 (ints .u8 (zeros 32)).toArray.toList) = w3 at *
 clear hw R6 LL6 Z6 L6
 go_upto_region 7 with (fail)
 have s3 := hW.size
 refine rSeq 2 82 (fun _ => false) [Is (.int .i64 1), Is (.bool false)] [26, 27] (gC (gC grows_nil))
   ⟨step_mvP rfl (.inl rfl) rfl rfl (kO 7 rfl),
    step_neC rfl (.inl rfl) rfl Tryz.underlying26 rfl (by decide) (kI 0 26 rfl rfl), trivial⟩ ?_
 intro val w4 hw hS hap hla
 simp only [pA, pB, pC, pD, pE, Act.put, pG, pH, pI, eVal hS 0 26 rfl rfl, eVal hS 1 27 rfl rfl]
 clear hS hap hla
 replace hT := hT.next hw
 replace hX := hX.below hw
 replace h2 := h2.next hw
 replace h6 := h6.next hw
 replace hW := bT hW hw
 clear hw
 go_upto_region 9 with (fail)
 have s4 := hW.size
 refine rSeq 7 82 (fun i => i == 6) [Is (.pointer none), Is (.slice A tx.length c), Is (.tuple #[(.agg (ints .u8 (zeros 64)).toArray), (.int .i64 1)]), Is (.tuple #[(.agg (ints .u8 (zeros 64)).toArray), (.int .i64 1)]), Is (.agg (ints .u8 (zeros 64)).toArray), Is (.int .i64 1), IsZV w4.heap.size (ints .u8 (zeros 64))] [29, 30, 31, 28, 32, 33, 8] (gC (gC (gC (gC (gC (gC (grows_cons (IsZV.grows _ _) grows_nil)))))))
   ⟨step_mvP rfl (.inl rfl) rfl rfl (kO 5 rfl),
    step_mvP rfl (.inl rfl) rfl rfl (kO 1 rfl),
    step_cw rfl (.inl rfl) rfl cx6 rfl (fun aa ww hw hf hd => ⟨_, (two_args (kI 0 29 rfl rfl) (kI 1 30 rfl rfl)) aa ww hw hf hd, msign_nil ww⟩),
    step_mvP rfl (.inl rfl) rfl rfl (kI 2 31 rfl rfl),
    step_fst rfl (.inl rfl) rfl rfl (kI 3 28 rfl rfl),
    step_snd rfl (.inl rfl) rfl rfl (kI 3 28 rfl rfl),
    step_allocV (.inl rfl) inf64 rfl rfl, trivial⟩ ?_
 intro val w5 hw hS hap hla
 obtain ⟨b8, e8, L8, Z8⟩ := hS 6 8 (by decide) rfl
 simp only [pA, pB, pC, pD, pE, Act.put, pG, pH, pI, eVal hS 0 29 rfl rfl, eVal hS 1 30 rfl rfl, eVal hS 2 31 rfl rfl, eVal hS 3 28 rfl rfl, eVal hS 4 32 rfl rfl, eVal hS 5 33 rfl rfl, e8]
 clear hS hap hla e8
 have LL8 := hid (show ((ints .u8 (zeros 64))).length = 64 from (il (zeros_len 64)))
 have R8 := Z8.roomA (us := (ints .u8 (zeros 64))) (LL8.out.trans (zv .u8 64).symm)
 have h8 := Z8.storedA (us := (ints .u8 (zeros 64))) (LL8.out.trans (zv .u8 64).symm)
 have hu := Below.setCells hw L8 0 (ints .u8 (zeros 64)).toArray.toList
 replace hT := hT.next hu
 replace hX := hX.below hu
 replace h2 := h2.next hu
 replace h6 := h6.next hu
 replace hW := bT hW hu
 clear hu
 with_reducible refine wpList_store_mid (op := ⟨none, .store 29 (.tmp 8) (.tmp 32), _, _, _, _⟩) rfl 29 (.tmp 8) (.tmp 32) rfl b8 0 (ints .u8 (zeros 64)).toArray rfl rfl R8 (szA inf64 LL8.out) (ints_all _ _) ?_
 generalize (w5.setCells b8 0 (ints .u8 (zeros 64)).toArray.toList) = w6 at *
 clear hw R8 LL8 Z8 L8
 go_upto_region 10 with (fail)
 have s6 := hW.size
 refine rSeq 2 82 (fun _ => false) [Is (.int .i64 1), Is (.bool false)] [34, 35] (gC (gC grows_nil))
   ⟨step_mvP rfl (.inl rfl) rfl rfl (kO 9 rfl),
    step_neC rfl (.inl rfl) rfl Tryz.underlying26 rfl (by decide) (kI 0 34 rfl rfl), trivial⟩ ?_
 intro val w7 hw hS hap hla
 simp only [pA, pB, pC, pD, pE, Act.put, pG, pH, pI, eVal hS 0 34 rfl rfl, eVal hS 1 35 rfl rfl]
 clear hS hap hla
 replace hT := hT.next hw
 replace hX := hX.below hw
 replace h2 := h2.next hw
 replace h6 := h6.next hw
 replace h8 := h8.next hw
 replace hW := bT hW hw
 clear hw
 go_upto_region 12 with (fail)
 have s7 := hW.size
 refine rSeq 2 82 (fun _ => false) [Is (.agg (ints .u8 sd).toArray), IsP0 (sgv num pre pub)] [36, 37] (gC (grows_cons (IsP0.grows _) grows_nil))
   ⟨step_ldV rfl (.inl rfl) (fun _ hw => (h2.next hw).range) rfl Tryz.underlying22 rfl (szV inf32 (il HSD.out)) rfl (kO 2 rfl),
    step_cR rfl (.inl rfl) rfl cx7 rfl (fun aa ww hw hf hd => ⟨_, one_arg (kI 0 36 rfl rfl) aa ww hw hf hd, (KK.out ww (hT.next hw)).mono fun _ _ ⟨b, he, hR, hb⟩ => ⟨_, he, ⟨b, rfl, hR⟩, hb⟩⟩), trivial⟩ ?_
 intro val w8 hw hS hap hla
 obtain ⟨b37, e37, R37⟩ := hS 1 37 (by decide) rfl
 simp only [pA, pB, pC, pD, pE, Act.put, pG, pH, pI, eVal hS 0 36 rfl rfl, e37]
 clear hS hap hla e37
 replace hT := hT.next hw
 replace hX := hX.below hw
 replace h2 := h2.next hw
 replace h6 := h6.next hw
 replace h8 := h8.next hw
 replace hW := bT hW hw
 clear hw
 go_upto_region 13 with (fail)
 have s8 := hW.size
 refine rSeq 6 82 (fun i => i == 5) [Is (.pointer (some ⟨b37, 0, none⟩)), Is (.tuple #[(.agg (ints .u8 pub).toArray), (.int .i64 0)]), Is (.tuple #[(.agg (ints .u8 pub).toArray), (.int .i64 0)]), Is (.agg (ints .u8 pub).toArray), Is (.int .i64 0), IsZV w8.heap.size (ints .u8 (zeros 32))] [39, 40, 38, 41, 42, 11] (gC (gC (gC (gC (gC (grows_cons (IsZV.grows _ _) grows_nil))))))
   ⟨step_mvP rfl (.inl rfl) rfl rfl (kO 10 rfl),
    step_cw rfl (.inl rfl) rfl cx5 rfl (fun aa ww hw hf hd => ⟨_, (one_arg (kI 0 39 rfl rfl)) aa ww hw hf hd, KMP.out ww b37 (hT.next hw) (R37.next hw)⟩),
    step_mvP rfl (.inl rfl) rfl rfl (kI 1 40 rfl rfl),
    step_fst rfl (.inl rfl) rfl rfl (kI 2 38 rfl rfl),
    step_snd rfl (.inl rfl) rfl rfl (kI 2 38 rfl rfl),
    step_allocV (.inl rfl) inf32 rfl rfl, trivial⟩ ?_
 intro val w9 hw hS hap hla
 obtain ⟨b11, e11, L11, Z11⟩ := hS 5 11 (by decide) rfl
 simp only [pA, pB, pC, pD, pE, Act.put, pG, pH, pI, eVal hS 0 39 rfl rfl, eVal hS 1 40 rfl rfl, eVal hS 2 38 rfl rfl, eVal hS 3 41 rfl rfl, eVal hS 4 42 rfl rfl, e11]
 clear hS hap hla e11
 have LL11 := hid (show ((ints .u8 pub)).length = 32 from (il HP.out))
 have R11 := Z11.roomA (us := (ints .u8 pub)) (LL11.out.trans (zv .u8 32).symm)
 have h11 := Z11.storedA (us := (ints .u8 pub)) (LL11.out.trans (zv .u8 32).symm)
 have hu := Below.setCells hw L11 0 (ints .u8 pub).toArray.toList
 replace hT := hT.next hu
 replace hX := hX.below hu
 replace h2 := h2.next hu
 replace h6 := h6.next hu
 replace h8 := h8.next hu
 replace R37 := R37.next hu
 replace hW := bT hW hu
 clear hu
 with_reducible refine wpList_store_mid (op := ⟨none, .store 22 (.tmp 11) (.tmp 41), _, _, _, _⟩) rfl 22 (.tmp 11) (.tmp 41) rfl b11 0 (ints .u8 pub).toArray rfl rfl R11 (szA inf32 LL11.out) (ints_all _ _) ?_
 generalize (w9.setCells b11 0 (ints .u8 pub).toArray.toList) = w10 at *
 clear hw R11 LL11 Z11 L11
 go_upto_region 14 with (fail)
 have s10 := hW.size
 refine rSeq 7 82 (fun i => i == 6) [Is (.pointer (some ⟨b37, 0, none⟩)), Is (.slice A tx.length c), Is (.tuple #[(.agg (ints .u8 sg).toArray), (.int .i64 0)]), Is (.tuple #[(.agg (ints .u8 sg).toArray), (.int .i64 0)]), Is (.agg (ints .u8 sg).toArray), Is (.int .i64 0), IsZV w10.heap.size (ints .u8 (zeros 64))] [44, 45, 46, 43, 47, 48, 13] (gC (gC (gC (gC (gC (gC (grows_cons (IsZV.grows _ _) grows_nil)))))))
   ⟨step_mvP rfl (.inl rfl) rfl rfl (kO 10 rfl),
    step_mvP rfl (.inl rfl) rfl rfl (kO 1 rfl),
    step_cw rfl (.inl rfl) rfl cx6 rfl (fun aa ww hw hf hd => ⟨_, (two_args (kI 0 44 rfl rfl) (kI 1 45 rfl rfl)) aa ww hw hf hd, KMS.out ww b37 (hT.next hw) (R37.next hw) (hX.below hw)⟩),
    step_mvP rfl (.inl rfl) rfl rfl (kI 2 46 rfl rfl),
    step_fst rfl (.inl rfl) rfl rfl (kI 3 43 rfl rfl),
    step_snd rfl (.inl rfl) rfl rfl (kI 3 43 rfl rfl),
    step_allocV (.inl rfl) inf64 rfl rfl, trivial⟩ ?_
 intro val w11 hw hS hap hla
 obtain ⟨b13, e13, L13, Z13⟩ := hS 6 13 (by decide) rfl
 simp only [pA, pB, pC, pD, pE, Act.put, pG, pH, pI, eVal hS 0 44 rfl rfl, eVal hS 1 45 rfl rfl, eVal hS 2 46 rfl rfl, eVal hS 3 43 rfl rfl, eVal hS 4 47 rfl rfl, eVal hS 5 48 rfl rfl, e13]
 clear hS hap hla e13
 have LL13 := hid (show ((ints .u8 sg)).length = 64 from (il HSG.out))
 have R13 := Z13.roomA (us := (ints .u8 sg)) (LL13.out.trans (zv .u8 64).symm)
 have h13 := Z13.storedA (us := (ints .u8 sg)) (LL13.out.trans (zv .u8 64).symm)
 have hu := Below.setCells hw L13 0 (ints .u8 sg).toArray.toList
 replace hT := hT.next hu
 replace hX := hX.below hu
 replace h2 := h2.next hu
 replace h6 := h6.next hu
 replace h8 := h8.next hu
 replace R37 := R37.next hu
 replace h11 := h11.next hu
 replace hW := bT hW hu
 clear hu
 with_reducible refine wpList_store_mid (op := ⟨none, .store 29 (.tmp 13) (.tmp 47), _, _, _, _⟩) rfl 29 (.tmp 13) (.tmp 47) rfl b13 0 (ints .u8 sg).toArray rfl rfl R13 (szA inf64 LL13.out) (ints_all _ _) ?_
 generalize (w11.setCells b13 0 (ints .u8 sg).toArray.toList) = w12 at *
 clear hw R13 LL13 Z13 L13
 go_upto_region 15 with (fail)
 have s12 := hW.size
 refine rSeq 4 82 (fun i => i == 3) [Is (.agg (ints .u8 sd).toArray), Is (.slice A tx.length c), Is (.agg (ints .u8 sg).toArray), IsZV w12.heap.size (ints .u8 (zeros 64))] [49, 50, 51, 15] (gC (gC (gC (grows_cons (IsZV.grows _ _) grows_nil))))
   ⟨step_ldV rfl (.inl rfl) (fun _ hw => (h2.next hw).range) rfl Tryz.underlying22 rfl (szV inf32 (il HSD.out)) rfl (kO 2 rfl),
    step_mvP rfl (.inl rfl) rfl rfl (kO 1 rfl),
    step_cw rfl (.inl rfl) rfl cx8 rfl (fun aa ww hw hf hd => ⟨_, (two_args (kI 0 49 rfl rfl) (kI 1 50 rfl rfl)) aa ww hw hf hd, KS.out ww (hT.next hw) (hX.below hw)⟩),
    step_allocV (.inl rfl) inf64 rfl rfl, trivial⟩ ?_
 intro val w13 hw hS hap hla
 obtain ⟨b15, e15, L15, Z15⟩ := hS 3 15 (by decide) rfl
 simp only [pA, pB, pC, pD, pE, Act.put, pG, pH, pI, eVal hS 0 49 rfl rfl, eVal hS 1 50 rfl rfl, eVal hS 2 51 rfl rfl, e15]
 clear hS hap hla e15
 have LL15 := hid (show ((ints .u8 sg)).length = 64 from (il HSG.out))
 have R15 := Z15.roomA (us := (ints .u8 sg)) (LL15.out.trans (zv .u8 64).symm)
 have h15 := Z15.storedA (us := (ints .u8 sg)) (LL15.out.trans (zv .u8 64).symm)
 have hu := Below.setCells hw L15 0 (ints .u8 sg).toArray.toList
 replace hT := hT.next hu
 replace hX := hX.below hu
 replace h2 := h2.next hu
 replace h6 := h6.next hu
 replace h8 := h8.next hu
 replace R37 := R37.next hu
 replace h11 := h11.next hu
 replace h13 := h13.next hu
 replace hW := bT hW hu
 clear hu
 with_reducible refine wpList_store_mid (op := ⟨none, .store 29 (.tmp 15) (.tmp 51), _, _, _, _⟩) rfl 29 (.tmp 15) (.tmp 51) rfl b15 0 (ints .u8 sg).toArray rfl rfl R15 (szA inf64 LL15.out) (ints_all _ _) ?_
 generalize (w13.setCells b15 0 (ints .u8 sg).toArray.toList) = w14 at *
 clear hw R15 LL15 Z15 L15
 go_wp2_with (fail)
 have s14 := hW.size
 refine rSpec 30 82 (fun _ => false) [Is (.int .i64 0), Is (.bool true), Is (.bool true), Is (.int .i64 0), Is (.bool true), Is (.bool true), Is (.bool true), Is (.agg (ints .u8 pub).toArray), Is (.agg (ints .u8 sd).toArray), Is (.agg (ints .u8 pub).toArray), Is (.bool true), Is (.bool true), Is (.bool true), Is (.agg (ints .u8 pub).toArray), Is (.agg (ints .u8 sd).toArray), Is (.agg (ints .u8 pub).toArray), Is (.bool true), Is (.bool true), Is (.bool true), Is (.agg (ints .u8 sg).toArray), Is (.agg (ints .u8 sg).toArray), Is (.bool true), Is (.bool true), Is (.bool true), Is (.slice (some ⟨b13, 0, none⟩) 64 64), Is (.agg (ints .u8 sd).toArray), Is (.slice A tx.length c), IsNm 64 sg, Is (.bool true), Is (.bool true)] [52, 53, 54, 55, 56, 57, 58, 59, 60, 61, 62, 63, 64, 65, 66, 67, 68, 69, 70, 71, 72, 73, 74, 75, 76, 77, 78, 79, 80, 81] (gC (gC (gC (gC (gC (gC (gC (gC (gC (gC (gC (gC (gC (gC (gC (gC (gC (gC (gC (gC (gC (gC (gC (gC (gC (gC (gC (grows_cons (IsNm.grows _ _) (gC (gC grows_nil))))))))))))))))))))))))))))))
   ⟨step_mvP rfl (.inl rfl) rfl rfl (kO 12 rfl),
    step_eqC rfl (.inl rfl) rfl Tryz.underlying26 rfl (by decide) (kI 0 52 rfl rfl),
    step_mvP rfl (.inl rfl) rfl rfl (kI 1 53 rfl rfl),
    step_mvP rfl (gN 2 true 54 rfl rfl rfl) rfl rfl (kO 14 rfl),
    step_eqC rfl (gN 2 true 54 rfl rfl rfl) rfl Tryz.underlying26 rfl (by decide) (kI 3 55 rfl rfl),
    step_pick rfl (.inl rfl) (b := true) rfl rfl (kI 2 54 rfl rfl) (kI 4 56 rfl rfl),
    step_mvP rfl (.inl rfl) rfl rfl (kI 5 57 rfl rfl),
    step_ldV rfl (gN 6 true 58 rfl rfl rfl) (fun _ hw => (h11.next hw).range) rfl Tryz.underlying22 rfl (szV inf32 (il HP.out)) rfl (kO 11 rfl),
    step_ldV rfl (gN 6 true 58 rfl rfl rfl) (fun _ hw => (h2.next hw).range) rfl Tryz.underlying22 rfl (szV inf32 (il HSD.out)) rfl (kO 2 rfl),
    step_toA rfl (gN 6 true 58 rfl rfl rfl) rfl cx9 hT kpub rfl (one_arg (kI 8 60 rfl rfl)),
    step_eqA rfl (gN 6 true 58 rfl rfl rfl) rfl eq32 HP.out HP.out (decide_eq_true rfl) rfl (kI 7 59 rfl rfl) (kI 9 61 rfl rfl),
    step_pick rfl (.inl rfl) (b := true) rfl rfl (kI 6 58 rfl rfl) (kI 10 62 rfl rfl),
    step_mvP rfl (.inl rfl) rfl rfl (kI 11 63 rfl rfl),
    step_ldV rfl (gN 12 true 64 rfl rfl rfl) (fun _ hw => (h11.next hw).range) rfl Tryz.underlying22 rfl (szV inf32 (il HP.out)) rfl (kO 11 rfl),
    step_ldV rfl (gN 12 true 64 rfl rfl rfl) (fun _ hw => (h2.next hw).range) rfl Tryz.underlying22 rfl (szV inf32 (il HSD.out)) rfl (kO 2 rfl),
    step_to rfl (gN 12 true 64 rfl rfl rfl) rfl cx10 krpub rfl (one_arg (kI 14 66 rfl rfl)),
    step_eqA rfl (gN 12 true 64 rfl rfl rfl) rfl eq32 HP.out HP.out (decide_eq_true rfl) rfl (kI 13 65 rfl rfl) (kI 15 67 rfl rfl),
    step_pick rfl (.inl rfl) (b := true) rfl rfl (kI 12 64 rfl rfl) (kI 16 68 rfl rfl),
    step_mvP rfl (.inl rfl) rfl rfl (kI 17 69 rfl rfl),
    step_ldV rfl (gN 18 true 70 rfl rfl rfl) (fun _ hw => (h13.next hw).range) rfl Tryz.underlying29 rfl (szV inf64 (il HSG.out)) rfl (kO 13 rfl),
    step_ldV rfl (gN 18 true 70 rfl rfl rfl) (fun _ hw => (h15.next hw).range) rfl Tryz.underlying29 rfl (szV inf64 (il HSG.out)) rfl (kO 15 rfl),
    step_eqA rfl (gN 18 true 70 rfl rfl rfl) rfl eq64 HSG.out HSG.out (decide_eq_true rfl) rfl (kI 19 71 rfl rfl) (kI 20 72 rfl rfl),
    step_pick rfl (.inl rfl) (b := true) rfl rfl (kI 18 70 rfl rfl) (kI 21 73 rfl rfl),
    step_mvP rfl (.inl rfl) rfl rfl (kI 22 74 rfl rfl),
    step_one rfl (gN 23 true 75 rfl rfl rfl) (fun ev w h hc => ex_slA (P := Tryz.prog) u64 z64 (m := 64) rfl rfl ev w h hc) rfl (kO 13 rfl),
    step_ldV rfl (gN 23 true 75 rfl rfl rfl) (fun _ hw => (h2.next hw).range) rfl Tryz.underlying22 rfl (szV inf32 (il HSD.out)) rfl (kO 2 rfl),
    step_mvP rfl (gN 23 true 75 rfl rfl rfl) rfl rfl (kO 1 rfl),
    step_cR rfl (gN 23 true 75 rfl rfl rfl) rfl cx12 rfl (fun aa ww hw hf hd => ⟨_, two_args (kI 25 77 rfl rfl) (kI 26 78 rfl rfl) aa ww hw hf hd, (KRS.out ww (hX.below hw)).mono fun _ _ ⟨A, c, he, hN, hb⟩ => ⟨_, he, ⟨A, c, rfl, hN⟩, hb⟩⟩),
    step_cw rfl (gN 23 true 75 rfl rfl rfl) rfl cx11 rfl (fun aa ww hw hf hd => by
      obtain ⟨A', c', e, hN⟩ := ((knowsW_in 27 79 (by decide) (by kernel_rfl) rfl rfl) : KnowsW _ _ _ _ _ _ _ _ (IsNm 64 sg)) aa ww hw hf hd
      have h := same_at (c := 64) (d := c') HSG.out ww ((((h13.next hw)).nums)) hN
      exact ⟨_, by rw [map2, (kI 24 76 rfl rfl) aa ww hw hf hd, e], h⟩),
    step_pick rfl (.inl rfl) (b := true) rfl rfl (kI 23 75 rfl rfl) (kI 28 80 rfl rfl), trivial⟩ ?_
 intro val w15 hw hS hap hla
 have e52 := eVal hS 0 52 rfl rfl
 have e53 := eVal hS 1 53 rfl rfl
 have e54 := eVal hS 2 54 rfl rfl
 have e55 := eVal hS 3 55 rfl rfl
 have e56 := eVal hS 4 56 rfl rfl
 have e57 := eVal hS 5 57 rfl rfl
 have e58 := eVal hS 6 58 rfl rfl
 have e59 := eVal hS 7 59 rfl rfl
 have e60 := eVal hS 8 60 rfl rfl
 have e61 := eVal hS 9 61 rfl rfl
 have e62 := eVal hS 10 62 rfl rfl
 have e63 := eVal hS 11 63 rfl rfl
 have e64 := eVal hS 12 64 rfl rfl
 have e65 := eVal hS 13 65 rfl rfl
 have e66 := eVal hS 14 66 rfl rfl
 have e67 := eVal hS 15 67 rfl rfl
 have e68 := eVal hS 16 68 rfl rfl
 have e69 := eVal hS 17 69 rfl rfl
 have e70 := eVal hS 18 70 rfl rfl
 have e71 := eVal hS 19 71 rfl rfl
 have e72 := eVal hS 20 72 rfl rfl
 have e73 := eVal hS 21 73 rfl rfl
 have e74 := eVal hS 22 74 rfl rfl
 have e75 := eVal hS 23 75 rfl rfl
 have e76 := eVal hS 24 76 rfl rfl
 have e77 := eVal hS 25 77 rfl rfl
 have e78 := eVal hS 26 78 rfl rfl
 have e80 := eVal hS 28 80 rfl rfl
 have e81 := eVal hS 29 81 rfl rfl
 simp only [pA, pB, pC, pD, pE, Act.put, pG, pH, pI, e52, e53, e54, e55, e56, e57, e58, e59, e60, e61, e62, e63, e64, e65, e66, e67, e68, e69, e70, e71, e72, e73, e74, e75, e76, e77, e78, e80, e81]
 generalize val 79 = g79
 clear hS hap hla e52 e53 e54 e55 e56 e57 e58 e59 e60 e61 e62 e63 e64 e65 e66 e67 e68 e69 e70 e71 e72 e73 e74 e75 e76 e77 e78 e80 e81
 replace hT := hT.next hw
 replace hX := hX.below hw
 replace h2 := h2.next hw
 replace h6 := h6.next hw
 replace h8 := h8.next hw
 replace R37 := R37.next hw
 replace h11 := h11.next hw
 replace h13 := h13.next hw
 replace h15 := h15.next hw
 replace hW := bT hW hw
 clear hw
 go_wp2_with (fail)
 go_ret
 exact ⟨rfl, hW⟩
theorem ss_long {sd tx : List Int} {A : Option Addr} {c : Nat} (HSD : Hid (sd.length = 32)) (hm : (300 : Int) < (tx.length : Int)) (w : World) (hT : TabsA w) (hX : Nums w .u8 A tx) : Calls Tryz.prog 3 #[.agg (ints .u8 sd).toArray, .slice A tx.length c] w fun e w' => e = .returned (.bool true) ∧ Below w.heap.size w w' := by
 obtain ⟨z2_, s2_⟩ := zero_of_info inf32
 have h2 := Rw.new w (ints .u8 sd) 22
 have hW := below_new w (.cells (ints .u8 sd).toArray 22)
 replace hT := hT.next hW
 replace hX := hX.below hW
 go_enter Tryz.func3, Tryz.ntmps3
 go_upto_region 1 with (fail)
 generalize w.alloc (.cells (ints .u8 sd).toArray 22) = w0 at *
 have s0 := hW.size
 refine rSeq 2 82 (fun _ => false) [Is (.bool true), Is (.bool false)] [16, 17] (gC (gC grows_nil))
   ⟨step_toA rfl (.inl rfl) rfl cx4 hT awake_any rfl (no_args),
    step_not rfl (.inl rfl) (b := true) rfl rfl (kI 0 16 rfl rfl), trivial⟩ ?_
 intro val w1 hw hS hap hla
 simp only [pA, pB, pC, pD, pE, Act.put, pG, pH, pI, eVal hS 0 16 rfl rfl, eVal hS 1 17 rfl rfl]
 clear hS hap hla
 replace hT := hT.next hw
 replace hX := hX.below hw
 replace h2 := h2.next hw
 replace hW := bT hW hw
 clear hw
 go_upto_region 3 with (fail)
 go_wp2_with (fail)
 go_ret
 exact ⟨rfl, hW⟩
theorem signSigns_walk (w : World) (ht : TabsA w) (sd : List Int) (ld : sd.length = 32) (wd : ∀ x ∈ sd, (Lit.int .u8 x).wf = true) (A : Option Addr) (c : Nat) (tx : List Int) (hc : tx.length ≤ c) (_ : c ≤ maxLen) (wx : ∀ x ∈ tx, (Lit.int .u8 x).wf = true) (hX : Nums w .u8 A tx) :
   Calls Tryz.prog 3 #[.agg (ints .u8 sd).toArray, .slice A tx.length c] w fun e w' => e = .returned (.bool true) ∧ Below w.heap.size w w' := by
 have hsb := byt_of_wf wd
 have htb := byt_of_wf wx
 by_cases h3 : 300 < tx.length
 · exact ss_long (hid ld) (by omega) w ht hX
 · exact ss_core (num := numL sd) (pre := preL sd) (pub := pubL sd) (sg := sigL sd tx) (hid ld) (hid (numL_len sd)) (hid (preL_len sd)) (hid (pubL_len sd)) (hid (sigL_len sd tx)) (hid (sigL_byt sd tx)) (by omega)
     (hid fun w hT => key_any ld hsb w hT) (hid fun w b hT hR => mpub (hid (numL_len sd)) (hid (numL_byt sd)) (hid (preL_len sd)) (hid (preL_byt sd)) (hid (pubL_len sd)) (hid (bytesP_byt _)) w hT hR)
     (hid fun w b hT hR hX => msign_any rfl hc (by omega) htb w hT hR hX) (hid fun w hT hX => sign_any ld hsb rfl hc (by omega) htb w hT hX) (pub_any ld hsb) (rpub_any ld hsb) (hid fun w hX => rsign_any ld hsb htb (by omega) w hX) w ht hX
end Go.Proofs.YthpibkpljakeeaaGreatDoor
