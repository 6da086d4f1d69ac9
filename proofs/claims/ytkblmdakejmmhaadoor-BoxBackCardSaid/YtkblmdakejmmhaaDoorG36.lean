/- Texts of this proof, laid together: BWrap, ASeal, BEx. -/
import Derived.Test.YtkblmdakejmmhaaDoorG35
import Derived.Test.YtkblmdakejmmhaaDoorG34
import Derived.Test.YtkblmdakejmmhaaDoorLMulM
/- Wrap: a text for one alone. -/
namespace Go.Proofs.YtkblmdakejmmhaaDoor
open Go Go.RowKit

set_option maxRecDepth 50000 in
set_option maxHeartbeats 4000000 in
theorem wrap_yes (z : List Int) (sd pu se K : List Int) (AT : Option Addr) (lt ct : Nat) (t : List Int) (w : World) (hT : TabsH w) (hC : Tabs w) (H1 : Hid (sd.length = 32)) (H2 : Hid (pu.length = 32)) (H3 : Hid (se.length = 32)) (HK : Hid (K.length = 32)) (hlt : lt ≤ 400) (hA : Nums w .u8 AT t) (HP : Hid (CallsTo 6 #[.agg (ints .u8 sd).toArray] (.agg (ints .u8 se).toArray))) (B3 : HByt se) (HZ : Hid (z.length = lt + 16)) (HZB : HByt z) (HA : Hid (∀ w, TabsH w → Calls Tryd.prog 10 #[.agg (ints .u8 sd).toArray, .agg (ints .u8 pu).toArray, .agg (ints .u8 se).toArray, .agg (ints .u8 pu).toArray] w fun e w' => e = .returned (.tuple #[.agg (ints .u8 K).toArray, .int .i64 0]) ∧ Below w.heap.size w w'))
    (HS : Hid (∀ w, Tabs w → Nums w .u8 AT t → Calls Tryd.prog 11 #[.agg (ints .u8 K).toArray, .agg (ints .u8 (zeros 12)).toArray, .slice none 0 0, .slice AT lt ct] w fun e w' => ∃ v, e = .returned v ∧ IsTup (lt + 16) z v w' ∧ Below w.heap.size w w')) :
    Calls Tryd.prog 5 #[.agg (ints .u8 sd).toArray, .agg (ints .u8 pu).toArray, .slice AT lt ct] w fun e w' => ∃ A d, e = .returned (.tuple #[.slice A (32 + (lt + 16)) d, .int .i64 0]) ∧ 32 + (lt + 16) ≤ d ∧ Nums w' .u8 A (se ++ z) ∧ Below w.heap.size w w' := by
  have h3 := ((Arr.made w .u8 sd 22).alloc (.cells (ints .u8 pu).toArray 22)).rw
  have h4 := (Arr.made (w.alloc (.cells (ints .u8 sd).toArray 22)) .u8 pu 22).rw
  have hW := ((below_new w (.cells (ints .u8 sd).toArray 22)).alloc (by simp) (.cells (ints .u8 pu).toArray 22))
  simp only [World.size_alloc] at h4
  obtain ⟨z32, s32⟩ := zero_of_info infS32
  replace hT := hT.next hW
  replace hC := hC.next hW
  replace hA := hA.below hW
  have g1 : ¬ (1048528 : Int) < (lt : Int) := by omega
  go_enter Tryd.func5, Tryd.ntmps5
  go_upto_region 1 with (fail)
  generalize ((w.alloc (.cells (ints .u8 sd).toArray 22)).alloc (.cells (ints .u8 pu).toArray 22)) = w0 at *
  have s0 := hW.size
  refine region_seq2 3 40 (fun i => i == 2) [Is (.agg (ints .u8 sd).toArray), Is (.agg (ints .u8 se).toArray), IsZV w0.heap.size (ints .u8 (hzeros 32))] [13, 14, 8] (by kernel_rfl) (by kernel_rfl) (Nat.le_of_eq rfl) (grows_cons (Is.grows _) (grows_cons (Is.grows _) (grows_cons (IsZV.grows _ _) grows_nil)))
    ⟨step_ldV rfl (.inl rfl) (fun _ hw => (h3.next hw).range) rfl Tryd.underlying22 rfl (szV infS32 (il H1.out)) rfl (knows_out 3 (by kernel_rfl) rfl),
     step_to rfl (.inl rfl) rfl cxPubB HP.out rfl (one_arg (knows_in 0 13 (by decide) (by kernel_rfl) rfl rfl)),
     step_allocV (.inl rfl) infS32 rfl rfl, trivial⟩ ?_
  intro val w1 hw hS hap hla
  have e13 : val 13 = (.agg (ints .u8 sd).toArray) := hS 0 13 (by decide) rfl
  have e14 : val 14 = (.agg (ints .u8 se).toArray) := hS 1 14 (by decide) rfl
  obtain ⟨b8, e8, L8, Z8⟩ := hS 2 8 (by decide) rfl
  simp only [putVals, List.foldl_cons, List.foldl_nil, List.drop_succ_cons, List.drop_zero, Act.put, List.setIfInBounds_toArray, List.set_cons_succ, List.set_cons_zero, e13, e14, e8]
  clear hS hap hla e13 e14 e8 
  have LL8 := hid (show ((ints .u8 se)).length = 32 from (il H3.out))
  have R8 := Z8.roomA (us := (ints .u8 se)) (LL8.out.trans (zvH .u8 32).symm)
  have h8 := Z8.storedA (us := (ints .u8 se)) (LL8.out.trans (zvH .u8 32).symm)
  replace h3 := h3.next (Below.setCells hw L8 0 (ints .u8 se).toArray.toList)
  replace h4 := h4.next (Below.setCells hw L8 0 (ints .u8 se).toArray.toList)
  replace hT := hT.next (Below.setCells hw L8 0 (ints .u8 se).toArray.toList)
  replace hC := hC.next (Below.setCells hw L8 0 (ints .u8 se).toArray.toList)
  replace hA := hA.below (Below.setCells hw L8 0 (ints .u8 se).toArray.toList)
  replace hW := hW.trans (Below.mono (Below.setCells hw L8 0 (ints .u8 se).toArray.toList) hW.size)
  with_reducible refine wpList_store_mid (op := ⟨none, .store 22 (.tmp 8) (.tmp 14), _, _, _, _⟩) rfl 22 (.tmp 8) (.tmp 14) rfl b8 0 (ints .u8 se).toArray rfl rfl R8 (szA infS32 LL8.out) (ints_all _ _) ?_
  generalize (w1.setCells b8 0 (ints .u8 se).toArray.toList) = w2 at *
  clear hw R8 LL8 Z8 L8
  go_upto_region 2 with (fail)
  have s2 := hW.size
  refine region_seq2 9 40 (fun i => i == 8) [Is (.agg (ints .u8 sd).toArray), Is (.agg (ints .u8 pu).toArray), Is (.agg (ints .u8 se).toArray), Is (.agg (ints .u8 pu).toArray), Is (.tuple #[(.agg (ints .u8 K).toArray), (.int .i64 0)]), Is (.tuple #[(.agg (ints .u8 K).toArray), (.int .i64 0)]), Is (.agg (ints .u8 K).toArray), Is (.int .i64 0), IsZV w2.heap.size (ints .u8 (hzeros 32))] [16, 17, 18, 19, 20, 15, 21, 22, 9] (by kernel_rfl) (by kernel_rfl) (Nat.le_of_eq rfl) (grows_cons (Is.grows _) (grows_cons (Is.grows _) (grows_cons (Is.grows _) (grows_cons (Is.grows _) (grows_cons (Is.grows _) (grows_cons (Is.grows _) (grows_cons (Is.grows _) (grows_cons (Is.grows _) (grows_cons (IsZV.grows _ _) grows_nil)))))))))
    ⟨step_ldV rfl (.inl rfl) (fun _ hw => (h3.next hw).range) rfl Tryd.underlying22 rfl (szV infS32 (il H1.out)) rfl (knows_out 3 (by kernel_rfl) rfl),
     step_ldV rfl (.inl rfl) (fun _ hw => (h4.next hw).range) rfl Tryd.underlying22 rfl (szV infS32 (il H2.out)) rfl (knows_out 4 (by kernel_rfl) rfl),
     step_ldV rfl (.inl rfl) (fun _ hw => (h8.next hw).range) rfl Tryd.underlying22 rfl (szV infS32 (il H3.out)) rfl (knows_out 8 (by kernel_rfl) rfl),
     step_ldV rfl (.inl rfl) (fun _ hw => (h4.next hw).range) rfl Tryd.underlying22 rfl (szV infS32 (il H2.out)) rfl (knows_out 4 (by kernel_rfl) rfl),
     step_cw rfl (.inl rfl) rfl cxAgrB rfl (fun aa ww hw hf hd => ⟨_, (four_args (knows_in 0 16 (by decide) (by kernel_rfl) rfl rfl) (knows_in 1 17 (by decide) (by kernel_rfl) rfl rfl) (knows_in 2 18 (by decide) (by kernel_rfl) rfl rfl) (knows_in 3 19 (by decide) (by kernel_rfl) rfl rfl)) aa ww hw hf hd, HA.out ww (hT.next hw)⟩),
     step_mvP rfl (.inl rfl) rfl rfl (knows_in 4 20 (by decide) (by kernel_rfl) rfl rfl),
     step_fstZ rfl (.inl rfl) rfl rfl (knows_in 5 15 (by decide) (by kernel_rfl) rfl rfl),
     step_sndZ rfl (.inl rfl) rfl rfl (knows_in 5 15 (by decide) (by kernel_rfl) rfl rfl),
     step_allocV (.inl rfl) infS32 rfl rfl, trivial⟩ ?_
  intro val w3 hw hS hap hla
  have e16 : val 16 = (.agg (ints .u8 sd).toArray) := hS 0 16 (by decide) rfl
  have e17 : val 17 = (.agg (ints .u8 pu).toArray) := hS 1 17 (by decide) rfl
  have e18 : val 18 = (.agg (ints .u8 se).toArray) := hS 2 18 (by decide) rfl
  have e19 : val 19 = (.agg (ints .u8 pu).toArray) := hS 3 19 (by decide) rfl
  have e20 : val 20 = (.tuple #[(.agg (ints .u8 K).toArray), (.int .i64 0)]) := hS 4 20 (by decide) rfl
  have e15 : val 15 = (.tuple #[(.agg (ints .u8 K).toArray), (.int .i64 0)]) := hS 5 15 (by decide) rfl
  have e21 : val 21 = (.agg (ints .u8 K).toArray) := hS 6 21 (by decide) rfl
  have e22 : val 22 = (.int .i64 0) := hS 7 22 (by decide) rfl
  obtain ⟨b9, e9, L9, Z9⟩ := hS 8 9 (by decide) rfl
  simp only [putVals, List.foldl_cons, List.foldl_nil, List.drop_succ_cons, List.drop_zero, Act.put, List.setIfInBounds_toArray, List.set_cons_succ, List.set_cons_zero, e16, e17, e18, e19, e20, e15, e21, e22, e9]
  clear hS hap hla e16 e17 e18 e19 e20 e15 e21 e22 e9 
  have LL9 := hid (show ((ints .u8 K)).length = 32 from (il HK.out))
  have R9 := Z9.roomA (us := (ints .u8 K)) (LL9.out.trans (zvH .u8 32).symm)
  have h9 := Z9.storedA (us := (ints .u8 K)) (LL9.out.trans (zvH .u8 32).symm)
  replace h3 := h3.next (Below.setCells hw L9 0 (ints .u8 K).toArray.toList)
  replace h4 := h4.next (Below.setCells hw L9 0 (ints .u8 K).toArray.toList)
  replace hT := hT.next (Below.setCells hw L9 0 (ints .u8 K).toArray.toList)
  replace hC := hC.next (Below.setCells hw L9 0 (ints .u8 K).toArray.toList)
  replace hA := hA.below (Below.setCells hw L9 0 (ints .u8 K).toArray.toList)
  replace h8 := h8.next (Below.setCells hw L9 0 (ints .u8 K).toArray.toList)
  replace hW := hW.trans (Below.mono (Below.setCells hw L9 0 (ints .u8 K).toArray.toList) hW.size)
  with_reducible refine wpList_store_mid (op := ⟨none, .store 22 (.tmp 9) (.tmp 21), _, _, _, _⟩) rfl 22 (.tmp 9) (.tmp 21) rfl b9 0 (ints .u8 K).toArray rfl rfl R9 (szA infS32 LL9.out) (ints_all _ _) ?_
  generalize (w3.setCells b9 0 (ints .u8 K).toArray.toList) = w4 at *
  clear hw R9 LL9 Z9 L9
  go_wp2_with (fail)
  have s4 := hW.size
  refine region_spec2 8 40 (fun _ => false) [Is (.agg (ints .u8 K).toArray), Is (.agg (ints .u8 (zeros 12)).toArray), Is (.slice AT lt ct), IsTup (lt + 16) z, IsTup (lt + 16) z, IsPart (lt + 16) z, Is (.int .i64 0), IsPart (lt + 16) z] [30, 31, 32, 33, 29, 34, 35, 11] (by kernel_rfl) (by kernel_rfl) (by kernel_rfl) (Nat.le_of_eq rfl) (grows_cons (Is.grows _) (grows_cons (Is.grows _) (grows_cons (Is.grows _) (grows_cons (IsTup.grows _ _) (grows_cons (IsTup.grows _ _) (grows_cons (IsPart.grows _ _) (grows_cons (Is.grows _) (grows_cons (IsPart.grows _ _) grows_nil))))))))
    ⟨step_ldV rfl (.inl rfl) (fun _ hw => (h9.next hw).range) rfl Tryd.underlying22 rfl (szV infS32 (il HK.out)) rfl (knows_out 9 (by kernel_rfl) rfl),
     step_to0 rfl (.inl rfl) rfl cxNonB nonce_any rfl,
     step_mvP rfl (.inl rfl) rfl rfl (knows_out 2 (by kernel_rfl) rfl),
     step_callR rfl (.inl rfl) rfl cxSeaB rfl (fun aa ww hw hf hd => ⟨_, (four_args (knows_in 0 30 (by decide) (by kernel_rfl) rfl rfl) (knows_in 1 31 (by decide) (by kernel_rfl) rfl rfl) (knows_const _) (knows_in 2 32 (by decide) (by kernel_rfl) rfl rfl)) aa ww hw hf hd, HS.out ww (hC.next hw) (hA.below hw)⟩),
     step_copyW rfl (.inl rfl) 3 33 (.inl rfl) rfl (by decide) (by kernel_rfl) rfl rfl,
     tup_fst rfl (.inl rfl) rfl rfl (knowsW_in 4 29 (by decide) (by kernel_rfl) rfl rfl),
     tup_snd rfl (.inl rfl) rfl rfl (knowsW_in 4 29 (by decide) (by kernel_rfl) rfl rfl),
     step_copyW rfl (.inl rfl) 5 34 (.inr rfl) rfl (by decide) (by kernel_rfl) rfl rfl, trivial⟩ ?_
  intro val w5 hw hS hap hla
  have e30 : val 30 = (.agg (ints .u8 K).toArray) := hS 0 30 (by decide) rfl
  have e31 : val 31 = (.agg (ints .u8 (zeros 12)).toArray) := hS 1 31 (by decide) rfl
  have e32 : val 32 = (.slice AT lt ct) := hS 2 32 (by decide) rfl
  have e35 : val 35 = (.int .i64 0) := hS 6 35 (by decide) rfl
  obtain ⟨B11, c11, e11, h11, N11⟩ := hS 7 11 (by decide) rfl
  simp only [putVals, List.foldl_cons, List.foldl_nil, List.drop_succ_cons, List.drop_zero, Act.put, List.setIfInBounds_toArray, List.set_cons_succ, List.set_cons_zero, e30, e31, e32, e35, e11]
  generalize val 33 = g33
  generalize val 29 = g29
  generalize val 34 = g34
  clear hS hap hla e30 e31 e32 e35 e11 
  replace h3 := h3.next hw
  replace h4 := h4.next hw
  replace hT := hT.next hw
  replace hC := hC.next hw
  replace hA := hA.below hw
  replace h8 := h8.next hw
  replace h9 := h9.next hw
  replace hW := hW.trans (Below.mono hw hW.size)
  clear hw
  go_upto_region 8 with (fail)
  have s5 := hW.size
  refine region_seq2 6 40 (fun _ => false) [Is (.slice (some ⟨b8, 0, none⟩) 32 32), Is (.slice B11 (lt + 16) c11), IsRow2 se z, IsPart (32 + (lt + 16)) (se ++ z), IsPart (32 + (lt + 16)) (se ++ z), Is (.int .i64 0)] [36, 37, 38, 39, 6, 7] (by kernel_rfl) (by kernel_rfl) (Nat.le_of_eq rfl) (grows_cons (Is.grows _) (grows_cons (Is.grows _) (grows_cons (IsRow2.grows _ _) (grows_cons (IsPart.grows _ _) (grows_cons (IsPart.grows _ _) (grows_cons (Is.grows _) grows_nil))))))
    ⟨step_one rfl (.inl rfl) (fun ev w h hc => ex_slA (P := Tryd.prog) uaV32 zeV32 (m := 32) rfl rfl ev w h hc) rfl (knows_out 8 (by kernel_rfl) rfl),
     step_mvP rfl (.inl rfl) rfl rfl (knows_out 11 (by kernel_rfl) rfl),
     step_row2 rfl (.inl rfl) rfl ⟨H3.out, by decide, B3⟩ ⟨HZ.out, by omega, HZB⟩ rfl ((knows_in 0 36 (by decide) (by kernel_rfl) rfl rfl).part (Nat.le_refl _) (fun w hw => ((h8.next hw)).nums)) ((knows_in 1 37 (by decide) (by kernel_rfl) rfl rfl).part h11 (fun w hw => N11.below hw)),
     step_catB rfl (.inl rfl) rfl H3.out HZ.out (by decide) (by decide) (by omega) rfl (knowsW_in 2 38 (by decide) (by kernel_rfl) rfl rfl),
     step_copyW rfl (.inl rfl) 3 39 (.inr rfl) rfl (by decide) (by kernel_rfl) rfl rfl,
     step_asgP rfl (.inl rfl) rfl rfl (knows_const _), trivial⟩ ?_
  intro val w6 hw hS hap hla
  have e36 : val 36 = (.slice (some ⟨b8, 0, none⟩) 32 32) := hS 0 36 (by decide) rfl
  have e37 : val 37 = (.slice B11 (lt + 16) c11) := hS 1 37 (by decide) rfl
  obtain ⟨B6, c6, e6, h6, N6⟩ := hS 4 6 (by decide) rfl
  have e7 : val 7 = (.int .i64 0) := hS 5 7 (by decide) rfl
  simp only [putVals, List.foldl_cons, List.foldl_nil, List.drop_succ_cons, List.drop_zero, Act.put, List.setIfInBounds_toArray, List.set_cons_succ, List.set_cons_zero, e36, e37, e6, e7]
  generalize val 38 = g38
  generalize val 39 = g39
  clear hS hap hla e36 e37 e6 e7 
  replace h3 := h3.next hw
  replace h4 := h4.next hw
  replace hT := hT.next hw
  replace hC := hC.next hw
  replace hA := hA.below hw
  replace h8 := h8.next hw
  replace h9 := h9.next hw
  replace N11 := N11.below hw
  replace hW := hW.trans (Below.mono hw hW.size)
  clear hw
  go_wp2_with (fail)
  go_ret2
  exact ⟨B6, c6, rfl, h6, N6, hW⟩
end Go.Proofs.YtkblmdakejmmhaaDoor

/- Seal: a text is hidden and tagged. -/
namespace Go.Proofs.YtkblmdakejmmhaaDoor
open Go Go.RowKit

set_option maxRecDepth 50000 in
set_option maxHeartbeats 4000000 in
theorem aseal_core (key nonce be t h r : List Int) (AB AT : Option Addr) (lb cb lt ct : Nat) (w : World) (hT : Tabs w) (hk : Hid (key.length = 32)) (hn : Hid (nonce.length = 12)) (hkb : HByt key) (hnb : HByt nonce) (HTB : HByt t) (PB : Hid (PLZ lb be)) (PT : Hid (t.length = lt)) (hlt : lt ≤ 400) (hlb : lb ≤ 1000) (hcb : lb ≤ cb) (HH : Hid (hideL t (strm key nonce 1 (4294967296 - 1)) = h)) (PH : Hid (PLZ lt h)) (HR : Hid (atag key nonce be h = r)) (HRL : Hid (r.length = 16)) (hB : Nums w .u8 AB be) (hA : Nums w .u8 AT t) :
    Calls Tryd.prog 11 #[.agg (ints .u8 key).toArray, .agg (ints .u8 nonce).toArray, .slice AB lb cb, .slice AT lt ct] w fun e w' => ∃ A d, e = .returned (.tuple #[.slice A (lt + 16) d, .int .i64 0]) ∧ lt + 16 ≤ d ∧ Nums w' .u8 A (h ++ r) ∧ Below w.heap.size w w' := by
  obtain ⟨z33, s33⟩ := zero_of_info inf33
  have hK := ((Arr.made w .u8 key 22).alloc (.cells (ints .u8 nonce).toArray 36)).rw
  have hN := (Arr.made (w.alloc (.cells (ints .u8 key).toArray 22)) .u8 nonce 36).rw
  have hW := (below_new w (.cells (ints .u8 key).toArray 22)).alloc (by simp) (.cells (ints .u8 nonce).toArray 36)
  rw [World.size_alloc] at hN
  replace hT := hT.next hW
  replace hB := hB.below hW
  replace hA := hA.below hW
  have i32 : (Tryd.prog.info? 22).map (·.size) = some (ints .u8 key).length := szV inf41 (il hk.out)
  have i12 : (Tryd.prog.info? 36).map (·.size) = some (ints .u8 nonce).length := szV infNo (il hn.out)
  have g1 : (lt : Int) ≤ 400 := by omega
  have g2 : (lb : Int) ≤ 1000 := by omega
  have r4 := hK.range
  have r5 := hN.range
  go_enter Tryd.func11, Tryd.ntmps11
  go_wp2_with (first
    | (with_reducible refine wpList_load_mid (op := ⟨some 22, .load 22 (.tmp 4), _, _, _, _⟩) rfl 22 (.tmp 4) rfl w.heap.size 0 rfl (ints .u8 key) _ r4 Tryd.underlying22 rfl i32 ?_)
    | (with_reducible refine wpList_load_mid (op := ⟨some 23, .load 36 (.tmp 5), _, _, _, _⟩) rfl 36 (.tmp 5) rfl (w.heap.size + 1) 0 rfl (ints .u8 nonce) _ r5 Tryd.underlying36 rfl i12 ?_)
    | (go_at_call 19; clear r4 r5; generalize (w.alloc (.cells (ints .u8 key).toArray 22)).alloc (.cells (ints .u8 nonce).toArray 36) = w8 at *
       refine (hide_own key nonce t 1 lt ct AT _ hT hk hn hkb hnb HTB PT (by omega) (by decide) (by omega) hA).mono ?_; rintro e w1 ⟨AH, dh, rfl, hO, hb1, hdh⟩
       rw [HH.out] at hO
       replace hO := hO.lower hW.size
       replace hK := hK.next hb1; replace hN := hN.next hb1; replace hB := hB.below hb1; replace hT := hT.next hb1; replace hW := hW.trans (Below.mono hb1 hW.size)
       have q4 := hK.range
       have q5 := hN.range
       clear hb1 hA)
    | (with_reducible refine wpList_load_mid (op := ⟨some 28, .load 22 (.tmp 4), _, _, _, _⟩) rfl 22 (.tmp 4) rfl w.heap.size 0 rfl (ints .u8 key) _ q4 Tryd.underlying22 rfl i32 ?_)
    | (with_reducible refine wpList_load_mid (op := ⟨some 29, .load 36 (.tmp 5), _, _, _, _⟩) rfl 36 (.tmp 5) rfl (w.heap.size + 1) 0 rfl (ints .u8 nonce) _ q5 Tryd.underlying36 rfl i12 ?_)
    | (go_at_call 20; clear q4 q5; refine (atag_any key nonce be h AB AH lb cb lt dh _ hT hk hn hkb hnb PB PH hcb hdh hB hO.nums).mono ?_; rintro e w2 ⟨rfl, hb2⟩
       rw [HR.out]
       replace hO := hO.stay hb2
       have hb3 := below_new w2 (.cells (ints .u8 (zeros 16)).toArray 45)
       have h12 := Rw.new w2 (ints .u8 (zeros 16)) 45
       have R12 := h12.roomA (us := ints .u8 r) ((il HRL.out).trans (il (zeros_len 16)).symm)
       have X12 := h12.storedA (us := ints .u8 r) ((il HRL.out).trans (il (zeros_len 16)).symm)
       have hb4 := Below.setCells (below_new w2 (.cells (ints .u8 (zeros 16)).toArray 45)) (Nat.le_refl _) 0 (ints .u8 r).toArray.toList
       replace hO := hO.stay hb4
       replace hW := hW.trans (Below.mono (hb2.trans (Below.mono hb4 hb2.size)) hW.size)
       clear hb2 hb3 hb4 h12)
    | (with_reducible refine wpList_store_mid (op := ⟨none, .store 45 (.tmp 12) (.tmp 32), _, _, _, _⟩) rfl 45 (.tmp 12) (.tmp 32) rfl w2.heap.size 0 (ints .u8 r).toArray rfl rfl R12 (szA inf33 (il HRL.out)) (ints_all _ _) ?_
       generalize (w2.alloc (.cells (ints .u8 (zeros 16)).toArray 45)).setCells w2.heap.size 0 (ints .u8 r).toArray.toList = w3 at *
       generalize w2.heap.size = b12 at *
       clear R12)
    | (at_builtin; refine app_nums rfl (.tmp 33) (.tmp 34) 23 rfl w.heap.size 5 .u8 1 Tryd.underlying23 Tryd.info5 (by omega) AH lt dh h rfl hO (some ⟨b12, 0, none⟩) 16 r (by rw [HRL.out]; rfl) X12.nums (by rw [HRL.out, PH.out.1]; omega) hW.size ?_; intro A2 n2 d2 w4 hO2 hG))
  have hW4 : Below w.heap.size w w4 := hW.trans (hG.below hW.size fun g e => (hO.lt g e).1)
  obtain ⟨A3, m3, d3, e3, hm3, hmd3⟩ := slice_of_row2 hO2
  injection e3 with e4 e5 e6
  subst e4 e5 e6
  rw [List.length_append, PH.out.1, HRL.out] at hm3
  subst hm3
  clear hO hG hW
  go_ret2
  exact ⟨A2, d2, rfl, hmd3, hO2.nums, hW4⟩
set_option maxRecDepth 50000 in
theorem aseal_any (key nonce be t : List Int) (AB AT : Option Addr) (lb cb lt ct : Nat) (w : World) (hT : Tabs w) (hk : Hid (key.length = 32)) (hn : Hid (nonce.length = 12)) (hkb : HByt key) (hnb : HByt nonce) (HTB : HByt t) (PB : Hid (PLZ lb be)) (PT : Hid (t.length = lt)) (hlt : lt ≤ 400) (hcb : lb ≤ cb) (hB : Nums w .u8 AB be) (hA : Nums w .u8 AT t) :
    Calls Tryd.prog 11 #[.agg (ints .u8 key).toArray, .agg (ints .u8 nonce).toArray, .slice AB lb cb, .slice AT lt ct] w fun e w' => ∃ A d, e = .returned (.tuple #[.slice A (lt + 16) d, .int .i64 0]) ∧ lt + 16 ≤ d ∧ Nums w' .u8 A (sealL key nonce be t) ∧ Below w.heap.size w w' :=
  aseal_core key nonce be t (hidT key nonce t) (atag key nonce be (hidT key nonce t)) AB AT lb cb lt ct w hT hk hn hkb hnb HTB PB PT hlt PB.out.2.1 hcb (hid rfl) (hid ⟨by rw [hidT_len hk.out hn.out (by rw [PT.out]; omega), PT.out], by omega, hidT_byt _ _ HTB⟩) (hid rfl) (hid (atag_len _ _ _ _)) hB hA
end Go.Proofs.YtkblmdakejmmhaaDoor

/- The example's numbers: the ladder reckoned by the kernel, each number forced. No program. -/
namespace Go.Proofs.YtkblmdakejmmhaaDoor
open Go Go.RowKit

def frcB {α : Type} (a : Nat) (k : Nat → α) : α := Nat.rec (k 0) (fun m _ => k (m + 1)) a
set_option maxRecDepth 50000 in
theorem frcB_eq {α : Type} (a : Nat) (k : Nat → α) : frcB a k = k a := by cases a <;> rfl
def stpB (p u : Nat) (st : Bool) (a b c d : Nat) (k : Nat → Nat → Nat → Nat → Bool) : Bool :=
  frcB (cond st c a) fun x => frcB (cond st d b) fun z =>
  frcB ((x + z) % p) fun s => frcB ((x + p - z) % p) fun t =>
  frcB (s * s % p) fun ss => frcB (t * t % p) fun tt =>
  frcB ((ss + p - tt) % p) fun e => frcB (ss * tt % p) fun dx =>
  frcB (e * ((ss + 121665 * e % p) % p) % p) fun dz =>
  frcB ((c + p - d) % p * ((a + b) % p) % p) fun U => frcB ((c + d) % p * ((a + p - b) % p) % p) fun V =>
  frcB ((U + V) % p * ((U + V) % p) % p) fun sx => frcB (u * ((U + p - V) % p * ((U + p - V) % p) % p) % p) fun sz =>
  cond st (k sx sz dx dz) (k dx dz sx sz)
set_option maxRecDepth 50000 in
theorem stpB_eq (u : Nat) (st : Bool) (S : L4) (k : Nat → Nat → Nat → Nat → Bool) : stpB NT.PN u st S.a S.b S.c S.d k = k (lstep u st S).a (lstep u st S).b (lstep u st S).c (lstep u st S).d := by
  cases st <;> simp only [stpB, frcB_eq, cond_true, cond_false, lstep, dX, dZ, dE, sX, sZ, sU, sV, nM, nA, nS]
def ladB (p u : Nat) : List Bool → Nat → Nat → Nat → Nat → (Nat → Nat → Nat → Nat → Bool) → Bool
  | [], a, b, c, d, K => K a b c d
  | st :: l, a, b, c, d, K => stpB p u st a b c d fun a b c d => ladB p u l a b c d K
set_option maxRecDepth 50000 in
theorem ladB_eq (u : Nat) (K : Nat → Nat → Nat → Nat → Bool) : ∀ (l : List Bool) (S : L4), ladB NT.PN u l S.a S.b S.c S.d K = K (l.foldl (fun S st => lstep u st S) S).a (l.foldl (fun S st => lstep u st S) S).b (l.foldl (fun S st => lstep u st S) S).c (l.foldl (fun S st => lstep u st S) S).d
  | [], _ => rfl
  | st :: l, S => by
    show stpB NT.PN u st S.a S.b S.c S.d _ = _
    rw [stpB_eq, ladB_eq u K l (lstep u st S)]
    rfl
set_option maxRecDepth 50000 in
theorem ladN_fold (u : Nat) (b : List Int) : ∀ k, ladN u b k = ((List.range k).map fun j => bitB b (254 - j)).foldl (fun S st => lstep u st S) ⟨1, 0, u, 1⟩
  | 0 => rfl
  | k + 1 => by
    rw [List.range_succ, List.map_append, List.foldl_append, ← ladN_fold u b k]
    rfl
/-- The two secrets of the example. -/
def oneB : List Int := 1 :: zeros 31
def twoB : List Int := 2 :: zeros 31
def bitsB : List Bool := true :: List.replicate 254 false
set_option maxRecDepth 50000 in
theorem clampB : clampL twoB = clampL oneB := by decide +kernel
set_option maxRecDepth 50000 in
theorem bits_one : ((List.range 255).map fun j => bitB (clampL oneB) (254 - j)) = bitsB := by decide +kernel
set_option maxRecDepth 50000 in
/-- What the ladder comes to, if its kernel's word is yes. -/
theorem mulB {u A B i v : Nat} (h : ladB NT.PN u bitsB 1 0 u 1 (fun a b _ _ => Nat.beq a A && Nat.beq b B) = true) (hi : B ^ (NT.PN - 2) % NT.PN = i) (hv : A * i % NT.PN = v) : mulN oneB u = v := by
  have e := ladB_eq u (fun a b _ _ => Nat.beq a A && Nat.beq b B) bitsB ⟨1, 0, u, 1⟩
  have e2 := ladN_fold u (clampL oneB) 255
  rw [bits_one] at e2
  rw [← e2] at e
  have h2 := e.symm.trans h
  have h3 := Bool.and_eq_true_iff.1 h2
  have ha : (ladN u (clampL oneB) 255).a = A := Nat.eq_of_beq_eq_true h3.1
  have hb : (ladN u (clampL oneB) 255).b = B := Nat.eq_of_beq_eq_true h3.2
  show outN (ladN u (clampL oneB) 255) = v
  unfold outN
  rw [ha, hb, hi, hv]
def v1B : Nat := 52573937849532372069814888178136277301931757964231753054399601207743438775599
def v2B : Nat := 47371584340190434397458396784519032097355506450803964851670834165077996928659
set_option maxRecDepth 50000 in
theorem mul_one9 : mulN oneB 9 = v1B := mulB (A := 53699084970092229620102095424564848774812783684786248634290088506478568078703) (B := 20097946894889007705884408490665082385984383478950821997587487100163618290637) (i := 4690349756041861591026396950088132225180594110443955054213429870794107548986) (by kernel_rfl) (NT.pow_is 255 (by decide) (by kernel_rfl)) (by decide +kernel)
set_option maxRecDepth 50000 in
theorem mul_two9 : mulN twoB 9 = v1B := by
  rw [← mul_one9]
  unfold mulN
  rw [clampB]
set_option maxRecDepth 50000 in
theorem mul_one_v : mulN oneB v1B = v2B := mulB (A := 56899195954510505000973056179290705472472639321317522430150156907013189015683) (B := 53650602727256211160930848678485570231621301272366559501404395209450684873940) (i := 6297311692082277206339866975785280257327913378960705927482330000066026313899) (by kernel_rfl) (NT.pow_is 255 (by decide) (by kernel_rfl)) (by decide +kernel)
end Go.Proofs.YtkblmdakejmmhaaDoor
