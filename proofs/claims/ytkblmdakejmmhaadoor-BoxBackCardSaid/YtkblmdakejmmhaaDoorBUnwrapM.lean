/- Unwrap: the text that was wrapped. -/
import Derived.Test.YtkblmdakejmmhaaDoorG35
import Derived.Test.YtkblmdakejmmhaaDoorG37
import Derived.Deep.Cut
namespace Go.Proofs.YtkblmdakejmmhaaDoor
open Go Go.RowKit

set_option maxRecDepth 50000 in
theorem unwrap_few (sk : List Int) (A : Option Addr) (ls cs : Nat) (w : World) (hls : ls < 48) : Calls Tryd.prog 7 #[.agg (ints .u8 sk).toArray, .slice A ls cs] w fun e w' => e = .returned (.tuple #[.slice none 0 0, .int .i64 10]) ∧ Below w.heap.size w w' := by
  have h2 := (Arr.made w .u8 sk 22).rw
  have hW := (below_new w (.cells (ints .u8 sk).toArray 22))
  have g2 : (ls : Int) < 48 := by omega
  clear hls
  go_enter Tryd.func7, Tryd.ntmps7
  go_wp2_with (fail)
  go_ret2
  exact ⟨rfl, hW⟩
set_option maxRecDepth 50000 in
set_option maxHeartbeats 4000000 in
theorem unwrap_no (sk fi s2 re K : List Int) (gb ob ls cs : Nat) (w : World) (hT : TabsH w) (hC : Tabs w) (H1 : Hid (sk.length = 32)) (HF : Hid (fi.length = 32)) (H3 : Hid (re.length = 32)) (HK : Hid (K.length = 32)) (HLS : Hid (48 ≤ ls)) (hls : ls ≤ 400) (HCS : Hid (48 ≤ cs)) (hF : Nums w .u8 (some ⟨gb, ob, none⟩) fi) (hX : Nums w .u8 (some ⟨gb, ob + 32, none⟩) s2) (HP : Hid (CallsTo 6 #[.agg (ints .u8 sk).toArray] (.agg (ints .u8 re).toArray))) (HA : Hid (∀ w, TabsH w → Calls Tryd.prog 10 #[.agg (ints .u8 sk).toArray, .agg (ints .u8 fi).toArray, .agg (ints .u8 fi).toArray, .agg (ints .u8 re).toArray] w fun e w' => e = .returned (.tuple #[.agg (ints .u8 K).toArray, .int .i64 21]) ∧ Below w.heap.size w w')) :
    Calls Tryd.prog 7 #[.agg (ints .u8 sk).toArray, .slice (some ⟨gb, ob, none⟩) ls cs] w fun e w' => e = .returned (.tuple #[.slice none 0 0, .int .i64 21]) ∧ Below w.heap.size w w' := by
  have h2 := (Arr.made w .u8 sk 22).rw
  have hW := (below_new w (.cells (ints .u8 sk).toArray 22))
  obtain ⟨z32, s32⟩ := zero_of_info infS32
  replace hT := hT.next hW
  replace hC := hC.next hW
  replace hF := hF.below hW
  replace hX := hX.below hW
  have g1 : ¬ (1048576 : Int) < (ls : Int) := by omega
  have g2 : ¬ (ls : Int) < 48 := by have := HLS.out; omega
  go_enter Tryd.func7, Tryd.ntmps7
  go_upto_region 5 with (fail)
  generalize (w.alloc (.cells (ints .u8 sk).toArray 22)) = w0 at *
  have s0 := hW.size
  refine region_seq2 5 38 (fun i => i == 4) [Is (.slice (some ⟨gb, ob, none⟩) ls cs), Is (.slice (some ⟨gb, ob, none⟩) 32 cs), Is (.pointer (some ⟨gb, ob, none⟩)), Is (.agg (ints .u8 fi).toArray), IsZV w0.heap.size (ints .u8 (hzeros 32))] [15, 16, 17, 18, 6] (by kernel_rfl) (by kernel_rfl) (Nat.le_of_eq rfl) (grows_cons (Is.grows _) (grows_cons (Is.grows _) (grows_cons (Is.grows _) (grows_cons (Is.grows _) (grows_cons (IsZV.grows _ _) grows_nil)))))
    ⟨step_mvP rfl (.inl rfl) rfl rfl (knows_out 1 (by kernel_rfl) rfl),
     step_one rfl (.inl rfl) (fun ev w h hc => ex_slSh (P := Tryd.prog) uaVs zeVs (h := 32) (by have := HCS.out; omega) rfl (.inr (by decide)) ev w h hc) rfl (knows_in 0 15 (by decide) (by kernel_rfl) rfl rfl),
     step_one rfl (.inl rfl) (fun ev w h hc => ex_arrP (P := Tryd.prog) Tryd.underlying22 (by decide) rfl ev w h hc) rfl (knows_in 1 16 (by decide) (by kernel_rfl) rfl rfl),
     step_ldV rfl (.inl rfl) (fun _ hw => (hF.below hw).range) rfl Tryd.underlying22 rfl (szV infS32 (il HF.out)) rfl (knows_in 2 17 (by decide) (by kernel_rfl) rfl rfl),
     step_allocV (.inl rfl) infS32 rfl rfl, trivial⟩ ?_
  intro val w1 hw hS hap hla
  have e15 : val 15 = (.slice (some ⟨gb, ob, none⟩) ls cs) := hS 0 15 (by decide) rfl
  have e16 : val 16 = (.slice (some ⟨gb, ob, none⟩) 32 cs) := hS 1 16 (by decide) rfl
  have e17 : val 17 = (.pointer (some ⟨gb, ob, none⟩)) := hS 2 17 (by decide) rfl
  have e18 : val 18 = (.agg (ints .u8 fi).toArray) := hS 3 18 (by decide) rfl
  obtain ⟨b6, e6, L6, Z6⟩ := hS 4 6 (by decide) rfl
  simp only [putVals, List.foldl_cons, List.foldl_nil, List.drop_succ_cons, List.drop_zero, Act.put, List.setIfInBounds_toArray, List.set_cons_succ, List.set_cons_zero, e15, e16, e17, e18, e6]
  clear hS hap hla e15 e16 e17 e18 e6 
  have LL6 := hid (show ((ints .u8 fi)).length = 32 from (il HF.out))
  have R6 := Z6.roomA (us := (ints .u8 fi)) (LL6.out.trans (zvH .u8 32).symm)
  have h6 := Z6.storedA (us := (ints .u8 fi)) (LL6.out.trans (zvH .u8 32).symm)
  replace h2 := h2.next (Below.setCells hw L6 0 (ints .u8 fi).toArray.toList)
  replace hT := hT.next (Below.setCells hw L6 0 (ints .u8 fi).toArray.toList)
  replace hC := hC.next (Below.setCells hw L6 0 (ints .u8 fi).toArray.toList)
  replace hF := hF.below (Below.setCells hw L6 0 (ints .u8 fi).toArray.toList)
  replace hX := hX.below (Below.setCells hw L6 0 (ints .u8 fi).toArray.toList)
  replace hW := hW.trans (Below.mono (Below.setCells hw L6 0 (ints .u8 fi).toArray.toList) hW.size)
  with_reducible refine wpList_store_mid (op := ⟨none, .store 22 (.tmp 6) (.tmp 18), _, _, _, _⟩) rfl 22 (.tmp 6) (.tmp 18) rfl b6 0 (ints .u8 fi).toArray rfl rfl R6 (szA infS32 LL6.out) (ints_all _ _) ?_
  generalize (w1.setCells b6 0 (ints .u8 fi).toArray.toList) = w2 at *
  clear hw R6 LL6 Z6 L6
  go_upto_region 6 with (fail)
  have s2 := hW.size
  refine region_early 10 38 (fun i => i == 9) [Is (.agg (ints .u8 sk).toArray), Is (.agg (ints .u8 fi).toArray), Is (.agg (ints .u8 fi).toArray), Is (.agg (ints .u8 sk).toArray), Is (.agg (ints .u8 re).toArray), Is (.tuple #[(.agg (ints .u8 K).toArray), (.int .i64 21)]), Is (.tuple #[(.agg (ints .u8 K).toArray), (.int .i64 21)]), Is (.agg (ints .u8 K).toArray), Is (.int .i64 21), IsZV w2.heap.size (ints .u8 (hzeros 32))] [20, 21, 22, 23, 24, 25, 19, 26, 27, 7] (by kernel_rfl) (by kernel_rfl) (by kernel_rfl) (Nat.le_of_eq rfl) (grows_cons (Is.grows _) (grows_cons (Is.grows _) (grows_cons (Is.grows _) (grows_cons (Is.grows _) (grows_cons (Is.grows _) (grows_cons (Is.grows _) (grows_cons (Is.grows _) (grows_cons (Is.grows _) (grows_cons (Is.grows _) (grows_cons (IsZV.grows _ _) grows_nil))))))))))
    ⟨step_ldV rfl (.inl rfl) (fun _ hw => (h2.next hw).range) rfl Tryd.underlying22 rfl (szV infS32 (il H1.out)) rfl (knows_out 2 (by kernel_rfl) rfl),
     step_ldV rfl (.inl rfl) (fun _ hw => (h6.next hw).range) rfl Tryd.underlying22 rfl (szV infS32 (il HF.out)) rfl (knows_out 6 (by kernel_rfl) rfl),
     step_ldV rfl (.inl rfl) (fun _ hw => (h6.next hw).range) rfl Tryd.underlying22 rfl (szV infS32 (il HF.out)) rfl (knows_out 6 (by kernel_rfl) rfl),
     step_ldV rfl (.inl rfl) (fun _ hw => (h2.next hw).range) rfl Tryd.underlying22 rfl (szV infS32 (il H1.out)) rfl (knows_out 2 (by kernel_rfl) rfl),
     step_to rfl (.inl rfl) rfl cxPubB HP.out rfl (one_arg (knows_in 3 23 (by decide) (by kernel_rfl) rfl rfl)),
     step_cw rfl (.inl rfl) rfl cxAgrB rfl (fun aa ww hw hf hd => ⟨_, (four_args (knows_in 0 20 (by decide) (by kernel_rfl) rfl rfl) (knows_in 1 21 (by decide) (by kernel_rfl) rfl rfl) (knows_in 2 22 (by decide) (by kernel_rfl) rfl rfl) (knows_in 4 24 (by decide) (by kernel_rfl) rfl rfl)) aa ww hw hf hd, HA.out ww (hT.next hw)⟩),
     step_mvP rfl (.inl rfl) rfl rfl (knows_in 5 25 (by decide) (by kernel_rfl) rfl rfl),
     step_fstZ rfl (.inl rfl) rfl rfl (knows_in 6 19 (by decide) (by kernel_rfl) rfl rfl),
     step_sndZ rfl (.inl rfl) rfl rfl (knows_in 6 19 (by decide) (by kernel_rfl) rfl rfl),
     step_allocV (.inl rfl) infS32 rfl rfl, trivial⟩
    22 7 26 (ints .u8 K).toArray _ rfl rfl rfl rfl 9 7 (by decide) (by decide) rfl rfl (by kernel_rfl) (by kernel_rfl) (fun v w ⟨b, h1, h2, h3⟩ => ⟨b, h1, h2, h3.roomA (us := ints .u8 K) ((il HK.out).trans (il (hz_len 32)).symm)⟩) (fun v w h => h) (szA infS32 (il HK.out)) (ints_all _ _)
    (fun i o hi ho hf => by
      have hc : i = 0 ∨ i = 1 ∨ i = 2 ∨ i = 3 ∨ i = 4 ∨ i = 5 ∨ i = 6 ∨ i = 7 ∨ i = 8 ∨ i = 9 := by omega
      rcases hc with e | e | e | e | e | e | e | e | e | e <;> subst e
      · exact (no_wait hf (by kernel_rfl)).elim
      · exact (no_wait hf (by kernel_rfl)).elim
      · exact (no_wait hf (by kernel_rfl)).elim
      · exact (no_wait hf (by kernel_rfl)).elim
      · exact (no_wait hf (by kernel_rfl)).elim
      · exact (no_wait hf (by kernel_rfl)).elim
      · exact (no_wait hf (by kernel_rfl)).elim
      · exact (no_wait hf (by kernel_rfl)).elim
      · injection ho with ho; subst ho
        exact ⟨rfl, free_sndB rfl rfl rfl (knows_in 6 19 (by decide) (by kernel_rfl) rfl rfl)⟩
      · exact (no_wait hf (by kernel_rfl)).elim)
    (fun i j hi hj hf hw v w w' h => by
      have hc : i = 0 ∨ i = 1 ∨ i = 2 ∨ i = 3 ∨ i = 4 ∨ i = 5 ∨ i = 6 ∨ i = 7 ∨ i = 8 ∨ i = 9 := by omega
      have hd : j = 0 ∨ j = 1 ∨ j = 2 ∨ j = 3 ∨ j = 4 ∨ j = 5 ∨ j = 6 ∨ j = 7 ∨ j = 8 ∨ j = 9 := by omega
      rcases hc with e | e | e | e | e | e | e | e | e | e <;> subst e
      · exact (no_wait hf (by kernel_rfl)).elim
      · exact (no_wait hf (by kernel_rfl)).elim
      · exact (no_wait hf (by kernel_rfl)).elim
      · exact (no_wait hf (by kernel_rfl)).elim
      · exact (no_wait hf (by kernel_rfl)).elim
      · exact (no_wait hf (by kernel_rfl)).elim
      · exact (no_wait hf (by kernel_rfl)).elim
      · exact (no_wait hf (by kernel_rfl)).elim
      · rcases hd with e | e | e | e | e | e | e | e | e | e <;> subst e
        · exact (no_wait2 hw (by kernel_rfl)).elim
        · exact (no_wait2 hw (by kernel_rfl)).elim
        · exact (no_wait2 hw (by kernel_rfl)).elim
        · exact (no_wait2 hw (by kernel_rfl)).elim
        · exact (no_wait2 hw (by kernel_rfl)).elim
        · exact (no_wait2 hw (by kernel_rfl)).elim
        · exact h
        · exact (no_wait2 hw (by kernel_rfl)).elim
        · exact (no_wait2 hw (by kernel_rfl)).elim
        · exact (no_wait2 hw (by kernel_rfl)).elim
      · exact (no_wait hf (by kernel_rfl)).elim) ?_
  intro val w3 bq hw hS hap hla hbq
  have e20 : val 20 = (.agg (ints .u8 sk).toArray) := hS 0 20 (by decide) rfl
  have e21 : val 21 = (.agg (ints .u8 fi).toArray) := hS 1 21 (by decide) rfl
  have e22 : val 22 = (.agg (ints .u8 fi).toArray) := hS 2 22 (by decide) rfl
  have e23 : val 23 = (.agg (ints .u8 sk).toArray) := hS 3 23 (by decide) rfl
  have e24 : val 24 = (.agg (ints .u8 re).toArray) := hS 4 24 (by decide) rfl
  have e25 : val 25 = (.tuple #[(.agg (ints .u8 K).toArray), (.int .i64 21)]) := hS 5 25 (by decide) rfl
  have e19 : val 19 = (.tuple #[(.agg (ints .u8 K).toArray), (.int .i64 21)]) := hS 6 19 (by decide) rfl
  have e26 : val 26 = (.agg (ints .u8 K).toArray) := hS 7 26 (by decide) rfl
  have e27 : val 27 = (.int .i64 21) := hS 8 27 (by decide) rfl
  obtain ⟨b7, e7, L7, Z7⟩ := hS 9 7 (by decide) rfl
  have eb : b7 = bq := by
    rw [e7] at hbq
    injection hbq with h
    injection h with h
    injection h
  subst eb
  clear hbq
  simp only [putVals, List.foldl_cons, List.foldl_nil, List.drop_succ_cons, List.drop_zero, Act.put, List.setIfInBounds_toArray, List.set_cons_succ, List.set_cons_zero, e20, e21, e22, e23, e24, e25, e19, e26, e27, e7]
  clear hS hap hla e20 e21 e22 e23 e24 e25 e19 e26 e27 e7 
  have LL7 := hid (show ((ints .u8 K)).length = 32 from (il HK.out))
  have R7 := Z7.roomA (us := (ints .u8 K)) (LL7.out.trans (zvH .u8 32).symm)
  have h7 := Z7.storedA (us := (ints .u8 K)) (LL7.out.trans (zvH .u8 32).symm)
  replace h2 := h2.next (Below.setCells hw L7 0 (ints .u8 K).toArray.toList)
  replace hT := hT.next (Below.setCells hw L7 0 (ints .u8 K).toArray.toList)
  replace hC := hC.next (Below.setCells hw L7 0 (ints .u8 K).toArray.toList)
  replace hF := hF.below (Below.setCells hw L7 0 (ints .u8 K).toArray.toList)
  replace hX := hX.below (Below.setCells hw L7 0 (ints .u8 K).toArray.toList)
  replace h6 := h6.next (Below.setCells hw L7 0 (ints .u8 K).toArray.toList)
  replace hW := hW.trans (Below.mono (Below.setCells hw L7 0 (ints .u8 K).toArray.toList) hW.size)
  generalize (w3.setCells b7 0 (ints .u8 K).toArray.toList) = w4 at *
  clear hw R7 LL7 Z7 L7
  go_wp2_with (fail)
  go_ret2
  exact ⟨rfl, hW⟩
set_option maxRecDepth 50000 in
set_option maxHeartbeats 4000000 in
theorem unwrap_yes (x : List Int) (m : Nat) (E : Int) (sk fi s2 re K : List Int) (gb ob ls cs : Nat) (w : World) (hT : TabsH w) (hC : Tabs w) (H1 : Hid (sk.length = 32)) (HF : Hid (fi.length = 32)) (H3 : Hid (re.length = 32)) (HK : Hid (K.length = 32)) (HLS : Hid (48 ≤ ls)) (hls : ls ≤ 400) (HCS : Hid (48 ≤ cs)) (hF : Nums w .u8 (some ⟨gb, ob, none⟩) fi) (hX : Nums w .u8 (some ⟨gb, ob + 32, none⟩) s2) (HP : Hid (CallsTo 6 #[.agg (ints .u8 sk).toArray] (.agg (ints .u8 re).toArray))) (HA : Hid (∀ w, TabsH w → Calls Tryd.prog 10 #[.agg (ints .u8 sk).toArray, .agg (ints .u8 fi).toArray, .agg (ints .u8 fi).toArray, .agg (ints .u8 re).toArray] w fun e w' => e = .returned (.tuple #[.agg (ints .u8 K).toArray, .int .i64 0]) ∧ Below w.heap.size w w'))
    (HO : Hid (∀ w, Tabs w → Nums w .u8 (some ⟨gb, ob + 32, none⟩) s2 → Calls Tryd.prog 16 #[.agg (ints .u8 K).toArray, .agg (ints .u8 (zeros 12)).toArray, .slice none 0 0, .slice (some ⟨gb, ob + 32, none⟩) (ls - 32) (cs - 32)] w fun e w' => ∃ v, e = .returned v ∧ IsTupE m E x v w' ∧ Below w.heap.size w w')) :
    Calls Tryd.prog 7 #[.agg (ints .u8 sk).toArray, .slice (some ⟨gb, ob, none⟩) ls cs] w fun e w' => ∃ v, e = .returned v ∧ IsTupE m E x v w' ∧ Below w.heap.size w w' := by
  have h2 := (Arr.made w .u8 sk 22).rw
  have hW := (below_new w (.cells (ints .u8 sk).toArray 22))
  obtain ⟨z32, s32⟩ := zero_of_info infS32
  replace hT := hT.next hW
  replace hC := hC.next hW
  replace hF := hF.below hW
  replace hX := hX.below hW
  have g1 : ¬ (1048576 : Int) < (ls : Int) := by omega
  have g2 : ¬ (ls : Int) < 48 := by have := HLS.out; omega
  go_enter Tryd.func7, Tryd.ntmps7
  go_upto_region 5 with (fail)
  generalize (w.alloc (.cells (ints .u8 sk).toArray 22)) = w0 at *
  have s0 := hW.size
  refine region_seq2 5 38 (fun i => i == 4) [Is (.slice (some ⟨gb, ob, none⟩) ls cs), Is (.slice (some ⟨gb, ob, none⟩) 32 cs), Is (.pointer (some ⟨gb, ob, none⟩)), Is (.agg (ints .u8 fi).toArray), IsZV w0.heap.size (ints .u8 (hzeros 32))] [15, 16, 17, 18, 6] (by kernel_rfl) (by kernel_rfl) (Nat.le_of_eq rfl) (grows_cons (Is.grows _) (grows_cons (Is.grows _) (grows_cons (Is.grows _) (grows_cons (Is.grows _) (grows_cons (IsZV.grows _ _) grows_nil)))))
    ⟨step_mvP rfl (.inl rfl) rfl rfl (knows_out 1 (by kernel_rfl) rfl),
     step_one rfl (.inl rfl) (fun ev w h hc => ex_slSh (P := Tryd.prog) uaVs zeVs (h := 32) (by have := HCS.out; omega) rfl (.inr (by decide)) ev w h hc) rfl (knows_in 0 15 (by decide) (by kernel_rfl) rfl rfl),
     step_one rfl (.inl rfl) (fun ev w h hc => ex_arrP (P := Tryd.prog) Tryd.underlying22 (by decide) rfl ev w h hc) rfl (knows_in 1 16 (by decide) (by kernel_rfl) rfl rfl),
     step_ldV rfl (.inl rfl) (fun _ hw => (hF.below hw).range) rfl Tryd.underlying22 rfl (szV infS32 (il HF.out)) rfl (knows_in 2 17 (by decide) (by kernel_rfl) rfl rfl),
     step_allocV (.inl rfl) infS32 rfl rfl, trivial⟩ ?_
  intro val w1 hw hS hap hla
  have e15 : val 15 = (.slice (some ⟨gb, ob, none⟩) ls cs) := hS 0 15 (by decide) rfl
  have e16 : val 16 = (.slice (some ⟨gb, ob, none⟩) 32 cs) := hS 1 16 (by decide) rfl
  have e17 : val 17 = (.pointer (some ⟨gb, ob, none⟩)) := hS 2 17 (by decide) rfl
  have e18 : val 18 = (.agg (ints .u8 fi).toArray) := hS 3 18 (by decide) rfl
  obtain ⟨b6, e6, L6, Z6⟩ := hS 4 6 (by decide) rfl
  simp only [putVals, List.foldl_cons, List.foldl_nil, List.drop_succ_cons, List.drop_zero, Act.put, List.setIfInBounds_toArray, List.set_cons_succ, List.set_cons_zero, e15, e16, e17, e18, e6]
  clear hS hap hla e15 e16 e17 e18 e6 
  have LL6 := hid (show ((ints .u8 fi)).length = 32 from (il HF.out))
  have R6 := Z6.roomA (us := (ints .u8 fi)) (LL6.out.trans (zvH .u8 32).symm)
  have h6 := Z6.storedA (us := (ints .u8 fi)) (LL6.out.trans (zvH .u8 32).symm)
  replace h2 := h2.next (Below.setCells hw L6 0 (ints .u8 fi).toArray.toList)
  replace hT := hT.next (Below.setCells hw L6 0 (ints .u8 fi).toArray.toList)
  replace hC := hC.next (Below.setCells hw L6 0 (ints .u8 fi).toArray.toList)
  replace hF := hF.below (Below.setCells hw L6 0 (ints .u8 fi).toArray.toList)
  replace hX := hX.below (Below.setCells hw L6 0 (ints .u8 fi).toArray.toList)
  replace hW := hW.trans (Below.mono (Below.setCells hw L6 0 (ints .u8 fi).toArray.toList) hW.size)
  with_reducible refine wpList_store_mid (op := ⟨none, .store 22 (.tmp 6) (.tmp 18), _, _, _, _⟩) rfl 22 (.tmp 6) (.tmp 18) rfl b6 0 (ints .u8 fi).toArray rfl rfl R6 (szA infS32 LL6.out) (ints_all _ _) ?_
  generalize (w1.setCells b6 0 (ints .u8 fi).toArray.toList) = w2 at *
  clear hw R6 LL6 Z6 L6
  go_upto_region 6 with (fail)
  have s2 := hW.size
  refine region_early 10 38 (fun i => i == 9) [Is (.agg (ints .u8 sk).toArray), Is (.agg (ints .u8 fi).toArray), Is (.agg (ints .u8 fi).toArray), Is (.agg (ints .u8 sk).toArray), Is (.agg (ints .u8 re).toArray), Is (.tuple #[(.agg (ints .u8 K).toArray), (.int .i64 0)]), Is (.tuple #[(.agg (ints .u8 K).toArray), (.int .i64 0)]), Is (.agg (ints .u8 K).toArray), Is (.int .i64 0), IsZV w2.heap.size (ints .u8 (hzeros 32))] [20, 21, 22, 23, 24, 25, 19, 26, 27, 7] (by kernel_rfl) (by kernel_rfl) (by kernel_rfl) (Nat.le_of_eq rfl) (grows_cons (Is.grows _) (grows_cons (Is.grows _) (grows_cons (Is.grows _) (grows_cons (Is.grows _) (grows_cons (Is.grows _) (grows_cons (Is.grows _) (grows_cons (Is.grows _) (grows_cons (Is.grows _) (grows_cons (Is.grows _) (grows_cons (IsZV.grows _ _) grows_nil))))))))))
    ⟨step_ldV rfl (.inl rfl) (fun _ hw => (h2.next hw).range) rfl Tryd.underlying22 rfl (szV infS32 (il H1.out)) rfl (knows_out 2 (by kernel_rfl) rfl),
     step_ldV rfl (.inl rfl) (fun _ hw => (h6.next hw).range) rfl Tryd.underlying22 rfl (szV infS32 (il HF.out)) rfl (knows_out 6 (by kernel_rfl) rfl),
     step_ldV rfl (.inl rfl) (fun _ hw => (h6.next hw).range) rfl Tryd.underlying22 rfl (szV infS32 (il HF.out)) rfl (knows_out 6 (by kernel_rfl) rfl),
     step_ldV rfl (.inl rfl) (fun _ hw => (h2.next hw).range) rfl Tryd.underlying22 rfl (szV infS32 (il H1.out)) rfl (knows_out 2 (by kernel_rfl) rfl),
     step_to rfl (.inl rfl) rfl cxPubB HP.out rfl (one_arg (knows_in 3 23 (by decide) (by kernel_rfl) rfl rfl)),
     step_cw rfl (.inl rfl) rfl cxAgrB rfl (fun aa ww hw hf hd => ⟨_, (four_args (knows_in 0 20 (by decide) (by kernel_rfl) rfl rfl) (knows_in 1 21 (by decide) (by kernel_rfl) rfl rfl) (knows_in 2 22 (by decide) (by kernel_rfl) rfl rfl) (knows_in 4 24 (by decide) (by kernel_rfl) rfl rfl)) aa ww hw hf hd, HA.out ww (hT.next hw)⟩),
     step_mvP rfl (.inl rfl) rfl rfl (knows_in 5 25 (by decide) (by kernel_rfl) rfl rfl),
     step_fstZ rfl (.inl rfl) rfl rfl (knows_in 6 19 (by decide) (by kernel_rfl) rfl rfl),
     step_sndZ rfl (.inl rfl) rfl rfl (knows_in 6 19 (by decide) (by kernel_rfl) rfl rfl),
     step_allocV (.inl rfl) infS32 rfl rfl, trivial⟩
    22 7 26 (ints .u8 K).toArray _ rfl rfl rfl rfl 9 7 (by decide) (by decide) rfl rfl (by kernel_rfl) (by kernel_rfl) (fun v w ⟨b, h1, h2, h3⟩ => ⟨b, h1, h2, h3.roomA (us := ints .u8 K) ((il HK.out).trans (il (hz_len 32)).symm)⟩) (fun v w h => h) (szA infS32 (il HK.out)) (ints_all _ _)
    (fun i o hi ho hf => by
      have hc : i = 0 ∨ i = 1 ∨ i = 2 ∨ i = 3 ∨ i = 4 ∨ i = 5 ∨ i = 6 ∨ i = 7 ∨ i = 8 ∨ i = 9 := by omega
      rcases hc with e | e | e | e | e | e | e | e | e | e <;> subst e
      · exact (no_wait hf (by kernel_rfl)).elim
      · exact (no_wait hf (by kernel_rfl)).elim
      · exact (no_wait hf (by kernel_rfl)).elim
      · exact (no_wait hf (by kernel_rfl)).elim
      · exact (no_wait hf (by kernel_rfl)).elim
      · exact (no_wait hf (by kernel_rfl)).elim
      · exact (no_wait hf (by kernel_rfl)).elim
      · exact (no_wait hf (by kernel_rfl)).elim
      · injection ho with ho; subst ho
        exact ⟨rfl, free_sndB rfl rfl rfl (knows_in 6 19 (by decide) (by kernel_rfl) rfl rfl)⟩
      · exact (no_wait hf (by kernel_rfl)).elim)
    (fun i j hi hj hf hw v w w' h => by
      have hc : i = 0 ∨ i = 1 ∨ i = 2 ∨ i = 3 ∨ i = 4 ∨ i = 5 ∨ i = 6 ∨ i = 7 ∨ i = 8 ∨ i = 9 := by omega
      have hd : j = 0 ∨ j = 1 ∨ j = 2 ∨ j = 3 ∨ j = 4 ∨ j = 5 ∨ j = 6 ∨ j = 7 ∨ j = 8 ∨ j = 9 := by omega
      rcases hc with e | e | e | e | e | e | e | e | e | e <;> subst e
      · exact (no_wait hf (by kernel_rfl)).elim
      · exact (no_wait hf (by kernel_rfl)).elim
      · exact (no_wait hf (by kernel_rfl)).elim
      · exact (no_wait hf (by kernel_rfl)).elim
      · exact (no_wait hf (by kernel_rfl)).elim
      · exact (no_wait hf (by kernel_rfl)).elim
      · exact (no_wait hf (by kernel_rfl)).elim
      · exact (no_wait hf (by kernel_rfl)).elim
      · rcases hd with e | e | e | e | e | e | e | e | e | e <;> subst e
        · exact (no_wait2 hw (by kernel_rfl)).elim
        · exact (no_wait2 hw (by kernel_rfl)).elim
        · exact (no_wait2 hw (by kernel_rfl)).elim
        · exact (no_wait2 hw (by kernel_rfl)).elim
        · exact (no_wait2 hw (by kernel_rfl)).elim
        · exact (no_wait2 hw (by kernel_rfl)).elim
        · exact h
        · exact (no_wait2 hw (by kernel_rfl)).elim
        · exact (no_wait2 hw (by kernel_rfl)).elim
        · exact (no_wait2 hw (by kernel_rfl)).elim
      · exact (no_wait hf (by kernel_rfl)).elim) ?_
  intro val w3 bq hw hS hap hla hbq
  have e20 : val 20 = (.agg (ints .u8 sk).toArray) := hS 0 20 (by decide) rfl
  have e21 : val 21 = (.agg (ints .u8 fi).toArray) := hS 1 21 (by decide) rfl
  have e22 : val 22 = (.agg (ints .u8 fi).toArray) := hS 2 22 (by decide) rfl
  have e23 : val 23 = (.agg (ints .u8 sk).toArray) := hS 3 23 (by decide) rfl
  have e24 : val 24 = (.agg (ints .u8 re).toArray) := hS 4 24 (by decide) rfl
  have e25 : val 25 = (.tuple #[(.agg (ints .u8 K).toArray), (.int .i64 0)]) := hS 5 25 (by decide) rfl
  have e19 : val 19 = (.tuple #[(.agg (ints .u8 K).toArray), (.int .i64 0)]) := hS 6 19 (by decide) rfl
  have e26 : val 26 = (.agg (ints .u8 K).toArray) := hS 7 26 (by decide) rfl
  have e27 : val 27 = (.int .i64 0) := hS 8 27 (by decide) rfl
  obtain ⟨b7, e7, L7, Z7⟩ := hS 9 7 (by decide) rfl
  have eb : b7 = bq := by
    rw [e7] at hbq
    injection hbq with h
    injection h with h
    injection h
  subst eb
  clear hbq
  simp only [putVals, List.foldl_cons, List.foldl_nil, List.drop_succ_cons, List.drop_zero, Act.put, List.setIfInBounds_toArray, List.set_cons_succ, List.set_cons_zero, e20, e21, e22, e23, e24, e25, e19, e26, e27, e7]
  clear hS hap hla e20 e21 e22 e23 e24 e25 e19 e26 e27 e7 
  have LL7 := hid (show ((ints .u8 K)).length = 32 from (il HK.out))
  have R7 := Z7.roomA (us := (ints .u8 K)) (LL7.out.trans (zvH .u8 32).symm)
  have h7 := Z7.storedA (us := (ints .u8 K)) (LL7.out.trans (zvH .u8 32).symm)
  replace h2 := h2.next (Below.setCells hw L7 0 (ints .u8 K).toArray.toList)
  replace hT := hT.next (Below.setCells hw L7 0 (ints .u8 K).toArray.toList)
  replace hC := hC.next (Below.setCells hw L7 0 (ints .u8 K).toArray.toList)
  replace hF := hF.below (Below.setCells hw L7 0 (ints .u8 K).toArray.toList)
  replace hX := hX.below (Below.setCells hw L7 0 (ints .u8 K).toArray.toList)
  replace h6 := h6.next (Below.setCells hw L7 0 (ints .u8 K).toArray.toList)
  replace hW := hW.trans (Below.mono (Below.setCells hw L7 0 (ints .u8 K).toArray.toList) hW.size)
  generalize (w3.setCells b7 0 (ints .u8 K).toArray.toList) = w4 at *
  clear hw R7 LL7 Z7 L7
  go_wp2_with (fail)
  have s4 := hW.size
  refine region_spec2 8 38 (fun _ => false) [Is (.agg (ints .u8 K).toArray), Is (.agg (ints .u8 (zeros 12)).toArray), Is (.slice (some ⟨gb, ob, none⟩) ls cs), Is (.slice (some ⟨gb, ob + 32, none⟩) (ls - 32) (cs - 32)), IsTupE m E x, IsRw .u8 m x, Is (.int .i64 E), IsRw .u8 m x] [31, 32, 33, 34, 35, 36, 37, 4] (by kernel_rfl) (by kernel_rfl) (by kernel_rfl) (Nat.le_of_eq rfl) (grows_cons (Is.grows _) (grows_cons (Is.grows _) (grows_cons (Is.grows _) (grows_cons (Is.grows _) (grows_cons (IsTupE.grows _ _ _) (grows_cons (IsRw.grows _ _ _) (grows_cons (Is.grows _) (grows_cons (IsRw.grows _ _ _) grows_nil))))))))
    ⟨step_ldV rfl (.inl rfl) (fun _ hw => (h7.next hw).range) rfl Tryd.underlying22 rfl (szV infS32 (il HK.out)) rfl (knows_out 7 (by kernel_rfl) rfl),
     step_to0 rfl (.inl rfl) rfl cxNonB nonce_any rfl,
     step_mvP rfl (.inl rfl) rfl rfl (knows_out 1 (by kernel_rfl) rfl),
     step_one rfl (.inl rfl) (fun ev w h hc => ex_slSl (P := Tryd.prog) uaVs zeVs (l := 32) (by have := HLS.out; omega) (by have := HCS.out; omega) rfl rfl rfl rfl ev w h hc) rfl (knows_in 2 33 (by decide) (by kernel_rfl) rfl rfl),
     step_callR rfl (.inl rfl) rfl cxOpeB rfl (fun aa ww hw hf hd => ⟨_, (four_args (knows_in 0 31 (by decide) (by kernel_rfl) rfl rfl) (knows_in 1 32 (by decide) (by kernel_rfl) rfl rfl) (knows_const _) (knows_in 3 34 (by decide) (by kernel_rfl) rfl rfl)) aa ww hw hf hd, HO.out ww (hC.next hw) (hX.below hw)⟩),
     tupE_fst rfl (.inl rfl) rfl rfl (knowsW_in 4 35 (by decide) (by kernel_rfl) rfl rfl),
     tupE_snd rfl (.inl rfl) rfl rfl (knowsW_in 4 35 (by decide) (by kernel_rfl) rfl rfl),
     step_copyW rfl (.inl rfl) 5 36 (.inr rfl) rfl (by decide) (by kernel_rfl) rfl rfl, trivial⟩ ?_
  intro val w5 hw hS hap hla
  have e31 : val 31 = (.agg (ints .u8 K).toArray) := hS 0 31 (by decide) rfl
  have e32 : val 32 = (.agg (ints .u8 (zeros 12)).toArray) := hS 1 32 (by decide) rfl
  have e33 : val 33 = (.slice (some ⟨gb, ob, none⟩) ls cs) := hS 2 33 (by decide) rfl
  have e34 : val 34 = (.slice (some ⟨gb, ob + 32, none⟩) (ls - 32) (cs - 32)) := hS 3 34 (by decide) rfl
  have e37 : val 37 = (.int .i64 E) := hS 6 37 (by decide) rfl
  obtain ⟨B4, c4, e4, N4⟩ := hS 7 4 (by decide) rfl
  simp only [putVals, List.foldl_cons, List.foldl_nil, List.drop_succ_cons, List.drop_zero, Act.put, List.setIfInBounds_toArray, List.set_cons_succ, List.set_cons_zero, e31, e32, e33, e34, e37, e4]
  generalize val 35 = g35
  generalize val 36 = g36
  clear hS hap hla e31 e32 e33 e34 e37 e4 
  replace h2 := h2.next hw
  replace hT := hT.next hw
  replace hC := hC.next hw
  replace hF := hF.below hw
  replace hX := hX.below hw
  replace h6 := h6.next hw
  replace h7 := h7.next hw
  replace hW := hW.trans (Below.mono hw hW.size)
  clear hw
  go_wp2_with (fail)
  go_ret2
  exact ⟨_, rfl, ⟨B4, c4, rfl, N4⟩, hW⟩
end Go.Proofs.YtkblmdakejmmhaaDoor
