import Derived.Test.YthpibkpljakeeaaGreatDoorG7
import Derived.Test.YthpibkpljakeeaaGreatDoorG25
namespace Go.Proofs.YthpibkpljakeeaaGreatDoor
open Go Go.RowKit
theorem map3v (f : Operand → Value) (x y z : Operand) : #[x, y, z].map f = #[f x, f y, f z] := by simp
theorem verify_back {sd tx : List Int} {A : Option Addr} {m c b2 o2 c2 : Nat} {w : World} (hc2 : 64 ≤ c2) (hxl : tx.length = m) (hxc : m ≤ c) (hx3 : m ≤ 1000) (hxb : Byt tx) (hT : TabsA w) (hX : Nums w .u8 A tx) (hG : Nums w .u8 (some ⟨b2, o2, none⟩) (sigL sd tx)) : Calls Tryz.prog 13 #[.agg (ints .u8 (pubL sd)).toArray, .slice A m c, .slice (some ⟨b2, o2, none⟩) 64 c2] w fun e w' => e = .returned (.int .i64 0) ∧ Below w.heap.size w w' := by
 obtain ⟨r, kof, hr⟩ := of_point (timesB_on (numL sd))
 have h := verify_any (rr := r) (P := timesB (numL sd)) (pk := pubL sd) (tx := tx) (fi := firstL sd tx) (se := secondL sd tx) (m := m) (c := c) (c2 := c2) (pubL_len sd) (bytesP_byt _) (firstL_len _ _) (bytesP_byt _) (secondL_len _ _) (second_byt _ _) hc2 hxl hxc hx3 hxb hr kof hT hX hG
 rw [ver_back] at h
 exact h
theorem built64z : Tryz.prog.built 29 [] = some (ints .u8 (zeros 64)).toArray := by kernel_rfl
def twoL : List Int := [2]
theorem two_byt : Byt twoL := fun x hx => by
 simp only [twoL, List.mem_singleton] at hx
 subst hx; exact ⟨by omega, by omega⟩
set_option maxRecDepth 8000 in
set_option maxHeartbeats 8000000 in
theorem awake_core {sg pk : List Int} (HSG : Hid (sg.length = 64)) (HSGB : Hid (Byt sg)) (HPK : Hid (pk.length = 32)) (HNZ : Hid (decide (sg = zeros 64) = false)) (kpub : CallsA 9 #[.agg (ints .u8 oneQ).toArray] (.agg (ints .u8 pk).toArray))
   (KS : Hid (∀ w b, TabsA w → Rw w b 0 [.int .u8 2] → Calls Tryz.prog 8 #[.agg (ints .u8 oneQ).toArray, .slice (some ⟨b, 0, none⟩) 1 1] w fun e w' => e = .returned (.agg (ints .u8 sg).toArray) ∧ Below w.heap.size w w'))
   (KV : Hid (∀ w b b2, TabsA w → Rw w b 0 [.int .u8 2] → Nums w .u8 (some ⟨b2, 0, none⟩) sg → Calls Tryz.prog 13 #[.agg (ints .u8 pk).toArray, .slice (some ⟨b, 0, none⟩) 1 1, .slice (some ⟨b2, 0, none⟩) 64 64] w fun e w' => e = .returned (.int .i64 0) ∧ Below w.heap.size w w')) : CallsA 4 #[] (.bool true) := by
 intro w0 hT
 have hW := Below.refl w0.heap.size w0
 go_enter Tryz.func4, Tryz.ntmps4
 go_upto_region 1 with (fail)
 have s0 := hW.size
 refine rSeq 4 18 (fun i => i == 1 || i == 3) [Is (.agg (ints .u8 oneQ).toArray), IsRowV w0.heap.size 1 [(.int .u8 2)], Is (.agg (ints .u8 sg).toArray), IsZV w0.heap.size (ints .u8 (zeros 64))] [2, 3, 4, 1] (gC (grows_cons (IsRowV.grows _ _ _) (gC (grows_cons (IsZV.grows _ _) grows_nil))))
   ⟨step_buildP rfl (.inl rfl) rfl builtQ_one rfl (parts1 (knows_const _)),
    step_bsl (.inl rfl) rfl Tryz.underlying23 infB (by decide) (by decide) (vs := [(.int .u8 2)]) (by kernel_rfl) rfl (parts1 (knows_const _)),
    step_cw rfl (.inl rfl) rfl cx8 rfl (fun aa ww hw hf hd => by
      obtain ⟨b, e, _, hR⟩ := ((knowsW_in 1 3 (by decide) (by kernel_rfl) rfl rfl) : KnowsW _ _ _ _ _ _ _ _ (IsRowV _ 1 [(.int .u8 2)])) aa ww hw hf hd
      exact ⟨_, by rw [map2, (kI 0 2 rfl rfl) aa ww hw hf hd, e], KS.out ww b (hT.next hw) hR⟩),
    step_allocV (.inl rfl) inf64 rfl rfl, trivial⟩ ?_
 intro val w1 hw hS hap hla
 have e2 := eVal hS 0 2 rfl rfl
 obtain ⟨b3, e3, L3, Z3⟩ := hS 1 3 (by decide) rfl
 have e4 := eVal hS 2 4 rfl rfl
 obtain ⟨b1, e1, L1, Z1⟩ := hS 3 1 (by decide) rfl
 simp only [pA, pB, pC, pD, pE, Act.put, pG, pH, pI, e2, e3, e4, e1]
 clear hS hap hla e2 e3 e4 e1 L3 Z3
 have LL1 := hid (show ((ints .u8 sg)).length = 64 from (il HSG.out))
 have R1 := Z1.roomA (us := (ints .u8 sg)) (LL1.out.trans (zv .u8 64).symm)
 have h1 := Z1.storedA (us := (ints .u8 sg)) (LL1.out.trans (zv .u8 64).symm)
 have hu := Below.setCells hw L1 0 (ints .u8 sg).toArray.toList
 replace hT := hT.next hu
 replace hW := bT hW hu
 clear hu
 with_reducible refine wpList_store_mid (op := ⟨none, .store 29 (.tmp 1) (.tmp 4), _, _, _, _⟩) rfl 29 (.tmp 1) (.tmp 4) rfl b1 0 (ints .u8 sg).toArray rfl rfl R1 (szA inf64 LL1.out) (ints_all _ _) ?_
 generalize (w1.setCells b1 0 (ints .u8 sg).toArray.toList) = w2 at *
 clear hw R1 LL1 Z1 L1
 go_wp2_with (fail)
 have s2 := hW.size
 refine rSpec 13 18 (fun i => i == 8) [Is (.bool true), Is (.agg (ints .u8 sg).toArray), Is (.agg (ints .u8 (zeros 64)).toArray), Is (.bool true), Is (.bool true), Is (.bool true), Is (.agg (ints .u8 oneQ).toArray), Is (.agg (ints .u8 pk).toArray), IsRowV w2.heap.size 1 [(.int .u8 2)], Is (.slice (some ⟨b1, 0, none⟩) 64 64), Is (.int .i64 0), Is (.bool true), Is (.bool true)] [5, 6, 7, 8, 9, 10, 11, 12, 13, 14, 15, 16, 17] (gC (gC (gC (gC (gC (gC (gC (gC (grows_cons (IsRowV.grows _ _ _) (gC (gC (gC (gC grows_nil)))))))))))))
   ⟨step_mvP rfl (.inl rfl) rfl rfl (knows_const _),
    step_ldV rfl (gN 0 true 5 rfl rfl rfl) (fun _ hw => (h1.next hw).range) rfl Tryz.underlying29 rfl (szV inf64 (il HSG.out)) rfl (kO 1 rfl),
    step_buildP rfl (gN 0 true 5 rfl rfl rfl) rfl built64z rfl (partsN),
    step_neA rfl (gN 0 true 5 rfl rfl rfl) rfl eq64 HSG.out (zeros_len 64) HNZ.out rfl (kI 1 6 rfl rfl) (kI 2 7 rfl rfl),
    step_pick rfl (.inl rfl) (b := true) rfl rfl (kI 0 5 rfl rfl) (kI 3 8 rfl rfl),
    step_mvP rfl (.inl rfl) rfl rfl (kI 4 9 rfl rfl),
    step_buildP rfl (gN 5 true 10 rfl rfl rfl) rfl builtQ_one rfl (parts1 (knows_const _)),
    step_toA rfl (gN 5 true 10 rfl rfl rfl) rfl cx9 hT kpub rfl (one_arg (kI 6 11 rfl rfl)),
    step_bsl (gN 5 true 10 rfl rfl rfl) rfl Tryz.underlying23 infB (by decide) (by decide) (vs := [(.int .u8 2)]) (by kernel_rfl) rfl (parts1 (knows_const _)),
    step_one rfl (gN 5 true 10 rfl rfl rfl) (fun ev w h hc => ex_slA (P := Tryz.prog) u64 z64 (m := 64) rfl rfl ev w h hc) rfl (kO 1 rfl),
    step_cw rfl (gN 5 true 10 rfl rfl rfl) rfl cx13 rfl (fun aa ww hw hf hd => by
      obtain ⟨b, e, _, hR⟩ := ((knowsW_in 8 13 (by decide) (by kernel_rfl) rfl rfl) : KnowsW _ _ _ _ _ _ _ _ (IsRowV _ 1 [(.int .u8 2)])) aa ww hw hf hd
      exact ⟨_, by rw [map3v, (kI 7 12 rfl rfl) aa ww hw hf hd, e, (kI 9 14 rfl rfl) aa ww hw hf hd], KV.out ww b b1 (hT.next hw) hR ((h1.next hw).nums)⟩),
    step_eqC rfl (gN 5 true 10 rfl rfl rfl) rfl Tryz.underlying26 rfl (by decide) (kI 10 15 rfl rfl),
    step_pick rfl (.inl rfl) (b := true) rfl rfl (kI 5 10 rfl rfl) (kI 11 16 rfl rfl), trivial⟩ ?_
 intro val w3 hw hS hap hla
 have e5 := eVal hS 0 5 rfl rfl
 have e6 := eVal hS 1 6 rfl rfl
 have e7 := eVal hS 2 7 rfl rfl
 have e8 := eVal hS 3 8 rfl rfl
 have e9 := eVal hS 4 9 rfl rfl
 have e10 := eVal hS 5 10 rfl rfl
 have e11 := eVal hS 6 11 rfl rfl
 have e12 := eVal hS 7 12 rfl rfl
 obtain ⟨b13, e13, L13, Z13⟩ := hS 8 13 (by decide) rfl
 have e14 := eVal hS 9 14 rfl rfl
 have e15 := eVal hS 10 15 rfl rfl
 have e16 := eVal hS 11 16 rfl rfl
 have e17 := eVal hS 12 17 rfl rfl
 simp only [pA, pB, pC, pD, pE, Act.put, pG, pH, pI, e5, e6, e7, e8, e9, e10, e11, e12, e13, e14, e15, e16, e17]
 clear hS hap hla e5 e6 e7 e8 e9 e10 e11 e12 e13 e14 e15 e16 e17 L13 Z13
 replace hT := hT.next hw
 replace h1 := h1.next hw
 replace hW := bT hW hw
 clear hw
 go_wp2_with (fail)
 go_ret
 exact ⟨rfl, hW⟩
theorem sigL_byt (sd tx : List Int) : Byt (sigL sd tx) := fun x hx => by
 unfold sigL at hx
 rcases List.mem_append.1 hx with h | h
 · exact bytesP_byt _ x h
 · exact second_byt _ _ x h
theorem awake_any : CallsA 4 #[] (.bool true) :=
 awake_core (sg := sigL oneQ twoL) (pk := pubL oneQ) (hid (sigL_len _ _)) (hid (sigL_byt _ _)) (hid (pubL_len _)) (hid (decide_eq_false (sig_nz _ _))) (pub_any oneQ_len one_byt)
   (hid fun w b hT hR => sign_any (tx := twoL) oneQ_len one_byt rfl (by decide) (by decide) two_byt w hT (Rw.nums (xs := twoL) hR))
   (hid fun w b b2 hT hR hG => verify_back (tx := twoL) (by decide) rfl (by decide) (by decide) two_byt hT (Rw.nums (xs := twoL) hR) hG)
end Go.Proofs.YthpibkpljakeeaaGreatDoor
