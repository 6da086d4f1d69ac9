/- Texts of this proof, laid together: SgW, SgB. -/
import Derived.Test.YthpibkpljakeeaaDoorG22
/- The chapter's example. -/
namespace Go.Proofs.YthpibkpljakeeaaDoor
open Go Go.RowKit

theorem map3v (f : Operand → Value) (x y z : Operand) : #[x, y, z].map f = #[f x, f y, f z] := by simp
/-- What was signed is verified. -/
theorem verify_back {sd tx : List Int} {A : Option Addr} {m c b2 o2 c2 : Nat} {w : World} (hc2 : 64 ≤ c2) (hxl : tx.length = m) (hxc : m ≤ c) (hx3 : m ≤ 1000) (hxb : Byt tx) (hT : TabsA w) (hX : Nums w .u8 A tx) (hG : Nums w .u8 (some ⟨b2, o2, none⟩) (sigL sd tx)) : Calls Tryd.prog 6 #[.agg (ints .u8 (pubL sd)).toArray, .slice A m c, .slice (some ⟨b2, o2, none⟩) 64 c2] w fun e w' => e = .returned (.int .i64 0) ∧ Below w.heap.size w w' := by
  obtain ⟨r, kof, hr⟩ := of_point (timesB_on (numL sd))
  have h := verify_any (rr := r) (P := timesB (numL sd)) (pk := pubL sd) (tx := tx) (fi := firstL sd tx) (se := secondL sd tx) (m := m) (c := c) (c2 := c2) (pubL_len sd) (bytesP_byt _) (firstL_len _ _) (bytesP_byt _) (secondL_len _ _) (second_byt _ _) hc2 hxl hxc hx3 hxb hr kof hT hX hG
  rw [ver_back] at h
  exact h
theorem verify_turned {sd tx se : List Int} (hl : se.length = 32) (hb : Byt se) (hne : se ≠ secondL sd tx) {A : Option Addr} {m c b2 o2 c2 : Nat} {w : World} (hc2 : 64 ≤ c2) (hxl : tx.length = m) (hxc : m ≤ c) (hx3 : m ≤ 1000) (hxb : Byt tx) (hT : TabsA w) (hX : Nums w .u8 A tx) (hG : Nums w .u8 (some ⟨b2, o2, none⟩) (firstL sd tx ++ se)) : Calls Tryd.prog 6 #[.agg (ints .u8 (pubL sd)).toArray, .slice A m c, .slice (some ⟨b2, o2, none⟩) 64 c2] w fun e w' => e = .returned (.int .i64 22) ∧ Below w.heap.size w w' := by
  obtain ⟨r, kof, hr⟩ := of_point (timesB_on (numL sd))
  have h := verify_any (rr := r) (P := timesB (numL sd)) (pk := pubL sd) (tx := tx) (fi := firstL sd tx) (se := se) (m := m) (c := c) (c2 := c2) (pubL_len sd) (bytesP_byt _) (firstL_len _ _) (bytesP_byt _) hl hb hc2 hxl hxc hx3 hxb hr kof hT hX hG
  rw [ver_other hl hb hne] at h
  exact h
theorem built64z : Tryd.prog.built 46 [] = some (ints .u8 (zeros 64)).toArray := by kernel_rfl
def twoL : List Int := [2]
theorem two_byt : Byt twoL := fun x hx => by
  simp only [twoL, List.mem_singleton] at hx
  subst hx; exact ⟨by omega, by omega⟩
set_option maxRecDepth 8000 in
set_option maxHeartbeats 8000000 in
theorem awake_core {sg pk : List Int} (HSG : Hid (sg.length = 64)) (HSGB : Hid (Byt sg)) (HPK : Hid (pk.length = 32)) (HNZ : Hid (decide (sg = zeros 64) = false)) (kpub : CallsA 17 #[.agg (ints .u8 oneQ).toArray] (.agg (ints .u8 pk).toArray))
    (KS : Hid (∀ w b, TabsA w → Rw w b 0 [.int .u8 2] → Calls Tryd.prog 16 #[.agg (ints .u8 oneQ).toArray, .slice (some ⟨b, 0, none⟩) 1 1] w fun e w' => e = .returned (.agg (ints .u8 sg).toArray) ∧ Below w.heap.size w w'))
    (KV : Hid (∀ w b b2, TabsA w → Rw w b 0 [.int .u8 2] → Nums w .u8 (some ⟨b2, 0, none⟩) sg → Calls Tryd.prog 6 #[.agg (ints .u8 pk).toArray, .slice (some ⟨b, 0, none⟩) 1 1, .slice (some ⟨b2, 0, none⟩) 64 64] w fun e w' => e = .returned (.int .i64 0) ∧ Below w.heap.size w w')) : CallsA 5 #[] (.bool true) := by
  intro w0 hT
  have hW := Below.refl w0.heap.size w0
  go_enter Tryd.func5, Tryd.ntmps5
  go_upto_region 1 with (fail)
  have s0 := hW.size
  refine region_seq2 4 18 (fun i => i == 1 || i == 3) [Is (.agg (ints .u8 oneQ).toArray), IsRowV w0.heap.size 1 [(.int .u8 2)], Is (.agg (ints .u8 sg).toArray), IsZV w0.heap.size (ints .u8 (zeros 64))] [2, 3, 4, 1] (by kernel_rfl) (by kernel_rfl) (Nat.le_of_eq rfl) (grows_cons (Is.grows _) (grows_cons (IsRowV.grows _ _ _) (grows_cons (Is.grows _) (grows_cons (IsZV.grows _ _) grows_nil))))
    ⟨step_buildP rfl (.inl rfl) rfl builtQ_one rfl (parts1 (knows_const _)),
     step_bsl (.inl rfl) rfl Tryd.underlying23 infB (by decide) (by decide) (vs := [(.int .u8 2)]) (by kernel_rfl) rfl (parts1 (knows_const _)),
     step_cw rfl (.inl rfl) rfl cx16 rfl (fun aa ww hw hf hd => by
       obtain ⟨b, e, _, hR⟩ := ((knowsW_in 1 3 (by decide) (by kernel_rfl) rfl rfl) : KnowsW _ _ _ _ _ _ _ _ (IsRowV _ 1 [(.int .u8 2)])) aa ww hw hf hd
       exact ⟨_, by rw [map2, (knows_in 0 2 (by decide) (by kernel_rfl) rfl rfl) aa ww hw hf hd, e], KS.out ww b (hT.next hw) hR⟩),
     step_allocV (.inl rfl) inf64 rfl rfl, trivial⟩ ?_
  intro val w1 hw hS hap hla
  have e2 : val 2 = (.agg (ints .u8 oneQ).toArray) := hS 0 2 (by decide) rfl
  obtain ⟨b3, e3, L3, Z3⟩ := hS 1 3 (by decide) rfl
  have e4 : val 4 = (.agg (ints .u8 sg).toArray) := hS 2 4 (by decide) rfl
  obtain ⟨b1, e1, L1, Z1⟩ := hS 3 1 (by decide) rfl
  simp only [putVals, List.foldl_cons, List.foldl_nil, List.drop_succ_cons, List.drop_zero, Act.put, List.setIfInBounds_toArray, List.set_cons_succ, List.set_cons_zero, e2, e3, e4, e1]
  clear hS hap hla e2 e3 e4 e1 L3 Z3
  have LL1 := hid (show ((ints .u8 sg)).length = 64 from (il HSG.out))
  have R1 := Z1.roomA (us := (ints .u8 sg)) (LL1.out.trans (zv .u8 64).symm)
  have h1 := Z1.storedA (us := (ints .u8 sg)) (LL1.out.trans (zv .u8 64).symm)
  replace hT := hT.next (Below.setCells hw L1 0 (ints .u8 sg).toArray.toList)
  replace hW := hW.trans (Below.mono (Below.setCells hw L1 0 (ints .u8 sg).toArray.toList) hW.size)
  with_reducible refine wpList_store_mid (op := ⟨none, .store 46 (.tmp 1) (.tmp 4), _, _, _, _⟩) rfl 46 (.tmp 1) (.tmp 4) rfl b1 0 (ints .u8 sg).toArray rfl rfl R1 (szA inf64 LL1.out) (ints_all _ _) ?_
  generalize (w1.setCells b1 0 (ints .u8 sg).toArray.toList) = w2 at *
  clear hw R1 LL1 Z1 L1
  go_wp2_with (fail)
  have s2 := hW.size
  refine region_spec2 13 18 (fun i => i == 8) [Is (.bool true), Is (.agg (ints .u8 sg).toArray), Is (.agg (ints .u8 (zeros 64)).toArray), Is (.bool true), Is (.bool true), Is (.bool true), Is (.agg (ints .u8 oneQ).toArray), Is (.agg (ints .u8 pk).toArray), IsRowV w2.heap.size 1 [(.int .u8 2)], Is (.slice (some ⟨b1, 0, none⟩) 64 64), Is (.int .i64 0), Is (.bool true), Is (.bool true)] [5, 6, 7, 8, 9, 10, 11, 12, 13, 14, 15, 16, 17] (by kernel_rfl) (by kernel_rfl) (by kernel_rfl) (Nat.le_of_eq rfl) (grows_cons (Is.grows _) (grows_cons (Is.grows _) (grows_cons (Is.grows _) (grows_cons (Is.grows _) (grows_cons (Is.grows _) (grows_cons (Is.grows _) (grows_cons (Is.grows _) (grows_cons (Is.grows _) (grows_cons (IsRowV.grows _ _ _) (grows_cons (Is.grows _) (grows_cons (Is.grows _) (grows_cons (Is.grows _) (grows_cons (Is.grows _) grows_nil)))))))))))))
    ⟨step_mvP rfl (.inl rfl) rfl rfl (knows_const _),
     step_ldV rfl (.inr ⟨0, true, 5, rfl, by decide, by kernel_rfl, rfl, fun _ _ h => h⟩) (fun _ hw => (h1.next hw).range) rfl Tryd.underlying46 rfl (szV inf64 (il HSG.out)) rfl (knows_out 1 (by kernel_rfl) rfl),
     step_buildP rfl (.inr ⟨0, true, 5, rfl, by decide, by kernel_rfl, rfl, fun _ _ h => h⟩) rfl built64z rfl (partsN),
     step_neA rfl (.inr ⟨0, true, 5, rfl, by decide, by kernel_rfl, rfl, fun _ _ h => h⟩) rfl eq64 HSG.out (zeros_len 64) HNZ.out rfl (knows_in 1 6 (by decide) (by kernel_rfl) rfl rfl) (knows_in 2 7 (by decide) (by kernel_rfl) rfl rfl),
     step_pick rfl (.inl rfl) (b := true) rfl rfl (knows_in 0 5 (by decide) (by kernel_rfl) rfl rfl) (knows_in 3 8 (by decide) (by kernel_rfl) rfl rfl),
     step_mvP rfl (.inl rfl) rfl rfl (knows_in 4 9 (by decide) (by kernel_rfl) rfl rfl),
     step_buildP rfl (.inr ⟨5, true, 10, rfl, by decide, by kernel_rfl, rfl, fun _ _ h => h⟩) rfl builtQ_one rfl (parts1 (knows_const _)),
     step_toA rfl (.inr ⟨5, true, 10, rfl, by decide, by kernel_rfl, rfl, fun _ _ h => h⟩) rfl cx17 hT kpub rfl (one_arg (knows_in 6 11 (by decide) (by kernel_rfl) rfl rfl)),
     step_bsl (.inr ⟨5, true, 10, rfl, by decide, by kernel_rfl, rfl, fun _ _ h => h⟩) rfl Tryd.underlying23 infB (by decide) (by decide) (vs := [(.int .u8 2)]) (by kernel_rfl) rfl (parts1 (knows_const _)),
     step_one rfl (.inr ⟨5, true, 10, rfl, by decide, by kernel_rfl, rfl, fun _ _ h => h⟩) (fun ev w h hc => ex_slA (P := Tryd.prog) u64 z64 (m := 64) rfl rfl ev w h hc) rfl (knows_out 1 (by kernel_rfl) rfl),
     step_cw rfl (.inr ⟨5, true, 10, rfl, by decide, by kernel_rfl, rfl, fun _ _ h => h⟩) rfl cx6 rfl (fun aa ww hw hf hd => by
       obtain ⟨b, e, _, hR⟩ := ((knowsW_in 8 13 (by decide) (by kernel_rfl) rfl rfl) : KnowsW _ _ _ _ _ _ _ _ (IsRowV _ 1 [(.int .u8 2)])) aa ww hw hf hd
       exact ⟨_, by rw [map3v, (knows_in 7 12 (by decide) (by kernel_rfl) rfl rfl) aa ww hw hf hd, e, (knows_in 9 14 (by decide) (by kernel_rfl) rfl rfl) aa ww hw hf hd], KV.out ww b b1 (hT.next hw) hR ((h1.next hw).nums)⟩),
     step_eqC rfl (.inr ⟨5, true, 10, rfl, by decide, by kernel_rfl, rfl, fun _ _ h => h⟩) rfl Tryd.underlying25 rfl (by decide) (knows_in 10 15 (by decide) (by kernel_rfl) rfl rfl),
     step_pick rfl (.inl rfl) (b := true) rfl rfl (knows_in 5 10 (by decide) (by kernel_rfl) rfl rfl) (knows_in 11 16 (by decide) (by kernel_rfl) rfl rfl), trivial⟩ ?_
  intro val w3 hw hS hap hla
  have e5 : val 5 = (.bool true) := hS 0 5 (by decide) rfl
  have e6 : val 6 = (.agg (ints .u8 sg).toArray) := hS 1 6 (by decide) rfl
  have e7 : val 7 = (.agg (ints .u8 (zeros 64)).toArray) := hS 2 7 (by decide) rfl
  have e8 : val 8 = (.bool true) := hS 3 8 (by decide) rfl
  have e9 : val 9 = (.bool true) := hS 4 9 (by decide) rfl
  have e10 : val 10 = (.bool true) := hS 5 10 (by decide) rfl
  have e11 : val 11 = (.agg (ints .u8 oneQ).toArray) := hS 6 11 (by decide) rfl
  have e12 : val 12 = (.agg (ints .u8 pk).toArray) := hS 7 12 (by decide) rfl
  obtain ⟨b13, e13, L13, Z13⟩ := hS 8 13 (by decide) rfl
  have e14 : val 14 = (.slice (some ⟨b1, 0, none⟩) 64 64) := hS 9 14 (by decide) rfl
  have e15 : val 15 = (.int .i64 0) := hS 10 15 (by decide) rfl
  have e16 : val 16 = (.bool true) := hS 11 16 (by decide) rfl
  have e17 : val 17 = (.bool true) := hS 12 17 (by decide) rfl
  simp only [putVals, List.foldl_cons, List.foldl_nil, List.drop_succ_cons, List.drop_zero, Act.put, List.setIfInBounds_toArray, List.set_cons_succ, List.set_cons_zero, e5, e6, e7, e8, e9, e10, e11, e12, e13, e14, e15, e16, e17]
  clear hS hap hla e5 e6 e7 e8 e9 e10 e11 e12 e13 e14 e15 e16 e17 L13 Z13
  replace hT := hT.next hw
  replace h1 := h1.next hw
  replace hW := hW.trans (Below.mono hw hW.size)
  clear hw
  go_wp2_with (fail)
  go_ret
  exact ⟨rfl, hW⟩
theorem sigL_byt (sd tx : List Int) : Byt (sigL sd tx) := fun x hx => by
  unfold sigL at hx
  rcases List.mem_append.1 hx with h | h
  · exact bytesP_byt _ x h
  · exact second_byt _ _ x h
theorem awake_any : CallsA 5 #[] (.bool true) :=
  awake_core (sg := sigL oneQ twoL) (pk := pubL oneQ) (hid (sigL_len _ _)) (hid (sigL_byt _ _)) (hid (pubL_len _)) (hid (decide_eq_false (sig_nz _ _))) (pub_any oneQ_len one_byt)
    (hid fun w b hT hR => sign_any (tx := twoL) oneQ_len one_byt rfl (by decide) (by decide) two_byt w hT (Rw.nums (xs := twoL) hR))
    (hid fun w b b2 hT hR hG => verify_back (tx := twoL) (by decide) rfl (by decide) (by decide) two_byt hT (Rw.nums (xs := twoL) hR) hG)
end Go.Proofs.YthpibkpljakeeaaDoor

/- What is signed holds for that text and key: the law. -/
namespace Go.Proofs.YthpibkpljakeeaaDoor
open Go Go.RowKit

set_option maxRecDepth 8000 in
set_option maxHeartbeats 8000000 in
theorem sb_core {sd tx pk fi se : List Int} {A : Option Addr} {m c : Nat} {bt : Nat} (HBT : Hid (bt < 256)) (HSD : Hid (sd.length = 32)) (HSG : Hid ((fi ++ se).length = 64)) (HSGB : Hid (Byt (fi ++ se))) (HPK : Hid (pk.length = 32)) (hm : ¬ (300 : Int) < (m : Int))
    (KS : Hid (∀ w, TabsA w → Nums w .u8 A tx → Calls Tryd.prog 16 #[.agg (ints .u8 sd).toArray, .slice A m c] w fun e w' => e = .returned (.agg (ints .u8 (fi ++ se)).toArray) ∧ Below w.heap.size w w'))
    (kpub : CallsA 17 #[.agg (ints .u8 sd).toArray] (.agg (ints .u8 pk).toArray))
    (KV : Hid (∀ w b2, TabsA w → Nums w .u8 A tx → Nums w .u8 (some ⟨b2, 0, none⟩) (fi ++ se) → Calls Tryd.prog 6 #[.agg (ints .u8 pk).toArray, .slice A m c, .slice (some ⟨b2, 0, none⟩) 64 64] w fun e w' => e = .returned (.int .i64 0) ∧ Below w.heap.size w w'))
    (KL : Hid (∀ w b2, Calls Tryd.prog 6 #[.agg (ints .u8 pk).toArray, .slice A m c, .slice (some ⟨b2, 1, none⟩) 63 63] w fun e w' => e = .returned (.int .i64 2) ∧ Below w.heap.size w w'))
    (KT : Hid (∀ x v, (fi ++ se)[32 + bt / 8]? = some x → bits .xor .u8 x (2 ^ (bt % 8) % 256) = v → ∀ w b2, TabsA w → Nums w .u8 A tx → Nums w .u8 (some ⟨b2, 0, none⟩) ((fi ++ se).set (32 + bt / 8) v) → Calls Tryd.prog 6 #[.agg (ints .u8 pk).toArray, .slice A m c, .slice (some ⟨b2, 0, none⟩) 64 64] w fun e w' => e = .returned (.int .i64 22) ∧ Below w.heap.size w w'))
    (w : World) (hT : TabsA w) (hX : Nums w .u8 A tx) : Calls Tryd.prog 4 #[.agg (ints .u8 sd).toArray, .slice A m c, .int .u8 (bt : Int)] w fun e w' => e = .returned (.bool true) ∧ Below w.heap.size w w' := by
  obtain ⟨z3_, s3_⟩ := zero_of_info inf32
  have h3 := Rw.new w (ints .u8 sd) 22
  have hW := below_new w (.cells (ints .u8 sd).toArray 22)
  have hT0 := hT
  replace hT := hT.next hW
  have hX0 := hX
  replace hX := hX.below hW
  go_enter Tryd.func4, Tryd.ntmps4
  go_upto_region 1 with (fail)
  generalize w.alloc (.cells (ints .u8 sd).toArray 22) = w0 at *
  have s0 := hW.size
  refine region_seq2 2 49 (fun _ => false) [Is (.bool true), Is (.bool false)] [10, 11] (by kernel_rfl) (by kernel_rfl) (Nat.le_of_eq rfl) (grows_cons (Is.grows _) (grows_cons (Is.grows _) grows_nil))
    ⟨step_toA rfl (.inl rfl) rfl cx5 hT awake_any rfl (no_args),
     step_not rfl (.inl rfl) (b := true) rfl rfl (knows_in 0 10 (by decide) (by kernel_rfl) rfl rfl), trivial⟩ ?_
  intro val w1 hw hS hap hla
  have e10 : val 10 = (.bool true) := hS 0 10 (by decide) rfl
  have e11 : val 11 = (.bool false) := hS 1 11 (by decide) rfl
  simp only [putVals, List.foldl_cons, List.foldl_nil, List.drop_succ_cons, List.drop_zero, Act.put, List.setIfInBounds_toArray, List.set_cons_succ, List.set_cons_zero, e10, e11]
  clear hS hap hla e10 e11 
  replace hT := hT.next hw
  replace hX := hX.below hw
  replace h3 := h3.next hw
  replace hW := hW.trans (Below.mono hw hW.size)
  clear hw
  go_upto_region 3 with (fail)
  go_wp2_with (fail)
  have s1 := hW.size
  refine region_spec2 7 49 (fun i => i == 5 || i == 6) [Is (.agg (ints .u8 sd).toArray), Is (.slice A m c), Is (.agg (ints .u8 (fi ++ se)).toArray), Is (.agg (ints .u8 sd).toArray), Is (.agg (ints .u8 pk).toArray), IsZV w1.heap.size (ints .u8 (zeros 64)), IsZV w1.heap.size (ints .u8 (zeros 32))] [15, 16, 17, 18, 19, 7, 8] (by kernel_rfl) (by kernel_rfl) (by kernel_rfl) (Nat.le_of_eq rfl) (grows_cons (Is.grows _) (grows_cons (Is.grows _) (grows_cons (Is.grows _) (grows_cons (Is.grows _) (grows_cons (Is.grows _) (grows_cons (IsZV.grows _ _) (grows_cons (IsZV.grows _ _) grows_nil)))))))
    ⟨step_ldV rfl (.inl rfl) (fun _ hw => (h3.next hw).range) rfl Tryd.underlying22 rfl (szV inf32 (il HSD.out)) rfl (knows_out 3 (by kernel_rfl) rfl),
     step_mvP rfl (.inl rfl) rfl rfl (knows_out 1 (by kernel_rfl) rfl),
     step_cw rfl (.inl rfl) rfl cx16 rfl (fun aa ww hw hf hd => ⟨_, (two_args (knows_in 0 15 (by decide) (by kernel_rfl) rfl rfl) (knows_in 1 16 (by decide) (by kernel_rfl) rfl rfl)) aa ww hw hf hd, KS.out ww (hT.next hw) (hX.below hw)⟩),
     step_ldV rfl (.inl rfl) (fun _ hw => (h3.next hw).range) rfl Tryd.underlying22 rfl (szV inf32 (il HSD.out)) rfl (knows_out 3 (by kernel_rfl) rfl),
     step_toA rfl (.inl rfl) rfl cx17 hT kpub rfl (one_arg (knows_in 3 18 (by decide) (by kernel_rfl) rfl rfl)),
     step_allocV (.inl rfl) inf64 rfl rfl,
     step_allocV (.inl rfl) inf32 rfl rfl, trivial⟩ ?_
  intro val w2 hw hS hap hla
  have e15 : val 15 = (.agg (ints .u8 sd).toArray) := hS 0 15 (by decide) rfl
  have e16 : val 16 = (.slice A m c) := hS 1 16 (by decide) rfl
  have e17 : val 17 = (.agg (ints .u8 (fi ++ se)).toArray) := hS 2 17 (by decide) rfl
  have e18 : val 18 = (.agg (ints .u8 sd).toArray) := hS 3 18 (by decide) rfl
  have e19 : val 19 = (.agg (ints .u8 pk).toArray) := hS 4 19 (by decide) rfl
  obtain ⟨b7, e7, L7, Z7⟩ := hS 5 7 (by decide) rfl
  obtain ⟨b8, e8, L8, Z8⟩ := hS 6 8 (by decide) rfl
  have ne7_8 : b7 ≠ b8 := fun e => hap 5 6 7 8 (by decide) (by decide) rfl rfl (by decide) rfl rfl (by rw [e7, e8, e])
  simp only [putVals, List.foldl_cons, List.foldl_nil, List.drop_succ_cons, List.drop_zero, Act.put, List.setIfInBounds_toArray, List.set_cons_succ, List.set_cons_zero, e15, e16, e17, e18, e19, e7, e8]
  clear hS hap hla e15 e16 e17 e18 e19 e7 e8 
  have LL7 := hid (show ((ints .u8 (fi ++ se))).length = 64 from (il HSG.out))
  have R7 := Z7.roomA (us := (ints .u8 (fi ++ se))) (LL7.out.trans (zv .u8 64).symm)
  have h7 := Z7.storedA (us := (ints .u8 (fi ++ se))) (LL7.out.trans (zv .u8 64).symm)
  replace Z8 := Z8.pastA ne7_8 0 (ints .u8 (fi ++ se))
  have LL8 := hid (show ((ints .u8 pk)).length = 32 from (il HPK.out))
  have R8 := Z8.roomA (us := (ints .u8 pk)) (LL8.out.trans (zv .u8 32).symm)
  have h8 := Z8.storedA (us := (ints .u8 pk)) (LL8.out.trans (zv .u8 32).symm)
  replace h7 := h7.pastA (Ne.symm ne7_8) 0 (ints .u8 pk)
  replace hT := hT.next (Below.setCells (Below.setCells hw L7 0 (ints .u8 (fi ++ se)).toArray.toList) L8 0 (ints .u8 pk).toArray.toList)
  replace hX := hX.below (Below.setCells (Below.setCells hw L7 0 (ints .u8 (fi ++ se)).toArray.toList) L8 0 (ints .u8 pk).toArray.toList)
  replace h3 := h3.next (Below.setCells (Below.setCells hw L7 0 (ints .u8 (fi ++ se)).toArray.toList) L8 0 (ints .u8 pk).toArray.toList)
  replace hW := hW.trans (Below.mono (Below.setCells (Below.setCells hw L7 0 (ints .u8 (fi ++ se)).toArray.toList) L8 0 (ints .u8 pk).toArray.toList) hW.size)
  with_reducible refine wpList_store_mid (op := ⟨none, .store 46 (.tmp 7) (.tmp 17), _, _, _, _⟩) rfl 46 (.tmp 7) (.tmp 17) rfl b7 0 (ints .u8 (fi ++ se)).toArray rfl rfl R7 (szA inf64 LL7.out) (ints_all _ _) ?_
  with_reducible refine wpList_store_mid (op := ⟨none, .store 22 (.tmp 8) (.tmp 19), _, _, _, _⟩) rfl 22 (.tmp 8) (.tmp 19) rfl b8 0 (ints .u8 pk).toArray rfl rfl R8 (szA inf32 LL8.out) (ints_all _ _) ?_
  generalize ((w2.setCells b7 0 (ints .u8 (fi ++ se)).toArray.toList).setCells b8 0 (ints .u8 pk).toArray.toList) = w3 at *
  clear hw R7 LL7 Z7 L7 R8 LL8 Z8 L8
  go_wp2_with (fail)
  have s3 := hW.size
  refine region_spec2 11 49 (fun _ => false) [Is (.agg (ints .u8 pk).toArray), Is (.slice A m c), Is (.slice (some ⟨b7, 0, none⟩) 64 64), Is (.int .i64 0), Is (.bool false), Is (.bool false), Is (.agg (ints .u8 pk).toArray), Is (.slice A m c), Is (.slice (some ⟨b7, 1, none⟩) 63 63), Is (.int .i64 2), Is (.bool false)] [20, 21, 22, 23, 24, 25, 26, 27, 28, 29, 30] (by kernel_rfl) (by kernel_rfl) (by kernel_rfl) (Nat.le_of_eq rfl) (grows_cons (Is.grows _) (grows_cons (Is.grows _) (grows_cons (Is.grows _) (grows_cons (Is.grows _) (grows_cons (Is.grows _) (grows_cons (Is.grows _) (grows_cons (Is.grows _) (grows_cons (Is.grows _) (grows_cons (Is.grows _) (grows_cons (Is.grows _) (grows_cons (Is.grows _) grows_nil)))))))))))
    ⟨step_ldV rfl (.inl rfl) (fun _ hw => (h8.next hw).range) rfl Tryd.underlying22 rfl (szV inf32 (il HPK.out)) rfl (knows_out 8 (by kernel_rfl) rfl),
     step_mvP rfl (.inl rfl) rfl rfl (knows_out 1 (by kernel_rfl) rfl),
     step_one rfl (.inl rfl) (fun ev w h hc => ex_slA (P := Tryd.prog) u64 z64 (m := 64) rfl rfl ev w h hc) rfl (knows_out 7 (by kernel_rfl) rfl),
     step_cw rfl (.inl rfl) rfl cx6 rfl (fun aa ww hw hf hd => ⟨_, (three_args (knows_in 0 20 (by decide) (by kernel_rfl) rfl rfl) (knows_in 1 21 (by decide) (by kernel_rfl) rfl rfl) (knows_in 2 22 (by decide) (by kernel_rfl) rfl rfl)) aa ww hw hf hd, KV.out ww b7 (hT.next hw) (hX.below hw) ((h7.next hw).nums)⟩),
     step_neC rfl (.inl rfl) rfl Tryd.underlying25 rfl (by decide) (knows_in 3 23 (by decide) (by kernel_rfl) rfl rfl),
     step_mvP rfl (.inl rfl) rfl rfl (knows_in 4 24 (by decide) (by kernel_rfl) rfl rfl),
     step_ldV rfl (.inr ⟨5, false, 25, rfl, by decide, by kernel_rfl, rfl, fun _ _ h => h⟩) (fun _ hw => (h8.next hw).range) rfl Tryd.underlying22 rfl (szV inf32 (il HPK.out)) rfl (knows_out 8 (by kernel_rfl) rfl),
     step_mvP rfl (.inr ⟨5, false, 25, rfl, by decide, by kernel_rfl, rfl, fun _ _ h => h⟩) rfl rfl (knows_out 1 (by kernel_rfl) rfl),
     step_one rfl (.inr ⟨5, false, 25, rfl, by decide, by kernel_rfl, rfl, fun _ _ h => h⟩) (fun ev w h hc => ex_slAl (P := Tryd.prog) u64 z64 (m := 64) (l := 1) rfl (by decide) rfl rfl rfl ev w h hc) rfl (knows_out 7 (by kernel_rfl) rfl),
     step_cw rfl (.inr ⟨5, false, 25, rfl, by decide, by kernel_rfl, rfl, fun _ _ h => h⟩) rfl cx6 rfl (fun aa ww hw hf hd => ⟨_, (three_args (knows_in 6 26 (by decide) (by kernel_rfl) rfl rfl) (knows_in 7 27 (by decide) (by kernel_rfl) rfl rfl) (knows_in 8 28 (by decide) (by kernel_rfl) rfl rfl)) aa ww hw hf hd, KL.out ww b7⟩),
     step_neC rfl (.inr ⟨5, false, 25, rfl, by decide, by kernel_rfl, rfl, fun _ _ h => h⟩) rfl Tryd.underlying25 rfl (by decide) (knows_in 9 29 (by decide) (by kernel_rfl) rfl rfl), trivial⟩ ?_
  intro val w4 hw hS hap hla
  have e20 : val 20 = (.agg (ints .u8 pk).toArray) := hS 0 20 (by decide) rfl
  have e21 : val 21 = (.slice A m c) := hS 1 21 (by decide) rfl
  have e22 : val 22 = (.slice (some ⟨b7, 0, none⟩) 64 64) := hS 2 22 (by decide) rfl
  have e23 : val 23 = (.int .i64 0) := hS 3 23 (by decide) rfl
  have e24 : val 24 = (.bool false) := hS 4 24 (by decide) rfl
  have e25 : val 25 = (.bool false) := hS 5 25 (by decide) rfl
  have e26 : val 26 = (.agg (ints .u8 pk).toArray) := hS 6 26 (by decide) rfl
  have e27 : val 27 = (.slice A m c) := hS 7 27 (by decide) rfl
  have e28 : val 28 = (.slice (some ⟨b7, 1, none⟩) 63 63) := hS 8 28 (by decide) rfl
  have e29 : val 29 = (.int .i64 2) := hS 9 29 (by decide) rfl
  have e30 : val 30 = (.bool false) := hS 10 30 (by decide) rfl
  simp only [putVals, List.foldl_cons, List.foldl_nil, List.drop_succ_cons, List.drop_zero, Act.put, List.setIfInBounds_toArray, List.set_cons_succ, List.set_cons_zero, e20, e21, e22, e23, e24, e25, e26, e27, e28, e29, e30]
  clear hS hap hla e20 e21 e22 e23 e24 e25 e26 e27 e28 e29 e30 
  replace hT := hT.next hw
  replace hX := hX.below hw
  replace h3 := h3.next hw
  replace h7 := h7.next hw
  replace h8 := h8.next hw
  replace hW := hW.trans (Below.mono hw hW.size)
  clear hw
  go_upto_region 8 with (fail)
  have lt8 := h8.lt (by rw [ints_length, HPK.out]; decide)
  have s4 := hW.size
  refine region_seq2 2 49 (fun i => i == 1) [Is (.agg (ints .u8 (fi ++ se)).toArray), IsZV w4.heap.size (ints .u8 (zeros 64))] [32, 9] (by kernel_rfl) (by kernel_rfl) (Nat.le_of_eq rfl) (grows_cons (Is.grows _) (grows_cons (IsZV.grows _ _) grows_nil))
    ⟨step_ldV rfl (.inl rfl) (fun _ hw => (h7.next hw).range) rfl Tryd.underlying46 rfl (szV inf64 (il HSG.out)) rfl (knows_out 7 (by kernel_rfl) rfl),
     step_allocV (.inl rfl) inf64 rfl rfl, trivial⟩ ?_
  intro val w5 hw hS hap hla
  have e32 : val 32 = (.agg (ints .u8 (fi ++ se)).toArray) := hS 0 32 (by decide) rfl
  obtain ⟨b9, e9, L9, Z9⟩ := hS 1 9 (by decide) rfl
  simp only [putVals, List.foldl_cons, List.foldl_nil, List.drop_succ_cons, List.drop_zero, Act.put, List.setIfInBounds_toArray, List.set_cons_succ, List.set_cons_zero, e32, e9]
  clear hS hap hla e32 e9 
  have LL9 := hid (show ((ints .u8 (fi ++ se))).length = 64 from (il HSG.out))
  have R9 := Z9.roomA (us := (ints .u8 (fi ++ se))) (LL9.out.trans (zv .u8 64).symm)
  have h9 := Z9.storedA (us := (ints .u8 (fi ++ se))) (LL9.out.trans (zv .u8 64).symm)
  replace hT := hT.next (Below.setCells hw L9 0 (ints .u8 (fi ++ se)).toArray.toList)
  replace hX := hX.below (Below.setCells hw L9 0 (ints .u8 (fi ++ se)).toArray.toList)
  replace h3 := h3.next (Below.setCells hw L9 0 (ints .u8 (fi ++ se)).toArray.toList)
  replace h7 := h7.next (Below.setCells hw L9 0 (ints .u8 (fi ++ se)).toArray.toList)
  replace h8 := h8.next (Below.setCells hw L9 0 (ints .u8 (fi ++ se)).toArray.toList)
  replace hW := hW.trans (Below.mono (Below.setCells hw L9 0 (ints .u8 (fi ++ se)).toArray.toList) hW.size)
  with_reducible refine wpList_store_mid (op := ⟨none, .store 46 (.tmp 9) (.tmp 32), _, _, _, _⟩) rfl 46 (.tmp 9) (.tmp 32) rfl b9 0 (ints .u8 (fi ++ se)).toArray rfl rfl R9 (szA inf64 LL9.out) (ints_all _ _) ?_
  generalize (w5.setCells b9 0 (ints .u8 (fi ++ se)).toArray.toList) = w6 at *
  clear hw R9 LL9 Z9
  go_upto_region 9 with (fail)
  have q0 : (0 : Int) ≤ bt := by omega
  have hbt := HBT.out
  have w1 : IntKind.i64.wrap (bt : Int) = (bt : Int) := IntWalk.i64_in _ (by omega)
  have w2 : IntKind.i64.wrap ((bt : Int) / 8) = (bt : Int) / 8 := IntWalk.i64_in _ (by omega)
  have w3 : IntKind.i64.wrap (32 + (bt : Int) / 8) = 32 + (bt : Int) / 8 := IntWalk.i64_in _ (by omega)
  have w4 : IntKind.u8.wrap ((bt : Int) % 8) = (bt : Int) % 8 := IntWalk.u8_in _ (by omega)
  have t1 : Int.tdiv (bt : Int) 8 = (bt : Int) / 8 := Int.tdiv_eq_ediv_of_nonneg (by omega)
  have t2 : Int.tmod (bt : Int) 8 = (bt : Int) % 8 := Int.tmod_eq_emod_of_nonneg (by omega)
  obtain ⟨x, hx⟩ : ∃ x, (fi ++ se)[32 + bt / 8]? = some x := ⟨_, List.getElem?_eq_getElem (by rw [HSG.out]; omega)⟩
  have c9 := (h9.arr.at_ hx)
  have f9 := h9.arr.free (i := 32 + bt / 8) (by rw [HSG.out]; omega)
  rw [Nat.zero_add] at c9 f9
  have HX := hid hx
  clear hx
  go_wp2_with (fail)
  generalize hv : bits .xor .u8 x (2 ^ (bt % 8) % 256) = v
  have HV := hid hv
  clear hv c9 f9 w1 w2 w3 w4 t1 t2 hX hT
  have h9' := (h9.arr.set (32 + bt / 8) v).rw
  rw [Nat.zero_add] at h9'
  replace hW := hW.setCell (p := ⟨b9, 32 + bt / 8, none⟩) (by show w.heap.size ≤ b9; omega) (.int .u8 v)
  have h8' : Rw (w6.setCell ⟨b9, 32 + bt / 8, none⟩ (.int .u8 v)) b8 0 (ints .u8 pk) := h8.same (Below.heap_setCell w6 ⟨b9, 32 + bt / 8, none⟩ (.int .u8 v) b8 (by show b8 ≠ b9; omega))
  obtain ⟨sg2, hs2⟩ : ∃ l, (fi ++ se).set (32 + bt / 8) v = l := ⟨_, rfl⟩
  rw [hs2] at h9'
  have HS2 := hid hs2
  have HG2 := hid (show sg2.length = 64 by rw [← hs2, List.length_set]; exact HSG.out)
  clear h9 h8 h7 h3 hs2
  generalize w6.setCell ⟨b9, 32 + bt / 8, none⟩ (.int .u8 v) = w6_ at *
  have hT := hT0.next hW
  have hX := hX0.below hW
  have h9 := h9'
  have h8 := h8'
  clear h9' h8'
  have s6 := hW.size
  refine region_spec2 5 49 (fun _ => false) [Is (.agg (ints .u8 pk).toArray), Is (.slice A m c), Is (.slice (some ⟨b9, 0, none⟩) 64 64), Is (.int .i64 22), Is (.bool true)] [44, 45, 46, 47, 48] (by kernel_rfl) (by kernel_rfl) (by kernel_rfl) (Nat.le_of_eq rfl) (grows_cons (Is.grows _) (grows_cons (Is.grows _) (grows_cons (Is.grows _) (grows_cons (Is.grows _) (grows_cons (Is.grows _) grows_nil)))))
    ⟨step_ldV rfl (.inl rfl) (fun _ hw => (h8.next hw).range) rfl Tryd.underlying22 rfl (szV inf32 (il HPK.out)) rfl (knows_out 8 (by kernel_rfl) rfl),
     step_mvP rfl (.inl rfl) rfl rfl (knows_out 1 (by kernel_rfl) rfl),
     step_one rfl (.inl rfl) (fun ev w h hc => ex_slA (P := Tryd.prog) u64 z64 (m := 64) rfl rfl ev w h hc) rfl (knows_out 9 (by kernel_rfl) rfl),
     step_cw rfl (.inl rfl) rfl cx6 rfl (fun aa ww hw hf hd => ⟨_, (three_args (knows_in 0 44 (by decide) (by kernel_rfl) rfl rfl) (knows_in 1 45 (by decide) (by kernel_rfl) rfl rfl) (knows_in 2 46 (by decide) (by kernel_rfl) rfl rfl)) aa ww hw hf hd, KT.out x v HX.out HV.out ww b9 (hT.next hw) (hX.below hw) (by rw [HS2.out]; exact (h9.next hw).nums)⟩),
     step_eqC rfl (.inl rfl) rfl Tryd.underlying25 rfl (by decide) (knows_in 3 47 (by decide) (by kernel_rfl) rfl rfl), trivial⟩ ?_
  intro val w7 hw hS hap hla
  have e44 : val 44 = (.agg (ints .u8 pk).toArray) := hS 0 44 (by decide) rfl
  have e45 : val 45 = (.slice A m c) := hS 1 45 (by decide) rfl
  have e46 : val 46 = (.slice (some ⟨b9, 0, none⟩) 64 64) := hS 2 46 (by decide) rfl
  have e47 : val 47 = (.int .i64 22) := hS 3 47 (by decide) rfl
  have e48 : val 48 = (.bool true) := hS 4 48 (by decide) rfl
  simp only [putVals, List.foldl_cons, List.foldl_nil, List.drop_succ_cons, List.drop_zero, Act.put, List.setIfInBounds_toArray, List.set_cons_succ, List.set_cons_zero, e44, e45, e46, e47, e48]
  clear hS hap hla e44 e45 e46 e47 e48 
  replace hT := hT.next hw
  replace hX := hX.below hw
  replace h8 := h8.next hw
  replace h9 := h9.next hw
  replace hW := hW.trans (Below.mono hw hW.size)
  clear hw
  go_wp2_with (fail)
  go_ret
  exact ⟨rfl, hW⟩
set_option maxRecDepth 8000 in
set_option maxHeartbeats 8000000 in
theorem sb_long {sd : List Int} {A : Option Addr} {m c : Nat} {bt : Nat} (HSD : Hid (sd.length = 32)) (hm : (300 : Int) < (m : Int)) (w : World) (hT : TabsA w) : Calls Tryd.prog 4 #[.agg (ints .u8 sd).toArray, .slice A m c, .int .u8 (bt : Int)] w fun e w' => e = .returned (.bool true) ∧ Below w.heap.size w w' := by
  obtain ⟨z3_, s3_⟩ := zero_of_info inf32
  have h3 := Rw.new w (ints .u8 sd) 22
  have hW := below_new w (.cells (ints .u8 sd).toArray 22)
  replace hT := hT.next hW
  go_enter Tryd.func4, Tryd.ntmps4
  go_upto_region 1 with (fail)
  generalize w.alloc (.cells (ints .u8 sd).toArray 22) = w0 at *
  have s0 := hW.size
  refine region_seq2 2 49 (fun _ => false) [Is (.bool true), Is (.bool false)] [10, 11] (by kernel_rfl) (by kernel_rfl) (Nat.le_of_eq rfl) (grows_cons (Is.grows _) (grows_cons (Is.grows _) grows_nil))
    ⟨step_toA rfl (.inl rfl) rfl cx5 hT awake_any rfl (no_args),
     step_not rfl (.inl rfl) (b := true) rfl rfl (knows_in 0 10 (by decide) (by kernel_rfl) rfl rfl), trivial⟩ ?_
  intro val w1 hw hS hap hla
  have e10 : val 10 = (.bool true) := hS 0 10 (by decide) rfl
  have e11 : val 11 = (.bool false) := hS 1 11 (by decide) rfl
  simp only [putVals, List.foldl_cons, List.foldl_nil, List.drop_succ_cons, List.drop_zero, Act.put, List.setIfInBounds_toArray, List.set_cons_succ, List.set_cons_zero, e10, e11]
  clear hS hap hla e10 e11 
  replace hT := hT.next hw
  replace h3 := h3.next hw
  replace hW := hW.trans (Below.mono hw hW.size)
  clear hw
  go_wp2_with (fail)
  go_ret
  exact ⟨rfl, hW⟩
theorem turn_all : ∀ (x : Fin 256) (r : Fin 8), 0 ≤ bits .xor .u8 (x.val : Int) (2 ^ r.val % 256) ∧ bits .xor .u8 (x.val : Int) (2 ^ r.val % 256) < 256 ∧ bits .xor .u8 (x.val : Int) (2 ^ r.val % 256) ≠ (x.val : Int) := by decide +kernel
theorem turn_byte {x : Int} (h : 0 ≤ x ∧ x < 256) (r : Nat) (hr : r < 8) : 0 ≤ bits .xor .u8 x (2 ^ r % 256) ∧ bits .xor .u8 x (2 ^ r % 256) < 256 ∧ bits .xor .u8 x (2 ^ r % 256) ≠ x := by
  obtain ⟨k, rfl⟩ := Int.eq_ofNat_of_zero_le h.1
  exact turn_all ⟨k, by omega⟩ ⟨r, hr⟩
/-- One bit of the second half turned. -/
theorem turned_half {sd tx : List Int} {bt : Nat} (hb : bt < 256) {x v : Int} (hx : (sigL sd tx)[32 + bt / 8]? = some x) (hv : bits .xor .u8 x (2 ^ (bt % 8) % 256) = v) : ∃ se, (sigL sd tx).set (32 + bt / 8) v = firstL sd tx ++ se ∧ se.length = 32 ∧ Byt se ∧ se ≠ secondL sd tx := by
  have hxb := sigL_byt sd tx x (List.mem_of_getElem? hx)
  obtain ⟨h1, h2, h3⟩ := turn_byte hxb (bt % 8) (by omega)
  rw [hv] at h1 h2 h3
  have hl := firstL_len sd tx
  have hs := secondL_len sd tx
  unfold sigL at hx ⊢
  rw [List.getElem?_append_right (by omega), hl, Nat.add_sub_cancel_left] at hx
  refine ⟨(secondL sd tx).set (bt / 8) v, ?_, by rw [List.length_set, hs], fun y hy => ?_, fun e => ?_⟩
  · rw [List.set_append_right _ _ (by omega), hl, Nat.add_sub_cancel_left]
  · rcases List.mem_or_eq_of_mem_set hy with h | h
    · exact second_byt _ _ y h
    · subst h; exact ⟨h1, h2⟩
  · have h4 := congrArg (fun l => l[bt / 8]?) e
    simp only [List.getElem?_set_self (show bt / 8 < (secondL sd tx).length by omega), hx] at h4
    exact h3 (Option.some.inj h4)
theorem signBack_walk (w : World) (ht : TabsA w) (sd : List Int) (ld : sd.length = 32) (wd : ∀ x ∈ sd, (Lit.int .u8 x).wf = true) (A : Option Addr) (c : Nat) (tx : List Int) (hc : tx.length ≤ c) (_ : c ≤ maxLen) (wx : ∀ x ∈ tx, (Lit.int .u8 x).wf = true) (hX : Nums w .u8 A tx) (bt : Int) (wb : (Lit.int .u8 bt).wf = true) :
    Calls Tryd.prog 4 #[.agg (ints .u8 sd).toArray, .slice A tx.length c, .int .u8 bt] w fun e w' => e = .returned (.bool true) ∧ Below w.heap.size w w' := by
  have hb : 0 ≤ bt ∧ bt < 256 := byt_of_wf (bs := [bt]) (fun x hx => by simp only [List.mem_singleton] at hx; subst hx; exact wb) bt (by simp)
  obtain ⟨k, rfl⟩ := Int.eq_ofNat_of_zero_le hb.1
  have hk : k < 256 := by omega
  have hsb := byt_of_wf wd
  have htb := byt_of_wf wx
  by_cases h3 : 300 < tx.length
  · exact sb_long (hid ld) (by omega) w ht
  · exact sb_core (tx := tx) (pk := pubL sd) (fi := firstL sd tx) (se := secondL sd tx) (hid hk) (hid ld) (hid (sigL_len sd tx)) (hid (sigL_byt sd tx)) (hid (pubL_len sd)) (by omega)
      (hid fun w hT hX => sign_any ld hsb rfl hc (by omega) htb w hT hX) (pub_any ld hsb) (hid fun w b2 hT hX hG => verify_back (by omega) rfl hc (by omega) htb hT hX hG) (hid fun w b2 => verify_len (by omega) w)
      (hid fun x v hx hv w b2 hT hX hG => by
        obtain ⟨se, h1, h2, h4, h5⟩ := turned_half hk hx hv
        have hG2 : Nums w .u8 (some ⟨b2, 0, none⟩) (firstL sd tx ++ se) := by rw [← h1]; exact hG
        exact verify_turned h2 h4 h5 (by omega) rfl hc (by omega) htb hT hX hG2) w ht hX
end Go.Proofs.YthpibkpljakeeaaDoor
