/- Numbers are as the reference has them. -/
import Derived.Test.YthohfhloobmlpaaPAwake
import Derived.Test.YthohfhloobmlpaaStores
namespace Go.Proofs.Ythohfhloobmlpaa
open Go Go.RowKit

section
variable {ops : Array Oper} {md : Region.Mode} {W : World} {a0 : Act} {n : Nat} {al : Nat → Bool} {S : Nat → Value → World → Prop} {Q : Exit → Act → World → Prop} {i : Nat} {o : Oper}
theorem step_fst (hal : al i = false) (hg : GuardOn ops md n S i o) {x : Operand} {u v : Value} (ho : o.op = .extract x 0) (hS : S i = Is u) (hx : Knows ops md W a0 n S i x (.tuple #[u, v])) : StepOk Try.prog ops md W a0 n al S Q i o :=
  step_run hal hg fun a w hw hf hd => ⟨u, by
    have h := hx a w hw hf hd
    revert h
    generalize a.eval = ev
    intro h
    unfold execOp
    simp only [ho, h]
    go_simp, by rw [hS]; exact rfl⟩
theorem step_snd (hal : al i = false) (hg : GuardOn ops md n S i o) {x : Operand} {u v : Value} (ho : o.op = .extract x 1) (hS : S i = Is v) (hx : Knows ops md W a0 n S i x (.tuple #[u, v])) : StepOk Try.prog ops md W a0 n al S Q i o :=
  step_run hal hg fun a w hw hf hd => ⟨v, by
    have h := hx a w hw hf hd
    revert h
    generalize a.eval = ev
    intro h
    unfold execOp
    simp only [ho, h]
    go_simp, by rw [hS]; exact rfl⟩
end
set_option maxRecDepth 8000 in
set_option maxHeartbeats 4000000 in
theorem numbers_core (a1 a2 b x cl pA pS pM pX : List Int) (A : Option Addr) (L c q mA mB mS mM mX : Nat) (er : Int) (w : World) (H1 : Hid (a1.length = 16)) (H2 : Hid (a2.length = 1)) (HB1 : Hid (Byt a1)) (HB2 : Hid (Byt a2)) (HAL : Hid ((a1 ++ a2).length = 17)) (HAB : Hid (Byt (a1 ++ a2))) (HBL : Hid (b.length = 17)) (HBB : Hid (Byt b))
    (HXL : Hid (x.length = L)) (HXB : Hid (Byt x)) (HL1 : Hid (L ≤ 1000)) (hL : L ≤ 100) (HQ : Hid ((L + 1) / 2 = q)) (HmA : Hid (bn (a1 ++ a2) % PN = mA)) (HmB : Hid (bn b % PN = mB)) (HAlt : Hid (mA < PN)) (HBlt : Hid (mB < PN)) (HmS : Hid ((mA + mB) % PN = mS)) (HmM : Hid (mA * mB % PN = mM)) (HmX : Hid (bn x % PN = mX))
    (HpmA : Hid (pb mA = pA)) (HpmS : Hid (pb mS = pS)) (HpmM : Hid (pb mM = pM)) (HLpA : Hid (pA.length = 17)) (HLpS : Hid (pS.length = 17)) (HLpM : Hid (pM.length = 17)) (HLpX : Hid (pX.length = 17)) (HCL : Hid (cl.length = 16)) (HCC : Hid (clampL a1 = cl))
    (K9A : Hid (CallsTo 9 #[.agg (ints .u8 (a1 ++ a2)).toArray] (.agg (ints .u8 pA).toArray))) (K11 : Hid (CallsTo 11 #[.agg (ints .u8 (a1 ++ a2)).toArray, .agg (ints .u8 b).toArray] (.agg (ints .u8 pS).toArray))) (K9S : Hid (CallsTo 9 #[.agg (ints .u8 pS).toArray] (.agg (ints .u8 pS).toArray))) (K13 : Hid (CallsTo 13 #[.agg (ints .u8 (a1 ++ a2)).toArray, .agg (ints .u8 b).toArray] (.agg (ints .u8 pM).toArray))) (K9M : Hid (CallsTo 9 #[.agg (ints .u8 pM).toArray] (.agg (ints .u8 pM).toArray))) (K15 : Hid (CallsTo 15 #[.agg (ints .u8 a1).toArray] (.agg (ints .u8 cl).toArray)))
    (KO : Hid (∀ w, Nums w .u8 A x → Calls Try.prog 18 #[.slice A L c] w fun e w' => e = .returned (.tuple #[.agg (ints .u8 pX).toArray, .int .i64 er]) ∧ Below w.heap.size w w')) (hcase : L ≤ 17 ∧ er = 0 ∧ Hid (pb mX = pX) ∨ 17 < L ∧ er = 3 ∧ pX = zeros 17) (hA : Nums w .u8 A x) :
    Calls Try.prog 3 #[.agg (ints .u8 (a1 ++ a2)).toArray, .agg (ints .u8 b).toArray, .slice A L c] w fun e w' => e = .returned (.bool true) ∧ Below w.heap.size w w' := by
  have hL4 : ¬ (100 : Int) < L := by omega
  clear hL
  have h1 := (Rw.new w (ints .u8 (a1 ++ a2)) 22).next (below_new _ (.cells (ints .u8 b).toArray 22))
  have h2 := Rw.new (w.alloc (.cells (ints .u8 (a1 ++ a2)).toArray 22)) (ints .u8 b) 22
  have hW := (below_new w (.cells (ints .u8 (a1 ++ a2)).toArray 22)).alloc (by simp) (.cells (ints .u8 b).toArray 22)
  rw [World.size_alloc] at h2
  replace hA := hA.below hW
  have HCASE := hid hcase
  clear hcase
  go_enter Try.func3, Try.ntmps3
  go_wp2_with (fail)
  generalize ((w.alloc (.cells (ints .u8 (a1 ++ a2)).toArray 22)).alloc (.cells (ints .u8 b).toArray 22)) = w0 at *
  refine (c_awake _).mono ?_
  rintro e w1 ⟨rfl, hb1⟩
  replace h1 := h1.next hb1
  replace h2 := h2.next hb1
  replace hA := hA.below hb1
  replace hW := hW.trans (Below.mono hb1 hW.size)
  clear hb1
  go_wp2_with (fail)
  have s1 := hW.size
  refine region_stores 4 88 2 (fun i => i == 2 || i == 3) [Is (.agg (ints .u8 (a1 ++ a2)).toArray), Is (.agg (ints .u8 b).toArray), IsZV w1.heap.size (ints .u8 (zeros 17)), IsZV w1.heap.size (ints .u8 (zeros 17))] [19, 20, 7, 8] 25 [⟨2, 7, 0, 19, (ints .u8 (a1 ++ a2)).toArray⟩, ⟨3, 8, 1, 20, (ints .u8 b).toArray⟩] rfl (by kernel_rfl) (by kernel_rfl) (by kernel_rfl) (Nat.le_of_eq rfl) (grows_cons (Is.grows _) (grows_cons (Is.grows _) (grows_cons (IsZV.grows _ _) (grows_cons (IsZV.grows _ _) grows_nil))))
    ⟨step_ldV rfl (.inl rfl) (fun _ hw => (h1.next hw).range) rfl Try.underlying22 rfl (szV inf22 (il HAL.out)) rfl (knows_out 3 (by kernel_rfl) rfl),
     step_ldV rfl (.inl rfl) (fun _ hw => (h2.next hw).range) rfl Try.underlying22 rfl (szV inf22 (il HBL.out)) rfl (knows_out 4 (by kernel_rfl) rfl),
     step_allocV (.inl rfl) inf25 rfl rfl,
     step_allocV (.inl rfl) inf25 rfl rfl, trivial⟩
    ⟨⟨⟨_, rfl, rfl, rfl, rfl⟩, (by show 2 < 4; decide), (by show 0 < 4; decide), by kernel_rfl, by kernel_rfl, by kernel_rfl, by kernel_rfl, fun _ _ h => sto_p h ((zv .u8 17).trans (il HAL.out).symm), fun _ _ h => h, szA inf25 (il HAL.out), (ints_all _ _)⟩, ⟨⟨_, rfl, rfl, rfl, rfl⟩, (by show 3 < 4; decide), (by show 1 < 4; decide), by kernel_rfl, by kernel_rfl, by kernel_rfl, by kernel_rfl, fun _ _ h => sto_p h ((zv .u8 17).trans (il HBL.out).symm), fun _ _ h => h, szA inf25 (il HBL.out), (ints_all _ _)⟩, trivial⟩ ⟨.inl (by kernel_rfl), .inr ⟨rfl, free_ldV rfl (fun _ hw => (h2.next hw).range) rfl Try.underlying22 rfl (szV inf22 (il HBL.out)) rfl (by kernel_rfl) rfl⟩, .inl (by kernel_rfl), .inl (by kernel_rfl), trivial⟩ ?_
  intro val w2 hw hS hap hla
  have e19 : val 19 = (.agg (ints .u8 (a1 ++ a2)).toArray) := hS 0 19 (by decide) rfl
  have e20 : val 20 = (.agg (ints .u8 b).toArray) := hS 1 20 (by decide) rfl
  obtain ⟨b7, e7, L7, Z7⟩ := hS 2 7 (by decide) rfl
  obtain ⟨b8, e8, L8, Z8⟩ := hS 3 8 (by decide) rfl
  have ne7_8 : b7 ≠ b8 := fun e => hap 2 3 7 8 (by decide) (by decide) rfl rfl (by decide) rfl rfl (by rw [e7, e8, e])
  simp only [aft, blkOf, putVals, List.foldl_cons, List.foldl_nil, List.drop_succ_cons, List.drop_zero, Act.put, List.setIfInBounds_toArray, List.set_cons_succ, List.set_cons_zero, e19, e20, e7, e8]
  clear hS hap hla e19 e20 e7 e8 
  have LL7 := hid (show ((ints .u8 (a1 ++ a2))).length = 17 from (il HAL.out))
  have R7 := Z7.roomA (us := (ints .u8 (a1 ++ a2))) (LL7.out.trans (zv .u8 17).symm)
  have hx := Z7.storedA (us := (ints .u8 (a1 ++ a2))) (LL7.out.trans (zv .u8 17).symm)
  replace Z8 := Z8.pastA ne7_8 0 (ints .u8 (a1 ++ a2))
  have LL8 := hid (show ((ints .u8 b)).length = 17 from (il HBL.out))
  have R8 := Z8.roomA (us := (ints .u8 b)) (LL8.out.trans (zv .u8 17).symm)
  have hy := Z8.storedA (us := (ints .u8 b)) (LL8.out.trans (zv .u8 17).symm)
  replace hx := hx.pastA (Ne.symm ne7_8) 0 (ints .u8 b)
  replace h1 := h1.next (Below.setCells (Below.setCells hw L7 0 (ints .u8 (a1 ++ a2)).toArray.toList) L8 0 (ints .u8 b).toArray.toList)
  replace h2 := h2.next (Below.setCells (Below.setCells hw L7 0 (ints .u8 (a1 ++ a2)).toArray.toList) L8 0 (ints .u8 b).toArray.toList)
  replace hA := hA.below (Below.setCells (Below.setCells hw L7 0 (ints .u8 (a1 ++ a2)).toArray.toList) L8 0 (ints .u8 b).toArray.toList)
  replace hW := hW.trans (Below.mono (Below.setCells (Below.setCells hw L7 0 (ints .u8 (a1 ++ a2)).toArray.toList) L8 0 (ints .u8 b).toArray.toList) hW.size)
  generalize ((w2.setCells b7 0 (ints .u8 (a1 ++ a2)).toArray.toList).setCells b8 0 (ints .u8 b).toArray.toList) = w3 at *
  clear hw R7 LL7 Z7 L7 R8 LL8 Z8 L8
  go_wp2_with (fail)
  have s3 := hW.size
  refine region_spec2 7 88 (fun _ => false) [Is (.slice (some ⟨w.heap.size, 0, none⟩) 17 17), IsRw .i64 9 (pr (a1 ++ a2)), IsN mA, Is (.slice (some ⟨(w.heap.size + 1), 0, none⟩) 17 17), IsRw .i64 9 (pr b), IsN mB, IsN mA] [21, 22, 23, 24, 25, 26, 9] (by kernel_rfl) (by kernel_rfl) (by kernel_rfl) (Nat.le_of_eq rfl) (grows_cons (Is.grows _) (grows_cons (IsRw.grows _ _ _) (grows_cons (IsN.grows _) (grows_cons (Is.grows _) (grows_cons (IsRw.grows _ _ _) (grows_cons (IsN.grows _) (grows_cons (IsN.grows _) grows_nil)))))))
    ⟨step_one rfl (.inl rfl) (fun ev w h hc => ex_slA (P := Try.prog) ua22 ze22 (m := 17) rfl rfl ev w h hc) rfl (knows_out 3 (by kernel_rfl) rfl),
     step_dig rfl (.inl rfl) rfl HAL.out (by decide) rfl HAB.out rfl ((knows_in 0 21 (by decide) (by kernel_rfl) rfl rfl).rw (fun w hw => ((h1.next hw)).nums)),
     step_mod rfl (.inl rfl) rfl HAL.out (by decide) rfl HAB.out HmA.out rfl (knowsW_in 1 22 (by decide) (by kernel_rfl) rfl rfl),
     step_one rfl (.inl rfl) (fun ev w h hc => ex_slA (P := Try.prog) ua22 ze22 (m := 17) rfl rfl ev w h hc) rfl (knows_out 4 (by kernel_rfl) rfl),
     step_dig rfl (.inl rfl) rfl HBL.out (by decide) rfl HBB.out rfl ((knows_in 3 24 (by decide) (by kernel_rfl) rfl rfl).rw (fun w hw => ((h2.next hw)).nums)),
     step_mod rfl (.inl rfl) rfl HBL.out (by decide) rfl HBB.out HmB.out rfl (knowsW_in 4 25 (by decide) (by kernel_rfl) rfl rfl),
     step_copyW rfl (.inl rfl) 2 23 (.inr rfl) rfl (by decide) (by kernel_rfl) rfl rfl, trivial⟩ ?_
  intro val w4 hw hS hap hla
  have e21 : val 21 = (.slice (some ⟨w.heap.size, 0, none⟩) 17 17) := hS 0 21 (by decide) rfl
  have e24 : val 24 = (.slice (some ⟨(w.heap.size + 1), 0, none⟩) 17 17) := hS 3 24 (by decide) rfl
  obtain ⟨A26, c26, ys26, e26, Y26, N26⟩ := hS 5 26 (by decide) rfl
  obtain ⟨A9, c9, ys9, e9, Y9, N9⟩ := hS 6 9 (by decide) rfl
  simp only [putVals, List.foldl_cons, List.foldl_nil, List.drop_succ_cons, List.drop_zero, Act.put, List.setIfInBounds_toArray, List.set_cons_succ, List.set_cons_zero, e21, e24, e26, e9]
  generalize val 22 = g22
  generalize val 23 = g23
  generalize val 25 = g25
  clear hS hap hla e21 e24 e26 e9 
  replace h1 := h1.next hw
  replace h2 := h2.next hw
  replace hA := hA.below hw
  replace hx := hx.next hw
  replace hy := hy.next hw
  replace hW := hW.trans (Below.mono hw hW.size)
  clear hw
  go_upto_region 7 with (fail)
  have s4 := hW.size
  refine region_seq2 27 88 (fun _ => false) [Is (.agg (ints .u8 (a1 ++ a2)).toArray), Is (.agg (ints .u8 pA).toArray), Is (.slice A9 10 c9), Is (.agg (ints .u8 pA).toArray), Is (.bool false), Is (.bool false), Is (.agg (ints .u8 (a1 ++ a2)).toArray), Is (.agg (ints .u8 b).toArray), Is (.agg (ints .u8 pS).toArray), Is (.agg (ints .u8 pS).toArray), Is (.slice A9 10 c9), Is (.slice A26 10 c26), IsN mS, Is (.agg (ints .u8 pS).toArray), Is (.bool false), Is (.bool false), Is (.bool false), Is (.agg (ints .u8 (a1 ++ a2)).toArray), Is (.agg (ints .u8 b).toArray), Is (.agg (ints .u8 pM).toArray), Is (.agg (ints .u8 pM).toArray), Is (.slice A9 10 c9), Is (.slice A26 10 c26), IsN mM, Is (.agg (ints .u8 pM).toArray), Is (.bool false), Is (.bool false)] [27, 28, 29, 30, 31, 32, 33, 34, 35, 36, 37, 38, 39, 40, 41, 42, 43, 44, 45, 46, 47, 48, 49, 50, 51, 52, 53] (by kernel_rfl) (by kernel_rfl) (Nat.le_of_eq rfl) (grows_cons (Is.grows _) (grows_cons (Is.grows _) (grows_cons (Is.grows _) (grows_cons (Is.grows _) (grows_cons (Is.grows _) (grows_cons (Is.grows _) (grows_cons (Is.grows _) (grows_cons (Is.grows _) (grows_cons (Is.grows _) (grows_cons (Is.grows _) (grows_cons (Is.grows _) (grows_cons (Is.grows _) (grows_cons (IsN.grows _) (grows_cons (Is.grows _) (grows_cons (Is.grows _) (grows_cons (Is.grows _) (grows_cons (Is.grows _) (grows_cons (Is.grows _) (grows_cons (Is.grows _) (grows_cons (Is.grows _) (grows_cons (Is.grows _) (grows_cons (Is.grows _) (grows_cons (Is.grows _) (grows_cons (IsN.grows _) (grows_cons (Is.grows _) (grows_cons (Is.grows _) (grows_cons (Is.grows _) grows_nil)))))))))))))))))))))))))))
    ⟨step_ldV rfl (.inl rfl) (fun _ hw => (hx.next hw).range) rfl Try.underlying25 rfl (szV inf25 (il HAL.out)) rfl (knows_out 7 (by kernel_rfl) rfl),
     step_to rfl (.inl rfl) rfl cx9 K9A.out rfl (one_arg (knows_in 0 27 (by decide) (by kernel_rfl) rfl rfl)),
     step_mvP rfl (.inl rfl) rfl rfl (knows_out 9 (by kernel_rfl) rfl),
     step_rby rfl (.inl rfl) rfl HpmA.out rfl ((knows_in 2 29 (by decide) (by kernel_rfl) rfl rfl).nn Y9 (fun w hw => N9.below hw)),
     step_neA rfl (.inl rfl) rfl eqt22 HLpA.out HLpA.out (decide_eq_true rfl) rfl (knows_in 1 28 (by decide) (by kernel_rfl) rfl rfl) (knows_in 3 30 (by decide) (by kernel_rfl) rfl rfl),
     step_mvP rfl (.inl rfl) rfl rfl (knows_in 4 31 (by decide) (by kernel_rfl) rfl rfl),
     step_ldV rfl (.inr ⟨5, false, 32, rfl, by decide, by kernel_rfl, rfl, fun _ _ h => h⟩) (fun _ hw => (hx.next hw).range) rfl Try.underlying25 rfl (szV inf25 (il HAL.out)) rfl (knows_out 7 (by kernel_rfl) rfl),
     step_ldV rfl (.inr ⟨5, false, 32, rfl, by decide, by kernel_rfl, rfl, fun _ _ h => h⟩) (fun _ hw => (hy.next hw).range) rfl Try.underlying25 rfl (szV inf25 (il HBL.out)) rfl (knows_out 8 (by kernel_rfl) rfl),
     step_to rfl (.inr ⟨5, false, 32, rfl, by decide, by kernel_rfl, rfl, fun _ _ h => h⟩) rfl cx11 K11.out rfl (two_args (knows_in 6 33 (by decide) (by kernel_rfl) rfl rfl) (knows_in 7 34 (by decide) (by kernel_rfl) rfl rfl)),
     step_to rfl (.inr ⟨5, false, 32, rfl, by decide, by kernel_rfl, rfl, fun _ _ h => h⟩) rfl cx9 K9S.out rfl (one_arg (knows_in 8 35 (by decide) (by kernel_rfl) rfl rfl)),
     step_mvP rfl (.inr ⟨5, false, 32, rfl, by decide, by kernel_rfl, rfl, fun _ _ h => h⟩) rfl rfl (knows_out 9 (by kernel_rfl) rfl),
     step_mvP rfl (.inr ⟨5, false, 32, rfl, by decide, by kernel_rfl, rfl, fun _ _ h => h⟩) rfl rfl (knows_out 10 (by kernel_rfl) rfl),
     step_rad rfl (.inr ⟨5, false, 32, rfl, by decide, by kernel_rfl, rfl, fun _ _ h => h⟩) rfl HAlt.out HBlt.out HmS.out rfl ((knows_in 10 37 (by decide) (by kernel_rfl) rfl rfl).nn Y9 (fun w hw => N9.below hw)) ((knows_in 11 38 (by decide) (by kernel_rfl) rfl rfl).nn Y26 (fun w hw => N26.below hw)),
     step_rby rfl (.inr ⟨5, false, 32, rfl, by decide, by kernel_rfl, rfl, fun _ _ h => h⟩) rfl HpmS.out rfl (knowsW_in 12 39 (by decide) (by kernel_rfl) rfl rfl),
     step_neA rfl (.inr ⟨5, false, 32, rfl, by decide, by kernel_rfl, rfl, fun _ _ h => h⟩) rfl eqt22 HLpS.out HLpS.out (decide_eq_true rfl) rfl (knows_in 9 36 (by decide) (by kernel_rfl) rfl rfl) (knows_in 13 40 (by decide) (by kernel_rfl) rfl rfl),
     step_pick rfl (.inl rfl) (b := false) rfl rfl (knows_in 5 32 (by decide) (by kernel_rfl) rfl rfl) (knows_in 14 41 (by decide) (by kernel_rfl) rfl rfl),
     step_mvP rfl (.inl rfl) rfl rfl (knows_in 15 42 (by decide) (by kernel_rfl) rfl rfl),
     step_ldV rfl (.inr ⟨16, false, 43, rfl, by decide, by kernel_rfl, rfl, fun _ _ h => h⟩) (fun _ hw => (hx.next hw).range) rfl Try.underlying25 rfl (szV inf25 (il HAL.out)) rfl (knows_out 7 (by kernel_rfl) rfl),
     step_ldV rfl (.inr ⟨16, false, 43, rfl, by decide, by kernel_rfl, rfl, fun _ _ h => h⟩) (fun _ hw => (hy.next hw).range) rfl Try.underlying25 rfl (szV inf25 (il HBL.out)) rfl (knows_out 8 (by kernel_rfl) rfl),
     step_to rfl (.inr ⟨16, false, 43, rfl, by decide, by kernel_rfl, rfl, fun _ _ h => h⟩) rfl cx13 K13.out rfl (two_args (knows_in 17 44 (by decide) (by kernel_rfl) rfl rfl) (knows_in 18 45 (by decide) (by kernel_rfl) rfl rfl)),
     step_to rfl (.inr ⟨16, false, 43, rfl, by decide, by kernel_rfl, rfl, fun _ _ h => h⟩) rfl cx9 K9M.out rfl (one_arg (knows_in 19 46 (by decide) (by kernel_rfl) rfl rfl)),
     step_mvP rfl (.inr ⟨16, false, 43, rfl, by decide, by kernel_rfl, rfl, fun _ _ h => h⟩) rfl rfl (knows_out 9 (by kernel_rfl) rfl),
     step_mvP rfl (.inr ⟨16, false, 43, rfl, by decide, by kernel_rfl, rfl, fun _ _ h => h⟩) rfl rfl (knows_out 10 (by kernel_rfl) rfl),
     step_rmu rfl (.inr ⟨16, false, 43, rfl, by decide, by kernel_rfl, rfl, fun _ _ h => h⟩) rfl HmM.out rfl ((knows_in 21 48 (by decide) (by kernel_rfl) rfl rfl).nn Y9 (fun w hw => N9.below hw)) ((knows_in 22 49 (by decide) (by kernel_rfl) rfl rfl).nn Y26 (fun w hw => N26.below hw)),
     step_rby rfl (.inr ⟨16, false, 43, rfl, by decide, by kernel_rfl, rfl, fun _ _ h => h⟩) rfl HpmM.out rfl (knowsW_in 23 50 (by decide) (by kernel_rfl) rfl rfl),
     step_neA rfl (.inr ⟨16, false, 43, rfl, by decide, by kernel_rfl, rfl, fun _ _ h => h⟩) rfl eqt22 HLpM.out HLpM.out (decide_eq_true rfl) rfl (knows_in 20 47 (by decide) (by kernel_rfl) rfl rfl) (knows_in 24 51 (by decide) (by kernel_rfl) rfl rfl),
     step_pick rfl (.inl rfl) (b := false) rfl rfl (knows_in 16 43 (by decide) (by kernel_rfl) rfl rfl) (knows_in 25 52 (by decide) (by kernel_rfl) rfl rfl), trivial⟩ ?_
  intro val w5 hw hS hap hla
  have e27 : val 27 = (.agg (ints .u8 (a1 ++ a2)).toArray) := hS 0 27 (by decide) rfl
  have e28 : val 28 = (.agg (ints .u8 pA).toArray) := hS 1 28 (by decide) rfl
  have e29 : val 29 = (.slice A9 10 c9) := hS 2 29 (by decide) rfl
  have e30 : val 30 = (.agg (ints .u8 pA).toArray) := hS 3 30 (by decide) rfl
  have e31 : val 31 = (.bool false) := hS 4 31 (by decide) rfl
  have e32 : val 32 = (.bool false) := hS 5 32 (by decide) rfl
  have e33 : val 33 = (.agg (ints .u8 (a1 ++ a2)).toArray) := hS 6 33 (by decide) rfl
  have e34 : val 34 = (.agg (ints .u8 b).toArray) := hS 7 34 (by decide) rfl
  have e35 : val 35 = (.agg (ints .u8 pS).toArray) := hS 8 35 (by decide) rfl
  have e36 : val 36 = (.agg (ints .u8 pS).toArray) := hS 9 36 (by decide) rfl
  have e37 : val 37 = (.slice A9 10 c9) := hS 10 37 (by decide) rfl
  have e38 : val 38 = (.slice A26 10 c26) := hS 11 38 (by decide) rfl
  have e40 : val 40 = (.agg (ints .u8 pS).toArray) := hS 13 40 (by decide) rfl
  have e41 : val 41 = (.bool false) := hS 14 41 (by decide) rfl
  have e42 : val 42 = (.bool false) := hS 15 42 (by decide) rfl
  have e43 : val 43 = (.bool false) := hS 16 43 (by decide) rfl
  have e44 : val 44 = (.agg (ints .u8 (a1 ++ a2)).toArray) := hS 17 44 (by decide) rfl
  have e45 : val 45 = (.agg (ints .u8 b).toArray) := hS 18 45 (by decide) rfl
  have e46 : val 46 = (.agg (ints .u8 pM).toArray) := hS 19 46 (by decide) rfl
  have e47 : val 47 = (.agg (ints .u8 pM).toArray) := hS 20 47 (by decide) rfl
  have e48 : val 48 = (.slice A9 10 c9) := hS 21 48 (by decide) rfl
  have e49 : val 49 = (.slice A26 10 c26) := hS 22 49 (by decide) rfl
  have e51 : val 51 = (.agg (ints .u8 pM).toArray) := hS 24 51 (by decide) rfl
  have e52 : val 52 = (.bool false) := hS 25 52 (by decide) rfl
  have e53 : val 53 = (.bool false) := hS 26 53 (by decide) rfl
  simp only [putVals, List.foldl_cons, List.foldl_nil, List.drop_succ_cons, List.drop_zero, Act.put, List.setIfInBounds_toArray, List.set_cons_succ, List.set_cons_zero, e27, e28, e29, e30, e31, e32, e33, e34, e35, e36, e37, e38, e40, e41, e42, e43, e44, e45, e46, e47, e48, e49, e51, e52, e53]
  generalize val 39 = g39
  generalize val 50 = g50
  clear hS hap hla e27 e28 e29 e30 e31 e32 e33 e34 e35 e36 e37 e38 e40 e41 e42 e43 e44 e45 e46 e47 e48 e49 e51 e52 e53 
  replace h1 := h1.next hw
  replace h2 := h2.next hw
  replace hA := hA.below hw
  replace hx := hx.next hw
  replace hy := hy.next hw
  replace N26 := N26.below hw
  replace N9 := N9.below hw
  replace hW := hW.trans (Below.mono hw hW.size)
  clear hw
  go_upto_region 9 with (fail)
  have s5 := hW.size
  refine region_seq2 5 88 (fun i => i == 4) [Is (.slice (some ⟨w.heap.size, 0, none⟩) 16 17), Is (.pointer (some ⟨w.heap.size, 0, none⟩)), Is (.agg (ints .u8 a1).toArray), Is (.agg (ints .u8 cl).toArray), IsZV w5.heap.size (ints .u8 (zeros 16))] [54, 55, 56, 57, 11] (by kernel_rfl) (by kernel_rfl) (Nat.le_of_eq rfl) (grows_cons (Is.grows _) (grows_cons (Is.grows _) (grows_cons (Is.grows _) (grows_cons (Is.grows _) (grows_cons (IsZV.grows _ _) grows_nil)))))
    ⟨step_one rfl (.inl rfl) (fun ev w h hc => ex_slAh (P := Try.prog) ua22 ze22 (m := 17) (h := 16) rfl (by decide) rfl ev w h hc) rfl (knows_out 3 (by kernel_rfl) rfl),
     step_one rfl (.inl rfl) (fun ev w h hc => ex_arrP (P := Try.prog) Try.underlying33 (by decide) rfl ev w h hc) rfl (knows_in 0 54 (by decide) (by kernel_rfl) rfl rfl),
     step_ldV rfl (.inl rfl) (fun _ hw => (((h1.next hw)).lo).range) rfl Try.underlying33 rfl (szV inf33 (il H1.out)) rfl (knows_in 1 55 (by decide) (by kernel_rfl) rfl rfl),
     step_to rfl (.inl rfl) rfl cx15 K15.out rfl (one_arg (knows_in 2 56 (by decide) (by kernel_rfl) rfl rfl)),
     step_allocV (.inl rfl) inf33 rfl rfl, trivial⟩ ?_
  intro val w6 hw hS hap hla
  have e54 : val 54 = (.slice (some ⟨w.heap.size, 0, none⟩) 16 17) := hS 0 54 (by decide) rfl
  have e55 : val 55 = (.pointer (some ⟨w.heap.size, 0, none⟩)) := hS 1 55 (by decide) rfl
  have e56 : val 56 = (.agg (ints .u8 a1).toArray) := hS 2 56 (by decide) rfl
  have e57 : val 57 = (.agg (ints .u8 cl).toArray) := hS 3 57 (by decide) rfl
  obtain ⟨b11, e11, L11, Z11⟩ := hS 4 11 (by decide) rfl
  simp only [putVals, List.foldl_cons, List.foldl_nil, List.drop_succ_cons, List.drop_zero, Act.put, List.setIfInBounds_toArray, List.set_cons_succ, List.set_cons_zero, e54, e55, e56, e57, e11]
  clear hS hap hla e54 e55 e56 e57 e11 
  have LL11 := hid (show ((ints .u8 cl)).length = 16 from (il HCL.out))
  have R11 := Z11.roomA (us := (ints .u8 cl)) (LL11.out.trans (zv .u8 16).symm)
  have h11 := Z11.storedA (us := (ints .u8 cl)) (LL11.out.trans (zv .u8 16).symm)
  replace h1 := h1.next (Below.setCells hw L11 0 (ints .u8 cl).toArray.toList)
  replace h2 := h2.next (Below.setCells hw L11 0 (ints .u8 cl).toArray.toList)
  replace hA := hA.below (Below.setCells hw L11 0 (ints .u8 cl).toArray.toList)
  replace hx := hx.next (Below.setCells hw L11 0 (ints .u8 cl).toArray.toList)
  replace hy := hy.next (Below.setCells hw L11 0 (ints .u8 cl).toArray.toList)
  replace N26 := N26.below (Below.setCells hw L11 0 (ints .u8 cl).toArray.toList)
  replace N9 := N9.below (Below.setCells hw L11 0 (ints .u8 cl).toArray.toList)
  replace hW := hW.trans (Below.mono (Below.setCells hw L11 0 (ints .u8 cl).toArray.toList) hW.size)
  with_reducible refine wpList_store_mid (op := ⟨none, .store 33 (.tmp 11) (.tmp 57), _, _, _, _⟩) rfl 33 (.tmp 11) (.tmp 57) rfl b11 0 (ints .u8 cl).toArray rfl rfl R11 (szA inf33 LL11.out) (ints_all _ _) ?_
  generalize (w6.setCells b11 0 (ints .u8 cl).toArray.toList) = w7 at *
  clear hw R11 LL11 Z11 L11
  go_wp2_with (fail)
  have s7 := hW.size
  refine region_spec2 4 88 (fun _ => false) [Is (.slice (some ⟨b11, 0, none⟩) 16 16), Is (.slice (some ⟨w.heap.size, 0, none⟩) 16 17), IsRw .u8 16 cl, Is (.bool true)] [58, 59, 60, 61] (by kernel_rfl) (by kernel_rfl) (by kernel_rfl) (Nat.le_of_eq rfl) (grows_cons (Is.grows _) (grows_cons (Is.grows _) (grows_cons (IsRw.grows _ _ _) (grows_cons (Is.grows _) grows_nil))))
    ⟨step_one rfl (.inl rfl) (fun ev w h hc => ex_slA (P := Try.prog) ua33 ze33 (m := 16) rfl rfl ev w h hc) rfl (knows_out 11 (by kernel_rfl) rfl),
     step_one rfl (.inl rfl) (fun ev w h hc => ex_slAh (P := Try.prog) ua22 ze22 (m := 17) (h := 16) rfl (by decide) rfl ev w h hc) rfl (knows_out 3 (by kernel_rfl) rfl),
     step_rcl rfl (.inl rfl) rfl H1.out HB1.out HCC.out rfl ((knows_in 1 59 (by decide) (by kernel_rfl) rfl rfl).rw (fun w hw => (((h1.next hw)).lo).nums)),
     step_sam rfl (.inl rfl) rfl HCL.out (by decide) rfl ((knows_in 0 58 (by decide) (by kernel_rfl) rfl rfl).rw (fun w hw => ((h11.next hw)).nums)) (knowsW_in 2 60 (by decide) (by kernel_rfl) rfl rfl), trivial⟩ ?_
  intro val w8 hw hS hap hla
  have e58 : val 58 = (.slice (some ⟨b11, 0, none⟩) 16 16) := hS 0 58 (by decide) rfl
  have e59 : val 59 = (.slice (some ⟨w.heap.size, 0, none⟩) 16 17) := hS 1 59 (by decide) rfl
  have e61 : val 61 = (.bool true) := hS 3 61 (by decide) rfl
  simp only [putVals, List.foldl_cons, List.foldl_nil, List.drop_succ_cons, List.drop_zero, Act.put, List.setIfInBounds_toArray, List.set_cons_succ, List.set_cons_zero, e58, e59, e61]
  generalize val 60 = g60
  clear hS hap hla e58 e59 e61 
  replace h1 := h1.next hw
  replace h2 := h2.next hw
  replace hA := hA.below hw
  replace hx := hx.next hw
  replace hy := hy.next hw
  replace N26 := N26.below hw
  replace N9 := N9.below hw
  replace h11 := h11.next hw
  replace hW := hW.trans (Below.mono hw hW.size)
  clear hw
  go_upto_region 12 with (fail)
  have s8 := hW.size
  refine region_seq2 6 88 (fun i => i == 5) [Is (.slice A L c), Is (.tuple #[(.agg (ints .u8 pX).toArray), (.int .i64 er)]), Is (.tuple #[(.agg (ints .u8 pX).toArray), (.int .i64 er)]), Is (.agg (ints .u8 pX).toArray), Is (.int .i64 er), IsZV w8.heap.size (ints .u8 (zeros 17))] [64, 65, 63, 66, 67, 12] (by kernel_rfl) (by kernel_rfl) (Nat.le_of_eq rfl) (grows_cons (Is.grows _) (grows_cons (Is.grows _) (grows_cons (Is.grows _) (grows_cons (Is.grows _) (grows_cons (Is.grows _) (grows_cons (IsZV.grows _ _) grows_nil))))))
    ⟨step_mvP rfl (.inl rfl) rfl rfl (knows_out 2 (by kernel_rfl) rfl),
     step_cw rfl (.inl rfl) rfl cx18 rfl (fun aa ww hw hf hd => ⟨_, (one_arg (knows_in 0 64 (by decide) (by kernel_rfl) rfl rfl)) aa ww hw hf hd, (KO.out ww (hA.below hw))⟩),
     step_mvP rfl (.inl rfl) rfl rfl (knows_in 1 65 (by decide) (by kernel_rfl) rfl rfl),
     step_fst rfl (.inl rfl) rfl rfl (knows_in 2 63 (by decide) (by kernel_rfl) rfl rfl),
     step_snd rfl (.inl rfl) rfl rfl (knows_in 2 63 (by decide) (by kernel_rfl) rfl rfl),
     step_allocV (.inl rfl) inf25 rfl rfl, trivial⟩ ?_
  intro val w9 hw hS hap hla
  have e64 : val 64 = (.slice A L c) := hS 0 64 (by decide) rfl
  have e65 : val 65 = (.tuple #[(.agg (ints .u8 pX).toArray), (.int .i64 er)]) := hS 1 65 (by decide) rfl
  have e63 : val 63 = (.tuple #[(.agg (ints .u8 pX).toArray), (.int .i64 er)]) := hS 2 63 (by decide) rfl
  have e66 : val 66 = (.agg (ints .u8 pX).toArray) := hS 3 66 (by decide) rfl
  have e67 : val 67 = (.int .i64 er) := hS 4 67 (by decide) rfl
  obtain ⟨b12, e12, L12, Z12⟩ := hS 5 12 (by decide) rfl
  simp only [putVals, List.foldl_cons, List.foldl_nil, List.drop_succ_cons, List.drop_zero, Act.put, List.setIfInBounds_toArray, List.set_cons_succ, List.set_cons_zero, e64, e65, e63, e66, e67, e12]
  clear hS hap hla e64 e65 e63 e66 e67 e12 
  have LL12 := hid (show ((ints .u8 pX)).length = 17 from (il HLpX.out))
  have R12 := Z12.roomA (us := (ints .u8 pX)) (LL12.out.trans (zv .u8 17).symm)
  have h12 := Z12.storedA (us := (ints .u8 pX)) (LL12.out.trans (zv .u8 17).symm)
  replace h1 := h1.next (Below.setCells hw L12 0 (ints .u8 pX).toArray.toList)
  replace h2 := h2.next (Below.setCells hw L12 0 (ints .u8 pX).toArray.toList)
  replace hA := hA.below (Below.setCells hw L12 0 (ints .u8 pX).toArray.toList)
  replace hx := hx.next (Below.setCells hw L12 0 (ints .u8 pX).toArray.toList)
  replace hy := hy.next (Below.setCells hw L12 0 (ints .u8 pX).toArray.toList)
  replace N26 := N26.below (Below.setCells hw L12 0 (ints .u8 pX).toArray.toList)
  replace N9 := N9.below (Below.setCells hw L12 0 (ints .u8 pX).toArray.toList)
  replace h11 := h11.next (Below.setCells hw L12 0 (ints .u8 pX).toArray.toList)
  replace hW := hW.trans (Below.mono (Below.setCells hw L12 0 (ints .u8 pX).toArray.toList) hW.size)
  with_reducible refine wpList_store_mid (op := ⟨none, .store 25 (.tmp 12) (.tmp 66), _, _, _, _⟩) rfl 25 (.tmp 12) (.tmp 66) rfl b12 0 (ints .u8 pX).toArray rfl rfl R12 (szA inf25 LL12.out) (ints_all _ _) ?_
  generalize (w9.setCells b12 0 (ints .u8 pX).toArray.toList) = w10 at *
  clear hw R12 LL12 Z12 L12
  rcases HCASE.out with ⟨hl17, rfl, HpmX⟩ | ⟨hl17, rfl, hz⟩
  · clear HCASE
    have gL : ¬ (17 : Int) < (L : Int) := by omega
    go_wp2_with (fail)
    have s10 := hW.size
    refine region_spec2 10 88 (fun _ => false) [Is (.int .i64 0), Is (.bool true), Is (.bool true), Is (.agg (ints .u8 pX).toArray), Is (.slice A L c), IsRw .i64 q (pr x), IsN mX, Is (.agg (ints .u8 pX).toArray), Is (.bool true), Is (.bool true)] [78, 79, 80, 81, 82, 83, 84, 85, 86, 87] (by kernel_rfl) (by kernel_rfl) (by kernel_rfl) (Nat.le_of_eq rfl) (grows_cons (Is.grows _) (grows_cons (Is.grows _) (grows_cons (Is.grows _) (grows_cons (Is.grows _) (grows_cons (Is.grows _) (grows_cons (IsRw.grows _ _ _) (grows_cons (IsN.grows _) (grows_cons (Is.grows _) (grows_cons (Is.grows _) (grows_cons (Is.grows _) grows_nil))))))))))
      ⟨step_mvP rfl (.inl rfl) rfl rfl (knows_out 13 (by kernel_rfl) rfl),
       step_eqC rfl (.inl rfl) rfl Try.underlying37 rfl (by decide) (knows_in 0 78 (by decide) (by kernel_rfl) rfl rfl),
       step_mvP rfl (.inl rfl) rfl rfl (knows_in 1 79 (by decide) (by kernel_rfl) rfl rfl),
       step_ldV rfl (.inr ⟨2, true, 80, rfl, by decide, by kernel_rfl, rfl, fun _ _ h => h⟩) (fun _ hw => (h12.next hw).range) rfl Try.underlying25 rfl (szV inf25 (il HLpX.out)) rfl (knows_out 12 (by kernel_rfl) rfl),
       step_mvP rfl (.inr ⟨2, true, 80, rfl, by decide, by kernel_rfl, rfl, fun _ _ h => h⟩) rfl rfl (knows_out 2 (by kernel_rfl) rfl),
       step_dig rfl (.inr ⟨2, true, 80, rfl, by decide, by kernel_rfl, rfl, fun _ _ h => h⟩) rfl HXL.out HL1.out HQ.out HXB.out rfl ((knows_in 4 82 (by decide) (by kernel_rfl) rfl rfl).rw (fun w hw => hA.below hw)),
       step_mod rfl (.inr ⟨2, true, 80, rfl, by decide, by kernel_rfl, rfl, fun _ _ h => h⟩) rfl HXL.out HL1.out HQ.out HXB.out HmX.out rfl (knowsW_in 5 83 (by decide) (by kernel_rfl) rfl rfl),
       step_rby rfl (.inr ⟨2, true, 80, rfl, by decide, by kernel_rfl, rfl, fun _ _ h => h⟩) rfl HpmX.out rfl (knowsW_in 6 84 (by decide) (by kernel_rfl) rfl rfl),
       step_eqA rfl (.inr ⟨2, true, 80, rfl, by decide, by kernel_rfl, rfl, fun _ _ h => h⟩) rfl eqt22 HLpX.out HLpX.out (decide_eq_true rfl) rfl (knows_in 3 81 (by decide) (by kernel_rfl) rfl rfl) (knows_in 7 85 (by decide) (by kernel_rfl) rfl rfl),
       step_pick rfl (.inl rfl) (b := true) rfl rfl (knows_in 2 80 (by decide) (by kernel_rfl) rfl rfl) (knows_in 8 86 (by decide) (by kernel_rfl) rfl rfl), trivial⟩ ?_
    intro val w11 hw hS hap hla
    have e78 : val 78 = (.int .i64 0) := hS 0 78 (by decide) rfl
    have e79 : val 79 = (.bool true) := hS 1 79 (by decide) rfl
    have e80 : val 80 = (.bool true) := hS 2 80 (by decide) rfl
    have e81 : val 81 = (.agg (ints .u8 pX).toArray) := hS 3 81 (by decide) rfl
    have e82 : val 82 = (.slice A L c) := hS 4 82 (by decide) rfl
    have e85 : val 85 = (.agg (ints .u8 pX).toArray) := hS 7 85 (by decide) rfl
    have e86 : val 86 = (.bool true) := hS 8 86 (by decide) rfl
    have e87 : val 87 = (.bool true) := hS 9 87 (by decide) rfl
    simp only [putVals, List.foldl_cons, List.foldl_nil, List.drop_succ_cons, List.drop_zero, Act.put, List.setIfInBounds_toArray, List.set_cons_succ, List.set_cons_zero, e78, e79, e80, e81, e82, e85, e86, e87]
    generalize val 83 = g83
    generalize val 84 = g84
    clear hS hap hla e78 e79 e80 e81 e82 e85 e86 e87 
    replace h1 := h1.next hw
    replace h2 := h2.next hw
    replace hA := hA.below hw
    replace hx := hx.next hw
    replace hy := hy.next hw
    replace N26 := N26.below hw
    replace N9 := N9.below hw
    replace h11 := h11.next hw
    replace h12 := h12.next hw
    replace hW := hW.trans (Below.mono hw hW.size)
    clear hw
    go_wp2
    go_ret
    exact ⟨rfl, hW⟩
  · subst hz
    clear HCASE
    have gL : (17 : Int) < (L : Int) := by omega
    go_upto_region 14 with (fail)
    have s10 := hW.size
    refine region_seq2 8 88 (fun _ => false) [Is (.int .i64 3), Is (.bool true), Is (.bool true), Is (.agg (ints .u8 (zeros 17)).toArray), Is (.agg (ints .u8 (zeros 17)).toArray), Is (.bool true), Is (.bool true), Is (.bool true)] [71, 72, 73, 74, 75, 76, 77, 6] (by kernel_rfl) (by kernel_rfl) (Nat.le_of_eq rfl) (grows_cons (Is.grows _) (grows_cons (Is.grows _) (grows_cons (Is.grows _) (grows_cons (Is.grows _) (grows_cons (Is.grows _) (grows_cons (Is.grows _) (grows_cons (Is.grows _) (grows_cons (Is.grows _) grows_nil))))))))
      ⟨step_mvP rfl (.inl rfl) rfl rfl (knows_out 13 (by kernel_rfl) rfl),
       step_eqC rfl (.inl rfl) rfl Try.underlying37 rfl (by decide) (knows_in 0 71 (by decide) (by kernel_rfl) rfl rfl),
       step_mvP rfl (.inl rfl) rfl rfl (knows_in 1 72 (by decide) (by kernel_rfl) rfl rfl),
       step_ldV rfl (.inr ⟨2, true, 73, rfl, by decide, by kernel_rfl, rfl, fun _ _ h => h⟩) (fun _ hw => (h12.next hw).range) rfl Try.underlying25 rfl (szV inf25 (il (zeros_len 17))) rfl (knows_out 12 (by kernel_rfl) rfl),
       step_buildP rfl (.inr ⟨2, true, 73, rfl, by decide, by kernel_rfl, rfl, fun _ _ h => h⟩) rfl built25 rfl (partsN),
       step_eqA rfl (.inr ⟨2, true, 73, rfl, by decide, by kernel_rfl, rfl, fun _ _ h => h⟩) rfl eqt25 (zeros_len 17) (zeros_len 17) (decide_eq_true rfl) rfl (knows_in 3 74 (by decide) (by kernel_rfl) rfl rfl) (knows_in 4 75 (by decide) (by kernel_rfl) rfl rfl),
       step_pick rfl (.inl rfl) (b := true) rfl rfl (knows_in 2 73 (by decide) (by kernel_rfl) rfl rfl) (knows_in 5 76 (by decide) (by kernel_rfl) rfl rfl),
       step_asgP rfl (.inl rfl) rfl rfl (knows_in 6 77 (by decide) (by kernel_rfl) rfl rfl), trivial⟩ ?_
    intro val w11 hw hS hap hla
    have e71 : val 71 = (.int .i64 3) := hS 0 71 (by decide) rfl
    have e72 : val 72 = (.bool true) := hS 1 72 (by decide) rfl
    have e73 : val 73 = (.bool true) := hS 2 73 (by decide) rfl
    have e74 : val 74 = (.agg (ints .u8 (zeros 17)).toArray) := hS 3 74 (by decide) rfl
    have e75 : val 75 = (.agg (ints .u8 (zeros 17)).toArray) := hS 4 75 (by decide) rfl
    have e76 : val 76 = (.bool true) := hS 5 76 (by decide) rfl
    have e77 : val 77 = (.bool true) := hS 6 77 (by decide) rfl
    have e6 : val 6 = (.bool true) := hS 7 6 (by decide) rfl
    simp only [putVals, List.foldl_cons, List.foldl_nil, List.drop_succ_cons, List.drop_zero, Act.put, List.setIfInBounds_toArray, List.set_cons_succ, List.set_cons_zero, e71, e72, e73, e74, e75, e76, e77, e6]
    clear hS hap hla e71 e72 e73 e74 e75 e76 e77 e6 
    replace h1 := h1.next hw
    replace h2 := h2.next hw
    replace hA := hA.below hw
    replace hx := hx.next hw
    replace hy := hy.next hw
    replace N26 := N26.below hw
    replace N9 := N9.below hw
    replace h11 := h11.next hw
    replace h12 := h12.next hw
    replace hW := hW.trans (Below.mono hw hW.size)
    clear hw
    go_wp2
    go_ret
    exact ⟨rfl, hW⟩
theorem numbers_long (a b : List Int) (A : Option Addr) (L c : Nat) (w : World) (hL : 100 < L) : Calls Try.prog 3 #[.agg (ints .u8 a).toArray, .agg (ints .u8 b).toArray, .slice A L c] w fun e w' => e = .returned (.bool true) ∧ Below w.heap.size w w' := by
  have hL4 : (100 : Int) < L := by omega
  have hW := (below_new w (.cells (ints .u8 a).toArray 22)).alloc (by simp) (.cells (ints .u8 b).toArray 22)
  clear hL
  go_enter Try.func3, Try.ntmps3
  go_wp2_with (fail)
  generalize ((w.alloc (.cells (ints .u8 a).toArray 22)).alloc (.cells (ints .u8 b).toArray 22)) = w0 at *
  refine (c_awake _).mono ?_
  rintro e w1 ⟨rfl, hb1⟩
  replace hW := hW.trans (Below.mono hb1 hW.size)
  go_wp2
  go_ret
  exact ⟨rfl, hW⟩
theorem pb_mod_idem {r : List Int} {m : Nat} (hr : pb (m % PN) = r) : CallsTo 9 #[.agg (ints .u8 r).toArray] (.agg (ints .u8 r).toArray) := by
  subst hr
  have h := c_bytes (pb_length _) (pb_byt (m % PN))
  rw [pmod_bn, Nat.mod_mod] at h
  exact h
theorem numbers_any (a b x : List Int) (A : Option Addr) (c : Nat) (w : World) (ha : a.length = 17) (hb : b.length = 17) (ya : Byt a) (yb : Byt b) (yx : Byt x) (hA : Nums w .u8 A x) :
    Calls Try.prog 3 #[.agg (ints .u8 a).toArray, .agg (ints .u8 b).toArray, .slice A x.length c] w fun e w' => e = .returned (.bool true) ∧ Below w.heap.size w w' := by
  obtain ⟨L, hL⟩ : ∃ L, x.length = L := ⟨_, rfl⟩
  rw [hL]
  by_cases h4 : L ≤ 100
  · have e := List.take_append_drop 16 a
    have h1 : (a.take 16).length = 16 := by simp [ha]
    have h2 : (a.drop 16).length = 1 := by simp [ha]
    have k9 := c_bytes ha ya
    have k11 := c_add ha hb ya yb
    have k13 := c_mul ha hb ya yb
    have eS : (bn a % PN + bn b % PN) % PN = (bn a + bn b) % PN := (Nat.add_mod _ _ _).symm
    have eM : (bn a % PN) * (bn b % PN) % PN = bn a * bn b % PN := (Nat.mul_mod _ _ _).symm
    have key : ∀ pX er, pX.length = 17 → (∀ w, Nums w .u8 A x → Calls Try.prog 18 #[.slice A L c] w fun e w' => e = .returned (.tuple #[.agg (ints .u8 pX).toArray, .int .i64 er]) ∧ Below w.heap.size w w') → (L ≤ 17 ∧ er = 0 ∧ Hid (pb (bn x % PN) = pX) ∨ 17 < L ∧ er = 3 ∧ pX = zeros 17) → Calls Try.prog 3 #[.agg (ints .u8 a).toArray, .agg (ints .u8 b).toArray, .slice A L c] w fun e w' => e = .returned (.bool true) ∧ Below w.heap.size w w' := by
      intro pX er hlX hO hcase
      have := numbers_core (a.take 16) (a.drop 16) b x (clampL (a.take 16)) (pb (bn a % PN)) (pb ((bn a + bn b) % PN)) (pb (bn a * bn b % PN)) pX A L c ((L + 1) / 2) (bn a % PN) (bn b % PN) ((bn a + bn b) % PN) (bn a * bn b % PN) (bn x % PN) er w
        (hid h1) (hid h2) (hid (ya.take 16)) (hid (ya.drop 16)) (hid (by rw [e]; exact ha)) (hid (by rw [e]; exact ya)) (hid hb) (hid yb) (hid hL) (hid yx) (hid (by omega)) h4 (hid rfl) (hid (by rw [e])) (hid rfl) (hid (Nat.mod_lt _ pn_pos)) (hid (Nat.mod_lt _ pn_pos)) (hid eS) (hid eM) (hid rfl)
        (hid rfl) (hid rfl) (hid rfl) (hid (pb_length _)) (hid (pb_length _)) (hid (pb_length _)) (hid hlX) (hid (clampL_length _)) (hid rfl)
        (hid (by rw [e]; exact k9)) (hid (by rw [e]; exact k11)) (hid (pb_mod_idem rfl)) (hid (by rw [e]; exact k13)) (hid (pb_mod_idem rfl)) (hid (c_clamp h1 (ya.take 16))) (hid hO) hcase hA
      rwa [e] at this
    by_cases h17 : L ≤ 17
    · exact key (pb (bn x % PN)) 0 (pb_length _) (fun w hw => of_yes A L c x w hL h17 yx hw) (.inl ⟨h17, rfl, hid rfl⟩)
    · exact key (zeros 17) 3 (zeros_len 17) (fun w _ => of_no A L c w (by omega)) (.inr ⟨by omega, rfl, rfl⟩)
  · exact numbers_long a b A L c w (by omega)
end Go.Proofs.Ythohfhloobmlpaa
