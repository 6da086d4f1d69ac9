/- Texts of this proof, laid together: BTop, BAwake, BTupE. -/
import Derived.Test.YtkblmdakejmmhaaDoorG36
import Derived.Deep.Cut
import Derived.Test.YtkblmdakejmmhaaDoorG35
import Derived.Test.YtkblmdakejmmhaaDoorG33
/- Any wrapped text, its length, the example's numbers. -/
namespace Go.Proofs.YtkblmdakejmmhaaDoor
open Go Go.RowKit

/-- Whether a secret and a public key come to noughts; a wrapped text. -/
def noughtB (s p : List Int) : Bool := decide (shL s p = rbytes 0)
def wrapL (sd pu t : List Int) : List Int := if noughtB sd pu then [] else pubL sd ++ sealL (boxK (shL sd pu) (pubL sd) pu) (zeros 12) [] t
def wrapE (sd pu : List Int) : Int := if noughtB sd pu then 21 else 0
set_option maxRecDepth 50000 in
theorem pub_len (s : List Int) : (pubL s).length = 32 := rbytes_length _
set_option maxRecDepth 50000 in
theorem sh_len (s p : List Int) : (shL s p).length = 32 := rbytes_length _
set_option maxRecDepth 50000 in
theorem boxK_len (x s r : List Int) : (boxK x s r).length = 32 := keyD_len _ _ _
set_option maxRecDepth 50000 in
theorem pub_byt (s : List Int) : HByt (pubL s) := rbytes_byt _
set_option maxRecDepth 50000 in
theorem sh_byt (s p : List Int) : HByt (shL s p) := rbytes_byt _
set_option maxRecDepth 50000 in
theorem boxK_byt (x s r : List Int) : HByt (boxK x s r) := keyD_byt _ _ _
set_option maxRecDepth 50000 in
theorem z12_byt : HByt (zeros 12) := fun x hx => by rw [List.eq_of_mem_replicate hx]; omega
set_option maxRecDepth 50000 in
theorem pl_nil : PLZ 0 [] := ⟨rfl, by decide, fun _ h => by cases h⟩
set_option maxRecDepth 50000 in
theorem agree_zero {mi th : List Int} (se re : List Int) (h1 : mi.length = 32) (b1 : HByt mi) (h2 : th.length = 32) (b2 : HByt th) (h3 : se.length = 32) (h4 : re.length = 32) (h : noughtB mi th = true) (w : World) (hT : TabsH w) :
    Calls Tryd.prog 10 #[.agg (ints .u8 mi).toArray, .agg (ints .u8 th).toArray, .agg (ints .u8 se).toArray, .agg (ints .u8 re).toArray] w fun e w' => e = .returned (.tuple #[.agg (ints .u8 (hzeros 32)).toArray, .int .i64 21]) ∧ Below w.heap.size w w' := by
  have hs := c_shared h1 b1 h2 b2 true h
  exact agree_no mi th se re (shL mi th) w hT (hid h1) (hid h2) (hid h3) (hid h4) (hid (sh_len _ _)) (hid hs)
set_option maxRecDepth 50000 in
theorem agree_key {mi th se re : List Int} (h1 : mi.length = 32) (b1 : HByt mi) (h2 : th.length = 32) (b2 : HByt th) (h3 : se.length = 32) (b3 : HByt se) (h4 : re.length = 32) (b4 : HByt re) (h : noughtB mi th = false) (w : World) (hT : TabsH w) :
    Calls Tryd.prog 10 #[.agg (ints .u8 mi).toArray, .agg (ints .u8 th).toArray, .agg (ints .u8 se).toArray, .agg (ints .u8 re).toArray] w fun e w' => e = .returned (.tuple #[.agg (ints .u8 (boxK (shL mi th) se re)).toArray, .int .i64 0]) ∧ Below w.heap.size w w' := by
  have hs := c_shared h1 b1 h2 b2 false h
  exact agree_yes (boxK (shL mi th) se re) mi th se re (shL mi th) w hT (hid h1) (hid h2) (hid h3) (hid h4) (hid (sh_len _ _)) b3 b4 (sh_byt _ _) (hid rfl) (hid (boxK_len _ _ _)) (hid hs)
set_option maxRecDepth 50000 in
theorem wrap_some (sd pu t : List Int) (AT : Option Addr) (lt ct : Nat) (w : World) (hT : TabsH w) (hC : Tabs w) (h1 : sd.length = 32) (b1 : HByt sd) (h2 : pu.length = 32) (b2 : HByt pu) (hl : t.length = lt) (hlt : lt ≤ 400) (bt : HByt t) (hA : Nums w .u8 AT t) (h : noughtB sd pu = false) :
    Calls Tryd.prog 5 #[.agg (ints .u8 sd).toArray, .agg (ints .u8 pu).toArray, .slice AT lt ct] w fun e w' => ∃ v, e = .returned v ∧ IsTup (32 + (lt + 16)) (wrapL sd pu t) v w' ∧ Below w.heap.size w w' := by
  have hw : wrapL sd pu t = pubL sd ++ sealL (boxK (shL sd pu) (pubL sd) pu) (zeros 12) [] t := by unfold wrapL; rw [h]; rfl
  rw [hw]
  have hk := boxK_len (shL sd pu) (pubL sd) pu
  have hkb := boxK_byt (shL sd pu) (pubL sd) pu
  have hag := fun w hT => agree_key h1 b1 h2 b2 (pub_len sd) (pub_byt sd) h2 b2 h w hT
  clear hw
  generalize boxK (shL sd pu) (pubL sd) pu = K at *
  refine (wrap_yes (sealL K (zeros 12) [] t) sd pu (pubL sd) K AT lt ct t w hT hC (hid h1) (hid h2) (hid (pub_len sd)) (hid hk) hlt hA (hid (c_public h1 b1)) (pub_byt sd) (hid ?_) (sealL_byt bt) (hid hag) (hid fun w hC hA => ?_)).mono fun e w' ⟨A, d, he, hd, hN, hb⟩ => ⟨_, he, ⟨A, d, rfl, hd, hN⟩, hb⟩
  · rw [sealL_len hk (zeros_len 12) (by omega), hl]
  · exact (aseal_any K (zeros 12) [] t none AT 0 0 lt ct w hC (hid hk) (hid (zeros_len 12)) hkb z12_byt bt (hid pl_nil) (hid hl) hlt (Nat.le_refl _) Nums.nil hA).mono fun e w' ⟨A, d, he, hd, hN, hb⟩ => ⟨_, he, ⟨A, d, rfl, hd, hN⟩, hb⟩
/-- How long a wrapped text is. -/
def sizeB (n : Int) : Int := if 0 ≤ n ∧ n ≤ 1048528 then n + 48 else 0
set_option maxRecDepth 50000 in
theorem size_any (n : Int) (w : World) : Calls Tryd.prog 9 #[.int .i64 n] w fun e w' => e = .returned (.int .i64 (sizeB n)) ∧ Below w.heap.size w w' := by
  have hW := Below.refl w.heap.size w
  unfold sizeB
  by_cases h0 : n < 0
  · rw [if_neg (by omega)]
    have e0 : decide (n < 0) = true := decide_eq_true h0
    clear h0
    go_enter Tryd.func9, Tryd.ntmps9
    go_wp2
    go_ret
    exact ⟨rfl, hW⟩
  · have e0 : decide (n < 0) = false := decide_eq_false h0
    by_cases h1 : n ≤ 1048528
    · rw [if_pos ⟨by omega, h1⟩]
      have e1 : decide (1048528 < n) = false := decide_eq_false (by omega)
      have ew : IntKind.i64.wrap (n + 48) = n + 48 := IntWalk.i64_in _ (by omega)
      clear h0 h1
      go_enter Tryd.func9, Tryd.ntmps9
      go_wp2
      go_ret
      exact ⟨rfl, hW⟩
    · rw [if_neg (by omega)]
      have e1 : decide (1048528 < n) = true := decide_eq_true (by omega)
      clear h0 h1
      go_enter Tryd.func9, Tryd.ntmps9
      go_wp2
      go_ret
      exact ⟨rfl, hW⟩
set_option maxRecDepth 50000 in
theorem base_nine : uOf baseL = 9 := by decide +kernel
set_option maxRecDepth 50000 in
theorem v1_back : uOf (rbytes v1B) = v1B := by decide +kernel
set_option maxRecDepth 50000 in
theorem v2_some : rbytes v2B ≠ rbytes 0 := by decide +kernel
set_option maxRecDepth 50000 in
theorem ex_some : noughtB oneB (pubL twoB) = false := by
  refine decide_eq_false ?_
  unfold shL pubL
  rw [base_nine, mul_two9, v1_back, mul_one_v]
  exact v2_some
set_option maxRecDepth 50000 in
theorem oneB_len : oneB.length = 32 := by decide
set_option maxRecDepth 50000 in
theorem twoB_len : twoB.length = 32 := by decide
set_option maxRecDepth 50000 in
theorem oneB_byt : HByt oneB := by unfold HByt; decide
set_option maxRecDepth 50000 in
theorem twoB_byt : HByt twoB := by unfold HByt; decide
set_option maxRecDepth 50000 in
theorem builtB1 : Tryd.prog.built 22 [(0, .int .u8 1)] = some (ints .u8 oneB).toArray := by kernel_rfl
set_option maxRecDepth 50000 in
theorem builtB2 : Tryd.prog.built 22 [(0, .int .u8 2)] = some (ints .u8 twoB).toArray := by kernel_rfl
set_option maxRecDepth 50000 in
theorem makeB (w : World) : (Instr.makeSlice 23 (.int .i64 5) (.int .i64 5)).run Tryd.prog w = .ok (.slice (some ⟨w.heap.size, 0, none⟩) 5 5) (w.alloc (.cells (ints .u8 (zeros 5)).toArray 5)) := by
  have hi := Tryd.info5
  cases hc : Tryd.prog.info? 5 with
  | none => rw [hc] at hi; simp at hi
  | some i =>
    rw [hc] at hi
    simp only [Option.map_some, Option.some.injEq, Prod.mk.injEq] at hi
    have h2 := run_make (P := Tryd.prog) w 23 5 i (.int .u8 0) (by kernel_rfl) hc hi.1 .i64 .i64 5 5 (by omega) (by omega) (by rw [hi.2.2]; omega) (by omega)
    rw [h2, hi.2.1]
    simp only [Nat.mul_one]
    congr 3
    apply Array.toList_inj.1
    show (madeCells #[.int .u8 0] 5).toList = _
    rw [toList_madeCells_one]
    rfl
set_option maxRecDepth 50000 in
theorem cxWraB (vs : Array Value) (w : World) : (callFunc 5 vs).run Tryd.prog w = .ok (.enter 5 vs) w := by go_simp
set_option maxRecDepth 50000 in
theorem cxSizB (vs : Array Value) (w : World) : (callFunc 9 vs).run Tryd.prog w = .ok (.enter 9 vs) w := by go_simp
section
variable {ops : Array Oper} {md : Region.Mode} {W : World} {a0 : Act} {n : Nat} {al : Nat → Bool} {S : Nat → Value → World → Prop} {Q : Exit → Act → World → Prop} {i : Nat} {o : Oper}
set_option maxRecDepth 50000 in
theorem step_makeB (hal : al i = false) (hg : GuardOn ops md n S i o) (ho : o.op = .makeSlice 23 (.const (.int .i64 5)) (.const (.int .i64 5))) (hS : S i = IsPart 5 (zeros 5)) : StepOk Tryd.prog ops md W a0 n al S Q i o := fun a w _ _ hd => by
  rw [if_pos (hg.wanted hd)]
  have hm := makeB w
  have hr : (execOp a.eval o).run Tryd.prog w = .ok (.value (.slice (some ⟨w.heap.size, 0, none⟩) 5 5)) (w.alloc (.cells (ints .u8 (zeros 5)).toArray 5)) := by
    unfold execOp
    simp only [ho, Act.eval, Sem.run_bind, hm, Result.andThen_ok, Sem.run_pure]
  unfold Oper.wp
  rw [hr, Oper.upon_value]
  refine ⟨_, rfl, ?_, below_new w _, fun e => by rw [hal] at e; cases e⟩
  rw [hS]
  exact ⟨some ⟨w.heap.size, 0, none⟩, 5, rfl, Nat.le_refl _, (Arr.made w .u8 (zeros 5) 5).nums⟩
set_option maxRecDepth 50000 in
theorem step_wrapB (hal : al i = false) (hg : GuardOn ops md n S i o) {x y z : Operand} {ts : Array TypeId} {sd pu t r : List Int} {lt m : Nat} (ho : o.op = .call { callee := .value (.func 5), args := #[x, y, z], argTypes := ts })
    (hW : ∀ (w : World) (A : Option Addr) (c : Nat), Cl W w → lt ≤ c → Nums w .u8 A t → Calls Tryd.prog 5 #[.agg (ints .u8 sd).toArray, .agg (ints .u8 pu).toArray, .slice A lt c] w fun e w' => ∃ v, e = .returned v ∧ IsTup m r v w' ∧ Below w.heap.size w w') (hS : S i = IsTup m r)
    (hx : Knows ops md W a0 n S i x (.agg (ints .u8 sd).toArray)) (hy : Knows ops md W a0 n S i y (.agg (ints .u8 pu).toArray)) (hz : KnowsW ops md W a0 n S i z (IsPart lt t)) : StepOk Tryd.prog ops md W a0 n al S Q i o :=
  step_callR hal hg ho cxWraB hS fun a w hw hf hd => by
    obtain ⟨A, c, h1, h2, h3⟩ := hz a w hw hf hd
    refine ⟨_, ?_, hW w A c hw h2 h3⟩
    have e : (#[x, y, z] : Array Operand).map a.eval = #[a.eval x, a.eval y, a.eval z] := by simp
    rw [e, h1, hx a w hw hf hd, hy a w hw hf hd]
end
end Go.Proofs.YtkblmdakejmmhaaDoor

/- The example holds. -/
namespace Go.Proofs.YtkblmdakejmmhaaDoor
open Go Go.RowKit

set_option maxRecDepth 50000 in
set_option maxHeartbeats 4000000 in
theorem awake_core (o t p z : List Int) (w : World) (hT : TabsH w) (hC : Tabs w) (HO : Hid (o.length = 32)) (HT2 : Hid (t.length = 32)) (HPL : Hid (p.length = 32)) (HB1 : Hid (Tryd.prog.built 22 [(0, .int .u8 1)] = some (ints .u8 o).toArray)) (HB2 : Hid (Tryd.prog.built 22 [(0, .int .u8 2)] = some (ints .u8 t).toArray))
    (HP : Hid (CallsTo 6 #[.agg (ints .u8 t).toArray] (.agg (ints .u8 p).toArray))) (HSZ : Hid (∀ w, Calls Tryd.prog 9 #[.int .i64 5] w fun e w' => e = .returned (.int .i64 53) ∧ Below w.heap.size w w'))
    (HW : Hid (∀ (w : World) (A : Option Addr) (c : Nat), TabsH w → Tabs w → 5 ≤ c → Nums w .u8 A (zeros 5) → Calls Tryd.prog 5 #[.agg (ints .u8 o).toArray, .agg (ints .u8 p).toArray, .slice A 5 c] w fun e w' => ∃ v, e = .returned v ∧ IsTup 53 z v w' ∧ Below w.heap.size w w')) :
    Calls Tryd.prog 4 #[] w fun e w' => e = .returned (.bool true) ∧ Below w.heap.size w w' := by
  have hW := Below.refl w.heap.size w
  go_enter Tryd.func4, Tryd.ntmps4
  go_upto_region 1 with (fail)
  have s0 := hW.size
  refine region_spec2 9 22 (fun _ => false) [Is (.agg (ints .u8 o).toArray), Is (.agg (ints .u8 t).toArray), Is (.agg (ints .u8 p).toArray), IsPart 5 (zeros 5), IsTup 53 z, IsTup 53 z, IsPart 53 z, Is (.int .i64 0), IsPart 53 z] [4, 5, 6, 7, 8, 3, 9, 10, 1] (by kernel_rfl) (by kernel_rfl) (by kernel_rfl) (Nat.le_of_eq rfl) (grows_cons (Is.grows _) (grows_cons (Is.grows _) (grows_cons (Is.grows _) (grows_cons (IsPart.grows _ _) (grows_cons (IsTup.grows _ _) (grows_cons (IsTup.grows _ _) (grows_cons (IsPart.grows _ _) (grows_cons (Is.grows _) (grows_cons (IsPart.grows _ _) grows_nil)))))))))
    ⟨step_buildP rfl (.inl rfl) rfl HB1.out rfl (parts1 (knows_const _)),
     step_buildP rfl (.inl rfl) rfl HB2.out rfl (parts1 (knows_const _)),
     step_to rfl (.inl rfl) rfl cxPubB HP.out rfl (one_arg (knows_in 1 5 (by decide) (by kernel_rfl) rfl rfl)),
     step_makeB rfl (.inl rfl) rfl rfl,
     step_wrapB rfl (.inl rfl) rfl (fun ww A c hw h5 hN => HW.out ww A c (hT.next hw) (hC.next hw) h5 hN) rfl (knows_in 0 4 (by decide) (by kernel_rfl) rfl rfl) (knows_in 2 6 (by decide) (by kernel_rfl) rfl rfl) (knowsW_in 3 7 (by decide) (by kernel_rfl) rfl rfl),
     step_copyW rfl (.inl rfl) 4 8 (.inl rfl) rfl (by decide) (by kernel_rfl) rfl rfl,
     tup_fst rfl (.inl rfl) rfl rfl (knowsW_in 5 3 (by decide) (by kernel_rfl) rfl rfl),
     tup_snd rfl (.inl rfl) rfl rfl (knowsW_in 5 3 (by decide) (by kernel_rfl) rfl rfl),
     step_copyW rfl (.inl rfl) 6 9 (.inr rfl) rfl (by decide) (by kernel_rfl) rfl rfl, trivial⟩ ?_
  intro val w1 hw hS hap hla
  have e4 : val 4 = (.agg (ints .u8 o).toArray) := hS 0 4 (by decide) rfl
  have e5 : val 5 = (.agg (ints .u8 t).toArray) := hS 1 5 (by decide) rfl
  have e6 : val 6 = (.agg (ints .u8 p).toArray) := hS 2 6 (by decide) rfl
  have e10 : val 10 = (.int .i64 0) := hS 7 10 (by decide) rfl
  obtain ⟨B1, c1, e1, h1, N1⟩ := hS 8 1 (by decide) rfl
  simp only [putVals, List.foldl_cons, List.foldl_nil, List.drop_succ_cons, List.drop_zero, Act.put, List.setIfInBounds_toArray, List.set_cons_succ, List.set_cons_zero, e4, e5, e6, e10, e1]
  generalize val 7 = g7
  generalize val 8 = g8
  generalize val 3 = g3
  generalize val 9 = g9
  clear hS hap hla e4 e5 e6 e10 e1 
  replace hT := hT.next hw
  replace hC := hC.next hw
  replace hW := hW.trans (Below.mono hw hW.size)
  clear hw
  go_upto_region 2 with (fail)
  have s1 := hW.size
  refine region_seq2 12 22 (fun _ => false) [Is (.int .i64 0), Is (.bool true), Is (.bool true), Is (.slice B1 53 c1), Is (.int .i64 53), Is (.bool true), Is (.bool true), Is (.bool true), Is (.int .i64 53), Is (.bool true), Is (.bool true), Is (.bool true)] [11, 12, 13, 14, 15, 16, 17, 18, 19, 20, 21, 0] (by kernel_rfl) (by kernel_rfl) (Nat.le_of_eq rfl) (grows_cons (Is.grows _) (grows_cons (Is.grows _) (grows_cons (Is.grows _) (grows_cons (Is.grows _) (grows_cons (Is.grows _) (grows_cons (Is.grows _) (grows_cons (Is.grows _) (grows_cons (Is.grows _) (grows_cons (Is.grows _) (grows_cons (Is.grows _) (grows_cons (Is.grows _) (grows_cons (Is.grows _) grows_nil))))))))))))
    ⟨step_mvP rfl (.inl rfl) rfl rfl (knows_out 2 (by kernel_rfl) rfl),
     step_eqC rfl (.inl rfl) rfl Tryd.underlying25 rfl (by decide) (knows_in 0 11 (by decide) (by kernel_rfl) rfl rfl),
     step_mvP rfl (.inl rfl) rfl rfl (knows_in 1 12 (by decide) (by kernel_rfl) rfl rfl),
     step_mvP rfl (.inr ⟨2, true, 13, rfl, by decide, by kernel_rfl, rfl, fun _ _ h => h⟩) rfl rfl (knows_out 1 (by kernel_rfl) rfl),
     step_len rfl (.inr ⟨2, true, 13, rfl, by decide, by kernel_rfl, rfl, fun _ _ h => h⟩) uaVs rfl rfl (knows_in 3 14 (by decide) (by kernel_rfl) rfl rfl),
     step_eqC rfl (.inr ⟨2, true, 13, rfl, by decide, by kernel_rfl, rfl, fun _ _ h => h⟩) rfl Tryd.underlying3 rfl (by decide) (knows_in 4 15 (by decide) (by kernel_rfl) rfl rfl),
     step_pick rfl (.inl rfl) (b := true) rfl rfl (knows_in 2 13 (by decide) (by kernel_rfl) rfl rfl) (knows_in 5 16 (by decide) (by kernel_rfl) rfl rfl),
     step_mvP rfl (.inl rfl) rfl rfl (knows_in 6 17 (by decide) (by kernel_rfl) rfl rfl),
     step_cw rfl (.inr ⟨7, true, 18, rfl, by decide, by kernel_rfl, rfl, fun _ _ h => h⟩) rfl cxSizB rfl (fun aa ww hw hf hd => ⟨_, (one_arg (knows_const _)) aa ww hw hf hd, HSZ.out ww⟩),
     step_eqC rfl (.inr ⟨7, true, 18, rfl, by decide, by kernel_rfl, rfl, fun _ _ h => h⟩) rfl Tryd.underlying3 rfl (by decide) (knows_in 8 19 (by decide) (by kernel_rfl) rfl rfl),
     step_pick rfl (.inl rfl) (b := true) rfl rfl (knows_in 7 18 (by decide) (by kernel_rfl) rfl rfl) (knows_in 9 20 (by decide) (by kernel_rfl) rfl rfl),
     step_asgP rfl (.inl rfl) rfl rfl (knows_in 10 21 (by decide) (by kernel_rfl) rfl rfl), trivial⟩ ?_
  intro val w2 hw hS hap hla
  have e11 : val 11 = (.int .i64 0) := hS 0 11 (by decide) rfl
  have e12 : val 12 = (.bool true) := hS 1 12 (by decide) rfl
  have e13 : val 13 = (.bool true) := hS 2 13 (by decide) rfl
  have e14 : val 14 = (.slice B1 53 c1) := hS 3 14 (by decide) rfl
  have e15 : val 15 = (.int .i64 53) := hS 4 15 (by decide) rfl
  have e16 : val 16 = (.bool true) := hS 5 16 (by decide) rfl
  have e17 : val 17 = (.bool true) := hS 6 17 (by decide) rfl
  have e18 : val 18 = (.bool true) := hS 7 18 (by decide) rfl
  have e19 : val 19 = (.int .i64 53) := hS 8 19 (by decide) rfl
  have e20 : val 20 = (.bool true) := hS 9 20 (by decide) rfl
  have e21 : val 21 = (.bool true) := hS 10 21 (by decide) rfl
  have e0 : val 0 = (.bool true) := hS 11 0 (by decide) rfl
  simp only [putVals, List.foldl_cons, List.foldl_nil, List.drop_succ_cons, List.drop_zero, Act.put, List.setIfInBounds_toArray, List.set_cons_succ, List.set_cons_zero, e11, e12, e13, e14, e15, e16, e17, e18, e19, e20, e21, e0]
  clear hS hap hla e11 e12 e13 e14 e15 e16 e17 e18 e19 e20 e21 e0 
  replace hT := hT.next hw
  replace hC := hC.next hw
  replace N1 := N1.below hw
  replace hW := hW.trans (Below.mono hw hW.size)
  clear hw
  go_wp2_with (fail)
  go_ret
  exact ⟨rfl, hW⟩
set_option maxRecDepth 50000 in
theorem awake_any (w : World) (hT : TabsH w) (hC : Tabs w) : Calls Tryd.prog 4 #[] w fun e w' => e = .returned (.bool true) ∧ Below w.heap.size w w' := by
  have hs := ex_some
  have hp := c_public twoB_len twoB_byt
  have hl := pub_len twoB
  have hb := pub_byt twoB
  have hp2 : CallsTo 6 #[.agg (ints .u8 twoB).toArray] (.agg (ints .u8 (pubL twoB)).toArray) := hp
  generalize pubL twoB = p at *
  exact awake_core oneB twoB p (wrapL oneB p (zeros 5)) w hT hC (hid oneB_len) (hid twoB_len) (hid hl) (hid builtB1) (hid builtB2) (hid hp2) (hid fun w => size_any 5 w) (hid fun w A c hT hC _ hN => wrap_some oneB p (zeros 5) A 5 c w hT hC oneB_len oneB_byt hl hb (zeros_len 5) (by decide) (fun x hx => by rw [List.eq_of_mem_replicate hx]; omega) hN hs)
end Go.Proofs.YtkblmdakejmmhaaDoor

/- Results with an error. -/
namespace Go.Proofs.YtkblmdakejmmhaaDoor
open Go Go.RowKit

/-- Bytes and an error. -/
def IsTupE (m : Nat) (E : Int) (l : List Int) : Value → World → Prop := fun v w => ∃ B d, v = .tuple #[.slice B m d, .int .i64 E] ∧ Nums w .u8 B l
set_option maxRecDepth 50000 in
theorem IsTupE.grows (m : Nat) (E : Int) (l : List Int) : Grows (IsTupE m E l) := fun _ _ _ ⟨B, d, h1, h3⟩ hb => ⟨B, d, h1, h3.below hb⟩
set_option maxRecDepth 50000 in
theorem cxOpeB (vs : Array Value) (w : World) : (callFunc 16 vs).run Tryd.prog w = .ok (.enter 16 vs) w := by go_simp
section
variable {ops : Array Oper} {md : Region.Mode} {W : World} {a0 : Act} {n : Nat} {al : Nat → Bool} {S : Nat → Value → World → Prop} {Q : Exit → Act → World → Prop} {i : Nat} {o : Oper}
set_option maxRecDepth 50000 in
theorem tupE_fst (hal : al i = false) (hg : GuardOn ops md n S i o) {x : Operand} {m : Nat} {E : Int} {l : List Int} (ho : o.op = .extract x 0) (hS : S i = IsRw .u8 m l) (hx : KnowsW ops md W a0 n S i x (IsTupE m E l)) : StepOk Tryd.prog ops md W a0 n al S Q i o :=
  step_run hal hg fun a w hw hf hd => by
    obtain ⟨B, d, h1, h3⟩ := hx a w hw hf hd
    refine ⟨.slice B m d, ?_, by rw [hS]; exact ⟨B, d, rfl, h3⟩⟩
    generalize a.eval = ev at *
    unfold execOp
    simp only [ho, h1]
    go_simp
set_option maxRecDepth 50000 in
theorem tupE_snd (hal : al i = false) (hg : GuardOn ops md n S i o) {x : Operand} {m : Nat} {E : Int} {l : List Int} (ho : o.op = .extract x 1) (hS : S i = Is (.int .i64 E)) (hx : KnowsW ops md W a0 n S i x (IsTupE m E l)) : StepOk Tryd.prog ops md W a0 n al S Q i o :=
  step_run hal hg fun a w hw hf hd => by
    obtain ⟨B, d, h1, h3⟩ := hx a w hw hf hd
    refine ⟨.int .i64 E, ?_, by rw [hS]; exact rfl⟩
    generalize a.eval = ev at *
    unfold execOp
    simp only [ho, h1]
    go_simp
end
end Go.Proofs.YtkblmdakejmmhaaDoor
