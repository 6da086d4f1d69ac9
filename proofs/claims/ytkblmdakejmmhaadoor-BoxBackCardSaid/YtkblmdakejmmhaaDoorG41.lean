/- Texts of this proof, laid together: BNum, BBack, BLaid. -/
import Derived.Test.YtkblmdakejmmhaaDoorG38
import Derived.Test.YtkblmdakejmmhaaDoorG40
import Derived.Test.YtkblmdakejmmhaaDoorG37
import Derived.Test.YtkblmdakejmmhaaDoorG33
import Derived.Deep.Cut
import Derived.Test.YtkblmdakejmmhaaDoorRows
import Derived.Lib.LaidTab
import Derived.Deep.Matrix
import Derived.OpenShut
import Derived.WideShapes
/- What is wrapped is unwrapped, as lists. -/
namespace Go.Proofs.YtkblmdakejmmhaaDoor
open Go Go.RowKit

set_option maxRecDepth 50000 in
theorem uOf_rb {k : Nat} (h : k < NT.PN) : uOf (rbytes k) = k := (of_bytes k h).2
set_option maxRecDepth 50000 in
theorem rbB_inj {a b : Nat} (ha : a < NT.PN) (hb : b < NT.PN) (h : rbytes a = rbytes b) : a = b := by
  have e := congrArg uOf h
  rwa [uOf_rb ha, uOf_rb hb] at e
set_option maxRecDepth 50000 in
theorem sh_pub (a b : List Int) : shL a (pubL b) = rbytes (mulN a (mulN b 9)) := by
  unfold shL pubL
  rw [base_nine, uOf_rb (mulN_lt _ _)]
set_option maxRecDepth 50000 in
theorem sh_comm {a b : List Int} (la : a.length = 32) (ba : HByt a) (lb : b.length = 32) (bb : HByt b) : shL a (pubL b) = shL b (pubL a) := by
  rw [sh_pub, sh_pub, mulN_comm la ba lb bb (u := 9) (by decide)]
set_option maxRecDepth 50000 in
theorem sh_some {a b : List Int} (la : a.length = 32) (ba : HByt a) (lb : b.length = 32) (bb : HByt b) : noughtB a (pubL b) = false := by
  refine decide_eq_false fun h => ?_
  rw [sh_pub] at h
  exact mulN_some la ba lb bb (rbB_inj (mulN_lt _ _) (by decide) h)
set_option maxRecDepth 50000 in
theorem open_sealB {key nonce be t : List Int} (hk : key.length = 32) (hn : nonce.length = 12) (ht : t.length ≤ 900) (hb : HByt t) : openE key nonce be (sealL key nonce be t) = 0 ∧ openL key nonce be (sealL key nonce be t) = t := by
  have hl : (sealL key nonce be t).length = t.length + 16 := sealL_len hk hn (by omega)
  have hg := good_seal (be := be) hk hn (show t.length ≤ 1000 by omega)
  have h16 : ¬ (sealL key nonce be t).length < 16 := by omega
  simp only [openE, openL, if_neg h16, hg, if_true]
  rw [seal_take hk hn (by omega), hidT_twice hk hn (by omega) hb]
  exact ⟨trivial, rfl⟩
set_option maxRecDepth 50000 in
theorem wrapL_len {sd sk t : List Int} (h1 : sd.length = 32) (b1 : HByt sd) (h2 : sk.length = 32) (b2 : HByt sk) (ht : t.length ≤ 900) : (wrapL sd (pubL sk) t).length = 32 + (t.length + 16) := by
  unfold wrapL
  rw [sh_some h1 b1 h2 b2, if_neg (by decide), List.length_append, pub_len, sealL_len (boxK_len _ _ _) (zeros_len 12) (by omega)]
set_option maxRecDepth 50000 in
theorem wrapL_byt {sd sk t : List Int} (h1 : sd.length = 32) (b1 : HByt sd) (h2 : sk.length = 32) (b2 : HByt sk) (bt : HByt t) : HByt (wrapL sd (pubL sk) t) := by
  unfold wrapL
  rw [sh_some h1 b1 h2 b2, if_neg (by decide)]
  exact (pub_byt sd).app (sealL_byt bt)
set_option maxRecDepth 50000 in
theorem unwrap_wrap {sd sk t : List Int} (h1 : sd.length = 32) (b1 : HByt sd) (h2 : sk.length = 32) (b2 : HByt sk) (ht : t.length ≤ 900) (bt : HByt t) : unwrapE sk (wrapL sd (pubL sk) t) = 0 ∧ unwrapL sk (wrapL sd (pubL sk) t) = t := by
  have hl := wrapL_len h1 b1 h2 b2 ht
  have hw : wrapL sd (pubL sk) t = pubL sd ++ sealL (boxK (shL sd (pubL sk)) (pubL sd) (pubL sk)) (zeros 12) [] t := by
    unfold wrapL
    rw [sh_some h1 b1 h2 b2, if_neg (by decide)]
  have ht32 : (wrapL sd (pubL sk) t).take 32 = pubL sd := by rw [hw, List.take_left' (pub_len sd)]
  have hd32 : (wrapL sd (pubL sk) t).drop 32 = sealL (boxK (shL sd (pubL sk)) (pubL sd) (pubL sk)) (zeros 12) [] t := by rw [hw, List.drop_left' (pub_len sd)]
  have hk : unkB sk (wrapL sd (pubL sk) t) = boxK (shL sd (pubL sk)) (pubL sd) (pubL sk) := by
    unfold unkB
    rw [ht32, sh_comm h1 b1 h2 b2]
  have h48 : ¬ (wrapL sd (pubL sk) t).length < 48 := by omega
  unfold unwrapE unwrapL
  rw [if_neg h48, if_neg h48, ht32, sh_some h2 b2 h1 b1, if_neg (by decide), if_neg (by decide), hk, hd32]
  exact open_sealB (boxK_len _ _ _) (zeros_len 12) ht bt
end Go.Proofs.YtkblmdakejmmhaaDoor

/- What is wrapped for a secret's public key is unwrapped with that secret. -/
namespace Go.Proofs.YtkblmdakejmmhaaDoor
open Go Go.RowKit

set_option maxRecDepth 50000 in
theorem cxUnwB (vs : Array Value) (w : World) : (callFunc 7 vs).run Tryd.prog w = .ok (.enter 7 vs) w := by go_simp
set_option maxRecDepth 50000 in
theorem cxSamB (vs : Array Value) (w : World) : (callFunc 8 vs).run Tryd.prog w = .ok (.enter 8 vs) w := by go_simp
set_option maxRecDepth 50000 in
theorem back_long (sd sk t : List Int) (AT : Option Addr) (lt ct : Nat) (w : World) (hT : TabsH w) (hC : Tabs w) (HAW : Hid (∀ w, TabsH w → Tabs w → Calls Tryd.prog 4 #[] w fun e w' => e = .returned (.bool true) ∧ Below w.heap.size w w')) (hlt : 300 < lt) (hA : Nums w .u8 AT t) : Calls Tryd.prog 3 #[.agg (ints .u8 sd).toArray, .agg (ints .u8 sk).toArray, .slice AT lt ct] w fun e w' => e = .returned (.bool true) ∧ Below w.heap.size w w' := by
  have e0 : decide ((300 : Int) < lt) = true := decide_eq_true (by omega)
  clear hlt
  have h3 := ((Arr.made w .u8 sd 22).alloc (.cells (ints .u8 sk).toArray 22)).rw
  have h4 := (Arr.made (w.alloc (.cells (ints .u8 sd).toArray 22)) .u8 sk 22).rw
  have hW := ((below_new w (.cells (ints .u8 sd).toArray 22)).alloc (by simp) (.cells (ints .u8 sk).toArray 22))
  simp only [World.size_alloc] at h4
  replace hT := hT.next hW; replace hC := hC.next hW; replace hA := hA.below hW
  go_enter Tryd.func3, Tryd.ntmps3
  go_upto_region 3 with (first
    | (go_at_call 4; generalize ((w.alloc (.cells (ints .u8 sd).toArray 22)).alloc (.cells (ints .u8 sk).toArray 22)) = w9 at *; refine (HAW.out _ hT hC).mono ?_; rintro e w0 ⟨rfl, hb1⟩
       replace hT := hT.next hb1; replace hC := hC.next hb1; replace hA := hA.below hb1; replace hW := hW.trans (Below.mono hb1 hW.size); replace h3 := h3.next hb1; replace h4 := h4.next hb1
       clear hb1))
  go_wp2_with (fail)
  go_ret
  exact ⟨rfl, hW⟩
set_option maxRecDepth 50000 in
set_option maxHeartbeats 4000000 in
theorem back_core (sd sk p z t : List Int) (m : Nat) (AT : Option Addr) (lt ct : Nat) (w : World) (hT : TabsH w) (hC : Tabs w) (H1 : Hid (sd.length = 32)) (H2 : Hid (sk.length = 32)) (H3 : Hid (p.length = 32)) (hlt : lt ≤ 300) (hA : Nums w .u8 AT t) (HAW : Hid (∀ w, TabsH w → Tabs w → Calls Tryd.prog 4 #[] w fun e w' => e = .returned (.bool true) ∧ Below w.heap.size w w'))
    (HP : Hid (CallsTo 6 #[.agg (ints .u8 sk).toArray] (.agg (ints .u8 p).toArray))) (HWR : Hid (∀ w, TabsH w → Tabs w → Nums w .u8 AT t → Calls Tryd.prog 5 #[.agg (ints .u8 sd).toArray, .agg (ints .u8 p).toArray, .slice AT lt ct] w fun e w' => ∃ v, e = .returned v ∧ IsTup m z v w' ∧ Below w.heap.size w w'))
    (HU : Hid (∀ (w : World) (A : Option Addr) (c : Nat), TabsH w → Tabs w → m ≤ c → Nums w .u8 A z → Calls Tryd.prog 7 #[.agg (ints .u8 sk).toArray, .slice A m c] w fun e w' => ∃ v, e = .returned v ∧ IsTupE lt 0 t v w' ∧ Below w.heap.size w w'))
    (HUN : Hid (∀ w, Calls Tryd.prog 7 #[.agg (ints .u8 sk).toArray, .slice none 0 0] w fun e w' => e = .returned (.tuple #[.slice none 0 0, .int .i64 10]) ∧ Below w.heap.size w w')) (HSAME : Hid (∀ (w : World) (A B : Option Addr) (c d : Nat), Nums w .u8 A t → Nums w .u8 B t → Calls Tryd.prog 8 #[.slice A lt c, .slice B lt d] w fun e w' => e = .returned (.bool true) ∧ Below w.heap.size w w')) :
    Calls Tryd.prog 3 #[.agg (ints .u8 sd).toArray, .agg (ints .u8 sk).toArray, .slice AT lt ct] w fun e w' => e = .returned (.bool true) ∧ Below w.heap.size w w' := by
  have e0 : decide ((300 : Int) < lt) = false := decide_eq_false (by omega)
  clear hlt
  have h3 := ((Arr.made w .u8 sd 22).alloc (.cells (ints .u8 sk).toArray 22)).rw
  have h4 := (Arr.made (w.alloc (.cells (ints .u8 sd).toArray 22)) .u8 sk 22).rw
  have hW := ((below_new w (.cells (ints .u8 sd).toArray 22)).alloc (by simp) (.cells (ints .u8 sk).toArray 22))
  simp only [World.size_alloc] at h4
  replace hT := hT.next hW; replace hC := hC.next hW; replace hA := hA.below hW
  go_enter Tryd.func3, Tryd.ntmps3
  go_upto_region 5 with (first
    | (go_at_call 4; generalize ((w.alloc (.cells (ints .u8 sd).toArray 22)).alloc (.cells (ints .u8 sk).toArray 22)) = w9 at *; refine (HAW.out _ hT hC).mono ?_; rintro e w0 ⟨rfl, hb1⟩
       replace hT := hT.next hb1; replace hC := hC.next hb1; replace hA := hA.below hb1; replace hW := hW.trans (Below.mono hb1 hW.size); replace h3 := h3.next hb1; replace h4 := h4.next hb1
       clear hb1))
  have s0 := hW.size
  refine region_spec2 9 52 (fun _ => false) [Is (.agg (ints .u8 sd).toArray), Is (.agg (ints .u8 sk).toArray), Is (.agg (ints .u8 p).toArray), Is (.slice AT lt ct), IsTup m z, IsTup m z, IsPart m z, Is (.int .i64 0), IsPart m z] [19, 20, 21, 22, 23, 18, 24, 25, 7] (by kernel_rfl) (by kernel_rfl) (by kernel_rfl) (Nat.le_of_eq rfl) (grows_cons (Is.grows _) (grows_cons (Is.grows _) (grows_cons (Is.grows _) (grows_cons (Is.grows _) (grows_cons (IsTup.grows _ _) (grows_cons (IsTup.grows _ _) (grows_cons (IsPart.grows _ _) (grows_cons (Is.grows _) (grows_cons (IsPart.grows _ _) grows_nil)))))))))
    ⟨step_ldV rfl (.inl rfl) (fun _ hw => (h3.next hw).range) rfl Tryd.underlying22 rfl (szV infS32 (il H1.out)) rfl (knows_out 3 (by kernel_rfl) rfl),
     step_ldV rfl (.inl rfl) (fun _ hw => (h4.next hw).range) rfl Tryd.underlying22 rfl (szV infS32 (il H2.out)) rfl (knows_out 4 (by kernel_rfl) rfl),
     step_to rfl (.inl rfl) rfl cxPubB HP.out rfl (one_arg (knows_in 1 20 (by decide) (by kernel_rfl) rfl rfl)),
     step_mvP rfl (.inl rfl) rfl rfl (knows_out 2 (by kernel_rfl) rfl),
     step_callR rfl (.inl rfl) rfl cxWraB rfl (fun aa ww hw hf hd => ⟨_, (three_args (knows_in 0 19 (by decide) (by kernel_rfl) rfl rfl) (knows_in 2 21 (by decide) (by kernel_rfl) rfl rfl) (knows_in 3 22 (by decide) (by kernel_rfl) rfl rfl)) aa ww hw hf hd, HWR.out ww (hT.next hw) (hC.next hw) (hA.below hw)⟩),
     step_copyW rfl (.inl rfl) 4 23 (.inl rfl) rfl (by decide) (by kernel_rfl) rfl rfl,
     tup_fst rfl (.inl rfl) rfl rfl (knowsW_in 5 18 (by decide) (by kernel_rfl) rfl rfl),
     tup_snd rfl (.inl rfl) rfl rfl (knowsW_in 5 18 (by decide) (by kernel_rfl) rfl rfl),
     step_copyW rfl (.inl rfl) 6 24 (.inr rfl) rfl (by decide) (by kernel_rfl) rfl rfl, trivial⟩ ?_
  intro val w1 hw hS hap hla
  have e19 : val 19 = (.agg (ints .u8 sd).toArray) := hS 0 19 (by decide) rfl
  have e20 : val 20 = (.agg (ints .u8 sk).toArray) := hS 1 20 (by decide) rfl
  have e21 : val 21 = (.agg (ints .u8 p).toArray) := hS 2 21 (by decide) rfl
  have e22 : val 22 = (.slice AT lt ct) := hS 3 22 (by decide) rfl
  have e25 : val 25 = (.int .i64 0) := hS 7 25 (by decide) rfl
  obtain ⟨B7, c7, e7, h7, N7⟩ := hS 8 7 (by decide) rfl
  simp only [putVals, List.foldl_cons, List.foldl_nil, List.drop_succ_cons, List.drop_zero, Act.put, List.setIfInBounds_toArray, List.set_cons_succ, List.set_cons_zero, e19, e20, e21, e22, e25, e7]
  generalize val 23 = g23
  generalize val 18 = g18
  generalize val 24 = g24
  clear hS hap hla e19 e20 e21 e22 e25 e7 
  replace h3 := h3.next hw
  replace h4 := h4.next hw
  replace hT := hT.next hw
  replace hC := hC.next hw
  replace hA := hA.below hw
  replace hW := hW.trans (Below.mono hw hW.size)
  clear hw
  go_upto_region 6 with (fail)
  have s1 := hW.size
  refine region_seq2 8 52 (fun _ => false) [Is (.agg (ints .u8 sk).toArray), Is (.slice B7 m c7), IsTupE lt 0 t, IsTupE lt 0 t, IsRw .u8 lt t, Is (.int .i64 0), IsRw .u8 lt t, Is (.int .i64 0)] [27, 28, 29, 26, 30, 31, 9, 10] (by kernel_rfl) (by kernel_rfl) (Nat.le_of_eq rfl) (grows_cons (Is.grows _) (grows_cons (Is.grows _) (grows_cons (IsTupE.grows _ _ _) (grows_cons (IsTupE.grows _ _ _) (grows_cons (IsRw.grows _ _ _) (grows_cons (Is.grows _) (grows_cons (IsRw.grows _ _ _) (grows_cons (Is.grows _) grows_nil))))))))
    ⟨step_ldV rfl (.inl rfl) (fun _ hw => (h4.next hw).range) rfl Tryd.underlying22 rfl (szV infS32 (il H2.out)) rfl (knows_out 4 (by kernel_rfl) rfl),
     step_mvP rfl (.inl rfl) rfl rfl (knows_out 7 (by kernel_rfl) rfl),
     step_callR rfl (.inl rfl) rfl cxUnwB rfl (fun aa ww hw hf hd => ⟨_, (two_args (knows_in 0 27 (by decide) (by kernel_rfl) rfl rfl) (knows_in 1 28 (by decide) (by kernel_rfl) rfl rfl)) aa ww hw hf hd, HU.out ww _ _ (hT.next hw) (hC.next hw) h7 (N7.below hw)⟩),
     step_copyW rfl (.inl rfl) 2 29 (.inl rfl) rfl (by decide) (by kernel_rfl) rfl rfl,
     tupE_fst rfl (.inl rfl) rfl rfl (knowsW_in 3 26 (by decide) (by kernel_rfl) rfl rfl),
     tupE_snd rfl (.inl rfl) rfl rfl (knowsW_in 3 26 (by decide) (by kernel_rfl) rfl rfl),
     step_copyW rfl (.inl rfl) 4 30 (.inr rfl) rfl (by decide) (by kernel_rfl) rfl rfl,
     step_asgP rfl (.inl rfl) rfl rfl (knows_in 5 31 (by decide) (by kernel_rfl) rfl rfl), trivial⟩ ?_
  intro val w2 hw hS hap hla
  have e27 : val 27 = (.agg (ints .u8 sk).toArray) := hS 0 27 (by decide) rfl
  have e28 : val 28 = (.slice B7 m c7) := hS 1 28 (by decide) rfl
  have e31 : val 31 = (.int .i64 0) := hS 5 31 (by decide) rfl
  obtain ⟨B9, c9, e9, N9⟩ := hS 6 9 (by decide) rfl
  have e10 : val 10 = (.int .i64 0) := hS 7 10 (by decide) rfl
  simp only [putVals, List.foldl_cons, List.foldl_nil, List.drop_succ_cons, List.drop_zero, Act.put, List.setIfInBounds_toArray, List.set_cons_succ, List.set_cons_zero, e27, e28, e31, e9, e10]
  generalize val 29 = g29
  generalize val 26 = g26
  generalize val 30 = g30
  clear hS hap hla e27 e28 e31 e9 e10 
  replace h3 := h3.next hw
  replace h4 := h4.next hw
  replace hT := hT.next hw
  replace hC := hC.next hw
  replace hA := hA.below hw
  replace N7 := N7.below hw
  replace hW := hW.trans (Below.mono hw hW.size)
  clear hw
  go_upto_region 7 with (fail)
  have s2 := hW.size
  refine region_seq2 7 52 (fun _ => false) [Is (.agg (ints .u8 sk).toArray), Is (.tuple #[(.slice none 0 0), (.int .i64 10)]), Is (.tuple #[(.slice none 0 0), (.int .i64 10)]), Is (.slice none 0 0), Is (.int .i64 10), Is (.slice none 0 0), Is (.int .i64 10)] [33, 34, 32, 35, 36, 11, 12] (by kernel_rfl) (by kernel_rfl) (Nat.le_of_eq rfl) (grows_cons (Is.grows _) (grows_cons (Is.grows _) (grows_cons (Is.grows _) (grows_cons (Is.grows _) (grows_cons (Is.grows _) (grows_cons (Is.grows _) (grows_cons (Is.grows _) grows_nil)))))))
    ⟨step_ldV rfl (.inl rfl) (fun _ hw => (h4.next hw).range) rfl Tryd.underlying22 rfl (szV infS32 (il H2.out)) rfl (knows_out 4 (by kernel_rfl) rfl),
     step_cw rfl (.inl rfl) rfl cxUnwB rfl (fun aa ww hw hf hd => ⟨_, (two_args (knows_in 0 33 (by decide) (by kernel_rfl) rfl rfl) (knows_const _)) aa ww hw hf hd, HUN.out ww⟩),
     step_mvP rfl (.inl rfl) rfl rfl (knows_in 1 34 (by decide) (by kernel_rfl) rfl rfl),
     step_fstZ rfl (.inl rfl) rfl rfl (knows_in 2 32 (by decide) (by kernel_rfl) rfl rfl),
     step_sndZ rfl (.inl rfl) rfl rfl (knows_in 2 32 (by decide) (by kernel_rfl) rfl rfl),
     step_asgP rfl (.inl rfl) rfl rfl (knows_in 3 35 (by decide) (by kernel_rfl) rfl rfl),
     step_asgP rfl (.inl rfl) rfl rfl (knows_in 4 36 (by decide) (by kernel_rfl) rfl rfl), trivial⟩ ?_
  intro val w3 hw hS hap hla
  have e33 : val 33 = (.agg (ints .u8 sk).toArray) := hS 0 33 (by decide) rfl
  have e34 : val 34 = (.tuple #[(.slice none 0 0), (.int .i64 10)]) := hS 1 34 (by decide) rfl
  have e32 : val 32 = (.tuple #[(.slice none 0 0), (.int .i64 10)]) := hS 2 32 (by decide) rfl
  have e35 : val 35 = (.slice none 0 0) := hS 3 35 (by decide) rfl
  have e36 : val 36 = (.int .i64 10) := hS 4 36 (by decide) rfl
  have e11 : val 11 = (.slice none 0 0) := hS 5 11 (by decide) rfl
  have e12 : val 12 = (.int .i64 10) := hS 6 12 (by decide) rfl
  simp only [putVals, List.foldl_cons, List.foldl_nil, List.drop_succ_cons, List.drop_zero, Act.put, List.setIfInBounds_toArray, List.set_cons_succ, List.set_cons_zero, e33, e34, e32, e35, e36, e11, e12]
  clear hS hap hla e33 e34 e32 e35 e36 e11 e12 
  replace h3 := h3.next hw
  replace h4 := h4.next hw
  replace hT := hT.next hw
  replace hC := hC.next hw
  replace hA := hA.below hw
  replace N7 := N7.below hw
  replace N9 := N9.below hw
  replace hW := hW.trans (Below.mono hw hW.size)
  clear hw
  go_upto_region 8 with (fail)
  have s3 := hW.size
  refine region_seq2 16 52 (fun _ => false) [Is (.int .i64 0), Is (.bool true), Is (.bool true), Is (.int .i64 0), Is (.bool true), Is (.bool true), Is (.bool true), Is (.slice B9 lt c9), Is (.slice AT lt ct), Is (.bool true), Is (.bool true), Is (.bool true), Is (.int .i64 10), Is (.bool true), Is (.bool true), Is (.bool true)] [37, 38, 39, 40, 41, 42, 43, 44, 45, 46, 47, 48, 49, 50, 51, 6] (by kernel_rfl) (by kernel_rfl) (Nat.le_of_eq rfl) (grows_cons (Is.grows _) (grows_cons (Is.grows _) (grows_cons (Is.grows _) (grows_cons (Is.grows _) (grows_cons (Is.grows _) (grows_cons (Is.grows _) (grows_cons (Is.grows _) (grows_cons (Is.grows _) (grows_cons (Is.grows _) (grows_cons (Is.grows _) (grows_cons (Is.grows _) (grows_cons (Is.grows _) (grows_cons (Is.grows _) (grows_cons (Is.grows _) (grows_cons (Is.grows _) (grows_cons (Is.grows _) grows_nil))))))))))))))))
    ⟨step_mvP rfl (.inl rfl) rfl rfl (knows_out 8 (by kernel_rfl) rfl),
     step_eqC rfl (.inl rfl) rfl Tryd.underlying25 rfl (by decide) (knows_in 0 37 (by decide) (by kernel_rfl) rfl rfl),
     step_mvP rfl (.inl rfl) rfl rfl (knows_in 1 38 (by decide) (by kernel_rfl) rfl rfl),
     step_mvP rfl (.inr ⟨2, true, 39, rfl, by decide, by kernel_rfl, rfl, fun _ _ h => h⟩) rfl rfl (knows_out 10 (by kernel_rfl) rfl),
     step_eqC rfl (.inr ⟨2, true, 39, rfl, by decide, by kernel_rfl, rfl, fun _ _ h => h⟩) rfl Tryd.underlying25 rfl (by decide) (knows_in 3 40 (by decide) (by kernel_rfl) rfl rfl),
     step_pick rfl (.inl rfl) (b := true) rfl rfl (knows_in 2 39 (by decide) (by kernel_rfl) rfl rfl) (knows_in 4 41 (by decide) (by kernel_rfl) rfl rfl),
     step_mvP rfl (.inl rfl) rfl rfl (knows_in 5 42 (by decide) (by kernel_rfl) rfl rfl),
     step_mvP rfl (.inr ⟨6, true, 43, rfl, by decide, by kernel_rfl, rfl, fun _ _ h => h⟩) rfl rfl (knows_out 9 (by kernel_rfl) rfl),
     step_mvP rfl (.inr ⟨6, true, 43, rfl, by decide, by kernel_rfl, rfl, fun _ _ h => h⟩) rfl rfl (knows_out 2 (by kernel_rfl) rfl),
     step_cw rfl (.inr ⟨6, true, 43, rfl, by decide, by kernel_rfl, rfl, fun _ _ h => h⟩) rfl cxSamB rfl (fun aa ww hw hf hd => ⟨_, (two_args (knows_in 7 44 (by decide) (by kernel_rfl) rfl rfl) (knows_in 8 45 (by decide) (by kernel_rfl) rfl rfl)) aa ww hw hf hd, HSAME.out ww _ _ _ _ (N9.below hw) (hA.below hw)⟩),
     step_pick rfl (.inl rfl) (b := true) rfl rfl (knows_in 6 43 (by decide) (by kernel_rfl) rfl rfl) (knows_in 9 46 (by decide) (by kernel_rfl) rfl rfl),
     step_mvP rfl (.inl rfl) rfl rfl (knows_in 10 47 (by decide) (by kernel_rfl) rfl rfl),
     step_mvP rfl (.inr ⟨11, true, 48, rfl, by decide, by kernel_rfl, rfl, fun _ _ h => h⟩) rfl rfl (knows_out 12 (by kernel_rfl) rfl),
     step_eqC rfl (.inr ⟨11, true, 48, rfl, by decide, by kernel_rfl, rfl, fun _ _ h => h⟩) rfl Tryd.underlying25 rfl (by decide) (knows_in 12 49 (by decide) (by kernel_rfl) rfl rfl),
     step_pick rfl (.inl rfl) (b := true) rfl rfl (knows_in 11 48 (by decide) (by kernel_rfl) rfl rfl) (knows_in 13 50 (by decide) (by kernel_rfl) rfl rfl),
     step_asgP rfl (.inl rfl) rfl rfl (knows_in 14 51 (by decide) (by kernel_rfl) rfl rfl), trivial⟩ ?_
  intro val w4 hw hS hap hla
  have e37 : val 37 = (.int .i64 0) := hS 0 37 (by decide) rfl
  have e38 : val 38 = (.bool true) := hS 1 38 (by decide) rfl
  have e39 : val 39 = (.bool true) := hS 2 39 (by decide) rfl
  have e40 : val 40 = (.int .i64 0) := hS 3 40 (by decide) rfl
  have e41 : val 41 = (.bool true) := hS 4 41 (by decide) rfl
  have e42 : val 42 = (.bool true) := hS 5 42 (by decide) rfl
  have e43 : val 43 = (.bool true) := hS 6 43 (by decide) rfl
  have e44 : val 44 = (.slice B9 lt c9) := hS 7 44 (by decide) rfl
  have e45 : val 45 = (.slice AT lt ct) := hS 8 45 (by decide) rfl
  have e46 : val 46 = (.bool true) := hS 9 46 (by decide) rfl
  have e47 : val 47 = (.bool true) := hS 10 47 (by decide) rfl
  have e48 : val 48 = (.bool true) := hS 11 48 (by decide) rfl
  have e49 : val 49 = (.int .i64 10) := hS 12 49 (by decide) rfl
  have e50 : val 50 = (.bool true) := hS 13 50 (by decide) rfl
  have e51 : val 51 = (.bool true) := hS 14 51 (by decide) rfl
  have e6 : val 6 = (.bool true) := hS 15 6 (by decide) rfl
  simp only [putVals, List.foldl_cons, List.foldl_nil, List.drop_succ_cons, List.drop_zero, Act.put, List.setIfInBounds_toArray, List.set_cons_succ, List.set_cons_zero, e37, e38, e39, e40, e41, e42, e43, e44, e45, e46, e47, e48, e49, e50, e51, e6]
  clear hS hap hla e37 e38 e39 e40 e41 e42 e43 e44 e45 e46 e47 e48 e49 e50 e51 e6 
  replace h3 := h3.next hw
  replace h4 := h4.next hw
  replace hT := hT.next hw
  replace hC := hC.next hw
  replace hA := hA.below hw
  replace N7 := N7.below hw
  replace N9 := N9.below hw
  replace hW := hW.trans (Below.mono hw hW.size)
  clear hw
  go_wp2_with (fail)
  go_ret
  exact ⟨rfl, hW⟩
set_option maxRecDepth 50000 in
theorem boxBack_walk (w : World) (ht : TabsH w ∧ Tabs w) (sd : List Int) (l0 : sd.length = 32) (x0 : ∀ x ∈ sd, (Lit.int .u8 x).wf = true) (sk : List Int) (l1 : sk.length = 32) (x1 : ∀ x ∈ sk, (Lit.int .u8 x).wf = true) (AT : Option Addr) (ct : Nat) (t : List Int) (hc : t.length ≤ ct) (_ : ct ≤ maxLen) (x2 : ∀ x ∈ t, (Lit.int .u8 x).wf = true) (hA : Nums w .u8 AT t) :
    Calls Tryd.prog 3 #[.agg (ints .u8 sd).toArray, .agg (ints .u8 sk).toArray, .slice AT t.length ct] w fun e w' => e = .returned (.bool true) ∧ Below w.heap.size w w' := by
  obtain ⟨hT, hC⟩ := ht
  have b0 : HByt sd := byt_of_wfZ x0
  have b1 : HByt sk := byt_of_wfZ x1
  have b2 : HByt t := byt_of_wfZ x2
  obtain ⟨lt, hl⟩ : ∃ n, t.length = n := ⟨_, rfl⟩
  rw [hl] at hc ⊢
  by_cases h : lt ≤ 300
  · have hr := unwrap_wrap l0 b0 l1 b1 (show t.length ≤ 900 by omega) b2
    have hzl := wrapL_len l0 b0 l1 b1 (t := t) (by omega)
    have hzb := wrapL_byt l0 b0 l1 b1 b2
    have hs := sh_some l0 b0 l1 b1
    have hwr := fun w hT hC hN => wrap_some sd (pubL sk) t AT lt ct w hT hC l0 b0 (pub_len sk) (pub_byt sk) hl (by omega) b2 hN hs
    have hp : CallsTo 6 #[.agg (ints .u8 sk).toArray] (.agg (ints .u8 (pubL sk)).toArray) := c_public l1 b1
    rw [hl] at hzl
    obtain ⟨z, hz⟩ : ∃ z, z = wrapL sd (pubL sk) t := ⟨_, rfl⟩
    rw [← hz] at hr hzl hzb hwr
    have hpl := pub_len sk
    clear hz hs
    generalize pubL sk = p at *
    refine back_core sd sk p z t (32 + (lt + 16)) AT lt ct w hT hC (hid l0) (hid l1) (hid hpl) h hA (hid awake_any) (hid hp) (hid hwr) (hid fun w A c hT hC hm hN => ?_) (hid fun w => unwrap_few sk none 0 0 w (by decide)) (hid fun w A B c d hN1 hN2 => ?_)
    · have hu := unwrap_any sk z A (32 + (lt + 16)) c w hT hC l1 b1 hzl (by omega) hm hzb hN
      rw [hr.1, hr.2, hl] at hu
      exact hu
    · have hs := same_eq A B c d t t w rfl (by unfold maxLen; omega) hN1 hN2
      rw [hl] at hs
      exact hs
  · exact back_long sd sk t AT lt ct w hT hC (hid awake_any) (by omega) hA
end Go.Proofs.YtkblmdakejmmhaaDoor

/- What the listed variables give the walks. -/
namespace Go.Proofs.YtkblmdakejmmhaaDoor
open Go.RowKit Go.ChangeShapes Go.WideShapes

set_option maxRecDepth 50000 in
theorem fours {α : Type} (f : Nat → List α) : ∀ (m : Nat) (l : List α), l.length = 4 * m → (∀ i, i < m → (l.drop (i * 4)).take 4 = f i) → l = (List.range m).flatMap f
  | 0, l, h, _ => by simpa using h
  | m + 1, l, h, hf => by
    have h1 := fours (fun i => f (i + 1)) m (l.drop 4) (by rw [List.length_drop]; omega) (fun i hi => by
      have := hf (i + 1) (by omega)
      rw [List.drop_drop]
      rw [show 4 + i * 4 = (i + 1) * 4 by omega]
      exact this)
    have h0 := hf 0 (by omega)
    rw [Nat.zero_mul, List.drop_zero] at h0
    rw [List.range_succ_eq_map, List.flatMap_cons, ← h0, List.flatMap_map]
    have e : l = l.take 4 ++ l.drop 4 := (List.take_append_drop 4 l).symm
    rw [h1] at e
    exact e
set_option maxRecDepth 50000 in
theorem cells_of_tab2 {H : Type} {enc : TypeId × Value → H} {P : Program} {w : World} {base : Nat} {sp : Nat → Bool} {held : Bool} {fuel : Nat} {t u e m : TypeId} {cs : List Value} {k : IntKind} {rows : List (List Int)} {p : List MemPlace}
    (ht : P.underlying t = some (.array m u)) (hu : P.underlying u = some (.array 4 e)) (he : P.underlying e = some (.int k)) (hce : P.cellsOf e = 1) (hcu : P.cellsOf u = 4) (hct : P.cellsOf t = 4 * m)
    (h : DataW.trod enc P w base sp held fuel t cs = some (.agg (rows.map (Lib.tabData k)), p)) : cs = (List.range m).flatMap fun i => (rows.getD i []).map (Value.int k) := by
  obtain ⟨xs, n, rfl, hx, hl, hn, hall⟩ := DataW.trod_array ht h
  rw [hct] at hl
  injection hx with hx1 hx2
  injection hx1 with hx1
  refine fours _ m cs hl fun i hi => ?_
  have h1 := hall i hi
  rw [hcu] at h1
  have h2 : xs[i]? = some xs[i] := by simp
  rw [h2] at h1
  have h3 : (xs[i]).1 = Lib.tabData k (rows.getD i []) := by
    have e3 := congrArg (·[i]?) hx1
    simp only [List.getElem?_map, h2, Option.map_some] at e3
    cases hr : rows[i]? with
    | none => rw [hr] at e3; simp at e3
    | some r =>
      rw [hr] at e3
      simp only [Option.map_some, Option.some.injEq] at e3
      rw [List.getD_eq_getElem?_getD, hr]
      exact e3.symm
  have h4 : xs[i] = (Lib.tabData k (rows.getD i []), (xs[i]).2) := by rw [← h3]
  rw [h4] at h1
  exact Lib.cells_of_tab hu he hce hcu h1
def QROWS : List (List Int) := [[0, 4, 8, 12], [1, 5, 9, 13], [2, 6, 10, 14], [3, 7, 11, 15], [0, 5, 10, 15], [1, 6, 11, 12], [2, 7, 8, 13], [3, 4, 9, 14]]
set_option maxRecDepth 50000 in
theorem gQ : Tryd.prog.globalNamed "bastille/chacha.quarters" = some 1 := by kernel_rfl
set_option maxRecDepth 50000 in
theorem gQType : (Tryd.prog.globals[1]?).map (·.type) = some 116 := by kernel_rfl
set_option maxRecDepth 50000 in
theorem underQ8 : Tryd.prog.underlying 116 = some (.array 8 115) := by kernel_rfl
set_option maxRecDepth 50000 in
theorem underQ4 : Tryd.prog.underlying 115 = some (.array 4 3) := by kernel_rfl
set_option maxRecDepth 50000 in
theorem underQi : Tryd.prog.underlying 3 = some (.int .i64) := by kernel_rfl
set_option maxRecDepth 50000 in
theorem cellsQ8 : Tryd.prog.cellsOf 116 = 4 * 8 := by kernel_rfl
set_option maxRecDepth 50000 in
theorem cellsQ4 : Tryd.prog.cellsOf 115 = 4 := by kernel_rfl
set_option maxRecDepth 50000 in
theorem cellsQi : Tryd.prog.cellsOf 3 = 1 := by kernel_rfl
set_option maxRecDepth 50000 in
theorem gFirst : Tryd.prog.globalNamed "bastille/sha.first" = some 0 := by kernel_rfl
set_option maxRecDepth 50000 in
theorem gKinds : Tryd.prog.globalNamed "bastille/sha.kinds" = some 2 := by kernel_rfl
set_option maxRecDepth 50000 in
theorem gFirstType : (Tryd.prog.globals[0]?).map (·.type) = some 104 := by kernel_rfl
set_option maxRecDepth 50000 in
theorem gKindsType : (Tryd.prog.globals[2]?).map (·.type) = some 131 := by kernel_rfl
set_option maxRecDepth 50000 in
theorem cellsFirst : Tryd.prog.cellsOf 104 = 8 := by kernel_rfl
set_option maxRecDepth 50000 in
theorem cellsKinds : Tryd.prog.cellsOf 131 = 80 := by kernel_rfl
set_option maxRecDepth 50000 in
theorem cellsWord : Tryd.prog.cellsOf 103 = 1 := by kernel_rfl
def tablesB : List (String × DataW Unit) := [("bastille/sha.first", Lib.tabData .u64 FIRST), ("bastille/sha.kinds", Lib.tabData .u64 KINDS), ("bastille/chacha.quarters", .agg (QROWS.map (Lib.tabData .i64)))]
set_option maxRecDepth 50000 in
theorem tabs_of {W : World} (h : laidMet Tryd.prog tablesB W) : TabsH W ∧ Tabs W := by
  have hw : Lib.TabIs Tryd.prog W "bastille/sha.first" .u64 FIRST := Lib.tabIs_of_head gFirst gFirstType Tryd.underlying104 Tryd.underlying103 cellsWord cellsFirst h
  have hm : Lib.TabIs Tryd.prog W "bastille/sha.kinds" .u64 KINDS := by
    obtain ⟨ps, ⟨_, _, _, _, _, _, _, _, _, _, ⟨g', t', cs, fuel, p, q, hg', ht', hvar, hd, _, _⟩, _⟩, _⟩ := h
    obtain rfl := Option.some.inj (gKinds.symm.trans hg')
    obtain rfl := Option.some.inj (gKindsType.symm.trans ht')
    unfold Lib.TabIs
    rw [hvar, ← Lib.cells_of_tab Tryd.underlying131 Tryd.underlying103 cellsWord cellsKinds hd]
  have hq : Lib.TabIs Tryd.prog W "bastille/chacha.quarters" .i64 QT := by
    obtain ⟨ps, ⟨_, _, _, _, _, _, _, _, _, _, ⟨_, _, _, _, _, _, _, _, _, _, ⟨g', t', cs, fuel, p, q, hg', ht', hvar, hd, _, _⟩, _⟩, _⟩, _⟩ := h
    obtain rfl := Option.some.inj (gQ.symm.trans hg')
    obtain rfl := Option.some.inj (gQType.symm.trans ht')
    unfold Lib.TabIs
    have e := cells_of_tab2 underQ8 underQ4 underQi cellsQi cellsQ4 cellsQ8 hd
    rw [hvar]
    congr 1
    apply Array.toList_inj.1
    rw [e]
    kernel_rfl
  refine ⟨⟨⟨?_, ?_⟩, fun i x hi => ?_, fun i x hi => ?_⟩, World.block_lt_of_cell? _ _ (hq.cell gQ 0 (by decide)), fun i x hi => ?_⟩
  · exact World.block_lt_of_cell? _ _ (hm.cell gKinds 0 (by decide))
  · exact World.block_lt_of_cell? _ _ (hw.cell gFirst 0 (by decide))
  · have hl := (List.getElem?_eq_some_iff.1 hi).1
    have := hm.cell gKinds i hl
    rw [this]
    simp [List.getD, hi]
  · have hl := (List.getElem?_eq_some_iff.1 hi).1
    have := hw.cell gFirst i hl
    rw [this]
    simp [List.getD, hi]
  · have hl := (List.getElem?_eq_some_iff.1 hi).1
    rw [ints_length] at hl
    have := hq.cell gQ i hl
    rw [Nat.zero_add, this, ← hi]
    simp [ints, List.getD, hl]
set_option maxRecDepth 50000 in
theorem tabs_back {W : World} (h : laidMetH Tryd.prog Rows.boxBackRow.laid W) : TabsH W ∧ Tabs W := tabs_of h
end Go.Proofs.YtkblmdakejmmhaaDoor
