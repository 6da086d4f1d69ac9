import Derived.Test.YtkblmdakejmmhaaGreatDoorG41
namespace Go.Proofs.YtkblmdakejmmhaaGreatDoor
open Go Go.RowKit
set_option maxHeartbeats 4000000
set_option maxRecDepth 50000
theorem cxRWra (vs:Array Value) (w:World):(callFunc 7 vs).run Tryz.prog w=.ok (.enter 7 vs) w:=by go_simp
theorem wraps_long (sd pu t:List Int) (AT:Option Addr) (lt ct:Nat) (w:World) (hT:TabsH w) (hC:Tabs w) (_H1:Hid (sd.length=32)) (_H2:Hid (pu.length=32)) (hlt:300<lt) (hA:Nums w .u8 AT t) (HAW:Hid (∀w,TabsH w→Tabs w→Calls Tryz.prog 5 #[] w fun e w'=>e=.returned (.bool true)∧Below w.heap.size w w')):Calls Tryz.prog 3 #[.agg (ints .u8 sd).toArray,.agg (ints .u8 pu).toArray,.slice AT lt ct] w fun e w'=>e=.returned (.bool true)∧Below w.heap.size w w':=by
 have e0:decide ((300:Int)<lt)=true:=decide_eq_true (by omega)
 clear hlt
 have h3:=((Arr.made w .u8 sd 22).alloc (.cells (ints .u8 pu).toArray 22)).rw
 have h4:=(Arr.made (w.alloc (.cells (ints .u8 sd).toArray 22)) .u8 pu 22).rw
 have hW:=((below_new w (.cells (ints .u8 sd).toArray 22)).alloc (by simp) (.cells (ints .u8 pu).toArray 22))
 simp only [World.size_alloc] at h4
 replace hT:=hT.next hW;replace hC:=hC.next hW;replace hA:=hA.below hW
 go_enter Tryz.func3,Tryz.ntmps3
 go_upto_region 3 with (first
  | (go_at_call 5;generalize ((w.alloc (.cells (ints .u8 sd).toArray 22)).alloc (.cells (ints .u8 pu).toArray 22))=w9 at *;refine (HAW.out _ hT hC).mono ?_;rintro e w0 ⟨rfl,hb1⟩
     replace hT:=hT.next hb1;replace hC:=hC.next hb1;replace hA:=hA.below hb1;replace hW:=hW.trans (Below.mono hb1 hW.size);replace h3:=h3.next hb1;replace h4:=h4.next hb1
     clear hb1))
 go_wp2_with (fail)
 go_ret
 exact ⟨rfl,hW⟩
theorem wraps_no (sd pu t:List Int) (AT:Option Addr) (lt ct:Nat) (w:World) (hT:TabsH w) (hC:Tabs w) (H1:Hid (sd.length=32)) (H2:Hid (pu.length=32)) (hlt:lt≤300) (hA:Nums w .u8 AT t) (HAW:Hid (∀w,TabsH w→Tabs w→Calls Tryz.prog 5 #[] w fun e w'=>e=.returned (.bool true)∧Below w.heap.size w w')) (HWR:Hid (∀w,TabsH w→Tabs w→Nums w .u8 AT t→Calls Tryz.prog 6 #[.agg (ints .u8 sd).toArray,.agg (ints .u8 pu).toArray,.slice AT lt ct] w fun e w'=>e=.returned (.tuple #[.slice none 0 0,.int .i64 21])∧Below w.heap.size w w')) (HRW:Hid (∀w,Nums w .u8 AT t→Calls Tryz.prog 7 #[.agg (ints .u8 sd).toArray,.agg (ints .u8 pu).toArray,.slice AT lt ct] w fun e w'=>e=.returned (.tuple #[.slice none 0 0,.int .i64 21])∧Below w.heap.size w w'))
 (HSAME:Hid (∀w,Calls Tryz.prog 8 #[.slice none 0 0,.slice none 0 0] w fun e w'=>e=.returned (.bool true)∧Below w.heap.size w w')):Calls Tryz.prog 3 #[.agg (ints .u8 sd).toArray,.agg (ints .u8 pu).toArray,.slice AT lt ct] w fun e w'=>e=.returned (.bool true)∧Below w.heap.size w w':=by
 have e0:decide ((300:Int)<lt)=false:=decide_eq_false (by omega)
 clear hlt
 have h3:=((Arr.made w .u8 sd 22).alloc (.cells (ints .u8 pu).toArray 22)).rw
 have h4:=(Arr.made (w.alloc (.cells (ints .u8 sd).toArray 22)) .u8 pu 22).rw
 have hW:=((below_new w (.cells (ints .u8 sd).toArray 22)).alloc (by simp) (.cells (ints .u8 pu).toArray 22))
 simp only [World.size_alloc] at h4
 replace hT:=hT.next hW;replace hC:=hC.next hW;replace hA:=hA.below hW
 go_enter Tryz.func3,Tryz.ntmps3
 go_upto_region 5 with (first
  | (go_at_call 5;generalize ((w.alloc (.cells (ints .u8 sd).toArray 22)).alloc (.cells (ints .u8 pu).toArray 22))=w9 at *;refine (HAW.out _ hT hC).mono ?_;rintro e w0 ⟨rfl,hb1⟩
     replace hT:=hT.next hb1;replace hC:=hC.next hb1;replace hA:=hA.below hb1;replace hW:=hW.trans (Below.mono hb1 hW.size);replace h3:=h3.next hb1;replace h4:=h4.next hb1
     clear hb1))
 have s0:=hW.size
 refine rSeq 9 50 (fun _=>false) [Is (.agg (ints .u8 sd).toArray),Is (.agg (ints .u8 pu).toArray),Is (.slice AT lt ct),Is (.tuple #[(.slice none 0 0),(.int .i64 21)]),Is (.tuple #[(.slice none 0 0),(.int .i64 21)]),Is (.slice none 0 0),Is (.int .i64 21),Is (.slice none 0 0),Is (.int .i64 21)] [17,18,19,20,16,21,22,7,8] (gC (gC (gC (gC (gC (gC (gC (gC (gC grows_nil)))))))))
  ⟨step_ldV rfl (.inl rfl) (fun _ hw=>(h3.next hw).range) rfl Tryz.underlying22 rfl (szV infS32 (il H1.out)) rfl (kO 3 rfl),
   step_ldV rfl (.inl rfl) (fun _ hw=>(h4.next hw).range) rfl Tryz.underlying22 rfl (szV infS32 (il H2.out)) rfl (kO 4 rfl),
   step_mvP rfl (.inl rfl) rfl rfl (kO 2 rfl),
   step_cw rfl (.inl rfl) rfl cxWraB rfl (fun aa ww hw hf hd=>⟨_,(three_args (kI 0 17 rfl rfl) (kI 1 18 rfl rfl) (kI 2 19 rfl rfl)) aa ww hw hf hd,HWR.out ww (hT.next hw) (hC.next hw) (hA.below hw)⟩),
   step_mvP rfl (.inl rfl) rfl rfl (kI 3 20 rfl rfl),
   step_fstZ rfl (.inl rfl) rfl rfl (kI 4 16 rfl rfl),
   step_sndZ rfl (.inl rfl) rfl rfl (kI 4 16 rfl rfl),
   step_asgP rfl (.inl rfl) rfl rfl (kI 5 21 rfl rfl),
   step_asgP rfl (.inl rfl) rfl rfl (kI 6 22 rfl rfl),trivial⟩ ?_
 intro val w1 hw hS hap hla
 simp only [pA,pB,pC,pD,pE,Act.put,pG,pH,pI,eVal hS 0 17 rfl rfl,eVal hS 1 18 rfl rfl,eVal hS 2 19 rfl rfl,eVal hS 3 20 rfl rfl,eVal hS 4 16 rfl rfl,eVal hS 5 21 rfl rfl,eVal hS 6 22 rfl rfl,eVal hS 7 7 rfl rfl,eVal hS 8 8 rfl rfl]
 clear hS hap hla
 replace h3:=h3.next hw
 replace h4:=h4.next hw
 replace hT:=hT.next hw
 replace hC:=hC.next hw
 replace hA:=hA.below hw
 replace hW:=bT hW hw
 clear hw
 go_upto_region 6 with (fail)
 have s1:=hW.size
 refine rSeq 9 50 (fun _=>false) [Is (.agg (ints .u8 sd).toArray),Is (.agg (ints .u8 pu).toArray),Is (.slice AT lt ct),Is (.tuple #[(.slice none 0 0),(.int .i64 21)]),Is (.tuple #[(.slice none 0 0),(.int .i64 21)]),Is (.slice none 0 0),Is (.int .i64 21),Is (.slice none 0 0),Is (.int .i64 21)] [24,25,26,27,23,28,29,9,10] (gC (gC (gC (gC (gC (gC (gC (gC (gC grows_nil)))))))))
  ⟨step_ldV rfl (.inl rfl) (fun _ hw=>(h3.next hw).range) rfl Tryz.underlying22 rfl (szV infS32 (il H1.out)) rfl (kO 3 rfl),
   step_ldV rfl (.inl rfl) (fun _ hw=>(h4.next hw).range) rfl Tryz.underlying22 rfl (szV infS32 (il H2.out)) rfl (kO 4 rfl),
   step_mvP rfl (.inl rfl) rfl rfl (kO 2 rfl),
   step_cw rfl (.inl rfl) rfl cxRWra rfl (fun aa ww hw hf hd=>⟨_,(three_args (kI 0 24 rfl rfl) (kI 1 25 rfl rfl) (kI 2 26 rfl rfl)) aa ww hw hf hd,HRW.out ww (hA.below hw)⟩),
   step_mvP rfl (.inl rfl) rfl rfl (kI 3 27 rfl rfl),
   step_fstZ rfl (.inl rfl) rfl rfl (kI 4 23 rfl rfl),
   step_sndZ rfl (.inl rfl) rfl rfl (kI 4 23 rfl rfl),
   step_asgP rfl (.inl rfl) rfl rfl (kI 5 28 rfl rfl),
   step_asgP rfl (.inl rfl) rfl rfl (kI 6 29 rfl rfl),trivial⟩ ?_
 intro val w2 hw hS hap hla
 simp only [pA,pB,pC,pD,pE,Act.put,pG,pH,pI,eVal hS 0 24 rfl rfl,eVal hS 1 25 rfl rfl,eVal hS 2 26 rfl rfl,eVal hS 3 27 rfl rfl,eVal hS 4 23 rfl rfl,eVal hS 5 28 rfl rfl,eVal hS 6 29 rfl rfl,eVal hS 7 9 rfl rfl,eVal hS 8 10 rfl rfl]
 clear hS hap hla
 replace h3:=h3.next hw
 replace h4:=h4.next hw
 replace hT:=hT.next hw
 replace hC:=hC.next hw
 replace hA:=hA.below hw
 replace hW:=bT hW hw
 clear hw
 go_upto_region 7 with (fail)
 have s2:=hW.size
 refine rSeq 21 50 (fun _=>false) [Is (.slice none 0 0),Is (.slice none 0 0),Is (.bool true),Is (.bool true),Is (.int .i64 21),Is (.int .i64 21),Is (.bool true),Is (.bool true),Is (.bool true),Is (.int .i64 21),Is (.bool true),Is (.bool true),Is undef,Is undef,Is undef,Is undef,Is undef,Is undef,Is (.bool true),Is (.bool true),Is (.bool true)] [30,31,32,33,34,35,36,37,38,39,40,41,42,43,44,45,46,47,48,49,6] (gC (gC (gC (gC (gC (gC (gC (gC (gC (gC (gC (gC (gC (gC (gC (gC (gC (gC (gC (gC (gC grows_nil)))))))))))))))))))))
  ⟨step_mvP rfl (.inl rfl) rfl rfl (kO 7 rfl),
   step_mvP rfl (.inl rfl) rfl rfl (kO 9 rfl),
   step_cw rfl (.inl rfl) rfl cxSamB rfl (fun aa ww hw hf hd=>⟨_,(two_args (kI 0 30 rfl rfl) (kI 1 31 rfl rfl)) aa ww hw hf hd,HSAME.out ww⟩),
   step_mvP rfl (.inl rfl) rfl rfl (kI 2 32 rfl rfl),
   step_mvP rfl (gN 3 true 33 rfl rfl rfl) rfl rfl (kO 8 rfl),
   step_mvP rfl (gN 3 true 33 rfl rfl rfl) rfl rfl (kO 10 rfl),
   step_eqI rfl (gN 3 true 33 rfl rfl rfl) rfl Tryz.underlying3 rfl (kI 4 34 rfl rfl) (kI 5 35 rfl rfl),
   step_pick rfl (.inl rfl) (b:=true) rfl rfl (kI 3 33 rfl rfl) (kI 6 36 rfl rfl),
   step_mvP rfl (.inl rfl) rfl rfl (kI 7 37 rfl rfl),
   step_mvP rfl (gN 8 true 38 rfl rfl rfl) rfl rfl (kO 8 rfl),
   step_neC rfl (gN 8 true 38 rfl rfl rfl) rfl Tryz.underlying25 rfl (by decide) (kI 9 39 rfl rfl),
   step_mvP rfl (gN 8 true 38 rfl rfl rfl) rfl rfl (kI 10 40 rfl rfl),
   step_off rfl (gF 11 false 41 rfl rfl rfl) (fun _=>rfl),
   step_off rfl (gF 11 false 41 rfl rfl rfl) (fun _=>rfl),
   step_off rfl (gF 11 false 41 rfl rfl rfl) (fun _=>rfl),
   step_off rfl (gF 11 false 41 rfl rfl rfl) (fun _=>rfl),
   step_off rfl (gF 11 false 41 rfl rfl rfl) (fun _=>rfl),
   step_off rfl (gF 11 false 41 rfl rfl rfl) (fun _=>rfl),
   step_pick rfl (gN 8 true 38 rfl rfl rfl) (b:=true) rfl rfl (kI 11 41 rfl rfl) (knows_const _),
   step_pick rfl (.inl rfl) (b:=true) rfl rfl (kI 8 38 rfl rfl) (kI 18 48 rfl rfl),
   step_asgP rfl (.inl rfl) rfl rfl (kI 19 49 rfl rfl),trivial⟩ ?_
 intro val w3 hw hS hap hla
 simp only [pA,pB,pC,pD,pE,Act.put,pG,pH,pI,eVal hS 0 30 rfl rfl,eVal hS 1 31 rfl rfl,eVal hS 2 32 rfl rfl,eVal hS 3 33 rfl rfl,eVal hS 4 34 rfl rfl,eVal hS 5 35 rfl rfl,eVal hS 6 36 rfl rfl,eVal hS 7 37 rfl rfl,eVal hS 8 38 rfl rfl,eVal hS 9 39 rfl rfl,eVal hS 10 40 rfl rfl,eVal hS 11 41 rfl rfl,eVal hS 12 42 rfl rfl,eVal hS 13 43 rfl rfl,eVal hS 14 44 rfl rfl,eVal hS 15 45 rfl rfl,eVal hS 16 46 rfl rfl,eVal hS 17 47 rfl rfl,eVal hS 18 48 rfl rfl,eVal hS 19 49 rfl rfl,eVal hS 20 6 rfl rfl]
 clear hS hap hla
 replace h3:=h3.next hw
 replace h4:=h4.next hw
 replace hT:=hT.next hw
 replace hC:=hC.next hw
 replace hA:=hA.below hw
 replace hW:=bT hW hw
 clear hw
 go_wp2_with (fail)
 go_ret
 exact ⟨rfl,hW⟩
theorem wraps_yes (z:List Int) (m:Nat) (sd pu t:List Int) (AT:Option Addr) (lt ct:Nat) (w:World) (hT:TabsH w) (hC:Tabs w) (H1:Hid (sd.length=32)) (H2:Hid (pu.length=32)) (hlt:lt≤300) (hA:Nums w .u8 AT t) (HAW:Hid (∀w,TabsH w→Tabs w→Calls Tryz.prog 5 #[] w fun e w'=>e=.returned (.bool true)∧Below w.heap.size w w')) (HWR:Hid (∀w,TabsH w→Tabs w→Nums w .u8 AT t→Calls Tryz.prog 6 #[.agg (ints .u8 sd).toArray,.agg (ints .u8 pu).toArray,.slice AT lt ct] w fun e w'=>∃v,e=.returned v∧IsTup m z v w'∧Below w.heap.size w w')) (HRW:Hid (∀w,Nums w .u8 AT t→Calls Tryz.prog 7 #[.agg (ints .u8 sd).toArray,.agg (ints .u8 pu).toArray,.slice AT lt ct] w fun e w'=>∃v,e=.returned v∧IsTupE m 0 z v w'∧Below w.heap.size w w'))
 (HSAME:Hid (∀(w:World) (A B:Option Addr) (c d:Nat),Nums w .u8 A z→Nums w .u8 B z→Calls Tryz.prog 8 #[.slice A m c,.slice B m d] w fun e w'=>e=.returned (.bool true)∧Below w.heap.size w w')) (HSZ:Hid (∀w,Calls Tryz.prog 9 #[.int .i64 (lt:Nat)] w fun e w'=>e=.returned (.int .i64 (m:Nat))∧Below w.heap.size w w')):Calls Tryz.prog 3 #[.agg (ints .u8 sd).toArray,.agg (ints .u8 pu).toArray,.slice AT lt ct] w fun e w'=>e=.returned (.bool true)∧Below w.heap.size w w':=by
 have e0:decide ((300:Int)<lt)=false:=decide_eq_false (by omega)
 clear hlt
 have h3:=((Arr.made w .u8 sd 22).alloc (.cells (ints .u8 pu).toArray 22)).rw
 have h4:=(Arr.made (w.alloc (.cells (ints .u8 sd).toArray 22)) .u8 pu 22).rw
 have hW:=((below_new w (.cells (ints .u8 sd).toArray 22)).alloc (by simp) (.cells (ints .u8 pu).toArray 22))
 simp only [World.size_alloc] at h4
 replace hT:=hT.next hW;replace hC:=hC.next hW;replace hA:=hA.below hW
 go_enter Tryz.func3,Tryz.ntmps3
 go_upto_region 5 with (first
  | (go_at_call 5;generalize ((w.alloc (.cells (ints .u8 sd).toArray 22)).alloc (.cells (ints .u8 pu).toArray 22))=w9 at *;refine (HAW.out _ hT hC).mono ?_;rintro e w0 ⟨rfl,hb1⟩
     replace hT:=hT.next hb1;replace hC:=hC.next hb1;replace hA:=hA.below hb1;replace hW:=hW.trans (Below.mono hb1 hW.size);replace h3:=h3.next hb1;replace h4:=h4.next hb1
     clear hb1))
 have s0:=hW.size
 refine rSeq 9 50 (fun _=>false) [Is (.agg (ints .u8 sd).toArray),Is (.agg (ints .u8 pu).toArray),Is (.slice AT lt ct),IsTup m z,IsTup m z,IsPart m z,Is (.int .i64 0),IsPart m z,Is (.int .i64 0)] [17,18,19,20,16,21,22,7,8] (gC (gC (gC (grows_cons (IsTup.grows _ _) (grows_cons (IsTup.grows _ _) (grows_cons (IsPart.grows _ _) (gC (grows_cons (IsPart.grows _ _) (gC grows_nil)))))))))
  ⟨step_ldV rfl (.inl rfl) (fun _ hw=>(h3.next hw).range) rfl Tryz.underlying22 rfl (szV infS32 (il H1.out)) rfl (kO 3 rfl),
   step_ldV rfl (.inl rfl) (fun _ hw=>(h4.next hw).range) rfl Tryz.underlying22 rfl (szV infS32 (il H2.out)) rfl (kO 4 rfl),
   step_mvP rfl (.inl rfl) rfl rfl (kO 2 rfl),
   step_callR rfl (.inl rfl) rfl cxWraB rfl (fun aa ww hw hf hd=>⟨_,(three_args (kI 0 17 rfl rfl) (kI 1 18 rfl rfl) (kI 2 19 rfl rfl)) aa ww hw hf hd,HWR.out ww (hT.next hw) (hC.next hw) (hA.below hw)⟩),
   step_copyW rfl (.inl rfl) 3 20 (.inl rfl) rfl (by decide) (by kernel_rfl) rfl rfl,
   tup_fst rfl (.inl rfl) rfl rfl (knowsW_in 4 16 (by decide) (by kernel_rfl) rfl rfl),
   tup_snd rfl (.inl rfl) rfl rfl (knowsW_in 4 16 (by decide) (by kernel_rfl) rfl rfl),
   step_copyW rfl (.inl rfl) 5 21 (.inr rfl) rfl (by decide) (by kernel_rfl) rfl rfl,
   step_asgP rfl (.inl rfl) rfl rfl (kI 6 22 rfl rfl),trivial⟩ ?_
 intro val w1 hw hS hap hla
 have e17:=eVal hS 0 17 rfl rfl
 have e18:=eVal hS 1 18 rfl rfl
 have e19:=eVal hS 2 19 rfl rfl
 have e22:=eVal hS 6 22 rfl rfl
 obtain ⟨B7,c7,e7,h7,N7⟩:=hS 7 7 (by decide) rfl
 have e8:=eVal hS 8 8 rfl rfl
 simp only [pA,pB,pC,pD,pE,Act.put,pG,pH,pI,e17,e18,e19,e22,e7,e8]
 generalize val 20=g20
 generalize val 16=g16
 generalize val 21=g21
 clear hS hap hla e17 e18 e19 e22 e7 e8
 replace h3:=h3.next hw
 replace h4:=h4.next hw
 replace hT:=hT.next hw
 replace hC:=hC.next hw
 replace hA:=hA.below hw
 replace hW:=bT hW hw
 clear hw
 go_upto_region 6 with (fail)
 have s1:=hW.size
 refine rSeq 9 50 (fun _=>false) [Is (.agg (ints .u8 sd).toArray),Is (.agg (ints .u8 pu).toArray),Is (.slice AT lt ct),IsTupE m 0 z,IsTupE m 0 z,IsRw .u8 m z,Is (.int .i64 0),IsRw .u8 m z,Is (.int .i64 0)] [24,25,26,27,23,28,29,9,10] (gC (gC (gC (grows_cons (IsTupE.grows _ _ _) (grows_cons (IsTupE.grows _ _ _) (grows_cons (IsRw.grows _ _ _) (gC (grows_cons (IsRw.grows _ _ _) (gC grows_nil)))))))))
  ⟨step_ldV rfl (.inl rfl) (fun _ hw=>(h3.next hw).range) rfl Tryz.underlying22 rfl (szV infS32 (il H1.out)) rfl (kO 3 rfl),
   step_ldV rfl (.inl rfl) (fun _ hw=>(h4.next hw).range) rfl Tryz.underlying22 rfl (szV infS32 (il H2.out)) rfl (kO 4 rfl),
   step_mvP rfl (.inl rfl) rfl rfl (kO 2 rfl),
   step_callR rfl (.inl rfl) rfl cxRWra rfl (fun aa ww hw hf hd=>⟨_,(three_args (kI 0 24 rfl rfl) (kI 1 25 rfl rfl) (kI 2 26 rfl rfl)) aa ww hw hf hd,HRW.out ww (hA.below hw)⟩),
   step_copyW rfl (.inl rfl) 3 27 (.inl rfl) rfl (by decide) (by kernel_rfl) rfl rfl,
   tupE_fst rfl (.inl rfl) rfl rfl (knowsW_in 4 23 (by decide) (by kernel_rfl) rfl rfl),
   tupE_snd rfl (.inl rfl) rfl rfl (knowsW_in 4 23 (by decide) (by kernel_rfl) rfl rfl),
   step_copyW rfl (.inl rfl) 5 28 (.inr rfl) rfl (by decide) (by kernel_rfl) rfl rfl,
   step_asgP rfl (.inl rfl) rfl rfl (kI 6 29 rfl rfl),trivial⟩ ?_
 intro val w2 hw hS hap hla
 have e24:=eVal hS 0 24 rfl rfl
 have e25:=eVal hS 1 25 rfl rfl
 have e26:=eVal hS 2 26 rfl rfl
 have e29:=eVal hS 6 29 rfl rfl
 obtain ⟨B9,c9,e9,N9⟩:=hS 7 9 (by decide) rfl
 have e10:=eVal hS 8 10 rfl rfl
 simp only [pA,pB,pC,pD,pE,Act.put,pG,pH,pI,e24,e25,e26,e29,e9,e10]
 generalize val 27=g27
 generalize val 23=g23
 generalize val 28=g28
 clear hS hap hla e24 e25 e26 e29 e9 e10
 replace h3:=h3.next hw
 replace h4:=h4.next hw
 replace hT:=hT.next hw
 replace hC:=hC.next hw
 replace hA:=hA.below hw
 replace N7:=N7.below hw
 replace hW:=bT hW hw
 clear hw
 go_upto_region 7 with (fail)
 have s2:=hW.size
 refine rSeq 21 50 (fun _=>false) [Is (.slice B7 m c7),Is (.slice B9 m c9),Is (.bool true),Is (.bool true),Is (.int .i64 0),Is (.int .i64 0),Is (.bool true),Is (.bool true),Is (.bool true),Is (.int .i64 0),Is (.bool false),Is (.bool false),Is (.slice B7 m c7),Is (.int .i64 (m:Nat)),Is (.slice AT lt ct),Is (.int .i64 (lt:Nat)),Is (.int .i64 (m:Nat)),Is (.bool true),Is (.bool true),Is (.bool true),Is (.bool true)] [30,31,32,33,34,35,36,37,38,39,40,41,42,43,44,45,46,47,48,49,6] (gC (gC (gC (gC (gC (gC (gC (gC (gC (gC (gC (gC (gC (gC (gC (gC (gC (gC (gC (gC (gC grows_nil)))))))))))))))))))))
  ⟨step_mvP rfl (.inl rfl) rfl rfl (kO 7 rfl),
   step_mvP rfl (.inl rfl) rfl rfl (kO 9 rfl),
   step_cw rfl (.inl rfl) rfl cxSamB rfl (fun aa ww hw hf hd=>⟨_,(two_args (kI 0 30 rfl rfl) (kI 1 31 rfl rfl)) aa ww hw hf hd,HSAME.out ww _ _ _ _ (N7.below hw) (N9.below hw)⟩),
   step_mvP rfl (.inl rfl) rfl rfl (kI 2 32 rfl rfl),
   step_mvP rfl (gN 3 true 33 rfl rfl rfl) rfl rfl (kO 8 rfl),
   step_mvP rfl (gN 3 true 33 rfl rfl rfl) rfl rfl (kO 10 rfl),
   step_eqI rfl (gN 3 true 33 rfl rfl rfl) rfl Tryz.underlying3 rfl (kI 4 34 rfl rfl) (kI 5 35 rfl rfl),
   step_pick rfl (.inl rfl) (b:=true) rfl rfl (kI 3 33 rfl rfl) (kI 6 36 rfl rfl),
   step_mvP rfl (.inl rfl) rfl rfl (kI 7 37 rfl rfl),
   step_mvP rfl (gN 8 true 38 rfl rfl rfl) rfl rfl (kO 8 rfl),
   step_neC rfl (gN 8 true 38 rfl rfl rfl) rfl Tryz.underlying25 rfl (by decide) (kI 9 39 rfl rfl),
   step_mvP rfl (gN 8 true 38 rfl rfl rfl) rfl rfl (kI 10 40 rfl rfl),
   step_mvP rfl (gN 11 false 41 rfl rfl rfl) rfl rfl (kO 7 rfl),
   step_len rfl (gN 11 false 41 rfl rfl rfl) uaVs rfl rfl (kI 12 42 rfl rfl),
   step_mvP rfl (gN 11 false 41 rfl rfl rfl) rfl rfl (kO 2 rfl),
   step_len rfl (gN 11 false 41 rfl rfl rfl) uaVs rfl rfl (kI 14 44 rfl rfl),
   step_cw rfl (gN 11 false 41 rfl rfl rfl) rfl cxSizB rfl (fun aa ww hw hf hd=>⟨_,(one_arg (kI 15 45 rfl rfl)) aa ww hw hf hd,HSZ.out ww⟩),
   step_eqI rfl (gN 11 false 41 rfl rfl rfl) rfl Tryz.underlying3 rfl (kI 13 43 rfl rfl) (kI 16 46 rfl rfl),
   step_pick rfl (gN 8 true 38 rfl rfl rfl) (b:=false) rfl rfl (kI 11 41 rfl rfl) (kI 17 47 rfl rfl),
   step_pick rfl (.inl rfl) (b:=true) rfl rfl (kI 8 38 rfl rfl) (kI 18 48 rfl rfl),
   step_asgP rfl (.inl rfl) rfl rfl (kI 19 49 rfl rfl),trivial⟩ ?_
 intro val w3 hw hS hap hla
 simp only [pA,pB,pC,pD,pE,Act.put,pG,pH,pI,eVal hS 0 30 rfl rfl,eVal hS 1 31 rfl rfl,eVal hS 2 32 rfl rfl,eVal hS 3 33 rfl rfl,eVal hS 4 34 rfl rfl,eVal hS 5 35 rfl rfl,eVal hS 6 36 rfl rfl,eVal hS 7 37 rfl rfl,eVal hS 8 38 rfl rfl,eVal hS 9 39 rfl rfl,eVal hS 10 40 rfl rfl,eVal hS 11 41 rfl rfl,eVal hS 12 42 rfl rfl,eVal hS 13 43 rfl rfl,eVal hS 14 44 rfl rfl,eVal hS 15 45 rfl rfl,eVal hS 16 46 rfl rfl,eVal hS 17 47 rfl rfl,eVal hS 18 48 rfl rfl,eVal hS 19 49 rfl rfl,eVal hS 20 6 rfl rfl]
 clear hS hap hla
 replace h3:=h3.next hw
 replace h4:=h4.next hw
 replace hT:=hT.next hw
 replace hC:=hC.next hw
 replace hA:=hA.below hw
 replace N7:=N7.below hw
 replace N9:=N9.below hw
 replace hW:=bT hW hw
 clear hw
 go_wp2_with (fail)
 go_ret
 exact ⟨rfl,hW⟩
theorem boxWraps_walk (w:World) (ht:TabsH w∧Tabs w) (sd:List Int) (l0:sd.length=32) (x0:∀x ∈ sd,(Lit.int .u8 x).wf=true) (pu:List Int) (l1:pu.length=32) (x1:∀x ∈ pu,(Lit.int .u8 x).wf=true) (AT:Option Addr) (ct:Nat) (t:List Int) (hc:t.length≤ct) (_:ct≤maxLen) (x2:∀x ∈ t,(Lit.int .u8 x).wf=true) (hA:Nums w .u8 AT t) :
 Calls Tryz.prog 3 #[.agg (ints .u8 sd).toArray,.agg (ints .u8 pu).toArray,.slice AT t.length ct] w fun e w'=>e=.returned (.bool true)∧Below w.heap.size w w':=by
 obtain ⟨hT,hC⟩:=ht
 have b0:HByt sd:=byt_of_wfZ x0
 have b1:HByt pu:=byt_of_wfZ x1
 have b2:HByt t:=byt_of_wfZ x2
 obtain ⟨lt,hl⟩:∃n,t.length=n:=⟨_,rfl⟩
 rw [hl] at hc ⊢
 by_cases h:lt≤300
 ·cases hn:noughtB sd pu with
  | true=>exact wraps_no sd pu t AT lt ct w hT hC (hid l0) (hid l1) h hA (hid awake_any) (hid fun w hT hC hA=>wrap_none sd pu t AT lt ct w hT hC l0 b0 l1 b1 (by omega) hA hn) (hid fun w hA=>rwrap_none sd pu t AT lt ct w l0 b0 l1 b1 hA hn) (hid fun w=>same_eq none none 0 0 [] [] w rfl (by decide) Nums.nil Nums.nil)
  | false =>
    have hzl:(wrapL sd pu t).length=32+(lt+16):=by
     unfold wrapL
     rw [hn,if_neg (by decide),List.length_append,pub_len,sealL_len (boxK_len _ _ _) (zeros_len 12) (by omega),hl]
    have hwr:=fun w hT hC hA=>wrap_some sd pu t AT lt ct w hT hC l0 b0 l1 b1 hl (by omega) b2 hA hn
    have hrw:=fun w hA=>rwrap_some sd pu t AT lt ct w l0 b0 l1 b1 hl (by omega) b2 hA hn
    have hsz:sizeB (lt:Int)=((32+(lt+16):Nat):Int):=by unfold sizeB;rw [if_pos ⟨by omega,by omega⟩];omega
    have hsc:=fun w=>size_any (lt:Int) w
    rw [hsz] at hsc
    have hmb:32+(lt+16)≤1000:=by omega
    generalize wrapL sd pu t=z at *
    generalize 32+(lt+16)=m at *
    exact wraps_yes z m sd pu t AT lt ct w hT hC (hid l0) (hid l1) h hA (hid awake_any) (hid hwr) (hid hrw) (hid fun w A B c d hN1 hN2=>by
     have hs:=same_eq A B c d z z w rfl (by unfold maxLen;omega) hN1 hN2
     rw [hzl] at hs
     exact hs) (hid hsc)
 ·exact wraps_long sd pu t AT lt ct w hT hC (hid l0) (hid l1) (by omega) hA (hid awake_any)
end Go.Proofs.YtkblmdakejmmhaaGreatDoor
