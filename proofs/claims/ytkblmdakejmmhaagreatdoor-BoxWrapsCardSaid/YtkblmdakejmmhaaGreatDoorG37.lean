import Derived.Test.YtkblmdakejmmhaaGreatDoorG36
namespace Go.Proofs.YtkblmdakejmmhaaGreatDoor
open Go Go.RowKit
section
set_option maxHeartbeats 4000000
set_option maxRecDepth 50000
theorem wrap_no (sd pu se K:List Int) (AT:Option Addr) (lt ct:Nat) (t:List Int) (w:World) (hT:TabsH w) (hC:Tabs w) (H1:Hid (sd.length=32)) (H2:Hid (pu.length=32)) (H3:Hid (se.length=32)) (HK:Hid (K.length=32)) (hlt:lt≤400) (hA:Nums w .u8 AT t) (HP:Hid (CallsTo 12 #[.agg (ints .u8 sd).toArray] (.agg (ints .u8 se).toArray))) (HA:Hid (∀w,TabsH w→Calls Tryz.prog 13 #[.agg (ints .u8 sd).toArray,.agg (ints .u8 pu).toArray,.agg (ints .u8 se).toArray,.agg (ints .u8 pu).toArray] w fun e w'=>e=.returned (.tuple #[.agg (ints .u8 K).toArray,.int .i64 21])∧Below w.heap.size w w')) :
 Calls Tryz.prog 6 #[.agg (ints .u8 sd).toArray,.agg (ints .u8 pu).toArray,.slice AT lt ct] w fun e w'=>e=.returned (.tuple #[.slice none 0 0,.int .i64 21])∧Below w.heap.size w w':=by
 have h3:=((Arr.made w .u8 sd 22).alloc (.cells (ints .u8 pu).toArray 22)).rw
 have h4:=(Arr.made (w.alloc (.cells (ints .u8 sd).toArray 22)) .u8 pu 22).rw
 have hW:=((below_new w (.cells (ints .u8 sd).toArray 22)).alloc (by simp) (.cells (ints .u8 pu).toArray 22))
 simp only [World.size_alloc] at h4
 obtain ⟨z32,s32⟩:=zero_of_info infS32
 replace hT:=hT.next hW
 replace hC:=hC.next hW
 replace hA:=hA.below hW
 have g1:¬(1048528:Int)<(lt:Int):=by omega
 go_enter Tryz.func6,Tryz.ntmps6
 go_upto_region 1 with (fail)
 generalize ((w.alloc (.cells (ints .u8 sd).toArray 22)).alloc (.cells (ints .u8 pu).toArray 22))=w0 at *
 have s0:=hW.size
 refine rSeq 3 40 (fun i=>i==2) [Is (.agg (ints .u8 sd).toArray),Is (.agg (ints .u8 se).toArray),IsZV w0.heap.size (ints .u8 (hzeros 32))] [13,14,8] (gC (gC (grows_cons (IsZV.grows _ _) grows_nil)))
  ⟨step_ldV rfl (.inl rfl) (fun _ hw=>(h3.next hw).range) rfl Tryz.underlying22 rfl (szV infS32 (il H1.out)) rfl (kO 3 rfl),
   step_to rfl (.inl rfl) rfl cxPubB HP.out rfl (one_arg (kI 0 13 rfl rfl)),
   step_allocV (.inl rfl) infS32 rfl rfl,trivial⟩ ?_
 intro val w1 hw hS hap hla
 obtain ⟨b8,e8,L8,Z8⟩:=hS 2 8 (by decide) rfl
 simp only [pA,pB,pC,pD,pE,Act.put,pG,pH,pI,eVal hS 0 13 rfl rfl,eVal hS 1 14 rfl rfl,e8]
 clear hS hap hla e8
 have LL8:=hid (show ((ints .u8 se)).length=32 from (il H3.out))
 have R8:=Z8.roomA (us:=(ints .u8 se)) (LL8.out.trans (zvH .u8 32).symm)
 have h8:=Z8.storedA (us:=(ints .u8 se)) (LL8.out.trans (zvH .u8 32).symm)
 have hu:=Below.setCells hw L8 0 (ints .u8 se).toArray.toList
 replace h3:=h3.next hu
 replace h4:=h4.next hu
 replace hT:=hT.next hu
 replace hC:=hC.next hu
 replace hA:=hA.below hu
 replace hW:=bT hW hu
 clear hu
 with_reducible refine wpList_store_mid (op:=⟨none,.store 22 (.tmp 8) (.tmp 14),_,_,_,_⟩) rfl 22 (.tmp 8) (.tmp 14) rfl b8 0 (ints .u8 se).toArray rfl rfl R8 (szA infS32 LL8.out) (ints_all _ _) ?_
 generalize (w1.setCells b8 0 (ints .u8 se).toArray.toList)=w2 at *
 clear hw R8 LL8 Z8 L8
 go_upto_region 2 with (fail)
 have s2:=hW.size
 refine rSeq 9 40 (fun i=>i==8) [Is (.agg (ints .u8 sd).toArray),Is (.agg (ints .u8 pu).toArray),Is (.agg (ints .u8 se).toArray),Is (.agg (ints .u8 pu).toArray),Is (.tuple #[(.agg (ints .u8 K).toArray),(.int .i64 21)]),Is (.tuple #[(.agg (ints .u8 K).toArray),(.int .i64 21)]),Is (.agg (ints .u8 K).toArray),Is (.int .i64 21),IsZV w2.heap.size (ints .u8 (hzeros 32))] [16,17,18,19,20,15,21,22,9] (gC (gC (gC (gC (gC (gC (gC (gC (grows_cons (IsZV.grows _ _) grows_nil)))))))))
  ⟨step_ldV rfl (.inl rfl) (fun _ hw=>(h3.next hw).range) rfl Tryz.underlying22 rfl (szV infS32 (il H1.out)) rfl (kO 3 rfl),
   step_ldV rfl (.inl rfl) (fun _ hw=>(h4.next hw).range) rfl Tryz.underlying22 rfl (szV infS32 (il H2.out)) rfl (kO 4 rfl),
   step_ldV rfl (.inl rfl) (fun _ hw=>(h8.next hw).range) rfl Tryz.underlying22 rfl (szV infS32 (il H3.out)) rfl (kO 8 rfl),
   step_ldV rfl (.inl rfl) (fun _ hw=>(h4.next hw).range) rfl Tryz.underlying22 rfl (szV infS32 (il H2.out)) rfl (kO 4 rfl),
   step_cw rfl (.inl rfl) rfl cxAgrB rfl (fun aa ww hw hf hd=>⟨_,(four_args (kI 0 16 rfl rfl) (kI 1 17 rfl rfl) (kI 2 18 rfl rfl) (kI 3 19 rfl rfl)) aa ww hw hf hd,HA.out ww (hT.next hw)⟩),
   step_mvP rfl (.inl rfl) rfl rfl (kI 4 20 rfl rfl),
   step_fstZ rfl (.inl rfl) rfl rfl (kI 5 15 rfl rfl),
   step_sndZ rfl (.inl rfl) rfl rfl (kI 5 15 rfl rfl),
   step_allocV (.inl rfl) infS32 rfl rfl,trivial⟩ ?_
 intro val w3 hw hS hap hla
 obtain ⟨b9,e9,L9,Z9⟩:=hS 8 9 (by decide) rfl
 simp only [pA,pB,pC,pD,pE,Act.put,pG,pH,pI,eVal hS 0 16 rfl rfl,eVal hS 1 17 rfl rfl,eVal hS 2 18 rfl rfl,eVal hS 3 19 rfl rfl,eVal hS 4 20 rfl rfl,eVal hS 5 15 rfl rfl,eVal hS 6 21 rfl rfl,eVal hS 7 22 rfl rfl,e9]
 clear hS hap hla e9
 have LL9:=hid (show ((ints .u8 K)).length=32 from (il HK.out))
 have R9:=Z9.roomA (us:=(ints .u8 K)) (LL9.out.trans (zvH .u8 32).symm)
 have h9:=Z9.storedA (us:=(ints .u8 K)) (LL9.out.trans (zvH .u8 32).symm)
 have hu:=Below.setCells hw L9 0 (ints .u8 K).toArray.toList
 replace h3:=h3.next hu
 replace h4:=h4.next hu
 replace hT:=hT.next hu
 replace hC:=hC.next hu
 replace hA:=hA.below hu
 replace h8:=h8.next hu
 replace hW:=bT hW hu
 clear hu
 with_reducible refine wpList_store_mid (op:=⟨none,.store 22 (.tmp 9) (.tmp 21),_,_,_,_⟩) rfl 22 (.tmp 9) (.tmp 21) rfl b9 0 (ints .u8 K).toArray rfl rfl R9 (szA infS32 LL9.out) (ints_all _ _) ?_
 generalize (w3.setCells b9 0 (ints .u8 K).toArray.toList)=w4 at *
 clear hw R9 LL9 Z9 L9
 go_wp2_with (fail)
 go_ret2
 exact ⟨rfl,hW⟩
theorem wrap_yes (z:List Int) (sd pu se K:List Int) (AT:Option Addr) (lt ct:Nat) (t:List Int) (w:World) (hT:TabsH w) (hC:Tabs w) (H1:Hid (sd.length=32)) (H2:Hid (pu.length=32)) (H3:Hid (se.length=32)) (HK:Hid (K.length=32)) (hlt:lt≤400) (hA:Nums w .u8 AT t) (HP:Hid (CallsTo 12 #[.agg (ints .u8 sd).toArray] (.agg (ints .u8 se).toArray))) (B3:HByt se) (HZ:Hid (z.length=lt+16)) (HZB:HByt z) (HA:Hid (∀w,TabsH w→Calls Tryz.prog 13 #[.agg (ints .u8 sd).toArray,.agg (ints .u8 pu).toArray,.agg (ints .u8 se).toArray,.agg (ints .u8 pu).toArray] w fun e w'=>e=.returned (.tuple #[.agg (ints .u8 K).toArray,.int .i64 0])∧Below w.heap.size w w'))
 (HS:Hid (∀w,Tabs w→Nums w .u8 AT t→Calls Tryz.prog 14 #[.agg (ints .u8 K).toArray,.agg (ints .u8 (zeros 12)).toArray,.slice none 0 0,.slice AT lt ct] w fun e w'=>∃v,e=.returned v∧IsTup (lt+16) z v w'∧Below w.heap.size w w')) :
 Calls Tryz.prog 6 #[.agg (ints .u8 sd).toArray,.agg (ints .u8 pu).toArray,.slice AT lt ct] w fun e w'=>∃A d,e=.returned (.tuple #[.slice A (32+(lt+16)) d,.int .i64 0])∧32+(lt+16)≤d∧Nums w' .u8 A (se++z)∧Below w.heap.size w w':=by
 have h3:=((Arr.made w .u8 sd 22).alloc (.cells (ints .u8 pu).toArray 22)).rw
 have h4:=(Arr.made (w.alloc (.cells (ints .u8 sd).toArray 22)) .u8 pu 22).rw
 have hW:=((below_new w (.cells (ints .u8 sd).toArray 22)).alloc (by simp) (.cells (ints .u8 pu).toArray 22))
 simp only [World.size_alloc] at h4
 obtain ⟨z32,s32⟩:=zero_of_info infS32
 replace hT:=hT.next hW
 replace hC:=hC.next hW
 replace hA:=hA.below hW
 have g1:¬(1048528:Int)<(lt:Int):=by omega
 go_enter Tryz.func6,Tryz.ntmps6
 go_upto_region 1 with (fail)
 generalize ((w.alloc (.cells (ints .u8 sd).toArray 22)).alloc (.cells (ints .u8 pu).toArray 22))=w0 at *
 have s0:=hW.size
 refine rSeq 3 40 (fun i=>i==2) [Is (.agg (ints .u8 sd).toArray),Is (.agg (ints .u8 se).toArray),IsZV w0.heap.size (ints .u8 (hzeros 32))] [13,14,8] (gC (gC (grows_cons (IsZV.grows _ _) grows_nil)))
  ⟨step_ldV rfl (.inl rfl) (fun _ hw=>(h3.next hw).range) rfl Tryz.underlying22 rfl (szV infS32 (il H1.out)) rfl (kO 3 rfl),
   step_to rfl (.inl rfl) rfl cxPubB HP.out rfl (one_arg (kI 0 13 rfl rfl)),
   step_allocV (.inl rfl) infS32 rfl rfl,trivial⟩ ?_
 intro val w1 hw hS hap hla
 obtain ⟨b8,e8,L8,Z8⟩:=hS 2 8 (by decide) rfl
 simp only [pA,pB,pC,pD,pE,Act.put,pG,pH,pI,eVal hS 0 13 rfl rfl,eVal hS 1 14 rfl rfl,e8]
 clear hS hap hla e8
 have LL8:=hid (show ((ints .u8 se)).length=32 from (il H3.out))
 have R8:=Z8.roomA (us:=(ints .u8 se)) (LL8.out.trans (zvH .u8 32).symm)
 have h8:=Z8.storedA (us:=(ints .u8 se)) (LL8.out.trans (zvH .u8 32).symm)
 have hu:=Below.setCells hw L8 0 (ints .u8 se).toArray.toList
 replace h3:=h3.next hu
 replace h4:=h4.next hu
 replace hT:=hT.next hu
 replace hC:=hC.next hu
 replace hA:=hA.below hu
 replace hW:=bT hW hu
 clear hu
 with_reducible refine wpList_store_mid (op:=⟨none,.store 22 (.tmp 8) (.tmp 14),_,_,_,_⟩) rfl 22 (.tmp 8) (.tmp 14) rfl b8 0 (ints .u8 se).toArray rfl rfl R8 (szA infS32 LL8.out) (ints_all _ _) ?_
 generalize (w1.setCells b8 0 (ints .u8 se).toArray.toList)=w2 at *
 clear hw R8 LL8 Z8 L8
 go_upto_region 2 with (fail)
 have s2:=hW.size
 refine rSeq 9 40 (fun i=>i==8) [Is (.agg (ints .u8 sd).toArray),Is (.agg (ints .u8 pu).toArray),Is (.agg (ints .u8 se).toArray),Is (.agg (ints .u8 pu).toArray),Is (.tuple #[(.agg (ints .u8 K).toArray),(.int .i64 0)]),Is (.tuple #[(.agg (ints .u8 K).toArray),(.int .i64 0)]),Is (.agg (ints .u8 K).toArray),Is (.int .i64 0),IsZV w2.heap.size (ints .u8 (hzeros 32))] [16,17,18,19,20,15,21,22,9] (gC (gC (gC (gC (gC (gC (gC (gC (grows_cons (IsZV.grows _ _) grows_nil)))))))))
  ⟨step_ldV rfl (.inl rfl) (fun _ hw=>(h3.next hw).range) rfl Tryz.underlying22 rfl (szV infS32 (il H1.out)) rfl (kO 3 rfl),
   step_ldV rfl (.inl rfl) (fun _ hw=>(h4.next hw).range) rfl Tryz.underlying22 rfl (szV infS32 (il H2.out)) rfl (kO 4 rfl),
   step_ldV rfl (.inl rfl) (fun _ hw=>(h8.next hw).range) rfl Tryz.underlying22 rfl (szV infS32 (il H3.out)) rfl (kO 8 rfl),
   step_ldV rfl (.inl rfl) (fun _ hw=>(h4.next hw).range) rfl Tryz.underlying22 rfl (szV infS32 (il H2.out)) rfl (kO 4 rfl),
   step_cw rfl (.inl rfl) rfl cxAgrB rfl (fun aa ww hw hf hd=>⟨_,(four_args (kI 0 16 rfl rfl) (kI 1 17 rfl rfl) (kI 2 18 rfl rfl) (kI 3 19 rfl rfl)) aa ww hw hf hd,HA.out ww (hT.next hw)⟩),
   step_mvP rfl (.inl rfl) rfl rfl (kI 4 20 rfl rfl),
   step_fstZ rfl (.inl rfl) rfl rfl (kI 5 15 rfl rfl),
   step_sndZ rfl (.inl rfl) rfl rfl (kI 5 15 rfl rfl),
   step_allocV (.inl rfl) infS32 rfl rfl,trivial⟩ ?_
 intro val w3 hw hS hap hla
 obtain ⟨b9,e9,L9,Z9⟩:=hS 8 9 (by decide) rfl
 simp only [pA,pB,pC,pD,pE,Act.put,pG,pH,pI,eVal hS 0 16 rfl rfl,eVal hS 1 17 rfl rfl,eVal hS 2 18 rfl rfl,eVal hS 3 19 rfl rfl,eVal hS 4 20 rfl rfl,eVal hS 5 15 rfl rfl,eVal hS 6 21 rfl rfl,eVal hS 7 22 rfl rfl,e9]
 clear hS hap hla e9
 have LL9:=hid (show ((ints .u8 K)).length=32 from (il HK.out))
 have R9:=Z9.roomA (us:=(ints .u8 K)) (LL9.out.trans (zvH .u8 32).symm)
 have h9:=Z9.storedA (us:=(ints .u8 K)) (LL9.out.trans (zvH .u8 32).symm)
 have hu:=Below.setCells hw L9 0 (ints .u8 K).toArray.toList
 replace h3:=h3.next hu
 replace h4:=h4.next hu
 replace hT:=hT.next hu
 replace hC:=hC.next hu
 replace hA:=hA.below hu
 replace h8:=h8.next hu
 replace hW:=bT hW hu
 clear hu
 with_reducible refine wpList_store_mid (op:=⟨none,.store 22 (.tmp 9) (.tmp 21),_,_,_,_⟩) rfl 22 (.tmp 9) (.tmp 21) rfl b9 0 (ints .u8 K).toArray rfl rfl R9 (szA infS32 LL9.out) (ints_all _ _) ?_
 generalize (w3.setCells b9 0 (ints .u8 K).toArray.toList)=w4 at *
 clear hw R9 LL9 Z9 L9
 go_wp2_with (fail)
 have s4:=hW.size
 refine rSpec 8 40 (fun _=>false) [Is (.agg (ints .u8 K).toArray),Is (.agg (ints .u8 (zeros 12)).toArray),Is (.slice AT lt ct),IsTup (lt+16) z,IsTup (lt+16) z,IsPart (lt+16) z,Is (.int .i64 0),IsPart (lt+16) z] [30,31,32,33,29,34,35,11] (gC (gC (gC (grows_cons (IsTup.grows _ _) (grows_cons (IsTup.grows _ _) (grows_cons (IsPart.grows _ _) (gC (grows_cons (IsPart.grows _ _) grows_nil))))))))
  ⟨step_ldV rfl (.inl rfl) (fun _ hw=>(h9.next hw).range) rfl Tryz.underlying22 rfl (szV infS32 (il HK.out)) rfl (kO 9 rfl),
   step_to0 rfl (.inl rfl) rfl cxNonB nonce_any rfl,
   step_mvP rfl (.inl rfl) rfl rfl (kO 2 rfl),
   step_callR rfl (.inl rfl) rfl cxSeaB rfl (fun aa ww hw hf hd=>⟨_,(four_args (kI 0 30 rfl rfl) (kI 1 31 rfl rfl) (knows_const _) (kI 2 32 rfl rfl)) aa ww hw hf hd,HS.out ww (hC.next hw) (hA.below hw)⟩),
   step_copyW rfl (.inl rfl) 3 33 (.inl rfl) rfl (by decide) (by kernel_rfl) rfl rfl,
   tup_fst rfl (.inl rfl) rfl rfl (knowsW_in 4 29 (by decide) (by kernel_rfl) rfl rfl),
   tup_snd rfl (.inl rfl) rfl rfl (knowsW_in 4 29 (by decide) (by kernel_rfl) rfl rfl),
   step_copyW rfl (.inl rfl) 5 34 (.inr rfl) rfl (by decide) (by kernel_rfl) rfl rfl,trivial⟩ ?_
 intro val w5 hw hS hap hla
 have e30:=eVal hS 0 30 rfl rfl
 have e31:=eVal hS 1 31 rfl rfl
 have e32:=eVal hS 2 32 rfl rfl
 have e35:=eVal hS 6 35 rfl rfl
 obtain ⟨B11,c11,e11,h11,N11⟩:=hS 7 11 (by decide) rfl
 simp only [pA,pB,pC,pD,pE,Act.put,pG,pH,pI,e30,e31,e32,e35,e11]
 generalize val 33=g33
 generalize val 29=g29
 generalize val 34=g34
 clear hS hap hla e30 e31 e32 e35 e11
 replace h3:=h3.next hw
 replace h4:=h4.next hw
 replace hT:=hT.next hw
 replace hC:=hC.next hw
 replace hA:=hA.below hw
 replace h8:=h8.next hw
 replace h9:=h9.next hw
 replace hW:=bT hW hw
 clear hw
 go_upto_region 8 with (fail)
 have s5:=hW.size
 refine rSeq 6 40 (fun _=>false) [Is (.slice (some ⟨b8,0,none⟩) 32 32),Is (.slice B11 (lt+16) c11),IsRow2 se z,IsPart (32+(lt+16)) (se++z),IsPart (32+(lt+16)) (se++z),Is (.int .i64 0)] [36,37,38,39,6,7] (gC (gC (grows_cons (IsRow2.grows _ _) (grows_cons (IsPart.grows _ _) (grows_cons (IsPart.grows _ _) (gC grows_nil))))))
  ⟨step_one rfl (.inl rfl) (fun ev w h hc=>ex_slA (P:=Tryz.prog) uaV32 zeV32 (m:=32) rfl rfl ev w h hc) rfl (kO 8 rfl),
   step_mvP rfl (.inl rfl) rfl rfl (kO 11 rfl),
   step_row2 rfl (.inl rfl) rfl ⟨H3.out,by decide,B3⟩ ⟨HZ.out,by omega,HZB⟩ rfl ((kI 0 36 rfl rfl).part (Nat.le_refl _) (fun w hw=>((h8.next hw)).nums)) ((kI 1 37 rfl rfl).part h11 (fun w hw=>N11.below hw)),
   step_catB rfl (.inl rfl) rfl H3.out HZ.out (by decide) (by decide) (by omega) rfl (knowsW_in 2 38 (by decide) (by kernel_rfl) rfl rfl),
   step_copyW rfl (.inl rfl) 3 39 (.inr rfl) rfl (by decide) (by kernel_rfl) rfl rfl,
   step_asgP rfl (.inl rfl) rfl rfl (knows_const _),trivial⟩ ?_
 intro val w6 hw hS hap hla
 have e36:=eVal hS 0 36 rfl rfl
 have e37:=eVal hS 1 37 rfl rfl
 obtain ⟨B6,c6,e6,h6,N6⟩:=hS 4 6 (by decide) rfl
 have e7:=eVal hS 5 7 rfl rfl
 simp only [pA,pB,pC,pD,pE,Act.put,pG,pH,pI,e36,e37,e6,e7]
 generalize val 38=g38
 generalize val 39=g39
 clear hS hap hla e36 e37 e6 e7
 replace h3:=h3.next hw
 replace h4:=h4.next hw
 replace hT:=hT.next hw
 replace hC:=hC.next hw
 replace hA:=hA.below hw
 replace h8:=h8.next hw
 replace h9:=h9.next hw
 replace N11:=N11.below hw
 replace hW:=bT hW hw
 clear hw
 go_wp2_with (fail)
 go_ret2
 exact ⟨B6,c6,rfl,h6,N6,hW⟩
end
section
set_option maxRecDepth 50000
set_option maxHeartbeats 4000000 in
theorem aseal_core (key nonce be t h r:List Int) (AB AT:Option Addr) (lb cb lt ct:Nat) (w:World) (hT:Tabs w) (hk:Hid (key.length=32)) (hn:Hid (nonce.length=12)) (hkb:HByt key) (hnb:HByt nonce) (HTB:HByt t) (PB:Hid (PLZ lb be)) (PT:Hid (t.length=lt)) (hlt:lt≤400) (hlb:lb≤1000) (hcb:lb≤cb) (HH:Hid (hideL t (strm key nonce 1 (4294967296 - 1))=h)) (PH:Hid (PLZ lt h)) (HR:Hid (atag key nonce be h=r)) (HRL:Hid (r.length=16)) (hB:Nums w .u8 AB be) (hA:Nums w .u8 AT t) :
 Calls Tryz.prog 14 #[.agg (ints .u8 key).toArray,.agg (ints .u8 nonce).toArray,.slice AB lb cb,.slice AT lt ct] w fun e w'=>∃A d,e=.returned (.tuple #[.slice A (lt+16) d,.int .i64 0])∧lt+16≤d∧Nums w' .u8 A (h++r)∧Below w.heap.size w w':=by
 obtain ⟨z33,s33⟩:=zero_of_info inf33
 have hK:=((Arr.made w .u8 key 22).alloc (.cells (ints .u8 nonce).toArray 40)).rw
 have hN:=(Arr.made (w.alloc (.cells (ints .u8 key).toArray 22)) .u8 nonce 40).rw
 have hW:=(below_new w (.cells (ints .u8 key).toArray 22)).alloc (by simp) (.cells (ints .u8 nonce).toArray 40)
 rw [World.size_alloc] at hN
 replace hT:=hT.next hW
 replace hB:=hB.below hW
 replace hA:=hA.below hW
 have i32:(Tryz.prog.info? 22).map (·.size)=some (ints .u8 key).length:=szV inf41 (il hk.out)
 have i12:(Tryz.prog.info? 40).map (·.size)=some (ints .u8 nonce).length:=szV infNo (il hn.out)
 have g1:(lt:Int)≤400:=by omega
 have g2:(lb:Int)≤1000:=by omega
 have r4:=hK.range
 have r5:=hN.range
 go_enter Tryz.func14,Tryz.ntmps14
 go_wp2_with (first
  | (with_reducible refine wpList_load_mid (op:=⟨some 22,.load 22 (.tmp 4),_,_,_,_⟩) rfl 22 (.tmp 4) rfl w.heap.size 0 rfl (ints .u8 key) _ r4 Tryz.underlying22 rfl i32 ?_)
  | (with_reducible refine wpList_load_mid (op:=⟨some 23,.load 40 (.tmp 5),_,_,_,_⟩) rfl 40 (.tmp 5) rfl (w.heap.size+1) 0 rfl (ints .u8 nonce) _ r5 Tryz.underlying40 rfl i12 ?_)
  | (go_at_call 28;clear r4 r5;generalize (w.alloc (.cells (ints .u8 key).toArray 22)).alloc (.cells (ints .u8 nonce).toArray 40)=w8 at *
     refine (hide_own key nonce t 1 lt ct AT _ hT hk hn hkb hnb HTB PT (by omega) (by decide) (by omega) hA).mono ?_;rintro e w1 ⟨AH,dh,rfl,hO,hb1,hdh⟩
     rw [HH.out] at hO
     replace hO:=hO.lower hW.size
     replace hK:=hK.next hb1;replace hN:=hN.next hb1;replace hB:=hB.below hb1;replace hT:=hT.next hb1;replace hW:=hW.trans (Below.mono hb1 hW.size)
     have q4:=hK.range
     have q5:=hN.range
     clear hb1 hA)
  | (with_reducible refine wpList_load_mid (op:=⟨some 28,.load 22 (.tmp 4),_,_,_,_⟩) rfl 22 (.tmp 4) rfl w.heap.size 0 rfl (ints .u8 key) _ q4 Tryz.underlying22 rfl i32 ?_)
  | (with_reducible refine wpList_load_mid (op:=⟨some 29,.load 40 (.tmp 5),_,_,_,_⟩) rfl 40 (.tmp 5) rfl (w.heap.size+1) 0 rfl (ints .u8 nonce) _ q5 Tryz.underlying40 rfl i12 ?_)
  | (go_at_call 29;clear q4 q5;refine (atag_any key nonce be h AB AH lb cb lt dh _ hT hk hn hkb hnb PB PH hcb hdh hB hO.nums).mono ?_;rintro e w2 ⟨rfl,hb2⟩
     rw [HR.out]
     replace hO:=hO.stay hb2
     have hb3:=below_new w2 (.cells (ints .u8 (zeros 16)).toArray 54)
     have h12:=Rw.new w2 (ints .u8 (zeros 16)) 54
     have R12:=h12.roomA (us:=ints .u8 r) ((il HRL.out).trans (il (zeros_len 16)).symm)
     have X12:=h12.storedA (us:=ints .u8 r) ((il HRL.out).trans (il (zeros_len 16)).symm)
     have hb4:=Below.setCells (below_new w2 (.cells (ints .u8 (zeros 16)).toArray 54)) (Nat.le_refl _) 0 (ints .u8 r).toArray.toList
     replace hO:=hO.stay hb4
     replace hW:=hW.trans (Below.mono (hb2.trans (Below.mono hb4 hb2.size)) hW.size)
     clear hb2 hb3 hb4 h12)
  | (with_reducible refine wpList_store_mid (op:=⟨none,.store 54 (.tmp 12) (.tmp 32),_,_,_,_⟩) rfl 54 (.tmp 12) (.tmp 32) rfl w2.heap.size 0 (ints .u8 r).toArray rfl rfl R12 (szA inf33 (il HRL.out)) (ints_all _ _) ?_
     generalize (w2.alloc (.cells (ints .u8 (zeros 16)).toArray 54)).setCells w2.heap.size 0 (ints .u8 r).toArray.toList=w3 at *
     generalize w2.heap.size=b12 at *
     clear R12)
  | (at_builtin;refine app_nums rfl (.tmp 33) (.tmp 34) 23 rfl w.heap.size 5 .u8 1 Tryz.underlying23 Tryz.info5 (by omega) AH lt dh h rfl hO (some ⟨b12,0,none⟩) 16 r (by rw [HRL.out];rfl) X12.nums (by rw [HRL.out,PH.out.1];omega) hW.size ?_;intro A2 n2 d2 w4 hO2 hG))
 have hW4:Below w.heap.size w w4:=hW.trans (hG.below hW.size fun g e=>(hO.lt g e).1)
 obtain ⟨A3,m3,d3,e3,hm3,hmd3⟩:=slice_of_row2 hO2
 injection e3 with e4 e5 e6
 subst e4 e5 e6
 rw [List.length_append,PH.out.1,HRL.out] at hm3
 subst hm3
 clear hO hG hW
 go_ret2
 exact ⟨A2,d2,rfl,hmd3,hO2.nums,hW4⟩
theorem aseal_any (key nonce be t:List Int) (AB AT:Option Addr) (lb cb lt ct:Nat) (w:World) (hT:Tabs w) (hk:Hid (key.length=32)) (hn:Hid (nonce.length=12)) (hkb:HByt key) (hnb:HByt nonce) (HTB:HByt t) (PB:Hid (PLZ lb be)) (PT:Hid (t.length=lt)) (hlt:lt≤400) (hcb:lb≤cb) (hB:Nums w .u8 AB be) (hA:Nums w .u8 AT t) :
 Calls Tryz.prog 14 #[.agg (ints .u8 key).toArray,.agg (ints .u8 nonce).toArray,.slice AB lb cb,.slice AT lt ct] w fun e w'=>∃A d,e=.returned (.tuple #[.slice A (lt+16) d,.int .i64 0])∧lt+16≤d∧Nums w' .u8 A (sealL key nonce be t)∧Below w.heap.size w w' :=
 aseal_core key nonce be t (hidT key nonce t) (atag key nonce be (hidT key nonce t)) AB AT lb cb lt ct w hT hk hn hkb hnb HTB PB PT hlt PB.out.2.1 hcb (hid rfl) (hid ⟨by rw [hidT_len hk.out hn.out (by rw [PT.out];omega),PT.out],by omega,hidT_byt _ _ HTB⟩) (hid rfl) (hid (atag_len _ _ _ _)) hB hA
end
section
set_option maxRecDepth 50000
def frcB {α:Type} (a:Nat) (k:Nat→α):α:=Nat.rec (k 0) (fun m _=>k (m+1)) a
theorem frcB_eq {α:Type} (a:Nat) (k:Nat→α):frcB a k=k a:=by cases a <;> rfl
def stpB (p u:Nat) (st:Bool) (a b c d:Nat) (k:Nat→Nat→Nat→Nat→Bool):Bool :=
 frcB (cond st c a) fun x=>frcB (cond st d b) fun z =>
 frcB ((x+z)%p) fun s=>frcB ((x+p - z)%p) fun t =>
 frcB (s*s%p) fun ss=>frcB (t*t%p) fun tt =>
 frcB ((ss+p - tt)%p) fun e=>frcB (ss*tt%p) fun dx =>
 frcB (e*((ss+121665*e%p)%p)%p) fun dz =>
 frcB ((c+p - d)%p*((a+b)%p)%p) fun U=>frcB ((c+d)%p*((a+p - b)%p)%p) fun V =>
 frcB ((U+V)%p*((U+V)%p)%p) fun sx=>frcB (u*((U+p - V)%p*((U+p - V)%p)%p)%p) fun sz =>
 cond st (k sx sz dx dz) (k dx dz sx sz)
theorem stpB_eq (u:Nat) (st:Bool) (S:L4) (k:Nat→Nat→Nat→Nat→Bool):stpB NT.PN u st S.a S.b S.c S.d k=k (lstep u st S).a (lstep u st S).b (lstep u st S).c (lstep u st S).d:=by
 cases st <;> simp only [stpB,frcB_eq,cond_true,cond_false,lstep,dX,dZ,dE,sX,sZ,sU,sV,nM,nA,nS]
def ladB (p u:Nat):List Bool→Nat→Nat→Nat→Nat→(Nat→Nat→Nat→Nat→Bool)→Bool
 | [],a,b,c,d,K=>K a b c d
 | st::l,a,b,c,d,K=>stpB p u st a b c d fun a b c d=>ladB p u l a b c d K
theorem ladB_eq (u:Nat) (K:Nat→Nat→Nat→Nat→Bool):∀(l:List Bool) (S:L4),ladB NT.PN u l S.a S.b S.c S.d K=K (l.foldl (fun S st=>lstep u st S) S).a (l.foldl (fun S st=>lstep u st S) S).b (l.foldl (fun S st=>lstep u st S) S).c (l.foldl (fun S st=>lstep u st S) S).d
 | [],_=>rfl
 | st::l,S=>by
   show stpB NT.PN u st S.a S.b S.c S.d _=_
   rw [stpB_eq,ladB_eq u K l (lstep u st S)]
   rfl
theorem ladN_fold (u:Nat) (b:List Int):∀k,ladN u b k=((List.range k).map fun j=>bitB b (254 - j)).foldl (fun S st=>lstep u st S) ⟨1,0,u,1⟩
 | 0=>rfl
 | k+1=>by
   rw [List.range_succ,List.map_append,List.foldl_append,←ladN_fold u b k]
   rfl
def oneB:List Int:=1::zeros 31
def twoB:List Int:=2::zeros 31
def bitsB:List Bool:=true::List.replicate 254 false
theorem clampB:clampL twoB=clampL oneB:=by decide +kernel
theorem bits_one:((List.range 255).map fun j=>bitB (clampL oneB) (254 - j))=bitsB:=by decide +kernel
theorem mulB {u A B i v:Nat} (h:ladB NT.PN u bitsB 1 0 u 1 (fun a b _ _=>Nat.beq a A&&Nat.beq b B)=true) (hi:B^(NT.PN - 2)%NT.PN=i) (hv:A*i%NT.PN=v):mulN oneB u=v:=by
 have e:=ladB_eq u (fun a b _ _=>Nat.beq a A&&Nat.beq b B) bitsB ⟨1,0,u,1⟩
 have e2:=ladN_fold u (clampL oneB) 255
 rw [bits_one] at e2
 rw [←e2] at e
 have h2:=e.symm.trans h
 have h3:=Bool.and_eq_true_iff.1 h2
 have ha:(ladN u (clampL oneB) 255).a=A:=Nat.eq_of_beq_eq_true h3.1
 have hb:(ladN u (clampL oneB) 255).b=B:=Nat.eq_of_beq_eq_true h3.2
 show outN (ladN u (clampL oneB) 255)=v
 unfold outN
 rw [ha,hb,hi,hv]
def v1B:Nat:=52573937849532372069814888178136277301931757964231753054399601207743438775599
def v2B:Nat:=47371584340190434397458396784519032097355506450803964851670834165077996928659
theorem mul_one9:mulN oneB 9=v1B:=mulB (A:=53699084970092229620102095424564848774812783684786248634290088506478568078703) (B:=20097946894889007705884408490665082385984383478950821997587487100163618290637) (i:=4690349756041861591026396950088132225180594110443955054213429870794107548986) (by kernel_rfl) (NT.pow_is 255 (by decide) (by kernel_rfl)) (by decide +kernel)
theorem mul_two9:mulN twoB 9=v1B:=by
 rw [←mul_one9]
 unfold mulN
 rw [clampB]
theorem mul_one_v:mulN oneB v1B=v2B:=mulB (A:=56899195954510505000973056179290705472472639321317522430150156907013189015683) (B:=53650602727256211160930848678485570231621301272366559501404395209450684873940) (i:=6297311692082277206339866975785280257327913378960705927482330000066026313899) (by kernel_rfl) (NT.pow_is 255 (by decide) (by kernel_rfl)) (by decide +kernel)
def noughtB (s p:List Int):Bool:=decide (shL s p=rbytes 0)
def wrapL (sd pu t:List Int):List Int:=if noughtB sd pu then [] else pubL sd++sealL (boxK (shL sd pu) (pubL sd) pu) (zeros 12) [] t
theorem pub_len (s:List Int):(pubL s).length=32:=rbytes_length _
theorem sh_len (s p:List Int):(shL s p).length=32:=rbytes_length _
theorem boxK_len (x s r:List Int):(boxK x s r).length=32:=keyD_len _ _ _
theorem pub_byt (s:List Int):HByt (pubL s):=rbytes_byt _
theorem sh_byt (s p:List Int):HByt (shL s p):=rbytes_byt _
theorem boxK_byt (x s r:List Int):HByt (boxK x s r):=keyD_byt _ _ _
theorem z12_byt:HByt (zeros 12):=fun x hx=>by rw [List.eq_of_mem_replicate hx];omega
theorem pl_nil:PLZ 0 []:=⟨rfl,by decide,fun _ h=>by cases h⟩
theorem agree_zero {mi th:List Int} (se re:List Int) (h1:mi.length=32) (b1:HByt mi) (h2:th.length=32) (b2:HByt th) (h3:se.length=32) (h4:re.length=32) (h:noughtB mi th=true) (w:World) (hT:TabsH w) :
 Calls Tryz.prog 13 #[.agg (ints .u8 mi).toArray,.agg (ints .u8 th).toArray,.agg (ints .u8 se).toArray,.agg (ints .u8 re).toArray] w fun e w'=>e=.returned (.tuple #[.agg (ints .u8 (hzeros 32)).toArray,.int .i64 21])∧Below w.heap.size w w':=by
 have hs:=c_shared h1 b1 h2 b2 true h
 exact agree_no mi th se re (shL mi th) w hT (hid h1) (hid h2) (hid h3) (hid h4) (hid (sh_len _ _)) (hid hs)
theorem agree_key {mi th se re:List Int} (h1:mi.length=32) (b1:HByt mi) (h2:th.length=32) (b2:HByt th) (h3:se.length=32) (b3:HByt se) (h4:re.length=32) (b4:HByt re) (h:noughtB mi th=false) (w:World) (hT:TabsH w) :
 Calls Tryz.prog 13 #[.agg (ints .u8 mi).toArray,.agg (ints .u8 th).toArray,.agg (ints .u8 se).toArray,.agg (ints .u8 re).toArray] w fun e w'=>e=.returned (.tuple #[.agg (ints .u8 (boxK (shL mi th) se re)).toArray,.int .i64 0])∧Below w.heap.size w w':=by
 have hs:=c_shared h1 b1 h2 b2 false h
 exact agree_yes (boxK (shL mi th) se re) mi th se re (shL mi th) w hT (hid h1) (hid h2) (hid h3) (hid h4) (hid (sh_len _ _)) b3 b4 (sh_byt _ _) (hid rfl) (hid (boxK_len _ _ _)) (hid hs)
theorem wrap_some (sd pu t:List Int) (AT:Option Addr) (lt ct:Nat) (w:World) (hT:TabsH w) (hC:Tabs w) (h1:sd.length=32) (b1:HByt sd) (h2:pu.length=32) (b2:HByt pu) (hl:t.length=lt) (hlt:lt≤400) (bt:HByt t) (hA:Nums w .u8 AT t) (h:noughtB sd pu=false) :
 Calls Tryz.prog 6 #[.agg (ints .u8 sd).toArray,.agg (ints .u8 pu).toArray,.slice AT lt ct] w fun e w'=>∃v,e=.returned v∧IsTup (32+(lt+16)) (wrapL sd pu t) v w'∧Below w.heap.size w w':=by
 have hw:wrapL sd pu t=pubL sd++sealL (boxK (shL sd pu) (pubL sd) pu) (zeros 12) [] t:=by unfold wrapL;rw [h];rfl
 rw [hw]
 have hk:=boxK_len (shL sd pu) (pubL sd) pu
 have hkb:=boxK_byt (shL sd pu) (pubL sd) pu
 have hag:=fun w hT=>agree_key h1 b1 h2 b2 (pub_len sd) (pub_byt sd) h2 b2 h w hT
 clear hw
 generalize boxK (shL sd pu) (pubL sd) pu=K at *
 refine (wrap_yes (sealL K (zeros 12) [] t) sd pu (pubL sd) K AT lt ct t w hT hC (hid h1) (hid h2) (hid (pub_len sd)) (hid hk) hlt hA (hid (c_public h1 b1)) (pub_byt sd) (hid ?_) (sealL_byt bt) (hid hag) (hid fun w hC hA=>?_)).mono fun e w' ⟨A,d,he,hd,hN,hb⟩=>⟨_,he,⟨A,d,rfl,hd,hN⟩,hb⟩
 ·rw [sealL_len hk (zeros_len 12) (by omega),hl]
 ·exact (aseal_any K (zeros 12) [] t none AT 0 0 lt ct w hC (hid hk) (hid (zeros_len 12)) hkb z12_byt bt (hid pl_nil) (hid hl) hlt (Nat.le_refl _) Nums.nil hA).mono fun e w' ⟨A,d,he,hd,hN,hb⟩=>⟨_,he,⟨A,d,rfl,hd,hN⟩,hb⟩
theorem wrap_none (sd pu t:List Int) (AT:Option Addr) (lt ct:Nat) (w:World) (hT:TabsH w) (hC:Tabs w) (h1:sd.length=32) (b1:HByt sd) (h2:pu.length=32) (b2:HByt pu) (hlt:lt≤400) (hA:Nums w .u8 AT t) (h:noughtB sd pu=true) :
 Calls Tryz.prog 6 #[.agg (ints .u8 sd).toArray,.agg (ints .u8 pu).toArray,.slice AT lt ct] w fun e w'=>e=.returned (.tuple #[.slice none 0 0,.int .i64 21])∧Below w.heap.size w w' :=
 wrap_no sd pu (pubL sd) (hzeros 32) AT lt ct t w hT hC (hid h1) (hid h2) (hid (pub_len sd)) (hid (hz_len 32)) hlt hA (hid (c_public h1 b1)) (hid fun w hT=>agree_zero _ _ h1 b1 h2 b2 (pub_len sd) h2 h w hT)
def sizeB (n:Int):Int:=if 0≤n∧n≤1048528 then n+48 else 0
theorem size_any (n:Int) (w:World):Calls Tryz.prog 9 #[.int .i64 n] w fun e w'=>e=.returned (.int .i64 (sizeB n))∧Below w.heap.size w w':=by
 have hW:=Below.refl w.heap.size w
 unfold sizeB
 by_cases h0:n<0
 ·rw [if_neg (by omega)]
  have e0:decide (n<0)=true:=decide_eq_true h0
  clear h0
  go_enter Tryz.func9,Tryz.ntmps9
  go_wp2
  go_ret
  exact ⟨rfl,hW⟩
 ·have e0:decide (n<0)=false:=decide_eq_false h0
  by_cases h1:n≤1048528
  ·rw [if_pos ⟨by omega,h1⟩]
   have e1:decide (1048528<n)=false:=decide_eq_false (by omega)
   have ew:IntKind.i64.wrap (n+48)=n+48:=IntWalk.i64_in _ (by omega)
   clear h0 h1
   go_enter Tryz.func9,Tryz.ntmps9
   go_wp2
   go_ret
   exact ⟨rfl,hW⟩
  ·rw [if_neg (by omega)]
   have e1:decide (1048528<n)=true:=decide_eq_true (by omega)
   clear h0 h1
   go_enter Tryz.func9,Tryz.ntmps9
   go_wp2
   go_ret
   exact ⟨rfl,hW⟩
theorem base_nine:uOf baseL=9:=by decide +kernel
theorem v1_back:uOf (rbytes v1B)=v1B:=by decide +kernel
theorem v2_some:rbytes v2B≠rbytes 0:=by decide +kernel
theorem ex_some:noughtB oneB (pubL twoB)=false:=by
 refine decide_eq_false ?_
 unfold shL pubL
 rw [base_nine,mul_two9,v1_back,mul_one_v]
 exact v2_some
theorem oneB_len:oneB.length=32:=by decide
theorem twoB_len:twoB.length=32:=by decide
theorem oneB_byt:HByt oneB:=by unfold HByt;decide
theorem twoB_byt:HByt twoB:=by unfold HByt;decide
theorem builtB1:Tryz.prog.built 22 [(0,.int .u8 1)]=some (ints .u8 oneB).toArray:=by kernel_rfl
theorem builtB2:Tryz.prog.built 22 [(0,.int .u8 2)]=some (ints .u8 twoB).toArray:=by kernel_rfl
theorem makeB (w:World):(Instr.makeSlice 23 (.int .i64 5) (.int .i64 5)).run Tryz.prog w=.ok (.slice (some ⟨w.heap.size,0,none⟩) 5 5) (w.alloc (.cells (ints .u8 (zeros 5)).toArray 5)):=by
 have hi:=Tryz.info5
 cases hc:Tryz.prog.info? 5 with
 | none=>rw [hc] at hi;simp at hi
 | some i =>
   rw [hc] at hi
   simp only [Option.map_some,Option.some.injEq,Prod.mk.injEq] at hi
   have h2:=run_make (P:=Tryz.prog) w 23 5 i (.int .u8 0) (by kernel_rfl) hc hi.1 .i64 .i64 5 5 (by omega) (by omega) (by rw [hi.2.2];omega) (by omega)
   rw [h2,hi.2.1]
   simp only [Nat.mul_one]
   congr 3
   apply Array.toList_inj.1
   show (madeCells #[.int .u8 0] 5).toList=_
   rw [toList_madeCells_one]
   rfl
theorem cxWraB (vs:Array Value) (w:World):(callFunc 6 vs).run Tryz.prog w=.ok (.enter 6 vs) w:=by go_simp
theorem cxSizB (vs:Array Value) (w:World):(callFunc 9 vs).run Tryz.prog w=.ok (.enter 9 vs) w:=by go_simp
section
variable {ops:Array Oper} {md:Region.Mode} {W:World} {a0:Act} {n:Nat} {al:Nat→Bool} {S:Nat→Value→World→Prop} {Q:Exit→Act→World→Prop} {i:Nat} {o:Oper}
theorem step_makeB (hal:al i=false) (hg:GuardOn ops md n S i o) (ho:o.op=.makeSlice 23 (.const (.int .i64 5)) (.const (.int .i64 5))) (hS:S i=IsPart 5 (zeros 5)):StepOk Tryz.prog ops md W a0 n al S Q i o:=fun a w _ _ hd=>by
 rw [if_pos (hg.wanted hd)]
 have hm:=makeB w
 have hr:(execOp a.eval o).run Tryz.prog w=.ok (.value (.slice (some ⟨w.heap.size,0,none⟩) 5 5)) (w.alloc (.cells (ints .u8 (zeros 5)).toArray 5)):=by
  unfold execOp
  simp only [ho,Act.eval,Sem.run_bind,hm,Result.andThen_ok,Sem.run_pure]
 unfold Oper.wp
 rw [hr,Oper.upon_value]
 refine ⟨_,rfl,?_,below_new w _,fun e=>by rw [hal] at e;cases e⟩
 rw [hS]
 exact ⟨some ⟨w.heap.size,0,none⟩,5,rfl,Nat.le_refl _,(Arr.made w .u8 (zeros 5) 5).nums⟩
theorem step_wrapB (hal:al i=false) (hg:GuardOn ops md n S i o) {x y z:Operand} {ts:Array TypeId} {sd pu t r:List Int} {lt m:Nat} (ho:o.op=.call { callee:=.value (.func 6),args:=#[x,y,z],argTypes:=ts })
 (hW:∀(w:World) (A:Option Addr) (c:Nat),Cl W w→lt≤c→Nums w .u8 A t→Calls Tryz.prog 6 #[.agg (ints .u8 sd).toArray,.agg (ints .u8 pu).toArray,.slice A lt c] w fun e w'=>∃v,e=.returned v∧IsTup m r v w'∧Below w.heap.size w w') (hS:S i=IsTup m r)
 (hx:Knows ops md W a0 n S i x (.agg (ints .u8 sd).toArray)) (hy:Knows ops md W a0 n S i y (.agg (ints .u8 pu).toArray)) (hz:KnowsW ops md W a0 n S i z (IsPart lt t)):StepOk Tryz.prog ops md W a0 n al S Q i o :=
 step_callR hal hg ho cxWraB hS fun a w hw hf hd=>by
  obtain ⟨A,c,h1,h2,h3⟩:=hz a w hw hf hd
  refine ⟨_,?_,hW w A c hw h2 h3⟩
  have e:(#[x,y,z]:Array Operand).map a.eval = #[a.eval x,a.eval y,a.eval z]:=by simp
  rw [e,h1,hx a w hw hf hd,hy a w hw hf hd]
end
end
end Go.Proofs.YtkblmdakejmmhaaGreatDoor
