import Derived.Test.YtkblmdakejmmhaaGreatDoorG39
namespace Go.Proofs.YtkblmdakejmmhaaGreatDoor
open Go Go.RowKit
section
set_option maxHeartbeats 4000000
set_option maxRecDepth 50000
theorem rwrap_no (sd pu se x K t:List Int) (AT:Option Addr) (lt ct:Nat) (w:World) (H1:Hid (sd.length=32)) (H2:Hid (pu.length=32)) (H3:Hid (se.length=32)) (HX:Hid (x.length=32)) (HK:Hid (K.length=32)) (hA:Nums w .u8 AT t) (HP:Hid (CallsTo 17 #[.agg (ints .u8 sd).toArray] (.agg (ints .u8 se).toArray))) (HM:Hid (CallsTo 19 #[.agg (ints .u8 sd).toArray,.agg (ints .u8 pu).toArray] (.agg (ints .u8 x).toArray))) (HKY:Hid (∀w,Calls Tryz.prog 18 #[.agg (ints .u8 x).toArray,.agg (ints .u8 se).toArray,.agg (ints .u8 pu).toArray] w fun e w'=>e=.returned (.tuple #[.agg (ints .u8 K).toArray,.bool false])∧Below w.heap.size w w')):Calls Tryz.prog 7 #[.agg (ints .u8 sd).toArray,.agg (ints .u8 pu).toArray,.slice AT lt ct] w fun e w'=>e=.returned (.tuple #[.slice none 0 0,.int .i64 21])∧Below w.heap.size w w':=by
 have h3:=((Arr.made w .u8 sd 22).alloc (.cells (ints .u8 pu).toArray 22)).rw
 have h4:=(Arr.made (w.alloc (.cells (ints .u8 sd).toArray 22)) .u8 pu 22).rw
 have hW:=((below_new w (.cells (ints .u8 sd).toArray 22)).alloc (by simp) (.cells (ints .u8 pu).toArray 22))
 simp only [World.size_alloc] at h4
 obtain ⟨z32,s32⟩:=zero_of_info infS32
 replace hA:=hA.below hW
 go_enter Tryz.func7,Tryz.ntmps7
 go_upto_region 1 with (fail)
 generalize ((w.alloc (.cells (ints .u8 sd).toArray 22)).alloc (.cells (ints .u8 pu).toArray 22))=w0 at *
 have s0:=hW.size
 refine rSeq 3 32 (fun i=>i==2) [Is (.agg (ints .u8 sd).toArray),Is (.agg (ints .u8 se).toArray),IsZV w0.heap.size (ints .u8 (hzeros 32))] [12,13,8] (gC (gC (grows_cons (IsZV.grows _ _) grows_nil)))
  ⟨step_ldV rfl (.inl rfl) (fun _ hw=>(h3.next hw).range) rfl Tryz.underlying22 rfl (szV infS32 (il H1.out)) rfl (kO 3 rfl),
   step_to rfl (.inl rfl) rfl cxRPub HP.out rfl (one_arg (kI 0 12 rfl rfl)),
   step_allocV (.inl rfl) infS32 rfl rfl,trivial⟩ ?_
 intro val w1 hw hS hap hla
 obtain ⟨b8,e8,L8,Z8⟩:=hS 2 8 (by decide) rfl
 simp only [pA,pB,pC,pD,pE,Act.put,pG,pH,pI,eVal hS 0 12 rfl rfl,eVal hS 1 13 rfl rfl,e8]
 clear hS hap hla e8
 have LL8:=hid (show ((ints .u8 se)).length=32 from (il H3.out))
 have R8:=Z8.roomA (us:=(ints .u8 se)) (LL8.out.trans (zvH .u8 32).symm)
 have h8:=Z8.storedA (us:=(ints .u8 se)) (LL8.out.trans (zvH .u8 32).symm)
 have hu:=Below.setCells hw L8 0 (ints .u8 se).toArray.toList
 replace h3:=h3.next hu
 replace h4:=h4.next hu
 replace hA:=hA.below hu
 replace hW:=bT hW hu
 clear hu
 with_reducible refine wpList_store_mid (op:=⟨none,.store 22 (.tmp 8) (.tmp 13),_,_,_,_⟩) rfl 22 (.tmp 8) (.tmp 13) rfl b8 0 (ints .u8 se).toArray rfl rfl R8 (szA infS32 LL8.out) (ints_all _ _) ?_
 generalize (w1.setCells b8 0 (ints .u8 se).toArray.toList)=w2 at *
 clear hw R8 LL8 Z8 L8
 go_upto_region 2 with (fail)
 have s2:=hW.size
 refine region_early 10 32 (fun i=>i==9) [Is (.agg (ints .u8 sd).toArray),Is (.agg (ints .u8 pu).toArray),Is (.agg (ints .u8 x).toArray),Is (.agg (ints .u8 se).toArray),Is (.agg (ints .u8 pu).toArray),Is (.tuple #[(.agg (ints .u8 K).toArray),(.bool false)]),Is (.tuple #[(.agg (ints .u8 K).toArray),(.bool false)]),Is (.agg (ints .u8 K).toArray),Is (.bool false),IsZV w2.heap.size (ints .u8 (hzeros 32))] [15,16,17,18,19,20,14,21,22,9] (by kernel_rfl) (by kernel_rfl) (by kernel_rfl) (Nat.le_of_eq rfl) (gC (gC (gC (gC (gC (gC (gC (gC (gC (grows_cons (IsZV.grows _ _) grows_nil))))))))))
  ⟨step_ldV rfl (.inl rfl) (fun _ hw=>(h3.next hw).range) rfl Tryz.underlying22 rfl (szV infS32 (il H1.out)) rfl (kO 3 rfl),
   step_ldV rfl (.inl rfl) (fun _ hw=>(h4.next hw).range) rfl Tryz.underlying22 rfl (szV infS32 (il H2.out)) rfl (kO 4 rfl),
   step_to rfl (.inl rfl) rfl cxRMul HM.out rfl (two_args (kI 0 15 rfl rfl) (kI 1 16 rfl rfl)),
   step_ldV rfl (.inl rfl) (fun _ hw=>(h8.next hw).range) rfl Tryz.underlying22 rfl (szV infS32 (il H3.out)) rfl (kO 8 rfl),
   step_ldV rfl (.inl rfl) (fun _ hw=>(h4.next hw).range) rfl Tryz.underlying22 rfl (szV infS32 (il H2.out)) rfl (kO 4 rfl),
   step_cw rfl (.inl rfl) rfl cxRKyB rfl (fun aa ww hw hf hd=>⟨_,(three_args (kI 2 17 rfl rfl) (kI 3 18 rfl rfl) (kI 4 19 rfl rfl)) aa ww hw hf hd,HKY.out ww⟩),
   step_mvP rfl (.inl rfl) rfl rfl (kI 5 20 rfl rfl),
   step_fstZ rfl (.inl rfl) rfl rfl (kI 6 14 rfl rfl),
   step_sndZ rfl (.inl rfl) rfl rfl (kI 6 14 rfl rfl),
   step_allocV (.inl rfl) infS32 rfl rfl,trivial⟩
  22 9 21 (ints .u8 K).toArray _ rfl rfl rfl rfl 9 7 (by decide) (by decide) rfl rfl (by kernel_rfl) (by kernel_rfl) (fun v w ⟨b,h1,h2,h3⟩=>⟨b,h1,h2,h3.roomA (us:=ints .u8 K) ((il HK.out).trans (il (hz_len 32)).symm)⟩) (fun v w h=>h) (szA infS32 (il HK.out)) (ints_all _ _)
  (fun i o hi ho hf=>by
    have hc:i=0∨i=1∨i=2∨i=3∨i=4∨i=5∨i=6∨i=7∨i=8∨i=9:=by omega
    rcases hc with e|e|e|e|e|e|e|e|e|e <;> subst e
    ·exact (no_wait hf (by kernel_rfl)).elim
    ·exact (no_wait hf (by kernel_rfl)).elim
    ·exact (no_wait hf (by kernel_rfl)).elim
    ·exact (no_wait hf (by kernel_rfl)).elim
    ·exact (no_wait hf (by kernel_rfl)).elim
    ·exact (no_wait hf (by kernel_rfl)).elim
    ·exact (no_wait hf (by kernel_rfl)).elim
    ·exact (no_wait hf (by kernel_rfl)).elim
    ·injection ho with ho;subst ho
     exact ⟨rfl,free_sndB rfl rfl rfl (kI 6 14 rfl rfl)⟩
    ·exact (no_wait hf (by kernel_rfl)).elim)
  (fun i j hi hj hf hw v w w' h=>by
    have hc:i=0∨i=1∨i=2∨i=3∨i=4∨i=5∨i=6∨i=7∨i=8∨i=9:=by omega
    have hd:j=0∨j=1∨j=2∨j=3∨j=4∨j=5∨j=6∨j=7∨j=8∨j=9:=by omega
    rcases hc with e|e|e|e|e|e|e|e|e|e <;> subst e
    ·exact (no_wait hf (by kernel_rfl)).elim
    ·exact (no_wait hf (by kernel_rfl)).elim
    ·exact (no_wait hf (by kernel_rfl)).elim
    ·exact (no_wait hf (by kernel_rfl)).elim
    ·exact (no_wait hf (by kernel_rfl)).elim
    ·exact (no_wait hf (by kernel_rfl)).elim
    ·exact (no_wait hf (by kernel_rfl)).elim
    ·exact (no_wait hf (by kernel_rfl)).elim
    ·rcases hd with e|e|e|e|e|e|e|e|e|e <;> subst e
     ·exact (no_wait2 hw (by kernel_rfl)).elim
     ·exact (no_wait2 hw (by kernel_rfl)).elim
     ·exact (no_wait2 hw (by kernel_rfl)).elim
     ·exact (no_wait2 hw (by kernel_rfl)).elim
     ·exact (no_wait2 hw (by kernel_rfl)).elim
     ·exact (no_wait2 hw (by kernel_rfl)).elim
     ·exact h
     ·exact (no_wait2 hw (by kernel_rfl)).elim
     ·exact (no_wait2 hw (by kernel_rfl)).elim
     ·exact (no_wait2 hw (by kernel_rfl)).elim
    ·exact (no_wait hf (by kernel_rfl)).elim) ?_
 intro val w3 bq hw hS hap hla hbq
 obtain ⟨b9,e9,L9,Z9⟩:=hS 9 9 (by decide) rfl
 have eb:b9=bq:=by
  rw [e9] at hbq
  injection hbq with h
  injection h with h
  injection h
 subst eb
 clear hbq
 simp only [pA,pB,pC,pD,pE,Act.put,pG,pH,pI,eVal hS 0 15 rfl rfl,eVal hS 1 16 rfl rfl,eVal hS 2 17 rfl rfl,eVal hS 3 18 rfl rfl,eVal hS 4 19 rfl rfl,eVal hS 5 20 rfl rfl,eVal hS 6 14 rfl rfl,eVal hS 7 21 rfl rfl,eVal hS 8 22 rfl rfl,e9]
 clear hS hap hla e9
 have LL9:=hid (show ((ints .u8 K)).length=32 from (il HK.out))
 have R9:=Z9.roomA (us:=(ints .u8 K)) (LL9.out.trans (zvH .u8 32).symm)
 have h9:=Z9.storedA (us:=(ints .u8 K)) (LL9.out.trans (zvH .u8 32).symm)
 have hu:=Below.setCells hw L9 0 (ints .u8 K).toArray.toList
 replace h3:=h3.next hu
 replace h4:=h4.next hu
 replace hA:=hA.below hu
 replace h8:=h8.next hu
 replace hW:=bT hW hu
 clear hu
 generalize (w3.setCells b9 0 (ints .u8 K).toArray.toList)=w4 at *
 clear hw R9 LL9 Z9 L9
 go_wp2_with (fail)
 go_ret2
 exact ⟨rfl,hW⟩
theorem rwrap_yes (z:List Int) (sd pu se x K t:List Int) (AT:Option Addr) (lt ct:Nat) (w:World) (H1:Hid (sd.length=32)) (H2:Hid (pu.length=32)) (H3:Hid (se.length=32)) (HX:Hid (x.length=32)) (HK:Hid (K.length=32)) (hA:Nums w .u8 AT t) (HP:Hid (CallsTo 17 #[.agg (ints .u8 sd).toArray] (.agg (ints .u8 se).toArray))) (HM:Hid (CallsTo 19 #[.agg (ints .u8 sd).toArray,.agg (ints .u8 pu).toArray] (.agg (ints .u8 x).toArray))) (hlt:lt≤400) (HZ:Hid (z.length=lt+16)) (HKY:Hid (∀w,Calls Tryz.prog 18 #[.agg (ints .u8 x).toArray,.agg (ints .u8 se).toArray,.agg (ints .u8 pu).toArray] w fun e w'=>e=.returned (.tuple #[.agg (ints .u8 K).toArray,.bool true])∧Below w.heap.size w w'))
 (HS:Hid (∀w,Nums w .u8 AT t→Calls Tryz.prog 21 #[.agg (ints .u8 K).toArray,.agg (ints .u8 (zeros 12)).toArray,.slice none 0 0,.slice AT lt ct] w fun e w'=>∃B m d,e=.returned (.slice B m d)∧z.length=m∧Nums w' .u8 B z∧Below w.heap.size w w')) :
 Calls Tryz.prog 7 #[.agg (ints .u8 sd).toArray,.agg (ints .u8 pu).toArray,.slice AT lt ct] w fun e w'=>∃A m d,e=.returned (.tuple #[.slice A m d,.int .i64 0])∧(se++z).length=m∧Nums w' .u8 A (se++z)∧Below w.heap.size w w':=by
 have h3:=((Arr.made w .u8 sd 22).alloc (.cells (ints .u8 pu).toArray 22)).rw
 have h4:=(Arr.made (w.alloc (.cells (ints .u8 sd).toArray 22)) .u8 pu 22).rw
 have hW:=((below_new w (.cells (ints .u8 sd).toArray 22)).alloc (by simp) (.cells (ints .u8 pu).toArray 22))
 simp only [World.size_alloc] at h4
 obtain ⟨z32,s32⟩:=zero_of_info infS32
 replace hA:=hA.below hW
 go_enter Tryz.func7,Tryz.ntmps7
 go_upto_region 1 with (fail)
 generalize ((w.alloc (.cells (ints .u8 sd).toArray 22)).alloc (.cells (ints .u8 pu).toArray 22))=w0 at *
 have s0:=hW.size
 refine rSeq 3 32 (fun i=>i==2) [Is (.agg (ints .u8 sd).toArray),Is (.agg (ints .u8 se).toArray),IsZV w0.heap.size (ints .u8 (hzeros 32))] [12,13,8] (gC (gC (grows_cons (IsZV.grows _ _) grows_nil)))
  ⟨step_ldV rfl (.inl rfl) (fun _ hw=>(h3.next hw).range) rfl Tryz.underlying22 rfl (szV infS32 (il H1.out)) rfl (kO 3 rfl),
   step_to rfl (.inl rfl) rfl cxRPub HP.out rfl (one_arg (kI 0 12 rfl rfl)),
   step_allocV (.inl rfl) infS32 rfl rfl,trivial⟩ ?_
 intro val w1 hw hS hap hla
 obtain ⟨b8,e8,L8,Z8⟩:=hS 2 8 (by decide) rfl
 simp only [pA,pB,pC,pD,pE,Act.put,pG,pH,pI,eVal hS 0 12 rfl rfl,eVal hS 1 13 rfl rfl,e8]
 clear hS hap hla e8
 have LL8:=hid (show ((ints .u8 se)).length=32 from (il H3.out))
 have R8:=Z8.roomA (us:=(ints .u8 se)) (LL8.out.trans (zvH .u8 32).symm)
 have h8:=Z8.storedA (us:=(ints .u8 se)) (LL8.out.trans (zvH .u8 32).symm)
 have hu:=Below.setCells hw L8 0 (ints .u8 se).toArray.toList
 replace h3:=h3.next hu
 replace h4:=h4.next hu
 replace hA:=hA.below hu
 replace hW:=bT hW hu
 clear hu
 with_reducible refine wpList_store_mid (op:=⟨none,.store 22 (.tmp 8) (.tmp 13),_,_,_,_⟩) rfl 22 (.tmp 8) (.tmp 13) rfl b8 0 (ints .u8 se).toArray rfl rfl R8 (szA infS32 LL8.out) (ints_all _ _) ?_
 generalize (w1.setCells b8 0 (ints .u8 se).toArray.toList)=w2 at *
 clear hw R8 LL8 Z8 L8
 go_upto_region 2 with (fail)
 have s2:=hW.size
 refine region_early 10 32 (fun i=>i==9) [Is (.agg (ints .u8 sd).toArray),Is (.agg (ints .u8 pu).toArray),Is (.agg (ints .u8 x).toArray),Is (.agg (ints .u8 se).toArray),Is (.agg (ints .u8 pu).toArray),Is (.tuple #[(.agg (ints .u8 K).toArray),(.bool true)]),Is (.tuple #[(.agg (ints .u8 K).toArray),(.bool true)]),Is (.agg (ints .u8 K).toArray),Is (.bool true),IsZV w2.heap.size (ints .u8 (hzeros 32))] [15,16,17,18,19,20,14,21,22,9] (by kernel_rfl) (by kernel_rfl) (by kernel_rfl) (Nat.le_of_eq rfl) (gC (gC (gC (gC (gC (gC (gC (gC (gC (grows_cons (IsZV.grows _ _) grows_nil))))))))))
  ⟨step_ldV rfl (.inl rfl) (fun _ hw=>(h3.next hw).range) rfl Tryz.underlying22 rfl (szV infS32 (il H1.out)) rfl (kO 3 rfl),
   step_ldV rfl (.inl rfl) (fun _ hw=>(h4.next hw).range) rfl Tryz.underlying22 rfl (szV infS32 (il H2.out)) rfl (kO 4 rfl),
   step_to rfl (.inl rfl) rfl cxRMul HM.out rfl (two_args (kI 0 15 rfl rfl) (kI 1 16 rfl rfl)),
   step_ldV rfl (.inl rfl) (fun _ hw=>(h8.next hw).range) rfl Tryz.underlying22 rfl (szV infS32 (il H3.out)) rfl (kO 8 rfl),
   step_ldV rfl (.inl rfl) (fun _ hw=>(h4.next hw).range) rfl Tryz.underlying22 rfl (szV infS32 (il H2.out)) rfl (kO 4 rfl),
   step_cw rfl (.inl rfl) rfl cxRKyB rfl (fun aa ww hw hf hd=>⟨_,(three_args (kI 2 17 rfl rfl) (kI 3 18 rfl rfl) (kI 4 19 rfl rfl)) aa ww hw hf hd,HKY.out ww⟩),
   step_mvP rfl (.inl rfl) rfl rfl (kI 5 20 rfl rfl),
   step_fstZ rfl (.inl rfl) rfl rfl (kI 6 14 rfl rfl),
   step_sndZ rfl (.inl rfl) rfl rfl (kI 6 14 rfl rfl),
   step_allocV (.inl rfl) infS32 rfl rfl,trivial⟩
  22 9 21 (ints .u8 K).toArray _ rfl rfl rfl rfl 9 7 (by decide) (by decide) rfl rfl (by kernel_rfl) (by kernel_rfl) (fun v w ⟨b,h1,h2,h3⟩=>⟨b,h1,h2,h3.roomA (us:=ints .u8 K) ((il HK.out).trans (il (hz_len 32)).symm)⟩) (fun v w h=>h) (szA infS32 (il HK.out)) (ints_all _ _)
  (fun i o hi ho hf=>by
    have hc:i=0∨i=1∨i=2∨i=3∨i=4∨i=5∨i=6∨i=7∨i=8∨i=9:=by omega
    rcases hc with e|e|e|e|e|e|e|e|e|e <;> subst e
    ·exact (no_wait hf (by kernel_rfl)).elim
    ·exact (no_wait hf (by kernel_rfl)).elim
    ·exact (no_wait hf (by kernel_rfl)).elim
    ·exact (no_wait hf (by kernel_rfl)).elim
    ·exact (no_wait hf (by kernel_rfl)).elim
    ·exact (no_wait hf (by kernel_rfl)).elim
    ·exact (no_wait hf (by kernel_rfl)).elim
    ·exact (no_wait hf (by kernel_rfl)).elim
    ·injection ho with ho;subst ho
     exact ⟨rfl,free_sndB rfl rfl rfl (kI 6 14 rfl rfl)⟩
    ·exact (no_wait hf (by kernel_rfl)).elim)
  (fun i j hi hj hf hw v w w' h=>by
    have hc:i=0∨i=1∨i=2∨i=3∨i=4∨i=5∨i=6∨i=7∨i=8∨i=9:=by omega
    have hd:j=0∨j=1∨j=2∨j=3∨j=4∨j=5∨j=6∨j=7∨j=8∨j=9:=by omega
    rcases hc with e|e|e|e|e|e|e|e|e|e <;> subst e
    ·exact (no_wait hf (by kernel_rfl)).elim
    ·exact (no_wait hf (by kernel_rfl)).elim
    ·exact (no_wait hf (by kernel_rfl)).elim
    ·exact (no_wait hf (by kernel_rfl)).elim
    ·exact (no_wait hf (by kernel_rfl)).elim
    ·exact (no_wait hf (by kernel_rfl)).elim
    ·exact (no_wait hf (by kernel_rfl)).elim
    ·exact (no_wait hf (by kernel_rfl)).elim
    ·rcases hd with e|e|e|e|e|e|e|e|e|e <;> subst e
     ·exact (no_wait2 hw (by kernel_rfl)).elim
     ·exact (no_wait2 hw (by kernel_rfl)).elim
     ·exact (no_wait2 hw (by kernel_rfl)).elim
     ·exact (no_wait2 hw (by kernel_rfl)).elim
     ·exact (no_wait2 hw (by kernel_rfl)).elim
     ·exact (no_wait2 hw (by kernel_rfl)).elim
     ·exact h
     ·exact (no_wait2 hw (by kernel_rfl)).elim
     ·exact (no_wait2 hw (by kernel_rfl)).elim
     ·exact (no_wait2 hw (by kernel_rfl)).elim
    ·exact (no_wait hf (by kernel_rfl)).elim) ?_
 intro val w3 bq hw hS hap hla hbq
 obtain ⟨b9,e9,L9,Z9⟩:=hS 9 9 (by decide) rfl
 have eb:b9=bq:=by
  rw [e9] at hbq
  injection hbq with h
  injection h with h
  injection h
 subst eb
 clear hbq
 simp only [pA,pB,pC,pD,pE,Act.put,pG,pH,pI,eVal hS 0 15 rfl rfl,eVal hS 1 16 rfl rfl,eVal hS 2 17 rfl rfl,eVal hS 3 18 rfl rfl,eVal hS 4 19 rfl rfl,eVal hS 5 20 rfl rfl,eVal hS 6 14 rfl rfl,eVal hS 7 21 rfl rfl,eVal hS 8 22 rfl rfl,e9]
 clear hS hap hla e9
 have LL9:=hid (show ((ints .u8 K)).length=32 from (il HK.out))
 have R9:=Z9.roomA (us:=(ints .u8 K)) (LL9.out.trans (zvH .u8 32).symm)
 have h9:=Z9.storedA (us:=(ints .u8 K)) (LL9.out.trans (zvH .u8 32).symm)
 have hu:=Below.setCells hw L9 0 (ints .u8 K).toArray.toList
 replace h3:=h3.next hu
 replace h4:=h4.next hu
 replace hA:=hA.below hu
 replace h8:=h8.next hu
 replace hW:=bT hW hu
 clear hu
 generalize (w3.setCells b9 0 (ints .u8 K).toArray.toList)=w4 at *
 clear hw R9 LL9 Z9 L9
 go_upto_region 5 with (fail)
 have s4:=hW.size
 refine rSeq 1 32 (fun i=>i==0) [IsZV w4.heap.size (ints .u8 (zeros 12))] [11] (grows_cons (IsZV.grows _ _) grows_nil)
  ⟨step_allocV (.inl rfl) inf12B rfl rfl,trivial⟩ ?_
 intro val w5 hw hS hap hla
 obtain ⟨b11,e11,L11,Z11⟩:=hS 0 11 (by decide) rfl
 simp only [pA,pB,pC,pD,pE,Act.put,pG,pH,pI,e11]
 clear hS hap hla e11
 replace h3:=h3.next hw
 replace h4:=h4.next hw
 replace hA:=hA.below hw
 replace h8:=h8.next hw
 replace h9:=h9.next hw
 replace hW:=bT hW hw
 clear hw
 go_upto_region 6 with (fail)
 have s5:=hW.size
 refine rSpec 5 32 (fun _=>false) [Is (.agg (ints .u8 se).toArray),IsOwn w5.heap.size 5 .u8 se,Is (.agg (ints .u8 K).toArray),Is (.agg (ints .u8 (zeros 12)).toArray),Is (.slice AT lt ct)] [25,26,27,28,29] (gC (grows_cons (IsOwn.grows _ _ _ _) (gC (gC (gC grows_nil)))))
  ⟨step_ldV rfl (.inl rfl) (fun _ hw=>(h8.next hw).range) rfl Tryz.underlying22 rfl (szV infS32 (il H3.out)) rfl (kO 8 rfl),
   step_rbytO rfl (.inl rfl) rfl H3.out rfl (kI 0 25 rfl rfl),
   step_ldV rfl (.inl rfl) (fun _ hw=>(h9.next hw).range) rfl Tryz.underlying22 rfl (szV infS32 (il HK.out)) rfl (kO 9 rfl),
   step_ldV rfl (.inl rfl) (fun _ hw=>(Z11.next hw).range) rfl Tryz.underlying40 rfl (szV inf12B (zv .u8 12)) rfl (kO 11 rfl),
   step_mvP rfl (.inl rfl) rfl rfl (kO 2 rfl),trivial⟩ ?_
 intro val w6 hw hS hap hla
 obtain ⟨A26,c26,e26,O26⟩:=hS 1 26 (by decide) rfl
 rw [e26] at O26
 simp only [pA,pB,pC,pD,pE,Act.put,pG,pH,pI,eVal hS 0 25 rfl rfl,e26,eVal hS 2 27 rfl rfl,eVal hS 3 28 rfl rfl,eVal hS 4 29 rfl rfl]
 clear hS hap hla e26
 replace h3:=h3.next hw
 replace h4:=h4.next hw
 replace hA:=hA.below hw
 replace h8:=h8.next hw
 replace h9:=h9.next hw
 replace Z11:=Z11.next hw
 replace hW:=bT hW hw
 clear hw
 replace O26:=O26.lower s5
 have h63:(se.length+z.length)*1≤140737488355328:=by rw [H3.out,HZ.out];omega
 go_wp2_with (first
  | (go_at_call 21;refine (HS.out _ hA).mono ?_;rintro e wq ⟨B,_,d,rfl,rfl,hN,hbq⟩
     replace O26:=O26.stay hbq
     replace hW:=hW.trans (Below.mono hbq hW.size)
     clear hbq hA)
  | (at_builtin;refine app_nums rfl (.tmp 26) (.tmp 30) 23 rfl w.heap.size 5 .u8 1 Tryz.underlying23 Tryz.info5 (by omega) A26 _ c26 se rfl O26 B d z rfl hN h63 hW.size ?_;intro A' n' c' wr hO hG))
 have hW2:=hW.trans (hG.below hW.size fun g e=>(O26.lt g e).1)
 go_ret2
 exact ⟨A',n',c',rfl,hO.len.symm,hO.nums,hW2⟩
end
section
set_option maxRecDepth 50000
def IsTupE (m:Nat) (E:Int) (l:List Int):Value→World→Prop:=fun v w=>∃B d,v=.tuple #[.slice B m d,.int .i64 E]∧Nums w .u8 B l
theorem IsTupE.grows (m:Nat) (E:Int) (l:List Int):Grows (IsTupE m E l):=fun _ _ _ ⟨B,d,h1,h3⟩ hb=>⟨B,d,h1,h3.below hb⟩
section
variable {ops:Array Oper} {md:Region.Mode} {W:World} {a0:Act} {n:Nat} {al:Nat→Bool} {S:Nat→Value→World→Prop} {Q:Exit→Act→World→Prop} {i:Nat} {o:Oper}
theorem tupE_fst (hal:al i=false) (hg:GuardOn ops md n S i o) {x:Operand} {m:Nat} {E:Int} {l:List Int} (ho:o.op=.extract x 0) (hS:S i=IsRw .u8 m l) (hx:KnowsW ops md W a0 n S i x (IsTupE m E l)):StepOk Tryz.prog ops md W a0 n al S Q i o :=
 step_run hal hg fun a w hw hf hd=>by
  obtain ⟨B,d,h1,h3⟩:=hx a w hw hf hd
  refine ⟨.slice B m d,?_,by rw [hS];exact ⟨B,d,rfl,h3⟩⟩
  generalize a.eval=ev at *
  unfold execOp
  simp only [ho,h1]
  go_simp
theorem tupE_snd (hal:al i=false) (hg:GuardOn ops md n S i o) {x:Operand} {m:Nat} {E:Int} {l:List Int} (ho:o.op=.extract x 1) (hS:S i=Is (.int .i64 E)) (hx:KnowsW ops md W a0 n S i x (IsTupE m E l)):StepOk Tryz.prog ops md W a0 n al S Q i o :=
 step_run hal hg fun a w hw hf hd=>by
  obtain ⟨B,d,h1,h3⟩:=hx a w hw hf hd
  refine ⟨.int .i64 E,?_,by rw [hS];exact rfl⟩
  generalize a.eval=ev at *
  unfold execOp
  simp only [ho,h1]
  go_simp
end
end
section
variable {P:Program} {ops:Array Oper} {md:Region.Mode} {W:World} {a0:Act} {n:Nat} {al:Nat→Bool} {S:Nat→Value→World→Prop} {Q:Exit→Act→World→Prop}
set_option maxRecDepth 50000 in
theorem op_storeS {i:Nat} {o:Oper} {K:Act→World→Prop} {a:Act} {w:World} (ho:ops[i]? = some o) (hg:o.guard=none) (ty:TypeId) (x y:Operand) (hop:o.op=.store ty x y) (b:Nat) (cells:Array Value) (hx:a.eval x=.pointer (some ⟨b,0,none⟩)) (hy:a.eval y=.agg cells)
 (ht:w.there b 0 cells.size) (hi:(P.info? ty).map (·.size)=some cells.size) (h1:cells.all (·.oneCell')=true) (h:K (a.put o.dst undef) (w.setCells b 0 cells.toList)):wpOp P ops Q i K a w:=by
 unfold wpOp
 simp only [ho]
 rw [if_pos (by simp [Region.wanted,hg])]
 exact .inl (wp_store_mid ty x y hop b 0 cells hx hy ht hi h1 h)
end
section
set_option maxRecDepth 50000
section
variable {P:Program} {ops:Array Oper} {md:Region.Mode} {Q:Exit→Act→World→Prop}
theorem any_one {f i:Nat} {listed:Array Bool} {a:Act} {w:World} (hr:Region.ready md ops listed=[i]) (h:wpOp P ops Q i (wpAny P md ops Q f (listed.setIfInBounds i true)) a w):wpAny P md ops Q (f+1) listed a w :=
 ⟨fun h0=>(by rw [hr] at h0;cases h0),fun j hj=>by
   rw [hr] at hj
   have:j=i:=by simpa using hj
   subst this;exact h⟩
theorem any_two {f i k:Nat} {listed:Array Bool} {a:Act} {w:World} (hr:Region.ready md ops listed=[i,k]) (h:wpOp P ops Q i (wpAny P md ops Q f (listed.setIfInBounds i true)) a w) (h2:wpOp P ops Q k (wpAny P md ops Q f (listed.setIfInBounds k true)) a w):wpAny P md ops Q (f+1) listed a w :=
 ⟨fun h0=>(by rw [hr] at h0;cases h0),fun j hj=>by
   rw [hr] at hj
   have:j=i∨j=k:=by simpa using hj
   rcases this with e|e
   ·subst e;exact h
   ·subst e;exact h2⟩
theorem any_done {listed:Array Bool} {a:Act} {w:World} (hr:Region.ready md ops listed=[]) (h:Q .normal a w):wpAny P md ops Q 0 listed a w:=⟨hr,h⟩
theorem op_wp {i:Nat} {o:Oper} {K:Act→World→Prop} {a:Act} {w:World} (ho:ops[i]? = some o) (hg:o.guard=none) (h:o.wp P a w K Q):wpOp P ops Q i K a w:=by
 unfold wpOp
 simp only [ho]
 rw [if_pos (by simp [Region.wanted,hg])]
 exact .inl h
theorem op_call {i:Nat} {o:Oper} {K:Act→World→Prop} {a:Act} {w:World} (ho:ops[i]? = some o) (hg:o.guard=none) (f:FuncId) (vs:Array Value) (hr:(execOp a.eval o).run P w=.ok (.enter f vs) w) (h:Calls P f vs w fun e w'=>∃v,e=.returned v∧K (a.put o.dst v) w'):wpOp P ops Q i K a w:=by
 refine op_wp ho hg ?_
 unfold Oper.wp
 rw [hr,Oper.upon_enter]
 refine h.mono fun e w' ⟨v,he,hk⟩=>?_
 subst he
 exact hk
theorem op_call2 {i:Nat} {o:Oper} {K:Act→World→Prop} {a:Act} {w:World} (ho:ops[i]? = some o) (hg:o.guard=none) (f:FuncId) {x y:Operand} {u v:Value} {ts:Array TypeId} (hop:o.op=.call { callee:=.value (.func f),args:=#[x,y],argTypes:=ts }) (hcf:∀vs w,(callFunc f vs).run P w=.ok (.enter f vs) w)
 (hx:a.eval x=u) (hy:a.eval y=v) (h:Calls P f #[u,v] w fun e w'=>∃v,e=.returned v∧K (a.put o.dst v) w'):wpOp P ops Q i K a w :=
 op_call ho hg f #[u,v] (ex_fnP rfl hcf hop _ (by rw [map2,hx,hy]) w) h
end
end
end Go.Proofs.YtkblmdakejmmhaaGreatDoor
