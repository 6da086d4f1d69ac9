import Derived.Test.YtkblmdakejmmhaaGreatDoorG37
namespace Go.Proofs.YtkblmdakejmmhaaGreatDoor
open Go Go.RowKit
section
set_option maxHeartbeats 4000000
set_option maxRecDepth 50000
theorem unwrap_few (sk:List Int) (A:Option Addr) (ls cs:Nat) (w:World) (hls:ls<48):Calls Tryz.prog 10 #[.agg (ints .u8 sk).toArray,.slice A ls cs] w fun e w'=>e=.returned (.tuple #[.slice none 0 0,.int .i64 10])∧Below w.heap.size w w':=by
 have h2:=(Arr.made w .u8 sk 22).rw
 have hW:=(below_new w (.cells (ints .u8 sk).toArray 22))
 have g2:(ls:Int)<48:=by omega
 clear hls
 go_enter Tryz.func10,Tryz.ntmps10
 go_wp2_with (fail)
 go_ret2
 exact ⟨rfl,hW⟩
theorem unwrap_no (sk fi s2 re K:List Int) (gb ob ls cs:Nat) (w:World) (hT:TabsH w) (hC:Tabs w) (H1:Hid (sk.length=32)) (HF:Hid (fi.length=32)) (H3:Hid (re.length=32)) (HK:Hid (K.length=32)) (HLS:Hid (48≤ls)) (hls:ls≤400) (HCS:Hid (48≤cs)) (hF:Nums w .u8 (some ⟨gb,ob,none⟩) fi) (hX:Nums w .u8 (some ⟨gb,ob+32,none⟩) s2) (HP:Hid (CallsTo 12 #[.agg (ints .u8 sk).toArray] (.agg (ints .u8 re).toArray))) (HA:Hid (∀w,TabsH w→Calls Tryz.prog 13 #[.agg (ints .u8 sk).toArray,.agg (ints .u8 fi).toArray,.agg (ints .u8 fi).toArray,.agg (ints .u8 re).toArray] w fun e w'=>e=.returned (.tuple #[.agg (ints .u8 K).toArray,.int .i64 21])∧Below w.heap.size w w')) :
 Calls Tryz.prog 10 #[.agg (ints .u8 sk).toArray,.slice (some ⟨gb,ob,none⟩) ls cs] w fun e w'=>e=.returned (.tuple #[.slice none 0 0,.int .i64 21])∧Below w.heap.size w w':=by
 have h2:=(Arr.made w .u8 sk 22).rw
 have hW:=(below_new w (.cells (ints .u8 sk).toArray 22))
 obtain ⟨z32,s32⟩:=zero_of_info infS32
 replace hT:=hT.next hW
 replace hC:=hC.next hW
 replace hF:=hF.below hW
 replace hX:=hX.below hW
 have g1:¬(1048576:Int)<(ls:Int):=by omega
 have g2:¬(ls:Int)<48:=by have:=HLS.out;omega
 go_enter Tryz.func10,Tryz.ntmps10
 go_upto_region 5 with (fail)
 generalize (w.alloc (.cells (ints .u8 sk).toArray 22))=w0 at *
 have s0:=hW.size
 refine rSeq 5 38 (fun i=>i==4) [Is (.slice (some ⟨gb,ob,none⟩) ls cs),Is (.slice (some ⟨gb,ob,none⟩) 32 cs),Is (.pointer (some ⟨gb,ob,none⟩)),Is (.agg (ints .u8 fi).toArray),IsZV w0.heap.size (ints .u8 (hzeros 32))] [15,16,17,18,6] (gC (gC (gC (gC (grows_cons (IsZV.grows _ _) grows_nil)))))
  ⟨step_mvP rfl (.inl rfl) rfl rfl (kO 1 rfl),
   step_one rfl (.inl rfl) (fun ev w h hc=>ex_slSh (P:=Tryz.prog) uaVs zeVs (h:=32) (by have:=HCS.out;omega) rfl (.inr (by decide)) ev w h hc) rfl (kI 0 15 rfl rfl),
   step_one rfl (.inl rfl) (fun ev w h hc=>ex_arrP (P:=Tryz.prog) Tryz.underlying22 (by decide) rfl ev w h hc) rfl (kI 1 16 rfl rfl),
   step_ldV rfl (.inl rfl) (fun _ hw=>(hF.below hw).range) rfl Tryz.underlying22 rfl (szV infS32 (il HF.out)) rfl (kI 2 17 rfl rfl),
   step_allocV (.inl rfl) infS32 rfl rfl,trivial⟩ ?_
 intro val w1 hw hS hap hla
 obtain ⟨b6,e6,L6,Z6⟩:=hS 4 6 (by decide) rfl
 simp only [pA,pB,pC,pD,pE,Act.put,pG,pH,pI,eVal hS 0 15 rfl rfl,eVal hS 1 16 rfl rfl,eVal hS 2 17 rfl rfl,eVal hS 3 18 rfl rfl,e6]
 clear hS hap hla e6
 have LL6:=hid (show ((ints .u8 fi)).length=32 from (il HF.out))
 have R6:=Z6.roomA (us:=(ints .u8 fi)) (LL6.out.trans (zvH .u8 32).symm)
 have h6:=Z6.storedA (us:=(ints .u8 fi)) (LL6.out.trans (zvH .u8 32).symm)
 have hu:=Below.setCells hw L6 0 (ints .u8 fi).toArray.toList
 replace h2:=h2.next hu
 replace hT:=hT.next hu
 replace hC:=hC.next hu
 replace hF:=hF.below hu
 replace hX:=hX.below hu
 replace hW:=bT hW hu
 clear hu
 with_reducible refine wpList_store_mid (op:=⟨none,.store 22 (.tmp 6) (.tmp 18),_,_,_,_⟩) rfl 22 (.tmp 6) (.tmp 18) rfl b6 0 (ints .u8 fi).toArray rfl rfl R6 (szA infS32 LL6.out) (ints_all _ _) ?_
 generalize (w1.setCells b6 0 (ints .u8 fi).toArray.toList)=w2 at *
 clear hw R6 LL6 Z6 L6
 go_upto_region 6 with (fail)
 have s2:=hW.size
 refine region_early 10 38 (fun i=>i==9) [Is (.agg (ints .u8 sk).toArray),Is (.agg (ints .u8 fi).toArray),Is (.agg (ints .u8 fi).toArray),Is (.agg (ints .u8 sk).toArray),Is (.agg (ints .u8 re).toArray),Is (.tuple #[(.agg (ints .u8 K).toArray),(.int .i64 21)]),Is (.tuple #[(.agg (ints .u8 K).toArray),(.int .i64 21)]),Is (.agg (ints .u8 K).toArray),Is (.int .i64 21),IsZV w2.heap.size (ints .u8 (hzeros 32))] [20,21,22,23,24,25,19,26,27,7] (by kernel_rfl) (by kernel_rfl) (by kernel_rfl) (Nat.le_of_eq rfl) (gC (gC (gC (gC (gC (gC (gC (gC (gC (grows_cons (IsZV.grows _ _) grows_nil))))))))))
  ⟨step_ldV rfl (.inl rfl) (fun _ hw=>(h2.next hw).range) rfl Tryz.underlying22 rfl (szV infS32 (il H1.out)) rfl (kO 2 rfl),
   step_ldV rfl (.inl rfl) (fun _ hw=>(h6.next hw).range) rfl Tryz.underlying22 rfl (szV infS32 (il HF.out)) rfl (kO 6 rfl),
   step_ldV rfl (.inl rfl) (fun _ hw=>(h6.next hw).range) rfl Tryz.underlying22 rfl (szV infS32 (il HF.out)) rfl (kO 6 rfl),
   step_ldV rfl (.inl rfl) (fun _ hw=>(h2.next hw).range) rfl Tryz.underlying22 rfl (szV infS32 (il H1.out)) rfl (kO 2 rfl),
   step_to rfl (.inl rfl) rfl cxPubB HP.out rfl (one_arg (kI 3 23 rfl rfl)),
   step_cw rfl (.inl rfl) rfl cxAgrB rfl (fun aa ww hw hf hd=>⟨_,(four_args (kI 0 20 rfl rfl) (kI 1 21 rfl rfl) (kI 2 22 rfl rfl) (kI 4 24 rfl rfl)) aa ww hw hf hd,HA.out ww (hT.next hw)⟩),
   step_mvP rfl (.inl rfl) rfl rfl (kI 5 25 rfl rfl),
   step_fstZ rfl (.inl rfl) rfl rfl (kI 6 19 rfl rfl),
   step_sndZ rfl (.inl rfl) rfl rfl (kI 6 19 rfl rfl),
   step_allocV (.inl rfl) infS32 rfl rfl,trivial⟩
  22 7 26 (ints .u8 K).toArray _ rfl rfl rfl rfl 9 7 (by decide) (by decide) rfl rfl (by kernel_rfl) (by kernel_rfl) (fun v w ⟨b,h1,h2,h3⟩=>⟨b,h1,h2,h3.roomA (us:=ints .u8 K) ((il HK.out).trans (il (hz_len 32)).symm)⟩) (fun v w h=>h) (szA infS32 (il HK.out)) (ints_all _ _)
  (fun i o hi ho hf=>by
    have hc:i=0∨i=1∨i=2∨i=3∨i=4∨i=5∨i=6∨i=7∨i=8∨i=9:=by omega
    rcases hc with e|e|e|e|e|e|e|e|e|e <;> subst e
    ·exact (no_wait hf (by kernel_rfl)).elim
    ·exact (no_wait hf (by kernel_rfl)).elim
    ·exact (no_wait hf (by kernel_rfl)).elim
    ·exact (no_wait hf (by kernel_rfl)).elim
    ·exact (no_wait hf (by kernel_rfl)).elim
    ·exact (no_wait hf (by kernel_rfl)).elim
    ·exact (no_wait hf (by kernel_rfl)).elim
    ·exact (no_wait hf (by kernel_rfl)).elim
    ·injection ho with ho;subst ho
     exact ⟨rfl,free_sndB rfl rfl rfl (kI 6 19 rfl rfl)⟩
    ·exact (no_wait hf (by kernel_rfl)).elim)
  (fun i j hi hj hf hw v w w' h=>by
    have hc:i=0∨i=1∨i=2∨i=3∨i=4∨i=5∨i=6∨i=7∨i=8∨i=9:=by omega
    have hd:j=0∨j=1∨j=2∨j=3∨j=4∨j=5∨j=6∨j=7∨j=8∨j=9:=by omega
    rcases hc with e|e|e|e|e|e|e|e|e|e <;> subst e
    ·exact (no_wait hf (by kernel_rfl)).elim
    ·exact (no_wait hf (by kernel_rfl)).elim
    ·exact (no_wait hf (by kernel_rfl)).elim
    ·exact (no_wait hf (by kernel_rfl)).elim
    ·exact (no_wait hf (by kernel_rfl)).elim
    ·exact (no_wait hf (by kernel_rfl)).elim
    ·exact (no_wait hf (by kernel_rfl)).elim
    ·exact (no_wait hf (by kernel_rfl)).elim
    ·rcases hd with e|e|e|e|e|e|e|e|e|e <;> subst e
     ·exact (no_wait2 hw (by kernel_rfl)).elim
     ·exact (no_wait2 hw (by kernel_rfl)).elim
     ·exact (no_wait2 hw (by kernel_rfl)).elim
     ·exact (no_wait2 hw (by kernel_rfl)).elim
     ·exact (no_wait2 hw (by kernel_rfl)).elim
     ·exact (no_wait2 hw (by kernel_rfl)).elim
     ·exact h
     ·exact (no_wait2 hw (by kernel_rfl)).elim
     ·exact (no_wait2 hw (by kernel_rfl)).elim
     ·exact (no_wait2 hw (by kernel_rfl)).elim
    ·exact (no_wait hf (by kernel_rfl)).elim) ?_
 intro val w3 bq hw hS hap hla hbq
 obtain ⟨b7,e7,L7,Z7⟩:=hS 9 7 (by decide) rfl
 have eb:b7=bq:=by
  rw [e7] at hbq
  injection hbq with h
  injection h with h
  injection h
 subst eb
 clear hbq
 simp only [pA,pB,pC,pD,pE,Act.put,pG,pH,pI,eVal hS 0 20 rfl rfl,eVal hS 1 21 rfl rfl,eVal hS 2 22 rfl rfl,eVal hS 3 23 rfl rfl,eVal hS 4 24 rfl rfl,eVal hS 5 25 rfl rfl,eVal hS 6 19 rfl rfl,eVal hS 7 26 rfl rfl,eVal hS 8 27 rfl rfl,e7]
 clear hS hap hla e7
 have LL7:=hid (show ((ints .u8 K)).length=32 from (il HK.out))
 have R7:=Z7.roomA (us:=(ints .u8 K)) (LL7.out.trans (zvH .u8 32).symm)
 have h7:=Z7.storedA (us:=(ints .u8 K)) (LL7.out.trans (zvH .u8 32).symm)
 have hu:=Below.setCells hw L7 0 (ints .u8 K).toArray.toList
 replace h2:=h2.next hu
 replace hT:=hT.next hu
 replace hC:=hC.next hu
 replace hF:=hF.below hu
 replace hX:=hX.below hu
 replace h6:=h6.next hu
 replace hW:=bT hW hu
 clear hu
 generalize (w3.setCells b7 0 (ints .u8 K).toArray.toList)=w4 at *
 clear hw R7 LL7 Z7 L7
 go_wp2_with (fail)
 go_ret2
 exact ⟨rfl,hW⟩
theorem unwrap_yes (x:List Int) (m:Nat) (E:Int) (sk fi s2 re K:List Int) (gb ob ls cs:Nat) (w:World) (hT:TabsH w) (hC:Tabs w) (H1:Hid (sk.length=32)) (HF:Hid (fi.length=32)) (H3:Hid (re.length=32)) (HK:Hid (K.length=32)) (HLS:Hid (48≤ls)) (hls:ls≤400) (HCS:Hid (48≤cs)) (hF:Nums w .u8 (some ⟨gb,ob,none⟩) fi) (hX:Nums w .u8 (some ⟨gb,ob+32,none⟩) s2) (HP:Hid (CallsTo 12 #[.agg (ints .u8 sk).toArray] (.agg (ints .u8 re).toArray))) (HA:Hid (∀w,TabsH w→Calls Tryz.prog 13 #[.agg (ints .u8 sk).toArray,.agg (ints .u8 fi).toArray,.agg (ints .u8 fi).toArray,.agg (ints .u8 re).toArray] w fun e w'=>e=.returned (.tuple #[.agg (ints .u8 K).toArray,.int .i64 0])∧Below w.heap.size w w'))
 (HO:Hid (∀w,Tabs w→Nums w .u8 (some ⟨gb,ob+32,none⟩) s2→Calls Tryz.prog 22 #[.agg (ints .u8 K).toArray,.agg (ints .u8 (zeros 12)).toArray,.slice none 0 0,.slice (some ⟨gb,ob+32,none⟩) (ls - 32) (cs - 32)] w fun e w'=>∃v,e=.returned v∧IsTupE m E x v w'∧Below w.heap.size w w')) :
 Calls Tryz.prog 10 #[.agg (ints .u8 sk).toArray,.slice (some ⟨gb,ob,none⟩) ls cs] w fun e w'=>∃v,e=.returned v∧IsTupE m E x v w'∧Below w.heap.size w w':=by
 have h2:=(Arr.made w .u8 sk 22).rw
 have hW:=(below_new w (.cells (ints .u8 sk).toArray 22))
 obtain ⟨z32,s32⟩:=zero_of_info infS32
 replace hT:=hT.next hW
 replace hC:=hC.next hW
 replace hF:=hF.below hW
 replace hX:=hX.below hW
 have g1:¬(1048576:Int)<(ls:Int):=by omega
 have g2:¬(ls:Int)<48:=by have:=HLS.out;omega
 go_enter Tryz.func10,Tryz.ntmps10
 go_upto_region 5 with (fail)
 generalize (w.alloc (.cells (ints .u8 sk).toArray 22))=w0 at *
 have s0:=hW.size
 refine rSeq 5 38 (fun i=>i==4) [Is (.slice (some ⟨gb,ob,none⟩) ls cs),Is (.slice (some ⟨gb,ob,none⟩) 32 cs),Is (.pointer (some ⟨gb,ob,none⟩)),Is (.agg (ints .u8 fi).toArray),IsZV w0.heap.size (ints .u8 (hzeros 32))] [15,16,17,18,6] (gC (gC (gC (gC (grows_cons (IsZV.grows _ _) grows_nil)))))
  ⟨step_mvP rfl (.inl rfl) rfl rfl (kO 1 rfl),
   step_one rfl (.inl rfl) (fun ev w h hc=>ex_slSh (P:=Tryz.prog) uaVs zeVs (h:=32) (by have:=HCS.out;omega) rfl (.inr (by decide)) ev w h hc) rfl (kI 0 15 rfl rfl),
   step_one rfl (.inl rfl) (fun ev w h hc=>ex_arrP (P:=Tryz.prog) Tryz.underlying22 (by decide) rfl ev w h hc) rfl (kI 1 16 rfl rfl),
   step_ldV rfl (.inl rfl) (fun _ hw=>(hF.below hw).range) rfl Tryz.underlying22 rfl (szV infS32 (il HF.out)) rfl (kI 2 17 rfl rfl),
   step_allocV (.inl rfl) infS32 rfl rfl,trivial⟩ ?_
 intro val w1 hw hS hap hla
 obtain ⟨b6,e6,L6,Z6⟩:=hS 4 6 (by decide) rfl
 simp only [pA,pB,pC,pD,pE,Act.put,pG,pH,pI,eVal hS 0 15 rfl rfl,eVal hS 1 16 rfl rfl,eVal hS 2 17 rfl rfl,eVal hS 3 18 rfl rfl,e6]
 clear hS hap hla e6
 have LL6:=hid (show ((ints .u8 fi)).length=32 from (il HF.out))
 have R6:=Z6.roomA (us:=(ints .u8 fi)) (LL6.out.trans (zvH .u8 32).symm)
 have h6:=Z6.storedA (us:=(ints .u8 fi)) (LL6.out.trans (zvH .u8 32).symm)
 have hu:=Below.setCells hw L6 0 (ints .u8 fi).toArray.toList
 replace h2:=h2.next hu
 replace hT:=hT.next hu
 replace hC:=hC.next hu
 replace hF:=hF.below hu
 replace hX:=hX.below hu
 replace hW:=bT hW hu
 clear hu
 with_reducible refine wpList_store_mid (op:=⟨none,.store 22 (.tmp 6) (.tmp 18),_,_,_,_⟩) rfl 22 (.tmp 6) (.tmp 18) rfl b6 0 (ints .u8 fi).toArray rfl rfl R6 (szA infS32 LL6.out) (ints_all _ _) ?_
 generalize (w1.setCells b6 0 (ints .u8 fi).toArray.toList)=w2 at *
 clear hw R6 LL6 Z6 L6
 go_upto_region 6 with (fail)
 have s2:=hW.size
 refine region_early 10 38 (fun i=>i==9) [Is (.agg (ints .u8 sk).toArray),Is (.agg (ints .u8 fi).toArray),Is (.agg (ints .u8 fi).toArray),Is (.agg (ints .u8 sk).toArray),Is (.agg (ints .u8 re).toArray),Is (.tuple #[(.agg (ints .u8 K).toArray),(.int .i64 0)]),Is (.tuple #[(.agg (ints .u8 K).toArray),(.int .i64 0)]),Is (.agg (ints .u8 K).toArray),Is (.int .i64 0),IsZV w2.heap.size (ints .u8 (hzeros 32))] [20,21,22,23,24,25,19,26,27,7] (by kernel_rfl) (by kernel_rfl) (by kernel_rfl) (Nat.le_of_eq rfl) (gC (gC (gC (gC (gC (gC (gC (gC (gC (grows_cons (IsZV.grows _ _) grows_nil))))))))))
  ⟨step_ldV rfl (.inl rfl) (fun _ hw=>(h2.next hw).range) rfl Tryz.underlying22 rfl (szV infS32 (il H1.out)) rfl (kO 2 rfl),
   step_ldV rfl (.inl rfl) (fun _ hw=>(h6.next hw).range) rfl Tryz.underlying22 rfl (szV infS32 (il HF.out)) rfl (kO 6 rfl),
   step_ldV rfl (.inl rfl) (fun _ hw=>(h6.next hw).range) rfl Tryz.underlying22 rfl (szV infS32 (il HF.out)) rfl (kO 6 rfl),
   step_ldV rfl (.inl rfl) (fun _ hw=>(h2.next hw).range) rfl Tryz.underlying22 rfl (szV infS32 (il H1.out)) rfl (kO 2 rfl),
   step_to rfl (.inl rfl) rfl cxPubB HP.out rfl (one_arg (kI 3 23 rfl rfl)),
   step_cw rfl (.inl rfl) rfl cxAgrB rfl (fun aa ww hw hf hd=>⟨_,(four_args (kI 0 20 rfl rfl) (kI 1 21 rfl rfl) (kI 2 22 rfl rfl) (kI 4 24 rfl rfl)) aa ww hw hf hd,HA.out ww (hT.next hw)⟩),
   step_mvP rfl (.inl rfl) rfl rfl (kI 5 25 rfl rfl),
   step_fstZ rfl (.inl rfl) rfl rfl (kI 6 19 rfl rfl),
   step_sndZ rfl (.inl rfl) rfl rfl (kI 6 19 rfl rfl),
   step_allocV (.inl rfl) infS32 rfl rfl,trivial⟩
  22 7 26 (ints .u8 K).toArray _ rfl rfl rfl rfl 9 7 (by decide) (by decide) rfl rfl (by kernel_rfl) (by kernel_rfl) (fun v w ⟨b,h1,h2,h3⟩=>⟨b,h1,h2,h3.roomA (us:=ints .u8 K) ((il HK.out).trans (il (hz_len 32)).symm)⟩) (fun v w h=>h) (szA infS32 (il HK.out)) (ints_all _ _)
  (fun i o hi ho hf=>by
    have hc:i=0∨i=1∨i=2∨i=3∨i=4∨i=5∨i=6∨i=7∨i=8∨i=9:=by omega
    rcases hc with e|e|e|e|e|e|e|e|e|e <;> subst e
    ·exact (no_wait hf (by kernel_rfl)).elim
    ·exact (no_wait hf (by kernel_rfl)).elim
    ·exact (no_wait hf (by kernel_rfl)).elim
    ·exact (no_wait hf (by kernel_rfl)).elim
    ·exact (no_wait hf (by kernel_rfl)).elim
    ·exact (no_wait hf (by kernel_rfl)).elim
    ·exact (no_wait hf (by kernel_rfl)).elim
    ·exact (no_wait hf (by kernel_rfl)).elim
    ·injection ho with ho;subst ho
     exact ⟨rfl,free_sndB rfl rfl rfl (kI 6 19 rfl rfl)⟩
    ·exact (no_wait hf (by kernel_rfl)).elim)
  (fun i j hi hj hf hw v w w' h=>by
    have hc:i=0∨i=1∨i=2∨i=3∨i=4∨i=5∨i=6∨i=7∨i=8∨i=9:=by omega
    have hd:j=0∨j=1∨j=2∨j=3∨j=4∨j=5∨j=6∨j=7∨j=8∨j=9:=by omega
    rcases hc with e|e|e|e|e|e|e|e|e|e <;> subst e
    ·exact (no_wait hf (by kernel_rfl)).elim
    ·exact (no_wait hf (by kernel_rfl)).elim
    ·exact (no_wait hf (by kernel_rfl)).elim
    ·exact (no_wait hf (by kernel_rfl)).elim
    ·exact (no_wait hf (by kernel_rfl)).elim
    ·exact (no_wait hf (by kernel_rfl)).elim
    ·exact (no_wait hf (by kernel_rfl)).elim
    ·exact (no_wait hf (by kernel_rfl)).elim
    ·rcases hd with e|e|e|e|e|e|e|e|e|e <;> subst e
     ·exact (no_wait2 hw (by kernel_rfl)).elim
     ·exact (no_wait2 hw (by kernel_rfl)).elim
     ·exact (no_wait2 hw (by kernel_rfl)).elim
     ·exact (no_wait2 hw (by kernel_rfl)).elim
     ·exact (no_wait2 hw (by kernel_rfl)).elim
     ·exact (no_wait2 hw (by kernel_rfl)).elim
     ·exact h
     ·exact (no_wait2 hw (by kernel_rfl)).elim
     ·exact (no_wait2 hw (by kernel_rfl)).elim
     ·exact (no_wait2 hw (by kernel_rfl)).elim
    ·exact (no_wait hf (by kernel_rfl)).elim) ?_
 intro val w3 bq hw hS hap hla hbq
 obtain ⟨b7,e7,L7,Z7⟩:=hS 9 7 (by decide) rfl
 have eb:b7=bq:=by
  rw [e7] at hbq
  injection hbq with h
  injection h with h
  injection h
 subst eb
 clear hbq
 simp only [pA,pB,pC,pD,pE,Act.put,pG,pH,pI,eVal hS 0 20 rfl rfl,eVal hS 1 21 rfl rfl,eVal hS 2 22 rfl rfl,eVal hS 3 23 rfl rfl,eVal hS 4 24 rfl rfl,eVal hS 5 25 rfl rfl,eVal hS 6 19 rfl rfl,eVal hS 7 26 rfl rfl,eVal hS 8 27 rfl rfl,e7]
 clear hS hap hla e7
 have LL7:=hid (show ((ints .u8 K)).length=32 from (il HK.out))
 have R7:=Z7.roomA (us:=(ints .u8 K)) (LL7.out.trans (zvH .u8 32).symm)
 have h7:=Z7.storedA (us:=(ints .u8 K)) (LL7.out.trans (zvH .u8 32).symm)
 have hu:=Below.setCells hw L7 0 (ints .u8 K).toArray.toList
 replace h2:=h2.next hu
 replace hT:=hT.next hu
 replace hC:=hC.next hu
 replace hF:=hF.below hu
 replace hX:=hX.below hu
 replace h6:=h6.next hu
 replace hW:=bT hW hu
 clear hu
 generalize (w3.setCells b7 0 (ints .u8 K).toArray.toList)=w4 at *
 clear hw R7 LL7 Z7 L7
 go_wp2_with (fail)
 have s4:=hW.size
 refine rSpec 8 38 (fun _=>false) [Is (.agg (ints .u8 K).toArray),Is (.agg (ints .u8 (zeros 12)).toArray),Is (.slice (some ⟨gb,ob,none⟩) ls cs),Is (.slice (some ⟨gb,ob+32,none⟩) (ls - 32) (cs - 32)),IsTupE m E x,IsRw .u8 m x,Is (.int .i64 E),IsRw .u8 m x] [31,32,33,34,35,36,37,4] (gC (gC (gC (gC (grows_cons (IsTupE.grows _ _ _) (grows_cons (IsRw.grows _ _ _) (gC (grows_cons (IsRw.grows _ _ _) grows_nil))))))))
  ⟨step_ldV rfl (.inl rfl) (fun _ hw=>(h7.next hw).range) rfl Tryz.underlying22 rfl (szV infS32 (il HK.out)) rfl (kO 7 rfl),
   step_to0 rfl (.inl rfl) rfl cxNonB nonce_any rfl,
   step_mvP rfl (.inl rfl) rfl rfl (kO 1 rfl),
   step_one rfl (.inl rfl) (fun ev w h hc=>ex_slSl (P:=Tryz.prog) uaVs zeVs (l:=32) (by have:=HLS.out;omega) (by have:=HCS.out;omega) rfl rfl rfl rfl ev w h hc) rfl (kI 2 33 rfl rfl),
   step_callR rfl (.inl rfl) rfl cxOpeB rfl (fun aa ww hw hf hd=>⟨_,(four_args (kI 0 31 rfl rfl) (kI 1 32 rfl rfl) (knows_const _) (kI 3 34 rfl rfl)) aa ww hw hf hd,HO.out ww (hC.next hw) (hX.below hw)⟩),
   tupE_fst rfl (.inl rfl) rfl rfl (knowsW_in 4 35 (by decide) (by kernel_rfl) rfl rfl),
   tupE_snd rfl (.inl rfl) rfl rfl (knowsW_in 4 35 (by decide) (by kernel_rfl) rfl rfl),
   step_copyW rfl (.inl rfl) 5 36 (.inr rfl) rfl (by decide) (by kernel_rfl) rfl rfl,trivial⟩ ?_
 intro val w5 hw hS hap hla
 have e31:=eVal hS 0 31 rfl rfl
 have e32:=eVal hS 1 32 rfl rfl
 have e33:=eVal hS 2 33 rfl rfl
 have e34:=eVal hS 3 34 rfl rfl
 have e37:=eVal hS 6 37 rfl rfl
 obtain ⟨B4,c4,e4,N4⟩:=hS 7 4 (by decide) rfl
 simp only [pA,pB,pC,pD,pE,Act.put,pG,pH,pI,e31,e32,e33,e34,e37,e4]
 generalize val 35=g35
 generalize val 36=g36
 clear hS hap hla e31 e32 e33 e34 e37 e4
 replace h2:=h2.next hw
 replace hT:=hT.next hw
 replace hC:=hC.next hw
 replace hF:=hF.below hw
 replace hX:=hX.below hw
 replace h6:=h6.next hw
 replace h7:=h7.next hw
 replace hW:=bT hW hw
 clear hw
 go_wp2_with (fail)
 go_ret2
 exact ⟨_,rfl,⟨B4,c4,rfl,N4⟩,hW⟩
end
section
set_option maxRecDepth 50000
theorem Nums.upto2 {w:World} {k:IntKind} {A:Option Addr} {x:List Int} (h:Nums w k A x) (n:Nat):Nums w k A (x.take n):=fun hp=>by
 rw [List.length_take] at hp
 obtain ⟨b,off,e,hlt,hc⟩:=h (by omega)
 refine ⟨b,off,e,hlt,fun i hi=>?_⟩
 rw [List.length_take] at hi
 rw [hc i (by omega)]
 congr 2
 rw [List.getD_eq_getElem?_getD,List.getD_eq_getElem?_getD,List.getElem?_take,if_pos (by omega)]
theorem aopen_few (key nonce:List Int) (AB AS:Option Addr) (lb cb ls cs:Nat) (w:World) (hls:ls<16) (hlb:lb≤1000):Calls Tryz.prog 22 #[.agg (ints .u8 key).toArray,.agg (ints .u8 nonce).toArray,.slice AB lb cb,.slice AS ls cs] w fun e w'=>e=.returned (.tuple #[.slice none 0 0,.int .i64 10])∧Below w.heap.size w w':=by
 have hW:=(below_new w (.cells (ints .u8 key).toArray 22)).alloc (by simp) (.cells (ints .u8 nonce).toArray 40)
 have g1:(ls:Int)<16:=by omega
 have g2:(lb:Int)≤1000:=by omega
 go_enter Tryz.func22,Tryz.ntmps22
 go_wp2_with (fail)
 go_ret2
 exact ⟨rfl,hW⟩
def OpenPost (good:Bool) (n:Nat) (x:List Int) (w:World) (e:Ending) (w':World):Prop:=∃A d,e=.returned (.tuple #[.slice A (if good then n else 0) d,.int .i64 (if good then 0 else 20)])∧Nums w' .u8 A (if good then x else [])∧Below w.heap.size w w'
set_option maxHeartbeats 4000000 in
theorem aopen_core (key nonce r z2 x:List Int) (good:Bool) (AB AS A2:Option Addr) (lb cb ls cs c2 n:Nat) (w:World) (hT:Tabs w) (hk:Hid (key.length=32)) (hn:Hid (nonce.length=12)) (hls:ls=n+16) (hlb:lb≤1000) (hn4:n≤400) (hncs:n≤cs) (Pr:World→Prop) (Ps:World→Prop)
 (hPr:∀w w',Pr w→Below w.heap.size w w'→Pr w') (hPs:∀w w',Ps w→Below w.heap.size w w'→Ps w') (hB:Pr w) (hS0:Ps w) (hR0:Nums w .u8 A2 z2) (HRL:Hid (r.length=16)) (HRB:Hid (Byt r)) (HZ2L:Hid (z2.length=16)) (HZ2B:Hid (Byt z2)) (HGD:Hid (decide (r=z2)=good))
 (hru:Hid (∀w:World,(Instr.slice 23 (.slice AS ls cs) (some (.int .i64 (n:Int))) none none).run Tryz.prog w=.ok (.slice A2 16 c2) w))
 (HTG:Hid (∀w,Tabs w→Pr w→Ps w→Calls Tryz.prog 29 #[.agg (ints .u8 key).toArray,.agg (ints .u8 nonce).toArray,.slice AB lb cb,.slice AS n cs] w fun e w'=>e=.returned (.agg (ints .u8 r).toArray)∧Below w.heap.size w w'))
 (HHD:Hid (∀w,Tabs w→Ps w→Calls Tryz.prog 28 #[.agg (ints .u8 key).toArray,.agg (ints .u8 nonce).toArray,.int .u32 1,.slice AS n cs] w fun e w'=>∃v,e=.returned v∧IsTup n x v w'∧Below w.heap.size w w')) :
 Calls Tryz.prog 22 #[.agg (ints .u8 key).toArray,.agg (ints .u8 nonce).toArray,.slice AB lb cb,.slice AS ls cs] w (OpenPost good n x w):=by
 have hK:=((Arr.made w .u8 key 22).alloc (.cells (ints .u8 nonce).toArray 40)).rw
 have hN:=(Arr.made (w.alloc (.cells (ints .u8 key).toArray 22)) .u8 nonce 40).rw
 have hW:=(below_new w (.cells (ints .u8 key).toArray 22)).alloc (by simp) (.cells (ints .u8 nonce).toArray 40)
 rw [World.size_alloc] at hN
 replace hT:=hT.next hW
 replace hB:=hPr _ _ hB hW
 replace hS0:=hPs _ _ hS0 hW
 replace hR0:=hR0.below hW
 have g1:(ls:Int)≤416:=by omega
 have g3:¬(ls:Int)<16:=by omega
 have g2:(lb:Int)≤1000:=by omega
 have e16:(ls:Int) - 16=(n:Int):=by omega
 clear hls hlb hn4
 go_enter Tryz.func22,Tryz.ntmps22
 go_upto_region 6 with (fail)
 generalize ((w.alloc (.cells (ints .u8 key).toArray 22)).alloc (.cells (ints .u8 nonce).toArray 40))=w0 at *
 have s0:=hW.size
 refine rSpec 8 47 (fun i=>i==7) [Is (.agg (ints .u8 key).toArray),Is (.agg (ints .u8 nonce).toArray),Is (.slice AB lb cb),Is (.slice AS ls cs),Is (.int .i64 (n:Int)),Is (.slice AS n cs),Is (.agg (ints .u8 r).toArray),IsZV w0.heap.size (ints .u8 (zeros 16))] [26,27,28,29,30,31,32,11] (gC (gC (gC (gC (gC (gC (gC (grows_cons (IsZV.grows _ _) grows_nil))))))))
  ⟨step_ldV rfl (.inl rfl) (fun _ hw=>(hK.next hw).range) rfl Tryz.underlying22 rfl (szV inf41 (il hk.out)) rfl (kO 4 rfl),
   step_ldV rfl (.inl rfl) (fun _ hw=>(hN.next hw).range) rfl Tryz.underlying40 rfl (szV infNo (il hn.out)) rfl (kO 5 rfl),
   step_mvP rfl (.inl rfl) rfl rfl (kO 2 rfl),
   step_mvP rfl (.inl rfl) rfl rfl (kO 3 rfl),
   step_mvP rfl (.inl rfl) rfl rfl (kO 10 rfl),
   step_pre rfl (.inl rfl) rfl hncs rfl (kI 3 29 rfl rfl) (kI 4 30 rfl rfl),
   step_cw rfl (.inl rfl) rfl cxTag rfl (fun aa ww hw hf hd=>⟨_,(four_args (kI 0 26 rfl rfl) (kI 1 27 rfl rfl) (kI 2 28 rfl rfl) (kI 5 31 rfl rfl)) aa ww hw hf hd,HTG.out ww (hT.next hw) (hPr _ _ hB hw) (hPs _ _ hS0 hw)⟩),
   step_allocV (.inl rfl) inf33 rfl rfl,trivial⟩ ?_
 intro val w1 hw hS hap hla
 obtain ⟨b11,e11,L11,Z11⟩:=hS 7 11 (by decide) rfl
 simp only [pA,pB,pC,pD,pE,Act.put,pG,pH,pI,eVal hS 0 26 rfl rfl,eVal hS 1 27 rfl rfl,eVal hS 2 28 rfl rfl,eVal hS 3 29 rfl rfl,eVal hS 4 30 rfl rfl,eVal hS 5 31 rfl rfl,eVal hS 6 32 rfl rfl,e11]
 clear hS hap hla e11
 have LL11:=hid (show ((ints .u8 r)).length=16 from (il HRL.out))
 have R11:=Z11.roomA (us:=(ints .u8 r)) (LL11.out.trans (zv .u8 16).symm)
 have h11:=Z11.storedA (us:=(ints .u8 r)) (LL11.out.trans (zv .u8 16).symm)
 have hu:=Below.setCells hw L11 0 (ints .u8 r).toArray.toList
 replace hK:=hK.next hu
 replace hN:=hN.next hu
 replace hT:=hT.next hu
 clear hu
 replace hB:=hPr _ _ hB (Below.setCells hw L11 0 (ints .u8 r).toArray.toList)
 replace hS0:=hPs _ _ hS0 (Below.setCells hw L11 0 (ints .u8 r).toArray.toList)
 have hu:=Below.setCells hw L11 0 (ints .u8 r).toArray.toList
 replace hR0:=hR0.below hu
 replace hW:=bT hW hu
 clear hu
 with_reducible refine wpList_store_mid (op:=⟨none,.store 54 (.tmp 11) (.tmp 32),_,_,_,_⟩) rfl 54 (.tmp 11) (.tmp 32) rfl b11 0 (ints .u8 r).toArray rfl rfl R11 (szA inf33 LL11.out) (ints_all _ _) ?_
 generalize (w1.setCells b11 0 (ints .u8 r).toArray.toList)=w2 at *
 clear hw R11 LL11 Z11 L11
 go_upto_region 7 with (fail)
 have s2:=hW.size
 refine rSpec 5 47 (fun _=>false) [Is (.slice (some ⟨b11,0,none⟩) 16 16),Is (.slice AS ls cs),Is (.int .i64 (n:Int)),Is (.slice A2 16 c2),Is (.bool good)] [33,34,35,36,37] (gC (gC (gC (gC (gC grows_nil)))))
  ⟨step_one rfl (.inl rfl) (fun ev w h hc=>ex_slA (P:=Tryz.prog) ua33 ze33 (m:=16) rfl rfl ev w h hc) rfl (kO 11 rfl),
   step_mvP rfl (.inl rfl) rfl rfl (kO 3 rfl),
   step_mvP rfl (.inl rfl) rfl rfl (kO 10 rfl),
   step_suf rfl (.inl rfl) rfl (fun w=>hru.out w) rfl (kI 1 34 rfl rfl) (kI 2 35 rfl rfl),
   step_cw rfl (.inl rfl) rfl cxEqu rfl (fun aa ww hw hf hd=>⟨_,(two_args (kI 0 33 rfl rfl) (kI 3 36 rfl rfl)) aa ww hw hf hd,aequal_dec _ A2 16 16 c2 r z2 good ww (by decide) HRL (hid HZ2L.out) HRB.out HZ2B.out ((h11.next hw)).nums (hR0.below hw) HGD.out⟩),trivial⟩ ?_
 intro val w3 hw hS hap hla
 simp only [pA,pB,pC,pD,pE,Act.put,pG,pH,pI,eVal hS 0 33 rfl rfl,eVal hS 1 34 rfl rfl,eVal hS 2 35 rfl rfl,eVal hS 3 36 rfl rfl,eVal hS 4 37 rfl rfl]
 clear hS hap hla
 replace hK:=hK.next hw
 replace hN:=hN.next hw
 replace hT:=hT.next hw
 replace hB:=hPr _ _ hB hw
 replace hS0:=hPs _ _ hS0 hw
 replace hR0:=hR0.below hw
 replace h11:=h11.next hw
 replace hW:=bT hW hw
 clear hw
 cases good
 ·go_wp2_with (fail)
  go_ret2
  exact ⟨none,0,rfl,Nums.nil,hW⟩
 ·go_upto_region 9 with (fail)
  have s3:=hW.size
  refine rSpec 9 47 (fun _=>false) [Is (.agg (ints .u8 key).toArray),Is (.agg (ints .u8 nonce).toArray),Is (.slice AS ls cs),Is (.int .i64 (n:Int)),Is (.slice AS n cs),IsTup n x,IsPart n x,Is (.int .i64 0),IsPart n x] [39,40,41,42,43,44,45,46,8] (gC (gC (gC (gC (gC (grows_cons (IsTup.grows _ _) (grows_cons (IsPart.grows _ _) (gC (grows_cons (IsPart.grows _ _) grows_nil)))))))))
   ⟨step_ldV rfl (.inl rfl) (fun _ hw=>(hK.next hw).range) rfl Tryz.underlying22 rfl (szV inf41 (il hk.out)) rfl (kO 4 rfl),
    step_ldV rfl (.inl rfl) (fun _ hw=>(hN.next hw).range) rfl Tryz.underlying40 rfl (szV infNo (il hn.out)) rfl (kO 5 rfl),
    step_mvP rfl (.inl rfl) rfl rfl (kO 3 rfl),
    step_mvP rfl (.inl rfl) rfl rfl (kO 10 rfl),
    step_pre rfl (.inl rfl) rfl hncs rfl (kI 2 41 rfl rfl) (kI 3 42 rfl rfl),
    step_callR rfl (.inl rfl) rfl cxHid rfl (fun aa ww hw hf hd=>⟨_,(four_args (kI 0 39 rfl rfl) (kI 1 40 rfl rfl) (knows_const _) (kI 4 43 rfl rfl)) aa ww hw hf hd,HHD.out ww (hT.next hw) (hPs _ _ hS0 hw)⟩),
    tup_fst rfl (.inl rfl) rfl rfl (knowsW_in 5 44 (by decide) (by kernel_rfl) rfl rfl),
    tup_snd rfl (.inl rfl) rfl rfl (knowsW_in 5 44 (by decide) (by kernel_rfl) rfl rfl),
    step_copyW rfl (.inl rfl) 6 45 (.inr rfl) rfl (by decide) (by kernel_rfl) rfl rfl,trivial⟩ ?_
  intro val w4 hw hS hap hla
  have e39:=eVal hS 0 39 rfl rfl
  have e40:=eVal hS 1 40 rfl rfl
  have e41:=eVal hS 2 41 rfl rfl
  have e42:=eVal hS 3 42 rfl rfl
  have e43:=eVal hS 4 43 rfl rfl
  have e46:=eVal hS 7 46 rfl rfl
  obtain ⟨B8,c8,e8,h8,N8⟩:=hS 8 8 (by decide) rfl
  simp only [pA,pB,pC,pD,pE,Act.put,pG,pH,pI,e39,e40,e41,e42,e43,e46,e8]
  generalize val 44=g44
  generalize val 45=g45
  clear hS hap hla e39 e40 e41 e42 e43 e46 e8
  replace hK:=hK.next hw
  replace hN:=hN.next hw
  replace hT:=hT.next hw
  replace hB:=hPr _ _ hB hw
  replace hS0:=hPs _ _ hS0 hw
  replace hR0:=hR0.below hw
  replace h11:=h11.next hw
  replace hW:=bT hW hw
  clear hw
  go_wp2_with (fail)
  go_ret2
  exact ⟨B8,c8,rfl,N8,hW⟩
def openE (key nonce be s:List Int):Int:=if s.length<16 then 10 else if goodL key nonce be s then 0 else 20
def openL (key nonce be s:List Int):List Int:=if s.length<16 then [] else if goodL key nonce be s then hidT key nonce (s.take (s.length - 16)) else []
theorem aopen_any (key nonce be s:List Int) (AB AS:Option Addr) (lb cb ls cs:Nat) (w:World) (hT:Tabs w) (hk:Hid (key.length=32)) (hn:Hid (nonce.length=12)) (hkb:HByt key) (hnb:HByt nonce) (HSB:HByt s) (PB:Hid (PLZ lb be)) (PS:Hid (s.length=ls)) (hls:ls≤416) (hcb:lb≤cb) (hcs:ls≤cs) (hB:Nums w .u8 AB be) (hA:Nums w .u8 AS s) :
 Calls Tryz.prog 22 #[.agg (ints .u8 key).toArray,.agg (ints .u8 nonce).toArray,.slice AB lb cb,.slice AS ls cs] w fun e w'=>∃A m d,e=.returned (.tuple #[.slice A m d,.int .i64 (openE key nonce be s)])∧(openL key nonce be s).length=m∧Nums w' .u8 A (openL key nonce be s)∧Below w.heap.size w w':=by
 unfold openE openL
 rw [PS.out]
 by_cases h16:ls<16
 ·rw [if_pos h16,if_pos h16]
  exact (aopen_few key nonce AB AS lb cb ls cs w h16 PB.out.2.1).mono fun e w' ⟨he,hb⟩=>⟨none,0,0,he,rfl,Nums.nil,hb⟩
 ·rw [if_neg h16,if_neg h16]
  obtain ⟨n,rfl⟩:∃n,ls=n+16:=⟨ls - 16,by omega⟩
  rw [Nat.add_sub_cancel]
  obtain ⟨A2,hru,hR⟩:=rest_any (c:=cs) (h:=n) hA PS.out hcs (by omega)
  have e16:n+16 - n=16:=by omega
  rw [e16] at hru
  have hl0:(s.take n).length=n:=by rw [List.length_take,PS.out];omega
  have hx:(hidT key nonce (s.take n)).length=n:=by rw [hidT_len hk.out hn.out (by rw [hl0];omega),hl0]
  have hg:goodL key nonce be s=decide (atag key nonce be (s.take n)=s.drop n):=by unfold goodL;rw [PS.out,Nat.add_sub_cancel]
  refine (aopen_core key nonce (atag key nonce be (s.take n)) (s.drop n) (hidT key nonce (s.take n)) (goodL key nonce be s) AB AS A2 lb cb (n+16) cs (cs - n) n w hT hk hn rfl PB.out.2.1 (by omega) (by omega) (fun w=>Nums w .u8 AB be) (fun w=>Nums w .u8 AS (s.take n)) (fun _ _ h hb=>h.below hb) (fun _ _ h hb=>h.below hb) hB (hA.upto2 n) hR
   (hid (atag_len _ _ _ _)) (hid (atag_byt _ _ _ _)) (hid (by rw [List.length_drop,PS.out];omega)) (hid (HSB.drop n)) (hid hg.symm) (hid hru)
   (hid fun w hT hB hS=>atag_any key nonce be (s.take n) AB AS lb cb n cs w hT hk hn hkb hnb PB (hid ⟨hl0,by omega,HSB.take n⟩) hcb (by omega) hB hS)
   (hid fun w hT hS=>(hide_own key nonce (s.take n) 1 n cs AS w hT hk hn hkb hnb (HSB.take n) (hid hl0) (by omega) (by decide) (by omega) hS).mono fun e w' ⟨A,d,he,hO,hb,hd⟩=>⟨_,he,⟨A,d,rfl,hd,hO.nums⟩,hb⟩)).mono ?_
  rintro e w' ⟨A,d,he,hN,hb⟩
  cases hgd:goodL key nonce be s
  ·rw [hgd] at he hN
   exact ⟨A,0,d,he,rfl,hN,hb⟩
  ·rw [hgd] at he hN
   exact ⟨A,n,d,he,hx,hN,hb⟩
def unkB (sk b:List Int):List Int:=boxK (shL sk (b.take 32)) (b.take 32) (pubL sk)
def unwrapE (sk b:List Int):Int:=if b.length<48 then 10 else if noughtB sk (b.take 32) then 21 else openE (unkB sk b) (zeros 12) [] (b.drop 32)
def unwrapL (sk b:List Int):List Int:=if b.length<48 then [] else if noughtB sk (b.take 32) then [] else openL (unkB sk b) (zeros 12) [] (b.drop 32)
theorem take32_len {b:List Int} {ls:Nat} (hl:b.length=ls) (h:48≤ls):(b.take 32).length=32:=by rw [List.length_take,hl];omega
theorem unwrap_any (sk b:List Int) (A:Option Addr) (ls cs:Nat) (w:World) (hT:TabsH w) (hC:Tabs w) (h1:sk.length=32) (b1:HByt sk) (hl:b.length=ls) (hls:ls≤400) (hcs:ls≤cs) (bb:HByt b) (hA:Nums w .u8 A b) :
 Calls Tryz.prog 10 #[.agg (ints .u8 sk).toArray,.slice A ls cs] w fun e w'=>∃v,e=.returned v∧IsTupE (unwrapL sk b).length (unwrapE sk b) (unwrapL sk b) v w'∧Below w.heap.size w w':=by
 unfold unwrapE unwrapL
 rw [hl]
 by_cases h48:ls<48
 ·rw [if_pos h48,if_pos h48]
  exact (unwrap_few sk A ls cs w h48).mono fun e w' ⟨he,hb⟩=>⟨_,he,⟨none,0,rfl,Nums.nil⟩,hb⟩
 ·rw [if_neg h48,if_neg h48]
  obtain ⟨g,o,rfl,_,_⟩:=hA (by omega)
  have h2:=take32_len hl (by omega)
  have hF:=hA.upto2 32
  have hX:Nums w .u8 (some ⟨g,o+32,none⟩) (b.drop 32):=by
   have h:=hA.cut (lo:=32) (m:=b.length - 32) (by omega)
   rwa [List.take_of_length_le (by rw [List.length_drop];omega)] at h
  have bf:HByt (b.take 32):=bb.take 32
  have bx:HByt (b.drop 32):=bb.drop 32
  have hd:(b.drop 32).length=ls - 32:=by rw [List.length_drop,hl]
  cases hn:noughtB sk (b.take 32) with
  | true=>exact (unwrap_no sk (b.take 32) (b.drop 32) (pubL sk) (hzeros 32) g o ls cs w hT hC (hid h1) (hid h2) (hid (pub_len sk)) (hid (hz_len 32)) (hid (by omega)) hls (hid (by omega)) hF hX (hid (c_public h1 b1)) (hid fun w hT=>agree_zero _ _ h1 b1 h2 bf h2 (pub_len sk) hn w hT)).mono fun e w' ⟨he,hb⟩=>⟨_,he,⟨none,0,rfl,Nums.nil⟩,hb⟩
  | false =>
    have hk:(unkB sk b).length=32:=boxK_len _ _ _
    have hkb:HByt (unkB sk b):=boxK_byt _ _ _
    have hag:=fun w hT=>agree_key h1 b1 h2 bf h2 bf (pub_len sk) (pub_byt sk) hn w hT
    have hag2:∀w,TabsH w→Calls Tryz.prog 13 #[.agg (ints .u8 sk).toArray,.agg (ints .u8 (b.take 32)).toArray,.agg (ints .u8 (b.take 32)).toArray,.agg (ints .u8 (pubL sk)).toArray] w fun e w'=>e=.returned (.tuple #[.agg (ints .u8 (unkB sk b)).toArray,.int .i64 0])∧Below w.heap.size w w':=hag
    clear hag
    generalize unkB sk b=K at *
    exact unwrap_yes (openL K (zeros 12) [] (b.drop 32)) (openL K (zeros 12) [] (b.drop 32)).length (openE K (zeros 12) [] (b.drop 32)) sk (b.take 32) (b.drop 32) (pubL sk) K g o ls cs w hT hC (hid h1) (hid h2) (hid (pub_len sk)) (hid hk) (hid (by omega)) hls (hid (by omega)) hF hX (hid (c_public h1 b1)) (hid hag2) (hid fun w hC hX=>(aopen_any K (zeros 12) [] (b.drop 32) none (some ⟨g,o+32,none⟩) 0 0 (ls - 32) (cs - 32) w hC (hid hk) (hid (zeros_len 12)) hkb z12_byt bx (hid pl_nil) (hid hd) (by omega) (Nat.le_refl _) (by omega) Nums.nil hX).mono fun e w' ⟨A,m,d,he,hm,hN,hb⟩=>⟨_,he,⟨A,d,by rw [hm],hN⟩,hb⟩)
end
end Go.Proofs.YtkblmdakejmmhaaGreatDoor
