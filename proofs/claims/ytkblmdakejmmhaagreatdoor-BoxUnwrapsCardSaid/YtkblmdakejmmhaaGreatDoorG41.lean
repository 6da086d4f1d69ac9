import Derived.Test.YtkblmdakejmmhaaGreatDoorG40
import Derived.Test.YtkblmdakejmmhaaGreatDoorG37
namespace Go.Proofs.YtkblmdakejmmhaaGreatDoor
open Go Go.RowKit
section
set_option maxHeartbeats 4000000
set_option maxRecDepth 50000
theorem cxROpe (vs:Array Value) (w:World):(callFunc 23 vs).run Tryz.prog w=.ok (.enter 23 vs) w:=by go_simp
theorem runwrap_few (sk:List Int) (A:Option Addr) (ls cs:Nat) (w:World) (hls:ls<48):Calls Tryz.prog 11 #[.agg (ints .u8 sk).toArray,.slice A ls cs] w fun e w'=>e=.returned (.tuple #[.slice none 0 0,.int .i64 10])∧Below w.heap.size w w':=by
 have h2:=(Arr.made w .u8 sk 22).rw
 have hW:=(below_new w (.cells (ints .u8 sk).toArray 22))
 have g2:(ls:Int)<48:=by omega
 clear hls
 go_enter Tryz.func11,Tryz.ntmps11
 go_wp2_with (fail)
 go_ret2
 exact ⟨rfl,hW⟩
theorem runwrap_no (sk fi s2 re x K:List Int) (gb ob ls cs:Nat) (w:World) (H1:Hid (sk.length=32)) (HF:Hid (fi.length=32)) (H3:Hid (re.length=32)) (HX:Hid (x.length=32)) (HK:Hid (K.length=32)) (HLS:Hid (48≤ls)) (hls:ls≤400) (HCS:Hid (48≤cs)) (hF:Nums w .u8 (some ⟨gb,ob,none⟩) fi) (hX:Nums w .u8 (some ⟨gb,ob+32,none⟩) s2) (HP:Hid (CallsTo 17 #[.agg (ints .u8 sk).toArray] (.agg (ints .u8 re).toArray))) (HM:Hid (CallsTo 19 #[.agg (ints .u8 sk).toArray,.agg (ints .u8 fi).toArray] (.agg (ints .u8 x).toArray))) (HKY:Hid (∀w,Calls Tryz.prog 18 #[.agg (ints .u8 x).toArray,.agg (ints .u8 fi).toArray,.agg (ints .u8 re).toArray] w fun e w'=>e=.returned (.tuple #[.agg (ints .u8 K).toArray,.bool false])∧Below w.heap.size w w')):Calls Tryz.prog 11 #[.agg (ints .u8 sk).toArray,.slice (some ⟨gb,ob,none⟩) ls cs] w fun e w'=>e=.returned (.tuple #[.slice none 0 0,.int .i64 21])∧Below w.heap.size w w':=by
 obtain ⟨z32,s32⟩:=zero_of_info infS32
 have h2:=((Arr.made w .u8 sk 22).alloc (.cells (ints .u8 (hzeros 32)).toArray 22)).rw
 have h6:=(Arr.made (w.alloc (.cells (ints .u8 sk).toArray 22)) .u8 (hzeros 32) 22).rw
 have hW:=((below_new w (.cells (ints .u8 sk).toArray 22)).alloc (by simp) (.cells (ints .u8 (hzeros 32)).toArray 22))
 simp only [World.size_alloc] at h6
 have g2:¬(ls:Int)<48:=by have:=HLS.out;omega
 have g3:(32:Int)≤ls:=by omega
 have h60:=(Arr.made (w.alloc (.cells (ints .u8 sk).toArray 22)) .u8 (hzeros 32) 22)
 rw [World.size_alloc] at h60
 have e0:Hid (hzeros 32=fillK fi 0):=hid (by rw [fillK_zero,HF.out];rfl)
 rw [show ((w.alloc (.cells (ints .u8 sk).toArray 22)).alloc (.cells (ints .u8 (hzeros 32)).toArray 22))=((w.alloc (.cells (ints .u8 sk).toArray 22)).alloc (.cells (ints .u8 (hzeros 32)).toArray 22)) from rfl] at h60
 go_enter Tryz.func11,Tryz.ntmps11
 go_upto_region 4 with (fail)
 generalize ((w.alloc (.cells (ints .u8 sk).toArray 22)).alloc (.cells (ints .u8 (hzeros 32)).toArray 22))=wz at *
 have h61:Arr wz (w.heap.size+1) 0 .u8 (fillK fi 0):=by rw [←e0.out];exact h60
 clear h6 h60 e0 hls
 go_upto_region 5 with (fail)
 go_loopw [7] (fun i wr=>∃k:Nat,k≤32∧i=.int .i64 k∧Below w.heap.size w wr∧Rw wr w.heap.size 0 (ints .u8 sk)∧Arr wr (w.heap.size+1) 0 .u8 (fillK fi k)) (fun i _=>32 - (intOf i).toNat)
 case atStart=>exact ⟨0,Nat.zero_le _,rfl,hW,h2,h61⟩
 case round =>
 clear hW h2 h61
 obtain ⟨k,hk,rfl,hW,h2,h6⟩:=hrel
 by_cases hlt:k<32
 ·obtain ⟨_,_,v,e',_,hc,HV⟩:=(hF.below hW).get (i:=k) (by rw [HF.out];exact hlt)
  injection e' with e'
  injection e' with e1 e2
  subst e1 e2
  obtain ⟨y,hy,hyf,_⟩:=h6.spot (i:=k) (by rw [fillK_length,HF.out];exact hlt)
  rw [Nat.zero_add] at hy hyf
  have HX1:=hid (fillK_set fi HV.out)
  have k0:(0:Int)≤k:=by omega
  have k1:(k:Int)<32:=by omega
  have k2:(k:Int)<ls:=by omega
  go_wp2
  go_roundw
  case rel =>
   have h:=h6.set k v
   rw [HX1.out,Nat.zero_add] at h
   exact ⟨k+1,by omega,by go_num,hW.setCell (by show w.heap.size≤w.heap.size+1;omega) _,h2.same (Below.heap_setCell _ _ _ _ (by show w.heap.size≠w.heap.size+1;omega)),h⟩
  case measure=>simp [intOf];omega
 have e:k=32:=by omega
 subst e
 have he:fillK fi 32=fi:=by have h:=fillK_end fi;rw [HF.out] at h;exact h
 rw [he] at h6
 replace h6:=h6.rw
 replace hX:=hX.below hW
 clear he hlt hk hF
 rename World=>w0
 go_upto_region 8 with (fail)
 have s0:=hW.size
 refine region_early 11 43 (fun i=>i==10) [Is (.agg (ints .u8 sk).toArray),Is (.agg (ints .u8 fi).toArray),Is (.agg (ints .u8 x).toArray),Is (.agg (ints .u8 fi).toArray),Is (.agg (ints .u8 sk).toArray),Is (.agg (ints .u8 re).toArray),Is (.tuple #[(.agg (ints .u8 K).toArray),(.bool false)]),Is (.tuple #[(.agg (ints .u8 K).toArray),(.bool false)]),Is (.agg (ints .u8 K).toArray),Is (.bool false),IsZV w0.heap.size (ints .u8 (hzeros 32))] [25,26,27,28,29,30,31,24,32,33,8] (by kernel_rfl) (by kernel_rfl) (by kernel_rfl) (Nat.le_of_eq rfl) (gC (gC (gC (gC (gC (gC (gC (gC (gC (gC (grows_cons (IsZV.grows _ _) grows_nil)))))))))))
  ⟨step_ldV rfl (.inl rfl) (fun _ hw=>(h2.next hw).range) rfl Tryz.underlying22 rfl (szV infS32 (il H1.out)) rfl (kO 2 rfl),
   step_ldV rfl (.inl rfl) (fun _ hw=>(h6.next hw).range) rfl Tryz.underlying22 rfl (szV infS32 (il HF.out)) rfl (kO 6 rfl),
   step_to rfl (.inl rfl) rfl cxRMul HM.out rfl (two_args (kI 0 25 rfl rfl) (kI 1 26 rfl rfl)),
   step_ldV rfl (.inl rfl) (fun _ hw=>(h6.next hw).range) rfl Tryz.underlying22 rfl (szV infS32 (il HF.out)) rfl (kO 6 rfl),
   step_ldV rfl (.inl rfl) (fun _ hw=>(h2.next hw).range) rfl Tryz.underlying22 rfl (szV infS32 (il H1.out)) rfl (kO 2 rfl),
   step_to rfl (.inl rfl) rfl cxRPub HP.out rfl (one_arg (kI 4 29 rfl rfl)),
   step_cw rfl (.inl rfl) rfl cxRKyB rfl (fun aa ww hw hf hd=>⟨_,(three_args (kI 2 27 rfl rfl) (kI 3 28 rfl rfl) (kI 5 30 rfl rfl)) aa ww hw hf hd,HKY.out ww⟩),
   step_mvP rfl (.inl rfl) rfl rfl (kI 6 31 rfl rfl),
   step_fstZ rfl (.inl rfl) rfl rfl (kI 7 24 rfl rfl),
   step_sndZ rfl (.inl rfl) rfl rfl (kI 7 24 rfl rfl),
   step_allocV (.inl rfl) infS32 rfl rfl,trivial⟩
  22 8 32 (ints .u8 K).toArray _ rfl rfl rfl rfl 10 8 (by decide) (by decide) rfl rfl (by kernel_rfl) (by kernel_rfl) (fun v w ⟨b,h1,h2,h3⟩=>⟨b,h1,h2,h3.roomA (us:=ints .u8 K) ((il HK.out).trans (il (hz_len 32)).symm)⟩) (fun v w h=>h) (szA infS32 (il HK.out)) (ints_all _ _)
  (fun i o hi ho hf=>by
    have hc:i=0∨i=1∨i=2∨i=3∨i=4∨i=5∨i=6∨i=7∨i=8∨i=9∨i=10:=by omega
    rcases hc with e|e|e|e|e|e|e|e|e|e|e <;> subst e
    ·exact (no_wait hf (by kernel_rfl)).elim
    ·exact (no_wait hf (by kernel_rfl)).elim
    ·exact (no_wait hf (by kernel_rfl)).elim
    ·exact (no_wait hf (by kernel_rfl)).elim
    ·exact (no_wait hf (by kernel_rfl)).elim
    ·exact (no_wait hf (by kernel_rfl)).elim
    ·exact (no_wait hf (by kernel_rfl)).elim
    ·exact (no_wait hf (by kernel_rfl)).elim
    ·exact (no_wait hf (by kernel_rfl)).elim
    ·injection ho with ho;subst ho
     exact ⟨rfl,free_sndB rfl rfl rfl (kI 7 24 rfl rfl)⟩
    ·exact (no_wait hf (by kernel_rfl)).elim)
  (fun i j hi hj hf hw v w w' h=>by
    have hc:i=0∨i=1∨i=2∨i=3∨i=4∨i=5∨i=6∨i=7∨i=8∨i=9∨i=10:=by omega
    have hd:j=0∨j=1∨j=2∨j=3∨j=4∨j=5∨j=6∨j=7∨j=8∨j=9∨j=10:=by omega
    rcases hc with e|e|e|e|e|e|e|e|e|e|e <;> subst e
    ·exact (no_wait hf (by kernel_rfl)).elim
    ·exact (no_wait hf (by kernel_rfl)).elim
    ·exact (no_wait hf (by kernel_rfl)).elim
    ·exact (no_wait hf (by kernel_rfl)).elim
    ·exact (no_wait hf (by kernel_rfl)).elim
    ·exact (no_wait hf (by kernel_rfl)).elim
    ·exact (no_wait hf (by kernel_rfl)).elim
    ·exact (no_wait hf (by kernel_rfl)).elim
    ·exact (no_wait hf (by kernel_rfl)).elim
    ·rcases hd with e|e|e|e|e|e|e|e|e|e|e <;> subst e
     ·exact (no_wait2 hw (by kernel_rfl)).elim
     ·exact (no_wait2 hw (by kernel_rfl)).elim
     ·exact (no_wait2 hw (by kernel_rfl)).elim
     ·exact (no_wait2 hw (by kernel_rfl)).elim
     ·exact (no_wait2 hw (by kernel_rfl)).elim
     ·exact (no_wait2 hw (by kernel_rfl)).elim
     ·exact (no_wait2 hw (by kernel_rfl)).elim
     ·exact h
     ·exact (no_wait2 hw (by kernel_rfl)).elim
     ·exact (no_wait2 hw (by kernel_rfl)).elim
     ·exact (no_wait2 hw (by kernel_rfl)).elim
    ·exact (no_wait hf (by kernel_rfl)).elim) ?_
 intro val w1 bq hw hS hap hla hbq
 obtain ⟨b8,e8,L8,Z8⟩:=hS 10 8 (by decide) rfl
 have eb:b8=bq:=by
  rw [e8] at hbq
  injection hbq with h
  injection h with h
  injection h
 subst eb
 clear hbq
 simp only [pA,pB,pC,pD,pE,Act.put,pG,pH,pI,eVal hS 0 25 rfl rfl,eVal hS 1 26 rfl rfl,eVal hS 2 27 rfl rfl,eVal hS 3 28 rfl rfl,eVal hS 4 29 rfl rfl,eVal hS 5 30 rfl rfl,eVal hS 6 31 rfl rfl,eVal hS 7 24 rfl rfl,eVal hS 8 32 rfl rfl,eVal hS 9 33 rfl rfl,e8]
 clear hS hap hla e8
 have LL8:=hid (show ((ints .u8 K)).length=32 from (il HK.out))
 have R8:=Z8.roomA (us:=(ints .u8 K)) (LL8.out.trans (zvH .u8 32).symm)
 have h8:=Z8.storedA (us:=(ints .u8 K)) (LL8.out.trans (zvH .u8 32).symm)
 have hu:=Below.setCells hw L8 0 (ints .u8 K).toArray.toList
 replace h2:=h2.next hu
 replace h6:=h6.next hu
 replace hX:=hX.below hu
 replace hW:=bT hW hu
 clear hu
 generalize (w1.setCells b8 0 (ints .u8 K).toArray.toList)=w2 at *
 clear hw R8 LL8 Z8 L8
 go_wp2_with (fail)
 go_ret2
 exact ⟨rfl,hW⟩
theorem runwrap_yes (xx:List Int) (m:Nat) (E:Int) (sk fi s2 re x K:List Int) (gb ob ls cs:Nat) (w:World) (H1:Hid (sk.length=32)) (HF:Hid (fi.length=32)) (H3:Hid (re.length=32)) (HX:Hid (x.length=32)) (HK:Hid (K.length=32)) (HLS:Hid (48≤ls)) (hls:ls≤400) (HCS:Hid (48≤cs)) (hF:Nums w .u8 (some ⟨gb,ob,none⟩) fi) (hX:Nums w .u8 (some ⟨gb,ob+32,none⟩) s2) (HP:Hid (CallsTo 17 #[.agg (ints .u8 sk).toArray] (.agg (ints .u8 re).toArray))) (HM:Hid (CallsTo 19 #[.agg (ints .u8 sk).toArray,.agg (ints .u8 fi).toArray] (.agg (ints .u8 x).toArray))) (HKY:Hid (∀w,Calls Tryz.prog 18 #[.agg (ints .u8 x).toArray,.agg (ints .u8 fi).toArray,.agg (ints .u8 re).toArray] w fun e w'=>e=.returned (.tuple #[.agg (ints .u8 K).toArray,.bool true])∧Below w.heap.size w w'))
 (HO:Hid (∀w,Nums w .u8 (some ⟨gb,ob+32,none⟩) s2→Calls Tryz.prog 23 #[.agg (ints .u8 K).toArray,.agg (ints .u8 (zeros 12)).toArray,.slice none 0 0,.slice (some ⟨gb,ob+32,none⟩) (ls - 32) (cs - 32)] w fun e w'=>∃v,e=.returned v∧IsTupE m E xx v w'∧Below w.heap.size w w')) :
 Calls Tryz.prog 11 #[.agg (ints .u8 sk).toArray,.slice (some ⟨gb,ob,none⟩) ls cs] w fun e w'=>∃v,e=.returned v∧IsTupE m E xx v w'∧Below w.heap.size w w':=by
 obtain ⟨z32,s32⟩:=zero_of_info infS32
 have h2:=((Arr.made w .u8 sk 22).alloc (.cells (ints .u8 (hzeros 32)).toArray 22)).rw
 have h6:=(Arr.made (w.alloc (.cells (ints .u8 sk).toArray 22)) .u8 (hzeros 32) 22).rw
 have hW:=((below_new w (.cells (ints .u8 sk).toArray 22)).alloc (by simp) (.cells (ints .u8 (hzeros 32)).toArray 22))
 simp only [World.size_alloc] at h6
 have g2:¬(ls:Int)<48:=by have:=HLS.out;omega
 have g3:(32:Int)≤ls:=by omega
 have h60:=(Arr.made (w.alloc (.cells (ints .u8 sk).toArray 22)) .u8 (hzeros 32) 22)
 rw [World.size_alloc] at h60
 have e0:Hid (hzeros 32=fillK fi 0):=hid (by rw [fillK_zero,HF.out];rfl)
 rw [show ((w.alloc (.cells (ints .u8 sk).toArray 22)).alloc (.cells (ints .u8 (hzeros 32)).toArray 22))=((w.alloc (.cells (ints .u8 sk).toArray 22)).alloc (.cells (ints .u8 (hzeros 32)).toArray 22)) from rfl] at h60
 go_enter Tryz.func11,Tryz.ntmps11
 go_upto_region 4 with (fail)
 generalize ((w.alloc (.cells (ints .u8 sk).toArray 22)).alloc (.cells (ints .u8 (hzeros 32)).toArray 22))=wz at *
 have h61:Arr wz (w.heap.size+1) 0 .u8 (fillK fi 0):=by rw [←e0.out];exact h60
 clear h6 h60 e0 hls
 go_upto_region 5 with (fail)
 go_loopw [7] (fun i wr=>∃k:Nat,k≤32∧i=.int .i64 k∧Below w.heap.size w wr∧Rw wr w.heap.size 0 (ints .u8 sk)∧Arr wr (w.heap.size+1) 0 .u8 (fillK fi k)) (fun i _=>32 - (intOf i).toNat)
 case atStart=>exact ⟨0,Nat.zero_le _,rfl,hW,h2,h61⟩
 case round =>
 clear hW h2 h61
 obtain ⟨k,hk,rfl,hW,h2,h6⟩:=hrel
 by_cases hlt:k<32
 ·obtain ⟨_,_,v,e',_,hc,HV⟩:=(hF.below hW).get (i:=k) (by rw [HF.out];exact hlt)
  injection e' with e'
  injection e' with e1 e2
  subst e1 e2
  obtain ⟨y,hy,hyf,_⟩:=h6.spot (i:=k) (by rw [fillK_length,HF.out];exact hlt)
  rw [Nat.zero_add] at hy hyf
  have HX1:=hid (fillK_set fi HV.out)
  have k0:(0:Int)≤k:=by omega
  have k1:(k:Int)<32:=by omega
  have k2:(k:Int)<ls:=by omega
  go_wp2
  go_roundw
  case rel =>
   have h:=h6.set k v
   rw [HX1.out,Nat.zero_add] at h
   exact ⟨k+1,by omega,by go_num,hW.setCell (by show w.heap.size≤w.heap.size+1;omega) _,h2.same (Below.heap_setCell _ _ _ _ (by show w.heap.size≠w.heap.size+1;omega)),h⟩
  case measure=>simp [intOf];omega
 have e:k=32:=by omega
 subst e
 have he:fillK fi 32=fi:=by have h:=fillK_end fi;rw [HF.out] at h;exact h
 rw [he] at h6
 replace h6:=h6.rw
 replace hX:=hX.below hW
 clear he hlt hk hF
 rename World=>w0
 go_upto_region 8 with (fail)
 have s0:=hW.size
 refine region_early 11 43 (fun i=>i==10) [Is (.agg (ints .u8 sk).toArray),Is (.agg (ints .u8 fi).toArray),Is (.agg (ints .u8 x).toArray),Is (.agg (ints .u8 fi).toArray),Is (.agg (ints .u8 sk).toArray),Is (.agg (ints .u8 re).toArray),Is (.tuple #[(.agg (ints .u8 K).toArray),(.bool true)]),Is (.tuple #[(.agg (ints .u8 K).toArray),(.bool true)]),Is (.agg (ints .u8 K).toArray),Is (.bool true),IsZV w0.heap.size (ints .u8 (hzeros 32))] [25,26,27,28,29,30,31,24,32,33,8] (by kernel_rfl) (by kernel_rfl) (by kernel_rfl) (Nat.le_of_eq rfl) (gC (gC (gC (gC (gC (gC (gC (gC (gC (gC (grows_cons (IsZV.grows _ _) grows_nil)))))))))))
  ⟨step_ldV rfl (.inl rfl) (fun _ hw=>(h2.next hw).range) rfl Tryz.underlying22 rfl (szV infS32 (il H1.out)) rfl (kO 2 rfl),
   step_ldV rfl (.inl rfl) (fun _ hw=>(h6.next hw).range) rfl Tryz.underlying22 rfl (szV infS32 (il HF.out)) rfl (kO 6 rfl),
   step_to rfl (.inl rfl) rfl cxRMul HM.out rfl (two_args (kI 0 25 rfl rfl) (kI 1 26 rfl rfl)),
   step_ldV rfl (.inl rfl) (fun _ hw=>(h6.next hw).range) rfl Tryz.underlying22 rfl (szV infS32 (il HF.out)) rfl (kO 6 rfl),
   step_ldV rfl (.inl rfl) (fun _ hw=>(h2.next hw).range) rfl Tryz.underlying22 rfl (szV infS32 (il H1.out)) rfl (kO 2 rfl),
   step_to rfl (.inl rfl) rfl cxRPub HP.out rfl (one_arg (kI 4 29 rfl rfl)),
   step_cw rfl (.inl rfl) rfl cxRKyB rfl (fun aa ww hw hf hd=>⟨_,(three_args (kI 2 27 rfl rfl) (kI 3 28 rfl rfl) (kI 5 30 rfl rfl)) aa ww hw hf hd,HKY.out ww⟩),
   step_mvP rfl (.inl rfl) rfl rfl (kI 6 31 rfl rfl),
   step_fstZ rfl (.inl rfl) rfl rfl (kI 7 24 rfl rfl),
   step_sndZ rfl (.inl rfl) rfl rfl (kI 7 24 rfl rfl),
   step_allocV (.inl rfl) infS32 rfl rfl,trivial⟩
  22 8 32 (ints .u8 K).toArray _ rfl rfl rfl rfl 10 8 (by decide) (by decide) rfl rfl (by kernel_rfl) (by kernel_rfl) (fun v w ⟨b,h1,h2,h3⟩=>⟨b,h1,h2,h3.roomA (us:=ints .u8 K) ((il HK.out).trans (il (hz_len 32)).symm)⟩) (fun v w h=>h) (szA infS32 (il HK.out)) (ints_all _ _)
  (fun i o hi ho hf=>by
    have hc:i=0∨i=1∨i=2∨i=3∨i=4∨i=5∨i=6∨i=7∨i=8∨i=9∨i=10:=by omega
    rcases hc with e|e|e|e|e|e|e|e|e|e|e <;> subst e
    ·exact (no_wait hf (by kernel_rfl)).elim
    ·exact (no_wait hf (by kernel_rfl)).elim
    ·exact (no_wait hf (by kernel_rfl)).elim
    ·exact (no_wait hf (by kernel_rfl)).elim
    ·exact (no_wait hf (by kernel_rfl)).elim
    ·exact (no_wait hf (by kernel_rfl)).elim
    ·exact (no_wait hf (by kernel_rfl)).elim
    ·exact (no_wait hf (by kernel_rfl)).elim
    ·exact (no_wait hf (by kernel_rfl)).elim
    ·injection ho with ho;subst ho
     exact ⟨rfl,free_sndB rfl rfl rfl (kI 7 24 rfl rfl)⟩
    ·exact (no_wait hf (by kernel_rfl)).elim)
  (fun i j hi hj hf hw v w w' h=>by
    have hc:i=0∨i=1∨i=2∨i=3∨i=4∨i=5∨i=6∨i=7∨i=8∨i=9∨i=10:=by omega
    have hd:j=0∨j=1∨j=2∨j=3∨j=4∨j=5∨j=6∨j=7∨j=8∨j=9∨j=10:=by omega
    rcases hc with e|e|e|e|e|e|e|e|e|e|e <;> subst e
    ·exact (no_wait hf (by kernel_rfl)).elim
    ·exact (no_wait hf (by kernel_rfl)).elim
    ·exact (no_wait hf (by kernel_rfl)).elim
    ·exact (no_wait hf (by kernel_rfl)).elim
    ·exact (no_wait hf (by kernel_rfl)).elim
    ·exact (no_wait hf (by kernel_rfl)).elim
    ·exact (no_wait hf (by kernel_rfl)).elim
    ·exact (no_wait hf (by kernel_rfl)).elim
    ·exact (no_wait hf (by kernel_rfl)).elim
    ·rcases hd with e|e|e|e|e|e|e|e|e|e|e <;> subst e
     ·exact (no_wait2 hw (by kernel_rfl)).elim
     ·exact (no_wait2 hw (by kernel_rfl)).elim
     ·exact (no_wait2 hw (by kernel_rfl)).elim
     ·exact (no_wait2 hw (by kernel_rfl)).elim
     ·exact (no_wait2 hw (by kernel_rfl)).elim
     ·exact (no_wait2 hw (by kernel_rfl)).elim
     ·exact (no_wait2 hw (by kernel_rfl)).elim
     ·exact h
     ·exact (no_wait2 hw (by kernel_rfl)).elim
     ·exact (no_wait2 hw (by kernel_rfl)).elim
     ·exact (no_wait2 hw (by kernel_rfl)).elim
    ·exact (no_wait hf (by kernel_rfl)).elim) ?_
 intro val w1 bq hw hS hap hla hbq
 obtain ⟨b8,e8,L8,Z8⟩:=hS 10 8 (by decide) rfl
 have eb:b8=bq:=by
  rw [e8] at hbq
  injection hbq with h
  injection h with h
  injection h
 subst eb
 clear hbq
 simp only [pA,pB,pC,pD,pE,Act.put,pG,pH,pI,eVal hS 0 25 rfl rfl,eVal hS 1 26 rfl rfl,eVal hS 2 27 rfl rfl,eVal hS 3 28 rfl rfl,eVal hS 4 29 rfl rfl,eVal hS 5 30 rfl rfl,eVal hS 6 31 rfl rfl,eVal hS 7 24 rfl rfl,eVal hS 8 32 rfl rfl,eVal hS 9 33 rfl rfl,e8]
 clear hS hap hla e8
 have LL8:=hid (show ((ints .u8 K)).length=32 from (il HK.out))
 have R8:=Z8.roomA (us:=(ints .u8 K)) (LL8.out.trans (zvH .u8 32).symm)
 have h8:=Z8.storedA (us:=(ints .u8 K)) (LL8.out.trans (zvH .u8 32).symm)
 have hu:=Below.setCells hw L8 0 (ints .u8 K).toArray.toList
 replace h2:=h2.next hu
 replace h6:=h6.next hu
 replace hX:=hX.below hu
 replace hW:=bT hW hu
 clear hu
 generalize (w1.setCells b8 0 (ints .u8 K).toArray.toList)=w2 at *
 clear hw R8 LL8 Z8 L8
 go_upto_region 11 with (fail)
 have s2:=hW.size
 refine rSeq 1 43 (fun i=>i==0) [IsZV w2.heap.size (ints .u8 (zeros 12))] [10] (grows_cons (IsZV.grows _ _) grows_nil)
  ⟨step_allocV (.inl rfl) inf12B rfl rfl,trivial⟩ ?_
 intro val w3 hw hS hap hla
 obtain ⟨b10,e10,L10,Z10⟩:=hS 0 10 (by decide) rfl
 simp only [pA,pB,pC,pD,pE,Act.put,pG,pH,pI,e10]
 clear hS hap hla e10
 replace h2:=h2.next hw
 replace h6:=h6.next hw
 replace hX:=hX.below hw
 replace h8:=h8.next hw
 replace hW:=bT hW hw
 clear hw
 go_upto_region 12 with (fail)
 have s3:=hW.size
 refine rSpec 8 43 (fun _=>false) [Is (.agg (ints .u8 K).toArray),Is (.agg (ints .u8 (zeros 12)).toArray),Is (.slice (some ⟨gb,ob,none⟩) ls cs),Is (.slice (some ⟨gb,ob+32,none⟩) (ls - 32) (cs - 32)),IsTupE m E xx,IsRw .u8 m xx,Is (.int .i64 E),IsRw .u8 m xx] [36,37,38,39,40,41,42,4] (gC (gC (gC (gC (grows_cons (IsTupE.grows _ _ _) (grows_cons (IsRw.grows _ _ _) (gC (grows_cons (IsRw.grows _ _ _) grows_nil))))))))
  ⟨step_ldV rfl (.inl rfl) (fun _ hw=>(h8.next hw).range) rfl Tryz.underlying22 rfl (szV infS32 (il HK.out)) rfl (kO 8 rfl),
   step_ldV rfl (.inl rfl) (fun _ hw=>(Z10.next hw).range) rfl Tryz.underlying40 rfl (szV inf12B (zv .u8 12)) rfl (kO 10 rfl),
   step_mvP rfl (.inl rfl) rfl rfl (kO 1 rfl),
   step_one rfl (.inl rfl) (fun ev w h hc=>ex_slSl (P:=Tryz.prog) uaVs zeVs (l:=32) (by have:=HLS.out;omega) (by have:=HCS.out;omega) rfl rfl rfl rfl ev w h hc) rfl (kI 2 38 rfl rfl),
   step_callR rfl (.inl rfl) rfl cxROpe rfl (fun aa ww hw hf hd=>⟨_,(four_args (kI 0 36 rfl rfl) (kI 1 37 rfl rfl) (knows_const _) (kI 3 39 rfl rfl)) aa ww hw hf hd,HO.out ww (hX.below hw)⟩),
   tupE_fst rfl (.inl rfl) rfl rfl (knowsW_in 4 40 (by decide) (by kernel_rfl) rfl rfl),
   tupE_snd rfl (.inl rfl) rfl rfl (knowsW_in 4 40 (by decide) (by kernel_rfl) rfl rfl),
   step_copyW rfl (.inl rfl) 5 41 (.inr rfl) rfl (by decide) (by kernel_rfl) rfl rfl,trivial⟩ ?_
 intro val w4 hw hS hap hla
 have e36:=eVal hS 0 36 rfl rfl
 have e37:=eVal hS 1 37 rfl rfl
 have e38:=eVal hS 2 38 rfl rfl
 have e39:=eVal hS 3 39 rfl rfl
 have e42:=eVal hS 6 42 rfl rfl
 obtain ⟨B4,c4,e4,N4⟩:=hS 7 4 (by decide) rfl
 simp only [pA,pB,pC,pD,pE,Act.put,pG,pH,pI,e36,e37,e38,e39,e42,e4]
 generalize val 40=g40
 generalize val 41=g41
 clear hS hap hla e36 e37 e38 e39 e42 e4
 replace h2:=h2.next hw
 replace h6:=h6.next hw
 replace hX:=hX.below hw
 replace h8:=h8.next hw
 replace Z10:=Z10.next hw
 replace hW:=bT hW hw
 clear hw
 go_wp2_with (fail)
 go_ret2
 exact ⟨_,rfl,⟨B4,c4,rfl,N4⟩,hW⟩
end
section
variable {P:Program} {ops:Array Oper} {md:Region.Mode} {W:World} {a0:Act} {n:Nat} {al:Nat→Bool} {S:Nat→Value→World→Prop} {Q:Exit→Act→World→Prop}
set_option maxRecDepth 50000 in
theorem op_storeS {i:Nat} {o:Oper} {K:Act→World→Prop} {a:Act} {w:World} (ho:ops[i]? = some o) (hg:o.guard=none) (ty:TypeId) (x y:Operand) (hop:o.op=.store ty x y) (b:Nat) (cells:Array Value) (hx:a.eval x=.pointer (some ⟨b,0,none⟩)) (hy:a.eval y=.agg cells)
 (ht:w.there b 0 cells.size) (hi:(P.info? ty).map (·.size)=some cells.size) (h1:cells.all (·.oneCell')=true) (h:K (a.put o.dst undef) (w.setCells b 0 cells.toList)):wpOp P ops Q i K a w:=by
 unfold wpOp
 simp only [ho]
 rw [if_pos (by simp [Region.wanted,hg])]
 exact .inl (wp_store_mid ty x y hop b 0 cells hx hy ht hi h1 h)
end
section
set_option maxRecDepth 50000
section
variable {P:Program} {ops:Array Oper} {md:Region.Mode} {Q:Exit→Act→World→Prop}
theorem any_one {f i:Nat} {listed:Array Bool} {a:Act} {w:World} (hr:Region.ready md ops listed=[i]) (h:wpOp P ops Q i (wpAny P md ops Q f (listed.setIfInBounds i true)) a w):wpAny P md ops Q (f+1) listed a w :=
 ⟨fun h0=>(by rw [hr] at h0;cases h0),fun j hj=>by
   rw [hr] at hj
   have:j=i:=by simpa using hj
   subst this;exact h⟩
theorem any_two {f i k:Nat} {listed:Array Bool} {a:Act} {w:World} (hr:Region.ready md ops listed=[i,k]) (h:wpOp P ops Q i (wpAny P md ops Q f (listed.setIfInBounds i true)) a w) (h2:wpOp P ops Q k (wpAny P md ops Q f (listed.setIfInBounds k true)) a w):wpAny P md ops Q (f+1) listed a w :=
 ⟨fun h0=>(by rw [hr] at h0;cases h0),fun j hj=>by
   rw [hr] at hj
   have:j=i∨j=k:=by simpa using hj
   rcases this with e|e
   ·subst e;exact h
   ·subst e;exact h2⟩
theorem any_done {listed:Array Bool} {a:Act} {w:World} (hr:Region.ready md ops listed=[]) (h:Q .normal a w):wpAny P md ops Q 0 listed a w:=⟨hr,h⟩
theorem op_wp {i:Nat} {o:Oper} {K:Act→World→Prop} {a:Act} {w:World} (ho:ops[i]? = some o) (hg:o.guard=none) (h:o.wp P a w K Q):wpOp P ops Q i K a w:=by
 unfold wpOp
 simp only [ho]
 rw [if_pos (by simp [Region.wanted,hg])]
 exact .inl h
theorem op_call {i:Nat} {o:Oper} {K:Act→World→Prop} {a:Act} {w:World} (ho:ops[i]? = some o) (hg:o.guard=none) (f:FuncId) (vs:Array Value) (hr:(execOp a.eval o).run P w=.ok (.enter f vs) w) (h:Calls P f vs w fun e w'=>∃v,e=.returned v∧K (a.put o.dst v) w'):wpOp P ops Q i K a w:=by
 refine op_wp ho hg ?_
 unfold Oper.wp
 rw [hr,Oper.upon_enter]
 refine h.mono fun e w' ⟨v,he,hk⟩=>?_
 subst he
 exact hk
theorem op_call2 {i:Nat} {o:Oper} {K:Act→World→Prop} {a:Act} {w:World} (ho:ops[i]? = some o) (hg:o.guard=none) (f:FuncId) {x y:Operand} {u v:Value} {ts:Array TypeId} (hop:o.op=.call { callee:=.value (.func f),args:=#[x,y],argTypes:=ts }) (hcf:∀vs w,(callFunc f vs).run P w=.ok (.enter f vs) w)
 (hx:a.eval x=u) (hy:a.eval y=v) (h:Calls P f #[u,v] w fun e w'=>∃v,e=.returned v∧K (a.put o.dst v) w'):wpOp P ops Q i K a w :=
 op_call ho hg f #[u,v] (ex_fnP rfl hcf hop _ (by rw [map2,hx,hy]) w) h
end
end
end Go.Proofs.YtkblmdakejmmhaaGreatDoor
