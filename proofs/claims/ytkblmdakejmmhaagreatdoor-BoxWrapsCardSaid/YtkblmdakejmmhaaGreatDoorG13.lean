import Derived.Test.YtkblmdakejmmhaaGreatDoorG12
namespace Go.Proofs.YtkblmdakejmmhaaGreatDoor
open Go Go.RowKit
section
set_option maxRecDepth 50000
theorem no_wait {ops:Array Oper} {n j:Nat} (h:Region.waitsFor .any ops n j=false) (k:Region.waitsFor .any ops n j=true):False:=by rw [h] at k;cases k
theorem no_wait2 {ops:Array Oper} {n j:Nat} (k:Region.waitsFor .any ops n j=true) (h:Region.waitsFor .any ops n j=false):False:=by rw [h] at k;cases k
theorem cf9c (vs:Array Value) (w:World):(callFunc 46 vs).run Tryz.prog w=.ok (.enter 46 vs) w:=by go_simp
set_option maxHeartbeats 4000000 in
theorem lmul_core {sb pb cb uu m:List Int} {u:Nat} (lsb:sb.length=32) (lpb:pb.length=32) (lcb:cb.length=32) (hcb:Hid (Byt cb)) (kclamp:CallsTo 46 #[.agg (ints .u8 sb).toArray] (.agg (ints .u8 cb).toArray)) (kof:CallsTo 47 #[.agg (ints .u8 pb).toArray] (.agg (ints .i64 uu).toArray)) (huu:Nm uu u) (hm:Hid (rbytes (outN (ladN u cb 255))=m)) :
 CallsTo 24 #[.agg (ints .u8 sb).toArray,.agg (ints .u8 pb).toArray] (.agg (ints .u8 m).toArray):=fun W=>by
 obtain ⟨one,kone,hone⟩:∃v,CallsTo 48 #[.int .i64 1] (.agg (ints .i64 v).toArray)∧Nm v 1:=⟨_,c_small 1,Nm.small 1 (by omega)⟩
 obtain ⟨z22,s22⟩:=zero_of_info inf22
 have hS2:=((By.new W sb lsb).next (below_new _ (.cells (ints .u8 pb).toArray 22))).next (below_new _ (.cells (ints .u8 (zeros 32)).toArray 22))
 have hS3:=(By.new (W.alloc (.cells (ints .u8 sb).toArray 22)) pb lpb).next (below_new _ (.cells (ints .u8 (zeros 32)).toArray 22))
 have h4:=By.new ((W.alloc (.cells (ints .u8 sb).toArray 22)).alloc (.cells (ints .u8 pb).toArray 22)) (zeros 32) (zeros_len 32)
 have hW:=((below_new W (.cells (ints .u8 sb).toArray 22)).alloc (by simp) (.cells (ints .u8 pb).toArray 22)).alloc (by simp;omega) (.cells (ints .u8 (zeros 32)).toArray 22)
 simp only [World.size_alloc] at hS3 h4
 go_enter Tryz.func24,Tryz.ntmps24
 go_wp2_with (fail)
 generalize ((W.alloc (.cells (ints .u8 sb).toArray 22)).alloc (.cells (ints .u8 pb).toArray 22)).alloc (.cells (ints .u8 (zeros 32)).toArray 22)=w0 at *
 have s0:=hW.size
 refine rSpec 6 65 (fun i=>i==4||i==5) [Is (.agg (ints .u8 sb).toArray),Is (.agg (ints .u8 cb).toArray),Is (.agg (ints .u8 pb).toArray),IsL uu,IsZ22 w0.heap.size,IsZ w0.heap.size] [12,13,14,15,5,6] (gC (gC (gC (gC (grows_cons (IsZ22.grows _) (grows_cons (IsZ.grows _) grows_nil))))))
  ⟨step_by rfl (.inl rfl) hS2 2 rfl (by kernel_rfl) rfl rfl,
   step_to rfl (.inl rfl) rfl cf9c kclamp rfl (one_arg (kI 0 12 rfl rfl)),
   step_by rfl (.inl rfl) hS3 3 rfl (by kernel_rfl) rfl rfl,
   step_to rfl (.inl rfl) rfl cf9 kof rfl (one_arg (kI 2 14 rfl rfl)),
   step_alloc22 (.inl rfl) rfl rfl,
   step_alloc26 (.inl rfl) rfl rfl,trivial⟩ ?_
 intro val w1 hw hS hap hla
 obtain ⟨b5,e5,L5,Z5⟩:=hS 4 5 (by decide) rfl
 obtain ⟨b6,e6,L6,Z6⟩:=hS 5 6 (by decide) rfl
 have ne5_6:b5≠b6:=fun e=>hap 4 5 5 6 (by decide) (by decide) rfl rfl (by decide) rfl rfl (by rw [e5,e6,e])
 simp only [pA,pB,pC,pD,pE,Act.put,pG,pH,pI,eVal hS 0 12 rfl rfl,eVal hS 1 13 rfl rfl,eVal hS 2 14 rfl rfl,eVal hS 3 15 rfl rfl,e5,e6]
 clear hS hap hla e5 e6
 have LL5:=hid lcb
 have LL6:=hid huu.1.len
 have R5:=Z5.room (l':=cb) lcb
 have hB5:=Z5.stored (l':=cb) lcb
 replace Z6:=Z6.past (b':=b5) (ints .u8 cb).toArray.toList ne5_6
 have R6:=Z6.room (l':=uu) huu.1.len
 have hB6:=Z6.stored (l':=uu) huu.1.len
 replace hB5:=hB5.past (b':=b6) (ints .i64 uu).toArray.toList (Ne.symm ne5_6)
 have hu:=Below.setCells (Below.setCells hw L5 0 (ints .u8 cb).toArray.toList) L6 0 (ints .i64 uu).toArray.toList
 replace hS2:=hS2.next hu
 replace hS3:=hS3.next hu
 replace h4:=h4.next hu
 replace hW:=bT hW hu
 clear hu
 with_reducible refine wpList_store_mid (op:=⟨none,.store 22 (.tmp 5) (.tmp 13),_,_,_,_⟩) rfl 22 (.tmp 5) (.tmp 13) rfl b5 0 (ints .u8 cb).toArray rfl rfl R5 (a22 LL5.out) (ints_all _ _) ?_
 with_reducible refine wpList_store_mid (op:=⟨none,.store 70 (.tmp 6) (.tmp 15),_,_,_,_⟩) rfl 70 (.tmp 6) (.tmp 15) rfl b6 0 (ints .i64 uu).toArray rfl rfl R6 (a26 LL6.out) (ints_all _ _) ?_
 generalize ((w1.setCells b5 0 (ints .u8 cb).toArray.toList).setCells b6 0 (ints .i64 uu).toArray.toList)=w2 at *
 clear hw R5 LL5 Z5 R6 LL6 Z6
 clear hS2 hS3
 have lt5:=hB5.lt
 have lt6:=hB6.lt
 have lt4:=h4.lt
 go_wp2_with (fail)
 have s2:=hW.size
 refine region_early 7 65 (fun i=>i==5||i==6) [IsL one,IsL (one++zeros 16),IsL uu,IsL one,IsL (uu++one),IsZ2 w2.heap.size,IsZ2 w2.heap.size] [16,17,18,19,20,7,8] (by kernel_rfl) (by kernel_rfl) (by kernel_rfl) (Nat.le_of_eq rfl) (gC (gC (gC (gC (gC (grows_cons (IsZ2.grows _) (grows_cons (IsZ2.grows _) grows_nil)))))))
  ⟨step_to rfl (.inl rfl) rfl cf16 kone rfl (one_arg (knows_const _)),
   step_make1 rfl (.inl rfl) rfl hone.1.len rfl (kI 0 16 rfl rfl),
   step_el rfl (.inl rfl) hB6 6 rfl (by kernel_rfl) rfl rfl,
   step_to rfl (.inl rfl) rfl cf16 kone rfl (one_arg (knows_const _)),
   step_make rfl (.inl rfl) rfl huu.1.len hone.1.len rfl (kI 2 18 rfl rfl) (kI 3 19 rfl rfl),
   step_alloc45 (.inl rfl) rfl rfl,
   step_alloc45 (.inl rfl) rfl rfl,trivial⟩
  74 7 17 (ints .i64 (one++zeros 16)).toArray _ rfl rfl rfl rfl 5 1 (by decide) (by decide) rfl rfl (by kernel_rfl) (by kernel_rfl) (fun v w ⟨b,h1,h2,h3⟩=>⟨b,h1,h2,h3.room (len32 hone.1.len (zeros_len 16))⟩) (fun v w h=>h) (a45r (len32 hone.1.len (zeros_len 16))) (ints_all _ _)
  (fun i o hi ho hf=>by
    have hc:i=0∨i=1∨i=2∨i=3∨i=4∨i=5∨i=6:=by omega
    rcases hc with e|e|e|e|e|e|e <;> subst e
    ·exact (no_wait hf (by kernel_rfl)).elim
    ·exact (no_wait hf (by kernel_rfl)).elim
    ·injection ho with ho;subst ho
     exact ⟨rfl,free_el rfl hB6 6 rfl (by kernel_rfl) rfl rfl⟩
    ·exact (no_wait hf (by kernel_rfl)).elim
    ·injection ho with ho;subst ho
     exact ⟨rfl,free_make rfl rfl huu.1.len hone.1.len rfl (kI 2 18 rfl rfl) (kI 3 19 rfl rfl)⟩
    ·exact (no_wait hf (by kernel_rfl)).elim
    ·exact (no_wait hf (by kernel_rfl)).elim)
  (fun i j hi hj hf hw v w w' h=>by
    have hc:i=0∨i=1∨i=2∨i=3∨i=4∨i=5∨i=6:=by omega
    have hd:j=0∨j=1∨j=2∨j=3∨j=4∨j=5∨j=6:=by omega
    rcases hc with e|e|e|e|e|e|e <;> subst e
    ·exact (no_wait hf (by kernel_rfl)).elim
    ·exact (no_wait hf (by kernel_rfl)).elim
    ·rcases hd with e|e|e|e|e|e|e <;> subst e <;> exact (no_wait2 hw (by kernel_rfl)).elim
    ·exact (no_wait hf (by kernel_rfl)).elim
    ·rcases hd with e|e|e|e|e|e|e <;> subst e
     ·exact (no_wait2 hw (by kernel_rfl)).elim
     ·exact (no_wait2 hw (by kernel_rfl)).elim
     ·exact h
     ·exact h
     ·exact (no_wait2 hw (by kernel_rfl)).elim
     ·exact (no_wait2 hw (by kernel_rfl)).elim
     ·exact (no_wait2 hw (by kernel_rfl)).elim
    ·exact (no_wait hf (by kernel_rfl)).elim
    ·exact (no_wait hf (by kernel_rfl)).elim) ?_
 intro val w3 bq hw hS hap hla hbq
 have e16:=eVal hS 0 16 rfl rfl
 have e17:=eVal hS 1 17 rfl rfl
 have e18:=eVal hS 2 18 rfl rfl
 have e19:=eVal hS 3 19 rfl rfl
 have e20:=eVal hS 4 20 rfl rfl
 obtain ⟨b7,e7,L7,Z7⟩:=hS 5 7 (by decide) rfl
 obtain ⟨b8,e8,L8,Z8⟩:=hS 6 8 (by decide) rfl
 have ne7_8:b7≠b8:=fun e=>hap 5 6 7 8 (by decide) (by decide) rfl rfl (by decide) rfl rfl (by rw [e7,e8,e])
 simp only [pA,pB,pC,pD,pE,Act.put,pG,pH,pI,e16,e17,e18,e19,e20,e7,e8]
 have eb:b7=bq:=by
  rw [e7] at hbq
  injection hbq with h
  injection h with h
  injection h
 subst eb
 clear hbq
 clear hS hap hla e16 e17 e18 e19 e20 e7 e8
 have LL7:=hid (len32 hone.1.len Nm.zeros.1.len)
 have LL8:=hid (len32 huu.1.len hone.1.len)
 have R7:=Z7.room (l':=(one++zeros 16)) (len32 hone.1.len Nm.zeros.1.len)
 have hB7:=Z7.stored (l':=(one++zeros 16)) (len32 hone.1.len Nm.zeros.1.len)
 replace Z8:=Z8.past (b':=b7) (ints .i64 (one++zeros 16)).toArray.toList ne7_8
 have R8:=Z8.room (l':=(uu++one)) (len32 huu.1.len hone.1.len)
 have hB8:=Z8.stored (l':=(uu++one)) (len32 huu.1.len hone.1.len)
 replace hB7:=hB7.past (b':=b8) (ints .i64 (uu++one)).toArray.toList (Ne.symm ne7_8)
 have hu:=Below.setCells (Below.setCells hw L7 0 (ints .i64 (one++zeros 16)).toArray.toList) L8 0 (ints .i64 (uu++one)).toArray.toList
 replace h4:=h4.next hu
 replace hB5:=hB5.next hu
 replace hB6:=hB6.next hu
 replace hW:=bT hW hu
 clear hu
 with_reducible refine wpList_store_mid (op:=⟨none,.store 74 (.tmp 8) (.tmp 20),_,_,_,_⟩) rfl 74 (.tmp 8) (.tmp 20) rfl b8 0 (ints .i64 (uu++one)).toArray rfl rfl R8 (a45r LL8.out) (ints_all _ _) ?_
 generalize ((w3.setCells b7 0 (ints .i64 (one++zeros 16)).toArray.toList).setCells b8 0 (ints .i64 (uu++one)).toArray.toList)=w4 at *
 clear hw R7 LL7 Z7 R8 LL8 Z8
 have HU:=hid huu
 have HC:=hid lcb
 have HUL:=hid huu.1.len
 have HA:Hid (Pts (ladN u cb 0) false (one++zeros 16) (uu++one)):=hid ⟨_,_,_,_,rfl,rfl,hone,Nm.zeros,huu,hone⟩
 have n57:b5≠b7:=by omega
 have n58:b5≠b8:=by omega
 have n67:b6≠b7:=by omega
 have n68:b6≠b8:=by omega
 have n47:W.heap.size+1+1≠b7:=by omega
 have n48:W.heap.size+1+1≠b8:=by omega
 have w7:W.heap.size≤b7:=by omega
 have w8:W.heap.size≤b8:=by omega
 clear huu lcb lsb lpb hone lt4 lt5 lt6 L5 L6 L7 L8 ne5_6 kof kclamp kone
 generalize one++zeros 16=L0 at *
 generalize uu++one=H0 at *
 go_wp2_with (fail)
 go_loopw [9,10] (fun s i wr=>∃(k:Nat) (b:Int) (sw:Bool) (L H:List Int),k≤255∧s=.bool sw∧i=.int .i64 b∧Hid (b=254 - k)∧Hid (Pts (ladN u cb k) sw L H)∧By wr (W.heap.size+1+1) (zeros 32)∧By wr b5 cb∧Bx wr b6 uu∧B2 wr b7 L∧B2 wr b8 H∧Below W.heap.size W wr) (fun _ i _=>(intOf i+1).toNat)
 case atStart=>exact ⟨0,254,false,L0,H0,by omega,rfl,rfl,hid rfl,HA,h4,hB5,hB6,hB7,hB8,hW⟩
 case round =>
  clear h4 hB5 hB6 hB7 hB8 hW HA
  obtain ⟨k,b,sw,L,H,hk,rfl,rfl,HBK,HP,h4,hB5,hB6,hB7,hB8,hW⟩:=hrel
  rename World=>W1
  have LL:=hid hB7.2
  have LH:=hid hB8.2
  by_cases hlt:k<255
  ·obtain ⟨n,rfl⟩:∃n:Nat,b=n:=⟨(254 - k:Nat),by have:=HBK.out;omega⟩
   have HNK:Hid (254 - k=n):=hid (by have:=HBK.out;omega)
   have hn:(n:Int)≤254:=by have:=HBK.out;omega
   have n0:(0:Int)≤n:=by omega
   obtain ⟨q,hq⟩:∃q,q=n / 8:=⟨_,rfl⟩
   obtain ⟨r,hr⟩:∃r,r=n%8:=⟨_,rfl⟩
   have hqi:(n:Int) / 8=(q:Int):=by omega
   have hri:(n:Int)%8=(r:Int):=by omega
   have q0:(0:Int)≤q:=by omega
   have q32:(q:Int)<32:=by omega
   have r0:(0:Int)≤r:=by omega
   have r8:(r:Int)≤8:=by omega
   obtain ⟨x,cx,_,HXq⟩:=hB5.1.spot (i:=q) (by rw [HC.out];omega)
   rw [Nat.zero_add] at cx
   have hxb:=hcb.out.at_ HXq.out
   obtain ⟨s,hs⟩:∃s,s=x / 2^r:=⟨_,rfl⟩
   have hp2:(0:Int)<2^r:=Int.pow_pos (by omega)
   have hsb:0≤s∧s<256:=by
    have h1:=Int.ediv_nonneg hxb.1 (Int.le_of_lt hp2)
    have h2:=Int.ediv_le_self (2^r) hxb.1
    rw [hs];omega
   have hmk:=mask1_u8 s hsb
   obtain ⟨st,hst⟩:∃st:Bool,(s%2==1)=st:=⟨_,rfl⟩
   have HBIT:Hid (bitB cb (254 - k)=st):=hid (by rw [HNK.out,←hst,hs,hr];unfold bitB bitAt;rw [←hq];simp [List.getD,HXq.out])
   have hsx:x / 2^r=s:=hs.symm
   obtain ⟨PP,QQ,D,E,k24,k25,lP,lQ,lD,lE,HP2⟩:=round2 HP HU st
   have HKN:Hid (Pts (ladN u cb (k+1)) st D E):=hid (by rw [ladN,HBIT.out];exact HP2.out)
   have HQR:=hid (And.intro hq hr)
   clear hq hr hs hp2 HP HP2 HBIT
   have hwn:IntKind.i64.wrap ((n:Int) - 1)=(n:Int) - 1:=IntWalk.i64_in _ (by omega)
   have K24:=hid k24
   have K25:=hid k25
   clear k24 k25
   go_wp2_with (first
    | (with_reducible refine wpList_load_mid (op:=⟨some 35,.load 74 (.tmp 7),_,_,_,_⟩) rfl 74 (.tmp 7) rfl b7 0 rfl (ints .i64 L) _ (hB7.range) Tryz.underlying74 rfl (l45r LL.out) ?_)
    | (with_reducible refine wpList_load_mid (op:=⟨some 36,.load 74 (.tmp 8),_,_,_,_⟩) rfl 74 (.tmp 8) rfl b8 0 rfl (ints .i64 H) _ (hB8.range) Tryz.underlying74 rfl (l45r LH.out) ?_))
   refine (K24.out _).mono ?_
   rintro e w5 ⟨rfl,hb⟩
   replace h4:=h4.next hb
   replace hB5:=hB5.next hb
   replace hB6:=hB6.next hb
   replace hB7:=hB7.next hb
   replace hB8:=hB8.next hb
   replace hW:=hW.trans (hb.mono hW.size)
   clear hb
   clear cx
   have r7:=hB7.room lP.out
   replace hB7:=hB7.stored lP.out
   replace hB8:=hB8.past (b':=b7) (ints .i64 PP).toArray.toList ne7_8
   have r8':=hB8.room lQ.out
   replace hB8:=hB8.stored lQ.out
   replace hB7:=hB7.past (b':=b8) (ints .i64 QQ).toArray.toList (Ne.symm ne7_8)
   replace h4:=(h4.past (b':=b7) (ints .i64 PP).toArray.toList (Ne.symm n47)).past (b':=b8) (ints .i64 QQ).toArray.toList (Ne.symm n48)
   replace hB5:=(hB5.past (b':=b7) (ints .i64 PP).toArray.toList (Ne.symm n57)).past (b':=b8) (ints .i64 QQ).toArray.toList (Ne.symm n58)
   replace hB6:=(hB6.past (b':=b7) (ints .i64 PP).toArray.toList (Ne.symm n67)).past (b':=b8) (ints .i64 QQ).toArray.toList (Ne.symm n68)
   replace hW:=Below.setCells (Below.setCells hW (g:=b7) w7 0 (ints .i64 PP).toArray.toList) (g:=b8) w8 0 (ints .i64 QQ).toArray.toList
   go_wp2_with (first
    | (with_reducible refine wpList_store_mid (op:=⟨none,.store 74 (.tmp 7) (.tmp 41),_,_,_,_⟩) rfl 74 (.tmp 7) (.tmp 41) rfl b7 0 (ints .i64 PP).toArray rfl rfl r7 (a45r lP.out) (ints_all _ _) ?_)
    | (with_reducible refine wpList_store_mid (op:=⟨none,.store 74 (.tmp 8) (.tmp 42),_,_,_,_⟩) rfl 74 (.tmp 8) (.tmp 42) rfl b8 0 (ints .i64 QQ).toArray rfl rfl r8' (a45r lQ.out) (ints_all _ _) ?_;generalize (w5.setCells b7 0 (ints .i64 PP).toArray.toList).setCells b8 0 (ints .i64 QQ).toArray.toList=w6 at *)
    | (with_reducible refine wpList_load_mid (op:=⟨some 45,.load 74 (.tmp 7),_,_,_,_⟩) rfl 74 (.tmp 7) rfl b7 0 rfl (ints .i64 PP) _ (hB7.range) Tryz.underlying74 rfl (l45r lP.out) ?_)
    | (with_reducible refine wpList_load_mid (op:=⟨some 46,.load 74 (.tmp 8),_,_,_,_⟩) rfl 74 (.tmp 8) rfl b8 0 rfl (ints .i64 QQ) _ (hB8.range) Tryz.underlying74 rfl (l45r lQ.out) ?_)
    | (with_reducible refine wpList_load_mid (op:=⟨some 47,.load 70 (.tmp 6),_,_,_,_⟩) rfl 70 (.tmp 6) rfl b6 0 rfl (ints .i64 uu) _ (hB6.range) Tryz.underlying70 rfl (l26 HUL.out) ?_))
   refine (K25.out _).mono ?_
   rintro e w7_ ⟨rfl,hb⟩
   clear r7 r8'
   replace h4:=h4.next hb
   replace hB5:=hB5.next hb
   replace hB6:=hB6.next hb
   replace hB7:=hB7.next hb
   replace hB8:=hB8.next hb
   replace hW:=hW.trans (hb.mono hW.size)
   clear hb
   have r7:=hB7.room lD.out
   replace hB7:=hB7.stored lD.out
   replace hB8:=hB8.past (b':=b7) (ints .i64 D).toArray.toList ne7_8
   have r8':=hB8.room lE.out
   replace hB8:=hB8.stored lE.out
   replace hB7:=hB7.past (b':=b8) (ints .i64 E).toArray.toList (Ne.symm ne7_8)
   replace h4:=(h4.past (b':=b7) (ints .i64 D).toArray.toList (Ne.symm n47)).past (b':=b8) (ints .i64 E).toArray.toList (Ne.symm n48)
   replace hB5:=(hB5.past (b':=b7) (ints .i64 D).toArray.toList (Ne.symm n57)).past (b':=b8) (ints .i64 E).toArray.toList (Ne.symm n58)
   replace hB6:=(hB6.past (b':=b7) (ints .i64 D).toArray.toList (Ne.symm n67)).past (b':=b8) (ints .i64 E).toArray.toList (Ne.symm n68)
   replace hW:=Below.setCells (Below.setCells hW (g:=b7) w7 0 (ints .i64 D).toArray.toList) (g:=b8) w8 0 (ints .i64 E).toArray.toList
   go_wp2_with (first
    | (with_reducible refine wpList_store_mid (op:=⟨none,.store 74 (.tmp 7) (.tmp 49),_,_,_,_⟩) rfl 74 (.tmp 7) (.tmp 49) rfl b7 0 (ints .i64 D).toArray rfl rfl r7 (a45r lD.out) (ints_all _ _) ?_)
    | (with_reducible refine wpList_store_mid (op:=⟨none,.store 74 (.tmp 8) (.tmp 50),_,_,_,_⟩) rfl 74 (.tmp 8) (.tmp 50) rfl b8 0 (ints .i64 E).toArray rfl rfl r8' (a45r lE.out) (ints_all _ _) ?_;generalize (w7_.setCells b7 0 (ints .i64 D).toArray.toList).setCells b8 0 (ints .i64 E).toArray.toList=w8_ at *))
   go_roundw
   case rel=>exact ⟨k+1,(n:Int) - 1,st,D,E,by omega,rfl,rfl,hid (by have:=HBK.out;omega),HKN,h4,hB5,hB6,hB7,hB8,hW⟩
   case measure=>simp [intOf]
  ·have e:k=255:=by omega
   have hb0:b<0:=by have:=HBK.out;omega
   rw [e] at HP
   obtain ⟨x,z,QQ,k24,hx,hz⟩:=last2 HP
   have K24:=hid k24
   have HM:=hm
   clear k24 e HP HBK
   go_wp2_with (first
    | (with_reducible refine wpList_load_mid (op:=⟨some 52,.load 74 (.tmp 7),_,_,_,_⟩) rfl 74 (.tmp 7) rfl b7 0 rfl (ints .i64 L) _ (hB7.range) Tryz.underlying74 rfl (l45r LL.out) ?_)
    | (with_reducible refine wpList_load_mid (op:=⟨some 53,.load 74 (.tmp 8),_,_,_,_⟩) rfl 74 (.tmp 8) rfl b8 0 rfl (ints .i64 H) _ (hB8.range) Tryz.underlying74 rfl (l45r LH.out) ?_))
   refine (K24.out _).mono ?_
   rintro e w5 ⟨rfl,hb⟩
   replace h4:=h4.next hb
   replace hB5:=hB5.next hb
   replace hB6:=hB6.next hb
   replace hB7:=hB7.next hb
   replace hB8:=hB8.next hb
   replace hW:=hW.trans (hb.mono hW.size)
   clear hb
   have lR:=hid (len32 hx.out.1.len hz.out.1.len)
   have r7:=hB7.room lR.out
   replace hB7:=hB7.stored lR.out
   replace h4:=h4.past (b':=b7) (ints .i64 (x++z)).toArray.toList (Ne.symm n47)
   replace hW:=Below.setCells hW (g:=b7) w7 0 (ints .i64 (x++z)).toArray.toList
   clear hB5 hB6 hB8
   go_wp2_with (first
    | (with_reducible refine wpList_store_mid (op:=⟨none,.store 74 (.tmp 7) (.tmp 56),_,_,_,_⟩) rfl 74 (.tmp 7) (.tmp 56) rfl b7 0 (ints .i64 (x++z)).toArray rfl rfl r7 (a45r lR.out) (ints_all _ _) ?_;generalize w5.setCells b7 0 (ints .i64 (x++z)).toArray.toList=w6 at *))
   replace hx:=hx.out
   replace hz:=hz.out
   clear r7
   obtain ⟨v0,kv0,hv0⟩:∃v,CallsTo 52 #[.agg (ints .i64 z).toArray] (.agg (ints .i64 v).toArray)∧Nm v ((ladN u cb 255).b^(NT.PN - 2)%NT.PN):=⟨_,c_inv hz.1,hz.inv⟩
   obtain ⟨v1,kv1,hv1⟩:∃v,CallsTo 51 #[.agg (ints .i64 x).toArray,.agg (ints .i64 v0).toArray] (.agg (ints .i64 v).toArray)∧Nm v ((ladN u cb 255).a*((ladN u cb 255).b^(NT.PN - 2)%NT.PN)%NT.PN):=⟨_,c_mul hx.1 hv0.1,hx.mul hv0⟩
   have kbytes:CallsTo 53 #[.agg (ints .i64 v1).toArray] (.agg (ints .u8 m).toArray):=by rw [←HM.out];exact hv1.bytes
   have lm:m.length=32:=by rw [←HM.out];exact rbytes_length _
   have s20:=hW.size
   refine rSpec 7 65 (fun _=>false) [Is (.pointer (some ⟨b7,0,none⟩)),IsL x,Is (.pointer (some ⟨b7,16,none⟩)),IsL z,IsL v0,IsL v1,Is (.agg (ints .u8 m).toArray)] [58,59,60,61,62,63,64] (gC (gC (gC (gC (gC (gC (gC grows_nil)))))))
    ⟨step_fa0 rfl (.inl rfl) rfl rfl (kO 7 rfl),
     step_part rfl (.inl rfl) (hB7.fst hx.1.len) hx.1.len rfl rfl (kI 0 58 rfl rfl),
     step_fa1 rfl (.inl rfl) rfl rfl (kO 7 rfl),
     step_part rfl (.inl rfl) (hB7.snd hx.1.len) hz.1.len rfl rfl (kI 2 60 rfl rfl),
     step_to rfl (.inl rfl) rfl cf27 kv0 rfl (one_arg (kI 3 61 rfl rfl)),
     step_to rfl (.inl rfl) rfl cf22 kv1 rfl (two_args (kI 1 59 rfl rfl) (kI 4 62 rfl rfl)),
     step_to rfl (.inl rfl) rfl cf11 kbytes rfl (one_arg (kI 5 63 rfl rfl)),trivial⟩ ?_
   intro val w21 hw hS hap hla
   simp only [pA,pB,pC,pD,pE,Act.put,pG,pH,pI,eVal hS 0 58 rfl rfl,eVal hS 1 59 rfl rfl,eVal hS 2 60 rfl rfl,eVal hS 3 61 rfl rfl,eVal hS 4 62 rfl rfl,eVal hS 5 63 rfl rfl,eVal hS 6 64 rfl rfl]
   clear hS hap hla
   replace h4:=h4.next hw
   replace hW:=bT hW hw
   clear hw
   have r4:=h4.room lm
   have hf4:=h4.stored lm
   have LM:=hid lm
   replace hW:=Below.setCells hW (g:=W.heap.size+1+1) (by omega) 0 (ints .u8 m).toArray.toList
   clear lm h4
   go_wp2_with (first
    | (with_reducible refine wpList_store_mid (op:=⟨none,.store 22 (.tmp 4) (.tmp 64),_,_,_,_⟩) rfl 22 (.tmp 4) (.tmp 64) rfl (W.heap.size+1+1) 0 (ints .u8 m).toArray rfl rfl r4 (a22 LM.out) (ints_all _ _) ?_))
   exact ret_rows rfl (W.heap.size+1+1) 0 rfl (ints .u8 m) _ hf4.range Tryz.underlying22 rfl (l22 LM.out) rfl ⟨rfl,hW⟩
theorem c_lmul {sb pb:List Int} (ls:sb.length=32) (bs:Byt sb) (lp:pb.length=32) (bp:Byt pb):CallsTo 24 #[.agg (ints .u8 sb).toArray,.agg (ints .u8 pb).toArray] (.agg (ints .u8 (rbytes (mulN sb (uOf pb)))).toArray) :=
 lmul_core ls lp ((clampL_length sb).trans ls) (hid (clampL_byt bs ls)) (c_clamp ls bs) (c_of lp bp) (uOf_nm bp) (hid rfl)
end
section
set_option maxHeartbeats 4000000
set_option maxRecDepth 50000
theorem cf8 (vs:Array Value) (w:World):(callFunc 24 vs).run Tryz.prog w=.ok (.enter 24 vs) w:=by go_simp
theorem cf12b (vs:Array Value) (w:World):(callFunc 25 vs).run Tryz.prog w=.ok (.enter 25 vs) w:=by go_simp
theorem shared_yes {sb pb m:List Int} (lsb:sb.length=32) (lpb:pb.length=32) (lm:m.length=32) (kmul:CallsTo 24 #[.agg (ints .u8 sb).toArray,.agg (ints .u8 pb).toArray] (.agg (ints .u8 m).toArray)) (hd:Hid (decide (m=rbytes 0)=true)) :
 CallsTo 26 #[.agg (ints .u8 sb).toArray,.agg (ints .u8 pb).toArray] (.tuple #[.agg (ints .u8 m).toArray,.int .i64 21]):=fun W=>by
 obtain ⟨z22,s22⟩:=zero_of_info inf22
 have hS2:=((By.new W sb lsb).next (below_new _ (.cells (ints .u8 pb).toArray 22))).next (below_new _ (.cells (ints .u8 (zeros 32)).toArray 22))
 have hS3:=(By.new (W.alloc (.cells (ints .u8 sb).toArray 22)) pb lpb).next (below_new _ (.cells (ints .u8 (zeros 32)).toArray 22))
 have h4:=By.new ((W.alloc (.cells (ints .u8 sb).toArray 22)).alloc (.cells (ints .u8 pb).toArray 22)) (zeros 32) (zeros_len 32)
 have hW:=((below_new W (.cells (ints .u8 sb).toArray 22)).alloc (by simp) (.cells (ints .u8 pb).toArray 22)).alloc (by simp;omega) (.cells (ints .u8 (zeros 32)).toArray 22)
 simp only [World.size_alloc] at hS3 h4
 go_enter Tryz.func26,Tryz.ntmps26
 go_upto_region 1 with (fail)
 generalize ((W.alloc (.cells (ints .u8 sb).toArray 22)).alloc (.cells (ints .u8 pb).toArray 22)).alloc (.cells (ints .u8 (zeros 32)).toArray 22)=w0 at *
 have s0:=hW.size
 refine rSeq 4 15 (fun i=>i==3) [Is (.agg (ints .u8 sb).toArray),Is (.agg (ints .u8 pb).toArray),Is (.agg (ints .u8 m).toArray),IsZ22 w0.heap.size] [7,8,9,6] (gC (gC (gC (grows_cons (IsZ22.grows _) grows_nil))))
  ⟨step_by rfl (.inl rfl) hS2 2 rfl (by kernel_rfl) rfl rfl,
   step_by rfl (.inl rfl) hS3 3 rfl (by kernel_rfl) rfl rfl,
   step_to rfl (.inl rfl) rfl cf8 kmul rfl (two_args (kI 0 7 rfl rfl) (kI 1 8 rfl rfl)),
   step_alloc22 (.inl rfl) rfl rfl,trivial⟩ ?_
 intro val w1 hw hS hap hla
 obtain ⟨b6,e6,L6,Z6⟩:=hS 3 6 (by decide) rfl
 simp only [pA,pB,pC,pD,pE,Act.put,pG,pH,pI,eVal hS 0 7 rfl rfl,eVal hS 1 8 rfl rfl,eVal hS 2 9 rfl rfl,e6]
 clear hS hap hla e6
 have LL6:=hid lm
 have R6:=Z6.room (l':=m) lm
 have hB6:=Z6.stored (l':=m) lm
 have hu:=Below.setCells hw L6 0 (ints .u8 m).toArray.toList
 replace hS2:=hS2.next hu
 replace hS3:=hS3.next hu
 replace h4:=h4.next hu
 replace hW:=bT hW hu
 clear hu
 with_reducible refine wpList_store_mid (op:=⟨none,.store 22 (.tmp 6) (.tmp 9),_,_,_,_⟩) rfl 22 (.tmp 6) (.tmp 9) rfl b6 0 (ints .u8 m).toArray rfl rfl R6 (a22 LL6.out) (ints_all _ _) ?_
 generalize (w1.setCells b6 0 (ints .u8 m).toArray.toList)=w2 at *
 clear hw R6 LL6 Z6
 clear hS2 hS3
 go_upto_region 2 with (fail)
 have s2:=hW.size
 refine rSeq 3 15 (fun _=>false) [Is (.agg (ints .u8 m).toArray),Is (.agg (ints .u8 (rbytes 0)).toArray),Is (.bool (decide (m=rbytes 0)))] [10,11,12] (gC (gC (gC grows_nil)))
  ⟨step_by rfl (.inl rfl) hB6 6 rfl (by kernel_rfl) rfl rfl,
   step_zero22 rfl (.inl rfl) rfl rfl,
   step_eq22 rfl (.inl rfl) rfl lm (rbytes_length _) rfl (kI 0 10 rfl rfl) (kI 1 11 rfl rfl),trivial⟩ ?_
 intro val w3 hw hS hap hla
 simp only [pA,pB,pC,pD,pE,Act.put,pG,pH,pI,eVal hS 0 10 rfl rfl,eVal hS 1 11 rfl rfl,eVal hS 2 12 rfl rfl]
 clear hS hap hla
 replace h4:=h4.next hw
 replace hB6:=hB6.next hw
 replace hW:=bT hW hw
 clear hw
 rw [hd.out]
 have LM:=hid lm
 have lt4:=h4.lt
 have r4:=h4.room LM.out
 have hf4:=h4.stored LM.out
 replace hW:=Below.setCells hW (g:=W.heap.size+1+1) (by omega) 0 (ints .u8 m).toArray.toList
 clear lm h4 kmul hd lsb lpb
 go_wp2_with (first
  | (with_reducible refine wpList_load_mid (op:=⟨some 13,.load 22 (.tmp 6),_,_,_,_⟩) rfl 22 (.tmp 6) rfl b6 0 rfl (ints .u8 m) _ (hB6.range) Tryz.underlying22 rfl (l22 LM.out) ?_)
  | (with_reducible refine wpList_store_mid (op:=⟨none,.store 22 (.tmp 4) (.tmp 13),_,_,_,_⟩) rfl 22 (.tmp 4) (.tmp 13) rfl (W.heap.size+1+1) 0 (ints .u8 m).toArray rfl rfl r4 (a22 LM.out) (ints_all _ _) ?_))
 exact bodyPost_ret (results_row2 rfl _ _ (W.heap.size+1+1) 0 rfl (.int .i64 21) rfl (ints .u8 m) _ hf4.range Tryz.underlying22 rfl (l22 LM.out)) rfl ⟨rfl,hW⟩
theorem shared_no {sb pb m:List Int} (lsb:sb.length=32) (lpb:pb.length=32) (lm:m.length=32) (kmul:CallsTo 24 #[.agg (ints .u8 sb).toArray,.agg (ints .u8 pb).toArray] (.agg (ints .u8 m).toArray)) (hd:Hid (decide (m=rbytes 0)=false)) :
 CallsTo 26 #[.agg (ints .u8 sb).toArray,.agg (ints .u8 pb).toArray] (.tuple #[.agg (ints .u8 m).toArray,.int .i64 0]):=fun W=>by
 obtain ⟨z22,s22⟩:=zero_of_info inf22
 have hS2:=((By.new W sb lsb).next (below_new _ (.cells (ints .u8 pb).toArray 22))).next (below_new _ (.cells (ints .u8 (zeros 32)).toArray 22))
 have hS3:=(By.new (W.alloc (.cells (ints .u8 sb).toArray 22)) pb lpb).next (below_new _ (.cells (ints .u8 (zeros 32)).toArray 22))
 have h4:=By.new ((W.alloc (.cells (ints .u8 sb).toArray 22)).alloc (.cells (ints .u8 pb).toArray 22)) (zeros 32) (zeros_len 32)
 have hW:=((below_new W (.cells (ints .u8 sb).toArray 22)).alloc (by simp) (.cells (ints .u8 pb).toArray 22)).alloc (by simp;omega) (.cells (ints .u8 (zeros 32)).toArray 22)
 simp only [World.size_alloc] at hS3 h4
 go_enter Tryz.func26,Tryz.ntmps26
 go_upto_region 1 with (fail)
 generalize ((W.alloc (.cells (ints .u8 sb).toArray 22)).alloc (.cells (ints .u8 pb).toArray 22)).alloc (.cells (ints .u8 (zeros 32)).toArray 22)=w0 at *
 have s0:=hW.size
 refine rSeq 4 15 (fun i=>i==3) [Is (.agg (ints .u8 sb).toArray),Is (.agg (ints .u8 pb).toArray),Is (.agg (ints .u8 m).toArray),IsZ22 w0.heap.size] [7,8,9,6] (gC (gC (gC (grows_cons (IsZ22.grows _) grows_nil))))
  ⟨step_by rfl (.inl rfl) hS2 2 rfl (by kernel_rfl) rfl rfl,
   step_by rfl (.inl rfl) hS3 3 rfl (by kernel_rfl) rfl rfl,
   step_to rfl (.inl rfl) rfl cf8 kmul rfl (two_args (kI 0 7 rfl rfl) (kI 1 8 rfl rfl)),
   step_alloc22 (.inl rfl) rfl rfl,trivial⟩ ?_
 intro val w1 hw hS hap hla
 obtain ⟨b6,e6,L6,Z6⟩:=hS 3 6 (by decide) rfl
 simp only [pA,pB,pC,pD,pE,Act.put,pG,pH,pI,eVal hS 0 7 rfl rfl,eVal hS 1 8 rfl rfl,eVal hS 2 9 rfl rfl,e6]
 clear hS hap hla e6
 have LL6:=hid lm
 have R6:=Z6.room (l':=m) lm
 have hB6:=Z6.stored (l':=m) lm
 have hu:=Below.setCells hw L6 0 (ints .u8 m).toArray.toList
 replace hS2:=hS2.next hu
 replace hS3:=hS3.next hu
 replace h4:=h4.next hu
 replace hW:=bT hW hu
 clear hu
 with_reducible refine wpList_store_mid (op:=⟨none,.store 22 (.tmp 6) (.tmp 9),_,_,_,_⟩) rfl 22 (.tmp 6) (.tmp 9) rfl b6 0 (ints .u8 m).toArray rfl rfl R6 (a22 LL6.out) (ints_all _ _) ?_
 generalize (w1.setCells b6 0 (ints .u8 m).toArray.toList)=w2 at *
 clear hw R6 LL6 Z6
 clear hS2 hS3
 go_upto_region 2 with (fail)
 have s2:=hW.size
 refine rSeq 3 15 (fun _=>false) [Is (.agg (ints .u8 m).toArray),Is (.agg (ints .u8 (rbytes 0)).toArray),Is (.bool (decide (m=rbytes 0)))] [10,11,12] (gC (gC (gC grows_nil)))
  ⟨step_by rfl (.inl rfl) hB6 6 rfl (by kernel_rfl) rfl rfl,
   step_zero22 rfl (.inl rfl) rfl rfl,
   step_eq22 rfl (.inl rfl) rfl lm (rbytes_length _) rfl (kI 0 10 rfl rfl) (kI 1 11 rfl rfl),trivial⟩ ?_
 intro val w3 hw hS hap hla
 simp only [pA,pB,pC,pD,pE,Act.put,pG,pH,pI,eVal hS 0 10 rfl rfl,eVal hS 1 11 rfl rfl,eVal hS 2 12 rfl rfl]
 clear hS hap hla
 replace h4:=h4.next hw
 replace hB6:=hB6.next hw
 replace hW:=bT hW hw
 clear hw
 rw [hd.out]
 have LM:=hid lm
 have lt4:=h4.lt
 have r4:=h4.room LM.out
 have hf4:=h4.stored LM.out
 replace hW:=Below.setCells hW (g:=W.heap.size+1+1) (by omega) 0 (ints .u8 m).toArray.toList
 clear lm h4 kmul hd lsb lpb
 go_wp2_with (first
  | (with_reducible refine wpList_load_mid (op:=⟨some 14,.load 22 (.tmp 6),_,_,_,_⟩) rfl 22 (.tmp 6) rfl b6 0 rfl (ints .u8 m) _ (hB6.range) Tryz.underlying22 rfl (l22 LM.out) ?_)
  | (with_reducible refine wpList_store_mid (op:=⟨none,.store 22 (.tmp 4) (.tmp 14),_,_,_,_⟩) rfl 22 (.tmp 4) (.tmp 14) rfl (W.heap.size+1+1) 0 (ints .u8 m).toArray rfl rfl r4 (a22 LM.out) (ints_all _ _) ?_))
 exact bodyPost_ret (results_row2 rfl _ _ (W.heap.size+1+1) 0 rfl (.int .i64 0) rfl (ints .u8 m) _ hf4.range Tryz.underlying22 rfl (l22 LM.out)) rfl ⟨rfl,hW⟩
theorem public_core {sb bb m:List Int} (lsb:sb.length=32) (lm:m.length=32) (kbase:CallsTo 25 #[] (.agg (ints .u8 bb).toArray)) (kmul:CallsTo 24 #[.agg (ints .u8 sb).toArray,.agg (ints .u8 bb).toArray] (.agg (ints .u8 m).toArray)) :
 CallsTo 12 #[.agg (ints .u8 sb).toArray] (.agg (ints .u8 m).toArray):=fun W=>by
 obtain ⟨z22,s22⟩:=zero_of_info inf22
 have hS2:=(By.new W sb lsb).next (below_new _ (.cells (ints .u8 (zeros 32)).toArray 22))
 have h2:=By.new (W.alloc (.cells (ints .u8 sb).toArray 22)) (zeros 32) (zeros_len 32)
 have hW:=(below_new W (.cells (ints .u8 sb).toArray 22)).alloc (by simp) (.cells (ints .u8 (zeros 32)).toArray 22)
 simp only [World.size_alloc] at h2
 go_enter Tryz.func12,Tryz.ntmps12
 go_wp2_with (fail)
 generalize (W.alloc (.cells (ints .u8 sb).toArray 22)).alloc (.cells (ints .u8 (zeros 32)).toArray 22)=w0 at *
 have s0:=hW.size
 refine rSpec 3 6 (fun _=>false) [Is (.agg (ints .u8 sb).toArray),Is (.agg (ints .u8 bb).toArray),Is (.agg (ints .u8 m).toArray)] [3,4,5] (gC (gC (gC grows_nil)))
  ⟨step_by rfl (.inl rfl) hS2 1 rfl (by kernel_rfl) rfl rfl,
   step_to0 rfl (.inl rfl) rfl cf12b kbase rfl,
   step_to rfl (.inl rfl) rfl cf8 kmul rfl (two_args (kI 0 3 rfl rfl) (kI 1 4 rfl rfl)),trivial⟩ ?_
 intro val w1 hw hS hap hla
 simp only [pA,pB,pC,pD,pE,Act.put,pG,pH,pI,eVal hS 0 3 rfl rfl,eVal hS 1 4 rfl rfl,eVal hS 2 5 rfl rfl]
 clear hS hap hla
 replace hS2:=hS2.next hw
 replace h2:=h2.next hw
 replace hW:=bT hW hw
 clear hw
 have LM:=hid lm
 have r4:=h2.room LM.out
 have hf4:=h2.stored LM.out
 replace hW:=Below.setCells hW (g:=W.heap.size+1) (by omega) 0 (ints .u8 m).toArray.toList
 clear lm h2 kmul lsb kbase
 go_wp2_with (first
  | (with_reducible refine wpList_store_mid (op:=⟨none,.store 22 (.tmp 2) (.tmp 5),_,_,_,_⟩) rfl 22 (.tmp 2) (.tmp 5) rfl (W.heap.size+1) 0 (ints .u8 m).toArray rfl rfl r4 (a22 LM.out) (ints_all _ _) ?_))
 exact ret_rows rfl (W.heap.size+1) 0 rfl (ints .u8 m) _ hf4.range Tryz.underlying22 rfl (l22 LM.out) rfl ⟨rfl,hW⟩
def baseL:List Int:=9::zeros 31
theorem built22b:Tryz.prog.built 22 [(0,.int .u8 9)]=some (ints .u8 baseL).toArray:=by kernel_rfl
theorem c_base:CallsTo 25 #[] (.agg (ints .u8 baseL).toArray):=fun W=>by
 obtain ⟨z22,s22⟩:=zero_of_info inf22
 have h0:=By.new W (zeros 32) (zeros_len 32)
 have hW:=below_new W (.cells (ints .u8 (zeros 32)).toArray 22)
 have LM:=hid (show baseL.length=32 by simp [baseL,zeros])
 have r0:=h0.room LM.out
 have hf:=h0.stored LM.out
 replace hW:=Below.setCells hW (g:=W.heap.size) (Nat.le_refl _) 0 (ints .u8 baseL).toArray.toList
 have hb22:=built22b
 generalize baseL=m at *
 go_enter Tryz.func25,Tryz.ntmps25
 go_upto_region 1 with (fail)
 refine wp_region_lit ?_
 refine wpList_built rfl 22 #[(0,.const (.int .u8 9))] rfl [(0,.int .u8 9)] _ (by simp [Act.eval]) hb22 ?_
 simp only [Act.put,List.setIfInBounds_toArray,List.set_cons_succ,List.set_cons_zero]
 with_reducible refine wpList_store_mid (op:=⟨none,.store 22 (.tmp 0) (.tmp 1),_,_,_,_⟩) rfl 22 (.tmp 0) (.tmp 1) rfl W.heap.size 0 (ints .u8 m).toArray rfl rfl r0 (a22 LM.out) (ints_all _ _) ?_
 go_wp2_with (fail)
 exact ret_rows rfl W.heap.size 0 rfl (ints .u8 m) _ hf.range Tryz.underlying22 rfl (l22 LM.out) rfl ⟨rfl,hW⟩
theorem base_byt:Byt baseL:=fun x hx=>by
 rcases List.mem_cons.1 hx with h|h
 ·omega
 ·have:=List.eq_of_mem_replicate h
  omega
theorem base_len:baseL.length=32:=by simp [baseL,zeros]
theorem c_shared {sb pb:List Int} (ls:sb.length=32) (bs:Byt sb) (lp:pb.length=32) (bp:Byt pb) (d:Bool) (hd:decide (rbytes (mulN sb (uOf pb))=rbytes 0)=d):CallsTo 26 #[.agg (ints .u8 sb).toArray,.agg (ints .u8 pb).toArray] (.tuple #[.agg (ints .u8 (rbytes (mulN sb (uOf pb)))).toArray,.int .i64 (if d then 21 else 0)]):=by
 cases d with
 | true=>exact shared_yes ls lp (rbytes_length _) (c_lmul ls bs lp bp) (hid hd)
 | false=>exact shared_no ls lp (rbytes_length _) (c_lmul ls bs lp bp) (hid hd)
theorem c_public {sb:List Int} (ls:sb.length=32) (bs:Byt sb):CallsTo 12 #[.agg (ints .u8 sb).toArray] (.agg (ints .u8 (rbytes (mulN sb (uOf baseL)))).toArray) :=
 public_core ls (rbytes_length _) c_base (c_lmul ls bs base_len base_byt)
end
end Go.Proofs.YtkblmdakejmmhaaGreatDoor
