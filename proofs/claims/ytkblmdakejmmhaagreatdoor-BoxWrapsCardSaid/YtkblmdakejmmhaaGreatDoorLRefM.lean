import Derived.Test.YtkblmdakejmmhaaGreatDoorG12
namespace Go.Proofs.YtkblmdakejmmhaaGreatDoor
open Go Go.RowKit
set_option maxRecDepth 50000
theorem pn_pos:0<NT.PN:=by decide
theorem ladN_lt {u:Nat} (cb:List Int) (hu:u<NT.PN):∀k,(ladN u cb k).a<NT.PN∧(ladN u cb k).b<NT.PN∧(ladN u cb k).c<NT.PN∧(ladN u cb k).d<NT.PN
 | 0=>⟨by show (1:Nat)<NT.PN;decide,pn_pos,hu,by show (1:Nat)<NT.PN;decide⟩
 | k+1=>by
   have h:∀st S,(lstep u st S).a<NT.PN∧(lstep u st S).b<NT.PN∧(lstep u st S).c<NT.PN∧(lstep u st S).d<NT.PN:=fun st S=>by
    cases st <;> exact ⟨Nat.mod_lt _ pn_pos,Nat.mod_lt _ pn_pos,Nat.mod_lt _ pn_pos,Nat.mod_lt _ pn_pos⟩
   rw [ladN];exact h _ _
theorem pm2_bytes:(bv (rbytes (NT.PN - 2))).toNat=NT.PN - 2:=by decide +kernel
def BYL:List Nat:=56129::1::List.replicate 14 0
theorem byl_rp:Rp BYL 121665:=⟨by decide,digs_dec (by decide),by decide⟩
theorem byl_set:((nl (List.replicate 16 0)).set 0 56129).set 1 1=nl BYL:=by decide
set_option maxHeartbeats 4000000 in
theorem rladder_core {sb pb cb m:List Int} {u:Nat} (lsb:sb.length=32) (lpb:pb.length=32) (lcb:cb.length=32) (hcb:Hid (Byt cb)) (kclamp:Hid (CallsTo 33 #[.agg (ints .u8 sb).toArray] (.agg (ints .u8 cb).toArray))) (kof:Hid (∀w:World,Calls Tryz.prog 34 #[.agg (ints .u8 pb).toArray] w (ROut u w))) (hu:Hid (u<NT.PN)) (hm:Hid (rbytes (outN (ladN u cb 255))=m)) :
 CallsTo 19 #[.agg (ints .u8 sb).toArray,.agg (ints .u8 pb).toArray] (.agg (ints .u8 m).toArray):=fun W=>by
 obtain ⟨z22,s22⟩:=zero_of_info inf22
 have LS:=hid lsb
 have LP:=hid lpb
 have LC:=hid lcb
 have hS2:=((By.new W sb lsb).next (below_new _ (.cells (ints .u8 pb).toArray 22))).next (below_new _ (.cells (ints .u8 (zeros 32)).toArray 22))
 have hS3:=(By.new (W.alloc (.cells (ints .u8 sb).toArray 22)) pb lpb).next (below_new _ (.cells (ints .u8 (zeros 32)).toArray 22))
 have h4:=By.new ((W.alloc (.cells (ints .u8 sb).toArray 22)).alloc (.cells (ints .u8 pb).toArray 22)) (zeros 32) (zeros_len 32)
 have hW:=((below_new W (.cells (ints .u8 sb).toArray 22)).alloc (by simp) (.cells (ints .u8 pb).toArray 22)).alloc (by simp;omega) (.cells (ints .u8 (zeros 32)).toArray 22)
 simp only [World.size_alloc] at hS3 h4
 clear lsb lpb lcb
 go_enter Tryz.func19,Tryz.ntmps19
 go_upto_region 1 with (fail)
 generalize ((W.alloc (.cells (ints .u8 sb).toArray 22)).alloc (.cells (ints .u8 pb).toArray 22)).alloc (.cells (ints .u8 (zeros 32)).toArray 22)=w0 at *
 go_wp2_with (first
  | (with_reducible refine wpList_load_mid (op:=⟨some 31,.load 22 (.tmp 2),_,_,_,_⟩) rfl 22 (.tmp 2) rfl W.heap.size 0 rfl (ints .u8 sb) _ (hS2.range) Tryz.underlying22 rfl (l22 LS.out) ?_))
 refine (kclamp.out _).mono ?_
 rintro e w1 ⟨rfl,hb⟩
 replace hS3:=hS3.next hb
 replace h4:=h4.next hb
 replace hW:=hW.trans (hb.mono hW.size)
 clear hb hS2
 have hB5:=By.new w1 (zeros 32) (zeros_len 32)
 have hb:=below_new w1 (.cells (ints .u8 (zeros 32)).toArray 22)
 have r5:=hB5.room (l':=cb) LC.out
 replace hB5:=hB5.stored LC.out
 have lt3:=hS3.lt
 have lt4:=h4.lt
 replace hS3:=(hS3.next hb).past (b':=w1.heap.size) (ints .u8 cb).toArray.toList (by omega)
 replace h4:=(h4.next hb).past (b':=w1.heap.size) (ints .u8 cb).toArray.toList (by omega)
 have hsz:=hW.size
 replace hW:=Below.setCells (hW.trans (hb.mono hW.size)) (g:=w1.heap.size) hsz 0 (ints .u8 cb).toArray.toList
 clear hb
 go_wp2_with (first
  | (with_reducible refine wpList_store_mid (op:=⟨none,.store 22 (.tmp 5) (.tmp 32),_,_,_,_⟩) rfl 22 (.tmp 5) (.tmp 32) rfl w1.heap.size 0 (ints .u8 cb).toArray rfl rfl r5 (a22 LC.out) (ints_all _ _) ?_;generalize (w1.alloc (.cells (ints .u8 (zeros 32)).toArray 22)).setCells w1.heap.size 0 (ints .u8 cb).toArray.toList=w2 at *)
  | (with_reducible refine wpList_load_mid (op:=⟨some 33,.load 22 (.tmp 3),_,_,_,_⟩) rfl 22 (.tmp 3) rfl (W.heap.size+1) 0 rfl (ints .u8 pb) _ (hS3.range) Tryz.underlying22 rfl (l22 LP.out) ?_))
 refine (kof.out _).mono ?_
 rintro e w3 ⟨A6,c6,y6,rfl,H6,N6,hb⟩
 replace h4:=h4.next hb
 replace hB5:=hB5.next hb
 replace hW:=hW.trans (hb.mono hW.size)
 replace N6:=N6.nums
 clear hb hS3 lt3 lt4 r5
 generalize w1.heap.size=b5 at *
 have hmk:∀w:World,(Instr.makeSlice 60 (.int .i64 16) (.int .i64 16)).run Tryz.prog w=.ok (.slice (some ⟨w.heap.size,0,none⟩) 16 16) (w.alloc (.cells (ints .i64 (nl (List.replicate 16 0))).toArray 3)):=fun w=>make28 16 (by omega) w
 have hA2:=Arr.made w3 .i64 (nl BYL) 3
 have hb:=below_new w3 (.cells (ints .i64 (nl BYL)).toArray 3)
 have e2:(ints .i64 (nl BYL)).toArray=((ints .i64 (nl (List.replicate 16 0))).toArray.setIfInBounds 0 (.int .i64 56129)).setIfInBounds 1 (.int .i64 1):=by
  rw [←byl_set];simp [ints]
 have z0:(ints .i64 (nl (List.replicate 16 0))).toArray[0]? = some (.int .i64 0):=rfl
 have z1:(ints .i64 (nl (List.replicate 16 0))).toArray[1]? = some (.int .i64 0):=rfl
 rw [e2] at hA2 hb
 clear e2
 replace h4:=h4.next hb
 replace hB5:=hB5.next hb
 replace hW:=hW.trans (hb.mono hW.size)
 replace N6:=N6.below hb
 have N7:=hA2.nums
 have H7:=hid byl_rp
 clear hA2 hb
 generalize BYL=y7 at *
 generalize (ints .i64 (nl (List.replicate 16 0))).toArray=Z at *
 go_wp2_with (fail)
 generalize w3.alloc (.cells ((Z.setIfInBounds 0 (.int .i64 56129)).setIfInBounds 1 (.int .i64 1)) 3)=w4 at *
 generalize (some (⟨w3.heap.size,0,none⟩:Addr):Option Addr)=A7 at *
 clear hmk z0 z1 kclamp kof LS LP
 refine (rsmall_out 1 (by omega) _).mono ?_
 rintro e w5 ⟨A8,c8,y8,rfl,H8,N8,hb⟩
 replace N8:=N8.nums
 replace h4:=h4.next hb
 replace hB5:=hB5.next hb
 replace hW:=hW.trans (hb.mono hW.size)
 replace N6:=N6.below hb
 replace N7:=N7.below hb
 clear hb
 go_wp2_with (fail)
 refine (rsmall_out 0 (by omega) _).mono ?_
 rintro e w6 ⟨A9,c9,y9,rfl,H9,N9,hb⟩
 replace N9:=N9.nums
 replace h4:=h4.next hb
 replace hB5:=hB5.next hb
 replace hW:=hW.trans (hb.mono hW.size)
 replace N6:=N6.below hb
 replace N7:=N7.below hb
 replace N8:=N8.below hb
 clear hb
 go_wp2_with (fail)
 refine (rsmall_out 1 (by omega) _).mono ?_
 rintro e w7 ⟨A11,c11,y11,rfl,H11,N11,hb⟩
 replace N11:=N11.nums
 replace h4:=h4.next hb
 replace hB5:=hB5.next hb
 replace hW:=hW.trans (hb.mono hW.size)
 replace N6:=N6.below hb
 replace N7:=N7.below hb
 replace N8:=N8.below hb
 replace N9:=N9.below hb
 clear hb
 go_wp2_with (fail)
 have HLT:=hid (fun k=>ladN_lt cb hu.out k)
 go_loopw [8,9,10,11,12] (fun x z X Z i wr=>∃(k:Nat) (b:Int) (A8 A9 A10 A11:Option Addr) (c8 c9 c10 c11:Nat) (y8 y9 y10 y11:List Nat),k≤255∧x=.slice A8 16 c8∧z=.slice A9 16 c9∧X=.slice A10 16 c10∧Z=.slice A11 16 c11∧i=.int .i64 b∧Hid (b=254 - k)∧Hid (Rp y8 (ladN u cb k).a)∧Hid (Rp y9 (ladN u cb k).b)∧Hid (Rp y10 (ladN u cb k).c)∧Hid (Rp y11 (ladN u cb k).d)∧Nums wr .i64 A8 (nl y8)∧Nums wr .i64 A9 (nl y9)∧Nums wr .i64 A10 (nl y10)∧Nums wr .i64 A11 (nl y11)∧Nums wr .i64 A6 (nl y6)∧Nums wr .i64 A7 (nl y7)∧By wr (W.heap.size+1+1) (zeros 32)∧By wr b5 cb∧Below W.heap.size W wr) (fun _ _ _ _ i _=>(intOf i+1).toNat)
 case atStart=>exact ⟨0,254,A8,A9,A6,A11,c8,c9,c6,c11,y8,y9,y6,y11,by omega,rfl,rfl,rfl,rfl,rfl,hid rfl,H8,H9,H6,H11,N8,N9,N6,N11,N6,N7,h4,hB5,hW⟩
 case round =>
  clear h4 hB5 hW H8 H9 H11 N8 N9 N11 N6 N7
  obtain ⟨k,b,A8,A9,A10,A11,c8,c9,c10,c11,y8,y9,y10,y11,hk,rfl,rfl,rfl,rfl,rfl,HBK,H8,H9,H10,H11,N8,N9,N10,N11,N6,N7,h4,hB5,hW⟩:=hrel
  rename World=>W1
  by_cases hlt:k<255
  ·obtain ⟨n,rfl⟩:∃n:Nat,b=n:=⟨(254 - k:Nat),by have:=HBK.out;omega⟩
   have HNK:Hid (254 - k=n):=hid (by have:=HBK.out;omega)
   have hn:(n:Int)≤254:=by have:=HBK.out;omega
   have n0:(0:Int)≤n:=by omega
   obtain ⟨q,hq⟩:∃q,q=n / 8:=⟨_,rfl⟩
   obtain ⟨r,hr⟩:∃r,r=n%8:=⟨_,rfl⟩
   have hqi:(n:Int) / 8=(q:Int):=by omega
   have hri:(n:Int)%8=(r:Int):=by omega
   have q0:(0:Int)≤q:=by omega
   have q32:(q:Int)<32:=by omega
   have r8:r<8:=by omega
   obtain ⟨x',cx,_,HXq⟩:=hB5.1.spot (i:=q) (by rw [LC.out];omega)
   rw [Nat.zero_add] at cx
   have hxb:=hcb.out.at_ HXq.out
   obtain ⟨x,rfl⟩:=Int.eq_ofNat_of_zero_le hxb.1
   have hx:x<256:=by omega
   have HBIT:Hid (∀cc:Nat,cc=x / 2^r→bitB cb (254 - k)=(((cc:Int)%2)==1)):=hid fun cc hc=>by
    rw [HNK.out];unfold bitB bitAt;rw [←hq,←hr]
    have e:cb.getD q 0=(x:Int):=by simp [List.getD,HXq.out]
    rw [e,hc];simp
   have hxw:IntKind.i64.wrap (x:Int)=x:=IntWalk.i64_in _ (by omega)
   have HQR:=hid (And.intro hq hr)
   clear hq hr hxb
   have hwn:IntKind.i64.wrap ((n:Int) - 1)=(n:Int) - 1:=IntWalk.i64_in _ (by omega)
   go_wp2_with (fail)
   go_loopw [13,14] (fun c j wr=>∃(kk cc:Nat),kk≤r∧j=.int .i64 kk∧c=.int .i64 cc∧cc<256∧Hid (cc=x / 2^kk)∧wr=W1) (fun _ j _=>r - (intOf j).toNat)
   case atStart=>exact ⟨0,x,by omega,rfl,rfl,hx,hid (by simp),rfl⟩
   case round =>
    obtain ⟨kk,cc,hkk,rfl,rfl,hcc,HC,rfl⟩:=hrel
    by_cases hl2:kk<r
    ·have HC2:Hid (cc / 2=x / 2^(kk+1)):=hid (by rw [HC.out,Nat.pow_succ,Nat.div_div_eq_div_mul])
     have hcv:Value.int .i64 ((cc:Int) / 2)=Value.int .i64 ((cc / 2:Nat):Int):=by congr 1
     have HCV:=hid hcv
     clear hcv
     go_wp2
     go_roundw
     case rel=>exact ⟨kk+1,cc / 2,by omega,by go_num,HCV.out,by omega,HC2,by first|rfl|trivial⟩
     case measure=>simp [intOf];omega
    ·have e:kk=r:=by omega
     subst e
     have HST:=hid (HBIT.out cc HC.out)
     clear HBIT HC HXq cx
     obtain ⟨l8,l9,l10,l11⟩:=HLT.out k
     by_cases hbit:cc%2=1
     ·have hbe:((cc:Int)%2==1)=true:=by simp;omega
      have HS:Hid (ladN u cb (k+1)=lstep u true (ladN u cb k)):=hid (by rw [ladN,HST.out,hbe])
      clear HST
      go_wp2_with (fail)
      refine (radd_walk H10.out H11.out N10 N11).mono ?_
      rintro e w11 ⟨A17,c17,y17,rfl,H17,N17,hb⟩
      replace N17:=N17.nums
      replace h4:=h4.next hb
      replace hB5:=hB5.next hb
      replace hW:=hW.trans (hb.mono hW.size)
      replace N6:=N6.below hb
      replace N7:=N7.below hb
      replace N8:=N8.below hb
      replace N9:=N9.below hb
      replace N10:=N10.below hb
      replace N11:=N11.below hb
      clear hb
      go_wp2_with (fail)
      refine (rsub_walk H10.out H11.out l10 l11 N10 N11).mono ?_
      rintro e w12 ⟨A18,c18,y18,rfl,H18,N18,hb⟩
      replace N18:=N18.nums
      replace h4:=h4.next hb
      replace hB5:=hB5.next hb
      replace hW:=hW.trans (hb.mono hW.size)
      replace N6:=N6.below hb
      replace N7:=N7.below hb
      replace N8:=N8.below hb
      replace N9:=N9.below hb
      replace N10:=N10.below hb
      replace N11:=N11.below hb
      replace N17:=N17.below hb
      clear hb
      go_wp2_with (fail)
      refine (rmul_walk H17.out H17.out N17 N17).mono ?_
      rintro e w13 ⟨A19,c19,y19,rfl,H19,N19,hb⟩
      replace N19:=N19.nums
      replace h4:=h4.next hb
      replace hB5:=hB5.next hb
      replace hW:=hW.trans (hb.mono hW.size)
      replace N6:=N6.below hb
      replace N7:=N7.below hb
      replace N8:=N8.below hb
      replace N9:=N9.below hb
      replace N10:=N10.below hb
      replace N11:=N11.below hb
      replace N17:=N17.below hb
      replace N18:=N18.below hb
      clear hb
      clear N17
      go_wp2_with (fail)
      refine (rmul_walk H18.out H18.out N18 N18).mono ?_
      rintro e w14 ⟨A20,c20,y20,rfl,H20,N20,hb⟩
      replace N20:=N20.nums
      replace h4:=h4.next hb
      replace hB5:=hB5.next hb
      replace hW:=hW.trans (hb.mono hW.size)
      replace N6:=N6.below hb
      replace N7:=N7.below hb
      replace N8:=N8.below hb
      replace N9:=N9.below hb
      replace N10:=N10.below hb
      replace N11:=N11.below hb
      replace N18:=N18.below hb
      replace N19:=N19.below hb
      clear hb
      clear N18
      go_wp2_with (fail)
      refine (rsub_walk H19.out H20.out (Nat.mod_lt _ pn_pos) (Nat.mod_lt _ pn_pos) N19 N20).mono ?_
      rintro e w15 ⟨A21,c21,y21,rfl,H21,N21,hb⟩
      replace N21:=N21.nums
      replace h4:=h4.next hb
      replace hB5:=hB5.next hb
      replace hW:=hW.trans (hb.mono hW.size)
      replace N6:=N6.below hb
      replace N7:=N7.below hb
      replace N8:=N8.below hb
      replace N9:=N9.below hb
      replace N10:=N10.below hb
      replace N11:=N11.below hb
      replace N19:=N19.below hb
      replace N20:=N20.below hb
      clear hb
      go_wp2_with (fail)
      refine (rmul_walk H19.out H20.out N19 N20).mono ?_
      rintro e w16 ⟨A22,c22,y22,rfl,H22,N22,hb⟩
      replace N22:=N22.nums
      replace h4:=h4.next hb
      replace hB5:=hB5.next hb
      replace hW:=hW.trans (hb.mono hW.size)
      replace N6:=N6.below hb
      replace N7:=N7.below hb
      replace N8:=N8.below hb
      replace N9:=N9.below hb
      replace N10:=N10.below hb
      replace N11:=N11.below hb
      replace N19:=N19.below hb
      replace N20:=N20.below hb
      replace N21:=N21.below hb
      clear hb
      clear N20
      go_wp2_with (fail)
      refine (rmul_walk H7.out H21.out N7 N21).mono ?_
      rintro e w17 ⟨A91,c91,y91,rfl,H91,N91,hb⟩
      replace N91:=N91.nums
      replace h4:=h4.next hb
      replace hB5:=hB5.next hb
      replace hW:=hW.trans (hb.mono hW.size)
      replace N6:=N6.below hb
      replace N7:=N7.below hb
      replace N8:=N8.below hb
      replace N9:=N9.below hb
      replace N10:=N10.below hb
      replace N11:=N11.below hb
      replace N19:=N19.below hb
      replace N21:=N21.below hb
      replace N22:=N22.below hb
      clear hb
      go_wp2_with (fail)
      refine (radd_walk H19.out H91.out N19 N91).mono ?_
      rintro e w18 ⟨A92,c92,y92,rfl,H92,N92,hb⟩
      replace N92:=N92.nums
      replace h4:=h4.next hb
      replace hB5:=hB5.next hb
      replace hW:=hW.trans (hb.mono hW.size)
      replace N6:=N6.below hb
      replace N7:=N7.below hb
      replace N8:=N8.below hb
      replace N9:=N9.below hb
      replace N10:=N10.below hb
      replace N11:=N11.below hb
      replace N19:=N19.below hb
      replace N21:=N21.below hb
      replace N22:=N22.below hb
      replace N91:=N91.below hb
      clear hb
      clear N91
      clear N19
      go_wp2_with (fail)
      refine (rmul_walk H21.out H92.out N21 N92).mono ?_
      rintro e w19 ⟨A23,c23,y23,rfl,H23,N23,hb⟩
      replace N23:=N23.nums
      replace h4:=h4.next hb
      replace hB5:=hB5.next hb
      replace hW:=hW.trans (hb.mono hW.size)
      replace N6:=N6.below hb
      replace N7:=N7.below hb
      replace N8:=N8.below hb
      replace N9:=N9.below hb
      replace N10:=N10.below hb
      replace N11:=N11.below hb
      replace N21:=N21.below hb
      replace N22:=N22.below hb
      replace N92:=N92.below hb
      clear hb
      clear N92
      clear N21
      go_wp2_with (fail)
      refine (rsub_walk H10.out H11.out l10 l11 N10 N11).mono ?_
      rintro e w20 ⟨A96,c96,y96,rfl,H96,N96,hb⟩
      replace N96:=N96.nums
      replace h4:=h4.next hb
      replace hB5:=hB5.next hb
      replace hW:=hW.trans (hb.mono hW.size)
      replace N6:=N6.below hb
      replace N7:=N7.below hb
      replace N8:=N8.below hb
      replace N9:=N9.below hb
      replace N10:=N10.below hb
      replace N11:=N11.below hb
      replace N22:=N22.below hb
      replace N23:=N23.below hb
      clear hb
      go_wp2_with (fail)
      refine (radd_walk H8.out H9.out N8 N9).mono ?_
      rintro e w21 ⟨A99,c99,y99,rfl,H99,N99,hb⟩
      replace N99:=N99.nums
      replace h4:=h4.next hb
      replace hB5:=hB5.next hb
      replace hW:=hW.trans (hb.mono hW.size)
      replace N6:=N6.below hb
      replace N7:=N7.below hb
      replace N8:=N8.below hb
      replace N9:=N9.below hb
      replace N10:=N10.below hb
      replace N11:=N11.below hb
      replace N22:=N22.below hb
      replace N23:=N23.below hb
      replace N96:=N96.below hb
      clear hb
      go_wp2_with (fail)
      refine (rmul_walk H96.out H99.out N96 N99).mono ?_
      rintro e w22 ⟨A24,c24,y24,rfl,H24,N24,hb⟩
      replace N24:=N24.nums
      replace h4:=h4.next hb
      replace hB5:=hB5.next hb
      replace hW:=hW.trans (hb.mono hW.size)
      replace N6:=N6.below hb
      replace N7:=N7.below hb
      replace N8:=N8.below hb
      replace N9:=N9.below hb
      replace N10:=N10.below hb
      replace N11:=N11.below hb
      replace N22:=N22.below hb
      replace N23:=N23.below hb
      replace N96:=N96.below hb
      replace N99:=N99.below hb
      clear hb
      clear N96
      clear N99
      go_wp2_with (fail)
      refine (radd_walk H10.out H11.out N10 N11).mono ?_
      rintro e w23 ⟨A103,c103,y103,rfl,H103,N103,hb⟩
      replace N103:=N103.nums
      replace h4:=h4.next hb
      replace hB5:=hB5.next hb
      replace hW:=hW.trans (hb.mono hW.size)
      replace N6:=N6.below hb
      replace N7:=N7.below hb
      replace N8:=N8.below hb
      replace N9:=N9.below hb
      replace N10:=N10.below hb
      replace N11:=N11.below hb
      replace N22:=N22.below hb
      replace N23:=N23.below hb
      replace N24:=N24.below hb
      clear hb
      clear N10
      clear N11
      go_wp2_with (fail)
      refine (rsub_walk H8.out H9.out l8 l9 N8 N9).mono ?_
      rintro e w24 ⟨A106,c106,y106,rfl,H106,N106,hb⟩
      replace N106:=N106.nums
      replace h4:=h4.next hb
      replace hB5:=hB5.next hb
      replace hW:=hW.trans (hb.mono hW.size)
      replace N6:=N6.below hb
      replace N7:=N7.below hb
      replace N8:=N8.below hb
      replace N9:=N9.below hb
      replace N22:=N22.below hb
      replace N23:=N23.below hb
      replace N24:=N24.below hb
      replace N103:=N103.below hb
      clear hb
      clear N8
      clear N9
      go_wp2_with (fail)
      refine (rmul_walk H103.out H106.out N103 N106).mono ?_
      rintro e w25 ⟨A25,c25,y25,rfl,H25,N25,hb⟩
      replace N25:=N25.nums
      replace h4:=h4.next hb
      replace hB5:=hB5.next hb
      replace hW:=hW.trans (hb.mono hW.size)
      replace N6:=N6.below hb
      replace N7:=N7.below hb
      replace N22:=N22.below hb
      replace N23:=N23.below hb
      replace N24:=N24.below hb
      replace N103:=N103.below hb
      replace N106:=N106.below hb
      clear hb
      clear N103
      clear N106
      go_wp2_with (fail)
      refine (radd_walk H24.out H25.out N24 N25).mono ?_
      rintro e w26 ⟨A26,c26,y26,rfl,H26,N26,hb⟩
      replace N26:=N26.nums
      replace h4:=h4.next hb
      replace hB5:=hB5.next hb
      replace hW:=hW.trans (hb.mono hW.size)
      replace N6:=N6.below hb
      replace N7:=N7.below hb
      replace N22:=N22.below hb
      replace N23:=N23.below hb
      replace N24:=N24.below hb
      replace N25:=N25.below hb
      clear hb
      go_wp2_with (fail)
      refine (rsub_walk H24.out H25.out (Nat.mod_lt _ pn_pos) (Nat.mod_lt _ pn_pos) N24 N25).mono ?_
      rintro e w27 ⟨A27,c27,y27,rfl,H27,N27,hb⟩
      replace N27:=N27.nums
      replace h4:=h4.next hb
      replace hB5:=hB5.next hb
      replace hW:=hW.trans (hb.mono hW.size)
      replace N6:=N6.below hb
      replace N7:=N7.below hb
      replace N22:=N22.below hb
      replace N23:=N23.below hb
      replace N24:=N24.below hb
      replace N25:=N25.below hb
      replace N26:=N26.below hb
      clear hb
      clear N24
      clear N25
      go_wp2_with (fail)
      refine (rmul_walk H26.out H26.out N26 N26).mono ?_
      rintro e w28 ⟨A28,c28,y28,rfl,H28,N28,hb⟩
      replace N28:=N28.nums
      replace h4:=h4.next hb
      replace hB5:=hB5.next hb
      replace hW:=hW.trans (hb.mono hW.size)
      replace N6:=N6.below hb
      replace N7:=N7.below hb
      replace N22:=N22.below hb
      replace N23:=N23.below hb
      replace N26:=N26.below hb
      replace N27:=N27.below hb
      clear hb
      clear N26
      go_wp2_with (fail)
      refine (rmul_walk H27.out H27.out N27 N27).mono ?_
      rintro e w29 ⟨A120,c120,y120,rfl,H120,N120,hb⟩
      replace N120:=N120.nums
      replace h4:=h4.next hb
      replace hB5:=hB5.next hb
      replace hW:=hW.trans (hb.mono hW.size)
      replace N6:=N6.below hb
      replace N7:=N7.below hb
      replace N22:=N22.below hb
      replace N23:=N23.below hb
      replace N27:=N27.below hb
      replace N28:=N28.below hb
      clear hb
      clear N27
      go_wp2_with (fail)
      refine (rmul_walk H6.out H120.out N6 N120).mono ?_
      rintro e w30 ⟨A29,c29,y29,rfl,H29,N29,hb⟩
      replace N29:=N29.nums
      replace h4:=h4.next hb
      replace hB5:=hB5.next hb
      replace hW:=hW.trans (hb.mono hW.size)
      replace N6:=N6.below hb
      replace N7:=N7.below hb
      replace N22:=N22.below hb
      replace N23:=N23.below hb
      replace N28:=N28.below hb
      replace N120:=N120.below hb
      clear hb
      clear N120
      go_wp2_with (fail)
      go_roundw
      case rel=>exact ⟨k+1,(n:Int) - 1,A28,A29,A22,A23,c28,c29,c22,c23,y28,y29,y22,y23,by omega,rfl,rfl,rfl,rfl,rfl,hid (by have:=HBK.out;omega),hid (by rw [HS.out];exact H28.out),hid (by rw [HS.out];exact H29.out),hid (by rw [HS.out];exact H22.out),hid (by rw [HS.out];exact H23.out),N28,N29,N22,N23,N6,N7,h4,hB5,hW⟩
      case measure=>simp [intOf]
     ·have hbe:((cc:Int)%2==1)=false:=by simp;omega
      have HS:Hid (ladN u cb (k+1)=lstep u false (ladN u cb k)):=hid (by rw [ladN,HST.out,hbe])
      clear HST
      go_wp2_with (fail)
      refine (radd_walk H8.out H9.out N8 N9).mono ?_
      rintro e w11 ⟨A17,c17,y17,rfl,H17,N17,hb⟩
      replace N17:=N17.nums
      replace h4:=h4.next hb
      replace hB5:=hB5.next hb
      replace hW:=hW.trans (hb.mono hW.size)
      replace N6:=N6.below hb
      replace N7:=N7.below hb
      replace N8:=N8.below hb
      replace N9:=N9.below hb
      replace N10:=N10.below hb
      replace N11:=N11.below hb
      clear hb
      go_wp2_with (fail)
      refine (rsub_walk H8.out H9.out l8 l9 N8 N9).mono ?_
      rintro e w12 ⟨A18,c18,y18,rfl,H18,N18,hb⟩
      replace N18:=N18.nums
      replace h4:=h4.next hb
      replace hB5:=hB5.next hb
      replace hW:=hW.trans (hb.mono hW.size)
      replace N6:=N6.below hb
      replace N7:=N7.below hb
      replace N8:=N8.below hb
      replace N9:=N9.below hb
      replace N10:=N10.below hb
      replace N11:=N11.below hb
      replace N17:=N17.below hb
      clear hb
      go_wp2_with (fail)
      refine (rmul_walk H17.out H17.out N17 N17).mono ?_
      rintro e w13 ⟨A19,c19,y19,rfl,H19,N19,hb⟩
      replace N19:=N19.nums
      replace h4:=h4.next hb
      replace hB5:=hB5.next hb
      replace hW:=hW.trans (hb.mono hW.size)
      replace N6:=N6.below hb
      replace N7:=N7.below hb
      replace N8:=N8.below hb
      replace N9:=N9.below hb
      replace N10:=N10.below hb
      replace N11:=N11.below hb
      replace N17:=N17.below hb
      replace N18:=N18.below hb
      clear hb
      clear N17
      go_wp2_with (fail)
      refine (rmul_walk H18.out H18.out N18 N18).mono ?_
      rintro e w14 ⟨A20,c20,y20,rfl,H20,N20,hb⟩
      replace N20:=N20.nums
      replace h4:=h4.next hb
      replace hB5:=hB5.next hb
      replace hW:=hW.trans (hb.mono hW.size)
      replace N6:=N6.below hb
      replace N7:=N7.below hb
      replace N8:=N8.below hb
      replace N9:=N9.below hb
      replace N10:=N10.below hb
      replace N11:=N11.below hb
      replace N18:=N18.below hb
      replace N19:=N19.below hb
      clear hb
      clear N18
      go_wp2_with (fail)
      refine (rsub_walk H19.out H20.out (Nat.mod_lt _ pn_pos) (Nat.mod_lt _ pn_pos) N19 N20).mono ?_
      rintro e w15 ⟨A21,c21,y21,rfl,H21,N21,hb⟩
      replace N21:=N21.nums
      replace h4:=h4.next hb
      replace hB5:=hB5.next hb
      replace hW:=hW.trans (hb.mono hW.size)
      replace N6:=N6.below hb
      replace N7:=N7.below hb
      replace N8:=N8.below hb
      replace N9:=N9.below hb
      replace N10:=N10.below hb
      replace N11:=N11.below hb
      replace N19:=N19.below hb
      replace N20:=N20.below hb
      clear hb
      go_wp2_with (fail)
      refine (rmul_walk H19.out H20.out N19 N20).mono ?_
      rintro e w16 ⟨A22,c22,y22,rfl,H22,N22,hb⟩
      replace N22:=N22.nums
      replace h4:=h4.next hb
      replace hB5:=hB5.next hb
      replace hW:=hW.trans (hb.mono hW.size)
      replace N6:=N6.below hb
      replace N7:=N7.below hb
      replace N8:=N8.below hb
      replace N9:=N9.below hb
      replace N10:=N10.below hb
      replace N11:=N11.below hb
      replace N19:=N19.below hb
      replace N20:=N20.below hb
      replace N21:=N21.below hb
      clear hb
      clear N20
      go_wp2_with (fail)
      refine (rmul_walk H7.out H21.out N7 N21).mono ?_
      rintro e w17 ⟨A91,c91,y91,rfl,H91,N91,hb⟩
      replace N91:=N91.nums
      replace h4:=h4.next hb
      replace hB5:=hB5.next hb
      replace hW:=hW.trans (hb.mono hW.size)
      replace N6:=N6.below hb
      replace N7:=N7.below hb
      replace N8:=N8.below hb
      replace N9:=N9.below hb
      replace N10:=N10.below hb
      replace N11:=N11.below hb
      replace N19:=N19.below hb
      replace N21:=N21.below hb
      replace N22:=N22.below hb
      clear hb
      go_wp2_with (fail)
      refine (radd_walk H19.out H91.out N19 N91).mono ?_
      rintro e w18 ⟨A92,c92,y92,rfl,H92,N92,hb⟩
      replace N92:=N92.nums
      replace h4:=h4.next hb
      replace hB5:=hB5.next hb
      replace hW:=hW.trans (hb.mono hW.size)
      replace N6:=N6.below hb
      replace N7:=N7.below hb
      replace N8:=N8.below hb
      replace N9:=N9.below hb
      replace N10:=N10.below hb
      replace N11:=N11.below hb
      replace N19:=N19.below hb
      replace N21:=N21.below hb
      replace N22:=N22.below hb
      replace N91:=N91.below hb
      clear hb
      clear N91
      clear N19
      go_wp2_with (fail)
      refine (rmul_walk H21.out H92.out N21 N92).mono ?_
      rintro e w19 ⟨A23,c23,y23,rfl,H23,N23,hb⟩
      replace N23:=N23.nums
      replace h4:=h4.next hb
      replace hB5:=hB5.next hb
      replace hW:=hW.trans (hb.mono hW.size)
      replace N6:=N6.below hb
      replace N7:=N7.below hb
      replace N8:=N8.below hb
      replace N9:=N9.below hb
      replace N10:=N10.below hb
      replace N11:=N11.below hb
      replace N21:=N21.below hb
      replace N22:=N22.below hb
      replace N92:=N92.below hb
      clear hb
      clear N92
      clear N21
      go_wp2_with (fail)
      refine (rsub_walk H10.out H11.out l10 l11 N10 N11).mono ?_
      rintro e w20 ⟨A96,c96,y96,rfl,H96,N96,hb⟩
      replace N96:=N96.nums
      replace h4:=h4.next hb
      replace hB5:=hB5.next hb
      replace hW:=hW.trans (hb.mono hW.size)
      replace N6:=N6.below hb
      replace N7:=N7.below hb
      replace N8:=N8.below hb
      replace N9:=N9.below hb
      replace N10:=N10.below hb
      replace N11:=N11.below hb
      replace N22:=N22.below hb
      replace N23:=N23.below hb
      clear hb
      go_wp2_with (fail)
      refine (radd_walk H8.out H9.out N8 N9).mono ?_
      rintro e w21 ⟨A99,c99,y99,rfl,H99,N99,hb⟩
      replace N99:=N99.nums
      replace h4:=h4.next hb
      replace hB5:=hB5.next hb
      replace hW:=hW.trans (hb.mono hW.size)
      replace N6:=N6.below hb
      replace N7:=N7.below hb
      replace N8:=N8.below hb
      replace N9:=N9.below hb
      replace N10:=N10.below hb
      replace N11:=N11.below hb
      replace N22:=N22.below hb
      replace N23:=N23.below hb
      replace N96:=N96.below hb
      clear hb
      go_wp2_with (fail)
      refine (rmul_walk H96.out H99.out N96 N99).mono ?_
      rintro e w22 ⟨A24,c24,y24,rfl,H24,N24,hb⟩
      replace N24:=N24.nums
      replace h4:=h4.next hb
      replace hB5:=hB5.next hb
      replace hW:=hW.trans (hb.mono hW.size)
      replace N6:=N6.below hb
      replace N7:=N7.below hb
      replace N8:=N8.below hb
      replace N9:=N9.below hb
      replace N10:=N10.below hb
      replace N11:=N11.below hb
      replace N22:=N22.below hb
      replace N23:=N23.below hb
      replace N96:=N96.below hb
      replace N99:=N99.below hb
      clear hb
      clear N96
      clear N99
      go_wp2_with (fail)
      refine (radd_walk H10.out H11.out N10 N11).mono ?_
      rintro e w23 ⟨A103,c103,y103,rfl,H103,N103,hb⟩
      replace N103:=N103.nums
      replace h4:=h4.next hb
      replace hB5:=hB5.next hb
      replace hW:=hW.trans (hb.mono hW.size)
      replace N6:=N6.below hb
      replace N7:=N7.below hb
      replace N8:=N8.below hb
      replace N9:=N9.below hb
      replace N10:=N10.below hb
      replace N11:=N11.below hb
      replace N22:=N22.below hb
      replace N23:=N23.below hb
      replace N24:=N24.below hb
      clear hb
      clear N10
      clear N11
      go_wp2_with (fail)
      refine (rsub_walk H8.out H9.out l8 l9 N8 N9).mono ?_
      rintro e w24 ⟨A106,c106,y106,rfl,H106,N106,hb⟩
      replace N106:=N106.nums
      replace h4:=h4.next hb
      replace hB5:=hB5.next hb
      replace hW:=hW.trans (hb.mono hW.size)
      replace N6:=N6.below hb
      replace N7:=N7.below hb
      replace N8:=N8.below hb
      replace N9:=N9.below hb
      replace N22:=N22.below hb
      replace N23:=N23.below hb
      replace N24:=N24.below hb
      replace N103:=N103.below hb
      clear hb
      clear N8
      clear N9
      go_wp2_with (fail)
      refine (rmul_walk H103.out H106.out N103 N106).mono ?_
      rintro e w25 ⟨A25,c25,y25,rfl,H25,N25,hb⟩
      replace N25:=N25.nums
      replace h4:=h4.next hb
      replace hB5:=hB5.next hb
      replace hW:=hW.trans (hb.mono hW.size)
      replace N6:=N6.below hb
      replace N7:=N7.below hb
      replace N22:=N22.below hb
      replace N23:=N23.below hb
      replace N24:=N24.below hb
      replace N103:=N103.below hb
      replace N106:=N106.below hb
      clear hb
      clear N103
      clear N106
      go_wp2_with (fail)
      refine (radd_walk H24.out H25.out N24 N25).mono ?_
      rintro e w26 ⟨A26,c26,y26,rfl,H26,N26,hb⟩
      replace N26:=N26.nums
      replace h4:=h4.next hb
      replace hB5:=hB5.next hb
      replace hW:=hW.trans (hb.mono hW.size)
      replace N6:=N6.below hb
      replace N7:=N7.below hb
      replace N22:=N22.below hb
      replace N23:=N23.below hb
      replace N24:=N24.below hb
      replace N25:=N25.below hb
      clear hb
      go_wp2_with (fail)
      refine (rsub_walk H24.out H25.out (Nat.mod_lt _ pn_pos) (Nat.mod_lt _ pn_pos) N24 N25).mono ?_
      rintro e w27 ⟨A27,c27,y27,rfl,H27,N27,hb⟩
      replace N27:=N27.nums
      replace h4:=h4.next hb
      replace hB5:=hB5.next hb
      replace hW:=hW.trans (hb.mono hW.size)
      replace N6:=N6.below hb
      replace N7:=N7.below hb
      replace N22:=N22.below hb
      replace N23:=N23.below hb
      replace N24:=N24.below hb
      replace N25:=N25.below hb
      replace N26:=N26.below hb
      clear hb
      clear N24
      clear N25
      go_wp2_with (fail)
      refine (rmul_walk H26.out H26.out N26 N26).mono ?_
      rintro e w28 ⟨A28,c28,y28,rfl,H28,N28,hb⟩
      replace N28:=N28.nums
      replace h4:=h4.next hb
      replace hB5:=hB5.next hb
      replace hW:=hW.trans (hb.mono hW.size)
      replace N6:=N6.below hb
      replace N7:=N7.below hb
      replace N22:=N22.below hb
      replace N23:=N23.below hb
      replace N26:=N26.below hb
      replace N27:=N27.below hb
      clear hb
      clear N26
      go_wp2_with (fail)
      refine (rmul_walk H27.out H27.out N27 N27).mono ?_
      rintro e w29 ⟨A120,c120,y120,rfl,H120,N120,hb⟩
      replace N120:=N120.nums
      replace h4:=h4.next hb
      replace hB5:=hB5.next hb
      replace hW:=hW.trans (hb.mono hW.size)
      replace N6:=N6.below hb
      replace N7:=N7.below hb
      replace N22:=N22.below hb
      replace N23:=N23.below hb
      replace N27:=N27.below hb
      replace N28:=N28.below hb
      clear hb
      clear N27
      go_wp2_with (fail)
      refine (rmul_walk H6.out H120.out N6 N120).mono ?_
      rintro e w30 ⟨A29,c29,y29,rfl,H29,N29,hb⟩
      replace N29:=N29.nums
      replace h4:=h4.next hb
      replace hB5:=hB5.next hb
      replace hW:=hW.trans (hb.mono hW.size)
      replace N6:=N6.below hb
      replace N7:=N7.below hb
      replace N22:=N22.below hb
      replace N23:=N23.below hb
      replace N28:=N28.below hb
      replace N120:=N120.below hb
      clear hb
      clear N120
      go_wp2_with (fail)
      go_roundw
      case rel=>exact ⟨k+1,(n:Int) - 1,A22,A23,A28,A29,c22,c23,c28,c29,y22,y23,y28,y29,by omega,rfl,rfl,rfl,rfl,rfl,hid (by have:=HBK.out;omega),hid (by rw [HS.out];exact H22.out),hid (by rw [HS.out];exact H23.out),hid (by rw [HS.out];exact H28.out),hid (by rw [HS.out];exact H29.out),N22,N23,N28,N29,N6,N7,h4,hB5,hW⟩
      case measure=>simp [intOf]
  ·have e:k=255:=by omega
   have hb0:b<0:=by have:=HBK.out;omega
   rw [e] at H8 H9
   obtain ⟨_,l9,_,_⟩:=HLT.out 255
   clear e HBK N6 N7 N10 N11
   generalize ladN u cb 255=S at *
   go_wp2_with (fail)
   refine (rp_out _).mono ?_
   rintro e w41 ⟨Ap,cp,yp,rfl,Hp,Np,hb⟩
   replace Np:=Np.nums
   replace h4:=h4.next hb
   replace hB5:=hB5.next hb
   replace hW:=hW.trans (hb.mono hW.size)
   replace N8:=N8.below hb
   replace N9:=N9.below hb
   clear hb
   go_wp2_with (fail)
   refine (rsmall_out 2 (by omega) _).mono ?_
   rintro e w42 ⟨As,cs,ys,rfl,Hs,Ns,hb⟩
   replace Ns:=Ns.nums
   replace h4:=h4.next hb
   replace hB5:=hB5.next hb
   replace hW:=hW.trans (hb.mono hW.size)
   replace N8:=N8.below hb
   replace N9:=N9.below hb
   replace Np:=Np.below hb
   clear hb
   go_wp2_with (fail)
   refine (rless_out Hp.out Hs.out (by decide) Np Ns).mono ?_
   rintro e w43 ⟨Ad,cd,yd,rfl,Hd,Nd,hb⟩
   replace Nd:=Nd.nums
   replace h4:=h4.next hb
   replace hB5:=hB5.next hb
   replace hW:=hW.trans (hb.mono hW.size)
   replace N8:=N8.below hb
   replace N9:=N9.below hb
   replace Np:=Np.below hb
   replace Ns:=Ns.below hb
   clear hb
   clear Np
   clear Ns
   go_wp2_with (fail)
   refine (rbytes_out Hd.out Nd).mono ?_
   rintro e w50 ⟨rfl,hb⟩
   clear Nd
   replace h4:=h4.next hb
   replace hW:=hW.trans (hb.mono hW.size)
   replace N8:=N8.below hb
   replace N9:=N9.below hb
   clear hb
   go_wp2_with (fail)
   refine (rpower_walk H9.out l9 (rbytes_length _) (rbytes_byt _) N9).mono ?_
   rintro e w51 ⟨At,ct,yt,rfl,Ht,Nt,hb⟩
   rw [pm2_bytes] at Ht
   replace Nt:=Nt.nums
   replace h4:=h4.next hb
   replace hW:=hW.trans (hb.mono hW.size)
   replace N8:=N8.below hb
   clear hb N9
   go_wp2_with (fail)
   refine (rmul_walk H8.out Ht.out N8 Nt).mono ?_
   rintro e w52 ⟨Ar,cr,yr,rfl,Hr,Nr,hb⟩
   replace Nr:=Nr.nums
   replace h4:=h4.next hb
   replace hW:=hW.trans (hb.mono hW.size)
   clear hb N8 Nt
   go_wp2_with (fail)
   refine (rbytes_out Hr.out Nr).mono ?_
   rintro e w53 ⟨rfl,hb⟩
   replace h4:=h4.next hb
   replace hW:=hW.trans (hb.mono hW.size)
   clear hb Nr
   have LM:Hid (m.length=32):=hid (by rw [←hm.out];exact rbytes_length _)
   have em:rbytes (S.a*(S.b^(NT.PN - 2)%NT.PN)%NT.PN)=m:=hm.out
   rw [em]
   have r4:=h4.room LM.out
   have hf4:=h4.stored LM.out
   replace hW:=Below.setCells hW (g:=W.heap.size+1+1) (by omega) 0 (ints .u8 m).toArray.toList
   clear h4 em Hr Ht
   go_wp2_with (first
    | (with_reducible refine wpList_store_mid (op:=⟨none,.store 22 (.tmp 4) (.tmp 141),_,_,_,_⟩) rfl 22 (.tmp 4) (.tmp 141) rfl (W.heap.size+1+1) 0 (ints .u8 m).toArray rfl rfl r4 (a22 LM.out) (ints_all _ _) ?_))
   exact ret_rows rfl (W.heap.size+1+1) 0 rfl (ints .u8 m) _ hf4.range Tryz.underlying22 rfl (l22 LM.out) rfl ⟨rfl,hW⟩
theorem c_rladder {sb pb:List Int} (ls:sb.length=32) (bs:Byt sb) (lp:pb.length=32) (bp:Byt pb):CallsTo 19 #[.agg (ints .u8 sb).toArray,.agg (ints .u8 pb).toArray] (.agg (ints .u8 (rbytes (mulN sb (uOf pb)))).toArray) :=
 rladder_core ls lp ((clampL_length sb).trans ls) (hid (clampL_byt bs ls)) (hid (c_rclamp ls bs)) (hid (fun _=>rof_out lp bp (uOf_nm bp))) (hid (uOf_nm bp).lt) (hid rfl)
end Go.Proofs.YtkblmdakejmmhaaGreatDoor
