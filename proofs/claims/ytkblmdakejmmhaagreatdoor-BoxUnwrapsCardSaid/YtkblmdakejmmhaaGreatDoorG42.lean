import Derived.Test.YtkblmdakejmmhaaGreatDoorG41
import Derived.Deep.RegionWith
import Derived.Test.YtkblmdakejmmhaaGreatDoorG38
namespace Go.Proofs.YtkblmdakejmmhaaGreatDoor
open Go Go.RowKit
section
set_option maxRecDepth 50000
def slLen:Value→Nat
 | .slice _ m _=>m
 | _=>0
theorem zeros_nil:zeros 0=[]:=rfl
theorem zeros_snoc (j:Nat):zeros (j+1)=zeros j++[0]:=by unfold zeros;rw [List.replicate_succ',]
def FillIs (n f:Nat):Prop:=(∀j,j<f→(n+j)%16≠0)∧(n+f)%16=0∧n+f≤1000
set_option maxHeartbeats 4000000 in
theorem rtag11_core (key nonce be hi bl K P2 T1 T r:List Int) (AB AH:Option Addr) (lb cb lh ch f g n2:Nat) (w:World) (hk:Hid (key.length=32)) (hn:Hid (nonce.length=12)) (hkb:HByt key) (hnb:HByt nonce) (HBL:Hid (blockL key nonce 0=bl)) (HBLL:Hid (bl.length=64)) (HK:Hid (∀i,i<32→bl[i]? = K[i]?)) (HKL:Hid (K.length=32)) (HKB:Hid (Byt K))
 (HLB4:Hid (lb≤1000)) (HLH4:Hid (lh≤1000)) (HF:Hid (FillIs lb f)) (HG:Hid (FillIs n2 g)) (HP2:Hid ((be++zeros f)++hi=P2)) (HP2L:Hid (P2.length=n2)) (PBL:Hid (be.length=lb)) (PHL:Hid (hi.length=lh)) (L8:Hid ((le8 lb).length=8)) (L9:Hid ((le8 lh).length=8))
 (HT1:Hid ((P2++zeros g)++le8 lb=T1)) (HT:Hid (T1++le8 lh=T)) (HTL:Hid (T1.length≤1016)) (HTN:Hid (T.length≤1000)) (HTB:Hid (Byt T)) (HR:Hid (tagL K T=r)) (HRL:Hid (r.length=16)) (hB:Nums w .u8 AB be) (hH:Nums w .u8 AH hi) :
 Calls Tryz.prog 44 #[.agg (ints .u8 key).toArray,.agg (ints .u8 nonce).toArray,.slice AB lb cb,.slice AH lh ch] w fun e w'=>e=.returned (.agg (ints .u8 r).toArray)∧Below w.heap.size w w':=by
 obtain ⟨z33,s33⟩:=zero_of_info inf33
 obtain ⟨z22,s22⟩:=zero_of_info inf41
 have hK:=((Arr.made w .u8 key 22).alloc (.cells (ints .u8 nonce).toArray 40)).alloc (.cells (ints .u8 (zeros 16)).toArray 54)
 have hN:=(Arr.made (w.alloc (.cells (ints .u8 key).toArray 22)) .u8 nonce 40).alloc (.cells (ints .u8 (zeros 16)).toArray 54)
 have h8:=Rw.new ((w.alloc (.cells (ints .u8 key).toArray 22)).alloc (.cells (ints .u8 nonce).toArray 40)) (ints .u8 (zeros 16)) 54
 have hW:=((below_new w (.cells (ints .u8 key).toArray 22)).alloc (by simp) (.cells (ints .u8 nonce).toArray 40)).alloc (by simp;omega) (.cells (ints .u8 (zeros 16)).toArray 54)
 rw [World.size_alloc] at hN
 rw [World.size_alloc,World.size_alloc] at h8
 replace hB:=hB.below hW
 replace hH:=hH.below hW
 have r4:=hK.range
 have r5:=hN.range
 clear hK hN
 have i32:(Tryz.prog.info? 22).map (·.size)=some (ints .u8 key).length:=szV inf41 (il hk.out)
 have i12:(Tryz.prog.info? 40).map (·.size)=some (ints .u8 nonce).length:=szV infNo (il hn.out)
 have hcw:Hid (WdZ 0):=hid ⟨by omega,by omega⟩
 go_enter Tryz.func44,Tryz.ntmps44
 go_wp2_with (first
  | (with_reducible refine wpList_load_mid (op:=⟨some 17,.load 22 (.tmp 4),_,_,_,_⟩) rfl 22 (.tmp 4) rfl w.heap.size 0 rfl (ints .u8 key) _ r4 Tryz.underlying22 rfl i32 ?_)
  | (with_reducible refine wpList_load_mid (op:=⟨some 18,.load 40 (.tmp 5),_,_,_,_⟩) rfl 40 (.tmp 5) rfl (w.heap.size+1) 0 rfl (ints .u8 nonce) _ r5 Tryz.underlying40 rfl i12 ?_)
  | (go_at_call 68;clear r4 r5;generalize ((w.alloc (.cells (ints .u8 key).toArray 22)).alloc (.cells (ints .u8 nonce).toArray 40)).alloc (.cells (ints .u8 (zeros 16)).toArray 54)=w8 at *;refine (rblock_any key nonce 0 _ hk hn hkb hnb hcw).mono ?_;rintro e w9 ⟨A9,d9,rfl,hO9,hb9⟩
     rw [HBL.out] at hO9
     have hX9:=hO9.nums
     replace h8:=h8.next hb9
     replace hB:=hB.below hb9
     replace hH:=hH.below hb9
     replace hW:=hW.trans (Below.mono hb9 hW.size)
     clear hb9 hO9))
 have hbw:=h8.lt (by rw [il (zeros_len 16)];decide)
 have e0:zeros 32=fillK K 0:=by rw [fillK_zero,HKL.out];rfl
 have h10:Arr (w9.alloc (.cells (ints .u8 (zeros 32)).toArray 22)) w9.heap.size 0 .u8 (fillK K 0):=by rw [←e0];exact Arr.made w9 .u8 (zeros 32) 22
 have hb10:=below_new w9 (.cells (ints .u8 (zeros 32)).toArray 22)
 have hl9:w9.heap.size<(w9.alloc (.cells (ints .u8 (zeros 32)).toArray 22)).heap.size:=by simp
 generalize (w9.alloc (.cells (ints .u8 (zeros 32)).toArray 22))=w10 at *
 have hBv:=hB.under.stay hb10
 have hHv:=hH.under.stay hb10
 generalize hb10e:w9.heap.size=b10 at *
 replace h8:=h8.next (hb10e▸hb10)
 clear hB hH
 replace hW:=hW.trans (Below.mono hb10 (hb10e▸hW.size))
 have hX9u:=hX9.under
 have hBu:NumsD b10 w10 .u8 AB be:=hBv
 have hHu:NumsD b10 w10 .u8 AH hi:=hHv
 rw [hb10e] at hX9u
 replace hX9u:=hX9u.stay hb10
 clear hX9 hb10 hb10e e0 hBv hHv
 go_loopw [11] (fun i wr=>∃k:Nat,k≤32∧i=.int .i64 k∧Arr wr b10 0 .u8 (fillK K k)∧Only b10 w10 wr) (fun i _=>32 - (intOf i).toNat)
 case atStart=>exact ⟨0,by omega,rfl,h10,Only.refl _ _⟩
 case round =>
 clear h10
 obtain ⟨k,hk,rfl,h10,hO10⟩:=hrel
 by_cases hlt:k<32
 ·have hbr:Below b10 w10 wr:=hO10.below (Nat.le_refl _) (by omega)
  have hk0:(0:Int)≤k:=by omega
  have hk1:(k:Int)<32:=by omega
  have hk2:(k:Int)<64:=by omega
  have hXr:=(hX9u.stay hbr).nums (by have:=hbr.size;omega)
  obtain ⟨g1,o1,x,rfl,_,hc1,H1⟩:=hXr.get (i:=k) (by rw [HBLL.out];omega)
  obtain ⟨y,cyZ,fy,_⟩:=h10.spot (i:=k) (by rw [fillK_length,HKL.out];exact hlt)
  rw [Nat.zero_add] at cyZ fy
  have hset:=h10.set k x
  rw [Nat.zero_add,fillK_set K (by rw [←HK.out k hlt];exact H1.out)] at hset
  have hO11:=hO10.setCell (p:=⟨b10,k,none⟩) (.inl rfl) (.int .u8 x)
  clear h10 hO10 hXr hbr
  go_wp2
  go_roundw
  case rel=>exact ⟨k+1,by omega,by go_num,hset,hO11⟩
  case measure=>simp [intOf];omega
 have e:k=32:=by omega
 subst e
 have e32:fillK K 32=K:=by rw [←HKL.out,fillK_end]
 rw [e32] at h10
 have hbr:Below b10 w10 wr:=hO10.below (Nat.le_refl _) (by omega)
 replace h8:=(h8.arr.below hbr hbw).rw
 have hz0:=hbr.size
 have hB:=(hBu.stay hbr).nums (by omega)
 have hH:=(hHu.stay hbr).nums (by omega)
 have hl10:b10<wr.heap.size:=by omega
 have hW0:Below w.heap.size w wr:=hW.trans (hbr.mono (by omega))
 clear e32 hbr hO10 hlt hk hX9u hBu hHu hW hz0
 generalize wr=W0 at *
 go_wp2_with (at_builtin;refine app_nums rfl (.tmp 30) (.tmp 31) 23 rfl W0.heap.size 5 .u8 1 Tryz.underlying23 Tryz.info5 (by omega) none 0 0 [] rfl (Owns.none_ _ _ _ _) AB cb be (by rw [PBL.out];rfl) hB (by have:=HLB4.out;rw [PBL.out,List.length_nil];omega) (Nat.le_refl _) ?_;intro A1 n1 c1 wa hO hG)
 rw [List.nil_append] at hO
 have hB0:Below W0.heap.size W0 wa:=hG.below (Nat.le_refl _) (fun g e=>by cases e)
 clear hG
 go_loopw [12] (fun v12 wr=>∃(j:Nat) (A:Option Addr) (m c:Nat),j≤f∧v12=.slice A m c∧m=lb+j∧Owns wr W0.heap.size 5 .u8 (.slice A m c) (be++zeros j)∧Below W0.heap.size W0 wr) (fun v12 _=>lb+f - slLen v12)
 case atStart=>exact ⟨0,_,_,_,Nat.zero_le _,rfl,by rw [hO.len,PBL.out];rfl,by rw [zeros_nil,List.append_nil];exact hO,hB0⟩
 case round =>
 clear hO hB0
 obtain ⟨j,A,m,c,hj,rfl,hm,hO,hB0⟩:=hrel
 have hsz:=hB0.size
 have hmb:m≤2000:=by have:=HF.out.2;omega
 by_cases hlt:j<f
 ·have HLL:Hid ((be++zeros j).length≤2000):=hid (by rw [←hO.len];exact hmb)
  obtain ⟨q,hq⟩:∃q,((m:Nat):Int).tmod 16=q:=⟨_,rfl⟩
  have hq0:q≠0:=by rw [←hq,Int.tmod_eq_emod_of_nonneg (by omega)];have:=HF.out.1 j hlt;omega
  have hq1:0≤q:=by rw [←hq,Int.tmod_eq_emod_of_nonneg (by omega)];omega
  have hq2:q<16:=by rw [←hq,Int.tmod_eq_emod_of_nonneg (by omega)];omega
  have HM:=hid hm
  have hj1:j+1≤f:=by omega
  have hjm:lb+f - (lb+(j+1))<lb+f - (lb+j):=by omega
  have HJM:=hid hjm
  clear hjm
  have hdb:(q != 0)=true:=bne_iff_ne.2 hq0
  clear hm hmb hlt
  go_wp2_with (at_builtin;refine app_one _ rfl (.tmp 37) (.tmp 38) 23 rfl W0.heap.size 5 .u8 1 Tryz.underlying23 Tryz.info5 A m c (be++zeros j) rfl hO 0 1 rfl (by have:=HLL.out;omega) (by omega) hsz ?_;intro A' n' c' w2 hO2 hb2)
  have hO3:Owns w2 W0.heap.size 5 .u8 (.slice A' n' c') (be++zeros (j+1)):=by rw [zeros_snoc,←List.append_assoc];exact hO2
  have hn':n'=lb+(j+1):=by rw [hO3.len,List.length_append,PBL.out,zeros_len]
  have hm:=HM.out
  clear hO2 hO
  go_roundw
  case rel=>exact ⟨j+1,A',n',c',hj1,rfl,hn',hO3,hB0.trans hb2⟩
  case measure=>have:=HJM.out;simp only [slLen];rw [hn',hm];exact this
 have e:f=j:=by omega
 subst e
 have hq0:((m:Nat):Int).tmod 16=0:=by rw [Int.tmod_eq_emod_of_nonneg (by omega)];have:=HF.out.2.1;omega
 clear hlt hj
 have HMB:=hid hmb
 have HM:=hid hm
 clear hm hmb
 go_wp2_with (at_builtin;refine app_nums rfl (.tmp 40) (.tmp 41) 23 rfl W0.heap.size 5 .u8 1 Tryz.underlying23 Tryz.info5 (by omega) A m c (be++zeros f) rfl hO AH ch hi (by rw [PHL.out];rfl) (hH.below hB0) (by have:=HMB.out;have:=HLH4.out;rw [←hO.len,PHL.out];omega) hsz ?_;intro A2 n2' c2 wb hO2 hG)
 rw [HP2.out] at hO2
 have hB2:Below W0.heap.size W0 wb:=hB0.trans (hG.below hsz fun g e=>(hO.lt g e).1)
 clear hO hB0 hG hq0 HMB HM hsz
 have hO:=hO2
 have hB0:=hB2
 clear hO2 hB2
 go_loopw [12] (fun v12 wr=>∃(j:Nat) (A:Option Addr) (m c:Nat),j≤g∧v12=.slice A m c∧m=n2+j∧Owns wr W0.heap.size 5 .u8 (.slice A m c) (P2++zeros j)∧Below W0.heap.size W0 wr) (fun v12 _=>n2+g - slLen v12)
 case atStart=>exact ⟨0,_,_,_,Nat.zero_le _,rfl,by rw [hO.len,HP2L.out];rfl,by rw [zeros_nil,List.append_nil];exact hO,hB0⟩
 case round =>
 clear hO hB0
 obtain ⟨j,A,m,c,hj,rfl,hm,hO,hB0⟩:=hrel
 have hsz:=hB0.size
 have hmb:m≤2000:=by have:=HG.out.2;omega
 by_cases hlt:j<g
 ·have HLL:Hid ((P2++zeros j).length≤2000):=hid (by rw [←hO.len];exact hmb)
  obtain ⟨q,hq⟩:∃q,((m:Nat):Int).tmod 16=q:=⟨_,rfl⟩
  have hq0:q≠0:=by rw [←hq,Int.tmod_eq_emod_of_nonneg (by omega)];have:=HG.out.1 j hlt;omega
  have hq1:0≤q:=by rw [←hq,Int.tmod_eq_emod_of_nonneg (by omega)];omega
  have hq2:q<16:=by rw [←hq,Int.tmod_eq_emod_of_nonneg (by omega)];omega
  have HM:=hid hm
  have hj1:j+1≤g:=by omega
  have hjm:n2+g - (n2+(j+1))<n2+g - (n2+j):=by omega
  have HJM:=hid hjm
  clear hjm
  have hdb:(q != 0)=true:=bne_iff_ne.2 hq0
  clear hm hmb hlt
  go_wp2_with (at_builtin;refine app_one _ rfl (.tmp 47) (.tmp 48) 23 rfl W0.heap.size 5 .u8 1 Tryz.underlying23 Tryz.info5 A m c (P2++zeros j) rfl hO 0 1 rfl (by have:=HLL.out;omega) (by omega) hsz ?_;intro A' n' c' w2 hO2 hb2)
  have hO3:Owns w2 W0.heap.size 5 .u8 (.slice A' n' c') (P2++zeros (j+1)):=by rw [zeros_snoc,←List.append_assoc];exact hO2
  have hn':n'=n2+(j+1):=by rw [hO3.len,List.length_append,HP2L.out,zeros_len]
  have hm:=HM.out
  clear hO2 hO
  go_roundw
  case rel=>exact ⟨j+1,A',n',c',hj1,rfl,hn',hO3,hB0.trans hb2⟩
  case measure=>have:=HJM.out;simp only [slLen];rw [hn',hm];exact this
 have e:g=j:=by omega
 subst e
 have hq0:((m:Nat):Int).tmod 16=0:=by rw [Int.tmod_eq_emod_of_nonneg (by omega)];have:=HG.out.2.1;omega
 clear hlt hj
 have HMB:=hid hmb
 have HM:=hid hm
 clear hm hmb
 go_wp2_with (first
  | (go_at_call 69;(with_reducible refine (rlow8 lb _ (by have:=HLB4.out;omega)).mono ?_);rintro e wc ⟨B3,d3,rfl,hN3,hb3⟩
     replace hO:=hO.stay hb3
     have hOc:∀q,(Value.slice A m c).ownBlock=some q→q<wc.heap.size:=fun q hq=>(hO.lt q hq).2
     replace hB0:=hB0.trans (hb3.mono hsz)
     have hsz3:=hB0.size)
  | (go_at_call 69;(with_reducible refine (rlow8 lh _ (by have:=HLH4.out;omega)).mono ?_);rintro e wd ⟨B4,d4,rfl,hN4,hb4⟩
     replace hO:=hO.stay hb4
     replace hN3:=hN3.stay hb4
     have hfar:∀q,(Value.slice A m c).ownBlock=some q→q<wc.heap.size:=hOc
     replace hB0:=hB0.trans (hb4.mono hsz3)
     have hsz4:=hB0.size)
  | (at_builtin;refine app_nums rfl (.tmp 62) (.tmp 63) 23 rfl W0.heap.size 5 .u8 1 Tryz.underlying23 Tryz.info5 (by omega) A m c (P2++zeros g) rfl hO B3 d3 (le8 lb) (by rw [L8.out];rfl) hN3.nums (by have:=HMB.out;rw [←hO.len,L8.out];omega) hsz4 ?_;intro A5 n5 c5 we hO5 hG5))
 have hN5:=hN4.far hfar (Below.refl _ _) hG5
 have hB5:Below W0.heap.size W0 we:=hB0.trans (hG5.below hsz4 fun g e=>(hO.lt g e).1)
 rw [HT1.out] at hO5
 have hm5:=hO5.len
 clear hO hG5 hN3 hN4 hB0 hOc hfar hb3 hb4 hsz hsz3 hsz4 hq0 HMB HM
 have i32k:(Tryz.prog.info? 22).map (·.size)=some (ints .u8 K).length:=szV inf41 (il HKL.out)
 have hK5:∀ww,Below W0.heap.size W0 ww→ww.rangeAt b10 0 (ints .u8 K):=fun ww h=>(h10.below h hl10).range
 have HK5:=hid hK5
 have HB5:=hid hB5
 have HO5:=hid hO5
 clear hK5 hB5 hO5
 refine wp_region_any (by kernel_rfl) ?_
 change wpAny _ _ _ _ _ _ _ (World.drew _)
 refine wpAny_take (i:=1) (v:=.slice A5 n5 c5) rfl (by kernel_rfl) (by kernel_rfl) (by kernel_rfl) (fun _ _ _ h=>h) (Or.inl ⟨by rfl,fun w=>by go_simp⟩) ?_
 refine wpAny_take (i:=2) (v:=.slice B4 8 d4) rfl (by kernel_rfl) (by kernel_rfl) (by kernel_rfl) (fun _ _ _ h=>h) (Or.inl ⟨by rfl,fun w=>by go_simp⟩) ?_
 have hwd:=HB5.out.drew
 have hod:=HO5.out.drew
 have hnd:NumsF wc.heap.size we.drew .u8 B4 (le8 lh):=hN5
 have h63:(T1.length+(le8 lh).length)*1≤140737488355328:=by have:=HTL.out;have:=L9.out;omega
 have hm8:∀ww,Below W0.heap.size W0 ww→Rw ww (w.heap.size+1+1) 0 (ints .u8 (zeros 16)):=fun ww h=>(h8.arr.below h (by omega)).rw
 generalize we.drew=wf at *
 refine any_two (i:=0) (k:=3) (by kernel_rfl) ?_ ?_
 ·refine op_wp (o:=⟨some 65,.load 22 (.tmp 10),_,_,_,_⟩) rfl rfl (wp_load_mid 22 (.tmp 10) rfl b10 0 rfl (ints .u8 K) _ (HK5.out _ hwd) Tryz.underlying22 rfl i32k ?_)
  refine any_one (i:=3) (by kernel_rfl) ?_
  refine op_wp (o:=⟨some 68,.call { callee:=.builtin .append,args:=#[.tmp 66,.tmp 67],argTypes:=#[23,23] },_,_,_,_⟩) rfl rfl ?_
  refine wp_app (.tmp 66) (.tmp 67) 23 rfl W0.heap.size 5 .u8 1 Tryz.underlying23 Tryz.info5 (by omega) A5 n5 c5 T1 rfl hod B4 d4 (le8 lh) (by rw [L9.out];rfl) hnd.nums h63 hwd.size fun A6 n6 c6 wg hO6 hG6=>?_
  have hwg:Below W0.heap.size W0 wg:=hwd.trans (hG6.below hwd.size fun g e=>(hod.lt g e).1)
  rw [HT.out] at hO6
  have hn6:=hO6.len
  refine any_one (i:=4) (by kernel_rfl) ?_
  refine op_call2 (o:=⟨some 69,.call { callee:=.value (.func 70),args:=#[.tmp 65,.tmp 68],argTypes:=#[22,23] },_,_,_,_⟩) rfl rfl 70 (x:=.tmp 65) (y:=.tmp 68) (u:=.agg (ints .u8 K).toArray) (v:=.slice A6 n6 c6) rfl cx19 rfl rfl ?_
  refine (rtag_any K T A6 n6 c6 wg HKL.out HKB.out hn6.symm (by rw [hn6];exact HTN.out) HTB.out hO6.nums).mono ?_
  rintro e wh ⟨rfl,hbh⟩
  rw [HR.out]
  have hwh:Below W0.heap.size W0 wh:=hwg.trans (hbh.mono hwg.size)
  refine ⟨_,rfl,?_⟩
  have R8:=(hm8 wh hwh).roomA (us:=ints .u8 r) ((il HRL.out).trans (il (zeros_len 16)).symm)
  have X8:=(hm8 wh hwh).storedA (us:=ints .u8 r) ((il HRL.out).trans (il (zeros_len 16)).symm)
  have hW9:Below w.heap.size w wh:=hW0.trans (hwh.mono hW0.size)
  have hW8:=Below.setCells hW9 (g:=w.heap.size+1+1) (by omega) 0 (ints .u8 r).toArray.toList
  refine any_one (i:=5) (by kernel_rfl) (op_storeS (o:=⟨none,.store 54 (.tmp 8) (.tmp 69),_,_,_,_⟩) rfl rfl 54 (.tmp 8) (.tmp 69) rfl (w.heap.size+1+1) (ints .u8 r).toArray rfl rfl R8 (szA inf33 (il HRL.out)) (ints_all _ _) ?_)
  refine any_done (by kernel_rfl) ?_
  generalize wh.setCells (w.heap.size+1+1) 0 (ints .u8 r).toArray.toList=wz at *
  go_wp2_with (fail)
  exact ret_rows rfl (w.heap.size+1+1) 0 rfl (ints .u8 r) _ X8.range Tryz.underlying54 rfl (szV inf33 (il HRL.out)) rfl ⟨rfl,hW8⟩
 ·refine op_wp (o:=⟨some 68,.call { callee:=.builtin .append,args:=#[.tmp 66,.tmp 67],argTypes:=#[23,23] },_,_,_,_⟩) rfl rfl ?_
  refine wp_app (.tmp 66) (.tmp 67) 23 rfl W0.heap.size 5 .u8 1 Tryz.underlying23 Tryz.info5 (by omega) A5 n5 c5 T1 rfl hod B4 d4 (le8 lh) (by rw [L9.out];rfl) hnd.nums h63 hwd.size fun A6 n6 c6 wg hO6 hG6=>?_
  have hwg:Below W0.heap.size W0 wg:=hwd.trans (hG6.below hwd.size fun g e=>(hod.lt g e).1)
  rw [HT.out] at hO6
  have hn6:=hO6.len
  refine any_one (i:=0) (by kernel_rfl) ?_
  refine op_wp (o:=⟨some 65,.load 22 (.tmp 10),_,_,_,_⟩) rfl rfl (wp_load_mid 22 (.tmp 10) rfl b10 0 rfl (ints .u8 K) _ (HK5.out _ hwg) Tryz.underlying22 rfl i32k ?_)
  refine any_one (i:=4) (by kernel_rfl) ?_
  refine op_call2 (o:=⟨some 69,.call { callee:=.value (.func 70),args:=#[.tmp 65,.tmp 68],argTypes:=#[22,23] },_,_,_,_⟩) rfl rfl 70 (x:=.tmp 65) (y:=.tmp 68) (u:=.agg (ints .u8 K).toArray) (v:=.slice A6 n6 c6) rfl cx19 rfl rfl ?_
  refine (rtag_any K T A6 n6 c6 wg HKL.out HKB.out hn6.symm (by rw [hn6];exact HTN.out) HTB.out hO6.nums).mono ?_
  rintro e wh ⟨rfl,hbh⟩
  rw [HR.out]
  have hwh:Below W0.heap.size W0 wh:=hwg.trans (hbh.mono hwg.size)
  refine ⟨_,rfl,?_⟩
  have R8:=(hm8 wh hwh).roomA (us:=ints .u8 r) ((il HRL.out).trans (il (zeros_len 16)).symm)
  have X8:=(hm8 wh hwh).storedA (us:=ints .u8 r) ((il HRL.out).trans (il (zeros_len 16)).symm)
  have hW9:Below w.heap.size w wh:=hW0.trans (hwh.mono hW0.size)
  have hW8:=Below.setCells hW9 (g:=w.heap.size+1+1) (by omega) 0 (ints .u8 r).toArray.toList
  refine any_one (i:=5) (by kernel_rfl) (op_storeS (o:=⟨none,.store 54 (.tmp 8) (.tmp 69),_,_,_,_⟩) rfl rfl 54 (.tmp 8) (.tmp 69) rfl (w.heap.size+1+1) (ints .u8 r).toArray rfl rfl R8 (szA inf33 (il HRL.out)) (ints_all _ _) ?_)
  refine any_done (by kernel_rfl) ?_
  generalize wh.setCells (w.heap.size+1+1) 0 (ints .u8 r).toArray.toList=wz at *
  go_wp2_with (fail)
  exact ret_rows rfl (w.heap.size+1+1) 0 rfl (ints .u8 r) _ X8.range Tryz.underlying54 rfl (szV inf33 (il HRL.out)) rfl ⟨rfl,hW8⟩
theorem fillIs {n:Nat} (h:n≤900):FillIs n (fillN n):=by
 have h1:=fillN_lt n
 have h2:=fillN_mod n
 refine ⟨fun j hj=>?_,h2,by omega⟩
 unfold fillN at hj
 omega
theorem fillIs_mod {n m:Nat} (h:m%16=0) (hn:m+n≤900):FillIs (m+n) (fillN n):=by
 have e:fillN (m+n)=fillN n:=by unfold fillN;omega
 rw [←e]
 exact fillIs hn
theorem rtag11_any (key nonce be hi:List Int) (AB AH:Option Addr) (lb cb lh ch:Nat) (w:World) (hk:Hid (key.length=32)) (hn:Hid (nonce.length=12)) (hkb:HByt key) (hnb:HByt nonce) (PB:Hid (PLZ lb be)) (PH:Hid (PLZ lh hi)) (hlb:lb≤400) (hlh:lh≤400) (hB:Nums w .u8 AB be) (hH:Nums w .u8 AH hi) :
 Calls Tryz.prog 44 #[.agg (ints .u8 key).toArray,.agg (ints .u8 nonce).toArray,.slice AB lb cb,.slice AH lh ch] w fun e w'=>e=.returned (.agg (ints .u8 (atag key nonce be hi)).toArray)∧Below w.heap.size w w':=by
 have hl:=blockL_length (count:=0) hk.out hn.out
 have f1:=fillN_lt lb
 have f2:=fillN_lt lh
 have hTb:=tagT_byt PB.out.2.2 PH.out.2.2
 have hTl:=tagT_len be hi
 rw [PB.out.1,PH.out.1] at hTl
 have eT:(((be++zeros (fillN lb))++hi)++zeros (fillN lh))++le8 lb++le8 lh=tagT be hi:=by
  unfold tagT
  rw [PB.out.1,PH.out.1]
  simp only [List.append_assoc]
 exact rtag11_core key nonce be hi (blockL key nonce 0) (onceL key nonce) ((be++zeros (fillN lb))++hi) ((((be++zeros (fillN lb))++hi)++zeros (fillN lh))++le8 lb) (tagT be hi) (atag key nonce be hi) AB AH lb cb lh ch (fillN lb) (fillN lh) (lb+fillN lb+lh) w hk hn hkb hnb (hid rfl) (hid hl) (hid fun i hi=>by unfold onceL;rw [List.getElem?_take,if_pos hi]) (hid (onceL_len hk.out hn.out)) (hid (onceL_byt _ _))
  (hid (by omega)) (hid (by omega)) (hid (fillIs (by omega))) (hid (fillIs_mod (fillN_mod lb) (by omega))) (hid rfl) (hid (by simp only [List.length_append,zeros_len,PB.out.1,PH.out.1])) (hid PB.out.1) (hid PH.out.1) (hid (le8_length _)) (hid (le8_length _))
  (hid rfl) (hid eT) (hid (by simp only [List.length_append,zeros_len,PB.out.1,PH.out.1,le8_length];omega)) (hid (by rw [hTl];omega)) (hid hTb) (hid rfl) (hid (atag_len _ _ _ _)) hB hH
end
section
set_option maxRecDepth 50000
theorem rb_zero:rbytes 0=hzeros 32:=by decide +kernel
theorem rkey_zero {sd pu fi re:List Int} (h3:fi.length=32) (b3:HByt fi) (h4:re.length=32) (b4:HByt re) (h:noughtB sd pu=true) (w:World) :
 Calls Tryz.prog 18 #[.agg (ints .u8 (shL sd pu)).toArray,.agg (ints .u8 fi).toArray,.agg (ints .u8 re).toArray] w fun e w'=>e=.returned (.tuple #[.agg (ints .u8 (hzeros 32)).toArray,.bool false])∧Below w.heap.size w w':=by
 have hd:decide (shL sd pu=hzeros 32)=true:=by rw [←rb_zero];exact h
 exact rkeyB_no (shL sd pu) fi re w (hid (sh_len _ _)) (hid h3) (hid h4) (sh_byt _ _) b3 b4 (hid hd)
theorem rkey_some {sd pu fi re:List Int} (h3:fi.length=32) (b3:HByt fi) (h4:re.length=32) (b4:HByt re) (h:noughtB sd pu=false) (w:World) :
 Calls Tryz.prog 18 #[.agg (ints .u8 (shL sd pu)).toArray,.agg (ints .u8 fi).toArray,.agg (ints .u8 re).toArray] w fun e w'=>e=.returned (.tuple #[.agg (ints .u8 (boxK (shL sd pu) fi re)).toArray,.bool true])∧Below w.heap.size w w':=by
 have hd:decide (shL sd pu=hzeros 32)=false:=by rw [←rb_zero];exact h
 exact rkeyB_yes (boxK (shL sd pu) fi re) (shL sd pu) fi re w (hid (sh_len _ _)) (hid h3) (hid h4) (sh_byt _ _) b3 b4 (hid hd) (hid rfl) (hid (boxK_len _ _ _))
theorem cxSamB (vs:Array Value) (w:World):(callFunc 8 vs).run Tryz.prog w=.ok (.enter 8 vs) w:=by go_simp
section
variable {ops:Array Oper} {md:Region.Mode} {W:World} {a0:Act} {n:Nat} {al:Nat→Bool} {S:Nat→Value→World→Prop} {Q:Exit→Act→World→Prop} {i:Nat} {o:Oper}
theorem step_eqI (hal:al i=false) (hg:GuardOn ops md n S i o) {T:Nat} {x y:Operand} {a:Int} (ho:o.op=.binOp .eql T x y T) (hT:Tryz.prog.underlying T=some (.int .i64)) (hS:S i=Is (.bool true)) (h1:Knows ops md W a0 n S i x (.int .i64 a)) (h2:Knows ops md W a0 n S i y (.int .i64 a)):StepOk Tryz.prog ops md W a0 n al S Q i o :=
 step_two hal hg (fun ev w h1 h2 _=>by
  unfold execOp
  simp only [ho,h1,h2]
  go_simp) hS h1 h2
end
theorem cxRTag (vs:Array Value) (w:World):(callFunc 44 vs).run Tryz.prog w=.ok (.enter 44 vs) w:=by go_simp
theorem cxRHid (vs:Array Value) (w:World):(callFunc 43 vs).run Tryz.prog w=.ok (.enter 43 vs) w:=by go_simp
theorem ropen_few (key nonce:List Int) (AB AS:Option Addr) (lb cb ls cs:Nat) (w:World) (hls:ls<16):Calls Tryz.prog 23 #[.agg (ints .u8 key).toArray,.agg (ints .u8 nonce).toArray,.slice AB lb cb,.slice AS ls cs] w fun e w'=>e=.returned (.tuple #[.slice none 0 0,.int .i64 10])∧Below w.heap.size w w':=by
 have hW:=(below_new w (.cells (ints .u8 key).toArray 22)).alloc (by simp) (.cells (ints .u8 nonce).toArray 40)
 have g1:(ls:Int)<16:=by omega
 have g2:(ls:Int) - 16<0:=by omega
 clear hls
 go_enter Tryz.func23,Tryz.ntmps23
 go_wp2_with (fail)
 go_ret2
 exact ⟨rfl,hW⟩
set_option maxHeartbeats 4000000 in
theorem ropen_core (key nonce be s r z2 x:List Int) (good:Bool) (AB AS:Option Addr) (lb cb ls cs n:Nat) (w:World) (hk:Hid (key.length=32)) (hn:Hid (nonce.length=12)) (hls:ls=n+16) (hn4:n≤400) (hncs:n≤cs)
 (hB:Nums w .u8 AB be) (hS:Nums w .u8 AS s) (HSL:Hid (s.length=ls)) (HZ:Hid (∀i,i<16→s[n+i]? = z2[i]?)) (HZL:Hid (z2.length=16)) (HRL:Hid (r.length=16)) (HGD:Hid (decide (r=z2)=good))
 (HTG:Hid (∀w,Nums w .u8 AB be→Nums w .u8 AS s→Calls Tryz.prog 44 #[.agg (ints .u8 key).toArray,.agg (ints .u8 nonce).toArray,.slice AB lb cb,.slice AS n cs] w fun e w'=>e=.returned (.agg (ints .u8 r).toArray)∧Below w.heap.size w w'))
 (HHD:Hid (∀w,Nums w .u8 AS s→Calls Tryz.prog 43 #[.agg (ints .u8 key).toArray,.agg (ints .u8 nonce).toArray,.int .u32 1,.slice AS n cs] w fun e w'=>∃v,e=.returned v∧IsRw .u8 n x v w'∧Below w.heap.size w w')) :
 Calls Tryz.prog 23 #[.agg (ints .u8 key).toArray,.agg (ints .u8 nonce).toArray,.slice AB lb cb,.slice AS ls cs] w (OpenPost good n x w):=by
 have hK:=((Arr.made w .u8 key 22).alloc (.cells (ints .u8 nonce).toArray 40)).rw
 have hN:=(Arr.made (w.alloc (.cells (ints .u8 key).toArray 22)) .u8 nonce 40).rw
 have hW:=(below_new w (.cells (ints .u8 key).toArray 22)).alloc (by simp) (.cells (ints .u8 nonce).toArray 40)
 rw [World.size_alloc] at hN
 replace hB:=hB.below hW
 replace hS:=hS.below hW
 have g1:(ls:Int)≤416:=by omega
 have g3:¬(ls:Int)<16:=by omega
 have e16:(ls:Int) - 16=(n:Int):=by omega
 have en:(ls:Int)=(n:Int)+16:=by omega
 have g4:(0:Int)≤n:=by omega
 have EN:=hid en
 have HLS:=hid hls
 clear hls hn4 en
 go_enter Tryz.func23,Tryz.ntmps23
 go_upto_region 4 with (fail)
 generalize ((w.alloc (.cells (ints .u8 key).toArray 22)).alloc (.cells (ints .u8 nonce).toArray 40))=w0 at *
 have s0:=hW.size
 refine rSpec 8 45 (fun i=>i==7) [Is (.agg (ints .u8 key).toArray),Is (.agg (ints .u8 nonce).toArray),Is (.slice AB lb cb),Is (.slice AS ls cs),Is (.int .i64 (n:Int)),Is (.slice AS n cs),Is (.agg (ints .u8 r).toArray),IsZV w0.heap.size (ints .u8 (zeros 16))] [18,19,20,21,22,23,24,11] (gC (gC (gC (gC (gC (gC (gC (grows_cons (IsZV.grows _ _) grows_nil))))))))
  ⟨step_ldV rfl (.inl rfl) (fun _ hw=>(hK.next hw).range) rfl Tryz.underlying22 rfl (szV inf41 (il hk.out)) rfl (kO 4 rfl),
   step_ldV rfl (.inl rfl) (fun _ hw=>(hN.next hw).range) rfl Tryz.underlying40 rfl (szV infNo (il hn.out)) rfl (kO 5 rfl),
   step_mvP rfl (.inl rfl) rfl rfl (kO 2 rfl),
   step_mvP rfl (.inl rfl) rfl rfl (kO 3 rfl),
   step_mvP rfl (.inl rfl) rfl rfl (kO 10 rfl),
   step_pre rfl (.inl rfl) rfl hncs rfl (kI 3 21 rfl rfl) (kI 4 22 rfl rfl),
   step_cw rfl (.inl rfl) rfl cxRTag rfl (fun aa ww hw hf hd=>⟨_,(four_args (kI 0 18 rfl rfl) (kI 1 19 rfl rfl) (kI 2 20 rfl rfl) (kI 5 23 rfl rfl)) aa ww hw hf hd,HTG.out ww (hB.below hw) (hS.below hw)⟩),
   step_allocV (.inl rfl) inf33 rfl rfl,trivial⟩ ?_
 intro val w1 hw hS hap hla
 obtain ⟨b11,e11,L11,Z11⟩:=hS 7 11 (by decide) rfl
 simp only [pA,pB,pC,pD,pE,Act.put,pG,pH,pI,eVal hS 0 18 rfl rfl,eVal hS 1 19 rfl rfl,eVal hS 2 20 rfl rfl,eVal hS 3 21 rfl rfl,eVal hS 4 22 rfl rfl,eVal hS 5 23 rfl rfl,eVal hS 6 24 rfl rfl,e11]
 clear hS hap hla e11
 have LL11:=hid (show ((ints .u8 r)).length=16 from (il HRL.out))
 have R11:=Z11.roomA (us:=(ints .u8 r)) (LL11.out.trans (zv .u8 16).symm)
 have h11:=Z11.storedA (us:=(ints .u8 r)) (LL11.out.trans (zv .u8 16).symm)
 have hu:=Below.setCells hw L11 0 (ints .u8 r).toArray.toList
 replace hK:=hK.next hu
 replace hN:=hN.next hu
 replace hB:=hB.below hu
 replace hS:=hS.below hu
 replace hW:=bT hW hu
 clear hu
 with_reducible refine wpList_store_mid (op:=⟨none,.store 54 (.tmp 11) (.tmp 24),_,_,_,_⟩) rfl 54 (.tmp 11) (.tmp 24) rfl b11 0 (ints .u8 r).toArray rfl rfl R11 (szA inf33 LL11.out) (ints_all _ _) ?_
 generalize (w1.setCells b11 0 (ints .u8 r).toArray.toList)=w2 at *
 clear hw R11 LL11 Z11 L11
 go_wp2_with (fail)
 go_loopw [12] (fun i wr=>∃k:Nat,k≤16∧i=.int .i64 k∧Hid (r.take k=z2.take k)∧Below w2.heap.size w2 wr) (fun i _=>16 - (intOf i).toNat)
 case atStart=>exact ⟨0,by omega,rfl,hid rfl,Below.refl _ _⟩
 case round =>
 obtain ⟨k,hk16,rfl,HT,hbr⟩:=hrel
 by_cases hlt:k<16
 ·have hk0:(0:Int)≤k:=by omega
  have hk1:(k:Int)<16:=by omega
  have hwj:IntKind.i64.wrap ((n:Int)+(k:Int))=(n:Int)+(k:Int):=IntWalk.i64_in _ (by omega)
  have htj:((n:Int)+(k:Int)).toNat=n+k:=by omega
  have hj0:0≤(n:Int)+(k:Int):=by omega
  have hj1:(n:Int)+(k:Int)<ls:=by have:=EN.out;omega
  obtain ⟨g1',o1,y,rfl,_,hc1,H1⟩:=(hS.below hbr).get (i:=n+k) (by rw [HSL.out,HLS.out];omega)
  obtain ⟨x1,cx,_,H2⟩:=((h11.next hbr).arr).spot (i:=k) (by rw [HRL.out];exact hlt)
  rw [Nat.zero_add] at cx
  clear hlt
  have HZK:=HZ.out k (by omega)
  rw [H1.out] at HZK
  have hzk:=hid HZK.symm
  clear HZK
  by_cases hxy:x1=y
  ·have HT2:Hid (r.take (k+1)=z2.take (k+1)):=hid (by rw [take_succ_at H2.out,take_succ_at hzk.out,HT.out,hxy])
   have hdb:(x1 != y)=false:=by rw [hxy];simp
   go_upto_region 8 with (fail)
   go_quiet (fail)
   go_wp2_with (fail)
   go_roundw
   case rel=>exact ⟨k+1,by omega,by go_num,HT2,below_drewN hbr _⟩
   case measure=>simp [intOf];omega
  ·have hdb:(x1 != y)=true:=bne_iff_ne.2 hxy
   have hg:good=false:=by
    rw [←HGD.out]
    refine decide_eq_false fun e=>hxy ?_
    have h1:=H2.out
    rw [e,hzk.out] at h1
    injection h1 with h1
    exact h1.symm
   subst hg
   go_upto_region 8 with (fail)
   go_quiet (fail)
   go_wp2_with (fail)
   go_ret2
   exact ⟨none,0,rfl,Nums.nil,below_drewN (hW.trans (hbr.mono hW.size)) _⟩
 have e:16=k:=by omega
 subst e
 have hg:good=true:=by
  rw [←HGD.out]
  refine decide_eq_true ?_
  have:=HT.out
  rwa [List.take_of_length_le (by rw [HRL.out];decide),List.take_of_length_le (by rw [HZL.out];decide)] at this
 subst hg
 replace hK:=hK.next hbr
 replace hN:=hN.next hbr
 replace hB:=hB.below hbr
 replace hS:=hS.below hbr
 replace hW:=hW.trans (hbr.mono hW.size)
 clear hbr hlt hk16 HT h11
 generalize wr=w20 at *
 go_upto_region 10 with (fail)
 have s20:=hW.size
 refine rSpec 7 45 (fun _=>false) [Is (.agg (ints .u8 key).toArray),Is (.agg (ints .u8 nonce).toArray),Is (.slice AS ls cs),Is (.int .i64 (n:Int)),Is (.slice AS n cs),IsRw .u8 n x,IsRw .u8 n x] [39,40,41,42,43,44,8] (gC (gC (gC (gC (gC (grows_cons (IsRw.grows _ _ _) (grows_cons (IsRw.grows _ _ _) grows_nil)))))))
  ⟨step_ldV rfl (.inl rfl) (fun _ hw=>(hK.next hw).range) rfl Tryz.underlying22 rfl (szV inf41 (il hk.out)) rfl (kO 4 rfl),
   step_ldV rfl (.inl rfl) (fun _ hw=>(hN.next hw).range) rfl Tryz.underlying40 rfl (szV infNo (il hn.out)) rfl (kO 5 rfl),
   step_mvP rfl (.inl rfl) rfl rfl (kO 3 rfl),
   step_mvP rfl (.inl rfl) rfl rfl (kO 10 rfl),
   step_pre rfl (.inl rfl) rfl hncs rfl (kI 2 41 rfl rfl) (kI 3 42 rfl rfl),
   step_callR rfl (.inl rfl) rfl cxRHid rfl (fun aa ww hw hf hd=>⟨_,(four_args (kI 0 39 rfl rfl) (kI 1 40 rfl rfl) (knows_const _) (kI 4 43 rfl rfl)) aa ww hw hf hd,HHD.out ww (hS.below hw)⟩),
   step_copyW rfl (.inl rfl) 5 44 (.inr rfl) rfl (by decide) (by kernel_rfl) rfl rfl,trivial⟩ ?_
 intro val w21 hw hS hap hla
 have e39:=eVal hS 0 39 rfl rfl
 have e40:=eVal hS 1 40 rfl rfl
 have e41:=eVal hS 2 41 rfl rfl
 have e42:=eVal hS 3 42 rfl rfl
 have e43:=eVal hS 4 43 rfl rfl
 obtain ⟨B8,c8,e8,N8⟩:=hS 6 8 (by decide) rfl
 simp only [pA,pB,pC,pD,pE,Act.put,pG,pH,pI,e39,e40,e41,e42,e43,e8]
 generalize val 44=g44
 clear hS hap hla e39 e40 e41 e42 e43 e8
 replace hK:=hK.next hw
 replace hN:=hN.next hw
 replace hB:=hB.below hw
 replace hS:=hS.below hw
 replace hW:=bT hW hw
 clear hw
 go_wp2_with (fail)
 go_ret2
 exact ⟨B8,c8,rfl,N8,hW⟩
theorem ropen_any (key nonce be s:List Int) (AB AS:Option Addr) (lb cb ls cs:Nat) (w:World) (hk:Hid (key.length=32)) (hn:Hid (nonce.length=12)) (hkb:HByt key) (hnb:HByt nonce) (HSB:HByt s) (PB:Hid (PLZ lb be)) (PS:Hid (s.length=ls)) (hls:ls≤400) (hlb:lb≤400) (hcs:ls≤cs) (hB:Nums w .u8 AB be) (hA:Nums w .u8 AS s) :
 Calls Tryz.prog 23 #[.agg (ints .u8 key).toArray,.agg (ints .u8 nonce).toArray,.slice AB lb cb,.slice AS ls cs] w fun e w'=>∃A m d,e=.returned (.tuple #[.slice A m d,.int .i64 (openE key nonce be s)])∧(openL key nonce be s).length=m∧Nums w' .u8 A (openL key nonce be s)∧Below w.heap.size w w':=by
 unfold openE openL
 rw [PS.out]
 by_cases h16:ls<16
 ·rw [if_pos h16,if_pos h16]
  exact (ropen_few key nonce AB AS lb cb ls cs w h16).mono fun e w' ⟨he,hb⟩=>⟨none,0,0,he,rfl,Nums.nil,hb⟩
 ·rw [if_neg h16,if_neg h16]
  obtain ⟨n,rfl⟩:∃n,ls=n+16:=⟨ls - 16,by omega⟩
  rw [Nat.add_sub_cancel]
  have hl0:(s.take n).length=n:=by rw [List.length_take,PS.out];omega
  have hx:(hidT key nonce (s.take n)).length=n:=by rw [hidT_len hk.out hn.out (by rw [hl0];omega),hl0]
  have hg:goodL key nonce be s=decide (atag key nonce be (s.take n)=s.drop n):=by unfold goodL;rw [PS.out,Nat.add_sub_cancel]
  refine (ropen_core key nonce be s (atag key nonce be (s.take n)) (s.drop n) (hidT key nonce (s.take n)) (goodL key nonce be s) AB AS lb cb (n+16) cs n w hk hn rfl (by omega) (by omega) hB hA PS
   (hid fun i _=>by rw [List.getElem?_drop]) (hid (by rw [List.length_drop,PS.out];omega)) (hid (atag_len _ _ _ _)) (hid hg.symm)
   (hid fun w hB hS=>rtag11_any key nonce be (s.take n) AB AS lb cb n cs w hk hn hkb hnb PB (hid ⟨hl0,by omega,HSB.take n⟩) hlb (by omega) hB (hS.upto2 n))
   (hid fun w hS=>(rhide_all key nonce (s.take n) 1 (4294967296 - 1) n cs AS w hk hn hkb hnb (HSB.take n) (hid hl0) (by omega) (by decide) (by omega) (hS.upto2 n)).mono fun e w' ⟨A,d,he,hN,hb⟩=>⟨_,he,⟨A,d,rfl,hN⟩,hb⟩)).mono ?_
  rintro e w' ⟨A,d,he,hN,hb⟩
  cases hgd:goodL key nonce be s
  ·rw [hgd] at he hN
   exact ⟨A,0,d,he,rfl,hN,hb⟩
  ·rw [hgd] at he hN
   exact ⟨A,n,d,he,hx,hN,hb⟩
end
end Go.Proofs.YtkblmdakejmmhaaGreatDoor
