import Derived.Test.YtkblmdakejmmhaaGreatDoorG40
import Derived.Deep.RegionWith
namespace Go.Proofs.YtkblmdakejmmhaaGreatDoor
open Go Go.RowKit
section
set_option maxRecDepth 50000
def slLen:Value→Nat
 | .slice _ m _=>m
 | _=>0
theorem zeros_nil:zeros 0=[]:=rfl
theorem zeros_snoc (j:Nat):zeros (j+1)=zeros j++[0]:=by unfold zeros;rw [List.replicate_succ',]
def FillIs (n f:Nat):Prop:=(∀j,j<f→(n+j)%16≠0)∧(n+f)%16=0∧n+f≤1000
set_option maxHeartbeats 4000000 in
theorem rtag11_core (key nonce be hi bl K P2 T1 T r:List Int) (AB AH:Option Addr) (lb cb lh ch f g n2:Nat) (w:World) (hk:Hid (key.length=32)) (hn:Hid (nonce.length=12)) (hkb:HByt key) (hnb:HByt nonce) (HBL:Hid (blockL key nonce 0=bl)) (HBLL:Hid (bl.length=64)) (HK:Hid (∀i,i<32→bl[i]? = K[i]?)) (HKL:Hid (K.length=32)) (HKB:Hid (Byt K))
 (HLB4:Hid (lb≤1000)) (HLH4:Hid (lh≤1000)) (HF:Hid (FillIs lb f)) (HG:Hid (FillIs n2 g)) (HP2:Hid ((be++zeros f)++hi=P2)) (HP2L:Hid (P2.length=n2)) (PBL:Hid (be.length=lb)) (PHL:Hid (hi.length=lh)) (L8:Hid ((le8 lb).length=8)) (L9:Hid ((le8 lh).length=8))
 (HT1:Hid ((P2++zeros g)++le8 lb=T1)) (HT:Hid (T1++le8 lh=T)) (HTL:Hid (T1.length≤1016)) (HTN:Hid (T.length≤1000)) (HTB:Hid (Byt T)) (HR:Hid (tagL K T=r)) (HRL:Hid (r.length=16)) (hB:Nums w .u8 AB be) (hH:Nums w .u8 AH hi) :
 Calls Tryz.prog 44 #[.agg (ints .u8 key).toArray,.agg (ints .u8 nonce).toArray,.slice AB lb cb,.slice AH lh ch] w fun e w'=>e=.returned (.agg (ints .u8 r).toArray)∧Below w.heap.size w w':=by
 obtain ⟨z33,s33⟩:=zero_of_info inf33
 obtain ⟨z22,s22⟩:=zero_of_info inf41
 have hK:=((Arr.made w .u8 key 22).alloc (.cells (ints .u8 nonce).toArray 40)).alloc (.cells (ints .u8 (zeros 16)).toArray 54)
 have hN:=(Arr.made (w.alloc (.cells (ints .u8 key).toArray 22)) .u8 nonce 40).alloc (.cells (ints .u8 (zeros 16)).toArray 54)
 have h8:=Rw.new ((w.alloc (.cells (ints .u8 key).toArray 22)).alloc (.cells (ints .u8 nonce).toArray 40)) (ints .u8 (zeros 16)) 54
 have hW:=((below_new w (.cells (ints .u8 key).toArray 22)).alloc (by simp) (.cells (ints .u8 nonce).toArray 40)).alloc (by simp;omega) (.cells (ints .u8 (zeros 16)).toArray 54)
 rw [World.size_alloc] at hN
 rw [World.size_alloc,World.size_alloc] at h8
 replace hB:=hB.below hW
 replace hH:=hH.below hW
 have r4:=hK.range
 have r5:=hN.range
 clear hK hN
 have i32:(Tryz.prog.info? 22).map (·.size)=some (ints .u8 key).length:=szV inf41 (il hk.out)
 have i12:(Tryz.prog.info? 40).map (·.size)=some (ints .u8 nonce).length:=szV infNo (il hn.out)
 have hcw:Hid (WdZ 0):=hid ⟨by omega,by omega⟩
 go_enter Tryz.func44,Tryz.ntmps44
 go_wp2_with (first
  | (with_reducible refine wpList_load_mid (op:=⟨some 17,.load 22 (.tmp 4),_,_,_,_⟩) rfl 22 (.tmp 4) rfl w.heap.size 0 rfl (ints .u8 key) _ r4 Tryz.underlying22 rfl i32 ?_)
  | (with_reducible refine wpList_load_mid (op:=⟨some 18,.load 40 (.tmp 5),_,_,_,_⟩) rfl 40 (.tmp 5) rfl (w.heap.size+1) 0 rfl (ints .u8 nonce) _ r5 Tryz.underlying40 rfl i12 ?_)
  | (go_at_call 68;clear r4 r5;generalize ((w.alloc (.cells (ints .u8 key).toArray 22)).alloc (.cells (ints .u8 nonce).toArray 40)).alloc (.cells (ints .u8 (zeros 16)).toArray 54)=w8 at *;refine (rblock_any key nonce 0 _ hk hn hkb hnb hcw).mono ?_;rintro e w9 ⟨A9,d9,rfl,hO9,hb9⟩
     rw [HBL.out] at hO9
     have hX9:=hO9.nums
     replace h8:=h8.next hb9
     replace hB:=hB.below hb9
     replace hH:=hH.below hb9
     replace hW:=hW.trans (Below.mono hb9 hW.size)
     clear hb9 hO9))
 have hbw:=h8.lt (by rw [il (zeros_len 16)];decide)
 have e0:zeros 32=fillK K 0:=by rw [fillK_zero,HKL.out];rfl
 have h10:Arr (w9.alloc (.cells (ints .u8 (zeros 32)).toArray 22)) w9.heap.size 0 .u8 (fillK K 0):=by rw [←e0];exact Arr.made w9 .u8 (zeros 32) 22
 have hb10:=below_new w9 (.cells (ints .u8 (zeros 32)).toArray 22)
 have hl9:w9.heap.size<(w9.alloc (.cells (ints .u8 (zeros 32)).toArray 22)).heap.size:=by simp
 generalize (w9.alloc (.cells (ints .u8 (zeros 32)).toArray 22))=w10 at *
 have hBv:=hB.under.stay hb10
 have hHv:=hH.under.stay hb10
 generalize hb10e:w9.heap.size=b10 at *
 replace h8:=h8.next (hb10e▸hb10)
 clear hB hH
 replace hW:=hW.trans (Below.mono hb10 (hb10e▸hW.size))
 have hX9u:=hX9.under
 have hBu:NumsD b10 w10 .u8 AB be:=hBv
 have hHu:NumsD b10 w10 .u8 AH hi:=hHv
 rw [hb10e] at hX9u
 replace hX9u:=hX9u.stay hb10
 clear hX9 hb10 hb10e e0 hBv hHv
 go_loopw [11] (fun i wr=>∃k:Nat,k≤32∧i=.int .i64 k∧Arr wr b10 0 .u8 (fillK K k)∧Only b10 w10 wr) (fun i _=>32 - (intOf i).toNat)
 case atStart=>exact ⟨0,by omega,rfl,h10,Only.refl _ _⟩
 case round =>
 clear h10
 obtain ⟨k,hk,rfl,h10,hO10⟩:=hrel
 by_cases hlt:k<32
 ·have hbr:Below b10 w10 wr:=hO10.below (Nat.le_refl _) (by omega)
  have hk0:(0:Int)≤k:=by omega
  have hk1:(k:Int)<32:=by omega
  have hk2:(k:Int)<64:=by omega
  have hXr:=(hX9u.stay hbr).nums (by have:=hbr.size;omega)
  obtain ⟨g1,o1,x,rfl,_,hc1,H1⟩:=hXr.get (i:=k) (by rw [HBLL.out];omega)
  obtain ⟨y,cyZ,fy,_⟩:=h10.spot (i:=k) (by rw [fillK_length,HKL.out];exact hlt)
  rw [Nat.zero_add] at cyZ fy
  have hset:=h10.set k x
  rw [Nat.zero_add,fillK_set K (by rw [←HK.out k hlt];exact H1.out)] at hset
  have hO11:=hO10.setCell (p:=⟨b10,k,none⟩) (.inl rfl) (.int .u8 x)
  clear h10 hO10 hXr hbr
  go_wp2
  go_roundw
  case rel=>exact ⟨k+1,by omega,by go_num,hset,hO11⟩
  case measure=>simp [intOf];omega
 have e:k=32:=by omega
 subst e
 have e32:fillK K 32=K:=by rw [←HKL.out,fillK_end]
 rw [e32] at h10
 have hbr:Below b10 w10 wr:=hO10.below (Nat.le_refl _) (by omega)
 replace h8:=(h8.arr.below hbr hbw).rw
 have hz0:=hbr.size
 have hB:=(hBu.stay hbr).nums (by omega)
 have hH:=(hHu.stay hbr).nums (by omega)
 have hl10:b10<wr.heap.size:=by omega
 have hW0:Below w.heap.size w wr:=hW.trans (hbr.mono (by omega))
 clear e32 hbr hO10 hlt hk hX9u hBu hHu hW hz0
 generalize wr=W0 at *
 go_wp2_with (at_builtin;refine app_nums rfl (.tmp 30) (.tmp 31) 23 rfl W0.heap.size 5 .u8 1 Tryz.underlying23 Tryz.info5 (by omega) none 0 0 [] rfl (Owns.none_ _ _ _ _) AB cb be (by rw [PBL.out];rfl) hB (by have:=HLB4.out;rw [PBL.out,List.length_nil];omega) (Nat.le_refl _) ?_;intro A1 n1 c1 wa hO hG)
 rw [List.nil_append] at hO
 have hB0:Below W0.heap.size W0 wa:=hG.below (Nat.le_refl _) (fun g e=>by cases e)
 clear hG
 go_loopw [12] (fun v12 wr=>∃(j:Nat) (A:Option Addr) (m c:Nat),j≤f∧v12=.slice A m c∧m=lb+j∧Owns wr W0.heap.size 5 .u8 (.slice A m c) (be++zeros j)∧Below W0.heap.size W0 wr) (fun v12 _=>lb+f - slLen v12)
 case atStart=>exact ⟨0,_,_,_,Nat.zero_le _,rfl,by rw [hO.len,PBL.out];rfl,by rw [zeros_nil,List.append_nil];exact hO,hB0⟩
 case round =>
 clear hO hB0
 obtain ⟨j,A,m,c,hj,rfl,hm,hO,hB0⟩:=hrel
 have hsz:=hB0.size
 have hmb:m≤2000:=by have:=HF.out.2;omega
 by_cases hlt:j<f
 ·have HLL:Hid ((be++zeros j).length≤2000):=hid (by rw [←hO.len];exact hmb)
  obtain ⟨q,hq⟩:∃q,((m:Nat):Int).tmod 16=q:=⟨_,rfl⟩
  have hq0:q≠0:=by rw [←hq,Int.tmod_eq_emod_of_nonneg (by omega)];have:=HF.out.1 j hlt;omega
  have hq1:0≤q:=by rw [←hq,Int.tmod_eq_emod_of_nonneg (by omega)];omega
  have hq2:q<16:=by rw [←hq,Int.tmod_eq_emod_of_nonneg (by omega)];omega
  have HM:=hid hm
  have hj1:j+1≤f:=by omega
  have hjm:lb+f - (lb+(j+1))<lb+f - (lb+j):=by omega
  have HJM:=hid hjm
  clear hjm
  have hdb:(q != 0)=true:=bne_iff_ne.2 hq0
  clear hm hmb hlt
  go_wp2_with (at_builtin;refine app_one _ rfl (.tmp 37) (.tmp 38) 23 rfl W0.heap.size 5 .u8 1 Tryz.underlying23 Tryz.info5 A m c (be++zeros j) rfl hO 0 1 rfl (by have:=HLL.out;omega) (by omega) hsz ?_;intro A' n' c' w2 hO2 hb2)
  have hO3:Owns w2 W0.heap.size 5 .u8 (.slice A' n' c') (be++zeros (j+1)):=by rw [zeros_snoc,←List.append_assoc];exact hO2
  have hn':n'=lb+(j+1):=by rw [hO3.len,List.length_append,PBL.out,zeros_len]
  have hm:=HM.out
  clear hO2 hO
  go_roundw
  case rel=>exact ⟨j+1,A',n',c',hj1,rfl,hn',hO3,hB0.trans hb2⟩
  case measure=>have:=HJM.out;simp only [slLen];rw [hn',hm];exact this
 have e:f=j:=by omega
 subst e
 have hq0:((m:Nat):Int).tmod 16=0:=by rw [Int.tmod_eq_emod_of_nonneg (by omega)];have:=HF.out.2.1;omega
 clear hlt hj
 have HMB:=hid hmb
 have HM:=hid hm
 clear hm hmb
 go_wp2_with (at_builtin;refine app_nums rfl (.tmp 40) (.tmp 41) 23 rfl W0.heap.size 5 .u8 1 Tryz.underlying23 Tryz.info5 (by omega) A m c (be++zeros f) rfl hO AH ch hi (by rw [PHL.out];rfl) (hH.below hB0) (by have:=HMB.out;have:=HLH4.out;rw [←hO.len,PHL.out];omega) hsz ?_;intro A2 n2' c2 wb hO2 hG)
 rw [HP2.out] at hO2
 have hB2:Below W0.heap.size W0 wb:=hB0.trans (hG.below hsz fun g e=>(hO.lt g e).1)
 clear hO hB0 hG hq0 HMB HM hsz
 have hO:=hO2
 have hB0:=hB2
 clear hO2 hB2
 go_loopw [12] (fun v12 wr=>∃(j:Nat) (A:Option Addr) (m c:Nat),j≤g∧v12=.slice A m c∧m=n2+j∧Owns wr W0.heap.size 5 .u8 (.slice A m c) (P2++zeros j)∧Below W0.heap.size W0 wr) (fun v12 _=>n2+g - slLen v12)
 case atStart=>exact ⟨0,_,_,_,Nat.zero_le _,rfl,by rw [hO.len,HP2L.out];rfl,by rw [zeros_nil,List.append_nil];exact hO,hB0⟩
 case round =>
 clear hO hB0
 obtain ⟨j,A,m,c,hj,rfl,hm,hO,hB0⟩:=hrel
 have hsz:=hB0.size
 have hmb:m≤2000:=by have:=HG.out.2;omega
 by_cases hlt:j<g
 ·have HLL:Hid ((P2++zeros j).length≤2000):=hid (by rw [←hO.len];exact hmb)
  obtain ⟨q,hq⟩:∃q,((m:Nat):Int).tmod 16=q:=⟨_,rfl⟩
  have hq0:q≠0:=by rw [←hq,Int.tmod_eq_emod_of_nonneg (by omega)];have:=HG.out.1 j hlt;omega
  have hq1:0≤q:=by rw [←hq,Int.tmod_eq_emod_of_nonneg (by omega)];omega
  have hq2:q<16:=by rw [←hq,Int.tmod_eq_emod_of_nonneg (by omega)];omega
  have HM:=hid hm
  have hj1:j+1≤g:=by omega
  have hjm:n2+g - (n2+(j+1))<n2+g - (n2+j):=by omega
  have HJM:=hid hjm
  clear hjm
  have hdb:(q != 0)=true:=bne_iff_ne.2 hq0
  clear hm hmb hlt
  go_wp2_with (at_builtin;refine app_one _ rfl (.tmp 47) (.tmp 48) 23 rfl W0.heap.size 5 .u8 1 Tryz.underlying23 Tryz.info5 A m c (P2++zeros j) rfl hO 0 1 rfl (by have:=HLL.out;omega) (by omega) hsz ?_;intro A' n' c' w2 hO2 hb2)
  have hO3:Owns w2 W0.heap.size 5 .u8 (.slice A' n' c') (P2++zeros (j+1)):=by rw [zeros_snoc,←List.append_assoc];exact hO2
  have hn':n'=n2+(j+1):=by rw [hO3.len,List.length_append,HP2L.out,zeros_len]
  have hm:=HM.out
  clear hO2 hO
  go_roundw
  case rel=>exact ⟨j+1,A',n',c',hj1,rfl,hn',hO3,hB0.trans hb2⟩
  case measure=>have:=HJM.out;simp only [slLen];rw [hn',hm];exact this
 have e:g=j:=by omega
 subst e
 have hq0:((m:Nat):Int).tmod 16=0:=by rw [Int.tmod_eq_emod_of_nonneg (by omega)];have:=HG.out.2.1;omega
 clear hlt hj
 have HMB:=hid hmb
 have HM:=hid hm
 clear hm hmb
 go_wp2_with (first
  | (go_at_call 69;(with_reducible refine (rlow8 lb _ (by have:=HLB4.out;omega)).mono ?_);rintro e wc ⟨B3,d3,rfl,hN3,hb3⟩
     replace hO:=hO.stay hb3
     have hOc:∀q,(Value.slice A m c).ownBlock=some q→q<wc.heap.size:=fun q hq=>(hO.lt q hq).2
     replace hB0:=hB0.trans (hb3.mono hsz)
     have hsz3:=hB0.size)
  | (go_at_call 69;(with_reducible refine (rlow8 lh _ (by have:=HLH4.out;omega)).mono ?_);rintro e wd ⟨B4,d4,rfl,hN4,hb4⟩
     replace hO:=hO.stay hb4
     replace hN3:=hN3.stay hb4
     have hfar:∀q,(Value.slice A m c).ownBlock=some q→q<wc.heap.size:=hOc
     replace hB0:=hB0.trans (hb4.mono hsz3)
     have hsz4:=hB0.size)
  | (at_builtin;refine app_nums rfl (.tmp 62) (.tmp 63) 23 rfl W0.heap.size 5 .u8 1 Tryz.underlying23 Tryz.info5 (by omega) A m c (P2++zeros g) rfl hO B3 d3 (le8 lb) (by rw [L8.out];rfl) hN3.nums (by have:=HMB.out;rw [←hO.len,L8.out];omega) hsz4 ?_;intro A5 n5 c5 we hO5 hG5))
 have hN5:=hN4.far hfar (Below.refl _ _) hG5
 have hB5:Below W0.heap.size W0 we:=hB0.trans (hG5.below hsz4 fun g e=>(hO.lt g e).1)
 rw [HT1.out] at hO5
 have hm5:=hO5.len
 clear hO hG5 hN3 hN4 hB0 hOc hfar hb3 hb4 hsz hsz3 hsz4 hq0 HMB HM
 have i32k:(Tryz.prog.info? 22).map (·.size)=some (ints .u8 K).length:=szV inf41 (il HKL.out)
 have hK5:∀ww,Below W0.heap.size W0 ww→ww.rangeAt b10 0 (ints .u8 K):=fun ww h=>(h10.below h hl10).range
 have HK5:=hid hK5
 have HB5:=hid hB5
 have HO5:=hid hO5
 clear hK5 hB5 hO5
 refine wp_region_any (by kernel_rfl) ?_
 change wpAny _ _ _ _ _ _ _ (World.drew _)
 refine wpAny_take (i:=1) (v:=.slice A5 n5 c5) rfl (by kernel_rfl) (by kernel_rfl) (by kernel_rfl) (fun _ _ _ h=>h) (Or.inl ⟨by rfl,fun w=>by go_simp⟩) ?_
 refine wpAny_take (i:=2) (v:=.slice B4 8 d4) rfl (by kernel_rfl) (by kernel_rfl) (by kernel_rfl) (fun _ _ _ h=>h) (Or.inl ⟨by rfl,fun w=>by go_simp⟩) ?_
 have hwd:=HB5.out.drew
 have hod:=HO5.out.drew
 have hnd:NumsF wc.heap.size we.drew .u8 B4 (le8 lh):=hN5
 have h63:(T1.length+(le8 lh).length)*1≤140737488355328:=by have:=HTL.out;have:=L9.out;omega
 have hm8:∀ww,Below W0.heap.size W0 ww→Rw ww (w.heap.size+1+1) 0 (ints .u8 (zeros 16)):=fun ww h=>(h8.arr.below h (by omega)).rw
 generalize we.drew=wf at *
 refine any_two (i:=0) (k:=3) (by kernel_rfl) ?_ ?_
 ·refine op_wp (o:=⟨some 65,.load 22 (.tmp 10),_,_,_,_⟩) rfl rfl (wp_load_mid 22 (.tmp 10) rfl b10 0 rfl (ints .u8 K) _ (HK5.out _ hwd) Tryz.underlying22 rfl i32k ?_)
  refine any_one (i:=3) (by kernel_rfl) ?_
  refine op_wp (o:=⟨some 68,.call { callee:=.builtin .append,args:=#[.tmp 66,.tmp 67],argTypes:=#[23,23] },_,_,_,_⟩) rfl rfl ?_
  refine wp_app (.tmp 66) (.tmp 67) 23 rfl W0.heap.size 5 .u8 1 Tryz.underlying23 Tryz.info5 (by omega) A5 n5 c5 T1 rfl hod B4 d4 (le8 lh) (by rw [L9.out];rfl) hnd.nums h63 hwd.size fun A6 n6 c6 wg hO6 hG6=>?_
  have hwg:Below W0.heap.size W0 wg:=hwd.trans (hG6.below hwd.size fun g e=>(hod.lt g e).1)
  rw [HT.out] at hO6
  have hn6:=hO6.len
  refine any_one (i:=4) (by kernel_rfl) ?_
  refine op_call2 (o:=⟨some 69,.call { callee:=.value (.func 70),args:=#[.tmp 65,.tmp 68],argTypes:=#[22,23] },_,_,_,_⟩) rfl rfl 70 (x:=.tmp 65) (y:=.tmp 68) (u:=.agg (ints .u8 K).toArray) (v:=.slice A6 n6 c6) rfl cx19 rfl rfl ?_
  refine (rtag_any K T A6 n6 c6 wg HKL.out HKB.out hn6.symm (by rw [hn6];exact HTN.out) HTB.out hO6.nums).mono ?_
  rintro e wh ⟨rfl,hbh⟩
  rw [HR.out]
  have hwh:Below W0.heap.size W0 wh:=hwg.trans (hbh.mono hwg.size)
  refine ⟨_,rfl,?_⟩
  have R8:=(hm8 wh hwh).roomA (us:=ints .u8 r) ((il HRL.out).trans (il (zeros_len 16)).symm)
  have X8:=(hm8 wh hwh).storedA (us:=ints .u8 r) ((il HRL.out).trans (il (zeros_len 16)).symm)
  have hW9:Below w.heap.size w wh:=hW0.trans (hwh.mono hW0.size)
  have hW8:=Below.setCells hW9 (g:=w.heap.size+1+1) (by omega) 0 (ints .u8 r).toArray.toList
  refine any_one (i:=5) (by kernel_rfl) (op_storeS (o:=⟨none,.store 54 (.tmp 8) (.tmp 69),_,_,_,_⟩) rfl rfl 54 (.tmp 8) (.tmp 69) rfl (w.heap.size+1+1) (ints .u8 r).toArray rfl rfl R8 (szA inf33 (il HRL.out)) (ints_all _ _) ?_)
  refine any_done (by kernel_rfl) ?_
  generalize wh.setCells (w.heap.size+1+1) 0 (ints .u8 r).toArray.toList=wz at *
  go_wp2_with (fail)
  exact ret_rows rfl (w.heap.size+1+1) 0 rfl (ints .u8 r) _ X8.range Tryz.underlying54 rfl (szV inf33 (il HRL.out)) rfl ⟨rfl,hW8⟩
 ·refine op_wp (o:=⟨some 68,.call { callee:=.builtin .append,args:=#[.tmp 66,.tmp 67],argTypes:=#[23,23] },_,_,_,_⟩) rfl rfl ?_
  refine wp_app (.tmp 66) (.tmp 67) 23 rfl W0.heap.size 5 .u8 1 Tryz.underlying23 Tryz.info5 (by omega) A5 n5 c5 T1 rfl hod B4 d4 (le8 lh) (by rw [L9.out];rfl) hnd.nums h63 hwd.size fun A6 n6 c6 wg hO6 hG6=>?_
  have hwg:Below W0.heap.size W0 wg:=hwd.trans (hG6.below hwd.size fun g e=>(hod.lt g e).1)
  rw [HT.out] at hO6
  have hn6:=hO6.len
  refine any_one (i:=0) (by kernel_rfl) ?_
  refine op_wp (o:=⟨some 65,.load 22 (.tmp 10),_,_,_,_⟩) rfl rfl (wp_load_mid 22 (.tmp 10) rfl b10 0 rfl (ints .u8 K) _ (HK5.out _ hwg) Tryz.underlying22 rfl i32k ?_)
  refine any_one (i:=4) (by kernel_rfl) ?_
  refine op_call2 (o:=⟨some 69,.call { callee:=.value (.func 70),args:=#[.tmp 65,.tmp 68],argTypes:=#[22,23] },_,_,_,_⟩) rfl rfl 70 (x:=.tmp 65) (y:=.tmp 68) (u:=.agg (ints .u8 K).toArray) (v:=.slice A6 n6 c6) rfl cx19 rfl rfl ?_
  refine (rtag_any K T A6 n6 c6 wg HKL.out HKB.out hn6.symm (by rw [hn6];exact HTN.out) HTB.out hO6.nums).mono ?_
  rintro e wh ⟨rfl,hbh⟩
  rw [HR.out]
  have hwh:Below W0.heap.size W0 wh:=hwg.trans (hbh.mono hwg.size)
  refine ⟨_,rfl,?_⟩
  have R8:=(hm8 wh hwh).roomA (us:=ints .u8 r) ((il HRL.out).trans (il (zeros_len 16)).symm)
  have X8:=(hm8 wh hwh).storedA (us:=ints .u8 r) ((il HRL.out).trans (il (zeros_len 16)).symm)
  have hW9:Below w.heap.size w wh:=hW0.trans (hwh.mono hW0.size)
  have hW8:=Below.setCells hW9 (g:=w.heap.size+1+1) (by omega) 0 (ints .u8 r).toArray.toList
  refine any_one (i:=5) (by kernel_rfl) (op_storeS (o:=⟨none,.store 54 (.tmp 8) (.tmp 69),_,_,_,_⟩) rfl rfl 54 (.tmp 8) (.tmp 69) rfl (w.heap.size+1+1) (ints .u8 r).toArray rfl rfl R8 (szA inf33 (il HRL.out)) (ints_all _ _) ?_)
  refine any_done (by kernel_rfl) ?_
  generalize wh.setCells (w.heap.size+1+1) 0 (ints .u8 r).toArray.toList=wz at *
  go_wp2_with (fail)
  exact ret_rows rfl (w.heap.size+1+1) 0 rfl (ints .u8 r) _ X8.range Tryz.underlying54 rfl (szV inf33 (il HRL.out)) rfl ⟨rfl,hW8⟩
theorem fillIs {n:Nat} (h:n≤900):FillIs n (fillN n):=by
 have h1:=fillN_lt n
 have h2:=fillN_mod n
 refine ⟨fun j hj=>?_,h2,by omega⟩
 unfold fillN at hj
 omega
theorem fillIs_mod {n m:Nat} (h:m%16=0) (hn:m+n≤900):FillIs (m+n) (fillN n):=by
 have e:fillN (m+n)=fillN n:=by unfold fillN;omega
 rw [←e]
 exact fillIs hn
theorem rtag11_any (key nonce be hi:List Int) (AB AH:Option Addr) (lb cb lh ch:Nat) (w:World) (hk:Hid (key.length=32)) (hn:Hid (nonce.length=12)) (hkb:HByt key) (hnb:HByt nonce) (PB:Hid (PLZ lb be)) (PH:Hid (PLZ lh hi)) (hlb:lb≤400) (hlh:lh≤400) (hB:Nums w .u8 AB be) (hH:Nums w .u8 AH hi) :
 Calls Tryz.prog 44 #[.agg (ints .u8 key).toArray,.agg (ints .u8 nonce).toArray,.slice AB lb cb,.slice AH lh ch] w fun e w'=>e=.returned (.agg (ints .u8 (atag key nonce be hi)).toArray)∧Below w.heap.size w w':=by
 have hl:=blockL_length (count:=0) hk.out hn.out
 have f1:=fillN_lt lb
 have f2:=fillN_lt lh
 have hTb:=tagT_byt PB.out.2.2 PH.out.2.2
 have hTl:=tagT_len be hi
 rw [PB.out.1,PH.out.1] at hTl
 have eT:(((be++zeros (fillN lb))++hi)++zeros (fillN lh))++le8 lb++le8 lh=tagT be hi:=by
  unfold tagT
  rw [PB.out.1,PH.out.1]
  simp only [List.append_assoc]
 exact rtag11_core key nonce be hi (blockL key nonce 0) (onceL key nonce) ((be++zeros (fillN lb))++hi) ((((be++zeros (fillN lb))++hi)++zeros (fillN lh))++le8 lb) (tagT be hi) (atag key nonce be hi) AB AH lb cb lh ch (fillN lb) (fillN lh) (lb+fillN lb+lh) w hk hn hkb hnb (hid rfl) (hid hl) (hid fun i hi=>by unfold onceL;rw [List.getElem?_take,if_pos hi]) (hid (onceL_len hk.out hn.out)) (hid (onceL_byt _ _))
  (hid (by omega)) (hid (by omega)) (hid (fillIs (by omega))) (hid (fillIs_mod (fillN_mod lb) (by omega))) (hid rfl) (hid (by simp only [List.length_append,zeros_len,PB.out.1,PH.out.1])) (hid PB.out.1) (hid PH.out.1) (hid (le8_length _)) (hid (le8_length _))
  (hid rfl) (hid eT) (hid (by simp only [List.length_append,zeros_len,PB.out.1,PH.out.1,le8_length];omega)) (hid (by rw [hTl];omega)) (hid hTb) (hid rfl) (hid (atag_len _ _ _ _)) hB hH
end
section
set_option maxRecDepth 50000
set_option maxHeartbeats 4000000 in
theorem rseal_core (key nonce be t h r:List Int) (AB AT:Option Addr) (lb cb lt ct:Nat) (w:World) (hk:Hid (key.length=32)) (hn:Hid (nonce.length=12)) (hkb:HByt key) (hnb:HByt nonce) (HTB:HByt t) (PB:Hid (PLZ lb be)) (PT:Hid (t.length=lt)) (HLT:Hid (lt≤400)) (HLB:Hid (lb≤400)) (HH:Hid (hideL t (strm key nonce 1 (4294967296 - 1))=h)) (PH:Hid (PLZ lt h)) (HR:Hid (atag key nonce be h=r)) (HRL:Hid (r.length=16)) (hB:Nums w .u8 AB be) (hA:Nums w .u8 AT t) :
 Calls Tryz.prog 21 #[.agg (ints .u8 key).toArray,.agg (ints .u8 nonce).toArray,.slice AB lb cb,.slice AT lt ct] w fun e w'=>∃A m d,e=.returned (.slice A m d)∧(h++r).length=m∧Nums w' .u8 A (h++r)∧Below w.heap.size w w':=by
 obtain ⟨z33,s33⟩:=zero_of_info inf33
 have hK:=((Arr.made w .u8 key 22).alloc (.cells (ints .u8 nonce).toArray 40)).rw
 have hN:=(Arr.made (w.alloc (.cells (ints .u8 key).toArray 22)) .u8 nonce 40).rw
 have hW:=(below_new w (.cells (ints .u8 key).toArray 22)).alloc (by simp) (.cells (ints .u8 nonce).toArray 40)
 rw [World.size_alloc] at hN
 replace hB:=hB.below hW
 replace hA:=hA.below hW
 have i32:(Tryz.prog.info? 22).map (·.size)=some (ints .u8 key).length:=szV inf41 (il hk.out)
 have i12:(Tryz.prog.info? 40).map (·.size)=some (ints .u8 nonce).length:=szV infNo (il hn.out)
 have r4:=hK.range
 have r5:=hN.range
 go_enter Tryz.func21,Tryz.ntmps21
 go_wp2_with (first
  | (with_reducible refine wpList_load_mid (op:=⟨some 12,.load 22 (.tmp 4),_,_,_,_⟩) rfl 22 (.tmp 4) rfl w.heap.size 0 rfl (ints .u8 key) _ r4 Tryz.underlying22 rfl i32 ?_)
  | (with_reducible refine wpList_load_mid (op:=⟨some 13,.load 40 (.tmp 5),_,_,_,_⟩) rfl 40 (.tmp 5) rfl (w.heap.size+1) 0 rfl (ints .u8 nonce) _ r5 Tryz.underlying40 rfl i12 ?_)
  | (go_at_call 43;clear r4 r5;generalize (w.alloc (.cells (ints .u8 key).toArray 22)).alloc (.cells (ints .u8 nonce).toArray 40)=w8 at *
     refine (rhide_allown key nonce t 1 (4294967296 - 1) lt ct AT _ hk hn hkb hnb HTB PT (by have:=HLT.out;omega) (by decide) (by have:=HLT.out;omega) hA).mono ?_;rintro e w1 ⟨AH,dh,rfl,hO,hb1⟩
     rw [HH.out] at hO
     replace hO:=hO.lower hW.size
     replace hK:=hK.next hb1;replace hN:=hN.next hb1;replace hB:=hB.below hb1;replace hW:=hW.trans (Below.mono hb1 hW.size)
     have q4:=hK.range
     have q5:=hN.range
     clear hb1 hA)
  | (with_reducible refine wpList_load_mid (op:=⟨some 16,.load 22 (.tmp 4),_,_,_,_⟩) rfl 22 (.tmp 4) rfl w.heap.size 0 rfl (ints .u8 key) _ q4 Tryz.underlying22 rfl i32 ?_)
  | (with_reducible refine wpList_load_mid (op:=⟨some 17,.load 40 (.tmp 5),_,_,_,_⟩) rfl 40 (.tmp 5) rfl (w.heap.size+1) 0 rfl (ints .u8 nonce) _ q5 Tryz.underlying40 rfl i12 ?_)
  | (go_at_call 44;clear q4 q5;refine (rtag11_any key nonce be h AB AH lb cb lt dh _ hk hn hkb hnb PB PH HLB.out HLT.out hB hO.nums).mono ?_;rintro e w2 ⟨rfl,hb2⟩
     rw [HR.out]
     replace hO:=hO.stay hb2
     have hOb:=fun q (hq:(Value.slice AH lt dh).ownBlock=some q)=>(hO.lt q hq).2
     have h12:=Rw.new w2 (ints .u8 (zeros 16)) 54
     have R12:=h12.roomA (us:=ints .u8 r) ((il HRL.out).trans (il (zeros_len 16)).symm)
     have X12:=h12.storedA (us:=ints .u8 r) ((il HRL.out).trans (il (zeros_len 16)).symm)
     have hb4:=Below.setCells (below_new w2 (.cells (ints .u8 (zeros 16)).toArray 54)) (Nat.le_refl _) 0 (ints .u8 r).toArray.toList
     replace hO:=hO.stay hb4
     replace hW:=hW.trans (Below.mono (hb2.trans (Below.mono hb4 hb2.size)) hW.size)
     have hne:∀q,(Value.slice AH lt dh).ownBlock=some q→q<w2.heap.size:=hOb
     clear hb2 hb4 h12)
  | (with_reducible refine wpList_store_mid (op:=⟨none,.store 54 (.tmp 10) (.tmp 20),_,_,_,_⟩) rfl 54 (.tmp 10) (.tmp 20) rfl w2.heap.size 0 (ints .u8 r).toArray rfl rfl R12 (szA inf33 (il HRL.out)) (ints_all _ _) ?_
     generalize (w2.alloc (.cells (ints .u8 (zeros 16)).toArray 54)).setCells w2.heap.size 0 (ints .u8 r).toArray.toList=w3 at *
     generalize w2.heap.size=b10 at *
     clear R12))
 have hne0:(Value.slice AH lt dh).ownBlock≠some b10:=fun e=>absurd (hne b10 e) (Nat.lt_irrefl _)
 have hl10:=X12.lt (by rw [il HRL.out];decide)
 have h10:=X12.arr
 have hO0:Owns w3 w.heap.size 5 .u8 (.slice AH lt dh) (h++r.take 0):=by rw [List.take_zero,List.append_nil];exact hO
 clear hO hne X12 hK hN hB
 go_loopw [9,11] (fun v9 i wr=>∃(k:Nat) (A:Option Addr) (m c:Nat),k≤16∧i=.int .i64 k∧v9=.slice A m c∧Owns wr w.heap.size 5 .u8 (.slice A m c) (h++r.take k)∧(Value.slice A m c).ownBlock≠some b10∧Arr wr b10 0 .u8 r∧Below w.heap.size w wr) (fun _ i _=>16 - (intOf i).toNat)
 case atStart=>exact ⟨0,_,_,_,by omega,rfl,rfl,hO0,hne0,h10,hW⟩
 case round =>
 clear hO0 hne0 h10 hW
 obtain ⟨k,A,m,c,hk16,rfl,rfl,hO,hne,h10,hW⟩:=hrel
 by_cases hlt:k<16
 ·have hk0:(0:Int)≤k:=by omega
  have hk1:(k:Int)<16:=by omega
  obtain ⟨x,cx,_,H1⟩:=h10.spot (i:=k) (by rw [HRL.out];exact hlt)
  rw [Nat.zero_add] at cx
  have hsz:=hW.size
  have hl:=h10.lt (by rw [HRL.out];decide)
  have HLL:Hid ((h++r.take k).length≤600):=hid (by rw [List.length_append,PH.out.1,List.length_take];have:=HLT.out;omega)
  have htk:h++r.take (k+1)=(h++r.take k)++[x]:=by rw [take_succ_at H1.out,List.append_assoc]
  have HTK:=hid htk
  clear htk hlt
  go_wp2_with (at_builtin;refine app_oneG rfl (.tmp 25) (.tmp 29) 23 rfl w.heap.size 5 .u8 1 Tryz.underlying23 Tryz.info5 (by omega) A m c (h++r.take k) rfl hO x 1 rfl (by have:=HLL.out;omega) hsz ?_;intro A2 n2 c2 w5 hO2 hG)
  rw [←HTK.out] at hO2
  have h10b:=h10.grew hG hne hl
  have hneb:=hG.far hne hl
  have hW2:=hW.trans (hG.below hsz fun g e=>(hO.lt g e).1)
  clear hO hne h10 hW hG
  go_roundw
  case rel=>exact ⟨k+1,A2,n2,c2,by omega,by go_num,rfl,hO2,hneb,h10b,hW2⟩
  case measure=>simp [intOf];omega
 have e:16=k:=by omega
 subst e
 rw [List.take_of_length_le (by rw [HRL.out];decide)] at hO
 have hm:=hO.len
 clear hlt hk16
 go_wp2
 go_ret
 exact ⟨A,m,c,rfl,hm.symm,hO.nums,hW⟩
theorem rseal_any (key nonce be t:List Int) (AB AT:Option Addr) (lb cb lt ct:Nat) (w:World) (hk:Hid (key.length=32)) (hn:Hid (nonce.length=12)) (hkb:HByt key) (hnb:HByt nonce) (HTB:HByt t) (PB:Hid (PLZ lb be)) (PT:Hid (t.length=lt)) (HLT:Hid (lt≤400)) (HLB:Hid (lb≤400)) (hB:Nums w .u8 AB be) (hA:Nums w .u8 AT t) :
 Calls Tryz.prog 21 #[.agg (ints .u8 key).toArray,.agg (ints .u8 nonce).toArray,.slice AB lb cb,.slice AT lt ct] w fun e w'=>∃A m d,e=.returned (.slice A m d)∧(sealL key nonce be t).length=m∧Nums w' .u8 A (sealL key nonce be t)∧Below w.heap.size w w' :=
 rseal_core key nonce be t (hidT key nonce t) (atag key nonce be (hidT key nonce t)) AB AT lb cb lt ct w hk hn hkb hnb HTB PB PT HLT HLB (hid rfl) (hid ⟨by rw [hidT_len hk.out hn.out (by rw [PT.out];have:=HLT.out;omega),PT.out],by have:=HLT.out;omega,hidT_byt _ _ HTB⟩) (hid rfl) (hid (atag_len _ _ _ _)) hB hA
end
section
set_option maxRecDepth 50000
theorem rb_zero:rbytes 0=hzeros 32:=by decide +kernel
theorem rkey_zero {sd pu fi re:List Int} (h3:fi.length=32) (b3:HByt fi) (h4:re.length=32) (b4:HByt re) (h:noughtB sd pu=true) (w:World) :
 Calls Tryz.prog 18 #[.agg (ints .u8 (shL sd pu)).toArray,.agg (ints .u8 fi).toArray,.agg (ints .u8 re).toArray] w fun e w'=>e=.returned (.tuple #[.agg (ints .u8 (hzeros 32)).toArray,.bool false])∧Below w.heap.size w w':=by
 have hd:decide (shL sd pu=hzeros 32)=true:=by rw [←rb_zero];exact h
 exact rkeyB_no (shL sd pu) fi re w (hid (sh_len _ _)) (hid h3) (hid h4) (sh_byt _ _) b3 b4 (hid hd)
theorem rkey_some {sd pu fi re:List Int} (h3:fi.length=32) (b3:HByt fi) (h4:re.length=32) (b4:HByt re) (h:noughtB sd pu=false) (w:World) :
 Calls Tryz.prog 18 #[.agg (ints .u8 (shL sd pu)).toArray,.agg (ints .u8 fi).toArray,.agg (ints .u8 re).toArray] w fun e w'=>e=.returned (.tuple #[.agg (ints .u8 (boxK (shL sd pu) fi re)).toArray,.bool true])∧Below w.heap.size w w':=by
 have hd:decide (shL sd pu=hzeros 32)=false:=by rw [←rb_zero];exact h
 exact rkeyB_yes (boxK (shL sd pu) fi re) (shL sd pu) fi re w (hid (sh_len _ _)) (hid h3) (hid h4) (sh_byt _ _) b3 b4 (hid hd) (hid rfl) (hid (boxK_len _ _ _))
theorem rwrap_some (sd pu t:List Int) (AT:Option Addr) (lt ct:Nat) (w:World) (h1:sd.length=32) (b1:HByt sd) (h2:pu.length=32) (b2:HByt pu) (hl:t.length=lt) (hlt:lt≤400) (bt:HByt t) (hA:Nums w .u8 AT t) (h:noughtB sd pu=false) :
 Calls Tryz.prog 7 #[.agg (ints .u8 sd).toArray,.agg (ints .u8 pu).toArray,.slice AT lt ct] w fun e w'=>∃v,e=.returned v∧IsTupE (32+(lt+16)) 0 (wrapL sd pu t) v w'∧Below w.heap.size w w':=by
 have hw:wrapL sd pu t=pubL sd++sealL (boxK (shL sd pu) (pubL sd) pu) (zeros 12) [] t:=by unfold wrapL;rw [h];rfl
 rw [hw]
 have hk:=boxK_len (shL sd pu) (pubL sd) pu
 have hkb:=boxK_byt (shL sd pu) (pubL sd) pu
 have hky:=rkey_some (sd:=sd) (pu:=pu) (pub_len sd) (pub_byt sd) h2 b2 h
 have hm:=c_rladder h1 b1 h2 b2
 clear hw
 generalize boxK (shL sd pu) (pubL sd) pu=K at *
 have hz:(sealL K (zeros 12) [] t).length=lt+16:=by rw [sealL_len hk (zeros_len 12) (by omega),hl]
 refine (rwrap_yes (sealL K (zeros 12) [] t) sd pu (pubL sd) (shL sd pu) K t AT lt ct w (hid h1) (hid h2) (hid (pub_len sd)) (hid (sh_len _ _)) (hid hk) hA (hid (c_rpub h1 b1)) (hid hm) hlt (hid hz) (hid hky) (hid fun w hA=>?_)).mono fun e w' ⟨A,m,d,he,hm,hN,hb⟩=>⟨_,he,⟨A,d,?_,hN⟩,hb⟩
 ·exact rseal_any K (zeros 12) [] t none AT 0 0 lt ct w (hid hk) (hid (zeros_len 12)) hkb z12_byt bt (hid pl_nil) (hid hl) (hid hlt) (hid (by decide)) Nums.nil hA
 ·rw [←hm,List.length_append,pub_len,hz]
theorem rwrap_none (sd pu t:List Int) (AT:Option Addr) (lt ct:Nat) (w:World) (h1:sd.length=32) (b1:HByt sd) (h2:pu.length=32) (b2:HByt pu) (hA:Nums w .u8 AT t) (h:noughtB sd pu=true) :
 Calls Tryz.prog 7 #[.agg (ints .u8 sd).toArray,.agg (ints .u8 pu).toArray,.slice AT lt ct] w fun e w'=>e=.returned (.tuple #[.slice none 0 0,.int .i64 21])∧Below w.heap.size w w' :=
 rwrap_no sd pu (pubL sd) (shL sd pu) (hzeros 32) t AT lt ct w (hid h1) (hid h2) (hid (pub_len sd)) (hid (sh_len _ _)) (hid (hz_len 32)) hA (hid (c_rpub h1 b1)) (hid (c_rladder h1 b1 h2 b2)) (hid fun w=>rkey_zero (pub_len sd) (pub_byt sd) h2 b2 h w)
theorem cxSamB (vs:Array Value) (w:World):(callFunc 8 vs).run Tryz.prog w=.ok (.enter 8 vs) w:=by go_simp
section
variable {ops:Array Oper} {md:Region.Mode} {W:World} {a0:Act} {n:Nat} {al:Nat→Bool} {S:Nat→Value→World→Prop} {Q:Exit→Act→World→Prop} {i:Nat} {o:Oper}
theorem step_eqI (hal:al i=false) (hg:GuardOn ops md n S i o) {T:Nat} {x y:Operand} {a:Int} (ho:o.op=.binOp .eql T x y T) (hT:Tryz.prog.underlying T=some (.int .i64)) (hS:S i=Is (.bool true)) (h1:Knows ops md W a0 n S i x (.int .i64 a)) (h2:Knows ops md W a0 n S i y (.int .i64 a)):StepOk Tryz.prog ops md W a0 n al S Q i o :=
 step_two hal hg (fun ev w h1 h2 _=>by
  unfold execOp
  simp only [ho,h1,h2]
  go_simp) hS h1 h2
end
end
end Go.Proofs.YtkblmdakejmmhaaGreatDoor
