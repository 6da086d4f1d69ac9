import Derived.Test.YtkblmdakejmmhaaGreatDoorVRKeyWM
import Derived.Test.YtkblmdakejmmhaaGreatDoorLRefM
namespace Go.Proofs.YtkblmdakejmmhaaGreatDoor
open Go Go.RowKit
section
set_option maxRecDepth 50000
theorem cxRByt (vs:Array Value) (w:World):(callFunc 20 vs).run Tryz.prog w=.ok (.enter 20 vs) w:=by go_simp
theorem cxRKey (vs:Array Value) (w:World):(callFunc 32 vs).run Tryz.prog w=.ok (.enter 32 vs) w:=by go_simp
theorem cxRMul (vs:Array Value) (w:World):(callFunc 19 vs).run Tryz.prog w=.ok (.enter 19 vs) w:=by go_simp
theorem cxRBas (vs:Array Value) (w:World):(callFunc 31 vs).run Tryz.prog w=.ok (.enter 31 vs) w:=by go_simp
theorem cxRPub (vs:Array Value) (w:World):(callFunc 17 vs).run Tryz.prog w=.ok (.enter 17 vs) w:=by go_simp
theorem cxRKyB (vs:Array Value) (w:World):(callFunc 18 vs).run Tryz.prog w=.ok (.enter 18 vs) w:=by go_simp
theorem own_room {w:World} {base m c:Nat} {A:Option Addr} {e:TypeId} {k:IntKind} {xs:List Int} (h:Owns w base e k (.slice A m c) xs):m≤c:=by
 obtain ⟨A3,m3,d3,e3,_,hmd3⟩:=slice_of_row2 h
 injection e3 with e4 e5 e6
 subst e4 e5 e6
 exact hmd3
section
variable {ops:Array Oper} {md:Region.Mode} {W:World} {a0:Act} {n:Nat} {al:Nat→Bool} {S:Nat→Value→World→Prop} {Q:Exit→Act→World→Prop} {i:Nat} {o:Oper}
theorem step_rbytP (hal:al i=false) (hg:GuardOn ops md n S i o) {x:Operand} {ts:Array TypeId} {l:List Int} (ho:o.op=.call { callee:=.value (.func 20),args:=#[x],argTypes:=ts }) (hl:l.length=32) (hS:S i=IsPart 32 l) (hx:Knows ops md W a0 n S i x (.agg (ints .u8 l).toArray)):StepOk Tryz.prog ops md W a0 n al S Q i o :=
 step_callR hal hg ho cxRByt hS fun a w hw hf hd=>⟨_,by rw [map1,hx a w hw hf hd],(rbyt_any l w (hid hl)).mono fun e w' ⟨A,d,he,hO,hb⟩=>⟨_,he,⟨A,d,rfl,own_room hO,hO.nums⟩,hb⟩⟩
theorem step_rbytO (hal:al i=false) (hg:GuardOn ops md n S i o) {x:Operand} {ts:Array TypeId} {l:List Int} (ho:o.op=.call { callee:=.value (.func 20),args:=#[x],argTypes:=ts }) (hl:l.length=32) (hS:S i=IsOwn W.heap.size 5 .u8 l) (hx:Knows ops md W a0 n S i x (.agg (ints .u8 l).toArray)):StepOk Tryz.prog ops md W a0 n al S Q i o :=
 step_callR hal hg ho cxRByt hS fun a w hw hf hd=>⟨_,by rw [map1,hx a w hw hf hd],(rbyt_any l w (hid hl)).mono fun e w' ⟨A,d,he,hO,hb⟩=>⟨_,he,⟨A,d,by rw [hl],hO.lower (Below.size hw)⟩,hb⟩⟩
theorem step_rkeyB (hal:al i=false) (hg:GuardOn ops md n S i o) {x y:Operand} {ts:Array TypeId} {src s r k:List Int} (ho:o.op=.call { callee:=.value (.func 32),args:=#[x,.const (.string { data:=#[98,111,120] }),y],argTypes:=ts }) (hK:src.length=32) (hkb:HByt src) (hr:boxK src s r=k) (hsl:s.length≤100) (hrl:r.length≤100) (hS:S i=Is (.tuple #[.agg (ints .u8 k).toArray,.int .i64 0]))
 (hx:KnowsW ops md W a0 n S i x (IsPart 32 src)) (hy:KnowsW ops md W a0 n S i y (IsRow2 s r)):StepOk Tryz.prog ops md W a0 n al S Q i o :=
 step_call hal hg fun a w hw hf hd=>by
  obtain ⟨PA,pc,q1,q2,h1,h2,h3,h4,h5,h6⟩:=hy a w hw hf hd
  obtain ⟨A,c,h0,_,hA⟩:=hx a w hw hf hd
  refine ⟨32,#[.slice A 32 c,.string { data:=#[98,111,120] },.slice PA 2 pc],ex_fn rfl cxRKey ho _ ?_ w,(rkey_any src A PA 32 c 2 pc { data:=#[98,111,120] } [q1,q2] w (hid hK) (by decide) (by decide) hkb hA (by decide) h2 (hid rfl) (by decide) ?_ ?_).mono fun e w' ⟨he,hbl⟩=>⟨_,he,?_,hbl⟩⟩
  ·have e:(#[x,.const (.string { data:=#[98,111,120] }),y]:Array Operand).map a.eval = #[a.eval x,a.eval (.const (.string { data:=#[98,111,120] })),a.eval y]:=by simp
   rw [e,h0,h1]
   rfl
  ·intro q hq
   simp only [List.mem_cons,List.not_mem_nil,or_false] at hq
   rcases hq with rfl|rfl
   ·exact h3
   ·exact h4
  ·intro q hq
   simp only [List.mem_cons,List.not_mem_nil,or_false] at hq
   rcases hq with rfl|rfl
   ·rw [h5];exact hsl
   ·rw [h6];exact hrl
  ·rw [hS,←hr,←h5,←h6]
   exact rfl
end
theorem rbase_core (m:List Int) (hm:(ints .u8 (hzeros 32)).set 0 (.int .u8 9)=ints .u8 m) (hbl:m.length=32):CallsTo 31 #[] (.agg (ints .u8 m).toArray):=fun w=>by
 obtain ⟨z32,s32⟩:=zero_of_info infS32
 have r2:=(Arr.made (w.alloc (.cells (ints .u8 (hzeros 32)).toArray 22)) .u8 m 22).range
 have h0:=(Rw.new w (ints .u8 (hzeros 32)) 22).next (below_new _ (.cells (ints .u8 m).toArray 22))
 have hW:=(below_new w (.cells (ints .u8 (hzeros 32)).toArray 22)).alloc (by simp) (.cells (ints .u8 m).toArray 22)
 rw [World.size_alloc] at r2
 have R0:=h0.roomA (us:=ints .u8 m) (by rw [il hbl];exact (il (hz_len 32)).symm)
 have X0:=h0.storedA (us:=ints .u8 m) (by rw [il hbl];exact (il (hz_len 32)).symm)
 have hW2:=Below.setCells hW (g:=w.heap.size) (Nat.le_refl _) 0 (ints .u8 m).toArray.toList
 have h1:=Arr.made (w.alloc (.cells (ints .u8 (hzeros 32)).toArray 22)) .u8 (hzeros 32) 22
 rw [World.size_alloc] at h1
 obtain ⟨y,hy,hyf,_⟩:=h1.spot (i:=0) (by decide)
 rw [Nat.zero_add] at hy hyf
 clear h0 hW h1
 go_enter Tryz.func31,Tryz.ntmps31
 go_upto_region 3 with (fail)
 clear hm hy hyf
 go_wp2_with (first
  | (with_reducible refine wpList_load_mid (op:=⟨some 3,.load 22 (.tmp 1),_,_,_,_⟩) rfl 22 (.tmp 1) rfl (w.heap.size+1) 0 rfl (ints .u8 m) _ r2 Tryz.underlying22 rfl (szV infS32 (il hbl)) ?_)
  | (with_reducible refine wpList_store_mid (op:=⟨none,.store 22 (.tmp 0) (.tmp 3),_,_,_,_⟩) rfl 22 (.tmp 0) (.tmp 3) rfl w.heap.size 0 (ints .u8 m).toArray rfl rfl R0 (szA infS32 (il hbl)) (ints_all _ _) ?_;clear R0))
 exact ret_rows rfl w.heap.size 0 rfl (ints .u8 m) _ X0.range Tryz.underlying22 rfl (szV infS32 (il hbl)) rfl ⟨rfl,hW2⟩
theorem rbase_any:CallsTo 31 #[] (.agg (ints .u8 baseL).toArray):=rbase_core baseL rfl base_len
end
section
set_option maxRecDepth 50000
set_option maxHeartbeats 4000000 in
theorem rpub_core (sb m:List Int) (H1:Hid (sb.length=32)) (HM:Hid (m.length=32)) (HML:Hid (CallsTo 19 #[.agg (ints .u8 sb).toArray,.agg (ints .u8 baseL).toArray] (.agg (ints .u8 m).toArray))):CallsTo 17 #[.agg (ints .u8 sb).toArray] (.agg (ints .u8 m).toArray):=fun w=>by
 obtain ⟨z32,s32⟩:=zero_of_info infS32
 have h1:=((Arr.made w .u8 sb 22).alloc (.cells (ints .u8 (hzeros 32)).toArray 22)).rw
 have h2:=(Arr.made (w.alloc (.cells (ints .u8 sb).toArray 22)) .u8 (hzeros 32) 22).rw
 have hW:=((below_new w (.cells (ints .u8 sb).toArray 22)).alloc (by simp) (.cells (ints .u8 (hzeros 32)).toArray 22))
 simp only [World.size_alloc] at h2
 go_enter Tryz.func17,Tryz.ntmps17
 go_upto_region 1 with (fail)
 generalize ((w.alloc (.cells (ints .u8 sb).toArray 22)).alloc (.cells (ints .u8 (hzeros 32)).toArray 22))=w0 at *
 have s0:=hW.size
 refine rSpec 3 6 (fun _=>false) [Is (.agg (ints .u8 sb).toArray),Is (.agg (ints .u8 baseL).toArray),Is (.agg (ints .u8 m).toArray)] [3,4,5] (gC (gC (gC grows_nil)))
  ⟨step_ldV rfl (.inl rfl) (fun _ hw=>(h1.next hw).range) rfl Tryz.underlying22 rfl (szV infS32 (il H1.out)) rfl (kO 1 rfl),
   step_to0 rfl (.inl rfl) rfl cxRBas rbase_any rfl,
   step_to rfl (.inl rfl) rfl cxRMul HML.out rfl (two_args (kI 0 3 rfl rfl) (kI 1 4 rfl rfl)),trivial⟩ ?_
 intro val w1 hw hS hap hla
 simp only [pA,pB,pC,pD,pE,Act.put,pG,pH,pI,eVal hS 0 3 rfl rfl,eVal hS 1 4 rfl rfl,eVal hS 2 5 rfl rfl]
 clear hS hap hla
 have LL2:=hid (show ((ints .u8 m)).length=32 from (il HM.out))
 have Y2:=h2.next hw
 have R2:=Y2.roomA (us:=(ints .u8 m)) (LL2.out.trans (il (hz_len 32)).symm)
 have X2:=Y2.storedA (us:=(ints .u8 m)) (LL2.out.trans (il (hz_len 32)).symm)
 replace h1:=h1.next hw
 replace h2:=h2.next hw
 replace hW:=bT hW hw
 with_reducible refine wpList_store_mid (op:=⟨none,.store 22 (.tmp 2) (.tmp 5),_,_,_,_⟩) rfl 22 (.tmp 2) (.tmp 5) rfl (w.heap.size+1) 0 (ints .u8 m).toArray rfl rfl R2 (szA infS32 LL2.out) (ints_all _ _) ?_
 replace hW:=Below.setCells hW (g:=(w.heap.size+1)) (by omega) 0 (ints .u8 m).toArray.toList
 generalize (w1.setCells (w.heap.size+1) 0 (ints .u8 m).toArray.toList)=w2 at *
 clear hw R2 LL2 Y2
 go_wp2_with (fail)
 exact ret_rows rfl (w.heap.size+1) 0 rfl (ints .u8 m) _ X2.range Tryz.underlying22 rfl (szV infS32 (il HM.out)) rfl ⟨rfl,hW⟩
theorem c_rpub {sb:List Int} (ls:sb.length=32) (bs:HByt sb):CallsTo 17 #[.agg (ints .u8 sb).toArray] (.agg (ints .u8 (pubL sb)).toArray) :=
 rpub_core sb (pubL sb) (hid ls) (hid (rbytes_length _)) (hid (c_rladder ls bs base_len base_byt))
end
section
set_option maxHeartbeats 4000000
set_option maxRecDepth 50000
theorem rkeyB_no (x fi pu:List Int) (w:World) (HX:Hid (x.length=32)) (H4:Hid (fi.length=32)) (H5:Hid (pu.length=32)) (BX:HByt x) (B4:HByt fi) (B5:HByt pu) (HD:Hid (decide (x=hzeros 32)=true)):Calls Tryz.prog 18 #[.agg (ints .u8 x).toArray,.agg (ints .u8 fi).toArray,.agg (ints .u8 pu).toArray] w fun e w'=>e=.returned (.tuple #[.agg (ints .u8 (hzeros 32)).toArray,.bool false])∧Below w.heap.size w w':=by
 obtain ⟨z32,s32⟩:=zero_of_info infS32
 have h3:=(((((Arr.made w .u8 x 22).alloc (.cells (ints .u8 fi).toArray 22)).alloc (.cells (ints .u8 pu).toArray 22)).alloc (.cells (ints .u8 (hzeros 32)).toArray 22)).alloc (.cells (ints .u8 (hzeros 32)).toArray 22)).rw
 have h4:=((((Arr.made (w.alloc (.cells (ints .u8 x).toArray 22)) .u8 fi 22).alloc (.cells (ints .u8 pu).toArray 22)).alloc (.cells (ints .u8 (hzeros 32)).toArray 22)).alloc (.cells (ints .u8 (hzeros 32)).toArray 22)).rw
 have h5:=(((Arr.made ((w.alloc (.cells (ints .u8 x).toArray 22)).alloc (.cells (ints .u8 fi).toArray 22)) .u8 pu 22).alloc (.cells (ints .u8 (hzeros 32)).toArray 22)).alloc (.cells (ints .u8 (hzeros 32)).toArray 22)).rw
 have h6:=((Arr.made (((w.alloc (.cells (ints .u8 x).toArray 22)).alloc (.cells (ints .u8 fi).toArray 22)).alloc (.cells (ints .u8 pu).toArray 22)) .u8 (hzeros 32) 22).alloc (.cells (ints .u8 (hzeros 32)).toArray 22)).rw
 have h8:=(Arr.made ((((w.alloc (.cells (ints .u8 x).toArray 22)).alloc (.cells (ints .u8 fi).toArray 22)).alloc (.cells (ints .u8 pu).toArray 22)).alloc (.cells (ints .u8 (hzeros 32)).toArray 22)) .u8 (hzeros 32) 22).rw
 have hW:=(((((below_new w (.cells (ints .u8 x).toArray 22)).alloc (by simp) (.cells (ints .u8 fi).toArray 22)).alloc (by simp;omega) (.cells (ints .u8 pu).toArray 22)).alloc (by simp;omega) (.cells (ints .u8 (hzeros 32)).toArray 22)).alloc (by simp;omega) (.cells (ints .u8 (hzeros 32)).toArray 22))
 simp only [World.size_alloc] at h4 h5 h6 h8
 go_enter Tryz.func18,Tryz.ntmps18
 go_upto_region 2 with (fail)
 generalize (((((w.alloc (.cells (ints .u8 x).toArray 22)).alloc (.cells (ints .u8 fi).toArray 22)).alloc (.cells (ints .u8 pu).toArray 22)).alloc (.cells (ints .u8 (hzeros 32)).toArray 22)).alloc (.cells (ints .u8 (hzeros 32)).toArray 22))=w0 at *
 have s0:=hW.size
 refine rSeq 3 27 (fun _=>false) [Is (.agg (ints .u8 x).toArray),Is (.agg (ints .u8 (hzeros 32)).toArray),Is (.bool true)] [11,12,13] (gC (gC (gC grows_nil)))
  ⟨step_ldV rfl (.inl rfl) (fun _ hw=>(h3.next hw).range) rfl Tryz.underlying22 rfl (szV infS32 (il HX.out)) rfl (kO 3 rfl),
   step_ldV rfl (.inl rfl) (fun _ hw=>(h8.next hw).range) rfl Tryz.underlying22 rfl (szV infS32 (il (hz_len 32))) rfl (kO 8 rfl),
   step_eqA rfl (.inl rfl) rfl eqV32 HX.out (hz_len 32) HD.out rfl (kI 0 11 rfl rfl) (kI 1 12 rfl rfl),trivial⟩ ?_
 intro val w1 hw hS hap hla
 simp only [pA,pB,pC,pD,pE,Act.put,pG,pH,pI,eVal hS 0 11 rfl rfl,eVal hS 1 12 rfl rfl,eVal hS 2 13 rfl rfl]
 clear hS hap hla
 replace h3:=h3.next hw
 replace h4:=h4.next hw
 replace h5:=h5.next hw
 replace h6:=h6.next hw
 replace h8:=h8.next hw
 replace hW:=bT hW hw
 clear hw
 go_upto_region 3 with (fail)
 have s1:=hW.size
 refine rSeq 1 27 (fun _=>false) [Is (.agg (ints .u8 (hzeros 32)).toArray)] [14] (gC grows_nil)
  ⟨step_ldV rfl (.inl rfl) (fun _ hw=>(h8.next hw).range) rfl Tryz.underlying22 rfl (szV infS32 (il (hz_len 32))) rfl (kO 8 rfl),trivial⟩ ?_
 intro val w2 hw hS hap hla
 simp only [pA,pB,pC,pD,pE,Act.put,pG,pH,pI,eVal hS 0 14 rfl rfl]
 clear hS hap hla
 have LL6:=hid (show ((ints .u8 (hzeros 32))).length=32 from (il (hz_len 32)))
 have Y6:=h6.next hw
 have R6:=Y6.roomA (us:=(ints .u8 (hzeros 32))) (LL6.out.trans (il (hz_len 32)).symm)
 have X6:=Y6.storedA (us:=(ints .u8 (hzeros 32))) (LL6.out.trans (il (hz_len 32)).symm)
 replace h3:=h3.next hw
 replace h4:=h4.next hw
 replace h5:=h5.next hw
 replace h6:=h6.next hw
 replace h8:=h8.next hw
 replace hW:=bT hW hw
 with_reducible refine wpList_store_mid (op:=⟨none,.store 22 (.tmp 6) (.tmp 14),_,_,_,_⟩) rfl 22 (.tmp 6) (.tmp 14) rfl (w.heap.size+1+1+1) 0 (ints .u8 (hzeros 32)).toArray rfl rfl R6 (szA infS32 LL6.out) (ints_all _ _) ?_
 replace hW:=Below.setCells hW (g:=(w.heap.size+1+1+1)) (by omega) 0 (ints .u8 (hzeros 32)).toArray.toList
 generalize (w2.setCells (w.heap.size+1+1+1) 0 (ints .u8 (hzeros 32)).toArray.toList)=w3 at *
 clear hw R6 LL6 Y6
 go_wp2_with (fail)
 exact bodyPost_ret (results_rowV rfl _ _ (w.heap.size+1+1+1) 0 rfl (.bool false) rfl (ints .u8 (hzeros 32)) _ X6.range Tryz.underlying22 rfl (szV infS32 (il (hz_len 32)))) rfl ⟨rfl,hW⟩
theorem rkeyB_yes (K:List Int) (x fi pu:List Int) (w:World) (HX:Hid (x.length=32)) (H4:Hid (fi.length=32)) (H5:Hid (pu.length=32)) (BX:HByt x) (B4:HByt fi) (B5:HByt pu) (HD:Hid (decide (x=hzeros 32)=false)) (HK:Hid (boxK x fi pu=K)) (HKL:Hid (K.length=32)):Calls Tryz.prog 18 #[.agg (ints .u8 x).toArray,.agg (ints .u8 fi).toArray,.agg (ints .u8 pu).toArray] w fun e w'=>e=.returned (.tuple #[.agg (ints .u8 K).toArray,.bool true])∧Below w.heap.size w w':=by
 obtain ⟨z32,s32⟩:=zero_of_info infS32
 have h3:=(((((Arr.made w .u8 x 22).alloc (.cells (ints .u8 fi).toArray 22)).alloc (.cells (ints .u8 pu).toArray 22)).alloc (.cells (ints .u8 (hzeros 32)).toArray 22)).alloc (.cells (ints .u8 (hzeros 32)).toArray 22)).rw
 have h4:=((((Arr.made (w.alloc (.cells (ints .u8 x).toArray 22)) .u8 fi 22).alloc (.cells (ints .u8 pu).toArray 22)).alloc (.cells (ints .u8 (hzeros 32)).toArray 22)).alloc (.cells (ints .u8 (hzeros 32)).toArray 22)).rw
 have h5:=(((Arr.made ((w.alloc (.cells (ints .u8 x).toArray 22)).alloc (.cells (ints .u8 fi).toArray 22)) .u8 pu 22).alloc (.cells (ints .u8 (hzeros 32)).toArray 22)).alloc (.cells (ints .u8 (hzeros 32)).toArray 22)).rw
 have h6:=((Arr.made (((w.alloc (.cells (ints .u8 x).toArray 22)).alloc (.cells (ints .u8 fi).toArray 22)).alloc (.cells (ints .u8 pu).toArray 22)) .u8 (hzeros 32) 22).alloc (.cells (ints .u8 (hzeros 32)).toArray 22)).rw
 have h8:=(Arr.made ((((w.alloc (.cells (ints .u8 x).toArray 22)).alloc (.cells (ints .u8 fi).toArray 22)).alloc (.cells (ints .u8 pu).toArray 22)).alloc (.cells (ints .u8 (hzeros 32)).toArray 22)) .u8 (hzeros 32) 22).rw
 have hW:=(((((below_new w (.cells (ints .u8 x).toArray 22)).alloc (by simp) (.cells (ints .u8 fi).toArray 22)).alloc (by simp;omega) (.cells (ints .u8 pu).toArray 22)).alloc (by simp;omega) (.cells (ints .u8 (hzeros 32)).toArray 22)).alloc (by simp;omega) (.cells (ints .u8 (hzeros 32)).toArray 22))
 simp only [World.size_alloc] at h4 h5 h6 h8
 go_enter Tryz.func18,Tryz.ntmps18
 go_upto_region 2 with (fail)
 generalize (((((w.alloc (.cells (ints .u8 x).toArray 22)).alloc (.cells (ints .u8 fi).toArray 22)).alloc (.cells (ints .u8 pu).toArray 22)).alloc (.cells (ints .u8 (hzeros 32)).toArray 22)).alloc (.cells (ints .u8 (hzeros 32)).toArray 22))=w0 at *
 have s0:=hW.size
 refine rSeq 3 27 (fun _=>false) [Is (.agg (ints .u8 x).toArray),Is (.agg (ints .u8 (hzeros 32)).toArray),Is (.bool false)] [11,12,13] (gC (gC (gC grows_nil)))
  ⟨step_ldV rfl (.inl rfl) (fun _ hw=>(h3.next hw).range) rfl Tryz.underlying22 rfl (szV infS32 (il HX.out)) rfl (kO 3 rfl),
   step_ldV rfl (.inl rfl) (fun _ hw=>(h8.next hw).range) rfl Tryz.underlying22 rfl (szV infS32 (il (hz_len 32))) rfl (kO 8 rfl),
   step_eqA rfl (.inl rfl) rfl eqV32 HX.out (hz_len 32) HD.out rfl (kI 0 11 rfl rfl) (kI 1 12 rfl rfl),trivial⟩ ?_
 intro val w1 hw hS hap hla
 simp only [pA,pB,pC,pD,pE,Act.put,pG,pH,pI,eVal hS 0 11 rfl rfl,eVal hS 1 12 rfl rfl,eVal hS 2 13 rfl rfl]
 clear hS hap hla
 replace h3:=h3.next hw
 replace h4:=h4.next hw
 replace h5:=h5.next hw
 replace h6:=h6.next hw
 replace h8:=h8.next hw
 replace hW:=bT hW hw
 clear hw
 go_upto_region 4 with (fail)
 have s1:=hW.size
 refine region_early 12 27 (fun i=>i==11) [Is (.agg (ints .u8 x).toArray),IsPart 32 x,Is (.agg (ints .u8 fi).toArray),IsPart 32 fi,Is (.agg (ints .u8 pu).toArray),IsPart 32 pu,IsRow2 fi pu,Is (.tuple #[(.agg (ints .u8 K).toArray),(.int .i64 0)]),Is (.tuple #[(.agg (ints .u8 K).toArray),(.int .i64 0)]),Is (.agg (ints .u8 K).toArray),Is (.int .i64 0),IsZV w1.heap.size (ints .u8 (hzeros 32))] [16,17,18,19,20,21,22,23,15,24,25,9] (by kernel_rfl) (by kernel_rfl) (by kernel_rfl) (Nat.le_of_eq rfl) (gC (grows_cons (IsPart.grows _ _) (gC (grows_cons (IsPart.grows _ _) (gC (grows_cons (IsPart.grows _ _) (grows_cons (IsRow2.grows _ _) (gC (gC (gC (gC (grows_cons (IsZV.grows _ _) grows_nil))))))))))))
  ⟨step_ldV rfl (.inl rfl) (fun _ hw=>(h3.next hw).range) rfl Tryz.underlying22 rfl (szV infS32 (il HX.out)) rfl (kO 3 rfl),
   step_rbytP rfl (.inl rfl) rfl HX.out rfl (kI 0 16 rfl rfl),
   step_ldV rfl (.inl rfl) (fun _ hw=>(h4.next hw).range) rfl Tryz.underlying22 rfl (szV infS32 (il H4.out)) rfl (kO 4 rfl),
   step_rbytP rfl (.inl rfl) rfl H4.out rfl (kI 2 18 rfl rfl),
   step_ldV rfl (.inl rfl) (fun _ hw=>(h5.next hw).range) rfl Tryz.underlying22 rfl (szV infS32 (il H5.out)) rfl (kO 5 rfl),
   step_rbytP rfl (.inl rfl) rfl H5.out rfl (kI 4 20 rfl rfl),
   step_row2 rfl (.inl rfl) rfl ⟨H4.out,by decide,B4⟩ ⟨H5.out,by decide,B5⟩ rfl (knowsW_in 3 19 (by decide) (by kernel_rfl) rfl rfl) (knowsW_in 5 21 (by decide) (by kernel_rfl) rfl rfl),
   step_rkeyB rfl (.inl rfl) rfl HX.out BX HK.out (by rw [H4.out];decide) (by rw [H5.out];decide) rfl (knowsW_in 1 17 (by decide) (by kernel_rfl) rfl rfl) (knowsW_in 6 22 (by decide) (by kernel_rfl) rfl rfl),
   step_mvP rfl (.inl rfl) rfl rfl (kI 7 23 rfl rfl),
   step_fstZ rfl (.inl rfl) rfl rfl (kI 8 15 rfl rfl),
   step_sndZ rfl (.inl rfl) rfl rfl (kI 8 15 rfl rfl),
   step_allocV (.inl rfl) infS32 rfl rfl,trivial⟩
  22 9 24 (ints .u8 K).toArray _ rfl rfl rfl rfl 11 9 (by decide) (by decide) rfl rfl (by kernel_rfl) (by kernel_rfl) (fun v w ⟨b,h1,h2,h3⟩=>⟨b,h1,h2,h3.roomA (us:=ints .u8 K) ((il HKL.out).trans (il (hz_len 32)).symm)⟩) (fun v w h=>h) (szA infS32 (il HKL.out)) (ints_all _ _)
  (fun i o hi ho hf=>by
    have hc:i=0∨i=1∨i=2∨i=3∨i=4∨i=5∨i=6∨i=7∨i=8∨i=9∨i=10∨i=11:=by omega
    rcases hc with e|e|e|e|e|e|e|e|e|e|e|e <;> subst e
    ·exact (no_wait hf (by kernel_rfl)).elim
    ·exact (no_wait hf (by kernel_rfl)).elim
    ·exact (no_wait hf (by kernel_rfl)).elim
    ·exact (no_wait hf (by kernel_rfl)).elim
    ·exact (no_wait hf (by kernel_rfl)).elim
    ·exact (no_wait hf (by kernel_rfl)).elim
    ·exact (no_wait hf (by kernel_rfl)).elim
    ·exact (no_wait hf (by kernel_rfl)).elim
    ·exact (no_wait hf (by kernel_rfl)).elim
    ·exact (no_wait hf (by kernel_rfl)).elim
    ·injection ho with ho;subst ho
     exact ⟨rfl,free_sndB rfl rfl rfl (kI 8 15 rfl rfl)⟩
    ·exact (no_wait hf (by kernel_rfl)).elim)
  (fun i j hi hj hf hw v w w' h=>by
    have hc:i=0∨i=1∨i=2∨i=3∨i=4∨i=5∨i=6∨i=7∨i=8∨i=9∨i=10∨i=11:=by omega
    have hd:j=0∨j=1∨j=2∨j=3∨j=4∨j=5∨j=6∨j=7∨j=8∨j=9∨j=10∨j=11:=by omega
    rcases hc with e|e|e|e|e|e|e|e|e|e|e|e <;> subst e
    ·exact (no_wait hf (by kernel_rfl)).elim
    ·exact (no_wait hf (by kernel_rfl)).elim
    ·exact (no_wait hf (by kernel_rfl)).elim
    ·exact (no_wait hf (by kernel_rfl)).elim
    ·exact (no_wait hf (by kernel_rfl)).elim
    ·exact (no_wait hf (by kernel_rfl)).elim
    ·exact (no_wait hf (by kernel_rfl)).elim
    ·exact (no_wait hf (by kernel_rfl)).elim
    ·exact (no_wait hf (by kernel_rfl)).elim
    ·exact (no_wait hf (by kernel_rfl)).elim
    ·rcases hd with e|e|e|e|e|e|e|e|e|e|e|e <;> subst e
     ·exact (no_wait2 hw (by kernel_rfl)).elim
     ·exact (no_wait2 hw (by kernel_rfl)).elim
     ·exact (no_wait2 hw (by kernel_rfl)).elim
     ·exact (no_wait2 hw (by kernel_rfl)).elim
     ·exact (no_wait2 hw (by kernel_rfl)).elim
     ·exact (no_wait2 hw (by kernel_rfl)).elim
     ·exact (no_wait2 hw (by kernel_rfl)).elim
     ·exact (no_wait2 hw (by kernel_rfl)).elim
     ·exact h
     ·exact (no_wait2 hw (by kernel_rfl)).elim
     ·exact (no_wait2 hw (by kernel_rfl)).elim
     ·exact (no_wait2 hw (by kernel_rfl)).elim
    ·exact (no_wait hf (by kernel_rfl)).elim) ?_
 intro val w2 bq hw hS hap hla hbq
 have e16:=eVal hS 0 16 rfl rfl
 have e18:=eVal hS 2 18 rfl rfl
 have e20:=eVal hS 4 20 rfl rfl
 have e23:=eVal hS 7 23 rfl rfl
 have e15:=eVal hS 8 15 rfl rfl
 have e24:=eVal hS 9 24 rfl rfl
 have e25:=eVal hS 10 25 rfl rfl
 obtain ⟨b9,e9,L9,Z9⟩:=hS 11 9 (by decide) rfl
 have eb:b9=bq:=by
  rw [e9] at hbq
  injection hbq with h
  injection h with h
  injection h
 subst eb
 clear hbq
 simp only [pA,pB,pC,pD,pE,Act.put,pG,pH,pI,e16,e18,e20,e23,e15,e24,e25,e9]
 generalize val 17=g17
 generalize val 19=g19
 generalize val 21=g21
 generalize val 22=g22
 clear hS hap hla e16 e18 e20 e23 e15 e24 e25 e9
 have LL9:=hid (show ((ints .u8 K)).length=32 from (il HKL.out))
 have R9:=Z9.roomA (us:=(ints .u8 K)) (LL9.out.trans (zvH .u8 32).symm)
 have h9:=Z9.storedA (us:=(ints .u8 K)) (LL9.out.trans (zvH .u8 32).symm)
 have hu:=Below.setCells hw L9 0 (ints .u8 K).toArray.toList
 replace h3:=h3.next hu
 replace h4:=h4.next hu
 replace h5:=h5.next hu
 replace h6:=h6.next hu
 replace h8:=h8.next hu
 replace hW:=bT hW hu
 clear hu
 generalize (w2.setCells b9 0 (ints .u8 K).toArray.toList)=w3 at *
 clear hw R9 LL9 Z9 L9
 go_upto_region 5 with (fail)
 have s3:=hW.size
 refine rSeq 1 27 (fun _=>false) [Is (.agg (ints .u8 K).toArray)] [26] (gC grows_nil)
  ⟨step_ldV rfl (.inl rfl) (fun _ hw=>(h9.next hw).range) rfl Tryz.underlying22 rfl (szV infS32 (il HKL.out)) rfl (kO 9 rfl),trivial⟩ ?_
 intro val w4 hw hS hap hla
 simp only [pA,pB,pC,pD,pE,Act.put,pG,pH,pI,eVal hS 0 26 rfl rfl]
 clear hS hap hla
 have LL6:=hid (show ((ints .u8 K)).length=32 from (il HKL.out))
 have Y6:=h6.next hw
 have R6:=Y6.roomA (us:=(ints .u8 K)) (LL6.out.trans (il (hz_len 32)).symm)
 have X6:=Y6.storedA (us:=(ints .u8 K)) (LL6.out.trans (il (hz_len 32)).symm)
 replace h3:=h3.next hw
 replace h4:=h4.next hw
 replace h5:=h5.next hw
 replace h6:=h6.next hw
 replace h8:=h8.next hw
 replace h9:=h9.next hw
 replace hW:=bT hW hw
 with_reducible refine wpList_store_mid (op:=⟨none,.store 22 (.tmp 6) (.tmp 26),_,_,_,_⟩) rfl 22 (.tmp 6) (.tmp 26) rfl (w.heap.size+1+1+1) 0 (ints .u8 K).toArray rfl rfl R6 (szA infS32 LL6.out) (ints_all _ _) ?_
 replace hW:=Below.setCells hW (g:=(w.heap.size+1+1+1)) (by omega) 0 (ints .u8 K).toArray.toList
 generalize (w4.setCells (w.heap.size+1+1+1) 0 (ints .u8 K).toArray.toList)=w5 at *
 clear hw R6 LL6 Y6
 go_wp2_with (fail)
 exact bodyPost_ret (results_rowV rfl _ _ (w.heap.size+1+1+1) 0 rfl (.bool true) rfl (ints .u8 K) _ X6.range Tryz.underlying22 rfl (szV infS32 (il HKL.out))) rfl ⟨rfl,hW⟩
end
end Go.Proofs.YtkblmdakejmmhaaGreatDoor
