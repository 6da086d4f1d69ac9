import Derived.Test.YtkblmdakejmmhaaGreatDoorG13
import Derived.Test.YtkblmdakejmmhaaGreatDoorG35
namespace Go.Proofs.YtkblmdakejmmhaaGreatDoor
open Go Go.RowKit
section
set_option maxRecDepth 50000
def pubL (s:List Int):List Int:=rbytes (mulN s (uOf baseL))
def shL (s p:List Int):List Int:=rbytes (mulN s (uOf p))
def boxT:List Int:=[98,111,120]
def boxK (x s r:List Int):List Int:=keyD x boxT [s,r]
def IsRow2 (l1 l2:List Int):Value→World→Prop:=fun v w=>∃(PA:Option Addr) (pc:Nat) (q1 q2:Part),v=.slice PA 2 pc∧Parts w PA [q1,q2]∧PartOk w q1∧PartOk w q2∧q1.2.2=l1∧q2.2.2=l2
theorem IsRow2.grows (l1 l2:List Int):Grows (IsRow2 l1 l2):=fun _ _ _ ⟨PA,pc,q1,q2,h1,h2,h3,h4,h5⟩ hb=>⟨PA,pc,q1,q2,h1,h2.below hb,h3.below hb,h4.below hb,h5⟩
theorem cxKeyB (vs:Array Value) (w:World):(callFunc 27 vs).run Tryz.prog w=.ok (.enter 27 vs) w:=by go_simp
theorem cxCatB (vs:Array Value) (w:World):(callFunc 16 vs).run Tryz.prog w=.ok (.enter 16 vs) w:=by go_simp
theorem cxShaB (vs:Array Value) (w:World):(callFunc 26 vs).run Tryz.prog w=.ok (.enter 26 vs) w:=by go_simp
theorem cxPubB (vs:Array Value) (w:World):(callFunc 12 vs).run Tryz.prog w=.ok (.enter 12 vs) w:=by go_simp
theorem cxAgrB (vs:Array Value) (w:World):(callFunc 13 vs).run Tryz.prog w=.ok (.enter 13 vs) w:=by go_simp
theorem cxNonB (vs:Array Value) (w:World):(callFunc 15 vs).run Tryz.prog w=.ok (.enter 15 vs) w:=by go_simp
theorem cxSeaB (vs:Array Value) (w:World):(callFunc 14 vs).run Tryz.prog w=.ok (.enter 14 vs) w:=by go_simp
theorem part_of {w:World} {q:Nat} {l:List Int} {v:Value} (h:IsPart q l v w) (hp:PL q l):∃p:Part,v=.slice p.1 p.2.2.length p.2.1∧PartOk w p∧p.2.2=l:=part_at h hp
section
variable {ops:Array Oper} {md:Region.Mode} {W:World} {a0:Act} {n:Nat} {al:Nat→Bool} {S:Nat→Value→World→Prop} {Q:Exit→Act→World→Prop} {i:Nat} {o:Oper}
theorem step_row2 (hal:al i=false) (hg:GuardOn ops md n S i o) {x1 x2:Operand} {q1 q2:Nat} {l1 l2:List Int} (ho:o.op=.buildSlice 56 2 #[(0,x1),(1,x2)])
 (p1:PL q1 l1) (p2:PL q2 l2) (hS:S i=IsRow2 l1 l2)
 (h1:KnowsW ops md W a0 n S i x1 (IsPart q1 l1)) (h2:KnowsW ops md W a0 n S i x2 (IsPart q2 l2)):StepOk Tryz.prog ops md W a0 n al S Q i o:=fun a w hw hf' hd=>by
 rw [if_pos (hg.wanted hd)]
 obtain ⟨r1,e1,o1,t1⟩:=part_of (h1 a w hw hf' hd) p1
 obtain ⟨r2,e2,o2,t2⟩:=part_of (h2 a w hw hf' hd) p2
 have hI:=infSlV
 cases hq:Tryz.prog.info? 23 with
 | none=>rw [hq] at hI;simp at hI
 | some ie =>
   rw [hq] at hI
   simp only [Option.map_some,Option.some.injEq,Prod.mk.injEq] at hI
   obtain ⟨hz,hs1,_⟩:=hI
   have hfill:∀(A1 A2:Option Addr) (n1 n2 c1 c2:Nat),Instr.fill (fun i=>some (i*1,1)) ((Array.range (2*1)).map (fun i=>(Value.slice none 0 0).cells[i%(Value.slice none 0 0).cells.size]!)) [(0,Value.slice A1 n1 c1),(1,Value.slice A2 n2 c2)]=some #[Value.slice A1 n1 c1,Value.slice A2 n2 c2]:=fun A1 A2 n1 n2 c1 c2=>by kernel_rfl
   have hv:(#[(0,x1),(1,x2)].map fun ((i:Nat),(x:Operand))=>(i,a.eval x)).toList=[(0,a.eval x1),(1,a.eval x2)]:=by simp
   rw [e1,e2] at hv
   refine wp_buildSlice 56 23 2 _ ho _ ie _ (by kernel_rfl) hq hz (by rw [hs1];decide) (by rw [hs1];decide) (by rw [hs1];rw [hv];exact hfill _ _ _ _ _ _) ?_
   refine ⟨_,rfl,?_,below_new w _,fun e=>by rw [hal] at e;cases e⟩
   rw [hS]
   have hb:=below_new w (.cells #[.slice r1.1 r1.2.2.length r1.2.1,.slice r2.1 r2.2.2.length r2.2.1] 23)
   refine ⟨_,2,r1,r2,rfl,fun _=>⟨w.heap.size,0,rfl,by simp,fun j q hj=>?_⟩,o1.below hb,o2.below hb,t1,t2⟩
   rw [Nat.zero_add,World.cell?_alloc_new]
   have hj6:=(List.getElem?_eq_some_iff.1 hj).1
   have:j=0∨j=1:=by simp at hj6;omega
   rcases this with rfl|rfl <;> (simp at hj;subst hj;rfl)
theorem step_keyB (hal:al i=false) (hg:GuardOn ops md n S i o) {x y:Operand} {ts:Array TypeId} {A:Option Addr} {src s r k:List Int} (ho:o.op=.call { callee:=.value (.func 27),args:=#[x,.const (.string { data:=#[98,111,120] }),y],argTypes:=ts }) (hT:TabsH W) (hK:src.length=32) (hkb:HByt src) (hA:∀w,Cl W w→Nums w .u8 A src) (hr:boxK src s r=k) (hS:S i=Is (.tuple #[.agg (ints .u8 k).toArray,.int .i64 0]))
 (hx:Knows ops md W a0 n S i x (.slice A 32 32)) (hy:KnowsW ops md W a0 n S i y (IsRow2 s r)):StepOk Tryz.prog ops md W a0 n al S Q i o :=
 step_call hal hg fun a w hw hf hd=>by
  obtain ⟨PA,pc,q1,q2,h1,h2,h3,h4,h5,h6⟩:=hy a w hw hf hd
  have h0:=hx a w hw hf hd
  refine ⟨27,#[.slice A 32 32,.string { data:=#[98,111,120] },.slice PA 2 pc],ex_fn rfl cxKeyB ho _ ?_ w,(key_any src A PA 32 32 2 pc { data:=#[98,111,120] } [q1,q2] w (hT.next hw) (hid hK) (by decide) (by decide) (by decide) hkb (hA w hw) (by decide) h2 (hid rfl) (by decide) ?_).mono fun e w' ⟨he,hbl⟩=>⟨_,he,?_,hbl⟩⟩
  ·have e:(#[x,.const (.string { data:=#[98,111,120] }),y]:Array Operand).map a.eval = #[a.eval x,a.eval (.const (.string { data:=#[98,111,120] })),a.eval y]:=by simp
   rw [e,h0,h1]
   rfl
  ·intro q hq
   simp only [List.mem_cons,List.not_mem_nil,or_false] at hq
   rcases hq with rfl|rfl
   ·exact h3
   ·exact h4
  ·rw [hS,←hr,←h5,←h6]
   exact rfl
theorem free_sndB (hg:o.guard=none) {x:Operand} {u v:Value} (ho:o.op=.extract x 1) (hS:S i=Is v) (hx:Knows ops md W a0 n S i x (.tuple #[u,v])):Free Tryz.prog ops md W a0 n S i o :=
 ⟨hg,fun a w hw hf hd=>⟨v,by
   have h:=hx a w hw hf hd
   generalize a.eval=ev at *
   unfold execOp
   simp only [ho,h]
   go_simp,fun _=>by rw [hS];exact rfl⟩⟩
theorem step_catB (hal:al i=false) (hg:GuardOn ops md n S i o) {x:Operand} {ts:Array TypeId} {m1 m2:Nat} {l1 l2:List Int} (ho:o.op=.call { callee:=.value (.func 16),args:=#[x],argTypes:=ts }) (h1:l1.length=m1) (h2:l2.length=m2) (h0:1≤m1) (hm1:m1≤400) (hm2:m2≤600) (hS:S i=IsPart (m1+m2) (l1++l2))
 (hx:KnowsW ops md W a0 n S i x (IsRow2 l1 l2)):StepOk Tryz.prog ops md W a0 n al S Q i o :=
 step_callR hal hg ho cxCatB hS fun a w hw hf hd=>by
  obtain ⟨PA,pc,q1,q2,k1,k2,k3,k4,k5,k6⟩:=hx a w hw hf hd
  subst k5 k6
  exact ⟨#[.slice PA 2 pc],by rw [map1,k1],(catB_any PA pc m1 m2 q1 q2 w k2 k3.1 k4.1 (hid h1) (hid h2) h0 hm1 hm2).mono fun e w' ⟨A,c,he,hc,hN,hb⟩=>⟨_,he,⟨A,c,rfl,hc,hN⟩,hb⟩⟩
end
theorem inf12B:(Tryz.prog.info? 40).map (fun i=>(i.zero,i.size))=some (some (.agg (ints .u8 (zeros 12)).toArray),12):=by kernel_rfl
theorem built12B:Tryz.prog.built 40 []=some (ints .u8 (zeros 12)).toArray:=by kernel_rfl
theorem nonce_any:CallsTo 15 #[] (.agg (ints .u8 (zeros 12)).toArray):=fun w=>by
 obtain ⟨z12,s12⟩:=zero_of_info inf12B
 have hR:=Rw.new w (ints .u8 (zeros 12)) 40
 have hW:=below_new w (.cells (ints .u8 (zeros 12)).toArray 40)
 have R0:=hR.roomA (us:=ints .u8 (zeros 12)) rfl
 have X0:=hR.storedA (us:=ints .u8 (zeros 12)) rfl
 have hW2:=Below.setCells hW (g:=w.heap.size) (Nat.le_refl _) 0 (ints .u8 (zeros 12)).toArray.toList
 clear hR hW
 go_enter Tryz.func15,Tryz.ntmps15
 go_wp2_with (first
  | (with_reducible refine wpList_build_eq (o:=⟨some 1,.build 40 #[],_,_,_,_⟩) rfl 40 #[] rfl (ints .u8 (zeros 12)).toArray ?hb ?_;(case hb=>exact built12B))
  | (with_reducible refine wpList_store_mid (op:=⟨none,.store 40 (.tmp 0) (.tmp 1),_,_,_,_⟩) rfl 40 (.tmp 0) (.tmp 1) rfl w.heap.size 0 (ints .u8 (zeros 12)).toArray rfl rfl R0 (szA inf12B (il (zeros_len 12))) (ints_all _ _) ?_;clear R0;generalize (w.alloc (.cells (ints .u8 (zeros 12)).toArray 40)).setCells w.heap.size 0 (ints .u8 (zeros 12)).toArray.toList=W5 at *))
 exact ret_rows rfl w.heap.size 0 rfl (ints .u8 (zeros 12)) _ X0.range Tryz.underlying40 rfl (szV inf12B (il (zeros_len 12))) rfl ⟨rfl,hW2⟩
end
section
set_option maxHeartbeats 4000000
set_option maxRecDepth 50000
theorem agree_no (mi th se re x:List Int) (w:World) (hT:TabsH w) (H1:Hid (mi.length=32)) (H2:Hid (th.length=32)) (H3:Hid (se.length=32)) (H4:Hid (re.length=32)) (HX:Hid (x.length=32)) (HS:Hid (CallsTo 26 #[.agg (ints .u8 mi).toArray,.agg (ints .u8 th).toArray] (.tuple #[.agg (ints .u8 x).toArray,.int .i64 21]))) :
 Calls Tryz.prog 13 #[.agg (ints .u8 mi).toArray,.agg (ints .u8 th).toArray,.agg (ints .u8 se).toArray,.agg (ints .u8 re).toArray] w fun e w'=>e=.returned (.tuple #[.agg (ints .u8 (hzeros 32)).toArray,.int .i64 21])∧Below w.heap.size w w':=by
 obtain ⟨z32,s32⟩:=zero_of_info infS32
 have h4:=(((((Arr.made w .u8 mi 22).alloc (.cells (ints .u8 th).toArray 22)).alloc (.cells (ints .u8 se).toArray 22)).alloc (.cells (ints .u8 re).toArray 22)).alloc (.cells (ints .u8 (hzeros 32)).toArray 22)).rw
 have h5:=((((Arr.made (w.alloc (.cells (ints .u8 mi).toArray 22)) .u8 th 22).alloc (.cells (ints .u8 se).toArray 22)).alloc (.cells (ints .u8 re).toArray 22)).alloc (.cells (ints .u8 (hzeros 32)).toArray 22)).rw
 have h6:=(((Arr.made ((w.alloc (.cells (ints .u8 mi).toArray 22)).alloc (.cells (ints .u8 th).toArray 22)) .u8 se 22).alloc (.cells (ints .u8 re).toArray 22)).alloc (.cells (ints .u8 (hzeros 32)).toArray 22)).rw
 have h7:=((Arr.made (((w.alloc (.cells (ints .u8 mi).toArray 22)).alloc (.cells (ints .u8 th).toArray 22)).alloc (.cells (ints .u8 se).toArray 22)) .u8 re 22).alloc (.cells (ints .u8 (hzeros 32)).toArray 22)).rw
 have h8:=Rw.new ((((w.alloc (.cells (ints .u8 mi).toArray 22)).alloc (.cells (ints .u8 th).toArray 22)).alloc (.cells (ints .u8 se).toArray 22)).alloc (.cells (ints .u8 re).toArray 22)) (ints .u8 (hzeros 32)) 22
 have hW:=(((((below_new w (.cells (ints .u8 mi).toArray 22)).alloc (by simp) (.cells (ints .u8 th).toArray 22)).alloc (by simp;omega) (.cells (ints .u8 se).toArray 22)).alloc (by simp;omega) (.cells (ints .u8 re).toArray 22)).alloc (by simp;omega) (.cells (ints .u8 (hzeros 32)).toArray 22))
 simp only [World.size_alloc] at h5 h6 h7 h8
 replace hT:=hT.next hW
 go_enter Tryz.func13,Tryz.ntmps13
 go_upto_region 1 with (fail)
 generalize (((((w.alloc (.cells (ints .u8 mi).toArray 22)).alloc (.cells (ints .u8 th).toArray 22)).alloc (.cells (ints .u8 se).toArray 22)).alloc (.cells (ints .u8 re).toArray 22)).alloc (.cells (ints .u8 (hzeros 32)).toArray 22))=w0 at *
 have s0:=hW.size
 refine rSeq 7 29 (fun i=>i==6) [Is (.agg (ints .u8 mi).toArray),Is (.agg (ints .u8 th).toArray),Is (.tuple #[(.agg (ints .u8 x).toArray),(.int .i64 21)]),Is (.tuple #[(.agg (ints .u8 x).toArray),(.int .i64 21)]),Is (.agg (ints .u8 x).toArray),Is (.int .i64 21),IsZV w0.heap.size (ints .u8 (hzeros 32))] [13,14,15,12,16,17,10] (gC (gC (gC (gC (gC (gC (grows_cons (IsZV.grows _ _) grows_nil)))))))
  ⟨step_ldV rfl (.inl rfl) (fun _ hw=>(h4.next hw).range) rfl Tryz.underlying22 rfl (szV infS32 (il H1.out)) rfl (kO 4 rfl),
   step_ldV rfl (.inl rfl) (fun _ hw=>(h5.next hw).range) rfl Tryz.underlying22 rfl (szV infS32 (il H2.out)) rfl (kO 5 rfl),
   step_to rfl (.inl rfl) rfl cxShaB HS.out rfl (two_args (kI 0 13 rfl rfl) (kI 1 14 rfl rfl)),
   step_mvP rfl (.inl rfl) rfl rfl (kI 2 15 rfl rfl),
   step_fstZ rfl (.inl rfl) rfl rfl (kI 3 12 rfl rfl),
   step_sndZ rfl (.inl rfl) rfl rfl (kI 3 12 rfl rfl),
   step_allocV (.inl rfl) infS32 rfl rfl,trivial⟩ ?_
 intro val w1 hw hS hap hla
 obtain ⟨b10,e10,L10,Z10⟩:=hS 6 10 (by decide) rfl
 simp only [pA,pB,pC,pD,pE,Act.put,pG,pH,pI,eVal hS 0 13 rfl rfl,eVal hS 1 14 rfl rfl,eVal hS 2 15 rfl rfl,eVal hS 3 12 rfl rfl,eVal hS 4 16 rfl rfl,eVal hS 5 17 rfl rfl,e10]
 clear hS hap hla e10
 have LL10:=hid (show ((ints .u8 x)).length=32 from (il HX.out))
 have R10:=Z10.roomA (us:=(ints .u8 x)) (LL10.out.trans (zvH .u8 32).symm)
 have h10:=Z10.storedA (us:=(ints .u8 x)) (LL10.out.trans (zvH .u8 32).symm)
 have hu:=Below.setCells hw L10 0 (ints .u8 x).toArray.toList
 replace h4:=h4.next hu
 replace h5:=h5.next hu
 replace h6:=h6.next hu
 replace h7:=h7.next hu
 replace h8:=h8.next hu
 replace hT:=hT.next hu
 replace hW:=bT hW hu
 clear hu
 with_reducible refine wpList_store_mid (op:=⟨none,.store 22 (.tmp 10) (.tmp 16),_,_,_,_⟩) rfl 22 (.tmp 10) (.tmp 16) rfl b10 0 (ints .u8 x).toArray rfl rfl R10 (szA infS32 LL10.out) (ints_all _ _) ?_
 generalize (w1.setCells b10 0 (ints .u8 x).toArray.toList)=w2 at *
 clear hw R10 LL10 Z10 L10
 have R8:=h8.roomA (us:=ints .u8 (hzeros 32)) rfl
 have X8:=h8.storedA (us:=ints .u8 (hzeros 32)) rfl
 have hW2:=Below.setCells hW (g:=(w.heap.size+1+1+1+1)) (by omega) 0 (ints .u8 (hzeros 32)).toArray.toList
 clear h8
 go_wp2_with (first
  | (with_reducible refine wpList_build_eq (o:=⟨some 20,.build 22 #[],_,_,_,_⟩) rfl 22 #[] rfl (ints .u8 (hzeros 32)).toArray ?hb ?_;(case hb=>exact builtV32))
  | (with_reducible refine wpList_store_mid (op:=⟨none,.store 22 (.tmp 8) (.tmp 20),_,_,_,_⟩) rfl 22 (.tmp 8) (.tmp 20) rfl (w.heap.size+1+1+1+1) 0 (ints .u8 (hzeros 32)).toArray rfl rfl R8 (szA infS32 (il (hz_len 32))) (ints_all _ _) ?_;clear R8;generalize w2.setCells (w.heap.size+1+1+1+1) 0 (ints .u8 (hzeros 32)).toArray.toList=W5 at *))
 exact bodyPost_ret (results_rowV rfl _ _ (w.heap.size+1+1+1+1) 0 rfl (.int .i64 21) rfl (ints .u8 (hzeros 32)) _ X8.range Tryz.underlying22 rfl (szV infS32 (il (hz_len 32)))) rfl ⟨rfl,hW2⟩
theorem agree_yes (K:List Int) (mi th se re x:List Int) (w:World) (hT:TabsH w) (H1:Hid (mi.length=32)) (H2:Hid (th.length=32)) (H3:Hid (se.length=32)) (H4:Hid (re.length=32)) (HX:Hid (x.length=32)) (B3:HByt se) (B4:HByt re) (BX:HByt x) (HK:Hid (boxK x se re=K)) (HKL:Hid (K.length=32)) (HS:Hid (CallsTo 26 #[.agg (ints .u8 mi).toArray,.agg (ints .u8 th).toArray] (.tuple #[.agg (ints .u8 x).toArray,.int .i64 0]))) :
 Calls Tryz.prog 13 #[.agg (ints .u8 mi).toArray,.agg (ints .u8 th).toArray,.agg (ints .u8 se).toArray,.agg (ints .u8 re).toArray] w fun e w'=>e=.returned (.tuple #[.agg (ints .u8 K).toArray,.int .i64 0])∧Below w.heap.size w w':=by
 obtain ⟨z32,s32⟩:=zero_of_info infS32
 have h4:=(((((Arr.made w .u8 mi 22).alloc (.cells (ints .u8 th).toArray 22)).alloc (.cells (ints .u8 se).toArray 22)).alloc (.cells (ints .u8 re).toArray 22)).alloc (.cells (ints .u8 (hzeros 32)).toArray 22)).rw
 have h5:=((((Arr.made (w.alloc (.cells (ints .u8 mi).toArray 22)) .u8 th 22).alloc (.cells (ints .u8 se).toArray 22)).alloc (.cells (ints .u8 re).toArray 22)).alloc (.cells (ints .u8 (hzeros 32)).toArray 22)).rw
 have h6:=(((Arr.made ((w.alloc (.cells (ints .u8 mi).toArray 22)).alloc (.cells (ints .u8 th).toArray 22)) .u8 se 22).alloc (.cells (ints .u8 re).toArray 22)).alloc (.cells (ints .u8 (hzeros 32)).toArray 22)).rw
 have h7:=((Arr.made (((w.alloc (.cells (ints .u8 mi).toArray 22)).alloc (.cells (ints .u8 th).toArray 22)).alloc (.cells (ints .u8 se).toArray 22)) .u8 re 22).alloc (.cells (ints .u8 (hzeros 32)).toArray 22)).rw
 have h8:=Rw.new ((((w.alloc (.cells (ints .u8 mi).toArray 22)).alloc (.cells (ints .u8 th).toArray 22)).alloc (.cells (ints .u8 se).toArray 22)).alloc (.cells (ints .u8 re).toArray 22)) (ints .u8 (hzeros 32)) 22
 have hW:=(((((below_new w (.cells (ints .u8 mi).toArray 22)).alloc (by simp) (.cells (ints .u8 th).toArray 22)).alloc (by simp;omega) (.cells (ints .u8 se).toArray 22)).alloc (by simp;omega) (.cells (ints .u8 re).toArray 22)).alloc (by simp;omega) (.cells (ints .u8 (hzeros 32)).toArray 22))
 simp only [World.size_alloc] at h5 h6 h7 h8
 replace hT:=hT.next hW
 go_enter Tryz.func13,Tryz.ntmps13
 go_upto_region 1 with (fail)
 generalize (((((w.alloc (.cells (ints .u8 mi).toArray 22)).alloc (.cells (ints .u8 th).toArray 22)).alloc (.cells (ints .u8 se).toArray 22)).alloc (.cells (ints .u8 re).toArray 22)).alloc (.cells (ints .u8 (hzeros 32)).toArray 22))=w0 at *
 have s0:=hW.size
 refine rSeq 7 29 (fun i=>i==6) [Is (.agg (ints .u8 mi).toArray),Is (.agg (ints .u8 th).toArray),Is (.tuple #[(.agg (ints .u8 x).toArray),(.int .i64 0)]),Is (.tuple #[(.agg (ints .u8 x).toArray),(.int .i64 0)]),Is (.agg (ints .u8 x).toArray),Is (.int .i64 0),IsZV w0.heap.size (ints .u8 (hzeros 32))] [13,14,15,12,16,17,10] (gC (gC (gC (gC (gC (gC (grows_cons (IsZV.grows _ _) grows_nil)))))))
  ⟨step_ldV rfl (.inl rfl) (fun _ hw=>(h4.next hw).range) rfl Tryz.underlying22 rfl (szV infS32 (il H1.out)) rfl (kO 4 rfl),
   step_ldV rfl (.inl rfl) (fun _ hw=>(h5.next hw).range) rfl Tryz.underlying22 rfl (szV infS32 (il H2.out)) rfl (kO 5 rfl),
   step_to rfl (.inl rfl) rfl cxShaB HS.out rfl (two_args (kI 0 13 rfl rfl) (kI 1 14 rfl rfl)),
   step_mvP rfl (.inl rfl) rfl rfl (kI 2 15 rfl rfl),
   step_fstZ rfl (.inl rfl) rfl rfl (kI 3 12 rfl rfl),
   step_sndZ rfl (.inl rfl) rfl rfl (kI 3 12 rfl rfl),
   step_allocV (.inl rfl) infS32 rfl rfl,trivial⟩ ?_
 intro val w1 hw hS hap hla
 obtain ⟨b10,e10,L10,Z10⟩:=hS 6 10 (by decide) rfl
 simp only [pA,pB,pC,pD,pE,Act.put,pG,pH,pI,eVal hS 0 13 rfl rfl,eVal hS 1 14 rfl rfl,eVal hS 2 15 rfl rfl,eVal hS 3 12 rfl rfl,eVal hS 4 16 rfl rfl,eVal hS 5 17 rfl rfl,e10]
 clear hS hap hla e10
 have LL10:=hid (show ((ints .u8 x)).length=32 from (il HX.out))
 have R10:=Z10.roomA (us:=(ints .u8 x)) (LL10.out.trans (zvH .u8 32).symm)
 have h10:=Z10.storedA (us:=(ints .u8 x)) (LL10.out.trans (zvH .u8 32).symm)
 have hu:=Below.setCells hw L10 0 (ints .u8 x).toArray.toList
 replace h4:=h4.next hu
 replace h5:=h5.next hu
 replace h6:=h6.next hu
 replace h7:=h7.next hu
 replace h8:=h8.next hu
 replace hT:=hT.next hu
 replace hW:=bT hW hu
 clear hu
 with_reducible refine wpList_store_mid (op:=⟨none,.store 22 (.tmp 10) (.tmp 16),_,_,_,_⟩) rfl 22 (.tmp 10) (.tmp 16) rfl b10 0 (ints .u8 x).toArray rfl rfl R10 (szA infS32 LL10.out) (ints_all _ _) ?_
 generalize (w1.setCells b10 0 (ints .u8 x).toArray.toList)=w2 at *
 clear hw R10 LL10 Z10 L10
 go_wp2_with (fail)
 have s2:=hW.size
 refine rSpec 7 29 (fun _=>false) [Is (.slice (some ⟨b10,0,none⟩) 32 32),Is (.slice (some ⟨(w.heap.size+1+1),0,none⟩) 32 32),Is (.slice (some ⟨(w.heap.size+1+1+1),0,none⟩) 32 32),IsRow2 se re,Is (.tuple #[(.agg (ints .u8 K).toArray),(.int .i64 0)]),Is (.agg (ints .u8 K).toArray),Is (.int .i64 0)] [22,23,24,25,26,27,28] (gC (gC (gC (grows_cons (IsRow2.grows _ _) (gC (gC (gC grows_nil)))))))
  ⟨step_one rfl (.inl rfl) (fun ev w h hc=>ex_slA (P:=Tryz.prog) uaV32 zeV32 (m:=32) rfl rfl ev w h hc) rfl (kO 10 rfl),
   step_one rfl (.inl rfl) (fun ev w h hc=>ex_slA (P:=Tryz.prog) uaV32 zeV32 (m:=32) rfl rfl ev w h hc) rfl (kO 6 rfl),
   step_one rfl (.inl rfl) (fun ev w h hc=>ex_slA (P:=Tryz.prog) uaV32 zeV32 (m:=32) rfl rfl ev w h hc) rfl (kO 7 rfl),
   step_row2 rfl (.inl rfl) rfl ⟨H3.out,by decide,B3⟩ ⟨H4.out,by decide,B4⟩ rfl ((kI 1 23 rfl rfl).part (Nat.le_refl _) (fun w hw=>((h6.next hw)).nums)) ((kI 2 24 rfl rfl).part (Nat.le_refl _) (fun w hw=>((h7.next hw)).nums)),
   step_keyB rfl (.inl rfl) rfl hT HX.out BX (fun w hw=>((h10.next hw)).nums) HK.out rfl (kI 0 22 rfl rfl) (knowsW_in 3 25 (by decide) (by kernel_rfl) rfl rfl),
   step_fstZ rfl (.inl rfl) rfl rfl (kI 4 26 rfl rfl),
   step_sndZ rfl (.inl rfl) rfl rfl (kI 4 26 rfl rfl),trivial⟩ ?_
 intro val w3 hw hS hap hla
 have e22:=eVal hS 0 22 rfl rfl
 have e23:=eVal hS 1 23 rfl rfl
 have e24:=eVal hS 2 24 rfl rfl
 have e26:=eVal hS 4 26 rfl rfl
 have e27:=eVal hS 5 27 rfl rfl
 have e28:=eVal hS 6 28 rfl rfl
 simp only [pA,pB,pC,pD,pE,Act.put,pG,pH,pI,e22,e23,e24,e26,e27,e28]
 generalize val 25=g25
 clear hS hap hla e22 e23 e24 e26 e27 e28
 have LL8:=hid (show ((ints .u8 K)).length=32 from (il HKL.out))
 have Y8:=h8.next hw
 have R8:=Y8.roomA (us:=(ints .u8 K)) (LL8.out.trans (il (hz_len 32)).symm)
 have X8:=Y8.storedA (us:=(ints .u8 K)) (LL8.out.trans (il (hz_len 32)).symm)
 replace h4:=h4.next hw
 replace h5:=h5.next hw
 replace h6:=h6.next hw
 replace h7:=h7.next hw
 replace h8:=h8.next hw
 replace hT:=hT.next hw
 replace h10:=h10.next hw
 replace hW:=bT hW hw
 with_reducible refine wpList_store_mid (op:=⟨none,.store 22 (.tmp 8) (.tmp 27),_,_,_,_⟩) rfl 22 (.tmp 8) (.tmp 27) rfl (w.heap.size+1+1+1+1) 0 (ints .u8 K).toArray rfl rfl R8 (szA infS32 LL8.out) (ints_all _ _) ?_
 replace hW:=Below.setCells hW (g:=(w.heap.size+1+1+1+1)) (by omega) 0 (ints .u8 K).toArray.toList
 generalize (w3.setCells (w.heap.size+1+1+1+1) 0 (ints .u8 K).toArray.toList)=w4 at *
 clear hw R8 LL8 Y8
 go_wp2_with (fail)
 exact bodyPost_ret (results_rowV rfl _ _ (w.heap.size+1+1+1+1) 0 rfl (.int .i64 0) rfl (ints .u8 K) _ X8.range Tryz.underlying22 rfl (szV infS32 (il HKL.out))) rfl ⟨rfl,hW⟩
end
end Go.Proofs.YtkblmdakejmmhaaGreatDoor
