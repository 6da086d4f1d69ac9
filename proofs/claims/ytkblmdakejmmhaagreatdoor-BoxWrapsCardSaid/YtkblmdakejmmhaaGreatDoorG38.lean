import Derived.Test.YtkblmdakejmmhaaGreatDoorG37
import Derived.Lib.LaidTab
import Derived.Deep.Matrix
namespace Go.Proofs.YtkblmdakejmmhaaGreatDoor
open Go Go.RowKit
section
set_option maxRecDepth 50000
set_option maxHeartbeats 4000000 in
theorem awake_core (o t p z:List Int) (w:World) (hT:TabsH w) (hC:Tabs w) (HO:Hid (o.length=32)) (HT2:Hid (t.length=32)) (HPL:Hid (p.length=32)) (HB1:Hid (Tryz.prog.built 22 [(0,.int .u8 1)]=some (ints .u8 o).toArray)) (HB2:Hid (Tryz.prog.built 22 [(0,.int .u8 2)]=some (ints .u8 t).toArray))
 (HP:Hid (CallsTo 12 #[.agg (ints .u8 t).toArray] (.agg (ints .u8 p).toArray))) (HSZ:Hid (∀w,Calls Tryz.prog 9 #[.int .i64 5] w fun e w'=>e=.returned (.int .i64 53)∧Below w.heap.size w w'))
 (HW:Hid (∀(w:World) (A:Option Addr) (c:Nat),TabsH w→Tabs w→5≤c→Nums w .u8 A (zeros 5)→Calls Tryz.prog 6 #[.agg (ints .u8 o).toArray,.agg (ints .u8 p).toArray,.slice A 5 c] w fun e w'=>∃v,e=.returned v∧IsTup 53 z v w'∧Below w.heap.size w w')) :
 Calls Tryz.prog 5 #[] w fun e w'=>e=.returned (.bool true)∧Below w.heap.size w w':=by
 have hW:=Below.refl w.heap.size w
 go_enter Tryz.func5,Tryz.ntmps5
 go_upto_region 1 with (fail)
 have s0:=hW.size
 refine rSpec 9 22 (fun _=>false) [Is (.agg (ints .u8 o).toArray),Is (.agg (ints .u8 t).toArray),Is (.agg (ints .u8 p).toArray),IsPart 5 (zeros 5),IsTup 53 z,IsTup 53 z,IsPart 53 z,Is (.int .i64 0),IsPart 53 z] [4,5,6,7,8,3,9,10,1] (gC (gC (gC (grows_cons (IsPart.grows _ _) (grows_cons (IsTup.grows _ _) (grows_cons (IsTup.grows _ _) (grows_cons (IsPart.grows _ _) (gC (grows_cons (IsPart.grows _ _) grows_nil)))))))))
  ⟨step_buildP rfl (.inl rfl) rfl HB1.out rfl (parts1 (knows_const _)),
   step_buildP rfl (.inl rfl) rfl HB2.out rfl (parts1 (knows_const _)),
   step_to rfl (.inl rfl) rfl cxPubB HP.out rfl (one_arg (kI 1 5 rfl rfl)),
   step_makeB rfl (.inl rfl) rfl rfl,
   step_wrapB rfl (.inl rfl) rfl (fun ww A c hw h5 hN=>HW.out ww A c (hT.next hw) (hC.next hw) h5 hN) rfl (kI 0 4 rfl rfl) (kI 2 6 rfl rfl) (knowsW_in 3 7 (by decide) (by kernel_rfl) rfl rfl),
   step_copyW rfl (.inl rfl) 4 8 (.inl rfl) rfl (by decide) (by kernel_rfl) rfl rfl,
   tup_fst rfl (.inl rfl) rfl rfl (knowsW_in 5 3 (by decide) (by kernel_rfl) rfl rfl),
   tup_snd rfl (.inl rfl) rfl rfl (knowsW_in 5 3 (by decide) (by kernel_rfl) rfl rfl),
   step_copyW rfl (.inl rfl) 6 9 (.inr rfl) rfl (by decide) (by kernel_rfl) rfl rfl,trivial⟩ ?_
 intro val w1 hw hS hap hla
 have e4:=eVal hS 0 4 rfl rfl
 have e5:=eVal hS 1 5 rfl rfl
 have e6:=eVal hS 2 6 rfl rfl
 have e10:=eVal hS 7 10 rfl rfl
 obtain ⟨B1,c1,e1,h1,N1⟩:=hS 8 1 (by decide) rfl
 simp only [pA,pB,pC,pD,pE,Act.put,pG,pH,pI,e4,e5,e6,e10,e1]
 generalize val 7=g7
 generalize val 8=g8
 generalize val 3=g3
 generalize val 9=g9
 clear hS hap hla e4 e5 e6 e10 e1
 replace hT:=hT.next hw
 replace hC:=hC.next hw
 replace hW:=bT hW hw
 clear hw
 go_upto_region 2 with (fail)
 have s1:=hW.size
 refine rSeq 12 22 (fun _=>false) [Is (.int .i64 0),Is (.bool true),Is (.bool true),Is (.slice B1 53 c1),Is (.int .i64 53),Is (.bool true),Is (.bool true),Is (.bool true),Is (.int .i64 53),Is (.bool true),Is (.bool true),Is (.bool true)] [11,12,13,14,15,16,17,18,19,20,21,0] (gC (gC (gC (gC (gC (gC (gC (gC (gC (gC (gC (gC grows_nil))))))))))))
  ⟨step_mvP rfl (.inl rfl) rfl rfl (kO 2 rfl),
   step_eqC rfl (.inl rfl) rfl Tryz.underlying25 rfl (by decide) (kI 0 11 rfl rfl),
   step_mvP rfl (.inl rfl) rfl rfl (kI 1 12 rfl rfl),
   step_mvP rfl (gN 2 true 13 rfl rfl rfl) rfl rfl (kO 1 rfl),
   step_len rfl (gN 2 true 13 rfl rfl rfl) uaVs rfl rfl (kI 3 14 rfl rfl),
   step_eqC rfl (gN 2 true 13 rfl rfl rfl) rfl Tryz.underlying3 rfl (by decide) (kI 4 15 rfl rfl),
   step_pick rfl (.inl rfl) (b:=true) rfl rfl (kI 2 13 rfl rfl) (kI 5 16 rfl rfl),
   step_mvP rfl (.inl rfl) rfl rfl (kI 6 17 rfl rfl),
   step_cw rfl (gN 7 true 18 rfl rfl rfl) rfl cxSizB rfl (fun aa ww hw hf hd=>⟨_,(one_arg (knows_const _)) aa ww hw hf hd,HSZ.out ww⟩),
   step_eqC rfl (gN 7 true 18 rfl rfl rfl) rfl Tryz.underlying3 rfl (by decide) (kI 8 19 rfl rfl),
   step_pick rfl (.inl rfl) (b:=true) rfl rfl (kI 7 18 rfl rfl) (kI 9 20 rfl rfl),
   step_asgP rfl (.inl rfl) rfl rfl (kI 10 21 rfl rfl),trivial⟩ ?_
 intro val w2 hw hS hap hla
 simp only [pA,pB,pC,pD,pE,Act.put,pG,pH,pI,eVal hS 0 11 rfl rfl,eVal hS 1 12 rfl rfl,eVal hS 2 13 rfl rfl,eVal hS 3 14 rfl rfl,eVal hS 4 15 rfl rfl,eVal hS 5 16 rfl rfl,eVal hS 6 17 rfl rfl,eVal hS 7 18 rfl rfl,eVal hS 8 19 rfl rfl,eVal hS 9 20 rfl rfl,eVal hS 10 21 rfl rfl,eVal hS 11 0 rfl rfl]
 clear hS hap hla
 replace hT:=hT.next hw
 replace hC:=hC.next hw
 replace N1:=N1.below hw
 replace hW:=bT hW hw
 clear hw
 go_wp2_with (fail)
 go_ret
 exact ⟨rfl,hW⟩
theorem awake_any (w:World) (hT:TabsH w) (hC:Tabs w):Calls Tryz.prog 5 #[] w fun e w'=>e=.returned (.bool true)∧Below w.heap.size w w':=by
 have hs:=ex_some
 have hp:=c_public twoB_len twoB_byt
 have hl:=pub_len twoB
 have hb:=pub_byt twoB
 have hp2:CallsTo 12 #[.agg (ints .u8 twoB).toArray] (.agg (ints .u8 (pubL twoB)).toArray):=hp
 generalize pubL twoB=p at *
 exact awake_core oneB twoB p (wrapL oneB p (zeros 5)) w hT hC (hid oneB_len) (hid twoB_len) (hid hl) (hid builtB1) (hid builtB2) (hid hp2) (hid fun w=>size_any 5 w) (hid fun w A c hT hC _ hN=>wrap_some oneB p (zeros 5) A 5 c w hT hC oneB_len oneB_byt hl hb (zeros_len 5) (by decide) (fun x hx=>by rw [List.eq_of_mem_replicate hx];omega) hN hs)
end
section
set_option maxRecDepth 50000
open Go.RowKit Go.ChangeShapes Go.WideShapes
theorem fours {α:Type} (f:Nat→List α):∀(m:Nat) (l:List α),l.length=4*m→(∀i,i<m→(l.drop (i*4)).take 4=f i)→l=(List.range m).flatMap f
 | 0,l,h,_=>by simpa using h
 | m+1,l,h,hf=>by
   have h1:=fours (fun i=>f (i+1)) m (l.drop 4) (by rw [List.length_drop];omega) (fun i hi=>by
    have:=hf (i+1) (by omega)
    rw [List.drop_drop]
    rw [show 4+i*4=(i+1)*4 by omega]
    exact this)
   have h0:=hf 0 (by omega)
   rw [Nat.zero_mul,List.drop_zero] at h0
   rw [List.range_succ_eq_map,List.flatMap_cons,←h0,List.flatMap_map]
   have e:l=l.take 4++l.drop 4:=(List.take_append_drop 4 l).symm
   rw [h1] at e
   exact e
theorem cells_of_tab2 {H:Type} {enc:TypeId × Value→H} {P:Program} {w:World} {base:Nat} {sp:Nat→Bool} {held:Bool} {fuel:Nat} {t u e m:TypeId} {cs:List Value} {k:IntKind} {rows:List (List Int)} {p:List MemPlace}
 (ht:P.underlying t=some (.array m u)) (hu:P.underlying u=some (.array 4 e)) (he:P.underlying e=some (.int k)) (hce:P.cellsOf e=1) (hcu:P.cellsOf u=4) (hct:P.cellsOf t=4*m)
 (h:DataW.trod enc P w base sp held fuel t cs=some (.agg (rows.map (Lib.tabData k)),p)):cs=(List.range m).flatMap fun i=>(rows.getD i []).map (Value.int k):=by
 obtain ⟨xs,n,rfl,hx,hl,hn,hall⟩:=DataW.trod_array ht h
 rw [hct] at hl
 injection hx with hx1 hx2
 injection hx1 with hx1
 refine fours _ m cs hl fun i hi=>?_
 have h1:=hall i hi
 rw [hcu] at h1
 have h2:xs[i]? = some xs[i]:=by simp
 rw [h2] at h1
 have h3:(xs[i]).1=Lib.tabData k (rows.getD i []):=by
  have e3:=congrArg (·[i]?) hx1
  simp only [List.getElem?_map,h2,Option.map_some] at e3
  cases hr:rows[i]? with
  | none=>rw [hr] at e3;simp at e3
  | some r =>
    rw [hr] at e3
    simp only [Option.map_some,Option.some.injEq] at e3
    rw [List.getD_eq_getElem?_getD,hr]
    exact e3.symm
 have h4:xs[i]=(Lib.tabData k (rows.getD i []),(xs[i]).2):=by rw [←h3]
 rw [h4] at h1
 exact Lib.cells_of_tab hu he hce hcu h1
def QROWS:List (List Int):=[[0,4,8,12],[1,5,9,13],[2,6,10,14],[3,7,11,15],[0,5,10,15],[1,6,11,12],[2,7,8,13],[3,4,9,14]]
theorem gQ:Tryz.prog.globalNamed "bastille/chacha.quarters" = some 1:=by kernel_rfl
theorem gQType:(Tryz.prog.globals[1]?).map (·.type)=some 147:=by kernel_rfl
theorem underQ8:Tryz.prog.underlying 147=some (.array 8 146):=by kernel_rfl
theorem underQ4:Tryz.prog.underlying 146=some (.array 4 3):=by kernel_rfl
theorem underQi:Tryz.prog.underlying 3=some (.int .i64):=by kernel_rfl
theorem cellsQ8:Tryz.prog.cellsOf 147=4*8:=by kernel_rfl
theorem cellsQ4:Tryz.prog.cellsOf 146=4:=by kernel_rfl
theorem cellsQi:Tryz.prog.cellsOf 3=1:=by kernel_rfl
theorem gFirst:Tryz.prog.globalNamed "bastille/sha.first" = some 0:=by kernel_rfl
theorem gKinds:Tryz.prog.globalNamed "bastille/sha.kinds" = some 2:=by kernel_rfl
theorem gFirstType:(Tryz.prog.globals[0]?).map (·.type)=some 135:=by kernel_rfl
theorem gKindsType:(Tryz.prog.globals[2]?).map (·.type)=some 165:=by kernel_rfl
theorem cellsFirst:Tryz.prog.cellsOf 135=8:=by kernel_rfl
theorem cellsKinds:Tryz.prog.cellsOf 165=80:=by kernel_rfl
theorem cellsWord:Tryz.prog.cellsOf 134=1:=by kernel_rfl
def tablesB:List (String × DataW Unit):=[("bastille/sha.first",Lib.tabData .u64 FIRST),("bastille/sha.kinds",Lib.tabData .u64 KINDS),("bastille/chacha.quarters",.agg (QROWS.map (Lib.tabData .i64)))]
theorem tabs_of {W:World} (h:laidMet Tryz.prog tablesB W):TabsH W∧Tabs W:=by
 have hw:Lib.TabIs Tryz.prog W "bastille/sha.first" .u64 FIRST:=Lib.tabIs_of_head gFirst gFirstType Tryz.underlying135 Tryz.underlying134 cellsWord cellsFirst h
 have hm:Lib.TabIs Tryz.prog W "bastille/sha.kinds" .u64 KINDS:=by
  obtain ⟨ps,⟨_,_,_,_,_,_,_,_,_,_,⟨g',t',cs,fuel,p,q,hg',ht',hvar,hd,_,_⟩,_⟩,_⟩:=h
  obtain rfl:=Option.some.inj (gKinds.symm.trans hg')
  obtain rfl:=Option.some.inj (gKindsType.symm.trans ht')
  unfold Lib.TabIs
  rw [hvar,←Lib.cells_of_tab Tryz.underlying165 Tryz.underlying134 cellsWord cellsKinds hd]
 have hq:Lib.TabIs Tryz.prog W "bastille/chacha.quarters" .i64 QT:=by
  obtain ⟨ps,⟨_,_,_,_,_,_,_,_,_,_,⟨_,_,_,_,_,_,_,_,_,_,⟨g',t',cs,fuel,p,q,hg',ht',hvar,hd,_,_⟩,_⟩,_⟩,_⟩:=h
  obtain rfl:=Option.some.inj (gQ.symm.trans hg')
  obtain rfl:=Option.some.inj (gQType.symm.trans ht')
  unfold Lib.TabIs
  have e:=cells_of_tab2 underQ8 underQ4 underQi cellsQi cellsQ4 cellsQ8 hd
  rw [hvar]
  congr 1
  apply Array.toList_inj.1
  rw [e]
  kernel_rfl
 refine ⟨⟨⟨?_,?_⟩,fun i x hi=>?_,fun i x hi=>?_⟩,World.block_lt_of_cell? _ _ (hq.cell gQ 0 (by decide)),fun i x hi=>?_⟩
 ·exact World.block_lt_of_cell? _ _ (hm.cell gKinds 0 (by decide))
 ·exact World.block_lt_of_cell? _ _ (hw.cell gFirst 0 (by decide))
 ·have hl:=(List.getElem?_eq_some_iff.1 hi).1
  have:=hm.cell gKinds i hl
  rw [this]
  simp [List.getD,hi]
 ·have hl:=(List.getElem?_eq_some_iff.1 hi).1
  have:=hw.cell gFirst i hl
  rw [this]
  simp [List.getD,hi]
 ·have hl:=(List.getElem?_eq_some_iff.1 hi).1
  rw [ints_length] at hl
  have:=hq.cell gQ i hl
  rw [Nat.zero_add,this,←hi]
  simp [ints,List.getD,hl]
theorem tabs_wraps {W:World} (h:laidMetH Tryz.prog Rows.boxWrapsRow.laid W):TabsH W∧Tabs W:=tabs_of h
end
section
set_option maxHeartbeats 1000000
set_option maxRecDepth 50000
theorem Owns.low {w:World} {b b':Nat} {e:TypeId} {k:IntKind} {v:Value} {xs:List Int} (h:Owns w b e k v xs) (hb:b'≤b):Owns w b' e k v xs:=World.ownsRow.mono h hb
theorem rlist_any (xs:List Int) (w:World) (hl:Hid (xs.length=64)):Calls Tryz.prog 96 #[.agg (ints .u8 xs).toArray] w fun e w'=>∃A d,e=.returned (.slice A 64 d)∧Owns w' w.heap.size 5 .u8 (.slice A 64 d) xs∧Below w.heap.size w w':=by
 have hA:=Arr.made w .u8 xs 83
 have hW:=below_new w (.cells (ints .u8 xs).toArray 83)
 have hS:w.heap.size+1≤(w.alloc (.cells (ints .u8 xs).toArray 83)).heap.size:=by simp
 go_enter Tryz.func96,Tryz.ntmps96
 go_wp2
 generalize w.alloc (.cells (ints .u8 xs).toArray 83)=W at *
 go_loopw [3,4] (fun v i wr=>∃(k:Nat) (A:Option Addr) (m c:Nat),k≤64∧v=.slice A m c∧i=.int .i64 k∧Owns wr (w.heap.size+1) 5 .u8 (.slice A m c) (xs.take k)∧Below w.heap.size w wr∧Arr wr w.heap.size 0 .u8 xs∧w.heap.size+1≤wr.heap.size) (fun _ i _=>64 - (intOf i).toNat)
 case atStart=>exact ⟨0,none,0,0,Nat.zero_le _,rfl,rfl,Owns.none_ _ _ _ _,hW,hA,hS⟩
 case round =>
  clear hA hW hS
  obtain ⟨k,A,m,c,hk,rfl,rfl,hO,hW,hA,hS⟩:=hrel
  by_cases hlt:k<64
  ·obtain ⟨x,hx⟩:∃x,xs[k]? = some x:=⟨xs[k]'(by rw [hl.out];exact hlt),by simp [hl.out,hlt]⟩
   have hx1:=hA.at_ hx
   rw [Nat.zero_add] at hx1
   have HX:=hid (take_succ_at hx)
   have HL:Hid ((xs.take k).length=k):=hid (by rw [List.length_take,hl.out];omega)
   have k0:(0:Int)≤k:=by omega
   have k1:(k:Int)<64:=by omega
   clear hx
   go_wp2_with (at_builtin;refine app_one _ rfl (.tmp 9) (.tmp 13) 23 rfl (w.heap.size+1) 5 .u8 1 Tryz.underlying23 Tryz.info5 A m c (xs.take k) rfl hO _ 1 rfl (by rw [HL.out];omega) (by omega) hS ?_;intro A' n' c' w2 hO2 hb2)
   go_roundw
   case rel=>exact ⟨k+1,A',n',c',by omega,rfl,by go_num,by rw [HX.out];exact hO2,hW.trans (hb2.mono (by omega)),hA.below hb2 (by omega),Nat.le_trans hS hb2.size⟩
   case measure=>simp [intOf];omega
  ·have e:k=64:=by omega
   subst e
   have hm:=hO.len
   have he:xs.take 64=xs:=List.take_of_length_le (by rw [hl.out];omega)
   rw [he] at hO hm
   rw [hl.out] at hm
   clear he
   subst hm
   go_wp2
   go_ret
   exact ⟨A,c,rfl,hO.low (by omega),hW⟩
theorem rbyt_any (xs:List Int) (w:World) (hl:Hid (xs.length=32)):Calls Tryz.prog 20 #[.agg (ints .u8 xs).toArray] w fun e w'=>∃A d,e=.returned (.slice A 32 d)∧Owns w' w.heap.size 5 .u8 (.slice A 32 d) xs∧Below w.heap.size w w':=by
 have hA:=Arr.made w .u8 xs 22
 have hW:=below_new w (.cells (ints .u8 xs).toArray 22)
 have hS:w.heap.size+1≤(w.alloc (.cells (ints .u8 xs).toArray 22)).heap.size:=by simp
 go_enter Tryz.func20,Tryz.ntmps20
 go_wp2
 generalize w.alloc (.cells (ints .u8 xs).toArray 22)=W at *
 go_loopw [3,4] (fun v i wr=>∃(k:Nat) (A:Option Addr) (m c:Nat),k≤32∧v=.slice A m c∧i=.int .i64 k∧Owns wr (w.heap.size+1) 5 .u8 (.slice A m c) (xs.take k)∧Below w.heap.size w wr∧Arr wr w.heap.size 0 .u8 xs∧w.heap.size+1≤wr.heap.size) (fun _ i _=>32 - (intOf i).toNat)
 case atStart=>exact ⟨0,none,0,0,Nat.zero_le _,rfl,rfl,Owns.none_ _ _ _ _,hW,hA,hS⟩
 case round =>
  clear hA hW hS
  obtain ⟨k,A,m,c,hk,rfl,rfl,hO,hW,hA,hS⟩:=hrel
  by_cases hlt:k<32
  ·obtain ⟨x,hx⟩:∃x,xs[k]? = some x:=⟨xs[k]'(by rw [hl.out];exact hlt),by simp [hl.out,hlt]⟩
   have hx1:=hA.at_ hx
   rw [Nat.zero_add] at hx1
   have HX:=hid (take_succ_at hx)
   have HL:Hid ((xs.take k).length=k):=hid (by rw [List.length_take,hl.out];omega)
   have k0:(0:Int)≤k:=by omega
   have k1:(k:Int)<32:=by omega
   clear hx
   go_wp2_with (at_builtin;refine app_one _ rfl (.tmp 9) (.tmp 13) 23 rfl (w.heap.size+1) 5 .u8 1 Tryz.underlying23 Tryz.info5 A m c (xs.take k) rfl hO _ 1 rfl (by rw [HL.out];omega) (by omega) hS ?_;intro A' n' c' w2 hO2 hb2)
   go_roundw
   case rel=>exact ⟨k+1,A',n',c',by omega,rfl,by go_num,by rw [HX.out];exact hO2,hW.trans (hb2.mono (by omega)),hA.below hb2 (by omega),Nat.le_trans hS hb2.size⟩
   case measure=>simp [intOf];omega
  ·have e:k=32:=by omega
   subst e
   have hm:=hO.len
   have he:xs.take 32=xs:=List.take_of_length_le (by rw [hl.out];omega)
   rw [he] at hO hm
   rw [hl.out] at hm
   clear he
   subst hm
   go_wp2
   go_ret
   exact ⟨A,c,rfl,hO.low (by omega),hW⟩
end
section
set_option maxRecDepth 50000
theorem padV_in {key:List Int} {c:Int} {k:Nat} {x:Int} (h:(keyV key)[k]? = some x):(vxl c (fillV key))[k]? = some (vx x c):=by
 refine vxl_at c _ ?_
 unfold fillV
 rw [List.getElem?_append_left (List.getElem?_eq_some_iff.1 h).1,h]
theorem padV_out {key:List Int} {c:Int} {k:Nat} (hc:0≤c∧c<256) (h:(keyV key).length≤k) (hk:k<128):(vxl c (fillV key))[k]? = some c:=by
 have e:(fillV key)[k]? = some 0:=by
  unfold fillV
  rw [List.getElem?_append_right h]
  unfold hzeros
  rw [List.getElem?_replicate,if_pos (by omega)]
 rw [vxl_at c _ e,vx_zero hc]
theorem rsum_len (A:Option Addr) (c l:Nat) (b:List Int) (w:World) (hl:Hid (b.length=l)) (h1:l≤4000) (hby:HByt b) (hA:Nums w .u8 A b) :
 Calls Tryz.prog 97 #[.slice A l c] w fun e w'=>∃ys,e=.returned (.agg (ints .u8 ys).toArray)∧Hid (ys=hash b)∧Hid (ys.length=64)∧Below w.heap.size w w':=by
 have h:=rsum_any A c b w (by rw [hl.out];exact h1) hby hA
 rw [hl.out] at h
 exact h
set_option maxHeartbeats 2000000 in
theorem rblk_any (A0:Option Addr) (c0 l:Nat) (key P:List Int) (c:Int) (w:World) (hl:Hid (key.length=l)) (h1:l≤1000) (hkb:HByt key) (hc0:0≤c) (hc1:c<256) (hA:Nums w .u8 A0 key) (hP:Hid (vxl c (fillV key)=P)) :
 Calls Tryz.prog 95 #[.slice A0 l c0,.int .u8 c] w fun e w'=>∃A d,e=.returned (.slice A 128 d)∧Owns w' w.heap.size 5 .u8 (.slice A 128 d) P∧Below w.heap.size w w':=by
 obtain ⟨kk,hkk⟩:∃kk,keyV key=kk:=⟨_,rfl⟩
 have HP:Hid (P.length=128∧(∀(k:Nat) x,kk[k]? = some x→P[k]? = some (vx x c))∧∀k:Nat,kk.length≤k→k<128→P[k]? = some c):=hid (by
  subst hkk
  rw [←hP.out]
  exact ⟨by rw [vxl_len,fillV_len],fun k x h=>padV_in h,fun k h h2=>padV_out ⟨hc0,hc1⟩ h h2⟩)
 clear hP
 by_cases hbig:128<l
 ·have e:kk=hash key:=by rw [←hkk];unfold keyV;rw [if_pos (by rw [hl.out];exact hbig)]
  have hkl:kk.length=64:=by rw [e,hash_len]
  have HK:=hid e
  have HKL0:=hid hkl
  clear e hkl hkk
  have hi1:(128:Int)<l:=by omega
  go_enter Tryz.func95,Tryz.ntmps95
  go_wp2_with (first
   | (go_at_call 97;refine (rsum_len A0 c0 l key _ hl (by omega) hkb hA).mono ?_;rintro e w1 ⟨ys,rfl,HY,HYL,hb1⟩)
   | (go_at_call 96;refine (rlist_any ys _ HYL).mono ?_;rintro e W0 ⟨KA,kd,rfl,hKO,hb2⟩))
  have hW:Below w.heap.size w W0:=hb1.trans (Below.mono hb2 hb1.size)
  have hN:Nums W0 .u8 KA kk:=by have:=hKO.nums;rw [HY.out] at this;rw [HK.out];exact this
  obtain ⟨n,hn⟩:∃n,n=64:=⟨_,rfl⟩
  have HKL:Hid (kk.length=n):=hid (by rw [HKL0.out,hn])
  have e64:Value.slice KA 64 kd=.slice KA n kd:=by rw [hn]
  have hn2:n≤64:=by omega
  rw [e64]
  clear e64 hKO hb1 hb2 hn HKL0
  go_loopw [6,7] (fun v i wr=>∃(k:Nat) (A:Option Addr) (m d:Nat),k≤128∧v=.slice A m d∧i=.int .i64 k∧Owns wr W0.heap.size 5 .u8 (.slice A m d) (P.take k)∧Below W0.heap.size W0 wr) (fun _ i _=>128 - (intOf i).toNat)
  case atStart=>exact ⟨0,none,0,0,Nat.zero_le _,rfl,rfl,Owns.none_ _ _ _ _,Below.refl _ _⟩
  case round =>
   obtain ⟨k,A,m,d,hk,rfl,rfl,hO,hV⟩:=hrel
   by_cases hlt:k<128
   ·have hS:=hV.size
    have HL:Hid ((P.take k).length=k):=hid (by rw [List.length_take,HP.out.1];omega)
    have k0:(0:Int)≤k:=by omega
    by_cases hin:k<n
    ·obtain ⟨b1,o1,x,rfl,hb1,hc1,H1⟩:=(hN.below hV).get (i:=k) (by rw [HKL.out];exact hin)
     have HX:Hid (P.take (k+1)=P.take k++[vx x c]):=hid (take_succ_at (HP.out.2.1 k x H1.out))
     have k1:(k:Int)<n:=by omega
     obtain ⟨y,hy⟩:∃y,bits .xor .u8 x c=y:=⟨_,rfl⟩
     have hyx:vx x c=y:=hy
     rw [hyx] at HX
     clear hyx H1
     go_wp2_with (at_builtin;refine app_one _ rfl (.tmp 23) (.tmp 30) 23 rfl W0.heap.size 5 .u8 1 Tryz.underlying23 Tryz.info5 A m d (P.take k) rfl hO _ 1 rfl (by rw [HL.out];omega) (by omega) hS ?_;intro A' n' c' w2 hO2 hb2)
     go_roundw
     case rel=>exact ⟨k+1,A',n',c',by omega,rfl,by go_num,by rw [HX.out];exact hO2,hV.trans hb2⟩
     case measure=>simp [intOf];omega
    ·have k1:(n:Int)≤k:=by omega
     have HX:Hid (P.take (k+1)=P.take k++[c]):=hid (take_succ_at (HP.out.2.2 k (by rw [HKL.out];omega) hlt))
     go_wp2_with (at_builtin;refine app_one _ rfl (.tmp 32) (.tmp 34) 23 rfl W0.heap.size 5 .u8 1 Tryz.underlying23 Tryz.info5 A m d (P.take k) rfl hO _ 1 rfl (by rw [HL.out];omega) (by omega) hS ?_;intro A' n' c' w2 hO2 hb2)
     go_roundw
     case rel=>exact ⟨k+1,A',n',c',by omega,rfl,by go_num,by rw [HX.out];exact hO2,hV.trans hb2⟩
     case measure=>simp [intOf];omega
   ·have e:k=128:=by omega
    subst e
    have hm:=hO.len
    have he:P.take 128=P:=List.take_of_length_le (by rw [HP.out.1];omega)
    rw [he] at hO hm
    rw [HP.out.1] at hm
    clear he
    subst hm
    go_wp2
    go_ret
    exact ⟨A,d,rfl,hO.low hW.size,hW.trans (Below.mono hV hW.size)⟩
 ·have e:kk=key:=by rw [←hkk];unfold keyV;rw [if_neg (by rw [hl.out];exact hbig)]
  have hi1:(l:Int)≤128:=by omega
  obtain ⟨W0,hW0⟩:∃W0,W0=w:=⟨_,rfl⟩
  obtain ⟨n,hn⟩:∃n,n=l:=⟨_,rfl⟩
  have HKL:Hid (kk.length=n):=hid (by rw [e,hl.out,hn])
  have hN:Nums W0 .u8 A0 kk:=by rw [e,hW0];exact hA
  have hW:Below w.heap.size w W0:=by rw [hW0];exact Below.refl _ _
  suffices h:Calls Tryz.prog 95 #[.slice A0 l c0,.int .u8 c] W0 fun e w'=>∃A d,e=.returned (.slice A 128 d)∧Owns w' w.heap.size 5 .u8 (.slice A 128 d) P∧Below w.heap.size w w' by rw [hW0] at h;exact h
  clear hW0
  have hn2:n≤128:=by omega
  rw [←hn] at hi1 ⊢
  obtain ⟨KA,hKA⟩:∃KA,KA=A0:=⟨_,rfl⟩
  rw [←hKA] at hN ⊢
  clear e hkk hl hA h1 hn hKA hbig
  go_enter Tryz.func95,Tryz.ntmps95
  go_wp2
  go_loopw [6,7] (fun v i wr=>∃(k:Nat) (A:Option Addr) (m d:Nat),k≤128∧v=.slice A m d∧i=.int .i64 k∧Owns wr W0.heap.size 5 .u8 (.slice A m d) (P.take k)∧Below W0.heap.size W0 wr) (fun _ i _=>128 - (intOf i).toNat)
  case atStart=>exact ⟨0,none,0,0,Nat.zero_le _,rfl,rfl,Owns.none_ _ _ _ _,Below.refl _ _⟩
  case round =>
   obtain ⟨k,A,m,d,hk,rfl,rfl,hO,hV⟩:=hrel
   by_cases hlt:k<128
   ·have hS:=hV.size
    have HL:Hid ((P.take k).length=k):=hid (by rw [List.length_take,HP.out.1];omega)
    have k0:(0:Int)≤k:=by omega
    by_cases hin:k<n
    ·obtain ⟨b1,o1,x,rfl,hb1,hc1,H1⟩:=(hN.below hV).get (i:=k) (by rw [HKL.out];exact hin)
     have HX:Hid (P.take (k+1)=P.take k++[vx x c]):=hid (take_succ_at (HP.out.2.1 k x H1.out))
     have k1:(k:Int)<n:=by omega
     obtain ⟨y,hy⟩:∃y,bits .xor .u8 x c=y:=⟨_,rfl⟩
     have hyx:vx x c=y:=hy
     rw [hyx] at HX
     clear hyx H1
     go_wp2_with (at_builtin;refine app_one _ rfl (.tmp 23) (.tmp 30) 23 rfl W0.heap.size 5 .u8 1 Tryz.underlying23 Tryz.info5 A m d (P.take k) rfl hO _ 1 rfl (by rw [HL.out];omega) (by omega) hS ?_;intro A' n' c' w2 hO2 hb2)
     go_roundw
     case rel=>exact ⟨k+1,A',n',c',by omega,rfl,by go_num,by rw [HX.out];exact hO2,hV.trans hb2⟩
     case measure=>simp [intOf];omega
    ·have k1:(n:Int)≤k:=by omega
     have HX:Hid (P.take (k+1)=P.take k++[c]):=hid (take_succ_at (HP.out.2.2 k (by rw [HKL.out];omega) hlt))
     go_wp2_with (at_builtin;refine app_one _ rfl (.tmp 32) (.tmp 34) 23 rfl W0.heap.size 5 .u8 1 Tryz.underlying23 Tryz.info5 A m d (P.take k) rfl hO _ 1 rfl (by rw [HL.out];omega) (by omega) hS ?_;intro A' n' c' w2 hO2 hb2)
     go_roundw
     case rel=>exact ⟨k+1,A',n',c',by omega,rfl,by go_num,by rw [HX.out];exact hO2,hV.trans hb2⟩
     case measure=>simp [intOf];omega
   ·have e:k=128:=by omega
    subst e
    have hm:=hO.len
    have he:P.take 128=P:=List.take_of_length_le (by rw [HP.out.1];omega)
    rw [he] at hO hm
    rw [HP.out.1] at hm
    clear he
    subst hm
    go_wp2
    go_ret
    exact ⟨A,d,rfl,hO.low hW.size,hW.trans (Below.mono hV hW.size)⟩
theorem Rw.under {w w':World} {b o B:Nat} {vs:List Value} (h:Rw w b o vs) (hb:Below B w w') (hlt:b<B):Rw w' b o vs:=h.same (hb.block b hlt)
set_option maxHeartbeats 4000000 in
theorem rvtag_core (key b I O h r:List Int) (A B:Option Addr) (l c n d:Nat) (w:World) (HK:Hid (key.length=l)) (h1:l≤1000) (hkb:HByt key) (hA:Nums w .u8 A key) (HB:Hid (b.length=n)) (hn:n≤3000) (hbb:HByt b) (hB:Nums w .u8 B b)
 (HI:Hid (vxl 54 (fillV key)=I)) (HIL:Hid (I.length=128)) (hIb:HByt I) (HO:Hid (vxl 92 (fillV key)=O)) (HOL:Hid (O.length=128)) (hOb:HByt O) (Hh:Hid (hash (I++b)=h)) (HhL:Hid (h.length=64)) (hhb:HByt h) (Hr:Hid (hash (O++h)=r)) (HrL:Hid (r.length=64)) :
 Calls Tryz.prog 64 #[.slice A l c,.slice B n d] w fun e w'=>e=.returned (.agg (ints .u8 r).toArray)∧Below w.heap.size w w':=by
 obtain ⟨z64,s64⟩:=zero_of_info infH
 have h4:=Rw.new w (ints .u8 (hzeros 64)) 83
 have hW:=below_new w (.cells (ints .u8 (hzeros 64)).toArray 83)
 have hA0:NumsD (w.heap.size+1) w .u8 A key:=(hA.under).more (by omega)
 replace hB:=hB.below hW
 have hS:w.heap.size+1≤(w.alloc (.cells (ints .u8 (hzeros 64)).toArray 83)).heap.size:=by simp
 have hA1:NumsD (w.heap.size+1) (w.alloc (.cells (ints .u8 (hzeros 64)).toArray 83)) .u8 A key:=fun hp=>by
  obtain ⟨b,off,e,hlt,hc⟩:=hA hp
  exact ⟨b,off,e,by omega,fun i hi=>(hW.cell (p:=⟨b,off+i,none⟩) hlt).trans (hc i hi)⟩
 clear hA hA0
 go_enter Tryz.func64,Tryz.ntmps64
 go_wp2_with (first
  | (go_at_call 97;with_reducible refine (rsum_len A6 c6 192 (O++h) _ HL6 (by omega) hy6 hO6.nums).mono ?_
     rintro e w7 ⟨ys2,rfl,HY2,HYL2,hb7⟩
     rw [HY2.out,Hr.out]
     replace h4:=h4.next hb7
     replace hW:=hW.trans (Below.mono hb7 hW.size)
     have R8:=h4.roomA (us:=ints .u8 r) ((il HrL.out).trans (il (hz_len 64)).symm)
     have X8:=h4.storedA (us:=ints .u8 r) ((il HrL.out).trans (il (hz_len 64)).symm)
     have hW2:=Below.setCells hW (g:=w.heap.size) (Nat.le_refl _) 0 (ints .u8 r).toArray.toList
     clear hO6 hb7 h4 HY2 HYL2)
  | (at_builtin;refine app_nums rfl (.tmp 14) (.tmp 17) 23 rfl (w.heap.size+1) 5 .u8 1 Tryz.underlying23 Tryz.info5 (by omega) A3 128 c3 O rfl hO3 A5 c5 h (by rw [HhL.out];rfl) hO5.nums (by rw [HOL.out,HhL.out];omega) (by omega) ?_
     intro A6 n6 c6 w6 hO6 hG6
     have hb6:Below (w.heap.size+1) w5 w6:=hG6.below (by omega) fun g e=>(hO3.lt g e).1
     have hm6:=hO6.len
     rw [List.length_append,HOL.out,HhL.out] at hm6
     subst hm6
     have HL6:Hid ((O++h).length=192):=hid (by rw [List.length_append,HOL.out,HhL.out])
     have hy6:=hOb.app hhb
     replace h4:=h4.under hb6 (by omega)
     replace hW:=hW.trans (Below.mono hb6 (by omega))
     clear hO3 hO5 hG6 hb6)
  | (go_at_call 96;refine (rlist_any ys _ HYL).mono ?_
     rintro e w5 ⟨A5,c5,rfl,hO5,hb5⟩
     rw [HY.out,Hh.out] at hO5
     replace h4:=h4.next hb5
     replace hO3:=hO3.stay hb5
     replace hW:=hW.trans (Below.mono hb5 hW.size)
     replace hS:=Nat.le_trans hS hb5.size
     clear hb5 HY HYL)
  | (go_at_call 97;with_reducible refine (rsum_len A2 d2 (128+n) (I++b) _ HL2 (by omega) hy2 hO2.nums).mono ?_
     rintro e w4 ⟨ys,rfl,HY,HYL,hb4⟩
     replace h4:=h4.next hb4
     replace hO3:=hO3.stay hb4
     replace hW:=hW.trans (Below.mono hb4 hW.size)
     replace hS:=Nat.le_trans hS hb4.size
     clear hb4 hO2)
  | (go_at_call 95;with_reducible refine (rblk_any A c l key O 92 _ HK h1 hkb (by omega) (by omega) (hA2.nums hS) HO).mono ?_
     rintro e w3 ⟨A3,c3,rfl,hO3,hb3⟩
     replace hO3:=hO3.low hS
     replace h4:=h4.next hb3
     replace hO2:=hO2.stay hb3
     replace hW:=hW.trans (Below.mono hb3 hW.size)
     replace hS:=Nat.le_trans hS hb3.size
     clear hA2 hb3)
  | (go_at_call 95;generalize w.alloc (.cells (ints .u8 (hzeros 64)).toArray 83)=w0 at *;with_reducible refine (rblk_any A c l key I 54 _ HK h1 hkb (by omega) (by omega) (hA1.nums hS) HI).mono ?_
     rintro e w1 ⟨A1,c1,rfl,hO1,hb1⟩
     replace hO1:=hO1.low hS
     replace h4:=h4.next hb1
     replace hA1:=hA1.stay (hb1.mono hS)
     have hB1:=hB.below hb1
     replace hW:=hW.trans (Below.mono hb1 hW.size)
     replace hS:=Nat.le_trans hS hb1.size
     clear hB hb1)
  | (at_builtin;refine app_nums rfl (.tmp 9) (.tmp 10) 23 rfl (w.heap.size+1) 5 .u8 1 Tryz.underlying23 Tryz.info5 (by omega) A1 128 c1 I rfl hO1 B d b (by rw [HB.out];rfl) hB1 (by rw [HIL.out,HB.out];omega) (by omega) ?_
     intro A2 n2 d2 w2 hO2 hG2
     have hb2:Below (w.heap.size+1) w1 w2:=hG2.below (by omega) fun g e=>(hO1.lt g e).1
     have hm2:=hO2.len
     rw [List.length_append,HIL.out,HB.out] at hm2
     subst hm2
     have HL2:Hid ((I++b).length=128+n):=hid (by rw [List.length_append,HIL.out,HB.out])
     have hy2:=hIb.app hbb
     have hA2:=hA1.stay hb2
     replace h4:=h4.under hb2 (by omega)
     replace hW:=hW.trans (Below.mono hb2 (by omega))
     replace hS:=Nat.le_trans hS hb2.size
     clear hO1 hG2 hb2 hB1 hA1)
  | (with_reducible refine wpList_store_mid (op:=⟨none,.store 83 (.tmp 4) (.tmp 20),_,_,_,_⟩) rfl 83 (.tmp 4) (.tmp 20) rfl w.heap.size 0 (ints .u8 r).toArray rfl rfl R8 (szA infH (il HrL.out)) (ints_all _ _) ?_;clear R8;generalize w7.setCells w.heap.size 0 (ints .u8 r).toArray.toList=w9 at *))
 exact ret_rows rfl w.heap.size 0 rfl (ints .u8 r) _ X8.range Tryz.underlying83 rfl (szV infH (il HrL.out)) rfl ⟨rfl,hW2⟩
theorem rvtag_any (key b r:List Int) (A B:Option Addr) (l c n d:Nat) (w:World) (HK:Hid (key.length=l)) (h1:l≤1000) (hkb:HByt key) (hA:Nums w .u8 A key) (HB:Hid (b.length=n)) (hn:n≤3000) (hbb:HByt b) (hB:Nums w .u8 B b) (Hr:Hid (tagV key b=r)) :
 Calls Tryz.prog 64 #[.slice A l c,.slice B n d] w fun e w'=>e=.returned (.agg (ints .u8 r).toArray)∧Below w.heap.size w w' :=
 rvtag_core key b (inV key) (outV key) (hash (inV key++b)) r A B l c n d w HK h1 hkb hA HB hn hbb hB (hid rfl) (hid (inV_len _)) (inV_byt _) (hid rfl) (hid (outV_len _)) (outV_byt _) (hid rfl) (hid (hash_len _)) (hash_byt _) Hr (hid (by rw [←Hr.out];exact tagV_len _ _))
end
end Go.Proofs.YtkblmdakejmmhaaGreatDoor
