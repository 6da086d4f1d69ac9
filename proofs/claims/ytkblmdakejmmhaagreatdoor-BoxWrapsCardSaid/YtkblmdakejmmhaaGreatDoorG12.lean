import Derived.Test.YtkblmdakejmmhaaGreatDoorStepM
import Derived.Test.YtkblmdakejmmhaaGreatDoorG11
namespace Go.Proofs.YtkblmdakejmmhaaGreatDoor
open Go Go.RowKit
set_option maxRecDepth 50000
section
variable {P:Program} {ops:Array Oper} {md:Region.Mode} {W:World} {a0:Act} {n:Nat} {al:Nat→Bool} {S:Nat→Value→World→Prop}
theorem St.next {M:Nat} {listed:Array Bool} {a:Act} {w:World} {i:Nat} {o:Oper} (hdst:dstB ops n M=true) (hM:M≤a0.tmps.size)
 (mono:∀i v w w',S i v w→Below w.heap.size w w'→S i v w') (st:St ops W a0 n al S listed a w) (hin:i<n) (ho:ops[i]? = some o) (hil:i<listed.size)
 (v:Value) (hv:S i v w) (hna:al i=false):St ops W a0 n al S (listed.setIfInBounds i true) (a.put o.dst v) w:=by
 obtain ⟨d,hd,hdl,hdu⟩:=dst_spec hdst hM i hin
 have hod:o.dst=some d:=by unfold dstOf at hd;rw [ho] at hd;exact hd
 have hset:∀j,(listed.setIfInBounds i true).getD j false=true→j=i∨listed.getD j false=true:=fun j hj=>by
  by_cases e:i=j
  ·exact .inl e.symm
  ·rw [getD_set_ne false e] at hj;exact .inr hj
 rw [hod]
 have same:(a.put (some d) v).eval (.tmp d)=v:=by
  have h1:d<a.tmps.size:=by rw [st.size];exact hdl
  simp [Act.put,Act.eval,Array.getD,h1]
 have other:∀dj,d≠dj→(a.put (some d) v).eval (.tmp dj)=a.eval (.tmp dj):=fun dj hne=>by
  simp only [Act.put,Act.eval,Array.getD_eq_getD_getElem?]
  rw [Array.getElem?_setIfInBounds_ne hne]
 have dne:∀j dj,j<n→j≠i→dstOf ops j=some dj→d≠dj:=fun j dj hj e hdj e2=>e (hdu j hj (by rw [hdj,e2])).symm
 have hni:∀j,al j=true→j≠i:=fun j hj e=>by rw [e,hna] at hj;cases hj
 refine ⟨st.cl,st.df,by simp [Act.put,st.size],fun t ht=>?_,fun j hj hlj dj hdj=>?_,fun j hj hlj hja dj hdj=>?_,fun j k hj hk hlj hlk hja hka hjk dj dk hdj hdk=>?_⟩
 ·have hne:d≠t:=fun e=>ht i hin (by simp [hil]) (by rw [hd,e])
  show (a.tmps.setIfInBounds d v)[t]? = _
  rw [Array.getElem?_setIfInBounds_ne hne]
  exact st.frame t fun k hk hlk=>ht k hk (getD_set_true hlk)
 ·by_cases e:j=i
  ·subst e
   obtain rfl:dj=d:=Option.some.inj (hdj.symm.trans hd)
   rw [same];exact hv
  ·rw [other dj (dne j dj hj e hdj)]
   exact mono _ _ _ _ (st.vals j hj ((hset j hlj).resolve_left e) dj hdj) (Below.refl _ _)
 ·have e:=hni j hja
  rw [other dj (dne j dj hj e hdj)]
  exact st.laid j hj ((hset j hlj).resolve_left e) hja dj hdj
 ·have e:=hni j hja
  have e2:=hni k hka
  rw [other dj (dne j dj hj e hdj),other dk (dne k dk hk e2 hdk)]
  exact st.apart j k hj hk ((hset j hlj).resolve_left e) ((hset k hlk).resolve_left e2) hja hka hjk dj dk hdj hdk
def earlyB (md:Region.Mode) (ops:Array Oper) (n M:Nat):Bool :=
 decide (n+1<ops.size)&&Region.chainB md ops n&&backB md ops&&dstB ops n M&&Region.seqB md ops (ops.size - n) n (headArr n ops.size)&&(List.range n).all (fun i=>Region.waitsFor md ops (n+1) i)
def Free (P:Program) (ops:Array Oper) (md:Region.Mode) (W:World) (a0:Act) (n:Nat) (S:Nat→Value→World→Prop) (i:Nat) (o:Oper):Prop :=
 o.guard=none∧∀a w,Cl W w→Fr ops n a0 a→Dp ops md n S i a w→∃v,(execOp a.eval o).run P w=.ok (.value v) w∧∀w',S i v w'
theorem chain_waits {t:Nat} (hc:Region.chainB md ops n=true) (ht:n<t) (hts:t<ops.size):Region.waitsFor md ops t (t - 1)=true:=by
 have h:=List.all_eq_true.1 hc t (List.mem_range.2 hts)
 simp only [Bool.or_eq_true,decide_eq_true_eq] at h
 rcases h with h|h
 ·omega
 ·exact h
theorem ready_waits {listed:Array Bool} {i j:Nat} (hi:i ∈ Region.ready md ops listed) (hw:Region.waitsFor md ops i j=true):listed.getD j false=true:=by
 obtain ⟨_,o,ho,hall⟩:=mem_ready.1 hi
 obtain ⟨o',ho',e,he,hb,hon⟩:=Region.waitsFor_spec hw
 obtain rfl:o'=o:=Option.some.inj (ho'.symm.trans ho)
 rw [←hon];exact hall e he hb
theorem spec_early {Q:Exit→Act→World→Prop} {M:Nat} {l:List Oper} (hl:ops=l.toArray) (hB:earlyB md ops n M=true) (hM:M≤a0.tmps.size)
 (mono:∀i v w w',S i v w→Below w.heap.size w w'→S i v w') (hst:∀i o,i<n→ops[i]? = some o→StepOk P ops md W a0 n al S Q i o)
 (ty:TypeId) (tp tv:Tmp) (cells:Array Value) (on:Oper) (hon:ops[n]? = some on) (hop:on.op=.store ty (.tmp tp) (.tmp tv)) (hg:on.guard=none) (hd:on.dst=none)
 (ip iv:Nat) (hip:ip<n) (hiv:iv<n) (hdp:dstOf ops ip=some tp) (hdv:dstOf ops iv=some tv) (hwp:Region.waitsFor md ops n ip=true) (hwv:Region.waitsFor md ops n iv=true)
 (hSp:∀v w,S ip v w→∃b,v=.pointer (some ⟨b,0,none⟩)∧W.heap.size≤b∧w.there b 0 cells.size) (hSv:∀v w,S iv v w→v=.agg cells)
 (hi:(P.info? ty).map (·.size)=some cells.size) (h1:cells.all (·.oneCell')=true)
 (hfree:∀i o,i<n→ops[i]? = some o→Region.waitsFor md ops n i=false→al i=false∧Free P ops md W a0 n S i o)
 (hstill:∀i j,i<n→j<n→Region.waitsFor md ops n i=false→Region.waitsFor md ops i j=true→∀v w w',S j v w→S j v w')
 (hend:∀a w b,St ops W a0 n al S (headArr n ops.size) a w→a.eval (.tmp tp)=.pointer (some ⟨b,0,none⟩)→W.heap.size≤b→wpList P ops Q (l.drop (n+1)) a (w.setCells b 0 cells.toList)) :
 ∀(F:Nat) (listed:Array Bool) (a:Act) (w:World),lacking listed.toList=F →
  ((HInv md ops 0 n listed∧St ops W a0 n al S listed a w) ∨
   (∃listed0 w0 b,listed=listed0.setIfInBounds n true∧HInv md ops 0 n listed0∧St ops W a0 n al S listed0 a w0∧(∀j,Region.waitsFor md ops n j=true→listed0.getD j false=true)∧a.eval (.tmp tp)=.pointer (some ⟨b,0,none⟩)∧W.heap.size≤b∧w=w0.setCells b 0 cells.toList)) →
  wpAny P md ops Q F listed a w:=by
 simp only [earlyB,Bool.and_eq_true,decide_eq_true_eq] at hB
 obtain ⟨⟨⟨⟨⟨hn,hc⟩,hback⟩,hdst⟩,hseq⟩,hsink⟩:=hB
 have hseq2:Region.seqB md ops (ops.size - (n+1)) (n+1) (headArr (n+1) ops.size)=true:=by
  have e:ops.size - n=(ops.size - (n+1))+1:=by omega
  rw [e,Region.seqB,Bool.and_eq_true,headArr_set (by omega)] at hseq
  exact hseq.2
 have isHead:∀(k:Nat) (listed:Array Bool),listed.size=ops.size→(∀i,i<k→listed.getD i false=true)→(∀t,k≤t→t<ops.size→listed.getD t true=false)→listed=headArr k ops.size:=fun k listed hsz h1 h2=>by
  apply Array.ext
  ·simp [headArr,hsz]
   by_cases h:k≤ops.size
   ·omega
   ·exfalso
    have:=h1 ops.size (by omega)
    rw [Array.getD_eq_getD_getElem?,Array.getElem?_eq_none (by omega)] at this
    cases this
  intro i h3 h4
  by_cases hik:i<k
  ·have:=h1 i hik
   have h5:(headArr k ops.size)[i]=true:=by
    simp [headArr,List.getElem_append_left,hik]
   rw [h5]
   simpa [h3] using this
  ·have:=h2 i (by omega) (by omega)
   have h5:(headArr k ops.size)[i]=false:=by
    simp only [headArr,List.getElem_toArray]
    rw [List.getElem_append_right (by simp;omega)]
    simp
   rw [h5]
   simpa [h3] using this
 have lackAt:∀(listed:Array Bool) (i:Nat),listed.getD i true=false→listed.toList[i]? = some false:=fun listed i h=>by
  rw [Array.getD_eq_getD_getElem?] at h
  rw [Array.getElem?_toList]
  cases h3:listed[i]? with
  | none=>rw [h3] at h;simp at h
  | some b=>rw [h3] at h;simp at h;rw [h]
 have lackSet:∀(listed:Array Bool) (i F:Nat),listed.getD i true=false→lacking listed.toList=F+1→lacking (listed.setIfInBounds i true).toList=F:=fun listed i F h hF=>by
  have:=lacking_set _ i (lackAt listed i h)
  have e:(listed.setIfInBounds i true).toList=listed.toList.set i true:=by simp
  rw [e];omega
 have runTail:∀(k:Nat) (a:Act) (w:World),k≤ops.size→Region.seqB md ops (ops.size - k) k (headArr k ops.size)=true→wpList P ops Q (l.drop k) a w→wpAny P md ops Q (lacking (headArr k ops.size).toList) (headArr k ops.size) a w:=fun k a w hk hs h=>by
  have hlen:(l.drop k).length=ops.size - k:=by rw [hl];simp
  have h3:=wpAny_of_seq (P:=P) (ops:=ops) (md:=md) (Q':=Q) (l.drop k) k (headArr k ops.size) a w (fun j=>by rw [hl];simp [List.getElem?_drop]) (by rw [hlen];exact hs) h
  rw [hlen] at h3
  have hg:lacking (headArr k ops.size).toList=ops.size - k:=lacking_head k _
  rw [hg];exact h3
 intro F
 induction F with
 | zero =>
   intro listed a w hF hI
   exfalso
   have hun:listed.getD (n+1) true=false:=by
    rcases hI with ⟨inv,_⟩|⟨l0,_,_,rfl,inv,_⟩
    ·exact inv.inv.tail (n+1) (by omega) hn
    ·rw [getD_set_ne true (by omega)]
     exact inv.inv.tail (n+1) (by omega) hn
   have:=lacking_set _ (n+1) (lackAt listed _ hun)
   omega
 | succ F ih =>
   intro listed a w hF hI
   rcases hI with ⟨inv,st⟩|⟨listed0,w0,b,rfl,inv,st,hdeps,hab,hWb,rfl⟩
   ·have hsz:=inv.inv.size
    by_cases hall:∀i,i<n→listed.getD i false=true
    ·have e:=isHead n listed hsz hall (fun t h1 h2=>inv.inv.tail t h1 h2)
     subst e
     rw [←hF]
     refine runTail n a w (by omega) hseq ?_
     have hln:l.drop n=on::l.drop (n+1):=by
      have h2:l[n]? = some on:=by rw [hl] at hon;simpa using hon
      obtain ⟨h3,h4⟩:=List.getElem?_eq_some_iff.1 h2
      rw [List.drop_eq_getElem_cons h3,h4]
     rw [hln]
     obtain ⟨b,e1,e2,e3⟩:=hSp _ _ (st.vals ip hip (head_true hip) tp hdp)
     refine wpList_store_mid hg ty (.tmp tp) (.tmp tv) hop b 0 cells e1 (hSv _ _ (st.vals iv hiv (head_true hiv) tv hdv)) e3 hi h1 ?_
     rw [hd]
     exact hend a w b st e1 e2
    ·have hex:∃i,i<n∧listed.getD i false=false:=by
      refine Classical.byContradiction fun hno=>hall fun j hj=>?_
      cases h:listed.getD j false with
      | true=>rfl
      | false=>exact absurd ⟨j,hj,h⟩ hno
     obtain ⟨i0,hi0,hl0⟩:=hex
     obtain ⟨j0,_,hr0⟩:=first_ready (md:=md) hback hsz i0 (by omega) hl0
     refine ⟨fun h=>absurd hr0 (by rw [h];simp),fun i hir=>?_⟩
     obtain ⟨hun,o,ho,hafter⟩:=mem_ready.1 hir
     have hil:i<listed.size:=by
      have:=(Array.getElem?_eq_some_iff.1 ho).1
      omega
     by_cases hin:i<n
     ·exact St.step hdst hM mono (hst i o hin ho) st hin ho hil (fun j hw=>ready_waits hir hw) _ (fun a' w' st'=>ih _ _ _ (lackSet _ _ _ hun hF) (.inl ⟨inv.set hir hin,st'⟩))
     ·by_cases e:i=n
      ·subst e
       have l1:=ready_waits hir hwp
       have l2:=ready_waits hir hwv
       obtain ⟨b,e1,e2,e3⟩:=hSp _ _ (st.vals ip hip l1 tp hdp)
       refine op_store hon hg ty _ _ hop b cells e1 (hSv _ _ (st.vals iv hiv l2 tv hdv)) e3 hi h1 ?_
       rw [hd]
       exact ih _ _ _ (lackSet _ _ _ hun hF) (.inr ⟨listed,w,b,rfl,inv,st,fun j hw=>ready_waits hir hw,e1,e2,rfl⟩)
      ·exfalso
       have h2:=ready_waits hir (chain_waits hc (by omega) (by omega))
       have h3:=inv.inv.tail (i - 1) (by omega) (by omega)
       rw [getD_both h3] at h2;cases h2
   ·have hsz:=inv.inv.size
    have hnot:∀j,j≠n→∀d,(listed0.setIfInBounds n true).getD j d=listed0.getD j d:=fun j hj d=>getD_set_ne d (Ne.symm hj)
    by_cases hall:∀i,i<n→listed0.getD i false=true
    ·have e:=isHead n listed0 hsz hall (fun t h1 h2=>inv.inv.tail t h1 h2)
     subst e
     rw [headArr_set (by omega)] at hF ⊢
     rw [←hF]
     exact runTail (n+1) a _ (by omega) hseq2 (hend a w0 b st hab hWb)
    ·have hex:∃i,i<n∧listed0.getD i false=false:=by
      refine Classical.byContradiction fun hno=>hall fun j hj=>?_
      cases h:listed0.getD j false with
      | true=>rfl
      | false=>exact absurd ⟨j,hj,h⟩ hno
     obtain ⟨i0,hi0,hl0⟩:=hex
     obtain ⟨j0,_,hr0⟩:=first_ready (md:=md) (listed:=listed0.setIfInBounds n true) hback (by simp [hsz]) i0 (by omega) (by rw [hnot i0 (by omega)];exact hl0)
     refine ⟨fun h=>absurd hr0 (by rw [h];simp),fun i hir=>?_⟩
     obtain ⟨hun,o,ho,hafter⟩:=mem_ready.1 hir
     have his:i<ops.size:=(Array.getElem?_eq_some_iff.1 ho).1
     have hine:i≠n:=fun e=>by
      subst e
      rw [Array.getD_eq_getD_getElem?,Array.getElem?_setIfInBounds_self_of_lt (by omega)] at hun
      cases hun
     have hun0:listed0.getD i true=false:=by rw [←hnot i hine true];exact hun
     by_cases hin:i<n
     ·have hfr:Region.waitsFor md ops n i=false:=by
       cases h:Region.waitsFor md ops n i with
       | false=>rfl
       | true=>have:=hdeps i h;rw [getD_both hun0] at this;cases this
      obtain ⟨hna,hgd,hrun⟩:=hfree i o hin ho hfr
      have hwait:∀j,Region.waitsFor md ops i j=true→listed0.getD j false=true:=fun j hw=>by
       have h2:=ready_waits hir hw
       have h3:j≠n:=fun e=>by
        obtain ⟨o',ho',e',he',hb',hon'⟩:=Region.waitsFor_spec hw
        have h4:=List.all_eq_true.1 hback i (List.mem_range.2 his)
        rw [ho'] at h4
        have h5:=Array.all_eq_true_iff_forall_mem.1 h4 e' he'
        rw [hb'] at h5
        simp at h5
        omega
       rw [hnot j h3] at h2;exact h2
      obtain ⟨v,hv1,hv2⟩:=hrun a (w0.setCells b 0 cells.toList) (Below.setCells st.cl hWb 0 _) (fun t ht=>st.frame t (fun j hj _=>ht j hj)) (fun j dj hj hw hdj=>hstill i j hin hj hfr hw _ w0 _ (st.vals j hj (hwait j hw) dj hdj))
      have st2:=St.next hdst hM mono st hin ho (by omega) v (hv2 w0) hna
      refine op_val ho hgd hv1 ?_
      have ecomm:(listed0.setIfInBounds n true).setIfInBounds i true=(listed0.setIfInBounds i true).setIfInBounds n true:=Array.setIfInBounds_comm _ _ (Ne.symm hine)
      have hir0:i ∈ Region.ready md ops listed0:=mem_ready.2 ⟨hun0,o,ho,fun e he hb=>hwait e.on (waits_of ho he hb)⟩
      obtain ⟨d,hdi,hdl,hdu⟩:=dst_spec hdst hM i hin
      have hod:o.dst=some d:=by unfold dstOf at hdi;rw [ho] at hdi;exact hdi
      refine ih _ _ _ (lackSet _ _ _ hun hF) (.inr ⟨listed0.setIfInBounds i true,w0,b,ecomm,inv.set hir0 hin,st2,fun j hw=>getD_set_true (hdeps j hw),?_,hWb,rfl⟩)
      have hne:d≠tp:=fun e=>by
       have:=hdu ip hip (by rw [hdp,e])
       rw [this,hwp] at hfr;cases hfr
      rw [hod,←hab]
      simp only [Act.put,Act.eval,Array.getD_eq_getD_getElem?]
      rw [Array.getElem?_setIfInBounds_ne hne]
     ·exfalso
      by_cases e2:i=n+1
      ·subst e2
       have h4:=List.all_eq_true.1 hsink i0 (List.mem_range.2 hi0)
       have h2:=ready_waits hir h4
       rw [hnot i0 (by omega),hl0] at h2;cases h2
      ·have h2:=ready_waits hir (chain_waits hc (by omega) his)
       have h3:=inv.inv.tail (i - 1) (by omega) (by omega)
       rw [hnot (i - 1) (by omega),getD_both h3] at h2;cases h2
theorem region_early {id:Nat} {Q:Exit→Act→World→Prop} {l:List Oper} (n M:Nat) (al:Nat→Bool) (Ss:List (Value→World→Prop)) (ds:List Tmp) (hds:dstsOf l.toArray n=ds) (hm:P.follows .mixedOrders=true) (hB:earlyB .any l.toArray n M=true) (hM:M≤a0.tmps.size)
 (mono:∀S ∈ Ss,Grows S) (hst:Steps P l.toArray .any W a0 n al (sAt Ss) Q n 0 l)
 (ty:TypeId) (tp tv:Tmp) (cells:Array Value) (on:Oper) (hon:l.toArray[n]? = some on) (hop:on.op=.store ty (.tmp tp) (.tmp tv)) (hg:on.guard=none) (hd:on.dst=none)
 (ip iv:Nat) (hip:ip<n) (hiv:iv<n) (hdp:dstOf l.toArray ip=some tp) (hdv:dstOf l.toArray iv=some tv) (hwp:Region.waitsFor .any l.toArray n ip=true) (hwv:Region.waitsFor .any l.toArray n iv=true)
 (hSp:∀v w,sAt Ss ip v w→∃b,v=.pointer (some ⟨b,0,none⟩)∧W.heap.size≤b∧w.there b 0 cells.size) (hSv:∀v w,sAt Ss iv v w→v=.agg cells)
 (hi:(P.info? ty).map (·.size)=some cells.size) (h1:cells.all (·.oneCell')=true)
 (hfree:∀i o,i<n→l.toArray[i]? = some o→Region.waitsFor .any l.toArray n i=false→al i=false∧Free P l.toArray .any W a0 n (sAt Ss) i o)
 (hstill:∀i j,i<n→j<n→Region.waitsFor .any l.toArray n i=false→Region.waitsFor .any l.toArray i j=true→∀v w w',sAt Ss j v w→sAt Ss j v w')
 (hend:∀(val:Tmp→Value) w b,Cl W w→(∀i d,i<n→dstOf l.toArray i=some d→sAt Ss i (val d) w) →
   (∀i j d d',i<n→j<n→al i=true→al j=true→i≠j→dstOf l.toArray i=some d→dstOf l.toArray j=some d'→home (val d)≠home (val d')) →
   (∀i d,i<n→al i=true→dstOf l.toArray i=some d→∃b,home (val d)=some b∧W.heap.size≤b∧b<w.heap.size) →
   val tp=.pointer (some ⟨b,0,none⟩)→wpList P l.toArray Q (l.drop (n+1)) (putVals ds val a0) (w.setCells b 0 cells.toList)):(Code.region id l.toArray true).wp P Q a0 W:=by
 refine wp_region_any hm ?_
 have hrep:∀i,(Array.replicate l.toArray.size false).getD i false=false:=fun i=>getD_replicate_false _ _
 refine spec_early (a0:=a0) (al:=al) (S:=sAt Ss) (l:=l) rfl hB hM (fun i v w w' h1 h2=>grows_at mono i v w w' h1 h2) (fun i o hi ho=>?_) ty tp tv cells on hon hop hg hd ip iv hip hiv hdp hdv hwp hwv hSp hSv hi h1 hfree hstill (fun a w b st e1 _=>?_) _ _ _ _ ?_ (.inl ⟨?_,?_⟩)
 ·have:=Steps.at_ n 0 l hst i o hi (by simpa using ho)
  rwa [Nat.zero_add] at this
 ·rw [st.act,hds]
  have hl:∀i,i<n→(headArr n l.toArray.size).getD i false=true:=fun i hi=>head_true hi
  exact hend (fun d=>a.eval (.tmp d)) w b st.cl (fun i d hi hd=>st.at_ i d hi hd) (fun i j d d' hi hj hai haj hij hd hd'=>st.apart i j hi hj (hl i hi) (hl j hj) hai haj hij d d' hd hd') (fun i d hi hai hd=>st.laid i hi (hl i hi) hai d hd) e1
 ·have:=lacking_new l.toArray.size
  simpa using this
 ·refine ⟨⟨by simp,fun j oj _ hl _ _ _=>?_,fun t _ hts=>?_⟩,fun i hi=>by omega⟩
  ·rw [hrep] at hl;cases hl
  ·exact getD_in (by simpa using hts) (hrep t)
 ·refine ⟨Cl.drew W,rfl,rfl,fun _ _=>rfl,fun i _ h=>?_,fun i _ h=>?_,fun i j _ _ h=>?_⟩ <;> (rw [hrep] at h;cases h)
end
section
variable {ops:Array Oper} {md:Region.Mode} {W:World} {a0:Act} {n:Nat} {S:Nat→Value→World→Prop} {i:Nat} {o:Oper} {b:Nat} {l:List Int}
theorem free_el (hg:o.guard=none) (h:Bx W b l) (t:Tmp) (ho:o.op=.load 70 (.tmp t)) (hB:notDst ops n t=true) (hx:a0.eval (.tmp t)=.pointer (some ⟨b,0,none⟩)) (hS:S i=Is (.agg (ints .i64 l).toArray)):Free Tryz.prog ops md W a0 n S i o :=
 ⟨hg,fun _ _ hw hf _=>⟨_,ex_load 70 (.tmp t) ho b 0 ((eval_out hf t hB).trans hx) (ints .i64 l) _ (h.next hw).range Tryz.underlying70 rfl (l26 h.2),fun _=>by rw [hS];exact rfl⟩⟩
theorem free_make (hg:o.guard=none) {x y:Operand} {u v:List Int} (ho:o.op=.build 74 #[(0,x),(1,y)]) (hu:u.length=16) (hv:v.length=16) (hS:S i=Is (.agg (ints .i64 (u++v)).toArray)) (hx:Knows ops md W a0 n S i x (.agg (ints .i64 u).toArray)) (hy:Knows ops md W a0 n S i y (.agg (ints .i64 v).toArray)):Free Tryz.prog ops md W a0 n S i o :=
 ⟨hg,fun a w hw hf hd=>⟨.agg (ints .i64 (u++v)).toArray,by
   have h1:=hx a w hw hf hd
   have h2:=hy a w hw hf hd
   revert h1 h2
   generalize a.eval=ev
   intro h1 h2
   have h:=run_build (P:=Tryz.prog) w 74 #[(0,ev x),(1,ev y)] _ (by rw [h1,h2];exact built45 hu hv)
   unfold execOp
   simp only [ho,Sem.run_bind]
   simp only [List.map_toArray,List.map_cons,List.map_nil,h,Result.andThen_ok,Sem.run_pure],fun _=>by rw [hS];exact rfl⟩⟩
end
structure L4 where
 a:Nat
 b:Nat
 c:Nat
 d:Nat
def lstep (u:Nat) (st:Bool) (S:L4):L4:=match st with
 | true=>⟨sX S.a S.b S.c S.d,sZ u S.a S.b S.c S.d,dX S.c S.d,dZ S.c S.d⟩
 | false=>⟨dX S.a S.b,dZ S.a S.b,sX S.a S.b S.c S.d,sZ u S.a S.b S.c S.d⟩
def bitB (b:List Int) (i:Nat):Bool:=bitAt b i==1
def ladN (u:Nat) (b:List Int):Nat→L4
 | 0=>⟨1,0,u,1⟩
 | k+1=>lstep u (bitB b (254 - k)) (ladN u b k)
def outN (S:L4):Nat:=S.a*(S.b^(NT.PN - 2)%NT.PN)%NT.PN
def mulN (b:List Int) (u:Nat):Nat:=outN (ladN u (clampL b) 255)
def uOf (p:List Int):Nat:=(ev (ofL p)%P).toNat
theorem uOf_nm {p:List Int} (hp:Byt p):Nm (ofL p) (uOf p):=Nm.of (ofL_el hp)
theorem nA_comm (a b:Nat):nA a b=nA b a:=by unfold nA;rw [Nat.add_comm]
theorem nM_comm (a b:Nat):nM a b=nM b a:=by unfold nM;rw [Nat.mul_comm]
theorem sU_swap (a b c d:Nat):sU c d a b=sV a b c d:=by unfold sU sV;rw [nM_comm]
theorem sV_swap (a b c d:Nat):sV c d a b=sU a b c d:=by unfold sU sV;rw [nM_comm]
theorem sX_swap (a b c d:Nat):sX c d a b=sX a b c d:=by
 have h1:=sU_swap a b c d
 have h2:=sV_swap a b c d
 unfold sX;rw [h1,h2,nA_comm]
theorem nM_lt (a b:Nat):nM a b<NT.PN:=Nat.mod_lt _ (by decide)
theorem sU_lt (a b c d:Nat):sU a b c d<NT.PN:=nM_lt _ _
theorem sV_lt (a b c d:Nat):sV a b c d<NT.PN:=nM_lt _ _
theorem nS_int {a b:Nat} (hb:b<NT.PN):((nS a b:Nat):Int)=((a:Int) - b)%P:=sub_int a b hb
theorem sq_swap {a b:Nat} (ha:a<NT.PN) (hb:b<NT.PN):nM (nS a b) (nS a b)=nM (nS b a) (nS b a):=by
 have h:((nM (nS a b) (nS a b):Nat):Int)=((nM (nS b a) (nS b a):Nat):Int):=by
  unfold nM
  rw [Int.natCast_emod,Int.natCast_emod,pn_int,Int.natCast_mul,Int.natCast_mul,nS_int hb,nS_int ha,←Int.mul_emod,←Int.mul_emod]
  congr 1
  have:(b:Int) - a = -((a:Int) - b):=by omega
  rw [this,Int.neg_mul_neg]
 exact Int.ofNat_inj.1 h
theorem sZ_swap (u a b c d:Nat):sZ u c d a b=sZ u a b c d:=by
 have h1:=sU_swap a b c d
 have h2:=sV_swap a b c d
 unfold sZ
 rw [h1,h2,sq_swap (sV_lt _ _ _ _) (sU_lt _ _ _ _)]
def At (S:L4) (sw:Bool) (lx lz hx hz:List Int):Prop:=match sw with
 | true=>Nm lx S.c∧Nm lz S.d∧Nm hx S.a∧Nm hz S.b
 | false=>Nm lx S.a∧Nm lz S.b∧Nm hx S.c∧Nm hz S.d
theorem At.nm {S:L4} {sw:Bool} {lx lz hx hz:List Int} (h:At S sw lx lz hx hz):∃a b c d,Nm lx a∧Nm lz b∧Nm hx c∧Nm hz d:=by
 cases sw with
 | true=>exact ⟨_,_,_,_,h.1,h.2.1,h.2.2.1,h.2.2.2⟩
 | false=>exact ⟨_,_,_,_,h.1,h.2.1,h.2.2.1,h.2.2.2⟩
theorem At.turn {S:L4} {sw:Bool} {lx lz hx hz:List Int} (h:At S sw lx lz hx hz) (st:Bool):At S st (if (st != sw) then hx else lx) (if (st != sw) then hz else lz) (if (st != sw) then lx else hx) (if (st != sw) then lz else hz):=by
 cases sw <;> cases st <;> first|exact h|exact ⟨h.2.2.1,h.2.2.2,h.1,h.2.1⟩
theorem step_at {S:L4} {st:Bool} {px pz qx qz uu:List Int} {u:Nat} (h:At S st px pz qx qz) (hu:Nm uu u):∃dx dz sx sz,CallsTo 50 #[.agg (ints .i64 (px++pz)).toArray,.agg (ints .i64 (qx++qz)).toArray,.agg (ints .i64 uu).toArray] (.tuple #[.agg (ints .i64 (dx++dz)).toArray,.agg (ints .i64 (sx++sz)).toArray])∧At (lstep u st S) st dx dz sx sz:=by
 cases st with
 | true =>
   obtain ⟨dx,dz,sx,sz,h1,h2,h3,h4,h5⟩:=c_step h.1 h.2.1 h.2.2.1 h.2.2.2 hu
   rw [sX_swap] at h4
   rw [sZ_swap] at h5
   exact ⟨dx,dz,sx,sz,h1,h2,h3,h4,h5⟩
 | false =>
   obtain ⟨dx,dz,sx,sz,h1,h2,h3,h4,h5⟩:=c_step h.1 h.2.1 h.2.2.1 h.2.2.2 hu
   exact ⟨dx,dz,sx,sz,h1,h2,h3,h4,h5⟩
theorem round_calls {S:L4} {sw:Bool} {lx lz hx hz uu:List Int} {u:Nat} (h:At S sw lx lz hx hz) (hu:Nm uu u) (st:Bool):∃P Q D E:List Int,CallsTo 49 #[.agg (ints .i64 (lx++lz)).toArray,.agg (ints .i64 (hx++hz)).toArray,.bool (st != sw)] (.tuple #[.agg (ints .i64 P).toArray,.agg (ints .i64 Q).toArray])∧CallsTo 50 #[.agg (ints .i64 P).toArray,.agg (ints .i64 Q).toArray,.agg (ints .i64 uu).toArray] (.tuple #[.agg (ints .i64 D).toArray,.agg (ints .i64 E).toArray])∧P.length=32∧Q.length=32∧D.length=32∧E.length=32∧∃dx dz sx sz,D=dx++dz∧E=sx++sz∧At (lstep u st S) st dx dz sx sz:=by
 obtain ⟨_,_,_,_,n1,n2,n3,n4⟩:=h.nm
 have h2:=h.turn st
 obtain ⟨_,_,_,_,m1,m2,m3,m4⟩:=h2.nm
 obtain ⟨dx,dz,sx,sz,k,h3⟩:=step_at h2 hu
 obtain ⟨_,_,_,_,o1,o2,o3,o4⟩:=h3.nm
 exact ⟨_,_,dx++dz,sx++sz,c_swapR n1.1 n2.1 n3.1 n4.1 _,k,len32 m1.1.len m2.1.len,len32 m3.1.len m4.1.len,len32 o1.1.len o2.1.len,len32 o3.1.len o4.1.len,dx,dz,sx,sz,rfl,rfl,h3⟩
theorem last_calls {S:L4} {sw:Bool} {lx lz hx hz:List Int} (h:At S sw lx lz hx hz):∃x z Q:List Int,CallsTo 49 #[.agg (ints .i64 (lx++lz)).toArray,.agg (ints .i64 (hx++hz)).toArray,.bool sw] (.tuple #[.agg (ints .i64 (x++z)).toArray,.agg (ints .i64 Q).toArray])∧Nm x S.a∧Nm z S.b:=by
 obtain ⟨_,_,_,_,n1,n2,n3,n4⟩:=h.nm
 have k:=c_swapR n1.1 n2.1 n3.1 n4.1 sw
 cases sw with
 | true=>exact ⟨_,_,_,k,h.2.2.1,h.2.2.2⟩
 | false=>exact ⟨_,_,_,k,h.1,h.2.1⟩
def Pts (S:L4) (sw:Bool) (L H:List Int):Prop:=∃lx lz hx hz:List Int,L=lx++lz∧H=hx++hz∧At S sw lx lz hx hz
theorem round2 {S:L4} {sw:Bool} {L H uu:List Int} {u:Nat} (h:Hid (Pts S sw L H)) (hu:Hid (Nm uu u)) (st:Bool):∃P Q D E:List Int,CallsTo 49 #[.agg (ints .i64 L).toArray,.agg (ints .i64 H).toArray,.bool (st != sw)] (.tuple #[.agg (ints .i64 P).toArray,.agg (ints .i64 Q).toArray])∧CallsTo 50 #[.agg (ints .i64 P).toArray,.agg (ints .i64 Q).toArray,.agg (ints .i64 uu).toArray] (.tuple #[.agg (ints .i64 D).toArray,.agg (ints .i64 E).toArray])∧Hid (P.length=32)∧Hid (Q.length=32)∧Hid (D.length=32)∧Hid (E.length=32)∧Hid (Pts (lstep u st S) st D E):=by
 obtain ⟨lx,lz,hx,hz,rfl,rfl,hA⟩:=h.out
 obtain ⟨P,Q,D,E,k1,k2,l1,l2,l3,l4,dx,dz,sx,sz,e1,e2,h3⟩:=round_calls hA hu.out st
 exact ⟨P,Q,D,E,k1,k2,hid l1,hid l2,hid l3,hid l4,hid ⟨dx,dz,sx,sz,e1,e2,h3⟩⟩
theorem last2 {S:L4} {sw:Bool} {L H:List Int} (h:Hid (Pts S sw L H)):∃x z Q:List Int,CallsTo 49 #[.agg (ints .i64 L).toArray,.agg (ints .i64 H).toArray,.bool sw] (.tuple #[.agg (ints .i64 (x++z)).toArray,.agg (ints .i64 Q).toArray])∧Hid (Nm x S.a)∧Hid (Nm z S.b):=by
 obtain ⟨lx,lz,hx,hz,rfl,rfl,hA⟩:=h.out
 obtain ⟨x,z,Q,k,h1,h2⟩:=last_calls hA
 exact ⟨x,z,Q,k,hid h1,hid h2⟩
end Go.Proofs.YtkblmdakejmmhaaGreatDoor
