import Derived.Test.YtkblmdakejmmhaaGreatDoorG33
namespace Go.Proofs.YtkblmdakejmmhaaGreatDoor
open Go Go.RowKit
section
set_option maxRecDepth 50000
theorem alen25:Tryz.prog.arrayLen 120=17:=by kernel_rfl
theorem slice25 (b fl:Nat) (h:fl<16) (W:World):(Instr.sliceAt 120 (.pointer (some ⟨b,34,none⟩)) (some (.int .i64 (fl:Int))) (some (.int .i64 16)) none).run Tryz.prog W=.ok (.slice (some ⟨b,34+fl,none⟩) (16 - fl) (17 - fl)) W:=by
 rw [run_sliceAt_array_lh W 120 ⟨b,34,none⟩ ua25 .i64 .i64 (fl:Int) 16 (by omega) (by omega) (by rw [alen25];omega),ze25,alen25]
 have e2:¬(17=fl):=by omega
 simp [Result.andThen,slicedAt,Addr.add_mid,e2]
set_option maxHeartbeats 2000000 in
theorem take_anyZ (b:Nat) (A:Option Addr) (c:Nat) (t m p:List Int) (w:World) (hh:AbsZ w b t m) (hA:Nums w .u8 A p) (hne:0<p.length→∀g o s,A=some ⟨g,o,s⟩→g≠b) (hpc:p.length≤c) (hp:p.length≤100000) (hby:Byt p) :
 Calls Tryz.prog 90 #[.pointer (some ⟨b,0,none⟩),.slice A p.length c] w fun e w'=>e=.returned (.tuple #[])∧AbsZ w' b t (m++p)∧Only b w w':=by
 go_enter Tryz.func90,Tryz.ntmps90
 go_wp2
 go_loopw [1] (fun v wr=>∃(k:Nat) (B:Option Addr) (d:Nat) (r:List Int),k≤p.length∧v=.slice B r.length d∧Hid (r=p.drop k)∧r.length≤d∧Nums wr .u8 B r∧(0<r.length→∀g o s,B=some ⟨g,o,s⟩→g≠b)∧AbsZ wr b t (m++p.take k)∧Only b w wr) (fun v _=>match v with | .slice _ n _=>n|_=>0)
 case atStart=>exact ⟨0,A,c,p,by omega,rfl,hid rfl,hpc,hA,hne,by simpa using hh,Only.refl _ _⟩
 case round =>
  obtain ⟨k,B,d,r,hk,rfl,HR,hrd,hN,hnB,hH0,hO⟩:=hrel
  have hrl:r.length=p.length - k:=by rw [HR.out];simp
  have hrle:r.length≤100000:=by omega
  have HRL:=hid hrl
  clear hrl
  have hrby:Byt r:=by rw [HR.out];exact hby.drop k
  by_cases hlt:0<r.length
  ·obtain ⟨g,off,rfl,hgb,hgl,hc⟩:=not_at hN hlt (hnB hlt)
   obtain ⟨mk,hmk⟩:∃mk,mk=m++p.take k:=⟨_,rfl⟩
   rw [←hmk] at hH0
   obtain ⟨fl,hfl⟩:∃fl,fl=mk.length%16:=⟨_,rfl⟩
   have hf1:fl<16:=by omega
   obtain ⟨n,hn⟩:∃n,n=min r.length (16 - fl):=⟨_,rfl⟩
   have hn0:0<n:=by omega
   have hnr:n≤r.length:=by omega
   have hnf:n≤16 - fl:=by omega
   have hH:Tgr wr b (pb (accN (bn t) mk (mk.length / 16))) t (padBZ (tailB mk)) fl:=by rw [hfl];exact hH0
   have HTL:=hid (tailB_length mk)
   rw [←hfl] at HTL
   obtain ⟨A',hsl,hN',hg'⟩:=nums_from hN 23 5 Tryz.underlying23 (by kernel_rfl) d n hnr hlt hrd
   have fc:=hH.fc
   have fz:=hH.fz
   obtain ⟨x,hx⟩:∃x,x=r.take n:=⟨_,rfl⟩
   have hxl:x.length=n:=by rw [hx];simp;omega
   have hxb:Byt x:=by rw [hx];exact hrby.take n
   have hsl2:=fun W=>slice25 b fl hf1 W
   have hcp:(Builtin.copy_ #[23,23] 3 #[.slice (some ⟨b,34+fl,none⟩) (16 - fl) (17 - fl),.slice (some ⟨g,off,none⟩) r.length d]).run Tryz.prog wr.drew=.ok (.int .i64 n) (wr.drew.setCells b (34+fl) (ints .u8 x)):=by
    have h:=run_copy_cells (P:=Tryz.prog) wr.drew 23 23 3 5 b (34+fl) (16 - fl) (17 - fl) ⟨g,off,none⟩ r.length d (ints .u8 x) Tryz.underlying23 (by kernel_rfl) (by rw [ints_length,hxl,hn]) ?_ ?_ ?_ (ints_one _ _)
    ·rw [ints_length,hxl] at h;exact h
    ·intro j v hv
     simp only [ints,List.getElem?_map,Option.map_eq_some_iff] at hv
     obtain ⟨y,hy,rfl⟩:=hv
     have hj:=(List.getElem?_eq_some_iff.1 hy).1
     have:=hc j (by omega)
     rw [Addr.add_mid]
     show wr.cell? _=_
     rw [this]
     rw [hx,List.getElem?_take] at hy
     split at hy
     ·simp [List.getD,hy]
     ·cases hy
    ·intro j hj
     have:=(hH.bk.there (fl+j) (by rw [hH.bl];rw [ints_length] at hj;omega)).1
     rw [←Nat.add_assoc] at this;exact this
    ·intro j hj
     have:=(hH.bk.there (fl+j) (by rw [hH.bl];rw [ints_length] at hj;omega)).2
     rw [←Nat.add_assoc] at this;exact this
   have f0:(0:Int)≤fl:=by omega
   have f1:(fl:Int)≤16:=by omega
   have n1:(n:Int)≤16:=by omega
   have hlay:=hH.drew.lay (j:=fl) (x:=x) (by omega) hxb
   have hov:over (padBZ (tailB mk)) fl x=padBZ (tailB mk++x):=by
    have:=padB_over (a:=tailB mk) (x:=x) (by rw [HTL.out];omega)
    rwa [HTL.out] at this
   rw [hov] at hlay
   have HN:=hid hn
   have HX:=hid hx
   have HXL:=hid hxl
   have HFL:=hid hfl
   have HMK:=hid hmk
   clear hn hx hxl hfl hmk hov hH0
   go_wp2
   go_still_tail 9,(by kernel_rfl)
   change wpList _ _ _ _ _ wr.drew
   have hO1:Only b w (wr.drew.setCells b (34+fl) (ints .u8 x)):=hO.drew.setCells (.inl rfl) _ _
   have hO2:Only b wr (wr.drew.setCells b (34+fl) (ints .u8 x)):=(Only.refl b wr).drew.setCells (.inl rfl) _ _
   have hfc1:=hlay.fc
   have hfz1:=hlay.fz
   clear fc fz hH
   generalize wr.drew.setCells b (34+fl) (ints .u8 x)=wc at *
   have s1:IntKind.i64.wrap ((fl:Int)+n)=(fl:Int)+n:=IntWalk.i64_in _ (by omega)
   have HPX:Hid (m++p.take (k+n)=mk++x):=hid (by rw [HMK.out,List.append_assoc,HX.out,HR.out,←List.take_add])
   have hkn:k+n≤p.length:=by have:=HRL.out;omega
   have hdrop:Hid (r.drop n=p.drop (k+n)):=by show _=_;rw [HR.out,List.drop_drop]
   have HDL:Hid (r.length - n=(r.drop n).length):=hid (by simp)
   have hneA:∀g' o s,A'=some ⟨g',o,s⟩→g'≠b:=fun g' o s e=>by
    obtain ⟨o',e2⟩:=hg' g off none rfl
    rw [e2] at e;injection e with e;injection e with e1;omega
   by_cases hfull:fl+n=16
   ·have hf16:(fl:Int)+n=16:=by omega
    obtain ⟨q1,q2,q3⟩:=more_fullZ (r:=bn t) (m:=mk) (x:=x) (by rw [←HFL.out,HXL.out];exact hfull)
    have Q1:=hid q1
    have Q2:=hid q2
    have Q3:=hid q3
    have hH1:=hlay.fill 16
    have HTX:Hid ((tailB mk++x).length=16):=hid (by rw [List.length_append,HTL.out,HXL.out];exact hfull)
    clear q1 q2 q3 hfull hlay
    go_wp2_with (go_at_call 91;refine (pmix_any b (accN (bn t) mk (mk.length / 16)) t (tailB mk++x) 16 _ (accN_lt _ _ _) HTX.out (by omega) hH1).mono ?_;rintro e w3 ⟨rfl,hH3,hO3⟩)
    go_roundw
    case rel =>
     have hfin:Only b wc w3:=((Only.refl b wc).setCell (.inl rfl) _).trans hO3
     refine ⟨k+n,A',d - n,r.drop n,hkn,by rw [HDL.out],hdrop,by rw [←HDL.out];omega,(hN'.only hO2 hneA).only hfin hneA,fun _=>hneA,?_,hO1.trans hfin⟩
     unfold AbsZ
     rw [HPX.out,Q1.out,Q2.out,Q3.out]
     exact hH3
    case measure=>show r.length - n<r.length;omega
   ·have hf16:((fl:Int)+n==16)=false:=by simp;omega
    obtain ⟨q1,q2,q3⟩:=more_partZ (r:=bn t) (m:=mk) (x:=x) (by rw [←HFL.out,HXL.out];omega)
    rw [←HFL.out,HXL.out] at q3
    have Q1:=hid q1
    have Q2:=hid q2
    have Q3:=hid q3
    have hH1:=hlay.fill (fl+n)
    clear q1 q2 q3 hfull hlay
    go_wp2
    go_roundw
    case rel =>
     have hfin:Only b wc (wc.setCell ⟨b,51,none⟩ (.int .i64 ((fl:Int)+n))):=(Only.refl b wc).setCell (.inl rfl) _
     refine ⟨k+n,A',d - n,r.drop n,hkn,by rw [HDL.out],hdrop,by rw [←HDL.out];omega,(hN'.only hO2 hneA).only hfin hneA,fun _=>hneA,?_,hO1.trans hfin⟩
     unfold AbsZ
     rw [HPX.out,Q1.out,Q2.out,Q3.out]
     exact hH1
    case measure=>show r.length - n<r.length;omega
  ·have hr0:r.length=0:=by omega
   have hk2:p.take k=p:=List.take_of_length_le (by have:=HRL.out;omega)
   have HK2:=hid hk2
   clear hk2 hr0
   go_wp2
   go_end0
   rw [HK2.out] at hH0
   exact ⟨rfl,hH0,hO⟩
def PartOkZ (w:World) (q:Option Addr × Nat × List Int):Prop:=Nums w .u8 q.1 q.2.2∧q.2.2.length≤q.2.1∧q.2.2.length≤1000∧Byt q.2.2
def TZ:Array Value:=(ints .u8 (zeros 51)++[Value.int .i64 0]).toArray
theorem inf56:(Tryz.prog.info? 122).map (fun i=>(i.zero,i.size))=some (some (.agg TZ),52):=by kernel_rfl
theorem tz_at {j:Nat} (h:j<51):TZ[j]? = some (.int .u8 0):=by
 unfold TZ
 rw [List.getElem?_toArray,List.getElem?_append_left (by rw [il (zeros_len 51)];exact h)]
 simp only [ints,List.getElem?_map,zeros,List.getElem?_replicate,h,if_true,Option.map_some]
theorem tgr_new (w:World):Tgr (w.alloc (.cells TZ 122)) w.heap.size (zeros 17) (zeros 17) (zeros 17) 0:=by
 have key:∀o,o+17≤51→Arr (w.alloc (.cells TZ 122)) w.heap.size o .u8 (zeros 17):=fun o ho=>Arr.madeAt w .u8 (zeros 17) 122 TZ o fun i x hi=>by
  have h1:=(List.getElem?_eq_some_iff.1 hi).1
  rw [zeros_len] at h1
  have h2:=List.eq_of_mem_replicate (List.mem_of_getElem? hi)
  subst h2
  exact tz_at (by omega)
 refine ⟨key 0 (by omega),key 17 (by omega),key 34 (by omega),?_,World.frozen?_alloc_new w _ 122 51,zeros_len 17,zeros_len 17,zeros_len 17,byt_zeros 17,byt_zeros 17,byt_zeros 17⟩
 rw [World.cell?_alloc_new]
 rfl
theorem Tgr.tim {w:World} {b:Nat} {s t blk:List Int} {fl:Nat} (h:Tgr w b s t blk fl) {x:List Int} (hl:x.length≤17) (hb:Byt x):Tgr (w.setCells b 17 (ints .u8 x)) b s (over t 0 x) blk fl:=by
 have hn:(ints .u8 x).length=x.length:=ints_length _ _
 have hov:(over t 0 x).length=17:=by rw [over_length (by rw [h.tl];omega),h.tl]
 have ht:=h.ti.over (j:=0) (ys:=x) (by rw [h.tl];omega)
 rw [Nat.add_zero] at ht
 refine ⟨h.su.past _ (.inr (.inr (by rw [h.sl];omega))),ht,h.bk.past _ (.inr (.inl (by rw [hn];omega))),?_,by rw [World.frozen?_setCells];exact h.fz,h.sl,hov,h.bl,h.sb,fun y hy=>?_,h.bb⟩
 ·rw [World.cell?_setCells_out _ _ _ _ _ (fun _ _=>.inr (by rw [hn];show 17+x.length≤51;omega))]
  exact h.fc
 ·simp only [over,List.mem_append] at hy
  rcases hy with (hy|hy)|hy
  ·exact h.tb y (List.mem_of_mem_take hy)
  ·exact hb y hy
  ·exact h.tb y (List.mem_of_mem_drop hy)
theorem pb_zero:pb 0=zeros 17:=by decide +kernel
theorem abs_newZ {w:World} {b:Nat} {t:List Int} (h:Tgr w b (zeros 17) t (zeros 17) 0):AbsZ w b t []:=by
 have e:pb (accN (bn t) [] (([]:List Int).length / 16))=zeros 17:=pb_zero
 have e2:padBZ (tailB [])=zeros 17:=by simp [tailB,padBZ]
 unfold AbsZ
 rw [e,e2]
 exact h
set_option maxHeartbeats 4000000 in
theorem tag_core (k1 k2 c t r:List Int) (S:Nat) (PA:Option Addr) (pc:Nat) (ps:List (Option Addr × Nat × List Int)) (w:World) (H1:Hid (k1.length=16)) (H2:Hid (k2.length=16)) (HB1:Hid (Byt k1)) (HB2:Hid (Byt k2)) (HKL:Hid ((k1++k2).length=32)) (HKB:Hid (Byt (k1++k2)))
 (HC:Hid (c.length=16)) (HCB:Hid (Byt c)) (KC:Hid (CallsTo 89 #[.agg (ints .u8 k1).toArray] (.agg (ints .u8 c).toArray))) (HT:Hid (over (zeros 17) 0 c=t)) (HS:Hid (sumN (bn t) (flat ps)=S)) (KL:Hid (CallsTo 92 #[.agg (ints .u8 (pb S)).toArray,.agg (ints .u8 k2).toArray] (.agg (ints .u8 r).toArray))) (HRL:Hid (r.length=16))
 (hP:Parts w PA ps) (hok:∀q ∈ ps,PartOkZ w q) (hpl:ps.length≤1000) :
 Calls Tryz.prog 60 #[.agg (ints .u8 (k1++k2)).toArray,.slice PA ps.length pc] w fun e w'=>e=.returned (.agg (ints .u8 r).toArray)∧Below w.heap.size w w':=by
 obtain ⟨z33,s33⟩:=zero_of_info inf33
 obtain ⟨z56,s56⟩:=zero_of_info inf56
 have hK:=((Arr.made w .u8 (k1++k2) 22).alloc (.cells (ints .u8 (zeros 16)).toArray 54)).alloc (.cells TZ 122)
 have hR:=(Arr.made (w.alloc (.cells (ints .u8 (k1++k2)).toArray 22)) .u8 (zeros 16) 54).alloc (.cells TZ 122)
 have hH:=tgr_new ((w.alloc (.cells (ints .u8 (k1++k2)).toArray 22)).alloc (.cells (ints .u8 (zeros 16)).toArray 54))
 have hW:=((below_new w (.cells (ints .u8 (k1++k2)).toArray 22)).alloc (by simp) (.cells (ints .u8 (zeros 16)).toArray 54)).alloc (by simp;omega) (.cells TZ 122)
 rw [World.size_alloc] at hR
 rw [World.size_alloc,World.size_alloc] at hH
 have harr:∀(W:World) (A:Option Addr) (d:Nat),(Instr.arrayAt 54 (.slice A 16 d)).run Tryz.prog W=.ok (.pointer A) W:=fun W A d=>by simp [Instr.arrayAt,run_underlying Tryz.underlying54]
 go_enter Tryz.func60,Tryz.ntmps60
 go_wp2_with (first
  | (with_reducible refine wpList_load_mid (op:=⟨some 11,.load 54 (.tmp 10),_,_,_,_⟩) rfl 54 (.tmp 10) rfl w.heap.size 0 rfl (ints .u8 k1) _ (hK.rw.lo.range) Tryz.underlying54 rfl (l33 H1.out) ?_))
 generalize (((w.alloc (.cells (ints .u8 (k1++k2)).toArray 22)).alloc (.cells (ints .u8 (zeros 16)).toArray 54)).alloc (.cells TZ 122))=w0 at *
 refine (KC.out _).mono ?_
 rintro e w1 ⟨rfl,hb1⟩
 replace hK:=hK.next hb1
 replace hR:=hR.next hb1
 replace hH:=hH.next hb1
 replace hW:=hW.trans (Below.mono hb1 hW.size)
 have hlt:=hH.lt
 have hD:=Arr.made w1 .u8 (zeros 16) 54
 have R6:(w1.alloc (.cells (ints .u8 (zeros 16)).toArray 54)).there w1.heap.size 0 (ints .u8 c).toArray.size:=hD.room (by rw [HC.out,zeros_len])
 have hD1:=hD.stored (l':=c) (by rw [HC.out,zeros_len])
 replace hK:=(hK.alloc (.cells (ints .u8 (zeros 16)).toArray 54)).past (b':=w1.heap.size) (o':=0) (ints .u8 c).toArray.toList (.inl (by omega))
 replace hR:=(hR.alloc (.cells (ints .u8 (zeros 16)).toArray 54)).past (b':=w1.heap.size) (o':=0) (ints .u8 c).toArray.toList (.inl (by omega))
 have hB2:=Below.setCells (below_new w1 (.cells (ints .u8 (zeros 16)).toArray 54)) (g:=w1.heap.size) (Nat.le_refl _) 0 (ints .u8 c).toArray.toList
 replace hH:=hH.next hB2
 replace hW:=hW.trans (Below.mono hB2 hW.size)
 obtain ⟨d,hd⟩:∃d,d=w1.heap.size:=⟨_,rfl⟩
 clear hb1 hB2 hD
 go_wp2_with (first
  | (with_reducible refine wpList_store_mid (op:=⟨none,.store 54 (.tmp 6) (.tmp 12),_,_,_,_⟩) rfl 54 (.tmp 6) (.tmp 12) rfl w1.heap.size 0 (ints .u8 c).toArray rfl rfl R6 (a33 HC.out) (ints_all _ _) ?_;generalize (w1.alloc (.cells (ints .u8 (zeros 16)).toArray 54)).setCells w1.heap.size 0 (ints .u8 c).toArray.toList=w2 at *))
 rw [←hd] at hD1 hlt ⊢
 have HD:=hid hd
 clear hd R6
 have hcp:=run_copyN (w:=w2.drew) (b:=w.heap.size+1+1) (o:=17) (m:=17) (c:=17) (c':=16) (A:=some ⟨d,0,none⟩) hD1.drew.nums HC.out (by omega) (fun j hj=>hH.drew.ti.there j (by rw [hH.tl];omega))
 have hH2:=hH.drew.tim (x:=c) (by rw [HC.out];omega) HCB.out
 rw [HT.out] at hH2
 have hK2:=hK.drew.past (b':=w.heap.size+1+1) (o':=17) (ints .u8 c) (.inl (by omega))
 have hR2:=hR.drew.past (b':=w.heap.size+1+1) (o':=17) (ints .u8 c) (.inl (by omega))
 have hW2:=Below.setCells hW.drew (g:=w.heap.size+1+1) (by omega) 17 (ints .u8 c)
 clear hK hR hH hW hD1
 go_still_tail 3,(by kernel_rfl)
 change wpList _ _ _ _ _ w2.drew
 go_wp2_with (fail)
 clear hcp
 generalize w2.drew.setCells (w.heap.size+1+1) 17 (ints .u8 c)=w3 at *
 have hA0:AbsZ w3 (w.heap.size+1+1) t (flat (ps.take 0)):=abs_newZ hH2
 clear hH2
 go_loopw [19] (fun i wr=>∃k:Nat,k≤ps.length∧i=.int .i64 k∧AbsZ wr (w.heap.size+1+1) t (flat (ps.take k))∧Arr wr w.heap.size 0 .u8 (k1++k2)∧Arr wr (w.heap.size+1) 0 .u8 (zeros 16)∧Below w.heap.size w wr) (fun i _=>ps.length - (intOf i).toNat)
 case atStart=>exact ⟨0,Nat.zero_le _,rfl,hA0,hK2,hR2,hW2⟩
 case round =>
  clear hA0 hK2 hR2 hW2
  obtain ⟨k,hk,rfl,hA,hK,hR,hW⟩:=hrel
  rename World=>W1
  by_cases hlt2:k<ps.length
  ·obtain ⟨q,hq⟩:∃q,ps[k]? = some q:=⟨ps[k],by simp [hlt2]⟩
   obtain ⟨hN,hqc,hq1,hqb⟩:=hok q (List.mem_of_getElem? hq)
   obtain ⟨g,off,rfl,hg,hc⟩:=hP (by omega)
   have hcr:W1.cell? ⟨g,off+k,none⟩=some (.slice q.1 q.2.2.length q.2.1):=(hW.cell (p:=⟨g,off+k,none⟩) hg).trans (hc k q hq)
   have HFT:=hid (flat_take ps k hq)
   have hNr:=hN.below hW
   have hne:0<q.2.2.length→∀g o s,q.1=some ⟨g,o,s⟩→g≠w.heap.size+1+1:=fun hp g o s e=>by
    obtain ⟨b,off,e2,hlt,_⟩:=hN hp
    rw [e2] at e;injection e with e;injection e with e1;omega
   have HQ:=hid hq
   clear hc hq
   obtain ⟨qA,qc,qx⟩:=q
   simp only at hcr hNr hne hqc hq1 hqb HFT hN
   have k0:(0:Int)≤k:=by omega
   have k1':(k:Int)<ps.length:=by omega
   go_wp2_with (go_at_call 90;refine (take_anyZ (w.heap.size+1+1) qA qc t (flat (ps.take k)) qx _ hA hNr hne hqc (by omega) hqb).mono ?_;rintro e w5 ⟨rfl,hA3,hO3⟩)
   go_roundw
   case rel=>exact ⟨k+1,by omega,by go_num,by rw [HFT.out];exact hA3,hK.only hO3 (by omega),hR.only hO3 (by omega),hW.trans (hO3.below (B:=w.heap.size) (by omega) hW.size)⟩
   case measure=>simp [intOf];omega
  ·have hkk:ps.take k=ps:=List.take_of_length_le (by omega)
   rw [hkk] at hA
   obtain ⟨m,hm⟩:∃m,m=flat ps:=⟨_,rfl⟩
   rw [←hm] at hA HS
   have hps:¬(k:Int)<ps.length:=by omega
   clear hkk hm hP hok hlt2 hk
   obtain ⟨fl,hfl⟩:∃fl,fl=m.length%16:=⟨_,rfl⟩
   have HTL:=hid (tailB_length m)
   have hH:Tgr W1 (w.heap.size+1+1) (pb (accN (bn t) m (m.length / 16))) t (padBZ (tailB m)) fl:=by rw [hfl];exact hA
   rw [←hfl] at HTL
   have fc:=hH.fc
   by_cases hf0:0<fl
   ·have HS2:=hid (sum_more (r:=bn t) (m:=m) (by omega))
    rw [HS.out] at HS2
    have f0:(0:Int)<(fl:Int):=by omega
    have hfl16:fl≤16:=by omega
    have HFL:=hid hfl
    clear hfl hf0 hA
    go_wp2_with (go_at_call 91;refine (pmix_any (w.heap.size+1+1) (accN (bn t) m (m.length / 16)) t (tailB m) fl _ (accN_lt _ _ _) HTL.out hfl16 hH).mono ?_;rintro e w7 ⟨rfl,hH7,hO7⟩)
    rw [HS2.out] at hH7
    replace hK:=hK.only hO7 (by omega)
    replace hR:=hR.only hO7 (by omega)
    replace hW:=hW.trans (hO7.below (B:=w.heap.size) (by omega) hW.size)
    clear fc hH hO7
    generalize padBZ []=blk at *
    have hH:=hH7
    clear hH7
    replace hK:=hK.rw
    obtain ⟨fl,hfl2⟩:∃f:Nat,f=0:=⟨_,rfl⟩
    rw [←hfl2] at hH
    clear hfl2
    have s7:=hW.size
    refine rSpec 6 36 (fun _=>false) [Is (.pointer (some ⟨(w.heap.size+1+1),0,none⟩)),Is (.agg (ints .u8 (pb S)).toArray),Is (.slice (some ⟨w.heap.size,16,none⟩) 16 16),Is (.pointer (some ⟨w.heap.size,16,none⟩)),Is (.agg (ints .u8 k2).toArray),Is (.agg (ints .u8 r).toArray)] [30,31,32,33,34,35] (gC (gC (gC (gC (gC (gC grows_nil))))))
     ⟨step_one rfl (.inl rfl) (fun ev w h hc=>ex_fld (P:=Tryz.prog) rfl (fldT0 _) ev w h hc) rfl (kO 5 rfl),
      step_ldV rfl (.inl rfl) (fun _ hw=>((hH.su.rw.next hw)).range) rfl Tryz.underlying120 rfl (szV inf25 (il hH.sl)) rfl (kI 0 30 rfl rfl),
      step_one rfl (.inl rfl) (fun ev w h hc=>ex_slAl (P:=Tryz.prog) ua41 ze41 (m:=32) (l:=16) rfl (by decide) rfl rfl rfl ev w h hc) rfl (kO 2 rfl),
      step_one rfl (.inl rfl) (fun ev w h hc=>ex_arrP (P:=Tryz.prog) Tryz.underlying54 (by decide) rfl ev w h hc) rfl (kI 2 32 rfl rfl),
      step_ldV rfl (.inl rfl) (fun _ hw=>(Rw.hi (o':=16) ((hK.next hw)) (by have:=H1.out;omega)).range) rfl Tryz.underlying54 rfl (szV inf33 (il H2.out)) rfl (kI 3 33 rfl rfl),
      step_to rfl (.inl rfl) rfl cx28 KL.out rfl (two_args (kI 1 31 rfl rfl) (kI 4 34 rfl rfl)),trivial⟩ ?_
    intro val w8 hw hS hap hla
    simp only [pA,pB,pC,pD,pE,Act.put,pG,pH,pI,eVal hS 0 30 rfl rfl,eVal hS 1 31 rfl rfl,eVal hS 2 32 rfl rfl,eVal hS 3 33 rfl rfl,eVal hS 4 34 rfl rfl,eVal hS 5 35 rfl rfl]
    clear hS hap hla
    replace hR:=hR.next hw
    replace hW:=bT hW hw
    clear hw
    have R4:w8.there (w.heap.size+1) 0 (ints .u8 r).toArray.size:=hR.room (by rw [HRL.out,zeros_len])
    have hR2:=hR.stored (l':=r) (by rw [HRL.out,zeros_len])
    have hW2:=Below.setCells hW (g:=w.heap.size+1) (by omega) 0 (ints .u8 r).toArray.toList
    with_reducible refine wpList_store_mid (op:=⟨none,.store 54 (.tmp 4) (.tmp 35),_,_,_,_⟩) rfl 54 (.tmp 4) (.tmp 35) rfl (w.heap.size+1) 0 (ints .u8 r).toArray rfl rfl R4 (a33 HRL.out) (ints_all _ _) ?_
    go_wp2_with (fail)
    exact ret_rows rfl (w.heap.size+1) 0 rfl (ints .u8 r) _ hR2.range Tryz.underlying54 rfl (l33 HRL.out) rfl ⟨rfl,hW2⟩
   ·have HS2:=hid (sum_end (r:=bn t) (m:=m) (by omega))
    rw [HS.out] at HS2
    have e0:fl=0:=by omega
    rw [e0] at fc
    rw [HS2.out] at hH
    clear hfl hf0 hA e0
    go_wp2_with (fail)
    generalize padBZ (tailB m)=blk at *
    clear fc
    generalize W1=w7 at *
    replace hK:=hK.rw
    have s7:=hW.size
    refine rSpec 6 36 (fun _=>false) [Is (.pointer (some ⟨(w.heap.size+1+1),0,none⟩)),Is (.agg (ints .u8 (pb S)).toArray),Is (.slice (some ⟨w.heap.size,16,none⟩) 16 16),Is (.pointer (some ⟨w.heap.size,16,none⟩)),Is (.agg (ints .u8 k2).toArray),Is (.agg (ints .u8 r).toArray)] [30,31,32,33,34,35] (gC (gC (gC (gC (gC (gC grows_nil))))))
     ⟨step_one rfl (.inl rfl) (fun ev w h hc=>ex_fld (P:=Tryz.prog) rfl (fldT0 _) ev w h hc) rfl (kO 5 rfl),
      step_ldV rfl (.inl rfl) (fun _ hw=>((hH.su.rw.next hw)).range) rfl Tryz.underlying120 rfl (szV inf25 (il hH.sl)) rfl (kI 0 30 rfl rfl),
      step_one rfl (.inl rfl) (fun ev w h hc=>ex_slAl (P:=Tryz.prog) ua41 ze41 (m:=32) (l:=16) rfl (by decide) rfl rfl rfl ev w h hc) rfl (kO 2 rfl),
      step_one rfl (.inl rfl) (fun ev w h hc=>ex_arrP (P:=Tryz.prog) Tryz.underlying54 (by decide) rfl ev w h hc) rfl (kI 2 32 rfl rfl),
      step_ldV rfl (.inl rfl) (fun _ hw=>(Rw.hi (o':=16) ((hK.next hw)) (by have:=H1.out;omega)).range) rfl Tryz.underlying54 rfl (szV inf33 (il H2.out)) rfl (kI 3 33 rfl rfl),
      step_to rfl (.inl rfl) rfl cx28 KL.out rfl (two_args (kI 1 31 rfl rfl) (kI 4 34 rfl rfl)),trivial⟩ ?_
    intro val w8 hw hS hap hla
    simp only [pA,pB,pC,pD,pE,Act.put,pG,pH,pI,eVal hS 0 30 rfl rfl,eVal hS 1 31 rfl rfl,eVal hS 2 32 rfl rfl,eVal hS 3 33 rfl rfl,eVal hS 4 34 rfl rfl,eVal hS 5 35 rfl rfl]
    clear hS hap hla
    replace hR:=hR.next hw
    replace hW:=bT hW hw
    clear hw
    have R4:w8.there (w.heap.size+1) 0 (ints .u8 r).toArray.size:=hR.room (by rw [HRL.out,zeros_len])
    have hR2:=hR.stored (l':=r) (by rw [HRL.out,zeros_len])
    have hW2:=Below.setCells hW (g:=w.heap.size+1) (by omega) 0 (ints .u8 r).toArray.toList
    with_reducible refine wpList_store_mid (op:=⟨none,.store 54 (.tmp 4) (.tmp 35),_,_,_,_⟩) rfl 54 (.tmp 4) (.tmp 35) rfl (w.heap.size+1) 0 (ints .u8 r).toArray rfl rfl R4 (a33 HRL.out) (ints_all _ _) ?_
    go_wp2_with (fail)
    exact ret_rows rfl (w.heap.size+1) 0 rfl (ints .u8 r) _ hR2.range Tryz.underlying54 rfl (l33 HRL.out) rfl ⟨rfl,hW2⟩
theorem tag_any (key:List Int) (PA:Option Addr) (pc:Nat) (ps:List (Option Addr × Nat × List Int)) (w:World) (hl:key.length=32) (hb:Byt key) (hP:Parts w PA ps) (hok:∀q ∈ ps,PartOkZ w q) (hpl:ps.length≤1000) :
 Calls Tryz.prog 60 #[.agg (ints .u8 key).toArray,.slice PA ps.length pc] w fun e w'=>e=.returned (.agg (ints .u8 (tagL key (flat ps))).toArray)∧Below w.heap.size w w':=by
 have h1:(key.take 16).length=16:=by simp [hl]
 have h2:(key.drop 16).length=16:=by simp [hl]
 have clZ:=clampL_lengthZ (key.take 16)
 have cb:=clampL_bytZ (hb.take 16) h1
 have ht:over (zeros 17) 0 (clampLZ (key.take 16))=padBZ (clampLZ (key.take 16)):=by rw [over_zeros (by omega)];rfl
 have hbn:bn (padBZ (clampLZ (key.take 16)))=bn (clampLZ (key.take 16)):=padB_bn _
 have kl:=c_low (pb_length _) h2 (pb_byt (sumN (bn (padBZ (clampLZ (key.take 16)))) (flat ps))) (hb.drop 16)
 rw [pb_bn (pn_lt (sumN_lt _ _)),hbn] at kl
 have e:key.take 16++key.drop 16=key:=List.take_append_drop 16 key
 have:=tag_core (key.take 16) (key.drop 16) (clampLZ (key.take 16)) (padBZ (clampLZ (key.take 16))) (tagL key (flat ps)) (sumN (bn (clampLZ (key.take 16))) (flat ps)) PA pc ps w (hid h1) (hid h2) (hid (hb.take 16)) (hid (hb.drop 16)) (hid (by rw [e];exact hl)) (hid (by rw [e];exact hb)) (hid clZ) (hid cb) (hid (c_clampZ h1 (hb.take 16))) (hid ht) (hid (by rw [hbn])) (hid kl) (hid (lb_length _)) hP hok hpl
 rwa [e] at this
end
section
set_option maxRecDepth 50000 in
set_option maxHeartbeats 400000 in
theorem same_eq (A B:Option Addr) (c d:Nat) (xs ys:List Int) (w:World) (he:xs=ys) (hm:xs.length≤maxLen) (hA:Nums w .u8 A xs) (hB:Nums w .u8 B ys) :
 Calls Tryz.prog 8 #[.slice A xs.length c,.slice B ys.length d] w fun e w'=>e=.returned (.bool true)∧Below w.heap.size w w':=by
 subst he
 unfold maxLen at hm
 go_enter Tryz.func8,Tryz.ntmps8
 go_wp2
 go_loopw [5] (fun i wr=>∃k:Nat,k≤xs.length∧i=.int .i64 k∧Below w.heap.size w wr) (fun i _=>xs.length - (intOf i).toNat)
 case atStart=>exact ⟨0,Nat.zero_le _,rfl,Below.refl _ _⟩
 case round =>
  obtain ⟨k,hk,rfl,hb⟩:=hrel
  by_cases hlt:k<xs.length
  ·obtain ⟨b1,o1,x,rfl,_,hc1,H1⟩:=(hA.below hb).get hlt
   obtain ⟨b2,o2,y,rfl,_,hc2,H2⟩:=(hB.below hb).get hlt
   have hxy:x=y:=by have:=H1.out.symm.trans H2.out;injection this
   subst hxy
   have hpos:(0:Int)≤k:=by omega
   have hlt':(k:Int)<xs.length:=by omega
   go_wp2
   go_quiet (fail)
   go_wp2
   go_roundw
   case rel=>exact ⟨k+1,by omega,by go_num,below_drewN hb _⟩
   case measure=>simp [intOf];omega
  ·go_wp2
   go_ret
   exact ⟨rfl,hb⟩
end
section
open Go.RowKit Go.ChangeShapes
theorem okWide_array {P:Program} {w:World} {r:Reach} {b0 t n e:Nat} {v:Value} (ht:P.underlying t=some (.array n e)) (h:Value.okWide P w r b0 t v):∃cs,v=.agg cs∧cs.size=P.cellsOf t:=by
 simp only [Value.okWide,ht] at h
 obtain ⟨cs,h1,h2,_⟩:=h
 exact ⟨cs,h1,h2⟩
theorem open_arr {H:Type} {enc:TypeId × Value→H} {P:Program} {w:World} {base:Nat} {spare:Nat→Bool} {held:Bool} {r:Reach} {b0 t n e:Nat} {k:IntKind} {v:Value} {d:DataW H} {ps:List MemPlace}
 (ht:P.underlying t=some (.array n e)) (he:P.underlying e=some (.int k)) (hce:P.cellsOf e=1) (hct:P.cellsOf t=n) (hval:Value.okWide P w r b0 t v) (hd:DataW.Trod enc P w base spare held t v d ps) :
 ∃xs:List Int,v=.agg (ints k xs).toArray∧xs.length=n∧∀x ∈ xs,(Lit.int k x).wf=true:=by
 obtain ⟨cs,rfl,hs⟩:=okWide_array ht hval
 obtain ⟨fuel,hf⟩:=hd
 have hc:(Value.agg cs).cells.toList=cs.toList:=by simp [Value.cells]
 rw [hc] at hf
 obtain ⟨ys,m,rfl,_,hl,hn,hall⟩:=DataW.trod_array ht hf
 rw [hct] at hl
 have hall2:∀i,i<n→∃z,cs.toList[i]? = some (.int k z)∧(Lit.int k z).wf=true:=fun i hi=>by
  have h1:=hall i hi
  rw [hce,Nat.mul_one] at h1
  have h2:ys[i]? = some ys[i]:=by simp
  rw [h2] at h1
  obtain ⟨z,hc,_,hw⟩:=DataW.trod_int he h1
  refine ⟨z,?_,hw⟩
  have:=congrArg (·[0]?) hc
  simpa [List.getElem?_take,List.getElem?_drop] using this
 have key:∀l:List Value,(∀i,i<l.length→∃z,l[i]? = some (.int k z)∧(Lit.int k z).wf=true)→∃xs:List Int,l=ints k xs∧∀x ∈ xs,(Lit.int k x).wf=true:=by
  intro l
  induction l with
  | nil=>exact fun _=>⟨[],rfl,by simp⟩
  | cons y l ih =>
    intro h
    obtain ⟨z,hz,hw⟩:=h 0 (by simp)
    obtain ⟨xs,rfl,hx⟩:=ih (fun i hi=>by have:=h (i+1) (by simp;omega);simpa using this)
    obtain rfl:y=.int k z:=by simpa using hz
    exact ⟨z::xs,rfl,fun x hx'=>by
     rcases List.mem_cons.1 hx' with h|h
     ·rw [h];exact hw
     ·exact hx x h⟩
 obtain ⟨xs,hxs,hx⟩:=key cs.toList (fun i hi=>hall2 i (by omega))
 refine ⟨xs,?_,by rw [←hl,hxs];simp [ints],hx⟩
 rw [←hxs]
end
def IsRw (k:IntKind) (q:Nat) (l:List Int):Value→World→Prop:=fun v w=>∃B d,v=.slice B q d∧Nums w k B l
set_option maxRecDepth 50000 in
theorem IsRw.grows (k:IntKind) (q:Nat) (l:List Int):Grows (IsRw k q l):=fun _ _ _ ⟨B,d,h1,h2⟩ hb=>⟨B,d,h1,h2.below hb⟩
section
variable {ops:Array Oper} {md:Region.Mode} {W:World} {a0:Act} {n:Nat} {al:Nat→Bool} {S:Nat→Value→World→Prop} {Q:Exit→Act→World→Prop} {i:Nat} {o:Oper}
end
end Go.Proofs.YtkblmdakejmmhaaGreatDoor
