import Derived.Test.YtkblmdakejmmhaaGreatDoorG15
import Derived.Test.YtkblmdakejmmhaaGreatDoorG4
import Derived.Lib.AppendZerosOnto
namespace Go.Proofs.YtkblmdakejmmhaaGreatDoor
open Go Go.RowKit
section
set_option maxRecDepth 50000
theorem not_at {A:Option Addr} {b:Nat} {w:World} {k:IntKind} {xs:List Int} (h:Nums w k A xs) (hp:0<xs.length) (hA:∀g o s,A=some ⟨g,o,s⟩→g≠b):∃g off,A=some ⟨g,off,none⟩∧g≠b∧g<w.heap.size∧∀i,i<xs.length→w.cell? ⟨g,off+i,none⟩=some (.int k (xs.getD i 0)):=by
 obtain ⟨g,off,e,hlt,hc⟩:=h hp
 exact ⟨g,off,e,hA g off none e,hlt,hc⟩
set_option maxHeartbeats 1000000 in
theorem take_any (b:Nat) (A:Option Addr) (c:Nat) (m p:List Int) (w:World) (ht:TabsH w) (h2:2<b∧0<b) (hh:Abs w b m) (hA:Nums w .u8 A p) (hne:0<p.length→∀g o s,A=some ⟨g,o,s⟩→g≠b) (hpc:p.length≤c) (hp:p.length≤100000) (hby:HByt p) :
 Calls Tryz.prog 106 #[.pointer (some ⟨b,0,none⟩),.slice A p.length c] w fun e w'=>e=.returned (.tuple #[])∧Abs w' b (m++p)∧Only b w w':=by
 go_enter Tryz.func106,Tryz.ntmps106
 go_wp2
 go_loopw [1] (fun v wr=>∃(k:Nat) (B:Option Addr) (d:Nat) (r:List Int),k≤p.length∧v=.slice B r.length d∧Hid (r=p.drop k)∧r.length≤d∧Nums wr .u8 B r∧(0<r.length→∀g o s,B=some ⟨g,o,s⟩→g≠b)∧Abs wr b (m++p.take k)∧Only b w wr) (fun v _=>match v with | .slice _ n _=>n|_=>0)
 case atStart=>exact ⟨0,A,c,p,by omega,rfl,hid rfl,hpc,hA,hne,by simpa using hh,Only.refl _ _⟩
 case round =>
  obtain ⟨k,B,d,r,hk,rfl,HR,hrd,hN,hnB,⟨blk,hH,hT⟩,hO⟩:=hrel
  have hrl:r.length=p.length - k:=by rw [HR.out];simp
  have hrle:r.length≤100000:=by omega
  have HRL:=hid hrl
  clear hrl
  have hrby:HByt r:=by rw [HR.out];exact hby.drop k
  by_cases hlt:0<r.length
  ·obtain ⟨g,off,rfl,hgb,hgl,hc⟩:=not_at hN hlt (hnB hlt)
   obtain ⟨fl,hfl⟩:∃fl,fl=(m++p.take k).length%128:=⟨_,rfl⟩
   have hf1:fl<128:=by omega
   obtain ⟨n,hn⟩:∃n,n=min r.length (128 - fl):=⟨_,rfl⟩
   have hn0:0<n:=by omega
   have hnr:n≤r.length:=by omega
   have hnf:n≤128 - fl:=by omega
   rw [←hfl] at hH hT
   obtain ⟨A',hsl,hN',hg'⟩:=nums_from hN 23 5 Tryz.underlying23 (by kernel_rfl) d n hnr hlt hrd
   have fc:=hH.fc
   have fz:=hH.fz
   obtain ⟨x,hx⟩:∃x,x=r.take n:=⟨_,rfl⟩
   have hxl:x.length=n:=by rw [hx];simp;omega
   have hcp:(Builtin.copy_ #[23,23] 3 #[.slice (some ⟨b,8+fl,none⟩) (128 - fl) (128 - fl),.slice (some ⟨g,off,none⟩) r.length d]).run Tryz.prog wr.drew=.ok (.int .i64 n) (wr.drew.setCells b (8+fl) (ints .u8 x)):=by
    have h:=run_copy_cells (P:=Tryz.prog) wr.drew 23 23 3 5 b (8+fl) (128 - fl) (128 - fl) ⟨g,off,none⟩ r.length d (ints .u8 x) Tryz.underlying23 (by kernel_rfl) (by rw [ints_length,hxl,hn]) ?_ ?_ ?_ (ints_one _ _)
    ·rw [ints_length,hxl] at h;exact h
    ·intro j v hv
     simp only [ints,List.getElem?_map,Option.map_eq_some_iff] at hv
     obtain ⟨y,hy,rfl⟩:=hv
     have hj:=(List.getElem?_eq_some_iff.1 hy).1
     have:=hc j (by omega)
     rw [Addr.add_mid]
     show wr.cell? _=_
     rw [this]
     rw [hx,List.getElem?_take] at hy
     split at hy
     ·simp [List.getD,hy]
     ·cases hy
    ·intro j hj
     have:=(hH.bk.there (fl+j) (by rw [hH.len];rw [ints_length] at hj;omega)).1
     rw [←Nat.add_assoc] at this;exact this
    ·intro j hj
     have:=(hH.bk.there (fl+j) (by rw [hH.len];rw [ints_length] at hj;omega)).2
     rw [←Nat.add_assoc] at this;exact this
   have hn128:¬128=fl:=by omega
   have f0:(0:Int)≤fl:=by omega
   have f1:(fl:Int)≤128:=by omega
   have n1:(n:Int)≤128:=by omega
   have HN:=hid hn
   have HX:=hid hx
   have HXL:=hid hxl
   have HFL:=hid hfl
   clear hn hx hxl hfl
   go_wp2
   go_still_tail 9,(by kernel_rfl)
   change wpList _ _ _ _ _ wr.drew
   have hbk1:Arr (wr.drew.setCells b (8+fl) (ints .u8 x)) b 8 .u8 (over blk fl x):=hH.bk.drew.over (by rw [hH.len,HXL.out];omega)
   have hns1:Arr (wr.drew.setCells b (8+fl) (ints .u8 x)) b 0 .u64 (hdgs (m++p.take k)).list:=hH.ns.drew.past _ (.inr (.inr (by show 0+8≤8+fl;omega)))
   have hfc1:(wr.drew.setCells b (8+fl) (ints .u8 x)).cell? ⟨b,136,none⟩=some (.int .i64 fl):=by
    rw [World.cell?_setCells_out _ _ _ _ _ (fun _ _=>.inr (by rw [ints_length,HXL.out];show 8+fl+n≤136;omega))]
    exact fc
   have hfz1:(wr.drew.setCells b (8+fl) (ints .u8 x)).frozen? ⟨b,136,none⟩=false:=by rw [World.frozen?_setCells];exact fz
   have hO1:Only b w (wr.drew.setCells b (8+fl) (ints .u8 x)):=hO.drew.setCells (.inl rfl) _ _
   have hO2:Only b wr (wr.drew.setCells b (8+fl) (ints .u8 x)):=(Only.refl b wr).drew.setCells (.inl rfl) _ _
   have hlen:=hH.len
   have hbyt:=hH.byt
   clear fc fz hH
   generalize wr.drew.setCells b (8+fl) (ints .u8 x)=wc at *
   have s1:IntKind.i64.wrap ((fl:Int)+n)=(fl:Int)+n:=IntWalk.i64_in _ (by omega)
   have hTw:TabsH wc:=ht.only hO1 h2
   have hpx:m++p.take (k+n)=m++p.take k++x:=by rw [List.append_assoc,HX.out,HR.out,←List.take_add]
   have hkn:k+n≤p.length:=by have:=HRL.out;omega
   have hdrop:Hid (r.drop n=p.drop (k+n)):=by show _=_;rw [HR.out,List.drop_drop]
   have hdl:r.length - n=(r.drop n).length:=by simp
   have HDL:=hid hdl
   have HPX:=hid hpx
   have hneA:∀g' o s,A'=some ⟨g',o,s⟩→g'≠b:=fun g' o s e=>by
    obtain ⟨o',e2⟩:=hg' g off none rfl
    rw [e2] at e;injection e with e;injection e with e1;omega
   have hov:=over_byt hbyt (x:=x) (by rw [HX.out];exact hrby.take n) fl
   have hovl:(over blk fl x).length=128:=by rw [over_length (by rw [hlen,HXL.out];omega)];exact hlen
   have hT2:=hid hT
   clear hdl hpx hT
   by_cases hfull:fl+n=128
   ·have hf128:(fl:Int)+n=128:=by omega
    obtain ⟨q1,q2,q3⟩:=more_full (m:=m++p.take k) (x:=x) hlen (by rw [←HFL.out];exact hT2.out) (by rw [←HFL.out,HXL.out];exact hfull)
    rw [←HFL.out] at q1 q3
    have Q1:=hid q1
    have Q2:=hid q2
    have Q3:=hid q3
    have hH1:Hsh (wc.setCell ⟨b,136,none⟩ (.int .i64 128)) b (hdgs (m++p.take k)) (over blk fl x) 128 :=
     ⟨hns1.apart _ (.inr (.inr (by show 0+8≤136;omega))),hbk1.apart _ (.inr (.inr (by show 8+(over blk fl x).length≤136;omega))),World.cell?_setCell_same _ _ _ hfc1,by rw [World.frozen?_setCell];exact hfz1,dgs_ok _,hovl,hov⟩
    have hT1:TabsH (wc.setCell ⟨b,136,none⟩ (.int .i64 128)):=hTw.only ((Only.refl b wc).setCell (.inl rfl) _) h2
    clear q1 q2 q3 hfull hov hovl
    go_wp2_with (go_at_call 125;refine (mix_any b (hdgs (m++p.take k)) (over blk fl x) 128 _ hT1 hH1).mono ?_;rintro e w3 ⟨rfl,hH3,hO3⟩;have fc3:=hH3.fc;have fz3:=hH3.fz)
    go_roundw
    case rel =>
     have hfin:Only b wc (w3.setCell ⟨b,136,none⟩ (.int .i64 0)):=(((Only.refl b wc).setCell (.inl rfl) _).trans hO3).setCell (.inl rfl) _
     refine ⟨k+n,A',d - n,r.drop n,hkn,by rw [HDL.out],hdrop,by rw [←HDL.out];omega,(hN'.only hO2 hneA).only hfin hneA,fun _=>hneA,⟨over blk fl x,?_,?_⟩,hO1.trans hfin⟩
     ·have e0:(m++p.take (k+n)).length%128=0:=by rw [HPX.out];exact Q2.out
      rw [e0,HPX.out,Q1.out]
      exact ⟨hH3.ns.apart _ (.inr (.inr (by show 0+8≤136;omega))),hH3.bk.apart _ (.inr (.inr (by show 8+(over blk fl x).length≤136;rw [hH3.len];omega))),World.cell?_setCell_same _ _ _ hH3.fc,by rw [World.frozen?_setCell];exact hH3.fz,comp_ok _ _,hH3.len,hH3.byt⟩
     ·rw [HPX.out];exact Q3.out
    case measure=>show r.length - n<r.length;omega
   ·have hf128:((fl:Int)+n==128)=false:=by simp;omega
    obtain ⟨q1,q2,q3⟩:=more_part (m:=m++p.take k) (x:=x) hlen (by rw [←HFL.out];exact hT2.out) (by rw [←HFL.out,HXL.out];omega)
    rw [←HFL.out] at q2 q3
    have Q1:=hid q1
    have Q2:=hid q2
    have Q3:=hid q3
    clear q1 q2 q3 hfull
    go_wp2
    go_roundw
    case rel =>
     have hfin:Only b wc (wc.setCell ⟨b,136,none⟩ (.int .i64 ((fl:Int)+n))):=(Only.refl b wc).setCell (.inl rfl) _
     refine ⟨k+n,A',d - n,r.drop n,hkn,by rw [HDL.out],hdrop,by rw [←HDL.out];omega,(hN'.only hO2 hneA).only hfin hneA,fun _=>hneA,⟨over blk fl x,?_,?_⟩,hO1.trans hfin⟩
     ·have e0:(m++p.take (k+n)).length%128=fl+n:=by rw [HPX.out,Q2.out,HXL.out]
      rw [e0,HPX.out,Q1.out]
      exact ⟨hns1.apart _ (.inr (.inr (by show 0+8≤136;omega))),hbk1.apart _ (.inr (.inr (by show 8+(over blk fl x).length≤136;omega))),by rw [World.cell?_setCell_same _ _ _ hfc1];rfl,by rw [World.frozen?_setCell];exact hfz1,dgs_ok _,hovl,hov⟩
     ·rw [HPX.out];exact Q3.out
    case measure=>show r.length - n<r.length;omega
  ·have hr0:r.length=0:=by omega
   have hk2:p.take k=p:=List.take_of_length_le (by have:=HRL.out;omega)
   have HK2:=hid hk2
   clear hk2 hr0
   go_wp2
   go_end0
   have h:Abs wr b (m++p.take k):=⟨blk,hH,hT⟩
   rw [HK2.out] at h
   exact ⟨rfl,h,hO⟩
end
section
set_option maxRecDepth 50000
open Go.RowKit Go.ChangeShapes Go.WideShapes
def padB (n:Nat):List Int:=[128]++hzeros (127 - (n+16)%128)++splitB true 8 [0,8*(n:Int)]
theorem padB_length (n:Nat):(padB n).length=144 - (n+16)%128:=by
 simp [padB,hzeros,splitB_length];omega
theorem zeroCells_u8 (n:Nat):(Builtin.zeroCells #[.int .u8 0] n).toList=(hzeros n).map (Value.int .u8):=by
 apply List.ext_getElem?
 intro i
 by_cases h:i<n <;> simp [Builtin.zeroCells,hzeros,h,Nat.mod_one]
theorem run_zeros {P:Program} (w:World) (t tn ty e:TypeId) (kn:IntKind) (ht:P.underlying t=some (.slice e)) (htn:P.underlying tn=some (.int kn))
 (hinf:(P.info? e).map (fun i=>(i.zero,i.size,i.bytes))=some (some (.int .u8 0),1,1)) (base g k:Nat) (x:Int) (hO:Owns w base e .u8 (.slice (some ⟨g,0,none⟩) 1 1) [x]) (hb:base≤w.heap.size) (hk:k≤1000) :
 ∃A' c' w',(Builtin.append_ #[t,tn] ty #[.slice (some ⟨g,0,none⟩) 1 1,.int kn (k:Int)]).run P w=.ok (.slice A' (k+1) c') w'∧Owns w' base e .u8 (.slice A' (k+1) c') ([x]++hzeros k)∧Below w.heap.size w w':=by
 obtain ⟨i,hi,hz,hsize,hby⟩:=info_parts hinf
 obtain ⟨y,hy,_,hy2⟩:=hO.spot (j:=0) (by simp)
 have hyx:y=x:=by have:=hy2.out;simpa using this.symm
 subst hyx
 by_cases h0:k=0
 ·subst h0
  refine ⟨_,_,w,?_,by simpa [hzeros] using hO,Below.refl _ _⟩
  have hw:IntKind.i64.wrap 0=0:=rfl
  simp [Builtin.append_,run_underlying ht,run_underlying htn,sizeOf,typeInfo,hi,asInt,asIntOf,hw,storeCells]
 ·have hold:(Builtin.firstCells i.size 1 (.slice (some ⟨g,0,none⟩) 1 1)).run P w.drew=.ok [Value.int .u8 y].toArray w.drew:=by
   have hl:=run_loadCells_list (P:=P) w.drew ⟨g,0,none⟩ [Value.int .u8 y] (fun j v hv=>by
    have hj:j=0:=by have:=(List.getElem?_eq_some_iff.1 hv).1;simpa using this
    subst hj
    simp at hv;subst hv
    rw [Addr.add_mid];exact hy)
   simpa [Builtin.firstCells,hsize] using hl
  have hns:=nextslicecap_le (need:=1+k) (old:=1) (by omega)
  have h:=Lib.run_append_grow_zeros (P:=P) w t tn ty e i (.int .u8 0) kn kn ht htn hi hz (some ⟨g,0,none⟩) 1 1 [.int .u8 y] hold k (by omega) (by omega) (by omega) (by omega) (by rw [hby];omega) (by rw [hby];omega)
  have hge:=grownCap_ge w (1+k) 1 e
  have hle:=grownCap_le_maxLen w (1+k) 1 e (by unfold maxLen;omega)
  generalize grownCap w (1+k) 1 e=G at *
  have hzc:(Value.int .u8 0).cells.size=1:=rfl
  refine ⟨_,_,_,by rw [h,Nat.add_comm 1 k],?_,((Below.refl _ _).drew).alloc (Nat.le_refl _) _⟩
  refine ⟨by simp [hzeros],.inr ⟨w.heap.size,G,_,?_,hb,heap_alloc_new w.drew _,?_,hle,?_,?_⟩⟩
  ·rw [List.length_append,List.length_singleton];simp [hzeros,Nat.add_comm k 1]
  ·simp [hzeros];omega
  ·rw [Array.size_append,Array.size_append,size_zeroCells,size_zeroCells,hzc];simp;omega
  ·rw [Array.toList_append,Array.toList_append,List.take_append_of_le_length (by simp only [List.length_append,Array.length_toList,size_zeroCells,Value.cells];simp [hzeros]),List.take_of_length_le (by simp only [List.length_append,Array.length_toList,size_zeroCells,Value.cells];simp [hzeros])]
   simp only [Value.cells,List.map_append,zeroCells_u8];rfl
theorem pad_byt {n:Nat} {y:List Int} (h:Hid (y=padB n)):HByt y:=by
 rw [h.out]
 intro x hx
 simp only [padB,List.mem_append,List.mem_singleton] at hx
 rcases hx with (rfl|hx)|hx
 ·exact ⟨by omega,by omega⟩
 ·have:=List.eq_of_mem_replicate hx
  subst this;exact ⟨by omega,by omega⟩
 ·exact splitB_byt _ _ _ x hx
set_option maxHeartbeats 1000000 in
theorem pad_yes (n:Nat) (w:World) (h:n≤1099511627776) :
 Calls Tryz.prog 107 #[.int .i64 n] w fun e w'=>∃A c ys,e=.returned (.slice A ys.length c)∧Hid (ys=padB n)∧ys.length≤c∧NumsF w.heap.size w' .u8 A ys∧Below w.heap.size w w':=by
 obtain ⟨k,hk⟩:∃k,k=127 - (n+16)%128:=⟨_,rfl⟩
 have HK:=hid hk
 have hk127:k≤127:=by omega
 have hm1:((n:Int)+16)%128=127 - (k:Int):=by omega
 clear hk
 have hd:decide ((n:Int)<0)=false:=by simp
 have hd2:¬(1099511627776<(n:Int)):=by omega
 have hm2:(127 - ((n:Int)+17 - 1)%128)=(k:Int):=by omega
 have hwn:IntKind.u64.wrap (n:Int)=(n:Int):=IntWalk.u64_in _ (by omega)
 have hw8:IntKind.u64.wrap (8*(n:Int))=8*(n:Int):=IntWalk.u64_in _ (by omega)
 clear hm1
 obtain ⟨A1,c1,w1,hr1,hO1,hb1⟩:=run_zeros (P:=Tryz.prog) (w.alloc (.cells #[.int .u8 128] 5)) 23 3 23 5 .i64 Tryz.underlying23 Tryz.underlying3 Tryz.info5 w.heap.size w.heap.size k 128 (Owns.new w w.heap.size 5 .u8 [128] (Nat.le_refl _) (by unfold maxLen;simp)) (by simp) (by omega)
 have hs1:=hb1.size
 rw [World.size_alloc] at hs1
 go_enter Tryz.func107,Tryz.ntmps107
 go_wp2_with (first
  | (go_at_call 108;refine (wBytes64 _ 2 [0,8*(n:Int)] _ (by simp) (nums_two w1 .u64 0 (8*(n:Int)) 134)).mono ?_;rintro e w2 ⟨B2,d2,ys2,rfl,HY2,hN2,hb2⟩;have hy8:ys2.length=16:=(by rw [HY2.out,splitB_length];rfl);have HY8:=hid hy8;have hy16:ys2.length≤16:=(by omega);clear hy8;have hO2:=(hO1.alloc (.cells #[.int .u64 0,.int .u64 (8*(n:Int))] 134)).stay hb2)
  | (at_builtin;refine Lib.wpList_append_run _ rfl (.tmp 16) (.tmp 17) 23 3 rfl (.slice (some ⟨w.heap.size,0,none⟩) 1 1) (.int .i64 k) rfl rfl _ w1 hr1 ?_)
  | (at_builtin;refine app_nums rfl (.tmp 19) (.tmp 24) 23 rfl w.heap.size 5 .u8 1 Tryz.underlying23 Tryz.info5 (by omega) A1 (k+1) c1 ([128]++hzeros k) rfl hO2 B2 d2 ys2 rfl hN2.nums (by simp [hzeros];omega) (by have:=hb2.size;rw [World.size_alloc] at this;omega) ?_;intro A3 n3 c3 w3 hO3 hG3))
 go_ret
 have hn3:=hO3.len
 have hpd:[128]++hzeros k++ys2=padB n:=by rw [HY2.out];unfold padB;rw [←HK.out]
 rw [hpd] at hO3 hn3
 have hc3:n3≤c3:=by
  rcases hO3.2 with ⟨hv,h0⟩|⟨g,cap,cur,hv,_,_,hle,_⟩
  ·injection hv;omega
  ·injection hv;omega
 refine ⟨A3,c3,padB n,by rw [←hn3];rfl,hid rfl,by omega,hO3.fresh,?_⟩
 have hG:Below w.heap.size w1 w3:=((((Below.refl _ _).alloc (by omega) _)).trans (hb2.mono (by rw [World.size_alloc];omega))).trans (hG3.below (by have:=hb2.size;rw [World.size_alloc] at this;omega) (fun g hg=>(hO2.lt g hg).1))
 exact ((below_new w _).trans (hb1.mono (by simp))).trans hG
end
section
set_option maxRecDepth 50000
def hash (m:List Int):List Int:=splitB true 8 (hdgs (m++padB m.length)).list
def flat (ps:List (Option Addr × Nat × List Int)):List Int:=(ps.map (·.2.2)).flatten
def Parts (w:World) (A:Option Addr) (ps:List (Option Addr × Nat × List Int)):Prop:=0<ps.length→∃g off,A=some ⟨g,off,none⟩∧g<w.heap.size∧∀i q,ps[i]? = some q→w.cell? ⟨g,off+i,none⟩=some (.slice q.1 q.2.2.length q.2.1)
def PartOk (w:World) (q:Option Addr × Nat × List Int):Prop:=Nums w .u8 q.1 q.2.2∧q.2.2.length≤q.2.1∧q.2.2.length≤1000∧HByt q.2.2
theorem wpList_build_eq {P:Program} {ops:Array Oper} {rest:List Oper} {o:Oper} {a:Act} {w:World} {Q:Exit→Act→World→Prop} (hg:o.guard=none) (t:TypeId) (parts:Array (Nat × Operand)) (ho:o.op=.build t parts)
 (cells:Array Value) (hf:P.built t (parts.map fun (i,x)=>(i,a.eval x)).toList=some cells) (h:wpList P ops Q rest (a.put o.dst (.agg cells)) w):wpList P ops Q (o::rest) a w :=
 wpList_build hg t parts ho (by rw [hf];rfl) (by rw [hf];exact h)
def HNEW:Array Value:=(ints .u64 FIRST++ints .u8 (hzeros 128)++[Value.int .i64 0]).toArray
def HZERO:Array Value:=(ints .u64 (hzeros 8)++ints .u8 (hzeros 128)++[Value.int .i64 0]).toArray
theorem Tryz.info137:(Tryz.prog.info? 137).map (fun i=>(i.zero,i.size))=some (some (.agg HZERO),137):=by kernel_rfl
theorem Tryz.info135:(Tryz.prog.info? 135).map (fun i=>(i.zero,i.size))=some (some (.agg (ints .u64 (hzeros 8)).toArray),8):=by kernel_rfl
theorem Tryz.info83:(Tryz.prog.info? 83).map (fun i=>(i.zero,i.size))=some (some (.agg (ints .u8 (hzeros 64)).toArray),64):=by kernel_rfl
theorem built53:Tryz.prog.built 137 [(0,.agg (ints .u64 FIRST).toArray)]=some HNEW:=by kernel_rfl
theorem HNEW_one:HNEW.all (·.oneCell')=true:=by kernel_rfl
theorem HNEW_size:HNEW.size=137:=by kernel_rfl
theorem HZERO_size:HZERO.size=137:=by kernel_rfl
theorem HZERO_cells (w:World) (t:TypeId):(w.alloc (.cells HZERO t)).there w.heap.size 0 137:=fun j hj=>by
 rw [Nat.zero_add]
 refine ⟨?_,World.frozen?_alloc_new w _ t j⟩
 rw [World.cell?_alloc_new,Array.getElem?_eq_getElem (by rw [HZERO_size];exact hj)]
 rfl
theorem bytes8 (s:HSt) (b:Nat) (w:World) (h:Arr w b 0 .u64 s.list) :
 Calls Tryz.prog 108 #[.slice (some ⟨b,0,none⟩) 8 8] w fun e w'=>∃B d ys,e=.returned (.slice B 64 d)∧Hid (ys=splitB true 8 s.list)∧Hid (ys.length=64)∧NumsF w.heap.size w' .u8 B ys∧Below w.heap.size w w' :=
 (wBytes64 (some ⟨b,0,none⟩) 8 s.list w (by show 8≤500;omega) h.nums).mono fun e w' ⟨B,d,ys,he,hy,hN,hb⟩=>by
   have hl:ys.length=64:=by rw [hy.out,splitB_length];rfl
   exact ⟨B,d,ys,by rw [he,hl],hy,hid hl,hN,hb⟩
theorem range_nums {w:World} {k:IntKind} {b o:Nat} {xs:List Int} (h:∀i,i<xs.length→w.cell? ⟨b,o+i,none⟩=some (.int k (xs.getD i 0))):w.rangeAt b o (ints k xs):=fun j v hv=>by
 simp only [ints,List.getElem?_map,Option.map_eq_some_iff] at hv
 obtain ⟨x,hx,rfl⟩:=hv
 rw [h j (List.getElem?_eq_some_iff.1 hx).1]
 simp [List.getD,hx]
theorem Arr.next' {w w':World} {b o:Nat} {k:IntKind} {xs:List Int} (h:Arr w b o k xs) (hb:Below w.heap.size w w'):Arr w' b o k xs:=fun i x hi =>
 h.same (hb.block b (World.block_lt_of_cell? w _ (h i x hi).1)) i x hi
theorem dgs_nil:hdgs []=INIT:=by simp [hdgs,dgsN]
theorem abs_new (W:World) (b:Nat) (hrg:W.rangeAt b 0 HNEW.toList) (hth:W.there b 0 HNEW.toList.length):Abs W b []:=by
 refine ⟨hzeros 128,⟨?_,?_,?_,?_,dgs_ok _,by simp [hzeros],?_⟩,rfl⟩
 ·rw [dgs_nil]
  refine Arr.of (fun j v hv=>?_) (fun j hj=>hth j (by rw [Array.length_toList,HNEW_size];have:INIT.list.length=8:=rfl;omega))
  have e:HNEW.toList[j]? = some v:=by
   show (ints .u64 FIRST++ints .u8 (hzeros 128)++[Value.int .i64 0])[j]? = some v
   have hj:j<(ints .u64 FIRST).length:=(List.getElem?_eq_some_iff.1 hv).1
   rw [List.append_assoc,List.getElem?_append_left hj];exact hv
  exact hrg j v e
 ·refine Arr.of (fun j v hv=>?_) (fun j hj=>by have:=hth (8+j) (by rw [Array.length_toList,HNEW_size];simp [hzeros] at hj;omega);rw [Nat.zero_add] at this;exact this)
  have hj:j<(ints .u8 (hzeros 128)).length:=(List.getElem?_eq_some_iff.1 hv).1
  have e:HNEW.toList[8+j]? = some v:=by
   show (ints .u64 FIRST++ints .u8 (hzeros 128)++[Value.int .i64 0])[8+j]? = some v
   have h8:(ints .u64 FIRST).length=8:=rfl
   rw [List.append_assoc,List.getElem?_append_right (by omega),h8,Nat.add_sub_cancel_left,List.getElem?_append_left hj];exact hv
  have:=hrg (8+j) v e
  rw [Nat.zero_add] at this;exact this
 ·have:=hrg 136 (.int .i64 0) rfl
  rw [Nat.zero_add] at this;exact this
 ·have:=(hth 136 (by rw [Array.length_toList,HNEW_size];omega)).2
  rw [Nat.zero_add] at this;exact this
 ·intro x hx
  have:=List.eq_of_mem_replicate hx
  subst this;exact ⟨by omega,by omega⟩
theorem flat_take (ps:List (Option Addr × Nat × List Int)) (k:Nat) {q:Option Addr × Nat × List Int} (h:ps[k]? = some q):flat (ps.take (k+1))=flat (ps.take k)++q.2.2:=by
 simp [flat,List.take_add_one,h]
theorem flat_take_le (ps:List (Option Addr × Nat × List Int)) (k:Nat):(flat (ps.take k)).length≤(flat ps).length:=by
 have h:flat ps=flat (ps.take k)++flat (ps.drop k):=by unfold flat;rw [←List.flatten_append,←List.map_append,List.take_append_drop]
 rw [h,List.length_append];omega
theorem flat_byt {w:World} {ps:List (Option Addr × Nat × List Int)} (hok:∀q ∈ ps,PartOk w q):HByt (flat ps):=by
 intro x hx
 simp only [flat,List.mem_flatten,List.mem_map] at hx
 obtain ⟨l,⟨q,hq,rfl⟩,hx⟩:=hx
 exact (hok q hq).2.2.2 x hx
set_option maxHeartbeats 1000000 in
theorem sum_any (PA:Option Addr) (pc:Nat) (ps:List (Option Addr × Nat × List Int)) (w:World) (ht:TabsH w) (hP:Parts w PA ps) (hok:∀q ∈ ps,PartOk w q) (hl:(flat ps).length≤100000) (hpl:ps.length≤1000) :
 Calls Tryz.prog 82 #[.slice PA ps.length pc] w fun e w'=>∃ys,e=.returned (.agg (ints .u8 ys).toArray)∧Hid (ys=hash (flat ps))∧Hid (ys.length=64)∧Below w.heap.size w w':=by
 obtain ⟨z53,s53⟩:=zero_of_info Tryz.info137
 obtain ⟨z50,s50⟩:=zero_of_info Tryz.info135
 obtain ⟨z24,s24⟩:=zero_of_info Tryz.info83
 have hF:(w.alloc (.cells (ints .u8 (hzeros 64)).toArray 83)).rangeAt 0 0 (ints .u64 FIRST):=fun j v hv=>by
  simp only [ints,List.getElem?_map,Option.map_eq_some_iff] at hv
  obtain ⟨x,hx,rfl⟩:=hv
  have:=(ht.next (below_new w (.cells (ints .u8 (hzeros 64)).toArray 83))).2.2 j x hx
  rw [Nat.zero_add];exact this
 have h50:(Tryz.prog.info? 135).map (·.size)=some (ints .u64 FIRST).length:=by rw [s50];rfl
 go_enter Tryz.func82,Tryz.ntmps82
 go_wp2_with (first
  | (with_reducible refine wpList_load_mid (op:=⟨some 7,.load 135 (.global 0),_,_,_,_⟩) rfl 135 (.global 0) rfl 0 0 rfl (ints .u64 FIRST) _ hF Tryz.underlying135 rfl h50 ?_)
  | (with_reducible refine wpList_build_eq (o:=⟨some 8,.build 137 #[(0,.tmp 7)],_,_,_,_⟩) rfl 137 #[(0,.tmp 7)] rfl HNEW ?hb ?_;(case hb=>exact built53))
  | (with_reducible refine wpList_store_mid (op:=⟨none,.store 137 (.tmp 3) (.tmp 8),_,_,_,_⟩) rfl 137 (.tmp 3) (.tmp 8) rfl _ 0 HNEW rfl rfl ?_ ?_ HNEW_one ?_))
 ·have h:=HZERO_cells (w.alloc (.cells (ints .u8 (hzeros 64)).toArray 83)) 137
  rw [World.size_alloc] at h
  rw [HNEW_size];exact h
 ·rw [s53,HNEW_size]
 obtain ⟨r,hr⟩:∃r,r=w.heap.size:=⟨_,rfl⟩
 have hth:((w.alloc (.cells (ints .u8 (hzeros 64)).toArray 83)).alloc (.cells HZERO 137)).there (r+1) 0 HNEW.toList.length:=by
  have h:=HZERO_cells (w.alloc (.cells (ints .u8 (hzeros 64)).toArray 83)) 137
  rw [World.size_alloc] at h
  rw [hr,Array.length_toList,HNEW_size];exact h
 have hrg:=World.rangeAt_setCells_same _ _ _ _ hth
 have hth2:=World.there_setCells hth (r+1) 0 HNEW.toList
 have hA0:Abs (((w.alloc (.cells (ints .u8 (hzeros 64)).toArray 83)).alloc (.cells HZERO 137)).setCells (r+1) 0 HNEW.toList) (r+1) (flat (ps.take 0)):=abs_new _ _ hrg hth2
 have hR0:Arr (((w.alloc (.cells (ints .u8 (hzeros 64)).toArray 83)).alloc (.cells HZERO 137)).setCells (r+1) 0 HNEW.toList) r 0 .u8 (hzeros 64):=by
  have h:=((Arr.made w .u8 (hzeros 64) 83).alloc (.cells HZERO 137)).past (b':=r+1) (o':=0) HNEW.toList (.inl (by omega))
  rw [←hr] at h;exact h
 have hB0:Below w.heap.size w (((w.alloc (.cells (ints .u8 (hzeros 64)).toArray 83)).alloc (.cells HZERO 137)).setCells (r+1) 0 HNEW.toList) :=
  Below.setCells ((below_new _ _).alloc (by simp) _) (by omega) _ _
 have hS0:(((w.alloc (.cells (ints .u8 (hzeros 64)).toArray 83)).alloc (.cells HZERO 137)).setCells (r+1) 0 HNEW.toList).heap.size=r+2:=by rw [setCells_size,hr];simp
 rw [←hr] at hB0 ⊢
 have HR:=hid hr
 clear hth hrg hth2 hF hr
 generalize ((w.alloc (.cells (ints .u8 (hzeros 64)).toArray 83)).alloc (.cells HZERO 137)).setCells (r+1) 0 HNEW.toList=W at *
 generalize List.foldl (fun cs x=>cs.setIfInBounds x.snd x.fst) HZERO (ints IntKind.u64 FIRST).zipIdx=c8
 have hwr:=HR.out
 go_loopw [4,11] (fun v i wr=>∃k:Nat,k≤ps.length∧i=.int .i64 k∧(∃L:Nat,v=.int .i64 L∧Hid (L=(flat (ps.take k)).length))∧Abs wr (r+1) (flat (ps.take k))∧Only (r+1) W wr) (fun _ i _=>ps.length - (intOf i).toNat)
 case atStart=>exact ⟨0,Nat.zero_le _,rfl,⟨0,rfl,hid rfl⟩,hA0,Only.refl _ _⟩
 case round =>
  clear hwr
  obtain ⟨k,hk,rfl,⟨L,rfl,HL⟩,hA,hO⟩:=hrel
  have hBr:Below w.heap.size w wr:=by rw [←HR.out];exact hB0.trans (hO.below (by omega) (by omega))
  have hTr:TabsH wr:=ht.next hBr
  by_cases hlt:k<ps.length
  ·obtain ⟨q,hq⟩:∃q,ps[k]? = some q:=⟨ps[k],by simp [hlt]⟩
   obtain ⟨hN,hqc,hq1,hqb⟩:=hok q (List.mem_of_getElem? hq)
   obtain ⟨g,off,rfl,hg,hc⟩:=hP (by omega)
   have hck:=hc k q hq
   have hcr:wr.cell? ⟨g,off+k,none⟩=some (.slice q.1 q.2.2.length q.2.1):=(hBr.cell (p:=⟨g,off+k,none⟩) hg).trans hck
   have hft:=flat_take ps k hq
   have hfl:=flat_take_le ps (k+1)
   rw [hft,List.length_append] at hfl
   have HFT:=hid hft
   have hLe:L+q.2.2.length≤100000:=by have:=HL.out;omega
   have hNr:=hN.below hBr
   have hne:0<q.2.2.length→∀g o s,q.1=some ⟨g,o,s⟩→g≠r+1:=fun hp g o s e=>by
    obtain ⟨b,off,e2,hlt,_⟩:=hN hp
    rw [e2] at e;injection e with e;injection e with e1;have:=HR.out;omega
   have HQ:=hid hq
   clear hft hfl hck hc hq
   obtain ⟨qA,qc,qx⟩:=q
   simp only at hcr hLe hNr hne hqc hq1 hqb HFT hN
   have k0:(0:Int)≤k:=by omega
   have k1:(k:Int)<ps.length:=by omega
   go_wp2_with (go_at_call 106;refine (take_any (r+1) qA qc (flat (ps.take k)) qx _ hTr (by have:=ht.1;have:=HR.out;omega) hA hNr hne hqc (by omega) hqb).mono ?_;rintro e w3 ⟨rfl,hA3,hO3⟩)
   go_roundw
   case rel=>exact ⟨k+1,by omega,by go_num,⟨L+qx.length,by go_num,by show _=_;rw [HFT.out,List.length_append,HL.out]⟩,by rw [HFT.out];exact hA3,hO.trans hO3⟩
   case measure=>simp [intOf];omega
  ·have hkk:ps.take k=ps:=List.take_of_length_le (by omega)
   rw [hkk] at HL hA
   have hL1:(flat ps).length=L:=HL.out.symm
   have hLe:L≤1099511627776:=by omega
   obtain ⟨m,hm⟩:∃m,m=flat ps:=⟨_,rfl⟩
   have HM:=hid hm
   rw [←hm] at HL hA hl
   have hmb:HByt m:=by rw [hm];exact flat_byt hok
   clear hkk hm hL1
   have hrlt:=hA.lt
   have hRw:Arr wr r 0 .u8 (hzeros 64):=hR0.only hO (by omega)
   have harr:∀(W:World) (A:Option Addr) (d:Nat),(Instr.arrayAt 83 (.slice A 64 d)).run Tryz.prog W=.ok (.pointer A) W:=fun W A d=>by simp [Instr.arrayAt,run_underlying Tryz.underlying83]
   go_wp2_with (first
    | (go_at_call 107;refine (pad_yes L _ hLe).mono ?_;rintro e w3 ⟨A3,c3,y3,rfl,HY3,hy3,hN3,hb3⟩;have hA3:=hA.next hb3;have hT3:=hTr.next hb3;have hy4:y3.length≤1000:=(by rw [HY3.out,padB_length];omega);have hne3:0<y3.length→∀g o s,A3=some ⟨g,o,s⟩→g≠r+1:=(by intro hp g o s e;obtain ⟨b,off,e2,hlo,_⟩:=hN3 hp;rw [e2] at e;injection e with e;injection e with e1;omega))
    | (go_at_call 106;refine (take_any (r+1) A3 c3 m y3 _ hT3 (by have:=ht.1;have:=HR.out;omega) hA3 hN3.nums hne3 hy3 (by omega) (pad_byt HY3)).mono ?_;rintro e w4 ⟨rfl,⟨blk,hH4,_⟩,hO4⟩)
    | (go_at_call 108;refine (bytes8 (hdgs (m++y3)) (r+1) _ hH4.ns).mono ?_;rintro e w5 ⟨B5,d5,y5,rfl,HY5,HL5,hN5,hb5⟩;obtain ⟨b5,o5,rfl,_,_,hc5⟩:=hN5 (by rw [HL5.out];omega);have hrg5:=range_nums hc5;have hR5:=(((hRw.next' hb3).only hO4 (by omega)).next' hb5);have hth5:w5.there r 0 (ints .u8 y5).toArray.size:=(by have:=hR5.there;simpa [hzeros,HL5.out] using this);have hsz5:(Tryz.prog.info? 83).map (·.size)=some (ints .u8 y5).length:=(by rw [s24,ints_length,HL5.out]);have hsz6:(Tryz.prog.info? 83).map (·.size)=some (ints .u8 y5).toArray.size:=(by rw [s24];simp [HL5.out]))
    | (with_reducible refine wpList_load_mid (op:=⟨some 29,.load 83 (.tmp 28),_,_,_,_⟩) rfl 83 (.tmp 28) rfl b5 o5 rfl (ints .u8 y5) _ hrg5 Tryz.underlying83 rfl hsz5 ?_)
    | (with_reducible refine wpList_store_mid (op:=⟨none,.store 83 (.tmp 2) (.tmp 29),_,_,_,_⟩) rfl 83 (.tmp 2) (.tmp 29) rfl r 0 (ints .u8 y5).toArray rfl rfl hth5 hsz6 (ints_all _ _) ?_))
   have hfin:=hR5.all (ys:=y5) (by simp [hzeros,HL5.out])
   have hBf:Below w.heap.size w (w5.setCells r 0 (ints .u8 y5)):=by
    have h1:=((hBr.trans (hb3.mono hBr.size)).trans (hO4.below (B:=w.heap.size) (by have:=HR.out;omega) (Nat.le_trans hBr.size hb3.size)))
    have h2:=h1.trans (hb5.mono h1.size)
    exact Below.setCells h2 (by have:=HR.out;omega) _ _
   exact ret_rows rfl r 0 rfl (ints .u8 y5) _ hfin.range Tryz.underlying83 rfl hsz5 rfl ⟨y5,rfl,by show _=_;rw [HY5.out,HY3.out,HL.out,HM.out];rfl,HL5,hBf⟩
theorem ext_more (l:List Int) (n k:Nat):∃r,ext l (n+k)=ext l n++r:=by
 induction k with
 | zero=>exact ⟨[],by simp⟩
 | succ k ih =>
   obtain ⟨r,hr⟩:=ih
   exact ⟨r++[nxt (ext l (n+k))],by rw [←Nat.add_assoc,ext,hr,List.append_assoc]⟩
theorem ext_take (l:List Int) (n k:Nat):(ext l (n+k)).take (l.length+n)=ext l n:=by
 obtain ⟨r,hr⟩:=ext_more l n k
 rw [hr,←ext_length l n,List.take_left]
theorem sch_len {blk:List Int} (h:blk.length=128):(sch blk).length=80:=by
 unfold sch;rw [ext_length,joinB_length,h]
theorem sch_low {blk:List Int} (h:blk.length=128) {t:Nat} (ht:t<16):(sch blk)[t]? = some (hiv (chunk 8 blk t)):=by
 obtain ⟨r,hr⟩:=ext_more (joinB true 8 blk) 0 64
 rw [Nat.zero_add] at hr
 have hl:(joinB true 8 blk).length=16:=by rw [joinB_length,h]
 have e:(sch blk)[t]? = (joinB true 8 blk)[t]? := by
  unfold sch
  rw [hr]
  show (joinB true 8 blk++r)[t]? = _
  rw [List.getElem?_append_left (by omega)]
 rw [e]
 have hj:(joinB true 8 blk)[t]? = some ((joinB true 8 blk)[t]'(by omega)):=by simp [hl,ht]
 rw [hj,(join_get true 8 blk hj).2]
 rfl
theorem sch_high {blk:List Int} (h:blk.length=128) {t:Nat} (ht:16≤t) (h80:t<80):(sch blk)[t]? = some (nxt ((sch blk).take t)):=by
 have hl:(joinB true 8 blk).length=16:=by rw [joinB_length,h]
 obtain ⟨n,rfl⟩:∃n,t=16+n:=⟨t - 16,by omega⟩
 have e1:(sch blk).take (16+n)=ext (joinB true 8 blk) n:=by
  have:=ext_take (joinB true 8 blk) n (64 - n)
  rw [hl,show n+(64 - n)=64 by omega] at this
  exact this
 have e2:(sch blk).take (16+n+1)=ext (joinB true 8 blk) (n+1):=by
  have:=ext_take (joinB true 8 blk) (n+1) (64 - (n+1))
  rw [hl,show n+1+(64 - (n+1))=64 by omega] at this
  exact this
 rw [e1]
 have e3:((sch blk).take (16+n+1))[16+n]? = (sch blk)[16+n]? := by rw [List.getElem?_take,if_pos (by omega)]
 rw [←e3,e2]
 show (ext (joinB true 8 blk) n++[nxt (ext (joinB true 8 blk) n)])[16+n]? = _
 have hel:(ext (joinB true 8 blk) n).length=16+n:=by rw [ext_length,hl]
 rw [List.getElem?_append_right (by omega),hel,Nat.sub_self]
 rfl
theorem sch_wd {blk:List Int} (h:blk.length=128) (hb:HByt blk):AllWd (sch blk):=by
 refine ext_wd _ ?_ 64
 intro x hx
 obtain ⟨i,hi,rfl⟩:=List.mem_iff_getElem.1 hx
 have h2:=join_get true 8 blk (j:=i) (x:=(joinB true 8 blk)[i]) (by simp [hi])
 have hc:=hiv_bd _ (chunk_byt hb 8 i)
 have hl:(chunk 8 blk i).length=8:=by have:=h2.1;simp [chunk];omega
 rw [hl] at hc
 rw [h2.2]
 exact hc
theorem nxt_take {ws:List Int} {t:Nat} (ht:16≤t) (hl:t≤ws.length):nxt (ws.take t)=hplus (hplus (hplus (ws.getD (t - 16) 0) (sg0 (ws.getD (t - 15) 0))) (ws.getD (t - 7) 0)) (sg1 (ws.getD (t - 2) 0)):=by
 have hlen:(ws.take t).length=t:=by simp;omega
 have e:∀i,i<t→(ws.take t).getD i 0=ws.getD i 0:=fun i hi=>by
  simp [List.getD,hi]
 unfold nxt
 rw [hlen,e _ (by omega),e _ (by omega),e _ (by omega),e _ (by omega)]
theorem chunk_chunk {m:List Int} {q t:Nat} (ht:t<16):chunk 8 (chunk 128 m q) t=(m.drop (q*128+t*8)).take 8:=by
 unfold chunk
 rw [List.drop_take,List.drop_drop,List.take_take]
 congr 1
 omega
theorem Owns.addr {w:World} {base:Nat} {e:TypeId} {k:IntKind} {A:Option Addr} {n c:Nat} {xs:List Int} (h:Owns w base e k (.slice A n c) xs) (hp:0<xs.length):∃g,A=some ⟨g,0,none⟩∧n≤c:=by
 have hn:=h.len
 rcases h.2 with ⟨hv,h0⟩|⟨g,cap,cur,hv,_,_,hle,_⟩
 ·omega
 ·injection hv with h1 h2 h3
  exact ⟨g,h1,by omega⟩
end
end Go.Proofs.YtkblmdakejmmhaaGreatDoor
