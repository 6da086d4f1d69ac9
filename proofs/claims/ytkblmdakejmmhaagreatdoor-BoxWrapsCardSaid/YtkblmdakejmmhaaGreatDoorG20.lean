import Derived.Test.YtkblmdakejmmhaaGreatDoorG19
import Derived.Deep.Onto
namespace Go.Proofs.YtkblmdakejmmhaaGreatDoor
open Go Go.RowKit
section
set_option maxRecDepth 50000
open Go Go.RowKit Go.Lib
abbrev Part:=Option Addr × Nat × List Int
def sv (q:Part):Value:=.slice q.1 q.2.2.length q.2.1
theorem infSlV:(Tryz.prog.info? 23).map (fun i=>(i.zero,i.size,i.bytes))=some (some (.slice none 0 0),1,24):=by kernel_rfl
theorem info_partsV {P:Program} {e bytes:Nat} {z:Value} (h:(P.info? e).map (fun i=>(i.zero,i.size,i.bytes))=some (some z,1,bytes)):∃i,P.info? e=some i∧i.zero=some z∧i.size=1∧i.bytes=bytes:=by
 cases hq:P.info? e with
 | none=>rw [hq] at h;simp at h
 | some i =>
   rw [hq] at h
   simp only [Option.map_some,Option.some.injEq,Prod.mk.injEq] at h
   exact ⟨i,rfl,h.1,h.2.1,h.2.2⟩
def OwnsP (w:World) (base:Nat) (v:Value) (ps:List Part):Prop:=w.ownsRow base 23 1 v ps.length (ps.map sv)
section
variable {w w':World} {base:Nat} {v:Value} {ps qs:List Part}
theorem OwnsP.stay (h:OwnsP w base v ps) (hb:Below w.heap.size w w'):OwnsP w' base v ps:=by
 refine ⟨h.1,?_⟩
 rcases h.2 with h2|⟨g,cap,cur,hv,hg,hh,r⟩
 ·exact .inl h2
 ·refine .inr ⟨g,cap,cur,hv,hg,(hb.block g ?_).trans hh,r⟩
  rcases Nat.lt_or_ge g w.heap.size with hlt|hge
  ·exact hlt
  ·rw [Array.getElem?_eq_none hge] at hh;cases hh
theorem OwnsP.lt (h:OwnsP w base v ps):∀g,v.ownBlock=some g→base≤g∧g<w.heap.size:=World.ownsRow.lt h
theorem OwnsP.len {A:Option Addr} {n c:Nat} (h:OwnsP w base (.slice A n c) ps):n=ps.length:=by
 rcases h.2 with ⟨hv,hn⟩|⟨g,cap,cur,hv,_⟩
 ·injection hv with h1 h2 h3;omega
 ·injection hv
theorem OwnsP.parts {A:Option Addr} {n c:Nat} (h:OwnsP w base (.slice A n c) ps):Parts w A ps:=fun hp=>by
 have h0:w.ownsRow base 23 1 (.slice A n c) ps.length (ps.map sv):=h
 have hlt:=h0.lt
 rcases h.2 with ⟨hv,hn⟩|⟨g,cap,cur,hv,hg,hh,r⟩
 ·omega
 ·injection hv with h1 h2 h3
  subst h1;subst h2;subst h3
  refine ⟨g,0,rfl,(hlt g rfl).2,fun i q hi=>?_⟩
  have hil:=(List.getElem?_eq_some_iff.1 hi).1
  rw [Nat.zero_add,World.ownsRow.cellAt h0 i (by omega)]
  simp [hi,sv]
theorem run_appP_nil (t ty:TypeId) (ht:Tryz.prog.underlying t=some (.slice 23)) (v:Value) (hown:OwnsP w base v ps) (c:Nat):(Builtin.append_ #[t,t] ty #[v,.slice none 0 c]).run Tryz.prog w=.ok v w:=by
 obtain ⟨i,hi,_,_,_⟩:=info_partsV infSlV
 rcases hown.2 with ⟨rfl,_⟩|⟨g,cap,cur,rfl,_,_,hnc,_⟩
 ·simp [Builtin.append_,run_underlying ht,sizeOf,typeInfo,hi,Builtin.lenOf,Builtin.firstCells]
 ·simp [Builtin.append_,run_underlying ht,sizeOf,typeInfo,hi,Builtin.lenOf,Builtin.firstCells,hnc,storeCells]
theorem run_appP (t ty:TypeId) (ht:Tryz.prog.underlying t=some (.slice 23)) (A:Option Addr) (n c:Nat) (hown:OwnsP w base (.slice A n c) ps) (B:Option Addr) (d:Nat) (hB:Parts w B qs) (h63:ps.length+qs.length≤100000) (hbase:base≤w.heap.size) :
 ∃A' n' c' w',(Builtin.append_ #[t,t] ty #[.slice A n c,.slice B qs.length d]).run Tryz.prog w=.ok (.slice A' n' c') w'∧OwnsP w' base (.slice A' n' c') (ps++qs)∧Grew w w' (.slice A n c) (.slice A' n' c'):=by
 by_cases h0:qs.length=0∧B=none
 ·obtain ⟨h1,rfl⟩:=h0
  obtain rfl:=List.eq_nil_of_length_eq_zero h1
  exact ⟨A,n,c,w,run_appP_nil t ty ht _ hown d,by rw [List.append_nil];exact hown,Grew.refl _ _⟩
 ·obtain ⟨i,hi,hz,hsize,hby⟩:=info_partsV infSlV
  obtain ⟨ad,rfl⟩:∃ad,B=some ad:=by
   cases B with
   | some ad=>exact ⟨ad,rfl⟩
   | none =>
     exfalso
     have hp:0<qs.length:=by
      rcases Nat.eq_zero_or_pos qs.length with h|h
      ·exact absurd ⟨h,rfl⟩ h0
      ·exact h
     obtain ⟨b,off,he,_⟩:=hB hp
     cases he
  obtain ⟨v',w',hrun,h2,h3,_,h5⟩:=run_append_own_at (P:=Tryz.prog) w base t ty 23 i (.slice none 0 0) 1 24 ht hi hz hsize hby rfl (by omega) (.slice A n c) ps.length (ps.map sv) hown ad qs.length d (qs.map sv) (by simp)
   (fun j u hu=>by
     rw [List.getElem?_map,Option.map_eq_some_iff] at hu
     obtain ⟨q,hq,rfl⟩:=hu
     obtain ⟨b,off,he,_,hc⟩:=hB (by have:=(List.getElem?_eq_some_iff.1 hq).1;omega)
     injection he with he
     subst he
     rw [Addr.add_mid]
     exact hc j q hq) (fun u hu=>by
     obtain ⟨y,_,rfl⟩:=List.mem_map.1 hu
     rfl) (by unfold maxLen;omega) (by omega) hbase
  have hform:∃A' n' c',v'=.slice A' n' c':=by
   rcases h2.2 with ⟨hv,_⟩|⟨g,cap,cur,hv,_⟩
   ·exact ⟨_,_,_,hv⟩
   ·exact ⟨_,_,_,hv⟩
  obtain ⟨A',n',c',rfl⟩:=hform
  refine ⟨A',n',c',w',hrun,?_,h3,?_⟩
  ·unfold OwnsP
   rw [List.map_append,List.length_append]
   exact h2
  ·rcases h5 with h|h
   ·exact .inl h
   ·exact .inr fun g hg=>by rw [h] at hg;injection hg with hg;omega
theorem app_parts {ops:Array Oper} {rest:List Oper} {o:Oper} {a:Act} {Q:Exit→Act→World→Prop} (hgd:o.guard=none) (s x:Operand)
 (ho:o.op=.call { callee:=.builtin .append,args:=#[s,x],argTypes:=#[56,56] }) (base:Nat) (A:Option Addr) (n c:Nat) (ps:List Part) (hs:a.eval s=.slice A n c)
 (hown:OwnsP w base (.slice A n c) ps) (B:Option Addr) (m d:Nat) (qs:List Part) (hx:a.eval x=.slice B m d) (hm:qs.length=m) (hB:Parts w B qs) (h63:ps.length+m≤100000) (hbase:base≤w.heap.size)
 (h:∀A' n' c' w',OwnsP w' base (.slice A' n' c') (ps++qs)→Grew w w' (.slice A n c) (.slice A' n' c')→wpList Tryz.prog ops Q rest (a.put o.dst (.slice A' n' c')) w'):wpList Tryz.prog ops Q (o::rest) a w:=by
 subst hm
 obtain ⟨A',n',c',w',hrun,h2,h3⟩:=run_appP (w:=w) (base:=base) 56 o.type (by kernel_rfl) A n c hown B d hB h63 hbase
 refine wpList_plain hgd fun _ hK=>?_
 unfold Oper.wp execOp
 simp only [ho,resolve,invoke,builtin,Sem.run_bind,Sem.run_pure,Result.andThen_ok,List.map_toArray,List.map_cons,List.map_nil,hs,hx,hrun]
 exact hK _ _ (h A' n' c' w' h2 h3)
end
theorem PartOk.below {w w':World} {q:Part} (h:PartOk w q) (hb:Below w.heap.size w w'):PartOk w' q:=⟨h.1.below hb,h.2⟩
theorem Parts.below {w w':World} {A:Option Addr} {ps:List (Option Addr × Nat × List Int)} (h:Parts w A ps) (hb:Below w.heap.size w w'):Parts w' A ps:=fun hp=>by
 obtain ⟨g,off,e,hlt,hc⟩:=h hp
 exact ⟨g,off,e,Nat.lt_of_lt_of_le hlt hb.size,fun i q hi=>(hb.cell (p:=⟨g,off+i,none⟩) hlt).trans (hc i q hi)⟩
theorem OwnsP.room (w:World) (base G:Nat) (cs:Array Value) (hb:base≤w.heap.size) (hs:cs.size=G) (hG:G≤maxLen):OwnsP (w.alloc (.cells cs 23)) base (.slice (some ⟨w.heap.size,0,none⟩) 0 G) [] :=
 ⟨rfl,.inr ⟨w.heap.size,G,cs,rfl,hb,heap_alloc_new w _,Nat.zero_le _,hG,by rw [hs];simp,by simp⟩⟩
set_option maxHeartbeats 2000000 in
theorem grow_any (n:Nat) (w:World) (h1:1≤n) (h2:n≤1000) :
 Calls Tryz.prog 109 #[.slice none 0 0,.int .i64 n] w fun e w'=>∃A c,e=.returned (.slice A 0 c)∧OwnsP w' w.heap.size (.slice A 0 c) []∧Below w.heap.size w w':=by
 obtain ⟨i,hi,hz,hsize,hby⟩:=info_partsV infSlV
 have hold:(Builtin.firstCells i.size 0 (.slice none 0 0)).run Tryz.prog w.drew=.ok ([]:List Value).toArray w.drew:=by
  rw [hsize]
  exact run_firstCells_none w.drew 1 0 0 0
 have hrz:∀ty,(Builtin.append_ #[56,3] ty #[.slice none 0 0,.int .i64 n]).run Tryz.prog w=_:=fun ty =>
  run_append_grow_zeros w 56 3 ty 23 i (.slice none 0 0) .i64 .i64 (by kernel_rfl) (by kernel_rfl) hi hz none 0 0 [] hold n (by omega) (by omega) (by omega) (by omega) (by rw [hby];omega)
   (growslice_fits (by omega) (by rw [hby];omega))
 have hGn:0+n≤grownCap w (0+n) 0 23:=grownCap_ge w _ _ _
 have hGm:grownCap w (0+n) 0 23≤maxLen:=grownCap_le_maxLen w (0+n) 0 23 (by unfold maxLen;omega)
 rw [Nat.zero_add] at hrz hGn hGm
 obtain ⟨G,hG⟩:∃G,G=grownCap w n 0 23:=⟨_,rfl⟩
 rw [←hG] at hrz hGn hGm
 obtain ⟨cs,hcs⟩:∃cs,cs=([]:List Value).toArray++Builtin.zeroCells (Value.slice none 0 0).cells n++Builtin.zeroCells (Value.slice none 0 0).cells (G - n):=⟨_,rfl⟩
 rw [←hcs] at hrz
 have hcl:cs.size=G:=by
  rw [hcs]
  simp [Builtin.zeroCells,Value.cells]
  omega
 have hP:=OwnsP.room w.drew w.heap.size G cs (Nat.le_refl _) hcl hGm
 have hW:Below w.heap.size w (w.drew.alloc (.cells cs 23)):=((Below.refl _ w).drew).alloc (Nat.le_refl _) _
 have hn1:(1:Int)≤n:=by omega
 have hn2:(n:Int)≤1000:=by omega
 have hG1:(G:Int)≤9223372036854775807:=by unfold maxLen at hGm;omega
 clear hold hG hcs hcl hi hz hsize hby hGm
 go_enter Tryz.func109,Tryz.ntmps109
 go_wp2_with (at_builtin;refine Lib.wpList_append_run _ rfl (.tmp 20) (.tmp 21) 56 3 rfl (.slice none 0 0) (.int .i64 n) rfl rfl _ _ (hrz _) ?_)
 go_ret
 exact ⟨_,_,rfl,hP,hW⟩
end
def CatS (n:Nat) (v i:Value):Prop:=(i=.int .i64 0∧v=.int .i64 0)∨(i=.int .i64 1∧v=.int .i64 1)∨(i=.int .i64 2∧v=.int .i64 (1+n))
def CatW (w0:World) (B:Nat) (q:Part) (ps:List Part) (v i:Value) (w:World):Prop:=∃A m c,v=.slice A m c∧((i=.int .i64 0∧OwnsP w B (.slice A m c) [])∨(i=.int .i64 1∧OwnsP w B (.slice A m c) [q])∨(i=.int .i64 2∧OwnsP w B (.slice A m c) ([q]++ps)))∧Below B w0 w
set_option maxRecDepth 50000 in
set_option maxHeartbeats 4000000 in
theorem cat_any (g n c1 pc:Nat) (A1 PA:Option Addr) (q:Part) (ps:List Part) (w:World) (hg:g<w.heap.size) (h0:w.cell? ⟨g,0,none⟩=some (.slice A1 1 c1)) (h1:w.cell? ⟨g,1,none⟩=some (.slice PA n pc)) (hP1:Parts w A1 [q]) (hP:Parts w PA ps) (hn:Hid (ps.length=n)) (hn2:n≤500) :
 Calls Tryz.prog 83 #[.slice (some ⟨g,0,none⟩) 2 2] w fun e w'=>∃A c,e=.returned (.slice A (1+n) c)∧OwnsP w' w.heap.size (.slice A (1+n) c) ([q]++ps)∧Below w.heap.size w w':=by
 have n0:(0:Int)≤n:=by omega
 have n1:(n:Int)≤500:=by omega
 have hneg:¬((1:Int)+(n:Int)<0):=by omega
 go_enter Tryz.func83,Tryz.ntmps83
 go_wp2
 go_loopw [3,11] (fun v i wr=>CatS n v i∧wr=w) (fun _ i _=>2 - (intOf i).toNat)
 case atStart=>exact ⟨.inl ⟨rfl,rfl⟩,rfl⟩
 case round =>
  obtain ⟨hC,rfl⟩:=hrel
  rcases hC with ⟨rfl,rfl⟩|⟨rfl,rfl⟩|⟨rfl,rfl⟩
  ·go_wp2
   go_roundw
   case rel=>exact ⟨.inr (.inl ⟨rfl,rfl⟩),trivial⟩
   case measure=>simp [intOf]
  ·go_wp2
   go_roundw
   case rel=>exact ⟨.inr (.inr ⟨rfl,by go_num⟩),trivial⟩
   case measure=>simp [intOf]
  ·go_wp2_with (go_at_call 109;refine (grow_any (1+n) _ (by omega) (by omega)).mono ?_;rintro e w1 ⟨A0,c0,rfl,hO0,hb1⟩)
   go_loopw [6,27] (fun v i w2=>CatW w1 wr.heap.size q ps v i w2) (fun _ i _=>2 - (intOf i).toNat)
   case atStart=>exact ⟨A0,0,c0,rfl,.inl ⟨rfl,hO0⟩,Below.refl _ _⟩
   case round =>
    obtain ⟨A,m,c,rfl,hC,hb⟩:=hrel
    rename World=>w2
    have hbb:Below wr.heap.size wr w2:=hb1.trans hb
    have k0:=(hbb.cell (p:=⟨g,0,none⟩) hg).trans h0
    have k1:=(hbb.cell (p:=⟨g,1,none⟩) hg).trans h1
    have hQ1:=hP1.below hbb
    have hQ:=hP.below hbb
    clear h0 h1 hP1 hP
    rcases hC with ⟨rfl,hO⟩|⟨rfl,hO⟩|⟨rfl,hO⟩
    ·go_wp2_with (at_builtin;refine app_parts rfl (.tmp 31) (.tmp 32) rfl wr.heap.size A m c [] rfl hO A1 1 c1 [q] rfl rfl hQ1 (by simp) hbb.size ?_;intro A' n' c' w3 hO3 hG)
     go_roundw
     case rel=>exact ⟨A',n',c',rfl,.inr (.inl ⟨rfl,hO3⟩),hb.trans (hG.below hbb.size fun g e=>(hO.lt g e).1)⟩
     case measure=>simp [intOf]
    ·go_wp2_with (at_builtin;refine app_parts rfl (.tmp 31) (.tmp 32) rfl wr.heap.size A m c [q] rfl hO PA n pc ps rfl hn.out hQ (by simp;omega) hbb.size ?_;intro A' n' c' w3 hO3 hG)
     go_roundw
     case rel=>exact ⟨A',n',c',rfl,.inr (.inr ⟨rfl,hO3⟩),hb.trans (hG.below hbb.size fun g e=>(hO.lt g e).1)⟩
     case measure=>simp [intOf]
    ·have hm:=hO.len
     rw [List.length_append,hn.out,List.length_singleton] at hm
     subst hm
     go_wp2
     go_ret
     exact ⟨A,c,rfl,hO,hbb⟩
section
set_option maxRecDepth 50000
def mixV (c:Int) (b:List Int) (k:Nat):List Int:=vxl c (b.take k)++b.drop k
theorem mixV_zero (c:Int) (b:List Int):mixV c b 0=b:=by simp [mixV,vxl]
theorem mixV_len (c:Int) (b:List Int) (k:Nat):(mixV c b k).length=b.length:=by
 unfold mixV
 rw [List.length_append,vxl_len,←List.length_append,List.take_append_drop]
theorem mixV_end (c:Int) (b:List Int) (k:Nat) (h:b.length≤k):mixV c b k=vxl c b:=by
 unfold mixV
 rw [List.take_of_length_le h,List.drop_eq_nil_of_le h,List.append_nil]
theorem mixV_at (c:Int) (b:List Int) (k:Nat) {x:Int} (h:b[k]? = some x):(mixV c b k)[k]? = some x:=by
 have hk:=(List.getElem?_eq_some_iff.1 h).1
 unfold mixV
 rw [List.getElem?_append_right (by rw [vxl_len,List.length_take];omega),vxl_len,List.length_take,Nat.min_eq_left (by omega),Nat.sub_self,List.getElem?_drop]
 exact h
theorem mixV_set (c:Int) (b:List Int) (k:Nat) {x:Int} (h:b[k]? = some x):(mixV c b k).set k (vx x c)=mixV c b (k+1):=by
 obtain ⟨hk,hx⟩:=List.getElem?_eq_some_iff.1 h
 have hl:(vxl c (b.take k)).length=k:=by rw [vxl_len,List.length_take];omega
 unfold mixV
 rw [List.set_append,if_neg (by omega),hl,Nat.sub_self,List.drop_eq_getElem_cons hk,hx,List.set_cons_zero,take_succ_at h]
 simp [vxl]
set_option maxHeartbeats 2000000 in
theorem comb_any (b:List Int) (c:Int) (w:World) (hl:Hid (b.length=128)) :
 Calls Tryz.prog 84 #[.agg (ints .u8 b).toArray,.int .u8 c] w fun e w'=>∃g,e=.returned (.slice (some ⟨g,0,none⟩) 128 128)∧w.heap.size≤g∧Arr w' g 0 .u8 (vxl c b)∧Below w.heap.size w w':=by
 have hA:=Arr.made w .u8 b 108
 have hW:=below_new w (.cells (ints .u8 b).toArray 108)
 go_enter Tryz.func84,Tryz.ntmps84
 go_wp2
 generalize w.alloc (.cells (ints .u8 b).toArray 108)=W at *
 go_loopw [6] (fun i wr=>∃k:Nat,k≤128∧i=.int .i64 k∧Below w.heap.size w wr∧Arr wr w.heap.size 0 .u8 (mixV c b k)) (fun i _=>128 - (intOf i).toNat)
 case atStart=>exact ⟨0,Nat.zero_le _,rfl,hW,by rw [mixV_zero];exact hA⟩
 case round =>
  clear hA hW
  obtain ⟨k,hk,rfl,hW,hA⟩:=hrel
  by_cases hlt:k<128
  ·obtain ⟨x,hx⟩:∃x,b[k]? = some x:=⟨b[k]'(by rw [hl.out];exact hlt),by simp [hl.out,hlt]⟩
   have hx1:=hA.at_ (mixV_at c b k hx)
   have hf:=hA.free (i:=k) (by rw [mixV_len,hl.out];exact hlt)
   rw [Nat.zero_add] at hx1 hf
   have HX:=hid (mixV_set c b k hx)
   obtain ⟨y,hy⟩:∃y,bits .xor .u8 x c=y:=⟨_,rfl⟩
   have hyx:vx x c=y:=hy
   rw [hyx] at HX
   have k0:(0:Int)≤k:=by omega
   have k1:(k:Int)<128:=by omega
   clear hyx hx
   go_wp2
   go_roundw
   case rel =>
    have h:=hA.set k y
    rw [HX.out,Nat.zero_add] at h
    exact ⟨k+1,by omega,by go_num,hW.setCell (Nat.le_refl _) _,h⟩
   case measure=>simp [intOf];omega
  ·have e:k=128:=by omega
   subst e
   rw [mixV_end c b 128 (by rw [hl.out];omega)] at hA
   go_wp2
   go_ret
   exact ⟨_,rfl,Nat.le_refl _,hA,hW⟩
def IsPart (n:Nat) (l:List Int):Value→World→Prop:=fun v w=>∃B d,v=.slice B n d∧n≤d∧Nums w .u8 B l
theorem IsPart.grows (n:Nat) (l:List Int):Grows (IsPart n l):=fun _ _ _ ⟨B,d,h1,h2,h3⟩ hb=>⟨B,d,h1,h2,h3.below hb⟩
def IsPs (m:Nat) (T:List Int):Value→World→Prop:=fun v w=>∃PA pc ps,v=.slice PA m pc∧ps.length=m∧Parts w PA ps∧(∀q ∈ ps,PartOk w q)∧flat ps=T
theorem IsPs.grows (m:Nat) (T:List Int):Grows (IsPs m T):=fun _ _ _ ⟨PA,pc,ps,h1,h2,h3,h4,h5⟩ hb=>⟨PA,pc,ps,h1,h2,h3.below hb,fun q hq=>(h4 q hq).below hb,h5⟩
def PL (n:Nat) (l:List Int):Prop:=l.length=n∧n≤1000∧HByt l
section
variable {ops:Array Oper} {md:Region.Mode} {W:World} {a0:Act} {n:Nat} {al:Nat→Bool} {S:Nat→Value→World→Prop} {Q:Exit→Act→World→Prop} {i:Nat} {o:Oper}
theorem Knows.part {x:Operand} {A:Option Addr} {q c:Nat} {l:List Int} (h:Knows ops md W a0 n S i x (.slice A q c)) (hc:q≤c) (hN:∀w,Cl W w→Nums w .u8 A l):KnowsW ops md W a0 n S i x (IsPart q l):=fun a w hw hf hd=>⟨A,c,h a w hw hf hd,hc,hN w hw⟩
theorem step_callR (hal:al i=false) (hg:GuardOn ops md n S i o) {R:Value→World→Prop} {f:FuncId} {xs:Array Operand} {ts:Array TypeId} (ho:o.op=.call { callee:=.value (.func f),args:=xs,argTypes:=ts }) (hcf:∀vs w,(callFunc f vs).run Tryz.prog w=.ok (.enter f vs) w)
 (hS:S i=R) (hv:∀(a:Act) (w:World),Cl W w→Fr ops n a0 a→Dp ops md n S i a w→∃vs,xs.map a.eval=vs∧Calls Tryz.prog f vs w fun e w'=>∃v,e=.returned v∧R v w'∧Below w.heap.size w w'):StepOk Tryz.prog ops md W a0 n al S Q i o :=
 step_call hal hg fun a w hw hf hd=>by
  obtain ⟨vs,h1,h2⟩:=hv a w hw hf hd
  refine ⟨f,vs,?_,h2.mono fun _ _ ⟨v,he,hr,hb⟩=>⟨v,he,by rw [hS];exact hr,hb⟩⟩
  exact ex_fnP rfl hcf ho vs h1 w
theorem part_at {w:World} {q:Nat} {l:List Int} {v:Value} (h:IsPart q l v w) (hp:PL q l):∃p:Option Addr × Nat × List Int,v=.slice p.1 p.2.2.length p.2.1∧PartOk w p∧p.2.2=l:=by
 obtain ⟨B,d,h1,h2,h3⟩:=h
 obtain ⟨h4,h5,h6⟩:=hp
 exact ⟨(B,d,l),by rw [h1,←h4],⟨h3,by rw [←h4] at h2;exact h2,by show l.length≤1000;omega,h6⟩,rfl⟩
theorem step_lit2 (hal:al i=false) (hg:GuardOn ops md n S i o) {x1 x2:Operand} {q1 q2:Nat} {l1 l2 T:List Int} (ho:o.op=.buildSlice 56 2 #[(0,x1),(1,x2)])
 (p1:PL q1 l1) (p2:PL q2 l2) (hT:l1++(l2)=T) (hS:S i=IsPs 2 T)
 (h1:KnowsW ops md W a0 n S i x1 (IsPart q1 l1)) (h2:KnowsW ops md W a0 n S i x2 (IsPart q2 l2)):StepOk Tryz.prog ops md W a0 n al S Q i o:=fun a w hw hf' hd=>by
 rw [if_pos (hg.wanted hd)]
 obtain ⟨r1,e1,o1,t1⟩:=part_at (h1 a w hw hf' hd) p1
 obtain ⟨r2,e2,o2,t2⟩:=part_at (h2 a w hw hf' hd) p2
 have hI:=infSlV
 cases hq:Tryz.prog.info? 23 with
 | none=>rw [hq] at hI;simp at hI
 | some ie =>
   rw [hq] at hI
   simp only [Option.map_some,Option.some.injEq,Prod.mk.injEq] at hI
   obtain ⟨hz,hs1,_⟩:=hI
   have hfill:∀(A1 A2:Option Addr) (n1 n2 c1 c2:Nat),Instr.fill (fun i=>some (i*1,1)) ((Array.range (2*1)).map (fun i=>(Value.slice none 0 0).cells[i%(Value.slice none 0 0).cells.size]!)) [(0,Value.slice A1 n1 c1),(1,Value.slice A2 n2 c2)]=some #[Value.slice A1 n1 c1,Value.slice A2 n2 c2]:=fun A1 A2 n1 n2 c1 c2=>by kernel_rfl
   have hv:(#[(0,x1),(1,x2)].map fun ((i:Nat),(x:Operand))=>(i,a.eval x)).toList=[(0,a.eval x1),(1,a.eval x2)]:=by simp
   rw [e1,e2] at hv
   refine wp_buildSlice 56 23 2 _ ho _ ie _ (by kernel_rfl) hq hz (by rw [hs1];decide) (by rw [hs1];decide) (by rw [hs1];rw [hv];exact hfill _ _ _ _ _ _) ?_
   refine ⟨_,rfl,?_,below_new w _,fun e=>by rw [hal] at e;cases e⟩
   rw [hS]
   have hb:=below_new w (.cells #[.slice r1.1 r1.2.2.length r1.2.1,.slice r2.1 r2.2.2.length r2.2.1] 23)
   refine ⟨_,2,[r1,r2],rfl,rfl,fun _=>⟨w.heap.size,0,rfl,by simp,fun j q hj=>?_⟩,fun q hq=>?_,?_⟩
   ·rw [Nat.zero_add,World.cell?_alloc_new]
    have hj6:=(List.getElem?_eq_some_iff.1 hj).1
    have:j=0∨j=1:=by simp at hj6;omega
    rcases this with rfl|rfl <;> (simp at hj;subst hj;rfl)
   ·simp only [List.mem_cons,List.not_mem_nil,or_false] at hq
    rcases hq with rfl|rfl
    ·exact o1.below hb
    ·exact o2.below hb
   ·simp only [flat,List.map_cons,List.map_nil,List.flatten_cons,List.flatten_nil,List.append_nil,t1,t2]
    exact hT
theorem cxSum (vs:Array Value) (w:World):(callFunc 82 vs).run Tryz.prog w=.ok (.enter 82 vs) w:=by go_simp
theorem cxComb (vs:Array Value) (w:World):(callFunc 84 vs).run Tryz.prog w=.ok (.enter 84 vs) w:=by go_simp
theorem step_sumP (hal:al i=false) (hg:GuardOn ops md n S i o) {x:Operand} {ts:Array TypeId} {r T:List Int} {q:Nat} (ho:o.op=.call { callee:=.value (.func 82),args:=#[x],argTypes:=ts }) (hT:TabsH W) (hq2:q≤1000) (hl:T.length≤100000) (hr:hash T=r) (hS:S i=Is (.agg (ints .u8 r).toArray))
 (hx:KnowsW ops md W a0 n S i x (IsPs q T)):StepOk Tryz.prog ops md W a0 n al S Q i o :=
 step_call hal hg fun a w hw hf hd=>by
  obtain ⟨PA,pc,ps,h1,h2,h3,h4,h5⟩:=hx a w hw hf hd
  refine ⟨82,#[.slice PA q pc],ex_fn rfl cxSum ho _ (by rw [map1,h1]) w,(vsum PA pc q ps T r w (hT.next hw) h3 h4 (hid h2) hq2 (hid h5) (hid hl) (hid hr)).mono fun e w' ⟨he,hbl⟩=>⟨_,he,by rw [hS];exact rfl,hbl⟩⟩
theorem step_comb (hal:al i=false) (hg:GuardOn ops md n S i o) {x y:Operand} {ts:Array TypeId} {b r:List Int} {c:Int} (ho:o.op=.call { callee:=.value (.func 84),args:=#[x,y],argTypes:=ts }) (hl:b.length=128) (hr:vxl c b=r) (hS:S i=IsPart 128 r)
 (hx:Knows ops md W a0 n S i x (.agg (ints .u8 b).toArray)) (hy:Knows ops md W a0 n S i y (.int .u8 c)):StepOk Tryz.prog ops md W a0 n al S Q i o :=
 step_callR hal hg ho cxComb hS fun a w hw hf hd=>⟨_,by rw [map2,hx a w hw hf hd,hy a w hw hf hd],(comb_any b c w (hid hl)).mono fun e w' ⟨g,he,_,hA,hb⟩=>⟨_,he,⟨some ⟨g,0,none⟩,128,rfl,Nat.le_refl _,by rw [←hr];exact hA.nums⟩,hb⟩⟩
end
theorem zvH (k:IntKind) (m:Nat):(ints k (hzeros m)).length=m:=il (hz_len m)
theorem uaV32:Tryz.prog.underlying 22=some (.array (Tryz.prog.arrayLen 22) (Tryz.prog.elem 22)):=by kernel_rfl
theorem uaV64:Tryz.prog.underlying 83=some (.array (Tryz.prog.arrayLen 83) (Tryz.prog.elem 83)):=by kernel_rfl
theorem uaVs:Tryz.prog.underlying 23=some (.slice (Tryz.prog.elem 23)):=by kernel_rfl
theorem zeV32:∀w,(sizeOf (Tryz.prog.elem 22)).run Tryz.prog w=.ok 1 w:=fun w=>by kernel_rfl
theorem zeV64:∀w,(sizeOf (Tryz.prog.elem 83)).run Tryz.prog w=.ok 1 w:=fun w=>by kernel_rfl
theorem eqV32:Tryz.prog.underlying 22=some (.array 32 5)∧Tryz.prog.underlying 5=some (.int .u8)∧(Tryz.prog.info? 5).map (·.size)=some 1∧Tryz.prog.eqGuardType Tryz.prog.depth 22=false:=⟨by kernel_rfl,by kernel_rfl,by kernel_rfl,by kernel_rfl⟩
end
section
set_option maxRecDepth 50000
set_option maxHeartbeats 4000000 in
theorem vtag_core (key T F I O h r:List Int) (A PA:Option Addr) (l c m pc:Nat) (ps:List Part) (w:World) (hT:TabsH w) (HK:Hid (key.length=l)) (h1:l≤1000) (hlc:l≤c) (hkb:HByt key) (hA:Nums w .u8 A key) (hP:Parts w PA ps) (hok:∀q ∈ ps,PartOk w q) (hm:Hid (ps.length=m)) (hm2:m≤500) (HT:Hid (flat ps=T)) (HTL:Hid ((I++T).length≤100000))
 (HF:Hid (fillV key=F)) (HFL:Hid (F.length=128)) (HI:Hid (vxl 54 F=I)) (HIL:Hid (PL 128 I)) (HO:Hid (vxl 92 F=O)) (HOL:Hid (PL 128 O)) (Hh:Hid (hash (I++T)=h)) (HhL:Hid (PL 64 h)) (HhN:Hid (h.length=64)) (HOH:Hid ((O++h).length≤100000)) (Hr:Hid (hash (O++h)=r)) (HrL:Hid (r.length=64)) :
 Calls Tryz.prog 57 #[.slice A l c,.slice PA m pc] w fun e w'=>e=.returned (.agg (ints .u8 r).toArray)∧Below w.heap.size w w':=by
 obtain ⟨z64,s64⟩:=zero_of_info infH
 obtain ⟨z128,s128⟩:=zero_of_info infF
 have h4:=Rw.new w (ints .u8 (hzeros 64)) 83
 have hW:=below_new w (.cells (ints .u8 (hzeros 64)).toArray 83)
 replace hT:=hT.next hW
 replace hA:=hA.below hW
 replace hP:=hP.below hW
 have hok1:∀q ∈ ps,PartOk (w.alloc (.cells (ints .u8 (hzeros 64)).toArray 83)) q:=fun q hq=>(hok q hq).below hW
 clear hok
 go_enter Tryz.func57,Tryz.ntmps57
 go_wp2_with (first
  | (go_at_call 81;generalize w.alloc (.cells (ints .u8 (hzeros 64)).toArray 83)=w0 at *;refine (fill_any A l c key _ hT HK h1 hlc hkb hA).mono ?_;rintro e w1 ⟨rfl,hb1⟩
     rw [HF.out]
     have R5:=(Rw.new w1 (ints .u8 (hzeros 128)) 108).roomA (us:=ints .u8 F) ((il HFL.out).trans (il (hz_len 128)).symm)
     have h5:=(Rw.new w1 (ints .u8 (hzeros 128)) 108).storedA (us:=ints .u8 F) ((il HFL.out).trans (il (hz_len 128)).symm)
     have hb2:=hb1.trans (Below.mono (Below.setCells (below_new w1 (.cells (ints .u8 (hzeros 128)).toArray 108)) (Nat.le_refl _) 0 (ints .u8 F).toArray.toList) hb1.size)
     replace h4:=h4.next hb2
     replace hT:=hT.next hb2
     replace hP:=hP.below hb2
     have hok2:∀q ∈ ps,PartOk ((w1.alloc (.cells (ints .u8 (hzeros 128)).toArray 108)).setCells w1.heap.size 0 (ints .u8 F).toArray.toList) q:=fun q hq=>(hok1 q hq).below hb2
     replace hW:=hW.trans (Below.mono hb2 hW.size)
     clear hb1 hb2 hA hok1)
  | (with_reducible refine wpList_store_mid (op:=⟨none,.store 108 (.tmp 5) (.tmp 8),_,_,_,_⟩) rfl 108 (.tmp 5) (.tmp 8) rfl w1.heap.size 0 (ints .u8 F).toArray rfl rfl R5 (szA infF (il HFL.out)) (ints_all _ _) ?_
     generalize (w1.alloc (.cells (ints .u8 (hzeros 128)).toArray 108)).setCells w1.heap.size 0 (ints .u8 F).toArray.toList=w2 at *
     generalize w1.heap.size=b5 at *
     clear R5
     have r5:=h5.range)
  | (with_reducible refine wpList_load_mid (op:=⟨some 9,.load 108 (.tmp 5),_,_,_,_⟩) rfl 108 (.tmp 5) rfl b5 0 rfl (ints .u8 F) _ r5 Tryz.underlying108 rfl (szV infF (il HFL.out)) ?_)
  | (go_at_call 84;clear r5;refine (comb_any F 54 _ HFL).mono ?_;rintro e w3 ⟨g1,rfl,_,hC,hb3⟩
     rw [HI.out] at hC
     have hb4:=(below_new w3 (.cells #[.slice (some ⟨g1,0,none⟩) 128 128] 23)).alloc (by simp) (.cells #[.slice (some ⟨w3.heap.size,0,none⟩) 1 1,.slice PA m pc] 56)
     have hb5:=hb3.trans (Below.mono hb4 hb3.size)
     have hC4:=hC.nums.below hb4
     have hg0:w3.heap.size+1<((w3.alloc (.cells #[.slice (some ⟨g1,0,none⟩) 128 128] 23)).alloc (.cells #[.slice (some ⟨w3.heap.size,0,none⟩) 1 1,.slice PA m pc] 56)).heap.size:=by simp
     have hc0:((w3.alloc (.cells #[.slice (some ⟨g1,0,none⟩) 128 128] 23)).alloc (.cells #[.slice (some ⟨w3.heap.size,0,none⟩) 1 1,.slice PA m pc] 56)).cell? ⟨w3.heap.size+1,0,none⟩=some (.slice (some ⟨w3.heap.size,0,none⟩) 1 1):=by
      have h:=World.cell?_alloc_new (w:=w3.alloc (.cells #[.slice (some ⟨g1,0,none⟩) 128 128] 23)) #[.slice (some ⟨w3.heap.size,0,none⟩) 1 1,.slice PA m pc] 56 0
      rw [World.size_alloc] at h
      exact h
     have hc1:((w3.alloc (.cells #[.slice (some ⟨g1,0,none⟩) 128 128] 23)).alloc (.cells #[.slice (some ⟨w3.heap.size,0,none⟩) 1 1,.slice PA m pc] 56)).cell? ⟨w3.heap.size+1,1,none⟩=some (.slice PA m pc):=by
      have h:=World.cell?_alloc_new (w:=w3.alloc (.cells #[.slice (some ⟨g1,0,none⟩) 128 128] 23)) #[.slice (some ⟨w3.heap.size,0,none⟩) 1 1,.slice PA m pc] 56 1
      rw [World.size_alloc] at h
      exact h
     have hc2:((w3.alloc (.cells #[.slice (some ⟨g1,0,none⟩) 128 128] 23)).alloc (.cells #[.slice (some ⟨w3.heap.size,0,none⟩) 1 1,.slice PA m pc] 56)).cell? ⟨w3.heap.size,0,none⟩=some (.slice (some ⟨g1,0,none⟩) 128 128):=by
      have h:=((below_new (w3.alloc (.cells #[.slice (some ⟨g1,0,none⟩) 128 128] 23)) (.cells #[.slice (some ⟨w3.heap.size,0,none⟩) 1 1,.slice PA m pc] 56)).cell (p:=⟨w3.heap.size,0,none⟩) (by simp)).trans (World.cell?_alloc_new (w:=w3) #[.slice (some ⟨g1,0,none⟩) 128 128] 23 0)
      exact h
     have hQ:Parts ((w3.alloc (.cells #[.slice (some ⟨g1,0,none⟩) 128 128] 23)).alloc (.cells #[.slice (some ⟨w3.heap.size,0,none⟩) 1 1,.slice PA m pc] 56)) (some ⟨w3.heap.size,0,none⟩) [(some ⟨g1,0,none⟩,128,I)]:=fun _=>⟨w3.heap.size,0,rfl,by simp;omega,fun i q hi=>by
      have h0:i=0:=by have:=(List.getElem?_eq_some_iff.1 hi).1;simpa using this
      subst h0
      simp at hi
      subst hi
      show ((w3.alloc (.cells #[.slice (some ⟨g1,0,none⟩) 128 128] 23)).alloc (.cells #[.slice (some ⟨w3.heap.size,0,none⟩) 1 1,.slice PA m pc] 56)).cell? ⟨w3.heap.size,0,none⟩=some (.slice (some ⟨g1,0,none⟩) I.length 128)
      rw [HIL.out.1];exact hc2⟩
     have hqo:PartOk ((w3.alloc (.cells #[.slice (some ⟨g1,0,none⟩) 128 128] 23)).alloc (.cells #[.slice (some ⟨w3.heap.size,0,none⟩) 1 1,.slice PA m pc] 56)) (some ⟨g1,0,none⟩,128,I):=⟨hC4,by show I.length≤128;rw [HIL.out.1];omega,by show I.length≤1000;rw [HIL.out.1];omega,HIL.out.2.2⟩
     have hok4:∀q ∈ [(some ⟨g1,0,none⟩,128,I)]++ps,PartOk ((w3.alloc (.cells #[.slice (some ⟨g1,0,none⟩) 128 128] 23)).alloc (.cells #[.slice (some ⟨w3.heap.size,0,none⟩) 1 1,.slice PA m pc] 56)) q:=fun q hq=>by
      rcases List.mem_append.1 hq with hq|hq
      ·rw [List.mem_singleton.1 hq];exact hqo
      ·exact (hok2 q hq).below hb5
     obtain ⟨q1,hq1⟩:∃q1:Part,q1=(some ⟨g1,0,none⟩,128,I):=⟨_,rfl⟩
     rw [←hq1] at hQ hok4
     have HQ1:Hid (q1.2.2=I):=hid (by rw [hq1])
     replace h4:=h4.next hb5
     replace h5:=h5.next hb5
     replace hT:=hT.next hb5
     replace hP:=hP.below hb5
     replace hW:=hW.trans (Below.mono hb5 hW.size)
     clear hb3 hb4 hb5 hC hC4 hc2 hqo hok2 hq1)
  | (go_at_call 83;generalize ((w3.alloc (.cells #[.slice (some ⟨g1,0,none⟩) 128 128] 23)).alloc (.cells #[.slice (some ⟨w3.heap.size,0,none⟩) 1 1,.slice PA m pc] 56))=w4 at *;generalize w3.heap.size=g3 at *
     refine (cat_any (g3+1) m 1 pc (some ⟨g3,0,none⟩) PA q1 ps _ hg0 hc0 hc1 hQ hP hm hm2).mono ?_;rintro e w5 ⟨B5,d5,rfl,hO5,hb5⟩
     have hP5:=hO5.parts
     have hok5:∀q ∈ [q1]++ps,PartOk w5 q:=fun q hq=>(hok4 q hq).below hb5
     have hm5:Hid (([q1]++ps).length=1+m):=hid (by rw [List.length_append,hm.out,List.length_singleton])
     have hf5:Hid (flat ([q1]++ps)=I++T):=hid (by rw [←HT.out];unfold flat;rw [List.map_append,List.flatten_append,List.map_cons,List.map_nil,List.flatten_cons,List.flatten_nil,List.append_nil,HQ1.out])
     replace h4:=h4.next hb5
     replace h5:=h5.next hb5
     replace hT:=hT.next hb5
     replace hW:=hW.trans (Below.mono hb5 hW.size)
     clear hb5 hg0 hc0 hc1 hQ hP hok4 hO5)
  | (go_at_call 82;refine (vsum B5 d5 (1+m) _ (I++T) h _ hT hP5 hok5 hm5 (by omega) hf5 HTL Hh).mono ?_;rintro e w6 ⟨rfl,hb6⟩
     have R6:=(Rw.new w6 (ints .u8 (hzeros 64)) 83).roomA (us:=ints .u8 h) ((il HhN.out).trans (il (hz_len 64)).symm)
     have h6:=(Rw.new w6 (ints .u8 (hzeros 64)) 83).storedA (us:=ints .u8 h) ((il HhN.out).trans (il (hz_len 64)).symm)
     have hb7:=hb6.trans (Below.mono (Below.setCells (below_new w6 (.cells (ints .u8 (hzeros 64)).toArray 83)) (Nat.le_refl _) 0 (ints .u8 h).toArray.toList) hb6.size)
     replace h4:=h4.next hb7
     replace h5:=h5.next hb7
     replace hT:=hT.next hb7
     replace hW:=hW.trans (Below.mono hb7 hW.size)
     clear hb6 hb7 hP5 hok5 hm5 hf5)
  | (with_reducible refine wpList_store_mid (op:=⟨none,.store 83 (.tmp 6) (.tmp 15),_,_,_,_⟩) rfl 83 (.tmp 6) (.tmp 15) rfl w6.heap.size 0 (ints .u8 h).toArray rfl rfl R6 (szA infH (il HhN.out)) (ints_all _ _) ?_
     generalize (w6.alloc (.cells (ints .u8 (hzeros 64)).toArray 83)).setCells w6.heap.size 0 (ints .u8 h).toArray.toList=w7 at *
     generalize w6.heap.size=b6 at *
     clear R6))
 have s7:=hW.size
 refine rSpec 5 21 (fun _=>false) [Is (.agg (ints .u8 F).toArray),IsPart 128 O,Is (.slice (some ⟨b6,0,none⟩) 64 64),IsPs 2 (O++h),Is (.agg (ints .u8 r).toArray)] [16,17,18,19,20] (gC (grows_cons (IsPart.grows _ _) (gC (grows_cons (IsPs.grows _ _) (gC grows_nil)))))
  ⟨step_ldV rfl (.inl rfl) (fun _ hw=>(h5.next hw).range) rfl Tryz.underlying108 rfl (szV infF (il HFL.out)) rfl (kO 5 rfl),
   step_comb rfl (.inl rfl) rfl HFL.out HO.out rfl (kI 0 16 rfl rfl) (knows_const _),
   step_one rfl (.inl rfl) (fun ev w h hc=>ex_slA (P:=Tryz.prog) uaV64 zeV64 (m:=64) rfl rfl ev w h hc) rfl (kO 6 rfl),
   step_lit2 rfl (.inl rfl) rfl HOL.out HhL.out rfl rfl (knowsW_in 1 17 (by decide) (by kernel_rfl) rfl rfl) ((kI 2 18 rfl rfl).part (Nat.le_refl _) (fun w hw=>(h6.next hw).nums)),
   step_sumP rfl (.inl rfl) rfl hT (by decide) HOH.out Hr.out rfl (knowsW_in 3 19 (by decide) (by kernel_rfl) rfl rfl),trivial⟩ ?_
 intro val w8 hw hS hap hla
 have e16:=eVal hS 0 16 rfl rfl
 have e18:=eVal hS 2 18 rfl rfl
 have e20:=eVal hS 4 20 rfl rfl
 simp only [pA,pB,pC,pD,pE,Act.put,pG,pH,pI,e16,e18,e20]
 generalize val 17=g17
 generalize val 19=g19
 clear hS hap hla e16 e18 e20
 replace h4:=h4.next hw
 replace hW:=bT hW hw
 clear hw
 have R8:=h4.roomA (us:=ints .u8 r) ((il HrL.out).trans (il (hz_len 64)).symm)
 have X8:=h4.storedA (us:=ints .u8 r) ((il HrL.out).trans (il (hz_len 64)).symm)
 have hW2:=Below.setCells hW (g:=w.heap.size) (Nat.le_refl _) 0 (ints .u8 r).toArray.toList
 with_reducible refine wpList_store_mid (op:=⟨none,.store 83 (.tmp 4) (.tmp 20),_,_,_,_⟩) rfl 83 (.tmp 4) (.tmp 20) rfl w.heap.size 0 (ints .u8 r).toArray rfl rfl R8 (szA infH (il HrL.out)) (ints_all _ _) ?_
 go_wp2_with (fail)
 exact ret_rows rfl w.heap.size 0 rfl (ints .u8 r) _ X8.range Tryz.underlying83 rfl (szV infH (il HrL.out)) rfl ⟨rfl,hW2⟩
theorem pl_in (key:List Int):PL 128 (inV key):=⟨inV_len key,by omega,inV_byt key⟩
theorem pl_out (key:List Int):PL 128 (outV key):=⟨outV_len key,by omega,outV_byt key⟩
theorem pl_hash (m:List Int):PL 64 (hash m):=⟨hash_len m,by omega,hash_byt m⟩
theorem vtag_any (key T r:List Int) (A PA:Option Addr) (l c m pc:Nat) (ps:List Part) (w:World) (hT:TabsH w) (HK:Hid (key.length=l)) (h1:l≤1000) (hlc:l≤c) (hkb:HByt key) (hA:Nums w .u8 A key) (hP:Parts w PA ps) (hok:∀q ∈ ps,PartOk w q) (hm:Hid (ps.length=m)) (hm2:m≤500) (HT:Hid (flat ps=T)) (HTL:Hid (T.length≤90000)) (Hr:Hid (tagV key T=r)) :
 Calls Tryz.prog 57 #[.slice A l c,.slice PA m pc] w fun e w'=>e=.returned (.agg (ints .u8 r).toArray)∧Below w.heap.size w w':=by
 have e1:=inV_len key
 have e2:=outV_len key
 have e3:=HTL.out
 exact vtag_core key T (fillV key) (inV key) (outV key) (hash (inV key++T)) r A PA l c m pc ps w hT HK h1 hlc hkb hA hP hok hm hm2 HT (hid (by rw [List.length_append];omega)) (hid rfl) (hid (fillV_len _)) (hid rfl) (hid (pl_in _)) (hid rfl) (hid (pl_out _)) (hid rfl) (hid (pl_hash _)) (hid (hash_len _)) (hid (by rw [List.length_append,hash_len];omega)) Hr (hid (by rw [←Hr.out];exact tagV_len _ _))
end
end Go.Proofs.YtkblmdakejmmhaaGreatDoor
