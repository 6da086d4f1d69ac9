import Derived.Deep.AppendLies
import Derived.Test.YtkblmdakejmmhaaGreatDoorG2
namespace Go.Proofs.YtkblmdakejmmhaaGreatDoor
open Go Go.RowKit
section
open Go.RowKit Go.WideShapes Go.ChangeShapes
def Grew (w w':World) (v v':Value):Prop:=w.grownBy w' v.ownBlock∧(v'.ownBlock=v.ownBlock∨∀g,v'.ownBlock=some g→w.heap.size≤g)
theorem Grew.refl (w:World) (v:Value):Grew w w v v:=⟨World.grownBy.refl w _,.inl rfl⟩
theorem grown_of_below {w w':World} (h:Below w.heap.size w w') (row:Option Nat):w.grownBy w' row:=⟨h.os,h.tape,h.output,h.size,fun k hk _=>h.block k hk⟩
theorem Grew.after {a b c:World} {v v':Value} (h:Below a.heap.size a b) (k:Grew b c v v'):Grew a c v v':=by
 refine ⟨(grown_of_below h _).andThen k.1 (fun j hj=>.inr hj),?_⟩
 rcases k.2 with e|e
 ·exact .inl e
 ·exact .inr fun g hg=>Nat.le_trans h.size (e g hg)
theorem Grew.below {w w':World} {v v':Value} {base:Nat} (h:Grew w w' v v') (hb:base≤w.heap.size) (hv:∀g,v.ownBlock=some g→base≤g):Below base w w' :=
 (Below.refl base w).grown h.1 hb hv
theorem Grew.cell {w w':World} {v v':Value} (h:Grew w w' v v') {p:Addr} (hp:p.block<w.heap.size) (hne:v.ownBlock≠some p.block):w'.cell? p=w.cell? p :=
 World.cell?_of_block (h.1.block p.block hp (fun e=>hne e.symm))
section
variable {P:Program} {w:World} {base:Nat} {e:TypeId} {k:IntKind}
theorem run_app_nil (t ty:TypeId) (bytes:Nat) (ht:P.underlying t=some (.slice e)) (hinf:(P.info? e).map (fun i=>(i.zero,i.size,i.bytes))=some (some (.int k 0),1,bytes))
 (v:Value) (xs:List Int) (hown:Owns w base e k v xs) (c:Nat):(Builtin.append_ #[t,t] ty #[v,.slice none 0 c]).run P w=.ok v w:=by
 obtain ⟨i,hi,_,_,_⟩:=info_parts hinf
 rcases hown.2 with ⟨rfl,_⟩|⟨g,cap,cur,rfl,_,_,hnc,_⟩
 ·simp [Builtin.append_,run_underlying ht,sizeOf,typeInfo,hi,Builtin.lenOf,Builtin.firstCells]
 ·simp [Builtin.append_,run_underlying ht,sizeOf,typeInfo,hi,Builtin.lenOf,Builtin.firstCells,hnc,storeCells]
theorem run_app (t ty:TypeId) (bytes:Nat) (ht:P.underlying t=some (.slice e)) (hinf:(P.info? e).map (fun i=>(i.zero,i.size,i.bytes))=some (some (.int k 0),1,bytes)) (hbt:0<bytes)
 (A:Option Addr) (n c:Nat) (xs:List Int) (hown:Owns w base e k (.slice A n c) xs) (B:Option Addr) (d:Nat) (ys:List Int) (hB:Nums w k B ys)
 (h63:(xs.length+ys.length)*bytes≤140737488355328) (hbase:base≤w.heap.size) :
 ∃A' n' c' w',(Builtin.append_ #[t,t] ty #[.slice A n c,.slice B ys.length d]).run P w=.ok (.slice A' n' c') w'∧Owns w' base e k (.slice A' n' c') (xs++ys)∧Grew w w' (.slice A n c) (.slice A' n' c'):=by
 by_cases h0:ys.length=0∧B=none
 ·obtain ⟨h1,rfl⟩:=h0
  obtain rfl:=List.eq_nil_of_length_eq_zero h1
  exact ⟨A,n,c,w,run_app_nil t ty bytes ht hinf _ xs hown d,by rw [List.append_nil];exact hown,Grew.refl _ _⟩
 ·obtain ⟨i,hi,hz,hsize,hby⟩:=info_parts hinf
  have hm:xs.length+ys.length≤maxLen:=by
   have:xs.length+ys.length≤(xs.length+ys.length)*bytes:=Nat.le_mul_of_pos_right _ hbt
   unfold maxLen;omega
  obtain ⟨ad,rfl⟩:∃ad,B=some ad:=by
   cases B with
   | some ad=>exact ⟨ad,rfl⟩
   | none =>
     exfalso
     have hp:0<ys.length:=by
      rcases Nat.eq_zero_or_pos ys.length with h|h
      ·exact absurd ⟨h,rfl⟩ h0
      ·exact h
     obtain ⟨b,off,he,_⟩:=hB hp
     cases he
  obtain ⟨v',w',hrun,h2,h3,_,h5⟩:=run_append_own_at (P:=P) w base t ty e i (.int k 0) 1 bytes ht hi hz hsize hby rfl (by omega) (.slice A n c) xs.length (xs.map (Value.int k)) hown ad ys.length d (ys.map (Value.int k)) (by simp)
   (fun j u hu=>by
     have hj:j<ys.length:=by have:=(List.getElem?_eq_some_iff.1 hu).1;simpa using this
     obtain ⟨b,off,he,_,hc⟩:=hB (by omega)
     injection he with he
     subst he
     rw [add_plain,hc j hj]
     simp [hj] at hu
     simp [hj,←hu]) (fun u hu=>by
     obtain ⟨y,_,rfl⟩:=List.mem_map.1 hu
     rfl) hm h63 hbase
  have hform:∃A' n' c',v'=.slice A' n' c':=by
   rcases h2.2 with ⟨hv,_⟩|⟨g,cap,cur,hv,_⟩
   ·exact ⟨_,_,_,hv⟩
   ·exact ⟨_,_,_,hv⟩
  obtain ⟨A',n',c',rfl⟩:=hform
  refine ⟨A',n',c',w',hrun,?_,h3,?_⟩
  ·unfold Owns
   rw [List.map_append,List.length_append]
   exact h2
  ·rcases h5 with h|h
   ·exact .inl h
   ·exact .inr fun g hg=>by rw [h] at hg;injection hg with hg;omega
theorem wp_app {o:Oper} {a:Act} {K:Act→World→Prop} {Q:Exit→Act→World→Prop} (s x:Operand) (t:TypeId)
 (ho:o.op=.call { callee:=.builtin .append,args:=#[s,x],argTypes:=#[t,t] }) (base:Nat) (e:TypeId) (k:IntKind) (bytes:Nat) (ht:P.underlying t=some (.slice e))
 (hinf:(P.info? e).map (fun i=>(i.zero,i.size,i.bytes))=some (some (.int k 0),1,bytes)) (hbt:0<bytes) (A:Option Addr) (n c:Nat) (xs:List Int) (hs:a.eval s=.slice A n c)
 (hown:Owns w base e k (.slice A n c) xs) (B:Option Addr) (d:Nat) (ys:List Int) (hx:a.eval x=.slice B ys.length d) (hB:Nums w k B ys) (h63:(xs.length+ys.length)*bytes≤140737488355328) (hbase:base≤w.heap.size)
 (h:∀A' n' c' w',Owns w' base e k (.slice A' n' c') (xs++ys)→Grew w w' (.slice A n c) (.slice A' n' c')→K (a.put o.dst (.slice A' n' c')) w'):o.wp P a w K Q:=by
 obtain ⟨A',n',c',w',hrun,h2,h3⟩:=run_app (P:=P) t o.type bytes ht hinf hbt A n c xs hown B d ys hB h63 hbase
 unfold Oper.wp execOp
 simp only [ho,resolve,invoke,builtin,Sem.run_bind,Sem.run_pure,Result.andThen_ok,List.map_toArray,List.map_cons,List.map_nil,hs,hx,hrun]
 exact h A' n' c' w' h2 h3
theorem app_nums {ops:Array Oper} {rest:List Oper} {o:Oper} {a:Act} {Q:Exit→Act→World→Prop} (hgd:o.guard=none) (s x:Operand) (t:TypeId)
 (ho:o.op=.call { callee:=.builtin .append,args:=#[s,x],argTypes:=#[t,t] }) (base:Nat) (e:TypeId) (k:IntKind) (bytes:Nat) (ht:P.underlying t=some (.slice e))
 (hinf:(P.info? e).map (fun i=>(i.zero,i.size,i.bytes))=some (some (.int k 0),1,bytes)) (hbt:0<bytes) (A:Option Addr) (n c:Nat) (xs:List Int) (hs:a.eval s=.slice A n c)
 (hown:Owns w base e k (.slice A n c) xs) (B:Option Addr) (d:Nat) (ys:List Int) (hx:a.eval x=.slice B ys.length d) (hB:Nums w k B ys) (h63:(xs.length+ys.length)*bytes≤140737488355328) (hbase:base≤w.heap.size)
 (h:∀A' n' c' w',Owns w' base e k (.slice A' n' c') (xs++ys)→Grew w w' (.slice A n c) (.slice A' n' c')→wpList P ops Q rest (a.put o.dst (.slice A' n' c')) w'):wpList P ops Q (o::rest) a w :=
 wpList_plain hgd fun _ hK=>wp_app s x t ho base e k bytes ht hinf hbt A n c xs hs hown B d ys hx hB h63 hbase fun A' n' c' w' h2 h3=>hK _ _ (h A' n' c' w' h2 h3)
end
theorem Owns.stay {w w':World} {base:Nat} {e:TypeId} {k:IntKind} {v:Value} {xs:List Int} (h:Owns w base e k v xs) (hb:Below w.heap.size w w'):Owns w' base e k v xs:=by
 refine ⟨h.1,?_⟩
 rcases h.2 with h2|⟨g,cap,cur,hv,hg,hh,r⟩
 ·exact .inl h2
 ·refine .inr ⟨g,cap,cur,hv,hg,(hb.block g ?_).trans hh,r⟩
  rcases Nat.lt_or_ge g w.heap.size with hlt|hge
  ·exact hlt
  ·rw [Array.getElem?_eq_none hge] at hh;cases hh
theorem Owns.keep {w w':World} {base:Nat} {e:TypeId} {k:IntKind} {v:Value} {xs:List Int} (h:Owns w base e k v xs) (hh:∀g,v.ownBlock=some g→w'.heap[g]? = w.heap[g]?):Owns w' base e k v xs:=by
 refine ⟨h.1,?_⟩
 rcases h.2 with h2|⟨g,cap,cur,hv,hg,hc,r⟩
 ·exact .inl h2
 ·exact .inr ⟨g,cap,cur,hv,hg,(hh g (by rw [hv];rfl)).trans hc,r⟩
theorem NumsF.far {lo:Nat} {w w':World} {k:IntKind} {A:Option Addr} {xs:List Int} {v v':Value} (h:NumsF lo w k A xs) (hv:∀g,v.ownBlock=some g→g<lo) {w0:World} (hw:Below w.heap.size w w0) (hG:Grew w0 w' v v'):NumsF lo w' k A xs:=fun hp=>by
 obtain ⟨b,off,e,h1,hlt,hc⟩:=h hp
 have hs:=hw.size
 refine ⟨b,off,e,h1,Nat.lt_of_lt_of_le hlt (Nat.le_trans hs hG.1.size),fun i hi=>?_⟩
 rw [hG.cell (p:=⟨b,off+i,none⟩) (Nat.lt_of_lt_of_le hlt hs) (fun e=>by have:=hv b e;omega),hw.cell (p:=⟨b,off+i,none⟩) hlt]
 exact hc i hi
theorem Owns.new (w:World) (base:Nat) (e:TypeId) (k:IntKind) (xs:List Int) (hb:base≤w.heap.size) (hm:xs.length≤maxLen):Owns (w.alloc (.cells (xs.map (Value.int k)).toArray e)) base e k (.slice (some ⟨w.heap.size,0,none⟩) xs.length xs.length) xs:=by
 refine ⟨by simp,.inr ⟨w.heap.size,xs.length,(xs.map (Value.int k)).toArray,rfl,hb,heap_alloc_new w _,Nat.le_refl _,hm,by simp,by simp [List.take_of_length_le]⟩⟩
theorem nums_one (w:World) (k:IntKind) (x:Int) (t:TypeId):Nums (w.alloc (.cells #[.int k x] t)) k (some ⟨w.heap.size,0,none⟩) [x]:=fun _ =>
 ⟨w.heap.size,0,rfl,by simp,fun i hi=>by
   have:i=0:=by simp at hi;exact hi
   subst this
   go_simp⟩
theorem nums_two (w:World) (k:IntKind) (x y:Int) (t:TypeId):Nums (w.alloc (.cells #[.int k x,.int k y] t)) k (some ⟨w.heap.size,0,none⟩) [x,y]:=fun _ =>
 ⟨w.heap.size,0,rfl,by simp,fun i hi=>by
   have:i=0∨i=1:=by simp at hi;omega
   rcases this with rfl|rfl <;> go_simp⟩
end
section
set_option maxHeartbeats 1000000
theorem Tryz.info3:(Tryz.prog.info? 3).map (fun i=>(i.zero,i.size,i.bytes))=some (some (.int .i64 0),1,8):=by kernel_rfl
theorem Owns.block {w:World} {base:Nat} {e:TypeId} {k:IntKind} {A:Option Addr} {n c:Nat} {xs:List Int} (h:Owns w base e k (.slice A n c) xs) (hp:0<xs.length):∃g,A=some ⟨g,0,none⟩∧base≤g:=by
 rcases h.2 with ⟨hv,hn⟩|⟨g,cap,cur,hv,hg,_⟩
 ·omega
 ·injection hv with h1 h2 h3
  exact ⟨g,h1,hg⟩
def PD:List Nat:=65517::(List.replicate 14 65535++[32767])
theorem pd_eq:(((nl (List.replicate 16 65535)).set 0 65517).set 15 32767)=nl PD:=by decide
theorem nl_snoc (l:List Nat) (v:Nat):nl l++[(v:Int)]=nl (l++[v]):=by simp [nl]
theorem rp_any (w:World):Calls Tryz.prog 42 #[] w fun e w'=>∃A c,e=.returned (.slice A 16 c)∧NumsF w.heap.size w' .i64 A (nl PD)∧Below w.heap.size w w':=by
 go_enter Tryz.func42,Tryz.ntmps42
 go_wp2
 go_loopw [1,2] (fun v i wr=>∃(k:Nat) (A:Option Addr) (m c:Nat),k≤16∧v=.slice A m c∧i=.int .i64 k∧Owns wr w.heap.size 3 .i64 (.slice A m c) (nl (List.replicate k 65535))∧Below w.heap.size w wr) (fun _ i _=>16 - (intOf i).toNat)
 case atStart=>exact ⟨0,none,0,0,Nat.zero_le _,rfl,rfl,Owns.none_ _ _ _ _,Below.refl _ _⟩
 case round =>
  obtain ⟨k,A,m,c,hk,rfl,rfl,hO,hb⟩:=hrel
  by_cases hlt:k<16
  ·have hsz:=hb.size
   have HL:Hid ((nl (List.replicate k 65535)).length≤16):=hid (by rw [nl_length];simp;omega)
   go_wp2_with (at_builtin;refine app_one _ rfl (.tmp 7) (.tmp 8) 60 rfl w.heap.size 3 .i64 8 Tryz.underlying60 Tryz.info3 A m c (nl (List.replicate k 65535)) rfl hO _ 1 rfl (by have:=HL.out;omega) (by omega) hsz ?_;intro A' n' c' w2 hO2 hb2)
   go_roundw
   case rel=>exact ⟨k+1,A',n',c',by omega,rfl,by go_num,by rw [List.replicate_succ',←nl_snoc];exact hO2,hb.trans hb2⟩
   case measure=>simp [intOf];omega
  ·have e:k=16:=by omega
   subst e
   obtain ⟨g,rfl,hg⟩:=hO.block (by rw [nl_length];simp)
   have hm:=hO.len
   rw [nl_length,List.length_replicate] at hm
   subst hm
   obtain ⟨x0,c0,f0,_⟩:=hO.spot (j:=0) (by rw [nl_length];simp)
   have hO2:=hO.store 0 65517
   obtain ⟨x1,c1,f1,_⟩:=hO2.spot (j:=15) (by rw [List.length_set,nl_length];simp)
   have hO3:=hO2.store 15 32767
   rw [pd_eq] at hO3
   have HO:=hid hO3
   clear hO hO2 hO3
   go_wp2
   go_ret
   exact ⟨some ⟨g,0,none⟩,c,rfl,HO.out.fresh,(hb.setCell hg _).setCell hg _⟩
theorem drop_step {l:List Nat} {i:Nat} (h:i<l.length):l.drop i=l.getD i 0::l.drop (i+1):=by
 rw [List.drop_eq_getElem_cons h]
 simp [h]
theorem dv_cut {l:List Nat} {i:Nat} (h:i<l.length):dv l=dv (l.take i)+65536^i*(l.getD i 0+65536*dv (l.drop (i+1))):=by
 rw [dv_split l i (by omega),drop_step h,dv]
theorem cmp_at {l m:List Nat} {i:Nat} (hl:Digs l) (hm:Digs m) (h1:i<l.length) (h2:i<m.length) (he:l.drop (i+1)=m.drop (i+1)) (hne:l.getD i 0≠m.getD i 0):(dv m≤dv l↔m.getD i 0<l.getD i 0):=by
 rw [dv_cut h1,dv_cut h2,he]
 have t1:=dv_lt (l.take i) (fun v hv=>hl v (List.mem_of_mem_take hv))
 have t2:=dv_lt (m.take i) (fun v hv=>hm v (List.mem_of_mem_take hv))
 rw [List.length_take,Nat.min_eq_left (by omega)] at t1 t2
 generalize l.getD i 0=x at *
 generalize m.getD i 0=y at *
 generalize dv (l.take i)=a at *
 generalize dv (m.take i)=b at *
 generalize 65536*dv (m.drop (i+1))=D at *
 generalize 65536^i=P at *
 constructor
 ·intro h
  refine Nat.lt_of_not_le fun hle=>?_
  have:P*(x+D+1)≤P*(y+D):=Nat.mul_le_mul_left _ (by omega)
  rw [Nat.mul_add] at this
  omega
 ·intro h
  have:P*(y+D+1)≤P*(x+D):=Nat.mul_le_mul_left _ (by omega)
  rw [Nat.mul_add] at this
  omega
theorem Nums.num {w:World} {k:IntKind} {A:Option Addr} {xs:List Int} (h:Nums w k A xs) (hp:0<xs.length):∃g o,A=some ⟨g,o,none⟩∧g<w.heap.size∧∀(i:Nat) x,xs[i]? = some x→w.cell? ⟨g,o+i,none⟩=some (.int k x):=by
 obtain ⟨b,off,e,hlt,hc⟩:=h hp
 refine ⟨b,off,e,hlt,fun i x hx=>?_⟩
 obtain ⟨hi,hxe⟩:=List.getElem?_eq_some_iff.1 hx
 rw [hc i hi]
 simp [List.getD,hx]
def Drawn (w w':World):Prop:=∃n,w'=w.drewN n
theorem Drawn.refl (w:World):Drawn w w:=⟨0,rfl⟩
theorem Drawn.more {w w':World} (h:Drawn w w') (n:Nat):Drawn w (w'.drewN n):=by
 obtain ⟨m,rfl⟩:=h
 exact ⟨m+n,by simp⟩
theorem Drawn.cell {w w':World} (h:Drawn w w') {p:Addr} {v:Option Value} (hc:w.cell? p=v):w'.cell? p=v:=by
 obtain ⟨m,rfl⟩:=h
 exact hc
theorem Drawn.below {w w':World} (h:Drawn w w'):Below w.heap.size w w':=by
 obtain ⟨m,rfl⟩:=h
 exact below_drewN (Below.refl _ _) m
theorem Nums.drewN {w:World} {k:IntKind} {A:Option Addr} {xs:List Int} (h:Nums w k A xs) (n:Nat):Nums (w.drewN n) k A xs:=h
set_option maxRecDepth 4000 in
theorem al_any (A B:Option Addr) (cA cB L:Nat) (l m:List Nat) (w:World) (hl:l.length=L) (hm:m.length=L) (hn:L≤1000) (dl:Digs l) (dm:Digs m) (hA:Nums w .i64 A (nl l)) (hB:Nums w .i64 B (nl m)) :
 Calls Tryz.prog 67 #[.slice A L cA,.slice B L cB] w fun e w'=>∃b,e=.returned (.bool b)∧Hid (b=decide (dv m≤dv l))∧Drawn w w':=by
 have HL:=hid hl
 have HM:=hid hm
 have DL:=hid dl
 have DM:=hid dm
 clear dl dm hl hm
 have hlw:IntKind.i64.wrap ((L:Int) - 1)=(L:Int) - 1:=IntWalk.i64_in _ (by omega)
 go_enter Tryz.func67,Tryz.ntmps67
 go_wp2
 go_loopw [5] (fun i wr=>∃j:Nat,j≤L∧i=.int .i64 ((j:Int) - 1)∧Hid (l.drop j=m.drop j)∧Drawn w wr) (fun i _=>(intOf i+1).toNat)
 case atStart=>exact ⟨L,by omega,rfl,hid (by rw [List.drop_of_length_le (by rw [HL.out];omega),List.drop_of_length_le (by rw [HM.out];omega)]),Drawn.refl _⟩
 case round =>
  obtain ⟨j,hj,rfl,HD,HW⟩:=hrel
  cases j with
  | zero =>
    have hz:((0:Nat):Int) - 1 = -1:=by omega
    rw [hz]
    have HE:Hid (l=m):=HD
    go_wp2
    go_ret
    exact ⟨true,rfl,hid (by rw [HE.out];simp),HW⟩
  | succ i =>
    have hz:((i+1:Nat):Int) - 1=(i:Int):=by omega
    rw [hz]
    have hil:i<l.length:=by rw [HL.out];omega
    have him:i<m.length:=by rw [HM.out];omega
    obtain ⟨g,o,rfl,_,cA0⟩:=hA.num (by rw [nl_length,HL.out];omega)
    obtain ⟨g2,o2,rfl,_,cB0⟩:=hB.num (by rw [nl_length,HM.out];omega)
    have cl:=HW.cell (cA0 i _ (nl_at hil))
    have cm:=HW.cell (cB0 i _ (nl_at him))
    have HC:Hid (l.getD i 0≠m.getD i 0→(dv m≤dv l↔m.getD i 0<l.getD i 0)):=hid fun h=>cmp_at DL.out DM.out hil him HD.out h
    have HS:Hid (l.getD i 0=m.getD i 0→l.drop i=m.drop i):=hid fun h=>by rw [drop_step hil,drop_step him,h,HD.out]
    clear cA0 cB0 hil him
    generalize l.getD i 0=x at *
    generalize m.getD i 0=y at *
    have i0:(0:Int)≤i:=by omega
    have i1:(i:Int)<L:=by omega
    have iw:IntKind.i64.wrap ((i:Int) - 1)=(i:Int) - 1:=IntWalk.i64_in _ (by omega)
    by_cases hxy:x=y
    ·have hne:((x:Int) != (y:Int))=false:=by simp [hxy]
     have HT:=hid (HS.out hxy)
     clear HC HS hz hxy
     go_wp2
     go_quiet (fail)
     go_wp2
     go_roundw
     case rel=>exact ⟨i,by omega,rfl,HT,HW.more _⟩
     case measure=>simp [intOf]
    ·have hne:((x:Int) != (y:Int))=true:=by simp only [bne_iff_ne];omega
     have HT:=hid (HC.out hxy)
     clear HC HS hz hxy
     go_wp2
     go_quiet (fail)
     go_wp2
     go_quiet (fail)
     go_wp2
     go_ret
     exact ⟨decide (y<x),by simp,hid (decide_eq_decide.2 HT.out).symm,(HW.more _).more _⟩
end
theorem dv_snoc (l:List Nat) (v:Nat):dv (l++[v])=dv l+v*65536^l.length:=by
 induction l with
 | nil=>simp [dv]
 | cons a l ih =>
   simp only [List.cons_append,dv,ih,List.length_cons,Nat.pow_succ]
   have e:v*(65536^l.length*65536)=65536*(v*65536^l.length):=by rw [←Nat.mul_assoc,Nat.mul_comm]
   omega
theorem digs_snoc {l:List Nat} {v:Nat} (h:Digs l) (hv:v<65536):Digs (l++[v]):=fun x hx=>by
 rcases List.mem_append.1 hx with h1|h1
 ·exact h x h1
 ·simp at h1;omega
def LessI (l m ys:List Nat) (bo k:Nat):Prop:=ys.length=k∧Digs ys∧bo≤1∧dv ys+dv (m.take k)=dv (l.take k)+bo*65536^k
theorem LessI.step {l m ys:List Nat} {bo k d bo':Nat} (h:LessI l m ys bo k) (h1:k<l.length) (h2:k<m.length) (hd:d<65536) (hb:bo'≤1) (he:d+m.getD k 0+bo=l.getD k 0+65536*bo'):LessI l m (ys++[d]) bo' (k+1):=by
 obtain ⟨a,b,c,e⟩:=h
 have g1:l[k]? = some (l.getD k 0):=by rw [List.getD_eq_getElem?_getD,List.getElem?_eq_getElem h1];rfl
 have g2:m[k]? = some (m.getD k 0):=by rw [List.getD_eq_getElem?_getD,List.getElem?_eq_getElem h2];rfl
 refine ⟨by simp [a],digs_snoc b hd,hb,?_⟩
 rw [dv_snoc,a,dv_take_succ l k _ g1,dv_take_succ m k _ g2,Nat.pow_succ]
 generalize l.getD k 0=x at *
 generalize m.getD k 0=y at *
 generalize 65536^k=P at *
 have h3:(d+y+bo)*P=(x+65536*bo')*P:=by rw [he]
 have h4:bo'*(P*65536)=65536*bo'*P:=by rw [Nat.mul_comm P,←Nat.mul_assoc,Nat.mul_comm bo']
 rw [Nat.add_mul,Nat.add_mul,Nat.add_mul] at h3
 rw [h4]
 omega
theorem LessI.end_ {l m ys:List Nat} {bo L:Nat} (h:LessI l m ys bo L) (hl:l.length=L) (hm:m.length=L) (hle:dv m≤dv l):dv ys=dv l - dv m:=by
 obtain ⟨a,b,c,e⟩:=h
 rw [List.take_of_length_le (by omega),List.take_of_length_le (by omega)] at e
 have:=dv_lt ys b
 rw [a] at this
 have hb:bo=0∨bo=1:=by omega
 rcases hb with rfl|rfl
 ·omega
 ·omega
set_option maxRecDepth 4000 in
set_option maxHeartbeats 1000000 in
theorem le_any (A B:Option Addr) (cA cB L:Nat) (l m:List Nat) (w:World) (hl:l.length=L) (hm:m.length=L) (hn:L≤1000) (dl:Digs l) (dm:Digs m) (hle:dv m≤dv l) (hA:Nums w .i64 A (nl l)) (hB:Nums w .i64 B (nl m)) :
 Calls Tryz.prog 41 #[.slice A L cA,.slice B L cB] w fun e w'=>∃A' c ys,e=.returned (.slice A' L c)∧Hid (ys.length=L∧Digs ys∧dv ys=dv l - dv m)∧NumsF w.heap.size w' .i64 A' (nl ys)∧Below w.heap.size w w':=by
 have HL:=hid hl
 have HM:=hid hm
 have DL:=hid dl
 have DM:=hid dm
 have HLE:=hid hle
 clear dl dm hl hm hle
 go_enter Tryz.func41,Tryz.ntmps41
 go_wp2
 go_loopw [5,6,7] (fun v b i wr=>∃(k:Nat) (ys:List Nat) (bo:Nat) (R:Option Addr) (n c:Nat),k≤L∧v=.slice R n c∧b=.int .i64 bo∧i=.int .i64 k∧Hid (LessI l m ys bo k)∧Owns wr w.heap.size 3 .i64 (.slice R n c) (nl ys)∧Below w.heap.size w wr) (fun _ _ i _=>L - (intOf i).toNat)
 case atStart=>exact ⟨0,[],0,none,0,0,Nat.zero_le _,rfl,rfl,rfl,hid ⟨rfl,fun v hv=>by simp at hv,by omega,by simp [dv]⟩,Owns.none_ _ _ _ _,Below.refl _ _⟩
 case round =>
  obtain ⟨k,ys,bo,R,n,c,hk,rfl,rfl,rfl,HI,hO,hb⟩:=hrel
  by_cases hlt:k<L
  ·have hsz:=hb.size
   have hil:k<l.length:=by rw [HL.out];omega
   have him:k<m.length:=by rw [HM.out];omega
   obtain ⟨g,o,rfl,_,cA0⟩:=(hA.below hb).num (by rw [nl_length,HL.out];omega)
   obtain ⟨g2,o2,rfl,_,cB0⟩:=(hB.below hb).num (by rw [nl_length,HM.out];omega)
   have cl:=cA0 k _ (nl_at hil)
   have cm:=cB0 k _ (nl_at him)
   have hx:=getD_dig DL.out k
   have hy:=getD_dig DM.out k
   have hbo:=HI.out.2.2.1
   have HS:Hid (∀d bo',d<65536→bo'≤1→d+m.getD k 0+bo=l.getD k 0+65536*bo'→LessI l m (ys++[d]) bo' (k+1)):=hid fun d bo' h1 h2 h3=>HI.out.step hil him h1 h2 h3
   have HY:Hid ((nl ys).length=k):=hid (by rw [nl_length];exact HI.out.1)
   clear cA0 cB0 hil him
   generalize l.getD k 0=x at *
   generalize m.getD k 0=y at *
   have k0:(0:Int)≤k:=by omega
   have k1:(k:Int)<L:=by omega
   have w1:IntKind.i64.wrap ((x:Int) - y)=(x:Int) - y:=IntWalk.i64_in _ (by omega)
   have w2:IntKind.i64.wrap ((x:Int) - y - bo)=(x:Int) - y - bo:=IntWalk.i64_in _ (by omega)
   by_cases hneg:x<y+bo
   ·obtain ⟨d,hd⟩:∃d:Nat,d=x+65536 - (y+bo):=⟨_,rfl⟩
    have hz:(x:Int) - y - bo=(d:Int) - 65536:=by omega
    have hdl:d<65536:=by omega
    have HT:=hid (HS.out d 1 hdl (by omega) (by omega))
    have hdn:(d:Int) - 65536<0:=by omega
    have hdw:IntKind.i64.wrap ((d:Int) - 65536+65536)=d:=by rw [IntWalk.i64_in _ (by omega)];omega
    rw [hz] at w2
    clear HS hneg hd hx hy hbo hdl
    go_wp2
    go_quiet (fail)
    clear w1 w2 hz
    go_wp2_with (at_builtin;refine app_one _ rfl (.tmp 30) (.tmp 32) 60 rfl w.heap.size 3 .i64 8 Tryz.underlying60 Tryz.info3 R n c (nl ys) rfl (hO.drewN _) _ 1 rfl (by rw [HY.out];omega) (by omega) (by simpa using hsz) ?_;intro A' n' c' w2 hO2 hb2)
    go_roundw
    case rel=>exact ⟨k+1,ys++[d],1,A',n',c',by omega,rfl,rfl,by go_num,HT,by rw [←nl_snoc];exact hO2,(below_drewN hb nq).trans hb2⟩
    case measure=>simp [intOf];omega
   ·obtain ⟨d,hd⟩:∃d:Nat,d=x - (y+bo):=⟨_,rfl⟩
    have hz:(x:Int) - y - bo=(d:Int):=by omega
    have hdl:d<65536:=by omega
    have HT:=hid (HS.out d 0 hdl (by omega) (by omega))
    have hdn:¬(d:Int)<0:=by omega
    rw [hz] at w2
    clear HS hneg hd hx hy hbo hdl
    go_wp2
    go_quiet (fail)
    clear w1 w2 hz
    go_wp2_with (at_builtin;refine app_one _ rfl (.tmp 30) (.tmp 32) 60 rfl w.heap.size 3 .i64 8 Tryz.underlying60 Tryz.info3 R n c (nl ys) rfl (hO.drewN _) _ 1 rfl (by rw [HY.out];omega) (by omega) (by simpa using hsz) ?_;intro A' n' c' w2 hO2 hb2)
    go_roundw
    case rel=>exact ⟨k+1,ys++[d],0,A',n',c',by omega,rfl,rfl,by go_num,HT,by rw [←nl_snoc];exact hO2,(below_drewN hb nq).trans hb2⟩
    case measure=>simp [intOf];omega
  ·have e:k=L:=by omega
   subst e
   have hm:=hO.len
   rw [nl_length,HI.out.1] at hm
   subst hm
   have HE:Hid (dv ys=dv l - dv m):=hid (HI.out.end_ HL.out HM.out HLE.out)
   go_wp2
   go_ret
   exact ⟨R,c,ys,rfl,hid ⟨HI.out.1,HI.out.2.1,HE.out⟩,hO.fresh,hb⟩
namespace NT
def pm (m:Nat):Nat→Nat→Nat→Nat→Nat
 | 0,_,_,r=>r
 | f+1,a,n,r=>pm m f (a*a%m) (n / 2) (if n%2=1 then r*a%m else r)
theorem pm_is (m:Nat):∀(f a n r:Nat),n<2^f→pm m f a n r%m=r*a^n%m
 | 0,a,n,r,h=>by
   have:n=0:=by simpa using h
   subst this;simp [pm]
 | f+1,a,n,r,h=>by
   have h2:n / 2<2^f:=by rw [Nat.pow_succ] at h;omega
   rw [pm,pm_is m f _ _ _ h2,Nat.mul_mod,←Nat.pow_mod,←Nat.mul_mod]
   have e:(a*a)^(n / 2)=a^(n / 2+n / 2):=by rw [Nat.mul_pow,←Nat.pow_add]
   by_cases hn:n%2=1
   ·rw [if_pos hn,Nat.mul_mod,Nat.mod_mod,←Nat.mul_mod,e,Nat.mul_assoc,Nat.mul_comm a,←Nat.pow_succ]
    congr 3;omega
   ·rw [if_neg hn,e]
    congr 3;omega
theorem pow_is {m a n v:Nat} (f:Nat) (hn:n<2^f) (h:pm m f a n 1%m=v):a^n%m=v:=by
 rw [pm_is m f a n 1 hn,Nat.one_mul] at h;exact h
end NT
namespace NT
def PN:Nat:=57896044618658097711785492504343953926634992332820282019728792003956564819949
end NT
def hiL:List Nat→List Nat
 | []=>[]
 | a::r=>(a / 32768+r.getD 0 0%32768*2)::hiL r
theorem hiL_length:∀l:List Nat,(hiL l).length=l.length
 | []=>rfl
 | a::r=>by simp [hiL,hiL_length r]
theorem hiL_at:∀(l:List Nat) (i:Nat),i<l.length→(hiL l)[i]? = some (l.getD i 0 / 32768+l.getD (i+1) 0%32768*2)
 | [],i,h=>by simp at h
 | a::r,0,_=>by simp [hiL]
 | a::r,i+1,h=>by
   have:=hiL_at r i (by simpa using h)
   simpa [hiL] using this
theorem hiL_digs:∀l:List Nat,Digs l→Digs (hiL l)
 | [],_=>fun v hv=>by simp [hiL] at hv
 | a::r,h=>fun v hv=>by
   have ha:=h a (by simp)
   rcases List.mem_cons.1 hv with rfl|h2
   ·omega
   ·exact hiL_digs r (fun v hv=>h v (by simp [hv])) v h2
theorem hiL_dv:∀l:List Nat,dv l=l.getD 0 0%32768+32768*dv (hiL l)
 | []=>rfl
 | a::r=>by
   have:=hiL_dv r
   simp only [dv,hiL,List.getD_cons_zero]
   omega
def lows (xs:List Nat):List Nat:=xs.take 15++[xs.getD 15 0%32768]
def highs (xs:List Nat):List Nat:=hiL (xs.drop 15)
theorem lows_length {xs:List Nat} (h:16≤xs.length):(lows xs).length=16:=by simp [lows];omega
theorem lows_digs {xs:List Nat} (h:Digs xs):Digs (lows xs):=fun v hv=>by
 rcases List.mem_append.1 hv with h1|h1
 ·exact h v (List.mem_of_mem_take h1)
 ·simp at h1;omega
theorem highs_length (xs:List Nat):(highs xs).length=xs.length - 15:=by simp [highs,hiL_length]
theorem highs_digs {xs:List Nat} (h:Digs xs):Digs (highs xs):=hiL_digs _ (fun v hv=>h v (List.mem_of_mem_drop hv))
theorem highs_at {xs:List Nat} {i:Nat} (h:15+i<xs.length):(highs xs)[i]? = some (xs.getD (15+i) 0 / 32768+xs.getD (15+i+1) 0%32768*2):=by
 unfold highs
 rw [hiL_at _ _ (by simp;omega)]
 simp [List.getD_eq_getElem?_getD,List.getElem?_drop,Nat.add_assoc]
def Q255:Nat:=57896044618658097711785492504343953926634992332820282019728792003956564819968
theorem split255 {xs:List Nat} (h:16≤xs.length):dv xs=dv (lows xs)+Q255*dv (highs xs):=by
 rw [dv_split xs 15 (by omega),hiL_dv (xs.drop 15)]
 unfold lows highs
 rw [dv_snoc,List.length_take,Nat.min_eq_left (by omega)]
 have e:(xs.drop 15).getD 0 0=xs.getD 15 0:=by simp [List.getD_eq_getElem?_getD]
 have e15:65536^15=1766847064778384329583297500742918515827483896875618958121606201292619776:=by decide
 rw [e,e15]
 unfold Q255
 omega
theorem lows_lt {xs:List Nat} (h:Digs xs) (hl:16≤xs.length):dv (lows xs)<Q255:=by
 unfold lows
 rw [dv_snoc,List.length_take,Nat.min_eq_left (by omega)]
 have t:=dv_lt (xs.take 15) (fun v hv=>h v (List.mem_of_mem_take hv))
 rw [List.length_take,Nat.min_eq_left (by omega)] at t
 have e15:65536^15=1766847064778384329583297500742918515827483896875618958121606201292619776:=by decide
 rw [e15] at *
 unfold Q255
 omega
theorem dv_zero_of {l:List Nat} (h:∀v ∈ l,v=0):dv l=0:=by
 induction l with
 | nil=>rfl
 | cons a l ih =>
   rw [dv,ih (fun v hv=>h v (by simp [hv])),h a (by simp)]
theorem dv_pos_of {l:List Nat} {v:Nat} (h:v ∈ l) (hv:0<v):0<dv l:=by
 induction l with
 | nil=>simp at h
 | cons a l ih =>
   rw [dv]
   rcases List.mem_cons.1 h with rfl|h2
   ·omega
   ·have:=ih h2;omega
theorem dv_zeros (l:List Nat) (n:Nat):dv (l++List.replicate n 0)=dv l:=by
 induction n with
 | zero=>simp
 | succ n ih=>rw [List.replicate_succ',←List.append_assoc,dv_snoc,ih];omega
def AddI (low hs zs:List Nat) (cy i:Nat):Prop:=zs.length=low.length∧Digs zs∧cy≤20∧dv zs+cy*65536^i=dv low+19*dv (hs.take i)
theorem AddI.step {low hs zs:List Nat} {cy i n:Nat} (h:AddI low hs zs cy i) (hh:Digs hs) (h1:i<low.length) (hn:n=zs.getD i 0+cy+(if i<hs.length then 19*hs.getD i 0 else 0)):AddI low hs (zs.set i (n%65536)) (n / 65536) (i+1):=by
 obtain ⟨a,b,c,e⟩:=h
 have hz:=getD_dig b i
 have hp:zs[i]? = some (zs.getD i 0):=by rw [List.getD_eq_getElem?_getD,List.getElem?_eq_getElem (by omega)];rfl
 have hx:=getD_dig hh i
 refine ⟨by simp [a],set_digs b _ _ (Nat.mod_lt _ (by omega)),?_,?_⟩
 ·split at hn <;> omega
 ·have hs':dv (hs.take (i+1))=dv (hs.take i)+(if i<hs.length then hs.getD i 0 else 0)*65536^i:=by
   split
   ·rename_i hi
    exact dv_take_succ hs i _ (by rw [List.getD_eq_getElem?_getD,List.getElem?_eq_getElem hi];rfl)
   ·rename_i hi
    rw [List.take_of_length_le (by omega),List.take_of_length_le (by omega)];simp
  have h2:=dv_set zs i (n%65536) _ hp
  have hdm:=Nat.div_add_mod n 65536
  have hn2:n=zs.getD i 0+cy+19*(if i<hs.length then hs.getD i 0 else 0):=by rw [hn];split <;> rfl
  rw [hs',Nat.pow_succ]
  generalize (if i<hs.length then hs.getD i 0 else 0)=y at *
  generalize zs.getD i 0=x at *
  generalize n%65536=r at *
  generalize n / 65536=q at *
  generalize 65536^i=P at *
  have h3:(65536*q+r)*P=(x+cy+19*y)*P:=by rw [hdm,hn2]
  have h4:q*(P*65536)=65536*q*P:=by rw [Nat.mul_comm P,←Nat.mul_assoc,Nat.mul_comm q]
  rw [Nat.add_mul,Nat.add_mul,Nat.add_mul,Nat.mul_assoc 19] at h3
  rw [h4,Nat.mul_add]
  omega
theorem AddI.end_ {low hs zs:List Nat} {cy:Nat} (h:AddI low hs zs cy low.length) (hl:hs.length≤low.length):dv (zs++[cy])=dv low+19*dv hs:=by
 obtain ⟨a,b,c,e⟩:=h
 rw [List.take_of_length_le hl] at e
 rw [dv_snoc,a,e]
end Go.Proofs.YtkblmdakejmmhaaGreatDoor
