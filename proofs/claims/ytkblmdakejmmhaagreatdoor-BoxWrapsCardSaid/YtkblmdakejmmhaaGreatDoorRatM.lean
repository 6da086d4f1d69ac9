import Derived.Test.YtkblmdakejmmhaaGreatDoorSwapM
namespace Go.Proofs.YtkblmdakejmmhaaGreatDoor
open Go Go.RowKit
set_option maxRecDepth 50000
theorem len16 {l:List Int} (h:l.length=16):∃a0 a1 a2 a3 a4 a5 a6 a7 a8 a9 a10 a11 a12 a13 a14 a15:Int,l=[a0,a1,a2,a3,a4,a5,a6,a7,a8,a9,a10,a11,a12,a13,a14,a15]:=by
 refine ⟨l.getD 0 0,l.getD 1 0,l.getD 2 0,l.getD 3 0,l.getD 4 0,l.getD 5 0,l.getD 6 0,l.getD 7 0,l.getD 8 0,l.getD 9 0,l.getD 10 0,l.getD 11 0,l.getD 12 0,l.getD 13 0,l.getD 14 0,l.getD 15 0,List.ext_getElem? fun i=>?_⟩
 by_cases hi:i<16
 ·have:i=0∨i=1∨i=2∨i=3∨i=4∨i=5∨i=6∨i=7∨i=8∨i=9∨i=10∨i=11∨i=12∨i=13∨i=14∨i=15:=by omega
  rcases this with e|e|e|e|e|e|e|e|e|e|e|e|e|e|e|e <;> subst e <;> exact getD_some (by omega)
 ·rw [List.getElem?_eq_none (by omega),List.getElem?_eq_none (by simp;omega)]
theorem built45 {x z:List Int} (hx:x.length=16) (hz:z.length=16):Tryz.prog.built 74 [(0,.agg (ints .i64 x).toArray),(1,.agg (ints .i64 z).toArray)]=some (ints .i64 (x++z)).toArray:=by
 obtain ⟨a0,a1,a2,a3,a4,a5,a6,a7,a8,a9,a10,a11,a12,a13,a14,a15,rfl⟩:=len16 hx
 obtain ⟨b0,b1,b2,b3,b4,b5,b6,b7,b8,b9,b10,b11,b12,b13,b14,b15,rfl⟩:=len16 hz
 kernel_rfl
theorem built45o {x:List Int} (hx:x.length=16):Tryz.prog.built 74 [(0,.agg (ints .i64 x).toArray)]=some (ints .i64 (x++zeros 16)).toArray:=by
 obtain ⟨a0,a1,a2,a3,a4,a5,a6,a7,a8,a9,a10,a11,a12,a13,a14,a15,rfl⟩:=len16 hx
 kernel_rfl
theorem inf45:(Tryz.prog.info? 74).map (fun i=>(i.zero,i.size))=some (some (.agg (ints .i64 (zeros 32)).toArray),32):=by kernel_rfl
theorem l45r {q:List Int} (h:q.length=32):(Tryz.prog.info? 74).map (·.size)=some (ints .i64 q).length:=(siz inf45 h).1
theorem a45r {q:List Int} (h:q.length=32):(Tryz.prog.info? 74).map (·.size)=some (ints .i64 q).toArray.size:=(siz inf45 h).2
def B2 (w:World) (b:Nat) (l:List Int):Prop:=Arr w b 0 .i64 l∧l.length=32
section
variable {w w':World} {b:Nat} {l:List Int}
theorem B2.lt (h:B2 w b l):b<w.heap.size:=h.1.lt (by rw [h.2];omega)
theorem B2.next (h:B2 w b l) (hb:Below w.heap.size w w'):B2 w' b l:=⟨h.1.below hb h.lt,h.2⟩
theorem B2.range (h:B2 w b l):w.rangeAt b 0 (ints .i64 l):=h.1.range
theorem B2.room (h:B2 w b l) {l':List Int} (e:l'.length=32):w.there b 0 (ints .i64 l').toArray.size:=h.1.room (by rw [e,h.2])
theorem B2.stored (h:B2 w b l) {l':List Int} (e:l'.length=32):B2 (w.setCells b 0 (ints .i64 l').toArray.toList) b l':=⟨h.1.stored (by rw [e,h.2]),e⟩
theorem B2.past (h:B2 w b l) {b':Nat} (vs:List Value) (hb:b'≠b):B2 (w.setCells b' 0 vs) b l:=⟨h.1.past vs (.inl hb),h.2⟩
theorem B2.new (w:World) (l:List Int) (h:l.length=32):B2 (w.alloc (.cells (ints .i64 l).toArray 74)) w.heap.size l:=⟨Arr.made w .i64 l 74,h⟩
theorem B2.fst {x z:List Int} (h:B2 w b (x++z)) (_:x.length=16):Arr w b 0 .i64 x:=fun i v hi=>by
 have hl:=(List.getElem?_eq_some_iff.1 hi).1
 exact h.1 i v (by rw [List.getElem?_append_left hl];exact hi)
theorem B2.snd {x z:List Int} (h:B2 w b (x++z)) (hx:x.length=16):Arr w b 16 .i64 z:=fun i v hi=>by
 have h1:=h.1 (16+i) v (by rw [List.getElem?_append_right (by omega),hx,Nat.add_sub_cancel_left];exact hi)
 rwa [Nat.zero_add] at h1
end
theorem len32 {x z:List Int} (hx:x.length=16) (hz:z.length=16):(x++z).length=32:=by simp [hx,hz]
theorem over_fst {x z y:List Int} (hx:x.length=16) (hy:y.length=16):over (x++z) 0 y=y++z:=by simp [over,hx,hy]
theorem over_snd {x z y:List Int} (hx:x.length=16) (hz:z.length=16) (hy:y.length=16):over (x++z) 16 y=x++y:=by simp [over,hx,hz,hy]
theorem B2.put1 {w:World} {b:Nat} {x z y:List Int} (h:B2 w b (x++z)) (hx:x.length=16) (hy:y.length=16):B2 (w.setCells b 0 (ints .i64 y).toArray.toList) b (y++z):=by
 have hl:=h.2
 rw [List.length_append,hx] at hl
 have h1:=h.1.over (j:=0) (ys:=y) (by rw [h.2];omega)
 rw [over_fst hx hy] at h1
 exact ⟨h1,by rw [List.length_append];omega⟩
theorem B2.put2 {w:World} {b:Nat} {x z y:List Int} (h:B2 w b (x++z)) (hx:x.length=16) (hy:y.length=16):B2 (w.setCells b 16 (ints .i64 y).toArray.toList) b (x++y):=by
 have hl:=h.2
 rw [List.length_append,hx] at hl
 have h1:=h.1.over (j:=16) (ys:=y) (by rw [h.2];omega)
 rw [over_snd hx (by omega) hy,Nat.zero_add] at h1
 exact ⟨h1,by rw [List.length_append];omega⟩
theorem B2.pastAt {w:World} {b:Nat} {l:List Int} (h:B2 w b l) {b':Nat} (o:Nat) (vs:List Value) (hb:b'≠b):B2 (w.setCells b' o vs) b l:=⟨h.1.past vs (.inl hb),h.2⟩
def IsZ2 (base:Nat):Value→World→Prop:=fun v w=>∃b,v=.pointer (some ⟨b,0,none⟩)∧base≤b∧B2 w b (zeros 32)
theorem IsZ2.grows (base:Nat):Grows (IsZ2 base):=fun _ _ _ ⟨b,h1,h0,h2⟩ hb=>⟨b,h1,h0,h2.next hb⟩
def IsZ22 (base:Nat):Value→World→Prop:=fun v w=>∃b,v=.pointer (some ⟨b,0,none⟩)∧base≤b∧By w b (zeros 32)
theorem IsZ22.grows (base:Nat):Grows (IsZ22 base):=fun _ _ _ ⟨b,h1,h0,h2⟩ hb=>⟨b,h1,h0,h2.next hb⟩
section
variable {ops:Array Oper} {md:Region.Mode} {W:World} {a0:Act} {n:Nat} {al:Nat→Bool} {S:Nat→Value→World→Prop} {Q:Exit→Act→World→Prop} {i:Nat} {o:Oper} {b:Nat} {l:List Int}
theorem alloc45 (ev:Operand→Value) (o:Oper) (ho:o.op=.alloc 74) (w:World):(execOp ev o).run Tryz.prog w=.ok (.value (.pointer (some ⟨w.heap.size,0,none⟩))) (w.alloc (.cells (ints .i64 (zeros 32)).toArray 74)):=by
 obtain ⟨z,s⟩:=zero_of_info inf45
 unfold execOp
 simp only [ho]
 go_simp
theorem alloc22 (ev:Operand→Value) (o:Oper) (ho:o.op=.alloc 22) (w:World):(execOp ev o).run Tryz.prog w=.ok (.value (.pointer (some ⟨w.heap.size,0,none⟩))) (w.alloc (.cells (ints .u8 (zeros 32)).toArray 22)):=by
 obtain ⟨z,s⟩:=zero_of_info inf22
 unfold execOp
 simp only [ho]
 go_simp
theorem step_alloc45 (hg:GuardOn ops md n S i o) (ho:o.op=.alloc 74) (hS:S i=IsZ2 W.heap.size):StepOk Tryz.prog ops md W a0 n al S Q i o :=
 step_alloc hg (fun ev w=>alloc45 ev o ho w) fun w hw=>by rw [hS];exact ⟨w.heap.size,rfl,Below.size hw,B2.new w _ (zeros_len 32)⟩
theorem step_alloc22 (hg:GuardOn ops md n S i o) (ho:o.op=.alloc 22) (hS:S i=IsZ22 W.heap.size):StepOk Tryz.prog ops md W a0 n al S Q i o :=
 step_alloc hg (fun ev w=>alloc22 ev o ho w) fun w hw=>by rw [hS];exact ⟨w.heap.size,rfl,Below.size hw,By.new w _ (zeros_len 32)⟩
theorem step_fa0 (hal:al i=false) (hg:GuardOn ops md n S i o) {x:Operand} (ho:o.op=.fieldAddr 74 x 0) (hS:S i=Is (.pointer (some ⟨b,0,none⟩))) (hk:Knows ops md W a0 n S i x (.pointer (some ⟨b,0,none⟩))):StepOk Tryz.prog ops md W a0 n al S Q i o :=
 step_run hal hg fun a w hw hf hd=>⟨.pointer (some ⟨b,0,none⟩),by
  have h:=hk a w hw hf hd
  revert h
  generalize a.eval=ev
  intro h
  unfold execOp
  simp only [ho,h]
  go_simp,by rw [hS];exact rfl⟩
theorem step_fa1 (hal:al i=false) (hg:GuardOn ops md n S i o) {x:Operand} (ho:o.op=.fieldAddr 74 x 1) (hS:S i=Is (.pointer (some ⟨b,16,none⟩))) (hk:Knows ops md W a0 n S i x (.pointer (some ⟨b,0,none⟩))):StepOk Tryz.prog ops md W a0 n al S Q i o :=
 step_run hal hg fun a w hw hf hd=>⟨.pointer (some ⟨b,16,none⟩),by
  have h:=hk a w hw hf hd
  revert h
  generalize a.eval=ev
  intro h
  unfold execOp
  simp only [ho,h]
  go_simp,by rw [hS];exact rfl⟩
theorem step_part (hal:al i=false) (hg:GuardOn ops md n S i o) {x:Operand} {f:Nat} (h:Arr W b f .i64 l) (hl:l.length=16) (ho:o.op=.load 70 x) (hS:S i=Is (.agg (ints .i64 l).toArray)) (hk:Knows ops md W a0 n S i x (.pointer (some ⟨b,f,none⟩))):StepOk Tryz.prog ops md W a0 n al S Q i o :=
 step_run hal hg fun a w hw hf hd=>⟨_,ex_load 70 x ho b f (hk a w hw hf hd) (ints .i64 l) _ (h.below hw (h.lt (by omega))).range Tryz.underlying70 rfl (l26 hl),by rw [hS];exact rfl⟩
theorem step_make (hal:al i=false) (hg:GuardOn ops md n S i o) {x y:Operand} {u v:List Int} (ho:o.op=.build 74 #[(0,x),(1,y)]) (hu:u.length=16) (hv:v.length=16) (hS:S i=Is (.agg (ints .i64 (u++v)).toArray)) (hx:Knows ops md W a0 n S i x (.agg (ints .i64 u).toArray)) (hy:Knows ops md W a0 n S i y (.agg (ints .i64 v).toArray)):StepOk Tryz.prog ops md W a0 n al S Q i o :=
 step_run hal hg fun a w hw hf hd=>⟨.agg (ints .i64 (u++v)).toArray,by
  have h1:=hx a w hw hf hd
  have h2:=hy a w hw hf hd
  revert h1 h2
  generalize a.eval=ev
  intro h1 h2
  have h:=run_build (P:=Tryz.prog) w 74 #[(0,ev x),(1,ev y)] _ (by rw [h1,h2];exact built45 hu hv)
  unfold execOp
  simp only [ho,Sem.run_bind]
  simp only [List.map_toArray,List.map_cons,List.map_nil,h,Result.andThen_ok,Sem.run_pure],by rw [hS];exact rfl⟩
theorem step_make1 (hal:al i=false) (hg:GuardOn ops md n S i o) {x:Operand} {u:List Int} (ho:o.op=.build 74 #[(0,x)]) (hu:u.length=16) (hS:S i=Is (.agg (ints .i64 (u++zeros 16)).toArray)) (hx:Knows ops md W a0 n S i x (.agg (ints .i64 u).toArray)):StepOk Tryz.prog ops md W a0 n al S Q i o :=
 step_run hal hg fun a w hw hf hd=>⟨.agg (ints .i64 (u++zeros 16)).toArray,by
  have h1:=hx a w hw hf hd
  revert h1
  generalize a.eval=ev
  intro h1
  have h:=run_build (P:=Tryz.prog) w 74 #[(0,ev x)] _ (by rw [h1];exact built45o hu)
  unfold execOp
  simp only [ho,Sem.run_bind]
  simp only [List.map_toArray,List.map_cons,List.map_nil,h,Result.andThen_ok,Sem.run_pure],by rw [hS];exact rfl⟩
theorem step_to0 (hal:al i=false) (hg:GuardOn ops md n S i o) {f:FuncId} {ts:Array TypeId} {v:Value} (ho:o.op=.call { callee:=.value (.func f),args:=#[],argTypes:=ts }) (hcf:∀vs w,(callFunc f vs).run Tryz.prog w=.ok (.enter f vs) w)
 (hc:CallsTo f #[] v) (hS:S i=Is v):StepOk Tryz.prog ops md W a0 n al S Q i o :=
 step_to hal hg ho hcf hc hS fun _ _ _ _ _=>by simp
theorem three_args {x y z:Operand} {u v t:Value} (hx:Knows ops md W a0 n S i x u) (hy:Knows ops md W a0 n S i y v) (hz:Knows ops md W a0 n S i z t):∀(a:Act) (w:World),Cl W w→Fr ops n a0 a→Dp ops md n S i a w→#[x,y,z].map a.eval = #[u,v,t]:=fun a w hw hf hd=>by
 have e : #[x,y,z].map a.eval = #[a.eval x,a.eval y,a.eval z]:=by simp
 rw [e,hx a w hw hf hd,hy a w hw hf hd,hz a w hw hf hd]
end
theorem By.room {w:World} {b:Nat} {l:List Int} (h:By w b l) {l':List Int} (e:l'.length=32):w.there b 0 (ints .u8 l').toArray.size:=h.1.room (by rw [e,h.2])
theorem By.stored {w:World} {b:Nat} {l:List Int} (h:By w b l) {l':List Int} (e:l'.length=32):By (w.setCells b 0 (ints .u8 l').toArray.toList) b l':=⟨h.1.stored (by rw [e,h.2]),e⟩
theorem two_out {ops:Array Oper} {md:Region.Mode} {Q:Exit→Act→World→Prop} {a:Act} {w:World} (o0 o1 o2 o3:Oper) (h0:ops[0]? = some o0) (h1:ops[1]? = some o1) (h2:ops[2]? = some o2) (h3:ops[3]? = some o3)
 (g0:o0.guard=none) (g1:o1.guard=none) (g2:o2.guard=none) (g3:o3.guard=none)
 (r0:Region.ready md ops #[false,false,false,false]=[0,1]) (r1:Region.ready md ops #[true,false,false,false]=[1,2]) (r2:Region.ready md ops #[true,true,false,false]=[2]) (r3:Region.ready md ops #[true,false,true,false]=[1])
 (r4:Region.ready md ops #[true,true,true,false]=[3]) (r5:Region.ready md ops #[false,true,false,false]=[0]) (r6:Region.ready md ops #[true,true,true,true]=[])
 (p q x y dx dy:Tmp) (ty:TypeId) (e0:o0.op=.load ty (.tmp x)) (e1:o1.op=.load ty (.tmp y)) (e2:o2.op=.store ty (.tmp p) (.tmp dx)) (e3:o3.op=.store ty (.tmp q) (.tmp dy)) (d0:o0.dst=some dx) (d1:o1.dst=some dy) (d2:o2.dst=none) (d3:o3.dst=none)
 (bp bq bx by_:Nat) (k:IntKind) (l m l0 m0:List Int) (hx:Arr w bx 0 k l) (hy:Arr w by_ 0 k m) (hp:Arr w bp 0 k l0) (hq:Arr w bq 0 k m0) (ll:l.length=l0.length) (lm:m.length=m0.length) (npy:bp≠by_) (npq:bp≠bq)
 (d:TypeDesc) (hu:Tryz.prog.underlying ty=some d) (hr:d.isRow=true) (hil:(Tryz.prog.info? ty).map (·.size)=some (ints k l).length) (him:(Tryz.prog.info? ty).map (·.size)=some (ints k m).length)
 (ap:a.eval (.tmp p)=.pointer (some ⟨bp,0,none⟩)) (aq:a.eval (.tmp q)=.pointer (some ⟨bq,0,none⟩)) (ax:a.eval (.tmp x)=.pointer (some ⟨bx,0,none⟩)) (ay:a.eval (.tmp y)=.pointer (some ⟨by_,0,none⟩))
 (nx:dx<a.tmps.size) (ny:dy<a.tmps.size) (n1:dx≠dy) (n2:dx≠p) (n3:dx≠q) (n4:dx≠y) (n5:dy≠p) (n6:dy≠q) (n7:dy≠x)
 (h:∀w',Arr w' bp 0 k l→Arr w' bq 0 k m→w'=(w.setCells bp 0 (ints k l)).setCells bq 0 (ints k m)→Q .normal ((a.put (some dx) (.agg (ints k l).toArray)).put (some dy) (.agg (ints k m).toArray)) w') :
 wpAny Tryz.prog md ops Q 4 #[false,false,false,false] a w:=by
 have il:(Tryz.prog.info? ty).map (·.size)=some (ints k l).toArray.size:=by simpa using hil
 have im:(Tryz.prog.info? ty).map (·.size)=some (ints k m).toArray.size:=by simpa using him
 have put_same:∀(a:Act) (d:Tmp) (v:Value),d<a.tmps.size→(a.put (some d) v).eval (.tmp d)=v:=fun a d v h1=>by simp [Act.put,Act.eval,Array.getD,h1]
 have put_other:∀(a:Act) (d t:Tmp) (v:Value),d≠t→(a.put (some d) v).eval (.tmp t)=a.eval (.tmp t):=fun a d t v hne=>by
  simp only [Act.put,Act.eval,Array.getD_eq_getD_getElem?]
  rw [Array.getElem?_setIfInBounds_ne hne]
 have put_size:∀(a:Act) (d:Tmp) (v:Value),(a.put (some d) v).tmps.size=a.tmps.size:=fun a d v=>by simp [Act.put]
 have put_comm:((a.put (some dy) (.agg (ints k m).toArray)).put (some dx) (.agg (ints k l).toArray))=((a.put (some dx) (.agg (ints k l).toArray)).put (some dy) (.agg (ints k m).toArray)):=by
  simp only [Act.put]
  rw [Array.setIfInBounds_comm _ _ (Ne.symm n1)]
 have hpr:w.there bp 0 (ints k l).toArray.size:=hp.room ll
 have hp1:=hp.stored ll
 have hq1:=hq.past (b':=bp) (o':=0) (ints k l).toArray.toList (.inl npq)
 have hy1:=hy.past (b':=bp) (o':=0) (ints k l).toArray.toList (.inl npy)
 have hqr:(w.setCells bp 0 (ints k l).toArray.toList).there bq 0 (ints k m).toArray.size:=hq1.room lm
 have hp2:=hp1.past (b':=bq) (o':=0) (ints k m).toArray.toList (.inl (Ne.symm npq))
 have hq2:=hq1.stored lm
 have fin:=h _ hp2 hq2 rfl
 have L0:∀ev:Operand→Value,ev (.tmp x)=.pointer (some ⟨bx,0,none⟩)→(execOp ev o0).run Tryz.prog w=.ok (.value (.agg (ints k l).toArray)) w:=fun ev hev=>ex_load ty (.tmp x) e0 bx 0 hev (ints k l) _ hx.range hu hr hil
 have L1:∀ev:Operand→Value,ev (.tmp y)=.pointer (some ⟨by_,0,none⟩)→(execOp ev o1).run Tryz.prog w=.ok (.value (.agg (ints k m).toArray)) w:=fun ev hev=>ex_load ty (.tmp y) e1 by_ 0 hev (ints k m) _ hy.range hu hr him
 have L1':∀ev:Operand→Value,ev (.tmp y)=.pointer (some ⟨by_,0,none⟩)→(execOp ev o1).run Tryz.prog (w.setCells bp 0 (ints k l).toArray.toList)=.ok (.value (.agg (ints k m).toArray)) (w.setCells bp 0 (ints k l).toArray.toList):=fun ev hev=>ex_load ty (.tmp y) e1 by_ 0 hev (ints k m) _ hy1.range hu hr him
 have A1:∀v,(a.put (some dx) v).eval (.tmp y)=.pointer (some ⟨by_,0,none⟩):=fun v=>(put_other a dx y v n4).trans ay
 have A2:∀v,(a.put (some dx) v).eval (.tmp p)=.pointer (some ⟨bp,0,none⟩):=fun v=>(put_other a dx p v n2).trans ap
 have A3:∀v u,((a.put (some dx) v).put (some dy) u).eval (.tmp p)=.pointer (some ⟨bp,0,none⟩):=fun v u=>(put_other _ dy p u n5).trans (A2 v)
 have A4:∀v u,((a.put (some dx) v).put (some dy) u).eval (.tmp dx)=v:=fun v u=>(put_other _ dy dx u (Ne.symm n1)).trans (put_same a dx v nx)
 have A5:∀v u,((a.put (some dx) v).put (some dy) u).eval (.tmp q)=.pointer (some ⟨bq,0,none⟩):=fun v u=>((put_other _ dy q u n6).trans (put_other a dx q v n3)).trans aq
 have A6:∀v u,((a.put (some dx) v).put (some dy) u).eval (.tmp dy)=u:=fun v u=>put_same _ dy u (by rw [put_size];exact ny)
 have A7:∀v,(a.put (some dy) v).eval (.tmp x)=.pointer (some ⟨bx,0,none⟩):=fun v=>(put_other a dy x v n7).trans ax
 refine any2 (i:=0) (k:=1) r0 ?_ ?_
 ·refine op_val h0 g0 (L0 _ ax) ?_
  rw [d0]
  refine any2 (i:=1) (k:=2) r1 ?_ ?_
  ·refine op_val h1 g1 (L1 _ (A1 _)) ?_
   rw [d1]
   refine any1 (i:=2) r2 (op_store h2 g2 ty _ _ e2 bp _ (A3 _ _) (A4 _ _) hpr il (ints_all _ _) ?_)
   rw [d2]
   refine any1 (i:=3) r4 (op_store h3 g3 ty _ _ e3 bq _ (A5 _ _) (A6 _ _) hqr im (ints_all _ _) ?_)
   rw [d3]
   exact any0 r6 fin
  ·refine op_store h2 g2 ty _ _ e2 bp _ (A2 _) (put_same a dx _ nx) hpr il (ints_all _ _) ?_
   rw [d2]
   refine any1 (i:=1) r3 (op_val h1 g1 (L1' _ (A1 _)) ?_)
   rw [d1]
   refine any1 (i:=3) r4 (op_store h3 g3 ty _ _ e3 bq _ (A5 _ _) (A6 _ _) hqr im (ints_all _ _) ?_)
   rw [d3]
   exact any0 r6 fin
 ·refine op_val h1 g1 (L1 _ ay) ?_
  rw [d1]
  refine any1 (i:=0) r5 (op_val h0 g0 (L0 _ (A7 _)) ?_)
  rw [d0,put_comm]
  refine any1 (i:=2) r2 (op_store h2 g2 ty _ _ e2 bp _ (A3 _ _) (A4 _ _) hpr il (ints_all _ _) ?_)
  rw [d2]
  refine any1 (i:=3) r4 (op_store h3 g3 ty _ _ e3 bq _ (A5 _ _) (A6 _ _) hqr im (ints_all _ _) ?_)
  rw [d3]
  exact any0 r6 fin
theorem cf35 (vs:Array Value) (w:World):(callFunc 74 vs).run Tryz.prog w=.ok (.enter 74 vs) w:=by go_simp
end Go.Proofs.YtkblmdakejmmhaaGreatDoor
