import Derived.Test.YtkblmdakejmmhaaGreatDoorG18
namespace Go.Proofs.YtkblmdakejmmhaaGreatDoor
open Go Go.RowKit
section
set_option maxRecDepth 50000
def Rw (w:World) (b o:Nat) (vs:List Value):Prop:=∀i v,vs[i]? = some v→w.cell? ⟨b,o+i,none⟩=some v∧w.frozen? ⟨b,o+i,none⟩=false
section
variable {w w':World} {b o o':Nat} {vs us:List Value}
theorem Rw.range (h:Rw w b o vs):w.rangeAt b o vs:=fun j v hv=>(h j v hv).1
theorem Rw.there (h:Rw w b o vs):w.there b o vs.length:=fun j hj=>⟨by rw [(h j vs[j] (by simp [hj])).1];rfl,(h j vs[j] (by simp [hj])).2⟩
theorem Rw.of (h1:w.rangeAt b o vs) (h2:w.there b o vs.length):Rw w b o vs:=fun i v hi=>⟨h1 i v hi,(h2 i (List.getElem?_eq_some_iff.1 hi).1).2⟩
theorem Rw.lt (h:Rw w b o vs) (hp:0<vs.length):b<w.heap.size:=World.block_lt_of_cell? w _ (h 0 vs[0] (by simp [hp])).1
theorem Rw.same (h:Rw w b o vs) (he:w'.heap[b]? = w.heap[b]?):Rw w' b o vs:=fun i v hi=>by
 rw [World.cell?_of_block (a:=⟨b,o+i,none⟩) he,World.frozen?_of_block (a:=⟨b,o+i,none⟩) he]
 exact h i v hi
theorem Rw.next (h:Rw w b o vs) (hb:Below w.heap.size w w'):Rw w' b o vs:=fun i v hi=>h.same (hb.block b (World.block_lt_of_cell? w _ (h i v hi).1)) i v hi
theorem Rw.left (h:Rw w b o (vs++us)):Rw w b o vs:=fun i v hi=>h i v (by rw [List.getElem?_append_left (List.getElem?_eq_some_iff.1 hi).1];exact hi)
theorem Rw.right (h:Rw w b o (vs++us)) (e:o'=o+vs.length):Rw w b o' us:=fun i v hi=>by
 have h1:=h (vs.length+i) v (by rw [List.getElem?_append_right (by omega),Nat.add_sub_cancel_left];exact hi)
 rwa [←Nat.add_assoc,←e] at h1
theorem Rw.stored (h:Rw w b o vs) (e:us.length=vs.length):Rw (w.setCells b o us) b o us:=by
 have ht:w.there b o us.length:=by rw [e];exact h.there
 exact Rw.of (World.rangeAt_setCells_same w b o us ht) (World.there_setCells ht b o us)
theorem Rw.roomA (h:Rw w b o vs) (e:us.length=vs.length):w.there b o us.toArray.size:=by
 have:=h.there
 rw [←e] at this
 exact this
theorem Rw.storedA (h:Rw w b o vs) (e:us.length=vs.length):Rw (w.setCells b o us.toArray.toList) b o us:=h.stored e
theorem szV {P:Program} {T m:Nat} {z:Value} (h:(P.info? T).map (fun i=>(i.zero,i.size))=some (some z,m)) (hv:vs.length=m):(P.info? T).map (·.size)=some vs.length:=by
 cases hc:P.info? T with
 | none=>rw [hc] at h;simp at h
 | some i =>
   rw [hc] at h
   simp only [Option.map_some,Option.some.injEq,Prod.mk.injEq] at h
   simp [h.2,hv]
theorem szA {P:Program} {T m:Nat} {z:Value} (h:(P.info? T).map (fun i=>(i.zero,i.size))=some (some z,m)) (hv:vs.length=m):(P.info? T).map (·.size)=some vs.toArray.size:=szV h hv
theorem il {k:IntKind} {l:List Int} {m:Nat} (h:l.length=m):(ints k l).length=m:=by rw [ints_length];exact h
theorem Rw.new (w:World) (vs:List Value) (T:TypeId):Rw (w.alloc (.cells vs.toArray T)) w.heap.size 0 vs:=fun i v hi=>by
 rw [Nat.zero_add,World.cell?_alloc_new,World.frozen?_alloc_new]
 exact ⟨by simpa using hi,rfl⟩
theorem Arr.rw {k:IntKind} {xs:List Int} (h:Arr w b o k xs):Rw w b o (ints k xs):=Rw.of h.range (by rw [ints_length];exact h.there)
theorem Rw.arr {k:IntKind} {xs:List Int} (h:Rw w b o (ints k xs)):Arr w b o k xs:=Arr.of h.range (by have:=h.there;rwa [ints_length] at this)
theorem Rw.nums {k:IntKind} {xs:List Int} (h:Rw w b o (ints k xs)):Nums w k (some ⟨b,o,none⟩) xs:=h.arr.nums
theorem ints_app (k:IntKind) (xs ys:List Int):ints k (xs++ys)=ints k xs++ints k ys:=by simp [ints]
theorem Rw.lo {k:IntKind} {xs ys:List Int} (h:Rw w b o (ints k (xs++ys))):Rw w b o (ints k xs):=by rw [ints_app] at h;exact h.left
theorem Rw.hi {k:IntKind} {xs ys:List Int} (h:Rw w b o (ints k (xs++ys))) (e:o'=o+xs.length):Rw w b o' (ints k ys):=by rw [ints_app] at h;exact h.right (by rw [ints_length];exact e)
end
def IsZV (base:Nat) (zs:List Value):Value→World→Prop:=fun v w=>∃b,v=.pointer (some ⟨b,0,none⟩)∧base≤b∧Rw w b 0 zs
theorem IsZV.grows (base:Nat) (zs:List Value):Grows (IsZV base zs):=fun _ _ _ ⟨b,h1,h0,h2⟩ hb=>⟨b,h1,h0,h2.next hb⟩
def IsRowV (base k:Nat) (vs:List Value):Value→World→Prop:=fun v w=>∃b,v=.slice (some ⟨b,0,none⟩) k k∧base≤b∧Rw w b 0 vs
theorem IsRowV.grows (base k:Nat) (vs:List Value):Grows (IsRowV base k vs):=fun _ _ _ ⟨b,h1,h0,h2⟩ hb=>⟨b,h1,h0,h2.next hb⟩
def IsOwn (base:Nat) (e:TypeId) (k:IntKind) (xs:List Int):Value→World→Prop:=fun v w=>∃A c,v=.slice A xs.length c∧Owns w base e k v xs
theorem IsOwn.grows (base:Nat) (e:TypeId) (k:IntKind) (xs:List Int):Grows (IsOwn base e k xs):=fun _ _ _ ⟨A,c,h1,h2⟩ hb=>⟨A,c,h1,h2.stay hb⟩
section
variable {P:Program} {ops:Array Oper} {md:Region.Mode} {W:World} {a0:Act} {n:Nat} {al:Nat→Bool} {S:Nat→Value→World→Prop} {Q:Exit→Act→World→Prop} {i:Nat} {o:Oper}
def KnowsW (ops:Array Oper) (md:Region.Mode) (W:World) (a0:Act) (n:Nat) (S:Nat→Value→World→Prop) (i:Nat) (x:Operand) (R:Value→World→Prop):Prop:=∀(a:Act) (w:World),Cl W w→Fr ops n a0 a→Dp ops md n S i a w→R (a.eval x) w
theorem knowsW_in (j d:Nat) {R:Value→World→Prop} (hj:j<n) (hw:Region.waitsFor md ops i j=true) (hd:dstOf ops j=some d) (hS:S j=R):KnowsW ops md W a0 n S i (.tmp d) R:=fun a w _ _ hdp=>by
 have h:=hdp j d hj hw hd
 rw [hS] at h
 exact h
theorem step_ldV (hal:al i=false) (hg:GuardOn ops md n S i o) {T:TypeId} {x:Operand} {b f:Nat} {vs:List Value} {d:TypeDesc} (h:∀w,Cl W w→w.rangeAt b f vs) (ho:o.op=.load T x) (hU:P.underlying T=some d) (hR:d.isRow=true) (hs:(P.info? T).map (·.size)=some vs.length) (hS:S i=Is (.agg vs.toArray)) (hx:Knows ops md W a0 n S i x (.pointer (some ⟨b,f,none⟩))):StepOk P ops md W a0 n al S Q i o :=
 step_run hal hg fun a w hw hf hd=>⟨_,ex_load T x ho b f (hx a w hw hf hd) vs d (h w hw) hU hR hs,by rw [hS];exact rfl⟩
theorem ex_allocV {T:TypeId} {zs:List Value} {m:Nat} (hI:(P.info? T).map (fun i=>(i.zero,i.size))=some (some (.agg zs.toArray),m)) (ev:Operand→Value) (o:Oper) (ho:o.op=.alloc T) (w:World):(execOp ev o).run P w=.ok (.value (.pointer (some ⟨w.heap.size,0,none⟩))) (w.alloc (.cells zs.toArray T)):=by
 obtain ⟨z,s⟩:=zero_of_info hI
 unfold execOp
 simp only [ho]
 go_simp
theorem step_allocV (hg:GuardOn ops md n S i o) {T:TypeId} {zs:List Value} {m:Nat} (hI:(P.info? T).map (fun i=>(i.zero,i.size))=some (some (.agg zs.toArray),m)) (ho:o.op=.alloc T) (hS:S i=IsZV W.heap.size zs):StepOk P ops md W a0 n al S Q i o :=
 step_alloc hg (fun ev w=>ex_allocV hI ev o ho w) fun w hw=>by rw [hS];exact ⟨w.heap.size,rfl,Below.size hw,Rw.new w zs T⟩
theorem step_one (hal:al i=false) (hg:GuardOn ops md n S i o) {x:Operand} {u v:Value} (hr:∀(ev:Operand→Value) w,ev x=u→(∀c,ev (.const c)=c)→(execOp ev o).run P w=.ok (.value v) w) (hS:S i=Is v) (hx:Knows ops md W a0 n S i x u):StepOk P ops md W a0 n al S Q i o :=
 step_run hal hg fun a w hw hf hd=>⟨v,hr a.eval w (hx a w hw hf hd) (fun _=>rfl),by rw [hS];exact rfl⟩
theorem step_two (hal:al i=false) (hg:GuardOn ops md n S i o) {x y:Operand} {u t v:Value} (hr:∀(ev:Operand→Value) w,ev x=u→ev y=t→(∀c,ev (.const c)=c)→(execOp ev o).run P w=.ok (.value v) w) (hS:S i=Is v) (hx:Knows ops md W a0 n S i x u) (hy:Knows ops md W a0 n S i y t):StepOk P ops md W a0 n al S Q i o :=
 step_run hal hg fun a w hw hf hd=>⟨v,hr a.eval w (hx a w hw hf hd) (hy a w hw hf hd) (fun _=>rfl),by rw [hS];exact rfl⟩
theorem step_mvP (hal:al i=false) (hg:GuardOn ops md n S i o) {x:Operand} {v:Value} (ho:o.op=.move x) (hS:S i=Is v) (hk:Knows ops md W a0 n S i x v):StepOk P ops md W a0 n al S Q i o :=
 step_one hal hg (fun ev w h _=>by unfold execOp;simp only [ho,h];rfl) hS hk
theorem step_asgP (hal:al i=false) (hg:GuardOn ops md n S i o) {x:Operand} {v:Value} (ho:o.op=.assign x) (hS:S i=Is v) (hk:Knows ops md W a0 n S i x v):StepOk P ops md W a0 n al S Q i o :=
 step_one hal hg (fun ev w h _=>by unfold execOp;simp only [ho,h];rfl) hS hk
theorem step_copyW (hal:al i=false) (hg:GuardOn ops md n S i o) (j d:Nat) {R:Value→World→Prop} (ho:o.op=.move (.tmp d)∨o.op=.assign (.tmp d)) (hS:S i=R) (hj:j<n) (hw:Region.waitsFor md ops i j=true) (hd:dstOf ops j=some d) (hSj:S j=R):StepOk P ops md W a0 n al S Q i o :=
 step_run hal hg fun a w _ _ hdp=>⟨a.eval (.tmp d),by
  unfold execOp
  rcases ho with ho|ho <;> simp only [ho] <;> rfl,by
  have h:=hdp j d hj hw hd
  rw [hSj] at h
  rw [hS];exact h⟩
theorem step_buildP (hal:al i=false) (hg:GuardOn ops md n S i o) {T:TypeId} {parts:Array (Nat × Operand)} {pv:List (Nat × Value)} {cs:Array Value} (ho:o.op=.build T parts) (hb:P.built T pv=some cs) (hS:S i=Is (.agg cs))
 (hv:∀(a:Act) (w:World),Cl W w→Fr ops n a0 a→Dp ops md n S i a w→(parts.map fun (i,x)=>(i,a.eval x)).toList=pv):StepOk P ops md W a0 n al S Q i o :=
 step_run hal hg fun a w hw hf hd=>⟨.agg cs,by
  have h:=hv a w hw hf hd
  have hr:=run_build (P:=P) w T (parts.map fun (i,x)=>(i,a.eval x)) cs (by rw [h];exact hb)
  unfold execOp
  simp only [ho,Sem.run_bind,hr,Result.andThen_ok,Sem.run_pure],by rw [hS];exact rfl⟩
theorem step_len (hal:al i=false) (hg:GuardOn ops md n S i o) {T:TypeId} (hT:P.underlying T=some (.slice (P.elem T))) {x:Operand} {A:Option Addr} {m c:Nat} (ho:o.op=.call { callee:=.builtin .len,args:=#[x],argTypes:=#[T] }) (hS:S i=Is (.int .i64 (m:Int))) (hk:Knows ops md W a0 n S i x (.slice A m c)):StepOk P ops md W a0 n al S Q i o :=
 step_one hal hg (fun ev w h _=>by
  have hrun:=run_len_slice w T o.type A m c hT
  unfold execOp
  simp only [ho,resolve,invoke,builtin,Sem.run_bind,Sem.run_pure,Result.andThen_ok,List.map_toArray,List.map_cons,List.map_nil,h,hrun]
  rfl) hS hk
theorem step_eqA (hal:al i=false) (hg:GuardOn ops md n S i o) {T e m:Nat} {k:IntKind} {x y:Operand} {xs ys:List Int} {b:Bool} (ho:o.op=.binOp .eql T x y T) (hT:P.underlying T=some (.array m e)∧P.underlying e=some (.int k)∧(P.info? e).map (·.size)=some 1∧P.eqGuardType P.depth T=false) (hx:xs.length=m) (hy:ys.length=m) (hb:decide (xs=ys)=b) (hS:S i=Is (.bool b)) (h1:Knows ops md W a0 n S i x (.agg (ints k xs).toArray)) (h2:Knows ops md W a0 n S i y (.agg (ints k ys).toArray)):StepOk P ops md W a0 n al S Q i o :=
 step_two hal hg (fun ev w h1 h2 _=>by
  have he:=arr_eq_run (P:=P) T e m k xs ys hT.1 hT.2.1 hT.2.2.1 hx hy 9998 w
  have heg:=hT.2.2.2
  rw [hb] at he
  unfold execOp
  simp only [ho,h1,h2]
  go_simp) hS h1 h2
theorem step_eqC (hal:al i=false) (hg:GuardOn ops md n S i o) {T:Nat} {x:Operand} {c a:Int} {b:Bool} (ho:o.op=.binOp .eql T x (.const (.int .i64 c)) T) (hT:P.underlying T=some (.int .i64)) (hS:S i=Is (.bool b)) (hb:(a==c)=b) (h1:Knows ops md W a0 n S i x (.int .i64 a)):StepOk P ops md W a0 n al S Q i o :=
 step_one hal hg (fun ev w h hc=>by
  have h2:=hc (.int .i64 c)
  subst hb
  unfold execOp
  simp only [ho,h,h2]
  go_simp) hS h1
theorem step_neC (hal:al i=false) (hg:GuardOn ops md n S i o) {T:Nat} {x:Operand} {c a:Int} {b:Bool} (ho:o.op=.binOp .neq T x (.const (.int .i64 c)) T) (hT:P.underlying T=some (.int .i64)) (hS:S i=Is (.bool b)) (hb:(!(a==c))=b) (h1:Knows ops md W a0 n S i x (.int .i64 a)):StepOk P ops md W a0 n al S Q i o :=
 step_one hal hg (fun ev w h hc=>by
  have h2:=hc (.int .i64 c)
  subst hb
  unfold execOp
  simp only [ho,h,h2]
  go_simp
  rfl) hS h1
theorem ex_slA {T:TypeId} (hT:P.underlying T=some (.array (P.arrayLen T) (P.elem T))) (hz:∀w,(sizeOf (P.elem T)).run P w=.ok 1 w) {m:Nat} (hm:P.arrayLen T=m) {x:Operand} (ho:o.op=.slice T x none none none) {b f:Nat} (ev:Operand→Value) (w:World) (hx:ev x=.pointer (some ⟨b,f,none⟩)) (_:∀c,ev (.const c)=c):(execOp ev o).run P w=.ok (.value (.slice (some ⟨b,f,none⟩) m m)) w:=by
 subst hm
 unfold execOp
 simp only [ho,hx,Option.map_none,Sem.run_bind,run_sliceAt_array_all w T ⟨b,f,none⟩ hT,hz,Result.andThen_ok,Sem.run_pure]
 simp [slicedAt,Addr.add_mid]
theorem ex_slAh {T:TypeId} (hT:P.underlying T=some (.array (P.arrayLen T) (P.elem T))) (hz:∀w,(sizeOf (P.elem T)).run P w=.ok 1 w) {m h:Nat} (hm:P.arrayLen T=m) (hh:h≤m) {x:Operand} (ho:o.op=.slice T x none (some (.const (.int .i64 (h:Int)))) none) {b f:Nat} (ev:Operand→Value) (w:World) (hx:ev x=.pointer (some ⟨b,f,none⟩)) (hc:∀c,ev (.const c)=c):(execOp ev o).run P w=.ok (.value (.slice (some ⟨b,f,none⟩) h m)) w:=by
 subst hm
 unfold execOp
 simp only [ho,hx,Option.map_none,Option.map_some,hc,Sem.run_bind,run_sliceAt_array_h w T ⟨b,f,none⟩ hT .i64 (h:Int) (by omega) (by omega),hz,Result.andThen_ok,Sem.run_pure]
 simp [slicedAt,Addr.add_mid]
theorem ex_slAl {T:TypeId} (hT:P.underlying T=some (.array (P.arrayLen T) (P.elem T))) (hz:∀w,(sizeOf (P.elem T)).run P w=.ok 1 w) {m l f' k:Nat} (hm:P.arrayLen T=m) (hl:l<m) {x:Operand} (ho:o.op=.slice T x (some (.const (.int .i64 (l:Int)))) none none) {b f:Nat} (hf:f'=f+l) (hk:k=m - l) (ev:Operand→Value) (w:World) (hx:ev x=.pointer (some ⟨b,f,none⟩)) (hc:∀c,ev (.const c)=c):(execOp ev o).run P w=.ok (.value (.slice (some ⟨b,f',none⟩) k k)) w:=by
 subst hm hf hk
 unfold execOp
 simp only [ho,hx,Option.map_none,Option.map_some,hc,Sem.run_bind,run_sliceAt_array_l w T ⟨b,f,none⟩ hT .i64 (l:Int) (by omega) (by omega),hz,Result.andThen_ok,Sem.run_pure]
 have:¬P.arrayLen T=l:=by omega
 simp [slicedAt,Addr.add_mid,this]
theorem ex_arrP {T e:TypeId} {k:Nat} (hT:P.underlying T=some (.array k e)) {m c:Nat} (hk:k≤m) {x:Operand} (ho:o.op=.sliceToArrayPointer T x) {A:Option Addr} (ev:Operand→Value) (w:World) (hx:ev x=.slice A m c) (_:∀c,ev (.const c)=c):(execOp ev o).run P w=.ok (.value (.pointer A)) w:=by
 unfold execOp
 simp only [ho,hx,Sem.run_bind,run_arrayAt w T e k A m c hT hk,Result.andThen_ok,Sem.run_pure]
theorem ex_fld {T k:Nat} {x:Operand} (ho:o.op=.fieldAddr T x k) {b f b' f':Nat} (hr:∀w,(Instr.fieldAt T (.pointer (some ⟨b,f,none⟩)) k).run P w=.ok (.pointer (some ⟨b',f',none⟩)) w) (ev:Operand→Value) (w:World) (hx:ev x=.pointer (some ⟨b,f,none⟩)) (_:∀c,ev (.const c)=c):(execOp ev o).run P w=.ok (.value (.pointer (some ⟨b',f',none⟩))) w:=by
 unfold execOp
 simp only [ho,hx,Sem.run_bind,hr,Result.andThen_ok,Sem.run_pure]
theorem ex_nilc {x:Operand} (ho:o.op=.nilCheck x) {a:Addr} (ev:Operand→Value) (w:World) (hx:ev x=.pointer (some a)) (_:∀c,ev (.const c)=c):(execOp ev o).run P w=.ok (.value (.pointer (some a))) w:=by
 unfold execOp
 simp only [ho,hx]
 rfl
theorem step_bsl (hg:GuardOn ops md n S i o) {T e:TypeId} {k s:Nat} {z:Value} {parts:Array (Nat × Operand)} {pv:List (Nat × Value)} {vs:List Value} (ho:o.op=.buildSlice T k parts) (hu:P.underlying T=some (.slice e)) (hI:(P.info? e).map (fun i=>(i.zero,i.size))=some (some z,s)) (hsmall:¬k*s>2^24) (hpos:¬k*s=0)
 (hf:Instr.fill (fun i=>some (i*s,s)) ((Array.range (k*s)).map (z.cells[· % z.cells.size]!)) pv=some vs.toArray) (hS:S i=IsRowV W.heap.size k vs)
 (hv:∀(a:Act) (w:World),Cl W w→Fr ops n a0 a→Dp ops md n S i a w→(parts.map fun (i,x)=>(i,a.eval x)).toList=pv):StepOk P ops md W a0 n al S Q i o:=fun a w hw hf' hd=>by
 rw [if_pos (hg.wanted hd)]
 cases hq:P.info? e with
 | none=>rw [hq] at hI;simp at hI
 | some ie =>
   rw [hq] at hI
   simp only [Option.map_some,Option.some.injEq,Prod.mk.injEq] at hI
   obtain ⟨hz,rfl⟩:=hI
   refine wp_buildSlice T e k parts ho vs.toArray ie z hu hq hz hsmall hpos (by rw [hv a w hw hf' hd];exact hf) ?_
   refine ⟨_,rfl,?_,below_new w _,fun _=>⟨_,rfl,Nat.le_refl _,by simp⟩⟩
   rw [hS]
   exact ⟨w.heap.size,rfl,Below.size hw,Rw.new w vs e⟩
theorem parts1 {x:Operand} {u:Value} (hx:Knows ops md W a0 n S i x u):∀(a:Act) (w:World),Cl W w→Fr ops n a0 a→Dp ops md n S i a w→(#[(0,x)].map fun ((i:Nat),(x:Operand))=>(i,a.eval x)).toList=[(0,u)]:=fun a w hw hf hd=>by
 have h:=hx a w hw hf hd
 simp [h]
theorem ex_fnP {ev:Operand→Value} {o:Oper} {f:FuncId} {xs:Array Operand} {ts:Array TypeId} (hf:ev (.func f)=.func (.func f) #[] #[]) (hc:∀vs w,(callFunc f vs).run P w=.ok (.enter f vs) w) (ho:o.op=.call { callee:=.value (.func f),args:=xs,argTypes:=ts }) (vs:Array Value) (hv:xs.map ev=vs) (w:World):(execOp ev o).run P w=.ok (.enter f vs) w:=by
 subst hv
 unfold execOp
 simp only [ho]
 go_simp
theorem step_cw (hal:al i=false) (hg:GuardOn ops md n S i o) {f:FuncId} {xs:Array Operand} {ts:Array TypeId} {v:Value} (ho:o.op=.call { callee:=.value (.func f),args:=xs,argTypes:=ts }) (hcf:∀vs w,(callFunc f vs).run P w=.ok (.enter f vs) w)
 (hS:S i=Is v) (hv:∀(a:Act) (w:World),Cl W w→Fr ops n a0 a→Dp ops md n S i a w→∃vs,xs.map a.eval=vs∧Calls P f vs w fun e w'=>e=.returned v∧Below w.heap.size w w'):StepOk P ops md W a0 n al S Q i o :=
 step_call hal hg fun a w hw hf hd=>by
  obtain ⟨vs,h1,h2⟩:=hv a w hw hf hd
  refine ⟨f,vs,?_,h2.mono fun _ _ ⟨he,hb⟩=>⟨v,he,by rw [hS];exact rfl,hb⟩⟩
  exact ex_fnP rfl hcf ho vs h1 w
end
def vx (x c:Int):Int:=bits .xor .u8 x c
theorem vx_bd (x c:Int):0≤vx x c∧vx x c<256:=by
 show 0≤IntKind.u8.wrap _∧IntKind.u8.wrap _<256
 rw [IntKind.wrap_u8]
 omega
theorem vx_zero {c:Int} (h:0≤c∧c<256):vx 0 c=c:=by
 have key:∀n:Fin 256,vx 0 (n.val:Int)=(n.val:Int):=by decide +kernel
 obtain ⟨n,rfl⟩:=Int.eq_ofNat_of_zero_le h.1
 exact key ⟨n,by omega⟩
theorem hz_len (n:Nat):(hzeros n).length=n:=by simp [hzeros]
theorem HByt.app {a b:List Int} (h:HByt a) (k:HByt b):HByt (a++b):=fun x hx=>by
 rcases List.mem_append.1 hx with e|e
 ·exact h x e
 ·exact k x e
def vxl (c:Int) (l:List Int):List Int:=l.map fun x=>vx x c
theorem vxl_len (c:Int) (l:List Int):(vxl c l).length=l.length:=by simp [vxl]
theorem vxl_byt (c:Int) (l:List Int):HByt (vxl c l):=fun x hx=>by
 simp only [vxl,List.mem_map] at hx
 obtain ⟨y,_,rfl⟩:=hx
 exact vx_bd _ _
theorem vxl_at (c:Int) (l:List Int) {i:Nat} {x:Int} (h:l[i]? = some x):(vxl c l)[i]? = some (vx x c):=by simp [vxl,h]
theorem hash_len (m:List Int):(hash m).length=64:=by
 unfold hash
 rw [splitB_length];rfl
theorem hash_byt (m:List Int):HByt (hash m):=splitB_byt _ _ _
def keyV (key:List Int):List Int:=if 128<key.length then hash key else key
theorem keyV_le (key:List Int):(keyV key).length≤128:=by
 unfold keyV
 split
 ·rw [hash_len];omega
 ·omega
def fillV (key:List Int):List Int:=keyV key++hzeros (128 - (keyV key).length)
theorem fillV_len (key:List Int):(fillV key).length=128:=by
 unfold fillV
 have:=keyV_le key
 rw [List.length_append,hz_len];omega
def inV (key:List Int):List Int:=vxl 54 (fillV key)
def outV (key:List Int):List Int:=vxl 92 (fillV key)
theorem inV_len (key:List Int):(inV key).length=128:=by unfold inV;rw [vxl_len,fillV_len]
theorem outV_len (key:List Int):(outV key).length=128:=by unfold outV;rw [vxl_len,fillV_len]
theorem inV_byt (key:List Int):HByt (inV key):=vxl_byt _ _
theorem outV_byt (key:List Int):HByt (outV key):=vxl_byt _ _
def tagV (key b:List Int):List Int:=hash (outV key++hash (inV key++b))
theorem tagV_len (key b:List Int):(tagV key b).length=64:=hash_len _
theorem tagV_byt (key b:List Int):HByt (tagV key b):=hash_byt _
def ctxV (c:List Int):List Int:=splitB true 4 [(c.length:Int)]++c
def textV (label:List Int) (cs:List (List Int)):List Int:=splitB true 1 [(label.length:Int)]++label++(cs.map ctxV).flatten
def keyD (src label:List Int) (cs:List (List Int)):List Int:=(tagV src (textV label cs)).take 32
theorem keyD_len (src label:List Int) (cs:List (List Int)):(keyD src label cs).length=32:=by
 unfold keyD
 rw [List.length_take,tagV_len];rfl
theorem keyD_byt (src label:List Int) (cs:List (List Int)):HByt (keyD src label cs):=(tagV_byt _ _).take _
end
section
variable {P:Program} {ops:Array Oper} {md:Region.Mode} {W:World} {a0:Act} {n:Nat} {al:Nat→Bool} {S:Nat→Value→World→Prop} {Q:Exit→Act→World→Prop} {i:Nat} {o:Oper}
end
section
set_option maxRecDepth 50000 in
theorem wpList_copyR {P:Program} {w:World} {ops:Array Oper} {rest:List Oper} {o:Oper} {a:Act} {Q:Exit→Act→World→Prop} (hgd:o.guard=none) (d s:Operand) (dT sT:TypeId) (ho:o.op=.call { callee:=.builtin .copy,args:=#[d,s],argTypes:=#[dT,sT] }) {elem:TypeId} (hu:P.underlying dT=some (.slice elem)) (hs:(P.info? elem).map (·.size)=some 1)
 {b f m c c':Nat} {A:Option Addr} {k:IntKind} {old:List Value} {xs:List Int} (hd:a.eval d=.slice (some ⟨b,f,none⟩) m c) (hsl:a.eval s=.slice A m c') (hR:Rw w b f old) (hl:old.length=m) (hx:xs.length=m) (hp:0<m) (hX:Nums w k A xs)
 (h:wpList P ops Q rest (a.put o.dst (.int .i64 (m:Int))) (w.setCells b f (ints k xs).toArray.toList)):wpList P ops Q (o::rest) a w:=by
 obtain ⟨b2,f2,hA,hlt,hc⟩:=hX (by omega)
 subst hA
 have ht:=hR.there
 have hrun:=run_copy_cells (P:=P) w dT sT o.type elem b f m c ⟨b2,f2,none⟩ m c' (ints k xs) hu hs (by rw [ints_length,hx];exact (Nat.min_self m).symm) (fun j v hv=>by
  simp only [ints,List.getElem?_map,Option.map_eq_some_iff] at hv
  obtain ⟨x,hxx,rfl⟩:=hv
  have hj:=(List.getElem?_eq_some_iff.1 hxx).1
  rw [Addr.add_mid,hc j hj,List.getD_eq_getElem?_getD,hxx];rfl) (fun j hj=>(ht j (by rw [ints_length] at hj;omega)).1) (fun j hj=>(ht j (by rw [ints_length] at hj;omega)).2) (ints_one k xs)
 rw [ints_length,hx] at hrun
 refine wpList_plain hgd fun K hK=>?_
 unfold Oper.wp execOp
 simp only [ho,resolve,invoke,builtin,Sem.run_bind,Sem.run_pure,Result.andThen_ok,List.map_toArray,List.map_cons,List.map_nil,hd,hsl,hrun]
 exact hK _ _ h
section
variable {P:Program} {ops:Array Oper} {md:Region.Mode} {W:World} {a0:Act} {n:Nat} {S:Nat→Value→World→Prop} {i:Nat}
end
end
section
set_option maxHeartbeats 2000000
set_option maxRecDepth 50000
theorem run_copyV {w:World} {b o m c L c':Nat} {A:Option Addr} {xs:List Int} (hX:Nums w .u8 A xs) (hl:xs.length=L) (hm:L≤m) (ht:w.there b o L) :
 (Builtin.copy_ #[23,23] 3 #[.slice (some ⟨b,o,none⟩) m c,.slice A L c']).run Tryz.prog w=.ok (.int .i64 (L:Int)) (w.setCells b o (ints .u8 xs)):=by
 subst hl
 rcases Nat.eq_zero_or_pos xs.length with h0|hp
 ·have e:=List.eq_nil_of_length_eq_zero h0
  subst e
  exact run_copy_none w 23 23 3 5 _ A m c 0 c' Tryz.underlying23 (by kernel_rfl) (Nat.zero_min m)
 ·obtain ⟨b2,f2,rfl,hlt,hc⟩:=hX hp
  have h:=run_copy_cells (P:=Tryz.prog) w 23 23 3 5 b o m c ⟨b2,f2,none⟩ xs.length c' (ints .u8 xs) Tryz.underlying23 (by kernel_rfl) (by rw [ints_length];exact (Nat.min_eq_left hm).symm) (fun j v hv=>by
   simp only [ints,List.getElem?_map,Option.map_eq_some_iff] at hv
   obtain ⟨x,hx,rfl⟩:=hv
   have hj:=(List.getElem?_eq_some_iff.1 hx).1
   rw [Addr.add_mid,hc j hj,List.getD_eq_getElem?_getD,hx];rfl) (fun j hj=>(ht j (by rwa [ints_length] at hj)).1) (fun j hj=>(ht j (by rwa [ints_length] at hj)).2) (ints_one _ _)
  rw [ints_length] at h
  exact h
theorem infF:(Tryz.prog.info? 108).map (fun i=>(i.zero,i.size))=some (some (.agg (ints .u8 (hzeros 128)).toArray),128):=by kernel_rfl
theorem infH:(Tryz.prog.info? 83).map (fun i=>(i.zero,i.size))=some (some (.agg (ints .u8 (hzeros 64)).toArray),64):=by kernel_rfl
theorem infS32:(Tryz.prog.info? 22).map (fun i=>(i.zero,i.size))=some (some (.agg (ints .u8 (hzeros 32)).toArray),32):=by kernel_rfl
theorem over_hz {xs:List Int} {n:Nat} (h:xs.length≤n):over (hzeros n) 0 xs=xs++hzeros (n - xs.length):=by
 simp [over,hzeros]
theorem vsum (PA:Option Addr) (pc m:Nat) (ps:List (Option Addr × Nat × List Int)) (T r:List Int) (w:World) (ht:TabsH w) (hP:Parts w PA ps) (hok:∀q ∈ ps,PartOk w q) (hm:Hid (ps.length=m)) (hm2:m≤1000) (hT:Hid (flat ps=T)) (hl:Hid (T.length≤100000)) (hr:Hid (hash T=r)) :
 Calls Tryz.prog 82 #[.slice PA m pc] w fun e w'=>e=.returned (.agg (ints .u8 r).toArray)∧Below w.heap.size w w':=by
 have h:=sum_any PA pc ps w ht hP hok (by rw [hT.out];exact hl.out) (by rw [hm.out];exact hm2)
 rw [hm.out] at h
 refine h.mono ?_
 rintro e w' ⟨ys,rfl,HY,_,hb⟩
 have e:ys=r:=by rw [←hr.out,←hT.out];exact HY.out
 subst e
 exact ⟨rfl,hb⟩
theorem vsum_one (g c l:Nat) (A:Option Addr) (xs r:List Int) (w:World) (ht:TabsH w) (hg:g<w.heap.size) (hc:w.cell? ⟨g,0,none⟩=some (.slice A l c)) (hl:Hid (xs.length=l)) (hlc:l≤c) (h1:l≤1000) (hb:HByt xs) (hA:Nums w .u8 A xs) (hr:Hid (hash xs=r)) :
 Calls Tryz.prog 82 #[.slice (some ⟨g,0,none⟩) 1 1] w fun e w'=>e=.returned (.agg (ints .u8 r).toArray)∧Below w.heap.size w w':=by
 refine vsum (some ⟨g,0,none⟩) 1 1 [(A,c,xs)] xs r w ht (fun _=>⟨g,0,rfl,hg,fun i q hi=>?_⟩) (fun q hq=>?_) (hid rfl) (by omega) (hid (by simp [flat])) (hid (by rw [hl.out];omega)) hr
 ·have:i=0:=by have:=(List.getElem?_eq_some_iff.1 hi).1;simp at this;exact this
  subst this
  simp at hi
  subst hi
  show w.cell? ⟨g,0,none⟩=some (.slice A xs.length c)
  rw [hl.out];exact hc
 ·simp at hq
  subst hq
  exact ⟨hA,by show xs.length≤c;rw [hl.out];exact hlc,by show xs.length≤1000;rw [hl.out];exact h1,hb⟩
theorem fill_small (A:Option Addr) (l c:Nat) (key F:List Int) (w:World) (hl:Hid (key.length=l)) (h1:l≤128) (hA:Nums w .u8 A key) (HF:Hid (over (hzeros 128) 0 key=F)) (HFL:Hid (F.length=128)) :
 Calls Tryz.prog 81 #[.slice A l c] w fun e w'=>e=.returned (.agg (ints .u8 F).toArray)∧Below w.heap.size w w':=by
 obtain ⟨z46,s46⟩:=zero_of_info infF
 have hR:=(Arr.made w .u8 (hzeros 128) 108).alloc (.cells (ints .u8 (hzeros 128)).toArray 108)
 have hD:=Arr.made (w.alloc (.cells (ints .u8 (hzeros 128)).toArray 108)) .u8 (hzeros 128) 108
 rw [World.size_alloc] at hD
 have hW:=(below_new w (.cells (ints .u8 (hzeros 128)).toArray 108)).alloc (by simp) (.cells (ints .u8 (hzeros 128)).toArray 108)
 have hA0:=hA.below hW
 have hth:((w.alloc (.cells (ints .u8 (hzeros 128)).toArray 108)).alloc (.cells (ints .u8 (hzeros 128)).toArray 108)).there (w.heap.size+1) 0 l:=fun j hj=>hD.there j (by rw [hz_len];omega)
 have hcp:=run_copyV (m:=128) (c:=128) (c':=c) hA0 hl.out h1 hth
 have hD1:=hD.over (j:=0) (ys:=key) (by rw [hz_len,hl.out];omega)
 rw [Nat.add_zero,HF.out] at hD1
 have hR1:=hR.past (b':=w.heap.size+1) (o':=0) (ints .u8 key) (.inl (by omega))
 have hW1:=Below.setCells hW (g:=w.heap.size+1) (by omega) 0 (ints .u8 key)
 have R2:=hR1.rw.roomA (us:=ints .u8 F) ((il HFL.out).trans (il (hz_len 128)).symm)
 have X2:=hR1.rw.storedA (us:=ints .u8 F) ((il HFL.out).trans (il (hz_len 128)).symm)
 have hW2:=Below.setCells hW1 (g:=w.heap.size) (Nat.le_refl _) 0 (ints .u8 F).toArray.toList
 have hL:¬(128:Int)<(l:Int):=by omega
 clear hA hA0 hR hD hW hth hR1 hW1
 go_enter Tryz.func81,Tryz.ntmps81
 go_wp2_with (first
  | (with_reducible refine wpList_load_mid (op:=⟨some 15,.load 108 (.tmp 4),_,_,_,_⟩) rfl 108 (.tmp 4) rfl (w.heap.size+1) 0 rfl (ints .u8 F) _ (hD1.range) Tryz.underlying108 rfl (szV infF (il HFL.out)) ?_)
  | (with_reducible refine wpList_store_mid (op:=⟨none,.store 108 (.tmp 2) (.tmp 15),_,_,_,_⟩) rfl 108 (.tmp 2) (.tmp 15) rfl w.heap.size 0 (ints .u8 F).toArray rfl rfl R2 (szA infF (il HFL.out)) (ints_all _ _) ?_;clear R2 hcp hD1;generalize (((w.alloc (.cells (ints .u8 (hzeros 128)).toArray 108)).alloc (.cells (ints .u8 (hzeros 128)).toArray 108)).setCells (w.heap.size+1) 0 (ints .u8 key)).setCells w.heap.size 0 (ints .u8 F).toArray.toList=W5 at *))
 exact ret_rows rfl w.heap.size 0 rfl (ints .u8 F) _ X2.range Tryz.underlying108 rfl (szV infF (il HFL.out)) rfl ⟨rfl,hW2⟩
theorem fill_big (A:Option Addr) (l c:Nat) (key r F:List Int) (w:World) (ht:TabsH w) (hl:Hid (key.length=l)) (h0:128<l) (h1:l≤1000) (hlc:l≤c) (hkb:HByt key) (hA:Nums w .u8 A key) (HR:Hid (hash key=r)) (HRL:Hid (r.length=64)) (HF:Hid (over (hzeros 128) 0 r=F)) (HFL:Hid (F.length=128)) :
 Calls Tryz.prog 81 #[.slice A l c] w fun e w'=>e=.returned (.agg (ints .u8 F).toArray)∧Below w.heap.size w w':=by
 obtain ⟨z46,s46⟩:=zero_of_info infF
 obtain ⟨z25,s25⟩:=zero_of_info infH
 have hL:(128:Int)<(l:Int):=by omega
 have hR:=(Arr.made w .u8 (hzeros 128) 108).alloc (.cells #[.slice A l c] 23)
 have hW:=(below_new w (.cells (ints .u8 (hzeros 128)).toArray 108)).alloc (by simp) (.cells #[.slice A l c] 23)
 have hA0:=hA.below hW
 have hT0:=ht.next hW
 have hc0:((w.alloc (.cells (ints .u8 (hzeros 128)).toArray 108)).alloc (.cells #[.slice A l c] 23)).cell? ⟨w.heap.size+1,0,none⟩=some (.slice A l c):=by
  have h:=cell_one_new (w.alloc (.cells (ints .u8 (hzeros 128)).toArray 108)) (.slice A l c) 23 0 _ rfl
  rw [World.size_alloc] at h
  exact h
 have hg0:w.heap.size+1<((w.alloc (.cells (ints .u8 (hzeros 128)).toArray 108)).alloc (.cells #[.slice A l c] 23)).heap.size:=by simp
 have hs0:w.heap.size<((w.alloc (.cells (ints .u8 (hzeros 128)).toArray 108)).alloc (.cells #[.slice A l c] 23)).heap.size:=by simp;omega
 clear hA ht
 go_enter Tryz.func81,Tryz.ntmps81
 go_wp2_with (first
  | (go_at_call 82
     refine (vsum_one (w.heap.size+1) c l A key r _ hT0 hg0 hc0 hl hlc h1 hkb hA0 HR).mono ?_
     rintro e w2 ⟨rfl,hb2⟩
     replace hR:=hR.next' hb2
     replace hW:=hW.trans (Below.mono hb2 hW.size)
     have hw2:=Nat.lt_of_lt_of_le hs0 hb2.size
     have hG:=Rw.new w2 (ints .u8 (hzeros 64)) 83
     have R3:=hG.roomA (us:=ints .u8 r) ((il HRL.out).trans (il (hz_len 64)).symm)
     have X3:=(hG.storedA (us:=ints .u8 r) ((il HRL.out).trans (il (hz_len 64)).symm)).nums
     have hb3:=Below.setCells (below_new w2 (.cells (ints .u8 (hzeros 64)).toArray 83)) (Nat.le_refl _) 0 (ints .u8 r).toArray.toList
     replace hR:=hR.next' hb3
     replace hW:=hW.trans (Below.mono hb3 hW.size)
     have hw3:=Nat.lt_of_lt_of_le hw2 hb3.size
     clear hb2 hT0 hg0 hc0 hA0 hs0 hG hb3 hw2)
  | (with_reducible refine wpList_store_mid (op:=⟨none,.store 83 (.tmp 3) (.tmp 10),_,_,_,_⟩) rfl 83 (.tmp 3) (.tmp 10) rfl w2.heap.size 0 (ints .u8 r).toArray rfl rfl R3 (szA infH (il HRL.out)) (ints_all _ _) ?_
     generalize (w2.alloc (.cells (ints .u8 (hzeros 64)).toArray 83)).setCells w2.heap.size 0 (ints .u8 r).toArray.toList=W at *
     generalize w2.heap.size=g3 at *
     clear R3
     have hD:=Arr.made W .u8 (hzeros 128) 108
     have hb4:=below_new W (.cells (ints .u8 (hzeros 128)).toArray 108)
     have hR4:=hR.next' hb4
     have hA4:=X3.below hb4
     have hW4:=hW.trans (Below.mono hb4 hW.size)
     have hth:(W.alloc (.cells (ints .u8 (hzeros 128)).toArray 108)).there W.heap.size 0 64:=fun j hj=>hD.there j (by rw [hz_len];omega)
     have hcp:=run_copyV (m:=128) (c:=128) (c':=64) hA4 HRL.out (by omega) hth
     have hD1:=hD.over (j:=0) (ys:=r) (by rw [hz_len,HRL.out];omega)
     rw [Nat.add_zero,HF.out] at hD1
     have hR1:=hR4.past (b':=W.heap.size) (o':=0) (ints .u8 r) (.inl (by omega))
     have hW1:=Below.setCells hW4 (g:=W.heap.size) (by omega) 0 (ints .u8 r)
     have R2:=hR1.rw.roomA (us:=ints .u8 F) ((il HFL.out).trans (il (hz_len 128)).symm)
     have X2:=hR1.rw.storedA (us:=ints .u8 F) ((il HFL.out).trans (il (hz_len 128)).symm)
     have hW2:=Below.setCells hW1 (g:=w.heap.size) (Nat.le_refl _) 0 (ints .u8 F).toArray.toList
     clear hR hD hb4 hR4 hA4 hW4 hth X3 hR1 hW1)
  | (with_reducible refine wpList_load_mid (op:=⟨some 15,.load 108 (.tmp 4),_,_,_,_⟩) rfl 108 (.tmp 4) rfl W.heap.size 0 rfl (ints .u8 F) _ (hD1.range) Tryz.underlying108 rfl (szV infF (il HFL.out)) ?_)
  | (with_reducible refine wpList_store_mid (op:=⟨none,.store 108 (.tmp 2) (.tmp 15),_,_,_,_⟩) rfl 108 (.tmp 2) (.tmp 15) rfl w.heap.size 0 (ints .u8 F).toArray rfl rfl R2 (szA infF (il HFL.out)) (ints_all _ _) ?_;clear R2 hcp hD1;generalize ((W.alloc (.cells (ints .u8 (hzeros 128)).toArray 108)).setCells W.heap.size 0 (ints .u8 r)).setCells w.heap.size 0 (ints .u8 F).toArray.toList=W5 at *))
 exact ret_rows rfl w.heap.size 0 rfl (ints .u8 F) _ X2.range Tryz.underlying108 rfl (szV infF (il HFL.out)) rfl ⟨rfl,hW2⟩
theorem fill_any (A:Option Addr) (l c:Nat) (key:List Int) (w:World) (ht:TabsH w) (hl:Hid (key.length=l)) (h1:l≤1000) (hlc:l≤c) (hkb:HByt key) (hA:Nums w .u8 A key) :
 Calls Tryz.prog 81 #[.slice A l c] w fun e w'=>e=.returned (.agg (ints .u8 (fillV key)).toArray)∧Below w.heap.size w w':=by
 by_cases h:128<l
 ·have e:keyV key=hash key:=by unfold keyV;rw [if_pos (by rw [hl.out];exact h)]
  have hF:fillV key=over (hzeros 128) 0 (hash key):=by rw [over_hz (by rw [hash_len];omega)];unfold fillV;rw [e]
  exact fill_big A l c key (hash key) (fillV key) w ht hl h h1 hlc hkb hA (hid rfl) (hid (hash_len _)) (hid hF.symm) (hid (fillV_len _))
 ·have e:keyV key=key:=by unfold keyV;rw [if_neg (by rw [hl.out];exact h)]
  have hF:fillV key=over (hzeros 128) 0 key:=by rw [over_hz (by rw [hl.out];omega)];unfold fillV;rw [e]
  exact fill_small A l c key (fillV key) w hl (by omega) hA (hid hF.symm) (hid (fillV_len _))
end
end Go.Proofs.YtkblmdakejmmhaaGreatDoor
