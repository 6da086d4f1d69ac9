import Derived.Great.Frames
import Derived.Test.YtkblmdakejmmhaaGreatDoorG9
import Derived.Deep.Cut
namespace Go.Proofs.YtkblmdakejmmhaaGreatDoor
open Go Go.RowKit
theorem ex_fn {ev:Operand→Value} {o:Oper} {f:FuncId} {xs:Array Operand} {ts:Array TypeId} (hf:ev (.func f)=.func (.func f) #[] #[]) (hc:∀vs w,(callFunc f vs).run Tryz.prog w=.ok (.enter f vs) w) (ho:o.op=.call { callee:=.value (.func f),args:=xs,argTypes:=ts }) (vs:Array Value) (hv:xs.map ev=vs) (w:World):(execOp ev o).run Tryz.prog w=.ok (.enter f vs) w:=by
 subst hv
 unfold execOp
 simp only [ho]
 go_simp
def Is (v0:Value):Value→World→Prop:=fun v _=>v=v0
theorem Is.grows (v0:Value):Grows (Is v0):=fun _ _ _ h _=>h
def IsZ (base:Nat):Value→World→Prop:=fun v w=>∃b,v=.pointer (some ⟨b,0,none⟩)∧base≤b∧Bx w b (zeros 16)
theorem IsZ.grows (base:Nat):Grows (IsZ base):=fun _ _ _ ⟨b,h1,h0,h2⟩ hb=>⟨b,h1,h0,h2.next hb⟩
theorem grows_nil:∀S ∈ ([]:List (Value→World→Prop)),Grows S:=fun S h=>by cases h
theorem grows_cons {S:Value→World→Prop} {Ss:List (Value→World→Prop)} (h:Grows S) (k:∀S ∈ Ss,Grows S):∀T ∈ S::Ss,Grows T:=fun T hT=>by
 rcases List.mem_cons.1 hT with e|e
 ·rw [e];exact h
 ·exact k T e
def Fr (ops:Array Oper) (n:Nat) (a0 a:Act):Prop:=∀t,(∀j,j<n→dstOf ops j≠some t)→a.tmps[t]? = a0.tmps[t]?
def Dp (ops:Array Oper) (md:Region.Mode) (n:Nat) (S:Nat→Value→World→Prop) (i:Nat) (a:Act) (w:World):Prop:=∀j d,j<n→Region.waitsFor md ops i j=true→dstOf ops j=some d→S j (a.eval (.tmp d)) w
def GuardOn (ops:Array Oper) (md:Region.Mode) (n:Nat) (S:Nat→Value→World→Prop) (i:Nat) (o:Oper):Prop :=
 o.guard=none∨∃j b d,o.guard=some (j,b)∧j<n∧Region.waitsFor md ops i j=true∧dstOf ops j=some d∧∀v w,S j v w→v=.bool b
def GuardOff (ops:Array Oper) (md:Region.Mode) (n:Nat) (S:Nat→Value→World→Prop) (i:Nat) (o:Oper):Prop :=
 ∃j b d,o.guard=some (j,b)∧j<n∧Region.waitsFor md ops i j=true∧dstOf ops j=some d∧∀v w,S j v w→v=.bool (!b)∨v=undef
section
variable {P:Program} {ops:Array Oper} {md:Region.Mode} {W:World} {a0:Act} {n:Nat} {al:Nat→Bool} {S:Nat→Value→World→Prop} {Q:Exit→Act→World→Prop} {i:Nat} {o:Oper}
theorem yielded_eval {a:Act} {j d:Nat} {b:Bool} (hd:dstOf ops j=some d) (he:a.eval (.tmp d)=.bool b):yielded ops a.tmps j=some b:=by
 unfold dstOf at hd
 have ht:a.tmps[d]? = some (.bool b):=by
  simp only [Act.eval,Array.getD_eq_getD_getElem?] at he
  cases h:a.tmps[d]? with
  | none=>rw [h] at he;cases he
  | some v=>rw [h] at he;rw [←he];rfl
 unfold yielded
 rw [hd]
 simp [ht]
theorem yielded_undef {a:Act} {j d:Nat} (hd:dstOf ops j=some d) (he:a.eval (.tmp d)=undef):yielded ops a.tmps j=none:=by
 unfold dstOf at hd
 unfold yielded
 rw [hd]
 simp only [Act.eval,Array.getD_eq_getD_getElem?] at he
 cases h:a.tmps[d]? with
 | none=>simp [h]
 | some v =>
   rw [h] at he
   simp only [Option.getD_some] at he
   subst he
   simp [h,undef]
theorem GuardOn.wanted {a:Act} {w:World} (hg:GuardOn ops md n S i o) (hd:Dp ops md n S i a w):Region.wanted o (yielded ops a.tmps)=true:=by
 rcases hg with h|⟨j,b,d,h1,h2,h3,h4,h5⟩
 ·simp [Region.wanted,h]
 ·have:=h5 _ _ (hd j d h2 h3 h4)
  have hy:=yielded_eval h4 this
  unfold Region.wanted
  rw [h1]
  simp [hy]
theorem GuardOff.wanted {a:Act} {w:World} (hg:GuardOff ops md n S i o) (hd:Dp ops md n S i a w):Region.wanted o (yielded ops a.tmps)=false:=by
 obtain ⟨j,b,d,h1,h2,h3,h4,h5⟩:=hg
 unfold Region.wanted
 rw [h1]
 rcases h5 _ _ (hd j d h2 h3 h4) with h|h
 ·have hy:=yielded_eval h4 h
  simp [hy]
 ·have hy:=yielded_undef h4 h
  simp [hy]
theorem step_run (hal:al i=false) (hg:GuardOn ops md n S i o) (h:∀(a:Act) (w:World),Cl W w→Fr ops n a0 a→Dp ops md n S i a w →
 ∃v,(execOp a.eval o).run P w=.ok (.value v) w∧S i v w):StepOk P ops md W a0 n al S Q i o:=fun a w hw hf hd=>by
 rw [if_pos (hg.wanted hd)]
 obtain ⟨v,h1,h2⟩:=h a w hw hf hd
 unfold Oper.wp
 rw [h1,Oper.upon_value]
 exact ⟨v,rfl,h2,Below.refl _ _,fun e=>by rw [hal] at e;cases e⟩
theorem step_off (hal:al i=false) (hg:GuardOff ops md n S i o) (hS:∀w,S i undef w):StepOk P ops md W a0 n al S Q i o:=fun a w _ _ hd=>by
 rw [if_neg (by rw [hg.wanted hd];exact Bool.false_ne_true)]
 exact ⟨hS w,hal⟩
theorem step_callH (hg:GuardOn ops md n S i o) (h:∀(a:Act) (w:World),Cl W w→Fr ops n a0 a→Dp ops md n S i a w →
 ∃f args,(execOp a.eval o).run P w=.ok (.enter f args) w∧Calls P f args w fun e w'=>∃v,e=.returned v∧S i v w'∧Below w.heap.size w w'∧(al i=true→∃b,home v=some b∧w.heap.size≤b∧b<w'.heap.size)):StepOk P ops md W a0 n al S Q i o:=fun a w hw hf hd=>by
 rw [if_pos (hg.wanted hd)]
 obtain ⟨f,args,h1,h2⟩:=h a w hw hf hd
 unfold Oper.wp
 rw [h1,Oper.upon_enter]
 refine h2.mono fun e w' ⟨v,he,hs,hb,hh⟩=>?_
 subst he
 exact ⟨v,rfl,hs,hb,hh⟩
theorem step_call (hal:al i=false) (hg:GuardOn ops md n S i o) (h:∀(a:Act) (w:World),Cl W w→Fr ops n a0 a→Dp ops md n S i a w →
 ∃f args,(execOp a.eval o).run P w=.ok (.enter f args) w∧Calls P f args w fun e w'=>∃v,e=.returned v∧S i v w'∧Below w.heap.size w w'):StepOk P ops md W a0 n al S Q i o :=
 step_callH hg fun a w hw hf hd=>by
  obtain ⟨f,args,h1,h2⟩:=h a w hw hf hd
  exact ⟨f,args,h1,h2.mono fun _ _ ⟨v,he,hs,hb⟩=>⟨v,he,hs,hb,fun e=>by rw [hal] at e;cases e⟩⟩
theorem step_alloc {ob:Obj} (hg:GuardOn ops md n S i o) (h:∀ev w,(execOp ev o).run P w=.ok (.value (.pointer (some ⟨w.heap.size,0,none⟩))) (w.alloc ob)) (hS:∀w:World,Cl W w→S i (.pointer (some ⟨w.heap.size,0,none⟩)) (w.alloc ob)):StepOk P ops md W a0 n al S Q i o:=fun a w hw _ hd=>by
 rw [if_pos (hg.wanted hd)]
 unfold Oper.wp
 rw [h,Oper.upon_value]
 exact ⟨_,rfl,hS w hw,below_new w ob,fun _=>⟨_,rfl,Nat.le_refl _,by simp⟩⟩
def notDst (ops:Array Oper) (n:Nat) (t:Tmp):Bool:=(List.range n).all fun j=>!(dstOf ops j==some t)
theorem eval_out {a:Act} (hf:Fr ops n a0 a) (t:Tmp) (hB:notDst ops n t=true):a.eval (.tmp t)=a0.eval (.tmp t):=by
 have h:=hf t fun j hj e=>by
  have:=List.all_eq_true.1 hB j (List.mem_range.2 hj)
  rw [e] at this
  simp at this
 simp only [Act.eval,Array.getD_eq_getD_getElem?,h]
end
section
variable {ops:Array Oper} {md:Region.Mode} {W:World} {a0:Act} {n:Nat} {al:Nat→Bool} {S:Nat→Value→World→Prop} {Q:Exit→Act→World→Prop} {i:Nat} {o:Oper} {b:Nat} {l:List Int}
theorem step_el (hal:al i=false) (hg:GuardOn ops md n S i o) (h:Bx W b l) (t:Tmp) (ho:o.op=.load 70 (.tmp t)) (hB:notDst ops n t=true) (hx:a0.eval (.tmp t)=.pointer (some ⟨b,0,none⟩)) (hS:S i=Is (.agg (ints .i64 l).toArray)):StepOk Tryz.prog ops md W a0 n al S Q i o :=
 step_run hal hg fun a w hw hf _=>⟨_,ex_load 70 (.tmp t) ho b 0 ((eval_out hf t hB).trans hx) (ints .i64 l) _ (h.next hw).range Tryz.underlying70 rfl (l26 h.2),by rw [hS];exact rfl⟩
theorem step_by (hal:al i=false) (hg:GuardOn ops md n S i o) (h:By W b l) (t:Tmp) (ho:o.op=.load 22 (.tmp t)) (hB:notDst ops n t=true) (hx:a0.eval (.tmp t)=.pointer (some ⟨b,0,none⟩)) (hS:S i=Is (.agg (ints .u8 l).toArray)):StepOk Tryz.prog ops md W a0 n al S Q i o :=
 step_run hal hg fun a w hw hf _=>⟨_,ex_load 22 (.tmp t) ho b 0 ((eval_out hf t hB).trans hx) (ints .u8 l) _ (h.next hw).range Tryz.underlying22 rfl (l22 h.2),by rw [hS];exact rfl⟩
theorem step_alloc26 (hg:GuardOn ops md n S i o) (ho:o.op=.alloc 70) (hS:S i=IsZ W.heap.size):StepOk Tryz.prog ops md W a0 n al S Q i o :=
 step_alloc hg (fun ev w=>alloc26 ev o ho w) fun w hw=>by rw [hS];exact ⟨w.heap.size,rfl,Below.size hw,Arr.made w .i64 (zeros 16) 70,rfl⟩
theorem map1 (f:Operand→Value) (x:Operand) : #[x].map f = #[f x]:=by simp
theorem map2 (f:Operand→Value) (x y:Operand) : #[x,y].map f = #[f x,f y]:=by simp
def Knows (ops:Array Oper) (md:Region.Mode) (W:World) (a0:Act) (n:Nat) (S:Nat→Value→World→Prop) (i:Nat) (x:Operand) (v:Value):Prop:=∀(a:Act) (w:World),Cl W w→Fr ops n a0 a→Dp ops md n S i a w→a.eval x=v
theorem knows_out (t:Tmp) {v:Value} (hB:notDst ops n t=true) (hx:a0.eval (.tmp t)=v):Knows ops md W a0 n S i (.tmp t) v:=fun _ _ _ hf _=>(eval_out hf t hB).trans hx
theorem knows_in (j d:Nat) {v:Value} (hj:j<n) (hw:Region.waitsFor md ops i j=true) (hd:dstOf ops j=some d) (hS:S j=Is v):Knows ops md W a0 n S i (.tmp d) v:=fun a w _ _ hdp=>by
 have h:=hdp j d hj hw hd
 rw [hS] at h
 exact h
theorem knows_const (v:Value):Knows ops md W a0 n S i (.const v) v:=fun _ _ _ _ _=>rfl
theorem step_mv (hal:al i=false) (hg:GuardOn ops md n S i o) {x:Operand} {v:Value} (ho:o.op=.move x) (hS:S i=Is v) (hk:Knows ops md W a0 n S i x v):StepOk Tryz.prog ops md W a0 n al S Q i o :=
 step_run hal hg fun a w hw hf hd=>⟨v,by
  have h:=hk a w hw hf hd
  revert h
  generalize a.eval=ev
  intro h
  unfold execOp
  simp only [ho]
  simp [h,go_sem],by rw [hS];exact rfl⟩
theorem step_pick (hal:al i=false) (hg:GuardOn ops md n S i o) {c x y:Operand} {b:Bool} {v:Value} (ho:o.op=.pick c x y) (hS:S i=Is v) (hc:Knows ops md W a0 n S i c (.bool b)) (hk:Knows ops md W a0 n S i (if b then x else y) v):StepOk Tryz.prog ops md W a0 n al S Q i o :=
 step_run hal hg fun a w hw hf hd=>⟨v,by
  have h1:=hc a w hw hf hd
  have h2:=hk a w hw hf hd
  revert h1 h2
  generalize a.eval=ev
  intro h1 h2
  unfold execOp
  simp only [ho,h1]
  cases b <;> simp at h2 <;> simp [h2,go_sem],by rw [hS];exact rfl⟩
theorem step_eq22 (hal:al i=false) (hg:GuardOn ops md n S i o) {x y:Operand} {l m:List Int} (ho:o.op=.binOp .eql 22 x y 22) (hl:l.length=32) (hm:m.length=32) (hS:S i=Is (.bool (decide (l=m)))) (hx:Knows ops md W a0 n S i x (.agg (ints .u8 l).toArray)) (hy:Knows ops md W a0 n S i y (.agg (ints .u8 m).toArray)):StepOk Tryz.prog ops md W a0 n al S Q i o :=
 step_run hal hg fun a w hw hf hd=>⟨.bool (decide (l=m)),by
  have h1:=hx a w hw hf hd
  have h2:=hy a w hw hf hd
  revert h1 h2
  generalize a.eval=ev
  intro h1 h2
  have he:=eq22 hl hm w
  have heg:=egt22
  unfold execOp
  simp only [ho,h1,h2]
  go_simp,by rw [hS];exact rfl⟩
theorem one_arg {x:Operand} {v:Value} (hx:Knows ops md W a0 n S i x v):∀(a:Act) (w:World),Cl W w→Fr ops n a0 a→Dp ops md n S i a w→#[x].map a.eval = #[v]:=fun a w hw hf hd=>by
 rw [map1]
 rw [hx a w hw hf hd]
theorem two_args {x y:Operand} {u v:Value} (hx:Knows ops md W a0 n S i x u) (hy:Knows ops md W a0 n S i y v):∀(a:Act) (w:World),Cl W w→Fr ops n a0 a→Dp ops md n S i a w→#[x,y].map a.eval = #[u,v]:=fun a w hw hf hd=>by
 rw [map2]
 rw [hx a w hw hf hd,hy a w hw hf hd]
theorem step_to (hal:al i=false) (hg:GuardOn ops md n S i o) {f:FuncId} {xs:Array Operand} {ts:Array TypeId} {vs:Array Value} {v:Value} (ho:o.op=.call { callee:=.value (.func f),args:=xs,argTypes:=ts }) (hcf:∀vs w,(callFunc f vs).run Tryz.prog w=.ok (.enter f vs) w)
 (hc:CallsTo f vs v) (hS:S i=Is v) (hv:∀(a:Act) (w:World),Cl W w→Fr ops n a0 a→Dp ops md n S i a w→xs.map a.eval=vs):StepOk Tryz.prog ops md W a0 n al S Q i o :=
 step_call hal hg fun a w hw hf hd=>⟨f,vs,ex_fn rfl hcf ho vs (hv a w hw hf hd) w,(hc w).mono fun _ _ ⟨he,hb⟩=>⟨v,he,by rw [hS];exact rfl,hb⟩⟩
end
section
variable {ops:Array Oper} {md:Region.Mode} {W:World} {a0:Act} {n:Nat} {al:Nat→Bool} {S:Nat→Value→World→Prop} {Q:Exit→Act→World→Prop} {i:Nat} {o:Oper}
end
theorem cf9 (vs:Array Value) (w:World):(callFunc 47 vs).run Tryz.prog w=.ok (.enter 47 vs) w:=by go_simp
theorem cf11 (vs:Array Value) (w:World):(callFunc 53 vs).run Tryz.prog w=.ok (.enter 53 vs) w:=by go_simp
theorem cf16 (vs:Array Value) (w:World):(callFunc 48 vs).run Tryz.prog w=.ok (.enter 48 vs) w:=by go_simp
theorem cf18 (vs:Array Value) (w:World):(callFunc 72 vs).run Tryz.prog w=.ok (.enter 72 vs) w:=by go_simp
theorem cf20 (vs:Array Value) (w:World):(callFunc 73 vs).run Tryz.prog w=.ok (.enter 73 vs) w:=by go_simp
theorem cf22 (vs:Array Value) (w:World):(callFunc 51 vs).run Tryz.prog w=.ok (.enter 51 vs) w:=by go_simp
theorem cf27 (vs:Array Value) (w:World):(callFunc 52 vs).run Tryz.prog w=.ok (.enter 52 vs) w:=by go_simp
theorem iE {Ss:List (Value→World→Prop)} {i:Nat} {v u:Value} {w:World} (h:sAt Ss i v w) (hS:sAt Ss i=Is u):v=u:=by
 rw [hS] at h
 exact h
@[reducible] def IsL (l:List Int):Value→World→Prop:=Is (.agg (ints .i64 l).toArray)
theorem gC {v:Value} {Ss:List (Value→World→Prop)} (k:∀S ∈ Ss,Grows S):∀T ∈ Is v::Ss,Grows T:=grows_cons (Is.grows v) k
theorem pA (ds:List Tmp) (val:Tmp→Value) (a:Act):putVals ds val a=ds.foldl (fun a d=>a.put (some d) (val d)) a:=rfl
theorem pB (f:Act→Tmp→Act) (b:Act) (x:Tmp) (l:List Tmp):List.foldl f b (x::l)=List.foldl f (f b x) l:=rfl
theorem pC (f:Act→Tmp→Act) (b:Act):List.foldl f b []=b:=rfl
theorem pD (x:Oper) (l:List Oper) (n:Nat):List.drop (n+1) (x::l)=List.drop n l:=rfl
theorem pE (l:List Oper):List.drop 0 l=l:=rfl
theorem pG (l:List Value) (i:Nat) (v:Value):l.toArray.setIfInBounds i v=(l.set i v).toArray:=List.setIfInBounds_toArray ..
theorem pH (x:Value) (l:List Value) (n:Nat) (v:Value):(x::l).set (n+1) v=x::l.set n v:=rfl
theorem pI (x:Value) (l:List Value) (v:Value):(x::l).set 0 v=v::l:=rfl
theorem eVal {ops:Array Oper} {n:Nat} {Ss:List (Value→World→Prop)} {val:Tmp→Value} {w:World} (h:∀i d,i<n→dstOf ops i=some d→sAt Ss i (val d) w) (i d:Nat) {u:Value} (hd:dstOf ops i=some d) (hS:sAt Ss i=Is u) (hi:i<n:=by decide):val d=u:=iE (h i d hi hd) hS
theorem bT {w w' w'':World} (h:Below w.heap.size w w') (k:Below w'.heap.size w' w''):Below w.heap.size w w'':=h.trans (Below.mono k h.size)
section
variable {P:Program} {W:World} {a0:Act} {id:Nat} {Q:Exit→Act→World→Prop} {l:List Oper}
theorem rSpec (n M:Nat) (al:Nat→Bool) (Ss:List (Value→World→Prop)) (ds:List Tmp) (mono:∀S ∈ Ss,Grows S) (hst:Steps P l.toArray .any W a0 n al (sAt Ss) Q n 0 l)
 (hend:∀(val:Tmp→Value) w,Cl W w→(∀i d,i<n→dstOf l.toArray i=some d→sAt Ss i (val d) w) →
   (∀i j d d',i<n→j<n→al i=true→al j=true→i≠j→dstOf l.toArray i=some d→dstOf l.toArray j=some d'→home (val d)≠home (val d')) →
   (∀i d,i<n→al i=true→dstOf l.toArray i=some d→∃b,home (val d)=some b∧W.heap.size≤b∧b<w.heap.size)→wpList P l.toArray Q (l.drop n) (putVals ds val a0) w)
 (hds:dstsOf l.toArray n=ds:=by kernel_rfl) (hm:P.follows .mixedOrders=true:=by kernel_rfl) (hB:specB .any l.toArray n M=true:=by kernel_rfl) (hM:M≤a0.tmps.size:=by exact Nat.le_of_eq rfl):(Code.region id l.toArray true).wp P Q a0 W :=
 region_spec2 n M al Ss ds hds hm hB hM mono hst hend
theorem rSeq (n M:Nat) (al:Nat→Bool) (Ss:List (Value→World→Prop)) (ds:List Tmp) (mono:∀S ∈ Ss,Grows S) (hst:Steps P l.toArray .any W a0 n al (sAt Ss) Q n 0 l)
 (hend:∀(val:Tmp→Value) w,Cl W w→(∀i d,i<n→dstOf l.toArray i=some d→sAt Ss i (val d) w) →
   (∀i j d d',i<n→j<n→al i=true→al j=true→i≠j→dstOf l.toArray i=some d→dstOf l.toArray j=some d'→home (val d)≠home (val d')) →
   (∀i d,i<n→al i=true→dstOf l.toArray i=some d→∃b,home (val d)=some b∧W.heap.size≤b∧b<w.heap.size)→wpList P l.toArray Q (l.drop n) (putVals ds val a0) w)
 (hds:dstsOf l.toArray n=ds:=by kernel_rfl) (hB:(decide (n≤l.toArray.size)&&backB .any l.toArray&&dstB l.toArray n M)=true:=by kernel_rfl) (hM:M≤a0.tmps.size:=by exact Nat.le_of_eq rfl):(Code.region id l.toArray false).wp P Q a0 W :=
 region_seq2 n M al Ss ds hds hB hM mono hst hend
end
section
variable {ops:Array Oper} {md:Region.Mode} {W:World} {a0:Act} {n:Nat} {S:Nat→Value→World→Prop} {i:Nat} {o:Oper}
theorem kI (j d:Nat) {v:Value} (hd:dstOf ops j=some d) (hS:S j=Is v) (hj:j<n:=by decide) (hw:Region.waitsFor md ops i j=true:=by kernel_rfl):Knows ops md W a0 n S i (.tmp d) v:=knows_in j d hj hw hd hS
theorem kO (t:Tmp) {v:Value} (hx:a0.eval (.tmp t)=v) (hB:notDst ops n t=true:=by kernel_rfl):Knows ops md W a0 n S i (.tmp t) v:=knows_out t hB hx
theorem gN (j:Nat) (b:Bool) (d:Nat) (hg:o.guard=some (j,b)) (hd:dstOf ops j=some d) (hS:S j=Is (.bool b)) (hj:j<n:=by decide) (hw:Region.waitsFor md ops i j=true:=by kernel_rfl):GuardOn ops md n S i o :=
 .inr ⟨j,b,d,hg,hj,hw,hd,fun _ _ h=>by rw [hS] at h;exact h⟩
theorem gF (j:Nat) (b:Bool) (d:Nat) (hg:o.guard=some (j,b)) (hd:dstOf ops j=some d) (hS:S j=Is (.bool (!b))) (hj:j<n:=by decide) (hw:Region.waitsFor md ops i j=true:=by kernel_rfl):GuardOff ops md n S i o :=
 ⟨j,b,d,hg,hj,hw,hd,fun _ _ h=>.inl (by rw [hS] at h;exact h)⟩
theorem gU (j:Nat) (b:Bool) (d:Nat) (hg:o.guard=some (j,b)) (hd:dstOf ops j=some d) (hS:S j=Is undef) (hj:j<n:=by decide) (hw:Region.waitsFor md ops i j=true:=by kernel_rfl):GuardOff ops md n S i o :=
 ⟨j,b,d,hg,hj,hw,hd,fun _ _ h=>.inr (by rw [hS] at h;exact h)⟩
end
section
variable {ops:Array Oper} {md:Region.Mode} {W:World} {a0:Act} {n:Nat} {al:Nat→Bool} {S:Nat→Value→World→Prop} {Q:Exit→Act→World→Prop} {i:Nat} {o:Oper}
theorem built22z:Tryz.prog.built 22 []=some (ints .u8 (rbytes 0)).toArray:=by
 have e:rbytes 0=zeros 32:=by decide +kernel
 have h:Tryz.prog.built 22 []=some (ints .u8 (zeros 32)).toArray:=by kernel_rfl
 exact h.trans (by rw [e])
theorem step_zero22 (hal:al i=false) (hg:GuardOn ops md n S i o) (ho:o.op=.build 22 #[]) (hS:S i=Is (.agg (ints .u8 (rbytes 0)).toArray)):StepOk Tryz.prog ops md W a0 n al S Q i o :=
 step_run hal hg fun a w hw hf hd=>⟨.agg (ints .u8 (rbytes 0)).toArray,by
  generalize a.eval=ev
  have h:=run_build (P:=Tryz.prog) w 22 #[] _ built22z
  unfold execOp
  simp only [ho,Sem.run_bind]
  simp only [List.map_toArray,List.map_nil,h,Result.andThen_ok,Sem.run_pure],by rw [hS];exact rfl⟩
end
theorem By.past {w:World} {b:Nat} {l:List Int} (h:By w b l) {b':Nat} (vs:List Value) (hb:b'≠b):By (w.setCells b' 0 vs) b l:=⟨h.1.past vs (.inl hb),h.2⟩
theorem Nm.zeros:Nm (zeros 16) 0:=.mk zeros_el (by rw [ev_zeros];rfl)
theorem rbytes_byt (m:Nat):Byt (rbytes m):=fun x hx=>by
 unfold rbytes byd at hx
 obtain ⟨i,_,rfl⟩:=List.mem_map.1 hx
 exact ⟨Int.emod_nonneg _ (by omega),Int.emod_lt_of_pos _ (by omega)⟩
section
variable {ops:Array Oper} {md:Region.Mode} {W:World} {a0:Act} {n:Nat} {al:Nat→Bool} {S:Nat→Value→World→Prop} {Q:Exit→Act→World→Prop} {i:Nat} {o:Oper}
theorem step_fst (hal:al i=false) (hg:GuardOn ops md n S i o) {x:Operand} {u v:Value} (ho:o.op=.extract x 0) (hS:S i=Is u) (hx:Knows ops md W a0 n S i x (.tuple #[u,v])):StepOk Tryz.prog ops md W a0 n al S Q i o :=
 step_run hal hg fun a w hw hf hd=>⟨u,by
  have h:=hx a w hw hf hd
  revert h
  generalize a.eval=ev
  intro h
  unfold execOp
  simp only [ho,h]
  go_simp,by rw [hS];exact rfl⟩
theorem step_snd (hal:al i=false) (hg:GuardOn ops md n S i o) {x:Operand} {u v:Value} (ho:o.op=.extract x 1) (hS:S i=Is v) (hx:Knows ops md W a0 n S i x (.tuple #[u,v])):StepOk Tryz.prog ops md W a0 n al S Q i o :=
 step_run hal hg fun a w hw hf hd=>⟨v,by
  have h:=hx a w hw hf hd
  revert h
  generalize a.eval=ev
  intro h
  unfold execOp
  simp only [ho,h]
  go_simp,by rw [hS];exact rfl⟩
end
theorem cf29 (vs:Array Value) (w:World):(callFunc 71 vs).run Tryz.prog w=.ok (.enter 71 vs) w:=by go_simp
end Go.Proofs.YtkblmdakejmmhaaGreatDoor
