import Derived.Test.YtkblmdakejmmhaaGreatDoorDQuarterM
import Derived.Test.YtkblmdakejmmhaaGreatDoorG25
namespace Go.Proofs.YtkblmdakejmmhaaGreatDoor
open Go Go.RowKit
set_option maxRecDepth 50000
section
variable {P:Program} {ops:Array Oper} {md:Region.Mode} {W:World} {a0:Act} {n:Nat} {al:Nat→Bool} {S:Nat→Value→World→Prop} {Q:Exit→Act→World→Prop} {i:Nat} {o:Oper}
theorem step_ex (v:Value) (hal:al i=false) (hg:GuardOn ops md n S i o) (hS:S i=Is v) (h:∀(a:Act) (w:World),Cl W w→Fr ops n a0 a→Dp ops md n S i a w→(execOp a.eval o).run P w=.ok (.value v) w):StepOk P ops md W a0 n al S Q i o :=
 step_run hal hg fun a w hw hf hd=>⟨v,h a w hw hf hd,by rw [hS];exact rfl⟩
end
theorem Owns.arr {w:World} {base:Nat} {e:TypeId} {k:IntKind} {g n cap:Nat} {xs:List Int} (h:Owns w base e k (.slice (some ⟨g,0,none⟩) n cap) xs):Arr w g 0 k xs:=fun i x hi=>by
 obtain ⟨y,hc,hf,hy⟩:=h.spot (List.getElem?_eq_some_iff.1 hi).1
 have e2:=hy.out.symm.trans hi
 injection e2 with e2
 rw [Nat.zero_add,hc,e2]
 exact ⟨rfl,hf⟩
theorem Owns.at0 {w:World} {base:Nat} {e:TypeId} {k:IntKind} {A:Option Addr} {n cap:Nat} {xs:List Int} (h:Owns w base e k (.slice A n cap) xs) (hp:0<xs.length):∃g,A=some ⟨g,0,none⟩∧base≤g∧g<w.heap.size:=by
 rcases h.2 with ⟨hv,hn⟩|⟨g,cap',cur,hv,_⟩
 ·omega
 ·injection hv with h1 h2 h3
  subst h1
  exact ⟨g,rfl,h.lt g rfl⟩
theorem Owns.far {w:World} {base:Nat} {e:TypeId} {k:IntKind} {v:Value} {xs:List Int} (h:Owns w base e k v xs) {b:Nat} (hb:b<base):v.ownBlock≠some b:=fun e=>by
 have:=(h.lt b e).1
 omega
theorem join_at {b:List Int} {k n:Nat} (hl:b.length=4*n) (hk:k<n):∃x0 x1 x2 x3,b[4*k]? = some x0∧b[4*k+1]? = some x1∧b[4*k+2]? = some x2∧b[4*k+3]? = some x3∧(joinB false 4 b)[k]? = some (hiv [x3,x2,x1,x0]):=by
 have g:∀j,j<4→b[4*k+j]? = some (b.getD (4*k+j) 0):=fun j hj=>by
  have:4*k+j<b.length:=by omega
  simp [this]
 refine ⟨_,_,_,_,g 0 (by omega),g 1 (by omega),g 2 (by omega),g 3 (by omega),?_⟩
 rw [joinB_at false 4 b (by omega)]
 have hc:chunk 4 b k=[b.getD (4*k) 0,b.getD (4*k+1) 0,b.getD (4*k+2) 0,b.getD (4*k+3) 0]:=by
  apply List.ext_getElem?
  intro i
  by_cases hi:i<4
  ·rw [chunk_at 4 b k hi,Nat.mul_comm k 4,g i hi]
   have:i=0∨i=1∨i=2∨i=3:=by omega
   rcases this with rfl|rfl|rfl|rfl <;> rfl
  ·rw [List.getElem?_eq_none (by rw [chunk_len (by omega)];omega),List.getElem?_eq_none (by simp;omega)]
 rw [hc]
 rfl
theorem take_more {l:List Int} {k:Nat} {x:Int} (h:l[k]? = some x):l.take (k+1)=l.take k++[x]:=take_succ_at h
theorem info24:(Tryz.prog.info? 53).map (fun i=>(i.zero,i.size,i.bytes))=some (some (.int .u32 0),1,4):=by kernel_rfl
theorem inf24Z:(Tryz.prog.info? 53).map (fun i=>(i.zero,i.size))=some (some (.int .u32 0),1):=by kernel_rfl
theorem inf5:(Tryz.prog.info? 5).map (fun i=>(i.zero,i.size))=some (some (.int .u8 0),1):=by kernel_rfl
theorem cf20Z (vs:Array Value) (w:World):(callFunc 98 vs).run Tryz.prog w=.ok (.enter 98 vs) w:=by go_simp
section
variable {ops:Array Oper} {md:Region.Mode} {W:World} {a0:Act} {n:Nat} {al:Nat→Bool} {S:Nat→Value→World→Prop} {Q:Exit→Act→World→Prop} {i:Nat} {o:Oper}
theorem parts4 {x y z q:Operand} {u t v r:Value} (hx:Knows ops md W a0 n S i x u) (hy:Knows ops md W a0 n S i y t) (hz:Knows ops md W a0 n S i z v) (hq:Knows ops md W a0 n S i q r):∀(a:Act) (w:World),Cl W w→Fr ops n a0 a→Dp ops md n S i a w→(#[(0,x),(1,y),(2,z),(3,q)].map fun ((i:Nat),(x:Operand))=>(i,a.eval x)).toList=[(0,u),(1,t),(2,v),(3,r)]:=fun a w hw hf hd=>by
 have h:=hx a w hw hf hd
 have h2:=hy a w hw hf hd
 have h3:=hz a w hw hf hd
 have h4:=hq a w hw hf hd
 simp [h,h2,h3,h4]
theorem word_step (hal:al i=false) (hg:GuardOn ops md n S i o) {x:Operand} {ts:Array TypeId} {v:Int} {bs:List Int} {base:Nat} (ho:o.op=.call { callee:=.value (.func 98),args:=#[x],argTypes:=ts }) (hS:S i=Is (.int .u32 v)) (hl:Hid (bs.length=4)) (hv:Hid (hiv bs.reverse=v)) (hby:HByt bs)
 (hx:KnowsW ops md W a0 n S i x (IsRowV base 4 (ints .u8 bs))):StepOk Tryz.prog ops md W a0 n al S Q i o :=
 step_call hal hg fun a w hw hf hd=>by
  obtain ⟨b,h1,h0,h2⟩:=hx a w hw hf hd
  refine ⟨98,#[.slice (some ⟨b,0,none⟩) 4 4],ex_fnP rfl cf20Z ho _ (by rw [map1,h1]) w,(word_any _ 4 bs w hl hby h2.nums).mono fun e w' ⟨he,hb⟩=>⟨.int .u32 v,by rw [he,hv.out],by rw [hS];exact rfl,hb⟩⟩
end
theorem Arr.cl {W w:World} {b o:Nat} {k:IntKind} {xs:List Int} (h:Arr W b o k xs) (hb:b<W.heap.size) (hw:Cl W w):Arr w b o k xs:=h.below hw hb
theorem one_row {w:World} {g:Nat} {x:Int} {k:IntKind} (h:Rw w g 0 [.int k x]):Nums w k (some ⟨g,0,none⟩) [x]:=(show Rw w g 0 (ints k [x]) from h).nums
theorem rq_0 (g cp:Nat) (l:List Int) (w:World) (hl:Hid (l.length=16)) (hw:Hid (Wds l)) (hA:Arr w g 0 .u32 (qk l 0)) :
 Calls Tryz.prog 99 #[.slice (some ⟨g,0,none⟩) 16 cp,.int .i64 0,.int .i64 4,.int .i64 8,.int .i64 12] w fun e w'=>e=.returned (.tuple #[])∧Arr w' g 0 .u32 (qk l 1)∧Only g w w' :=
 rquarter_any g 16 cp 0 4 8 12 (qk l 0) w (hid (by rw [qk_length];exact hl.out)) (hid (qk_wds hw.out 0)) (by omega) (by omega) (by omega) (by omega) (by omega) (by omega) (by omega) (by omega) (by omega) (by omega) hA
theorem rq_1 (g cp:Nat) (l:List Int) (w:World) (hl:Hid (l.length=16)) (hw:Hid (Wds l)) (hA:Arr w g 0 .u32 (qk l 1)) :
 Calls Tryz.prog 99 #[.slice (some ⟨g,0,none⟩) 16 cp,.int .i64 1,.int .i64 5,.int .i64 9,.int .i64 13] w fun e w'=>e=.returned (.tuple #[])∧Arr w' g 0 .u32 (qk l 2)∧Only g w w' :=
 rquarter_any g 16 cp 1 5 9 13 (qk l 1) w (hid (by rw [qk_length];exact hl.out)) (hid (qk_wds hw.out 1)) (by omega) (by omega) (by omega) (by omega) (by omega) (by omega) (by omega) (by omega) (by omega) (by omega) hA
theorem rq_2 (g cp:Nat) (l:List Int) (w:World) (hl:Hid (l.length=16)) (hw:Hid (Wds l)) (hA:Arr w g 0 .u32 (qk l 2)) :
 Calls Tryz.prog 99 #[.slice (some ⟨g,0,none⟩) 16 cp,.int .i64 2,.int .i64 6,.int .i64 10,.int .i64 14] w fun e w'=>e=.returned (.tuple #[])∧Arr w' g 0 .u32 (qk l 3)∧Only g w w' :=
 rquarter_any g 16 cp 2 6 10 14 (qk l 2) w (hid (by rw [qk_length];exact hl.out)) (hid (qk_wds hw.out 2)) (by omega) (by omega) (by omega) (by omega) (by omega) (by omega) (by omega) (by omega) (by omega) (by omega) hA
theorem rq_3 (g cp:Nat) (l:List Int) (w:World) (hl:Hid (l.length=16)) (hw:Hid (Wds l)) (hA:Arr w g 0 .u32 (qk l 3)) :
 Calls Tryz.prog 99 #[.slice (some ⟨g,0,none⟩) 16 cp,.int .i64 3,.int .i64 7,.int .i64 11,.int .i64 15] w fun e w'=>e=.returned (.tuple #[])∧Arr w' g 0 .u32 (qk l 4)∧Only g w w' :=
 rquarter_any g 16 cp 3 7 11 15 (qk l 3) w (hid (by rw [qk_length];exact hl.out)) (hid (qk_wds hw.out 3)) (by omega) (by omega) (by omega) (by omega) (by omega) (by omega) (by omega) (by omega) (by omega) (by omega) hA
theorem rq_4 (g cp:Nat) (l:List Int) (w:World) (hl:Hid (l.length=16)) (hw:Hid (Wds l)) (hA:Arr w g 0 .u32 (qk l 4)) :
 Calls Tryz.prog 99 #[.slice (some ⟨g,0,none⟩) 16 cp,.int .i64 0,.int .i64 5,.int .i64 10,.int .i64 15] w fun e w'=>e=.returned (.tuple #[])∧Arr w' g 0 .u32 (qk l 5)∧Only g w w' :=
 rquarter_any g 16 cp 0 5 10 15 (qk l 4) w (hid (by rw [qk_length];exact hl.out)) (hid (qk_wds hw.out 4)) (by omega) (by omega) (by omega) (by omega) (by omega) (by omega) (by omega) (by omega) (by omega) (by omega) hA
theorem rq_5 (g cp:Nat) (l:List Int) (w:World) (hl:Hid (l.length=16)) (hw:Hid (Wds l)) (hA:Arr w g 0 .u32 (qk l 5)) :
 Calls Tryz.prog 99 #[.slice (some ⟨g,0,none⟩) 16 cp,.int .i64 1,.int .i64 6,.int .i64 11,.int .i64 12] w fun e w'=>e=.returned (.tuple #[])∧Arr w' g 0 .u32 (qk l 6)∧Only g w w' :=
 rquarter_any g 16 cp 1 6 11 12 (qk l 5) w (hid (by rw [qk_length];exact hl.out)) (hid (qk_wds hw.out 5)) (by omega) (by omega) (by omega) (by omega) (by omega) (by omega) (by omega) (by omega) (by omega) (by omega) hA
theorem rq_6 (g cp:Nat) (l:List Int) (w:World) (hl:Hid (l.length=16)) (hw:Hid (Wds l)) (hA:Arr w g 0 .u32 (qk l 6)) :
 Calls Tryz.prog 99 #[.slice (some ⟨g,0,none⟩) 16 cp,.int .i64 2,.int .i64 7,.int .i64 8,.int .i64 13] w fun e w'=>e=.returned (.tuple #[])∧Arr w' g 0 .u32 (qk l 7)∧Only g w w' :=
 rquarter_any g 16 cp 2 7 8 13 (qk l 6) w (hid (by rw [qk_length];exact hl.out)) (hid (qk_wds hw.out 6)) (by omega) (by omega) (by omega) (by omega) (by omega) (by omega) (by omega) (by omega) (by omega) (by omega) hA
theorem rq_7 (g cp:Nat) (l:List Int) (w:World) (hl:Hid (l.length=16)) (hw:Hid (Wds l)) (hA:Arr w g 0 .u32 (qk l 7)) :
 Calls Tryz.prog 99 #[.slice (some ⟨g,0,none⟩) 16 cp,.int .i64 3,.int .i64 4,.int .i64 9,.int .i64 14] w fun e w'=>e=.returned (.tuple #[])∧Arr w' g 0 .u32 (qk l 8)∧Only g w w' :=
 rquarter_any g 16 cp 3 4 9 14 (qk l 7) w (hid (by rw [qk_length];exact hl.out)) (hid (qk_wds hw.out 7)) (by omega) (by omega) (by omega) (by omega) (by omega) (by omega) (by omega) (by omega) (by omega) (by omega) hA
theorem Owns.lower {w:World} {base base':Nat} {e:TypeId} {k:IntKind} {v:Value} {xs:List Int} (h:Owns w base e k v xs) (hb:base'≤base):Owns w base' e k v xs:=by
 refine ⟨h.1,?_⟩
 rcases h.2 with h2|⟨g,cap,cur,hv,hg,r⟩
 ·exact .inl h2
 ·exact .inr ⟨g,cap,cur,hv,Nat.le_trans hb hg,r⟩
theorem split_more (l:List Int) {k:Nat} {z:Int} (hz:l[k]? = some z):(splitB false 4 l).take (4*(k+1))=(splitB false 4 l).take (4*k)++[z%256,z / 256%256,z / 65536%256,z / 16777216%256]:=by
 have hk:=(List.getElem?_eq_some_iff.1 hz).1
 have g:∀j,j<4→(splitB false 4 l)[4*k+j]? = some (dig z j):=fun j hj=>by
  rw [splitB_at false 4 l (by omega)]
  have e1:(4*k+j) / 4=k:=by omega
  have e2:(4*k+j)%4=j:=by omega
  rw [e1,e2]
  simp [List.getD,hz,plc]
 have e:4*(k+1)=4*k+1+1+1+1:=by omega
 rw [e,take_more (g 3 (by omega)),take_more (g 2 (by omega)),take_more (g 1 (by omega)),take_more (g 0 (by omega))]
 simp [dig]
theorem rblock_world (key nonce:List Int) (w:World):∃W,W=((w.alloc (.cells (ints .u8 key).toArray 22)).alloc (.cells (ints .u8 nonce).toArray 40)).alloc (.cells #[.int .u32 1634760805,.int .u32 857760878,.int .u32 2036477234,.int .u32 1797285236] 53)∧Arr W w.heap.size 0 .u8 key∧Arr W (w.heap.size+1) 0 .u8 nonce∧Owns W (w.heap.size+1+1) 53 .u32 (.slice (some ⟨w.heap.size+1+1,0,none⟩) 4 4) C4∧Below w.heap.size w W∧W.heap.size=w.heap.size+3:=by
 have a1:=Arr.made w .u8 key 22
 have a2:=Arr.made (w.alloc (.cells (ints .u8 key).toArray 22)) .u8 nonce 40
 have a3:=Owns.new ((w.alloc (.cells (ints .u8 key).toArray 22)).alloc (.cells (ints .u8 nonce).toArray 40)) (w.heap.size+1+1) 53 .u32 C4 (by simp) (by decide)
 simp only [World.size_alloc] at a2 a3
 exact ⟨_,rfl,(a1.alloc _).alloc _,a2.alloc _,a3,(((Below.refl _ w).alloc (Nat.le_refl _) _).alloc (by simp) _).alloc (by simp;omega) _,by simp⟩
end Go.Proofs.YtkblmdakejmmhaaGreatDoor
