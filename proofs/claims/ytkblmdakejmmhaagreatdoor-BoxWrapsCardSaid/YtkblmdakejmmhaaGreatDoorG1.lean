import Derived.WalkSpells
import Derived.WalkLawsBesides
import Derived.Lib.Hide
import Derived.Deep.MidRow
import Derived.Deep.WholeRow
namespace Go.Proofs.YtkblmdakejmmhaaGreatDoor
open Go Go.RowKit
theorem below_drewN {B:Nat} {a w:World} (h:Below B a w) (n:Nat):Below B a (w.drewN n):=⟨h.os,h.tape,h.output,h.size,h.block⟩
theorem nextB {a w w':World} (h:Below a.heap.size a w) (k:Below w.heap.size w w'):Below a.heap.size a w':=h.trans (k.mono h.size)
theorem below_new (w:World) (o:Obj):Below w.heap.size w (w.alloc o):=(Below.refl _ _).alloc (Nat.le_refl _) o
theorem ret_int {k:IntKind} {a b:Int} (h:a=b):Ending.returned (.int k a)=.returned (.int k b):=by rw [h]
theorem ret_bool {a b:Bool} (h:a=b):Ending.returned (.bool a)=.returned (.bool b):=by rw [h]
theorem hid {p:Prop} (h:p):Hid p:=h
def Nums (w:World) (k:IntKind) (A:Option Addr) (xs:List Int):Prop :=
 0<xs.length→∃b off,A=some ⟨b,off,none⟩∧b<w.heap.size∧∀i,i<xs.length→w.cell? ⟨b,off+i,none⟩=some (.int k (xs.getD i 0))
section
variable {w w':World} {k:IntKind} {A:Option Addr} {xs:List Int}
theorem Nums.nil:Nums w k A []:=fun h=>absurd h (by simp)
theorem Nums.below (h:Nums w k A xs) (hb:Below w.heap.size w w'):Nums w' k A xs:=fun hp=>by
 obtain ⟨b,off,e,hlt,hc⟩:=h hp
 exact ⟨b,off,e,Nat.lt_of_lt_of_le hlt hb.size,fun i hi=>(hb.cell (p:=⟨b,off+i,none⟩) hlt).trans (hc i hi)⟩
theorem Nums.get (h:Nums w k A xs) {i:Nat} (hi:i<xs.length) :
 ∃b off x,A=some ⟨b,off,none⟩∧b<w.heap.size∧w.cell? ⟨b,off+i,none⟩=some (.int k x)∧Hid (xs[i]? = some x):=by
 obtain ⟨b,off,e,hlt,hc⟩:=h (by omega)
 refine ⟨b,off,xs.getD i 0,e,hlt,hc i hi,?_⟩
 show xs[i]? = some _
 simp [hi]
theorem Nums.cut {b off:Nat} (h:Nums w k (some ⟨b,off,none⟩) xs) {lo m:Nat} (hl:lo+m≤xs.length):Nums w k (some ⟨b,off+lo,none⟩) ((xs.drop lo).take m):=fun hp=>by
 have hlen:((xs.drop lo).take m).length=m:=by simp;omega
 obtain ⟨b',off',e,hlt,hc⟩:=h (by omega)
 injection e with e
 injection e with e1 e2
 subst e1;subst e2
 refine ⟨b,off+lo,rfl,hlt,fun i hi=>?_⟩
 rw [hlen] at hi
 rw [Nat.add_assoc,hc (lo+i) (by omega)]
 simp [List.getD,hi]
theorem Nums.opened {x:Addr} {l c:Nat} {zs:List Int} (hl:l≤c) (hm:c≤maxLen) (hz:zs.length=c) (hcell:∀i,i<zs.length→w.cell? (x.add i)=some (.int k (zs.getD i 0))) (hw:∀n ∈ zs,(Lit.int k n).wf=true) :
 ∃xs:List Int,l=xs.length∧xs.length≤c∧c≤maxLen∧(∀y ∈ xs,(Lit.int k y).wf=true)∧Nums w k (some x) xs:=by
 have hlen:(zs.take l).length=l:=by simp;omega
 refine ⟨zs.take l,hlen.symm,by omega,hm,fun y hy=>hw y (List.mem_of_mem_take hy),fun hp=>?_⟩
 obtain ⟨b,off,spot⟩:=x
 have hc:=hcell 0 (by omega)
 have hspot:spot=none:=by simpa [Addr.add] using World.cell?_spot hc
 subst hspot
 have hb:b<w.heap.size:=by
  rcases Nat.lt_or_ge b w.heap.size with h|h
  ·exact h
  ·exfalso
   have h2:w.cell? ((⟨b,off,none⟩:Addr).add 0)=none:=by
    have e:((⟨b,off,none⟩:Addr).add 0)=⟨b,off,none⟩:=by simp [Addr.add]
    rw [e]
    unfold World.cell?
    rw [Array.getElem?_eq_none h]
   rw [h2] at hc;cases hc
 refine ⟨b,off,rfl,hb,fun i hi=>?_⟩
 rw [hlen] at hi
 have h3:=hcell i (by omega)
 have e:(zs.take l).getD i 0=zs.getD i 0:=by simp [List.getD,hi]
 rw [e,←h3]
 by_cases h0:i=0
 ·subst h0;simp [Addr.add]
 ·simp [Addr.add,h0]
end
def NumsS (S:Nat→Prop) (w:World) (k:IntKind) (A:Option Addr) (xs:List Int):Prop :=
 0<xs.length→∃b off,A=some ⟨b,off,none⟩∧S b∧∀i,i<xs.length→w.cell? ⟨b,off+i,none⟩=some (.int k (xs.getD i 0))
def NumsD (D:Nat) (w:World) (k:IntKind) (A:Option Addr) (xs:List Int):Prop:=NumsS (fun b=>b<D) w k A xs
theorem cell_same {w w':World} {b o:Nat} (h:w'.heap[b]? = w.heap[b]?):w'.cell? ⟨b,o,none⟩=w.cell? ⟨b,o,none⟩:=World.cell?_of_block (a:=⟨b,o,none⟩) h
section
variable {S S':Nat→Prop} {D D':Nat} {w w':World} {k:IntKind} {A:Option Addr} {xs:List Int}
theorem NumsS.keep (h:NumsS S w k A xs) (hs:∀b,S b→w'.heap[b]? = w.heap[b]?):NumsS S w' k A xs:=fun hp=>by
 obtain ⟨b,off,e,hb,hc⟩:=h hp
 exact ⟨b,off,e,hb,fun i hi=>(cell_same (hs b hb)).trans (hc i hi)⟩
theorem NumsS.sub (h:NumsS S w k A xs) (hs:∀b,S b→S' b):NumsS S' w k A xs:=fun hp=>by
 obtain ⟨b,off,e,hb,hc⟩:=h hp
 exact ⟨b,off,e,hs b hb,hc⟩
theorem NumsD.nums (h:NumsD D w k A xs) (hD:D≤w.heap.size):Nums w k A xs:=fun hp=>by
 obtain ⟨b,off,e,hlt,hc⟩:=h hp
 exact ⟨b,off,e,Nat.lt_of_lt_of_le hlt hD,hc⟩
theorem Nums.under (h:Nums w k A xs):NumsD w.heap.size w k A xs:=h
theorem NumsD.stay (h:NumsD D w k A xs) (hb:Below D w w'):NumsD D w' k A xs:=NumsS.keep h fun b hlt=>hb.block b hlt
theorem NumsD.more (h:NumsD D w k A xs) (hD:D≤D'):NumsD D' w k A xs:=NumsS.sub h fun _ hb=>Nat.lt_of_lt_of_le hb hD
end
def NumsF (lo:Nat) (w:World) (k:IntKind) (A:Option Addr) (xs:List Int):Prop :=
 0<xs.length→∃b off,A=some ⟨b,off,none⟩∧lo≤b∧b<w.heap.size∧∀i,i<xs.length→w.cell? ⟨b,off+i,none⟩=some (.int k (xs.getD i 0))
section
variable {lo lo':Nat} {w w':World} {k:IntKind} {A:Option Addr} {xs:List Int}
theorem NumsF.nums (h:NumsF lo w k A xs):Nums w k A xs:=fun hp=>by
 obtain ⟨b,off,e,_,hlt,hc⟩:=h hp
 exact ⟨b,off,e,hlt,hc⟩
theorem NumsF.less (h:NumsF lo w k A xs) (hl:lo'≤lo):NumsF lo' w k A xs:=fun hp=>by
 obtain ⟨b,off,e,h1,hlt,hc⟩:=h hp
 exact ⟨b,off,e,by omega,hlt,hc⟩
theorem NumsF.stay (h:NumsF lo w k A xs) (hb:Below w.heap.size w w'):NumsF lo w' k A xs:=fun hp=>by
 obtain ⟨b,off,e,h1,hlt,hc⟩:=h hp
 exact ⟨b,off,e,h1,Nat.lt_of_lt_of_le hlt hb.size,fun i hi=>(hb.cell (p:=⟨b,off+i,none⟩) hlt).trans (hc i hi)⟩
end
def Owns (w:World) (base:Nat) (e:TypeId) (k:IntKind) (v:Value) (xs:List Int):Prop:=w.ownsRow base e 1 v xs.length (xs.map (Value.int k))
section
variable {w w':World} {base:Nat} {e:TypeId} {k:IntKind} {v:Value} {xs:List Int}
theorem Owns.nums {A:Option Addr} {n c:Nat} (h:Owns w base e k (.slice A n c) xs):Nums w k A xs:=fun hp=>by
 have h0:w.ownsRow base e 1 (.slice A n c) xs.length (xs.map (Value.int k)):=h
 have hlt:=h0.lt
 rcases h.2 with ⟨hv,hn⟩|⟨g,cap,cur,hv,hg,hh,r⟩
 ·omega
 ·injection hv with h1 h2 h3
  subst h1;subst h2;subst h3
  refine ⟨g,0,rfl,(hlt g rfl).2,fun i hi=>?_⟩
  rw [Nat.zero_add,World.ownsRow.cellAt h0 i (by omega)]
  simp [hi]
theorem Owns.fresh {A:Option Addr} {n c:Nat} (h:Owns w base e k (.slice A n c) xs):NumsF base w k A xs:=fun hp=>by
 obtain ⟨b,off,hA,hlt,hc⟩:=h.nums hp
 subst hA
 exact ⟨b,off,rfl,(World.ownsRow.lt (w:=w) h b rfl).1,hlt,hc⟩
theorem Owns.len {A:Option Addr} {n c:Nat} (h:Owns w base e k (.slice A n c) xs):n=xs.length:=by
 rcases h.2 with ⟨hv,hn⟩|⟨g,cap,cur,hv,_⟩
 ·injection hv with h1 h2 h3;omega
 ·injection hv
theorem Owns.lt (h:Owns w base e k v xs):∀g,v.ownBlock=some g→base≤g∧g<w.heap.size:=World.ownsRow.lt h
theorem Owns.alloc (h:Owns w base e k v xs) (o:Obj):Owns (w.alloc o) base e k v xs:=World.ownsRow.alloc h o
theorem Owns.drew (h:Owns w base e k v xs):Owns w.drew base e k v xs:=World.ownsRow.drew h
theorem Owns.drewN (h:Owns w base e k v xs) (n:Nat):Owns (w.drewN n) base e k v xs:=h
theorem Owns.spot {g n cap:Nat} (h:Owns w base e k (.slice (some ⟨g,0,none⟩) n cap) xs) {j:Nat} (hj:j<xs.length) :
 ∃x,w.cell? ⟨g,j,none⟩=some (.int k x)∧w.frozen? ⟨g,j,none⟩=false∧Hid (xs[j]? = some x):=by
 have hn:n=xs.length:=by
  rcases h.2 with ⟨hv,hn⟩|⟨g',cap',cur,hv,_⟩
  ·injection hv with h1;cases h1
  ·injection hv
 subst hn
 have h0:w.ownsRow base e 1 (.slice (some ⟨g,0,none⟩) xs.length cap) xs.length (xs.map (Value.int k)):=h
 refine ⟨xs.getD j 0,?_,World.ownsRow.frozenAt h0 j,?_⟩
 ·rw [World.ownsRow.cellAt h0 j (by omega)];simp [hj]
 ·show xs[j]? = some _
  simp [hj]
theorem Owns.store {g n cap:Nat} (h:Owns w base e k (.slice (some ⟨g,0,none⟩) n cap) xs) (j:Nat) (x:Int) :
 Owns (w.setCell ⟨g,j,none⟩ (.int k x)) base e k (.slice (some ⟨g,0,none⟩) n cap) (xs.set j x):=by
 have hn:n=xs.length:=by
  rcases h.2 with ⟨hv,hn⟩|⟨g',cap',cur,hv,_⟩
  ·injection hv with h1;cases h1
  ·injection hv
 subst hn
 have h0:w.ownsRow base e 1 (.slice (some ⟨g,0,none⟩) xs.length cap) xs.length (xs.map (Value.int k)):=h
 have:=(World.ownsRow.stored h0 j (.int k x)).1
 unfold Owns
 rw [List.map_set,List.length_set]
 exact this
end
theorem Owns.none_ (w:World) (base:Nat) (e:TypeId) (k:IntKind):Owns w base e k (.slice none 0 0) []:=World.ownsRow_nil w base e 1
theorem app_one {P:Program} (w:World) {ops:Array Oper} {rest:List Oper} {o:Oper} {a:Act} {Q:Exit→Act→World→Prop} (hgd:o.guard=none) (s x:Operand) (t:TypeId)
 (ho:o.op=.call { callee:=.builtin .append,args:=#[s,x],argTypes:=#[t,t] })
 (base:Nat) (e:TypeId) (k:IntKind) (bytes:Nat) (ht:P.underlying t=some (.slice e)) (hinf:(P.info? e).map (fun i=>(i.zero,i.size,i.bytes))=some (some (.int k 0),1,bytes))
 (A:Option Addr) (n c:Nat) (xs:List Int) (hs:a.eval s=.slice A n c) (hown:Owns w base e k (.slice A n c) xs) (y:Int) (m:Nat)
 (hx:a.eval x=.slice (some ⟨w.heap.size,0,none⟩) 1 m) (h63:(xs.length+1)*bytes≤140737488355328) (hbt:0<bytes) (hbase:base≤w.heap.size)
 (h:∀A' n' c' w',Owns w' base e k (.slice A' n' c') (xs++[y])→Below base w w'→wpList P ops Q rest (a.put o.dst (.slice A' n' c')) w') :
 wpList P ops Q (o::rest) a (w.alloc (.cells #[.int k y] e)):=by
 obtain ⟨i,hi,hz,hsize,hby⟩:=info_parts hinf
 have hm:xs.length+1≤maxLen:=by
  have:xs.length+1≤(xs.length+1)*bytes:=Nat.le_mul_of_pos_right _ hbt
  unfold maxLen;omega
 refine wpList_append_own _ hgd s x t ho base e i (.int k 0) 1 bytes ht hi hz hsize hby rfl (by omega) _ _ _ hs (World.ownsRow.alloc hown _) ⟨w.heap.size,0,none⟩ 1 m [.int k y] hx rfl ?_ ?_ hm h63 (by simp;omega) ?_
 ·intro j u hj
  match j,hj with
  | 0,hj =>
    simp at hj;subst hj
    exact cell_one_new _ _ _ 0 _ rfl
 ·intro u hu
  simp at hu;subst hu;rfl
 ·intro v' w' hown' hg _
  have hform:∃A' n' c',v'=.slice A' n' c':=by
   rcases hown'.2 with ⟨_,h0⟩|⟨g,cap,cur,hv,_⟩
   ·omega
   ·exact ⟨_,_,_,hv⟩
  obtain ⟨A',n',c',rfl⟩:=hform
  refine h A' n' c' w' ?_ ?_
  ·unfold Owns
   rw [List.map_append,List.length_append]
   exact hown'
  ·refine ((Below.refl base w).alloc hbase _).grown hg (by simp;omega) (fun g hg'=>?_)
   exact (hown.lt g hg').1
def fillK (S:List Int) (k:Nat):List Int:=(List.range S.length).map fun i=>if i<k then S.getD i 0 else 0
theorem fillK_length (S:List Int) (k:Nat):(fillK S k).length=S.length:=by simp [fillK]
theorem fillK_get (S:List Int) (k i:Nat):(fillK S k)[i]? = if i<S.length then some (if i<k then S.getD i 0 else 0) else none:=by
 unfold fillK
 by_cases h:i<S.length
 ·simp [h]
 ·simp [h]
theorem fillK_zero (S:List Int):fillK S 0=List.replicate S.length 0:=by
 apply List.ext_getElem?
 intro i
 rw [fillK_get,List.getElem?_replicate]
 simp
theorem fillK_end (S:List Int):fillK S S.length=S:=by
 apply List.ext_getElem?
 intro i
 rw [fillK_get]
 by_cases h:i<S.length
 ·simp [h]
 ·simp [h]
theorem fillK_set (S:List Int) {k:Nat} {x:Int} (hx:S[k]? = some x):(fillK S k).set k x=fillK S (k+1):=by
 have hk:k<S.length:=(List.getElem?_eq_some_iff.1 hx).1
 apply List.ext_getElem?
 intro i
 by_cases e:k=i
 ·subst e
  rw [List.getElem?_set_self (by rw [fillK_length];exact hk),fillK_get,if_pos hk,if_pos (by omega)]
  simp [List.getD,hx]
 ·rw [List.getElem?_set_ne e,fillK_get,fillK_get]
  by_cases h:i<k
  ·simp only [h,if_true,show i<k+1 by omega]
  ·simp only [h,if_false,show ¬i<k+1 by omega]
def Arr (w:World) (b o:Nat) (k:IntKind) (xs:List Int):Prop:=∀i x,xs[i]? = some x→w.cell? ⟨b,o+i,none⟩=some (.int k x)∧w.frozen? ⟨b,o+i,none⟩=false
def ints (k:IntKind) (xs:List Int):List Value:=xs.map (Value.int k)
@[simp] theorem ints_length (k:IntKind) (xs:List Int):(ints k xs).length=xs.length:=by simp [ints]
theorem ints_one (k:IntKind) (xs:List Int):∀v ∈ ints k xs,v.oneCell'=true:=by
 intro v hv
 obtain ⟨x,_,rfl⟩:=List.mem_map.1 hv
 rfl
theorem ints_all (k:IntKind) (xs:List Int):(ints k xs).toArray.all (·.oneCell')=true:=all_oneCell_toArray (ints_one k xs)
structure Only (b:Nat) (w w':World):Prop where
 os:w'.os=w.os
 tape:w'.tape=w.tape
 output:w'.output=w.output
 size:w.heap.size≤w'.heap.size
 block:∀k,k<w.heap.size→k≠b→w'.heap[k]? = w.heap[k]?
def over (xs:List Int) (j:Nat) (ys:List Int):List Int:=xs.take j++ys++xs.drop (j+ys.length)
theorem over_length {xs ys:List Int} {j:Nat} (h:j+ys.length≤xs.length):(over xs j ys).length=xs.length:=by simp [over];omega
theorem over_at {xs ys:List Int} {j:Nat} (h:j+ys.length≤xs.length) (i:Nat):(over xs j ys)[i]? = if i<j then xs[i]? else if i<j+ys.length then ys[i - j]? else xs[i]? := by
 unfold over
 by_cases h1:i<j
 ·rw [if_pos h1,List.getElem?_append_left (by simp;omega),List.getElem?_append_left (by simp;omega),List.getElem?_take,if_pos h1]
 ·rw [if_neg h1]
  by_cases h2:i<j+ys.length
  ·rw [if_pos h2,List.getElem?_append_left (by simp;omega),List.getElem?_append_right (by simp;omega)]
   congr 1;simp;omega
  ·rw [if_neg h2,List.getElem?_append_right (by simp;omega),List.getElem?_drop]
   congr 1;simp;omega
section
variable {w w':World} {b b' o o':Nat} {k k':IntKind} {xs ys:List Int}
theorem Arr.at_ (h:Arr w b o k xs) {i:Nat} {x:Int} (hi:xs[i]? = some x):w.cell? ⟨b,o+i,none⟩=some (.int k x):=(h i x hi).1
theorem Arr.free (h:Arr w b o k xs) {i:Nat} (hi:i<xs.length):w.frozen? ⟨b,o+i,none⟩=false:=(h i xs[i] (by simp [hi])).2
theorem Arr.spot (h:Arr w b o k xs) {i:Nat} (hi:i<xs.length):∃x,w.cell? ⟨b,o+i,none⟩=some (.int k x)∧w.frozen? ⟨b,o+i,none⟩=false∧Hid (xs[i]? = some x) :=
 ⟨xs[i],(h i xs[i] (by simp [hi])).1,(h i xs[i] (by simp [hi])).2,by show _=_;simp [hi]⟩
theorem Arr.lt (h:Arr w b o k xs) (hp:0<xs.length):b<w.heap.size:=World.block_lt_of_cell? w _ (h 0 xs[0] (by simp [hp])).1
theorem Arr.range (h:Arr w b o k xs):w.rangeAt b o (ints k xs):=fun j v hv=>by
 simp only [ints,List.getElem?_map,Option.map_eq_some_iff] at hv
 obtain ⟨x,hx,rfl⟩:=hv
 exact (h j x hx).1
theorem Arr.there (h:Arr w b o k xs):w.there b o xs.length:=fun j hj=>⟨by rw [(h j xs[j] (by simp [hj])).1];rfl,(h j xs[j] (by simp [hj])).2⟩
theorem Arr.of (h1:w.rangeAt b o (ints k xs)) (h2:w.there b o xs.length):Arr w b o k xs:=fun i x hi =>
 ⟨h1 i _ (by simp [ints,hi]),(h2 i (List.getElem?_eq_some_iff.1 hi).1).2⟩
theorem Arr.nums (h:Arr w b o k xs):Nums w k (some ⟨b,o,none⟩) xs:=fun hp =>
 ⟨b,o,rfl,h.lt hp,fun i hi=>(h i _ (by simp [hi])).1⟩
theorem Arr.drew (h:Arr w b o k xs):Arr w.drew b o k xs:=h
theorem Arr.drewN (h:Arr w b o k xs) (n:Nat):Arr (w.drewN n) b o k xs:=h
theorem Arr.same (h:Arr w b o k xs) (he:w'.heap[b]? = w.heap[b]?):Arr w' b o k xs:=fun i x hi=>by
 have:=h i x hi
 unfold World.cell? World.frozen? at *
 simp only [he]
 exact this
theorem Arr.alloc (h:Arr w b o k xs) (ob:Obj):Arr (w.alloc ob) b o k xs:=fun i x hi=>by
 have hl:=World.block_lt_of_cell? w _ (h i x hi).1
 exact h.same (Below.heap_alloc w ob b hl) i x hi
theorem Arr.below {B:Nat} (h:Arr w b o k xs) (hb:Below B w w') (hB:b<B):Arr w' b o k xs:=h.same (hb.block b hB)
theorem Arr.only {g:Nat} (h:Arr w b o k xs) (hb:Only g w w') (hg:b≠g):Arr w' b o k xs:=fun i x hi=>by
 have hl:=World.block_lt_of_cell? w _ (h i x hi).1
 exact h.same (hb.block b hl hg) i x hi
theorem Arr.cut (h:Arr w b o k xs) {lo m:Nat} (_:lo+m≤xs.length):Arr w b (o+lo) k ((xs.drop lo).take m):=fun i x hi=>by
 rw [List.getElem?_take] at hi
 split at hi
 ·rw [List.getElem?_drop] at hi
  rw [Nat.add_assoc];exact h (lo+i) x hi
 ·cases hi
theorem Arr.set (h:Arr w b o k xs) (j:Nat) (y:Int):Arr (w.setCell ⟨b,o+j,none⟩ (.int k y)) b o k (xs.set j y):=fun i x hi=>by
 rw [World.frozen?_setCell]
 by_cases e:j=i
 ·subst e
  have hl:j<xs.length:=by have:=(List.getElem?_eq_some_iff.1 hi).1;simpa using this
  rw [List.getElem?_set_self hl] at hi
  injection hi with hi;subst hi
  exact ⟨World.cell?_setCell_same _ _ _ (h j xs[j] (by simp [hl])).1,h.free hl⟩
 ·rw [List.getElem?_set_ne e] at hi
  rw [World.cell?_setCell_other _ _ _ _ (by intro q;injection q with _ q;omega)]
  exact h i x hi
theorem Arr.apart (h:Arr w b o k xs) {p:Addr} (v:Value) (hp:p.block≠b∨p.off<o∨o+xs.length≤p.off):Arr (w.setCell p v) b o k xs:=fun i x hi=>by
 have hl:=(List.getElem?_eq_some_iff.1 hi).1
 rw [World.frozen?_setCell,World.cell?_setCell_other _ _ _ _ (by intro e;subst e;simp at hp;omega)]
 exact h i x hi
theorem Arr.over (h:Arr w b o k xs) {j:Nat} (hj:j+ys.length≤xs.length):Arr (w.setCells b (o+j) (ints k ys)) b o k (over xs j ys):=fun i x hi=>by
 rw [over_at hj] at hi
 rw [World.frozen?_setCells]
 have hth:∀i,i<ys.length→(w.cell? ⟨b,o+j+i,none⟩).isSome=true:=fun i hi=>by rw [Nat.add_assoc];exact (h.there (j+i) (by omega)).1
 by_cases h1:i<j
 ·rw [if_pos h1] at hi
  rw [World.cell?_setCells_out _ _ _ _ _ (fun _ _=>.inl (by show o+i<o+j;omega))]
  exact h i x hi
 ·rw [if_neg h1] at hi
  by_cases h2:i<j+ys.length
  ·rw [if_pos h2] at hi
   have e:o+i=o+j+(i - j):=by omega
   refine ⟨?_,h.free (by omega)⟩
   rw [e,World.cell?_setCells_in b _ _ w (fun q hq=>hth q (by simpa using hq)) (i - j) (by simp;omega)]
   simp only [ints,List.getElem_map]
   rw [List.getElem?_eq_getElem (by omega)] at hi
   injection hi with hi;rw [hi]
  ·rw [if_neg h2] at hi
   rw [World.cell?_setCells_out _ _ _ _ _ (fun _ _=>.inr (by show o+j+(ints k ys).length≤o+i;simp;omega))]
   exact h i x hi
theorem Arr.all (h:Arr w b o k xs) (hj:ys.length=xs.length):Arr (w.setCells b o (ints k ys)) b o k ys:=by
 have h0:Proofs.YtkblmdakejmmhaaGreatDoor.over xs 0 ys=ys:=by
  have:xs.drop ys.length=[]:=List.drop_eq_nil_of_le (by omega)
  simp [Proofs.YtkblmdakejmmhaaGreatDoor.over,this]
 have:=h.over (j:=0) (ys:=ys) (by omega)
 rw [h0] at this
 exact this
theorem Arr.past (h:Arr w b o k xs) (vs:List Value) (hp:b'≠b∨o'+vs.length≤o∨o+xs.length≤o'):Arr (w.setCells b' o' vs) b o k xs:=fun i x hi=>by
 have hl:=(List.getElem?_eq_some_iff.1 hi).1
 rw [World.frozen?_setCells,World.cell?_setCells_out _ _ _ _ _ (fun e _=>by simp at e;subst e;simp;omega)]
 exact h i x hi
theorem Arr.made (w:World) (k:IntKind) (xs:List Int) (t:TypeId):Arr (w.alloc (.cells (ints k xs).toArray t)) w.heap.size 0 k xs:=fun i x hi=>by
 rw [Nat.zero_add]
 refine ⟨?_,World.frozen?_alloc_new w _ t i⟩
 rw [World.cell?_alloc_new]
 simp [ints,hi]
theorem Arr.madeAt (w:World) (k:IntKind) (xs:List Int) (t:TypeId) (cs:Array Value) (o:Nat) (h:∀i x,xs[i]? = some x→cs[o+i]? = some (.int k x)):Arr (w.alloc (.cells cs t)) w.heap.size o k xs:=fun i x hi=>by
 refine ⟨?_,World.frozen?_alloc_new w _ t _⟩
 rw [World.cell?_alloc_new]
 exact h i x hi
theorem Only.refl (b:Nat) (w:World):Only b w w:=⟨rfl,rfl,rfl,Nat.le_refl _,fun _ _ _=>rfl⟩
theorem Only.trans {a c:World} (h:Only b a w) (h':Only b w c):Only b a c :=
 ⟨h'.os.trans h.os,h'.tape.trans h.tape,h'.output.trans h.output,Nat.le_trans h.size h'.size,fun i hi hn=>(h'.block i (Nat.lt_of_lt_of_le hi h.size) hn).trans (h.block i hi hn)⟩
theorem Only.of (h:Below w.heap.size w w') (b:Nat):Only b w w':=⟨h.os,h.tape,h.output,h.size,fun k hk _=>h.block k hk⟩
theorem Only.below {B:Nat} (h:Only b w w') (hB:B≤b) (hs:B≤w.heap.size):Below B w w':=⟨h.os,h.tape,h.output,h.size,fun k hk=>h.block k (by omega) (by omega)⟩
theorem Only.drew {a:World} (h:Only b a w):Only b a w.drew:=⟨h.os,h.tape,h.output,h.size,h.block⟩
theorem Only.drewN {a:World} (h:Only b a w) (n:Nat):Only b a (w.drewN n):=⟨h.os,h.tape,h.output,h.size,h.block⟩
theorem Only.setCell {a:World} (h:Only b a w) {p:Addr} (hp:p.block=b∨a.heap.size≤p.block) (v:Value):Only b a (w.setCell p v) :=
 ⟨h.os,h.tape,h.output,by simp [World.setCell];exact h.size,fun k hk hn=>(Below.heap_setCell _ _ _ _ (by rcases hp with e|e <;> omega)).trans (h.block k hk hn)⟩
theorem setCells_frame (g:Nat):∀(vs:List Value) (o:Nat) (w:World),(w.setCells g o vs).os=w.os∧(w.setCells g o vs).tape=w.tape∧(w.setCells g o vs).output=w.output∧(w.setCells g o vs).heap.size=w.heap.size∧∀k,k≠g→(w.setCells g o vs).heap[k]? = w.heap[k]?
 | [],_,_=>⟨rfl,rfl,rfl,rfl,fun _ _=>rfl⟩
 | v::r,o,w=>by
   obtain ⟨h1,h2,h3,h4,h5⟩:=setCells_frame g r (o+1) (w.setCell ⟨g,o,none⟩ v)
   rw [World.setCells]
   exact ⟨h1,h2,h3,h4.trans (by simp [World.setCell]),fun k hk=>(h5 k hk).trans (Below.heap_setCell _ _ _ _ hk)⟩
theorem setCells_size (w:World) (g o:Nat) (vs:List Value):(w.setCells g o vs).heap.size=w.heap.size:=(setCells_frame g vs o w).2.2.2.1
theorem Only.setCells {a:World} (h:Only b a w) {g:Nat} (hp:g=b∨a.heap.size≤g) (o:Nat) (vs:List Value):Only b a (w.setCells g o vs):=by
 obtain ⟨h1,h2,h3,h4,h5⟩:=setCells_frame g vs o w
 exact ⟨h1.trans h.os,h2.trans h.tape,h3.trans h.output,by rw [h4];exact h.size,fun k hk hn=>(h5 k (by rcases hp with e|e <;> omega)).trans (h.block k hk hn)⟩
theorem Below.setCells {B:Nat} {a:World} (h:Below B a w) {g:Nat} (hp:B≤g) (o:Nat) (vs:List Value):Below B a (w.setCells g o vs):=by
 obtain ⟨h1,h2,h3,h4,h5⟩:=setCells_frame g vs o w
 exact h.trans ⟨h1,h2,h3,by rw [h4];exact Nat.le_refl _,fun k hk=>h5 k (by omega)⟩
theorem Nums.only {A:Option Addr} (h:Nums w k A xs) (hb:Only b w w') (hA:∀g o s,A=some ⟨g,o,s⟩→g≠b):Nums w' k A xs:=fun hp=>by
 obtain ⟨g,off,e,hlt,hc⟩:=h hp
 exact ⟨g,off,e,Nat.lt_of_lt_of_le hlt hb.size,fun i hi=>(World.cell?_of_block (a:=⟨g,off+i,none⟩) (hb.block g hlt (hA g off none e))).trans (hc i hi)⟩
end
theorem results_row {P:Program} {fn:Func} {p:Tmp} {ty:TypeId} (h:fn.results = #[.cell p ty]) (tmps:Array Value) (w:World) (b o:Nat) (hp:tmps.getD p undef=.pointer (some ⟨b,o,none⟩))
 (cs:List Value) (d:TypeDesc) (hc:w.rangeAt b o cs) (hu:P.underlying ty=some d) (hd:d.isRow=true) (hi:(P.info? ty).map (·.size)=some cs.length) :
 (results fn tmps).run P w=.ok (.agg cs.toArray) w:=by
 simp only [results,h]
 have hp2:tmps[p]?.getD undef=.pointer (some ⟨b,o,none⟩):=by rw [←hp];simp
 simp [hp2,asAddr,run_loadVar_mid w b o ty cs d hc hu hd hi]
theorem ret_rows {P:Program} {fn:Func} {R:Ending→World→Prop} {a:Act} {w:World} {p:Tmp} {ty:TypeId} (h:fn.results = #[.cell p ty]) (b o:Nat) (hp:a.tmps.getD p undef=.pointer (some ⟨b,o,none⟩))
 (cs:List Value) (d:TypeDesc) (hc:w.rangeAt b o cs) (hu:P.underlying ty=some d) (hd:d.isRow=true) (hi:(P.info? ty).map (·.size)=some cs.length) (hf:a.defers=[])
 (hR:R (.returned (.agg cs.toArray)) w):bodyPost P fn R .ret a w :=
 bodyPost_ret (results_row h a.tmps w b o hp cs d hc hu hd hi) hf hR
theorem run_index_row {P:Program} {w:World} (t e:TypeId) (n:Nat) (cs:List Value) (kk:IntKind) (i:Nat) (v:Value) (d:TypeDesc) (h:P.underlying t=some (.array n e)) (hd:P.underlying e=some d) (hr:d.isRow=false)
 (hs:(P.info? e).map (·.size)=some 1) (hi:i<n) (hv:cs[i]? = some v):(Instr.index t (.agg cs.toArray) (.int kk (i:Int))).run P w=.ok v w:=by
 have hn:(0:Int)≤i∧(i:Int)<(n:Int):=by omega
 have hag:(isAgg e).run P w=.ok false w:=by
  unfold isAgg
  rw [Sem.run_bind,run_underlying hd w]
  cases d <;> simp_all
 cases hq:P.info? e with
 | none=>simp [hq] at hs
 | some j =>
   have hj:j.size=1:=by simpa [hq] using hs
   have hni:¬n≤i:=by omega
   simp [Instr.index,run_underlying h,asIntOf,hni,part,hag,sizeOf,typeInfo,hq,hj,hv]
theorem nums_from {P:Program} {w:World} {k:IntKind} {A:Option Addr} {xs:List Int} (h:Nums w k A xs) (T e:TypeId) (hT:P.underlying T=some (.slice e)) (hs:(P.info? e).map (·.size)=some 1) (c n:Nat) (hn:n≤xs.length) (hp:0<xs.length) (hcap:xs.length≤c) :
 ∃A',(∀W:World,(Instr.slice T (.slice A xs.length c) (some (.int .i64 (n:Int))) none none).run P W=.ok (.slice A' (xs.length - n) (c - n)) W)∧Nums w k A' (xs.drop n)∧(∀g o s,A=some ⟨g,o,s⟩→∃o',A'=some ⟨g,o',s⟩):=by
 obtain ⟨b,off,rfl,hlt,hc⟩:=h hp
 have hT2:P.underlying T=some (.slice (P.elem T)):=by rw [hT];simp [Program.elem,hT]
 have he:P.elem T=e:=by simp [Program.elem,hT]
 have hsz:∀W:World,(sizeOf e).run P W=.ok 1 W:=fun W=>by
  cases hq:P.info? e with
  | none=>simp [hq] at hs
  | some j =>
    have hj:j.size=1:=by simpa [hq] using hs
    simp [sizeOf,typeInfo,hq,hj]
 have hrun:∀W:World,(Instr.slice T (.slice (some ⟨b,off,none⟩) xs.length c) (some (.int .i64 (n:Int))) none none).run P W=.ok (sliced (some ⟨b,off,none⟩) n xs.length c 1) W:=fun W=>by
  rw [run_slice_l W T (some ⟨b,off,none⟩) xs.length c hT2 .i64 (n:Int) (by omega) (by omega),he,hsz]
  simp [Result.andThen]
 by_cases hcn:c=n
 ·refine ⟨some ⟨b,off,none⟩,fun W=>?_,fun hp2=>?_,fun g o s e=>?_⟩
  ·rw [hrun];simp [sliced,hcn]
  ·simp at hp2;omega
  ·injection e with e;injection e with e1 e2 e3;subst e1;subst e3;exact ⟨off,rfl⟩
 ·have hadd:(⟨b,off,none⟩:Addr).add n=⟨b,off+n,none⟩:=Addr.add_mid b off n
  refine ⟨some ⟨b,off+n,none⟩,fun W=>?_,fun hp2=>⟨b,off+n,rfl,hlt,fun i hi=>?_⟩,fun g o s e=>?_⟩
  ·rw [hrun];simp [sliced,hcn,hadd]
  ·rw [List.length_drop] at hi
   rw [Nat.add_assoc,hc (n+i) (by omega)]
   simp [List.getD]
  ·injection e with e;injection e with e1 e2 e3;subst e1;subst e3;exact ⟨off+n,rfl⟩
def dv:List Nat→Nat
 | []=>0
 | a::l=>a+65536*dv l
def Digs (l:List Nat):Prop:=∀v ∈ l,v<65536
def stepD (xi yj pos:Nat) (st:List Nat × Nat):List Nat × Nat :=
 (st.1.set pos ((xi*yj+st.2+st.1.getD pos 0)%65536),(xi*yj+st.2+st.1.getD pos 0) / 65536)
def rowD (xi:Nat) (y:List Nat) (i:Nat) (z:List Nat):Nat→List Nat × Nat
 | 0=>(z,0)
 | j+1=>stepD xi (y.getD j 0) (i+j) (rowD xi y i z j)
def colD (x y:List Nat):Nat→List Nat
 | 0=>List.replicate (x.length+y.length) 0
 | i+1=>(rowD (x.getD i 0) y i (colD x y i) y.length).1.set (i+y.length) ((rowD (x.getD i 0) y i (colD x y i) y.length).1.getD (i+y.length) 0+(rowD (x.getD i 0) y i (colD x y i) y.length).2)
def digs (x y:List Nat):List Nat:=colD x y x.length
theorem dv_set (l:List Nat):∀(p v v0:Nat),l[p]? = some v0→dv (l.set p v)+v0*65536^p=dv l+v*65536^p:=by
 induction l with
 | nil=>intro p v v0 h;simp at h
 | cons a l ih =>
   intro p v v0 h
   cases p with
   | zero =>
     simp at h
     subst h
     simp [dv];omega
   | succ p =>
     have h2:=ih p v v0 (by simpa using h)
     simp only [List.set_cons_succ,dv,Nat.pow_succ]
     have e:∀q:Nat,q*(65536^p*65536)=65536*(q*65536^p):=fun q=>by
      rw [←Nat.mul_assoc,Nat.mul_comm]
     rw [e,e]
     omega
theorem dv_take_succ (l:List Nat):∀(j v:Nat),l[j]? = some v→dv (l.take (j+1))=dv (l.take j)+v*65536^j:=by
 induction l with
 | nil=>intro j v h;simp at h
 | cons a l ih =>
   intro j v h
   cases j with
   | zero=>simp at h;subst h;simp [dv]
   | succ j =>
     have h2:=ih j v (by simpa using h)
     simp only [List.take_succ_cons,dv,Nat.pow_succ] at h2 ⊢
     have e:v*(65536^j*65536)=65536*(v*65536^j):=by
      rw [←Nat.mul_assoc,Nat.mul_comm]
     rw [h2,e]
     omega
theorem dv_split (l:List Nat):∀j,j≤l.length→dv l=dv (l.take j)+65536^j*dv (l.drop j):=by
 induction l with
 | nil=>intro j h;simp at h;subst h;simp [dv]
 | cons a l ih =>
   intro j h
   cases j with
   | zero=>simp [dv]
   | succ j =>
     have h2:=ih j (by simpa using h)
     simp only [List.take_succ_cons,List.drop_succ_cons,dv,Nat.pow_succ]
     have e:65536^j*65536*dv (l.drop j)=65536*(65536^j*dv (l.drop j)):=by
      rw [Nat.mul_comm (65536^j),Nat.mul_assoc]
     rw [e,h2]
     omega
theorem dv_lt (l:List Nat) (h:Digs l):dv l<65536^l.length:=by
 induction l with
 | nil=>simp [dv]
 | cons a l ih =>
   have ha:=h a (by simp)
   have h2:=ih (fun v hv=>h v (by simp [hv]))
   simp only [dv,List.length_cons,Nat.pow_succ]
   have h3:65536*(dv l+1)≤65536*65536^l.length:=Nat.mul_le_mul_left _ h2
   rw [Nat.mul_comm (65536^l.length)]
   omega
theorem rowD_length (xi:Nat) (y:List Nat) (i:Nat) (z:List Nat) (j:Nat):(rowD xi y i z j).1.length=z.length:=by
 induction j with
 | zero=>rfl
 | succ j ih=>simp only [rowD,stepD,List.length_set,ih]
theorem mul_lt16 {a b:Nat} (ha:a<65536) (hb:b<65536):a*b≤65535*65535:=Nat.mul_le_mul (by omega) (by omega)
theorem getD_dig {l:List Nat} (h:Digs l) (i:Nat):l.getD i 0<65536:=by
 rw [List.getD_eq_getElem?_getD]
 cases hx:l[i]? with
 | none=>simp
 | some x=>exact h x (List.mem_of_getElem? hx)
theorem set_digs {l:List Nat} (h:Digs l) (p v:Nat) (hv:v<65536):Digs (l.set p v):=fun x hx=>by
 rcases List.mem_or_eq_of_mem_set hx with h1|h1
 ·exact h x h1
 ·rw [h1];exact hv
theorem step_digs {xi yj pos:Nat} {st:List Nat × Nat} (hx:xi<65536) (hy:yj<65536) (h1:Digs st.1) (h2:st.2<65536) :
 Digs (stepD xi yj pos st).1∧(stepD xi yj pos st).2<65536:=by
 have hz:=getD_dig h1 pos
 have hm:=mul_lt16 hx hy
 refine ⟨set_digs h1 _ _ (Nat.mod_lt _ (by omega)),?_⟩
 show (xi*yj+st.2+st.1.getD pos 0) / 65536<_
 generalize xi*yj=p at *
 generalize st.1.getD pos 0=q at *
 omega
theorem rowD_digsL (xi:Nat) (y:List Nat) (i:Nat) (z:List Nat) (hx:xi<65536) (hy:Digs y) (hz:Digs z) (j:Nat):Digs (rowD xi y i z j).1∧(rowD xi y i z j).2<65536:=by
 induction j with
 | zero=>exact ⟨hz,by simp [rowD]⟩
 | succ j ih=>exact step_digs hx (getD_dig hy j) ih.1 ih.2
theorem rowD_val (xi:Nat) (y:List Nat) (i:Nat) (z:List Nat) (j:Nat) (hj:i+j≤z.length) (hy:j≤y.length) :
 dv (rowD xi y i z j).1+(rowD xi y i z j).2*65536^(i+j)=dv z+xi*65536^i*dv (y.take j):=by
 induction j with
 | zero=>simp [rowD,dv]
 | succ j ih =>
   have h1:=ih (by omega) (by omega)
   have hl:=rowD_length xi y i z j
   have hp:(rowD xi y i z j).1[i+j]? = some ((rowD xi y i z j).1.getD (i+j) 0):=by
    rw [List.getD_eq_getElem?_getD,List.getElem?_eq_getElem (by omega)];rfl
   have hyj:y[j]? = some (y.getD j 0):=by rw [List.getD_eq_getElem?_getD,List.getElem?_eq_getElem (by omega)];rfl
   rw [dv_take_succ y j _ hyj]
   simp only [rowD,stepD]
   generalize rowD xi y i z j=st at *
   have hs:=dv_set st.1 (i+j) ((xi*y.getD j 0+st.2+st.1.getD (i+j) 0)%65536) _ hp
   generalize st.1.getD (i+j) 0=q at *
   generalize y.getD j 0=yj at *
   have hdm:=Nat.div_add_mod (xi*yj+st.2+q) 65536
   generalize (xi*yj+st.2+q)%65536=r at *
   generalize (xi*yj+st.2+q) / 65536=c at *
   have e:i+(j+1)=(i+j)+1:=by omega
   rw [e,Nat.pow_succ,Nat.mul_add]
   have e2:xi*65536^i*(yj*65536^j)=xi*yj*65536^(i+j):=by
    rw [Nat.pow_add]
    simp only [Nat.mul_assoc,Nat.mul_left_comm]
   rw [e2]
   generalize 65536^(i+j)=P at *
   have e3:c*(P*65536)=65536*c*P:=by
    simp only [Nat.mul_left_comm,Nat.mul_comm]
   have e4:65536*c*P+r*P=xi*yj*P+st.2*P+q*P:=by
    rw [←Nat.add_mul,hdm,Nat.add_mul,Nat.add_mul]
   rw [e3]
   omega
theorem colD_length (x y:List Nat) (i:Nat):(colD x y i).length=x.length+y.length:=by
 induction i with
 | zero=>simp [colD]
 | succ i ih=>simp only [colD,List.length_set,rowD_length,ih]
theorem rowD_past (xi:Nat) (y:List Nat) (i:Nat) (z:List Nat) (j t:Nat) (ht:i+j≤t):(rowD xi y i z j).1.getD t 0=z.getD t 0:=by
 induction j with
 | zero=>rfl
 | succ j ih =>
   simp only [rowD,stepD,List.getD_eq_getElem?_getD]
   rw [List.getElem?_set_ne (by omega),←List.getD_eq_getElem?_getD,ih (by omega),List.getD_eq_getElem?_getD]
theorem colD_past (x y:List Nat) (i t:Nat) (ht:i+y.length≤t):(colD x y i).getD t 0=0:=by
 induction i with
 | zero=>simp only [colD,List.getD_eq_getElem?_getD,List.getElem?_replicate];split <;> rfl
 | succ i ih =>
   simp only [colD]
   rw [List.getD_eq_getElem?_getD,List.getElem?_set_ne (by omega),←List.getD_eq_getElem?_getD,rowD_past _ _ _ _ _ _ (by omega)]
   exact ih (by omega)
theorem colD_digs (x y:List Nat) (hx:Digs x) (hy:Digs y) (i:Nat):Digs (colD x y i):=by
 induction i with
 | zero=>intro v hv;simp [colD] at hv;omega
 | succ i ih =>
   have h:=rowD_digsL (x.getD i 0) y i _ (getD_dig hx i) hy ih y.length
   refine set_digs h.1 _ _ ?_
   rw [rowD_past _ _ _ _ _ _ (Nat.le_refl _),colD_past _ _ _ _ (Nat.le_refl _),Nat.zero_add]
   exact h.2
theorem colD_dv (x y:List Nat) (i:Nat) (hi:i≤x.length):dv (colD x y i)=dv (x.take i)*dv y:=by
 induction i with
 | zero =>
   have:∀n,dv (List.replicate n 0)=0:=fun n=>by induction n with
    | zero=>rfl
    | succ n ih=>simp [List.replicate_succ,dv,ih]
   simp [colD,dv,this]
 | succ i ih =>
   have h1:=rowD_val (x.getD i 0) y i (colD x y i) y.length (by rw [colD_length];omega) (Nat.le_refl _)
   rw [List.take_length,ih (by omega)] at h1
   have hxi:x[i]? = some (x.getD i 0):=by rw [List.getD_eq_getElem?_getD,List.getElem?_eq_getElem (by omega)];rfl
   rw [dv_take_succ x i _ hxi,Nat.add_mul]
   simp only [colD]
   have hl:=rowD_length (x.getD i 0) y i (colD x y i) y.length
   rw [colD_length] at hl
   generalize x.getD i 0=xi at *
   generalize rowD xi y i (colD x y i) y.length=st at *
   have hp:st.1[i+y.length]? = some (st.1.getD (i+y.length) 0):=by rw [List.getD_eq_getElem?_getD,List.getElem?_eq_getElem (by omega)];rfl
   have h2:=dv_set st.1 (i+y.length) (st.1.getD (i+y.length) 0+st.2) _ hp
   rw [Nat.add_mul] at h2
   omega
theorem digs_length (x y:List Nat):(digs x y).length=x.length+y.length:=colD_length x y _
theorem digs_digs (x y:List Nat) (hx:Digs x) (hy:Digs y):Digs (digs x y):=colD_digs x y hx hy _
theorem digs_dv (x y:List Nat):dv (digs x y)=dv x*dv y:=by
 unfold digs
 rw [colD_dv x y _ (Nat.le_refl _),List.take_length]
end Go.Proofs.YtkblmdakejmmhaaGreatDoor
