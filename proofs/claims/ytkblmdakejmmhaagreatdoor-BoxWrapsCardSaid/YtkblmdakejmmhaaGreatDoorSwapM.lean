import Derived.Test.YtkblmdakejmmhaaGreatDoorG10
namespace Go.Proofs.YtkblmdakejmmhaaGreatDoor
open Go Go.RowKit
section
variable {P:Program} {ops:Array Oper} {md:Region.Mode} {Q:Exit→Act→World→Prop}
theorem any1 {f i:Nat} {listed:Array Bool} {a:Act} {w:World} (hr:Region.ready md ops listed=[i]) (h:wpOp P ops Q i (wpAny P md ops Q f (listed.setIfInBounds i true)) a w):wpAny P md ops Q (f+1) listed a w :=
 ⟨fun h0=>(by rw [hr] at h0;cases h0),fun j hj=>by
   rw [hr] at hj
   have:j=i:=by simpa using hj
   subst this;exact h⟩
theorem any2 {f i k:Nat} {listed:Array Bool} {a:Act} {w:World} (hr:Region.ready md ops listed=[i,k]) (h:wpOp P ops Q i (wpAny P md ops Q f (listed.setIfInBounds i true)) a w) (h2:wpOp P ops Q k (wpAny P md ops Q f (listed.setIfInBounds k true)) a w):wpAny P md ops Q (f+1) listed a w :=
 ⟨fun h0=>(by rw [hr] at h0;cases h0),fun j hj=>by
   rw [hr] at hj
   have:j=i∨j=k:=by simpa using hj
   rcases this with e|e
   ·subst e;exact h
   ·subst e;exact h2⟩
theorem any0 {listed:Array Bool} {a:Act} {w:World} (hr:Region.ready md ops listed=[]) (h:Q .normal a w):wpAny P md ops Q 0 listed a w:=⟨hr,h⟩
theorem op_val {i:Nat} {o:Oper} {K:Act→World→Prop} {a:Act} {w:World} (ho:ops[i]? = some o) (hg:o.guard=none) {v:Value} (hr:(execOp a.eval o).run P w=.ok (.value v) w) (h:K (a.put o.dst v) w):wpOp P ops Q i K a w:=by
 unfold wpOp
 simp only [ho]
 rw [if_pos (by simp [Region.wanted,hg])]
 left
 unfold Oper.wp
 rw [hr];exact h
theorem op_store {i:Nat} {o:Oper} {K:Act→World→Prop} {a:Act} {w:World} (ho:ops[i]? = some o) (hg:o.guard=none) (ty:TypeId) (x y:Operand) (hop:o.op=.store ty x y) (b:Nat) (cells:Array Value) (hx:a.eval x=.pointer (some ⟨b,0,none⟩)) (hy:a.eval y=.agg cells)
 (ht:w.there b 0 cells.size) (hi:(P.info? ty).map (·.size)=some cells.size) (h1:cells.all (·.oneCell')=true) (h:K (a.put o.dst undef) (w.setCells b 0 cells.toList)):wpOp P ops Q i K a w:=by
 unfold wpOp
 simp only [ho]
 rw [if_pos (by simp [Region.wanted,hg])]
 exact .inl (wp_store_mid ty x y hop b 0 cells hx hy ht hi h1 h)
end
theorem results_rows {P:Program} {fn:Func} {p s:Tmp} {ty:TypeId} (h:fn.results = #[.cell p ty,.cell s ty]) (tmps:Array Value) (w:World) (b c:Nat) (hp:tmps.getD p undef=.pointer (some ⟨b,0,none⟩)) (hs:tmps.getD s undef=.pointer (some ⟨c,0,none⟩))
 (cs ds:List Value) (d:TypeDesc) (hc:w.rangeAt b 0 cs) (hc2:w.rangeAt c 0 ds) (hu:P.underlying ty=some d) (hd:d.isRow=true) (hi:(P.info? ty).map (·.size)=some cs.length) (hi2:(P.info? ty).map (·.size)=some ds.length) :
 (results fn tmps).run P w=.ok (.tuple #[.agg cs.toArray,.agg ds.toArray]) w:=by
 simp only [results,h]
 have hp2:tmps[p]?.getD undef=.pointer (some ⟨b,0,none⟩):=by rw [←hp];simp
 have hs2:tmps[s]?.getD undef=.pointer (some ⟨c,0,none⟩):=by rw [←hs];simp
 simp [hp2,hs2,asAddr,run_loadVar_mid w b 0 ty cs d hc hu hd hi,run_loadVar_mid w c 0 ty ds d hc2 hu hd hi2]
set_option maxRecDepth 4000 in
set_option maxHeartbeats 1000000 in
theorem swap_core (xs ys S T:List Int) (sw:Bool) (M:Int) (w:World) (lx:xs.length=16) (ly:ys.length=16) (lS:S.length=16) (lT:T.length=16) (hm:M=if sw then -1 else 0)
 (hS:∀(k:Nat) (x y:Int),xs[k]? = some x→ys[k]? = some y→S[k]? = some (bits .xor .i64 x (bits .and .i64 M (bits .xor .i64 x y)))∧T[k]? = some (bits .xor .i64 y (bits .and .i64 M (bits .xor .i64 x y)))) :
 Calls Tryz.prog 71 #[.agg (ints .i64 xs).toArray,.agg (ints .i64 ys).toArray,.bool sw] w fun e w'=>e=.returned (.tuple #[.agg (ints .i64 S).toArray,.agg (ints .i64 T).toArray])∧Below w.heap.size w w':=by
 obtain ⟨z26,s26⟩:=zero_of_info inf26
 have LX:=hid lx
 have LY:=hid ly
 have LS:=hid lS
 have LT:=hid lT
 have HS:=hid hS
 have HXL:Hid (S.length=xs.length):=hid (by rw [lS,lx])
 have HYL:Hid (T.length=ys.length):=hid (by rw [lT,ly])
 clear lx ly lS lT hS
 have hA:=(((Arr.made w .i64 xs 70).alloc (.cells (ints .i64 ys).toArray 70)).alloc (.cells (ints .i64 (zeros 16)).toArray 70)).alloc (.cells (ints .i64 (zeros 16)).toArray 70)
 have hB:=((Arr.made (w.alloc (.cells (ints .i64 xs).toArray 70)) .i64 ys 70).alloc (.cells (ints .i64 (zeros 16)).toArray 70)).alloc (.cells (ints .i64 (zeros 16)).toArray 70)
 have hR:=(Arr.made ((w.alloc (.cells (ints .i64 xs).toArray 70)).alloc (.cells (ints .i64 ys).toArray 70)) .i64 (zeros 16) 70).alloc (.cells (ints .i64 (zeros 16)).toArray 70)
 have hR2:=Arr.made (((w.alloc (.cells (ints .i64 xs).toArray 70)).alloc (.cells (ints .i64 ys).toArray 70)).alloc (.cells (ints .i64 (zeros 16)).toArray 70)) .i64 (zeros 16) 70
 have hW:=(((below_new w (.cells (ints .i64 xs).toArray 70)).alloc (by simp) (.cells (ints .i64 ys).toArray 70)).alloc (by simp;omega) (.cells (ints .i64 (zeros 16)).toArray 70)).alloc (by simp;omega) (.cells (ints .i64 (zeros 16)).toArray 70)
 rw [World.size_alloc] at hB
 rw [World.size_alloc,World.size_alloc] at hR
 rw [World.size_alloc,World.size_alloc,World.size_alloc] at hR2
 have HZ:Hid (xs=mixK S xs 0):=hid (mixK_zero _ _).symm
 have HZ2:Hid (ys=mixK T ys 0):=hid (mixK_zero _ _).symm
 cases sw
 ·obtain rfl:M=0:=hm
  go_enter Tryz.func71,Tryz.ntmps71
  go_wp2
  generalize ((((w.alloc (.cells (ints .i64 xs).toArray 70)).alloc (.cells (ints .i64 ys).toArray 70)).alloc (.cells (ints .i64 (zeros 16)).toArray 70)).alloc (.cells (ints .i64 (zeros 16)).toArray 70))=W0 at *
  go_loopw [12] (fun i wr=>∃k:Nat,k≤16∧i=.int .i64 k∧Arr wr (w.heap.size+1+1) 0 .i64 (zeros 16)∧Arr wr (w.heap.size+1+1+1) 0 .i64 (zeros 16)∧Arr wr w.heap.size 0 .i64 (mixK S xs k)∧Arr wr (w.heap.size+1) 0 .i64 (mixK T ys k)∧Below w.heap.size w wr) (fun i _=>16 - (intOf i).toNat)
  case atStart=>exact ⟨0,by omega,rfl,hR,hR2,by rw [←HZ.out];exact hA,by rw [←HZ2.out];exact hB,hW⟩
  case round =>
   clear hA hB hR hR2 hW
   obtain ⟨k,hk,rfl,hR,hR2,hA,hB,hW⟩:=hrel
   rename World=>W1
   by_cases hlt:k<16
   ·have HX:Hid (xs[k]? = some (xs.getD k 0)):=hid (getD_some (by rw [LX.out];exact hlt))
    have HY:Hid (ys[k]? = some (ys.getD k 0)):=hid (getD_some (by rw [LY.out];exact hlt))
    generalize xs.getD k 0=x at *
    generalize ys.getD k 0=y at *
    have HMX:Hid ((mixK S xs k)[k]? = some x):=hid (by rw [mixK_at HXL.out (by rw [LX.out];exact hlt)];exact HX.out)
    have HMY:Hid ((mixK T ys k)[k]? = some y):=hid (by rw [mixK_at HYL.out (by rw [LY.out];exact hlt)];exact HY.out)
    have cx:=hA.at_ HMX.out
    have fx:=hA.free (i:=k) (List.getElem?_eq_some_iff.1 HMX.out).1
    have cy:=hB.at_ HMY.out
    have fy:=hB.free (i:=k) (List.getElem?_eq_some_iff.1 HMY.out).1
    rw [Nat.zero_add] at cx fx cy fy
    obtain ⟨h1,h2⟩:=HS.out k x y HX.out HY.out
    obtain ⟨d,hd⟩:∃d,bits .and .i64 0 (bits .xor .i64 x y)=d:=⟨_,rfl⟩
    rw [hd] at h1 h2
    obtain ⟨u,hu⟩:∃u,bits .xor .i64 x d=u:=⟨_,rfl⟩
    obtain ⟨v,hv⟩:∃v,bits .xor .i64 y d=v:=⟨_,rfl⟩
    rw [hu] at h1
    rw [hv] at h2
    have H1:=hid h1
    have H2:=hid h2
    obtain ⟨q,hq⟩:∃q,bits .xor .i64 x y=q:=⟨_,rfl⟩
    rw [hq] at hd
    have hwk:IntKind.i64.wrap ((k:Int)+1)=(k:Int)+1:=IntWalk.i64_in _ (by omega)
    have k0:(0:Int)≤k:=by omega
    have k16:(k:Int)<16:=by omega
    clear h1 h2
    go_wp2
    go_quiet (fail)
    replace hA:Arr (W1.drewN nq) w.heap.size 0 .i64 (mixK S xs k):=hA
    replace hB:Arr (W1.drewN nq) (w.heap.size+1) 0 .i64 (mixK T ys k):=hB
    replace hR:Arr (W1.drewN nq) (w.heap.size+1+1) 0 .i64 (zeros 16):=hR
    replace hR2:Arr (W1.drewN nq) (w.heap.size+1+1+1) 0 .i64 (zeros 16):=hR2
    replace hW:=below_drewN hW nq
    replace cx:(W1.drewN nq).cell? _=_:=cx
    replace cy:(W1.drewN nq).cell? _=_:=cy
    replace fx:(W1.drewN nq).frozen? _=_:=fx
    replace fy:(W1.drewN nq).frozen? _=_:=fy
    generalize W1.drewN nq=W3 at *
    have hA1:=(hA.set k u).apart (p:=⟨w.heap.size+1,k,none⟩) (.int .i64 v) (.inl (by show w.heap.size+1≠w.heap.size;omega))
    have hB1:=(hB.apart (p:=⟨w.heap.size,k,none⟩) (.int .i64 u) (.inl (by show w.heap.size≠w.heap.size+1;omega))).set k v
    rw [Nat.zero_add,mixK_set HXL.out H1.out] at hA1
    rw [Nat.zero_add,mixK_set HYL.out H2.out] at hB1
    have hR3:=(hR.apart (p:=⟨w.heap.size,k,none⟩) (.int .i64 u) (.inl (by show w.heap.size≠w.heap.size+1+1;omega))).apart (p:=⟨w.heap.size+1,k,none⟩) (.int .i64 v) (.inl (by show w.heap.size+1≠w.heap.size+1+1;omega))
    have hR4:=(hR2.apart (p:=⟨w.heap.size,k,none⟩) (.int .i64 u) (.inl (by show w.heap.size≠w.heap.size+1+1+1;omega))).apart (p:=⟨w.heap.size+1,k,none⟩) (.int .i64 v) (.inl (by show w.heap.size+1≠w.heap.size+1+1+1;omega))
    have hW1:=(hW.setCell (p:=⟨w.heap.size,k,none⟩) (by show w.heap.size≤w.heap.size;omega) (.int .i64 u)).setCell (p:=⟨w.heap.size+1,k,none⟩) (by show w.heap.size≤w.heap.size+1;omega) (.int .i64 v)
    clear hA hB hR hR2 hW
    go_wp2
    go_roundw
    case rel=>exact ⟨k+1,by omega,by go_num,hR3,hR4,hA1,hB1,hW1⟩
    case measure=>simp [intOf];omega
   ·have e:k=16:=by omega
    subst e
    have HE:Hid (mixK S xs 16=S):=hid (by have h:=mixK_end S xs HXL.out;rw [LX.out] at h;exact h)
    have HE2:Hid (mixK T ys 16=T):=hid (by have h:=mixK_end T ys HYL.out;rw [LY.out] at h;exact h)
    rw [HE.out] at hA
    rw [HE2.out] at hB
    have bA:Bx W1 w.heap.size S:=⟨hA,LS.out⟩
    have bB:Bx W1 (w.heap.size+1) T:=⟨hB,LT.out⟩
    go_wp2_with (fail)
    have bA':Bx W1.drew w.heap.size S:=bA
    have bB':Bx W1.drew (w.heap.size+1) T:=bB
    have r6:W1.drew.there (w.heap.size+1+1) 0 (ints .i64 S).toArray.size:=hR.drew.room (by rw [zeros_len];exact LS.out)
    have x6:=hR.drew.stored (l':=S) (by rw [zeros_len];exact LS.out)
    have y6:=hR2.drew.past (b':=w.heap.size+1+1) (o':=0) (ints .i64 S).toArray.toList (.inl (by omega))
    have r7:=y6.room (l':=T) (k':=.i64) (by rw [zeros_len];exact LT.out)
    have x7:=y6.stored (l':=T) (by rw [zeros_len];exact LT.out)
    have x6':=x6.past (b':=w.heap.size+1+1+1) (o':=0) (ints .i64 T).toArray.toList (.inl (by omega))
    have bB2:=bB'.past (b':=w.heap.size+1+1) (ints .i64 S).toArray.toList (by omega)
    have hW2:=Below.setCells (Below.setCells hW.drew (g:=w.heap.size+1+1) (by omega) 0 (ints .i64 S).toArray.toList) (g:=w.heap.size+1+1+1) (by omega) 0 (ints .i64 T).toArray.toList
    have e0:∀ev:Operand→Value,ev (.tmp 3)=.pointer (some ⟨w.heap.size,0,none⟩)→∀(o:Oper),o.op=.load 70 (.tmp 3)→(execOp ev o).run Tryz.prog W1.drew=.ok (.value (.agg (ints .i64 S).toArray)) W1.drew:=fun ev h o ho=>ex_load 70 (.tmp 3) ho w.heap.size 0 h (ints .i64 S) _ bA'.range Tryz.underlying70 rfl (l26 LS.out)
    have e1:∀ev:Operand→Value,ev (.tmp 4)=.pointer (some ⟨w.heap.size+1,0,none⟩)→∀(o:Oper),o.op=.load 70 (.tmp 4)→(execOp ev o).run Tryz.prog W1.drew=.ok (.value (.agg (ints .i64 T).toArray)) W1.drew:=fun ev h o ho=>ex_load 70 (.tmp 4) ho (w.heap.size+1) 0 h (ints .i64 T) _ bB'.range Tryz.underlying70 rfl (l26 LT.out)
    have e2:∀ev:Operand→Value,ev (.tmp 4)=.pointer (some ⟨w.heap.size+1,0,none⟩)→∀(o:Oper),o.op=.load 70 (.tmp 4)→(execOp ev o).run Tryz.prog (W1.drew.setCells (w.heap.size+1+1) 0 (ints .i64 S).toArray.toList)=.ok (.value (.agg (ints .i64 T).toArray)) (W1.drew.setCells (w.heap.size+1+1) 0 (ints .i64 S).toArray.toList):=fun ev h o ho=>ex_load 70 (.tmp 4) ho (w.heap.size+1) 0 h (ints .i64 T) _ bB2.range Tryz.underlying70 rfl (l26 LT.out)
    refine wp_region_any (by kernel_rfl) ?_
    change wpAny _ _ _ _ 4 _ _ W1.drew
    generalize W1.drew=w2 at *
    refine any2 (i:=0) (k:=1) (by kernel_rfl) ?_ ?_
    ·refine op_val (o:=⟨some 43,.load 70 (.tmp 3),_,_,_,_⟩) rfl rfl (e0 _ rfl _ rfl) ?_
     simp only [Act.put,List.setIfInBounds_toArray,List.set_cons_succ,List.set_cons_zero]
     refine any2 (i:=1) (k:=2) (by kernel_rfl) ?_ ?_
     ·refine op_val (o:=⟨some 44,.load 70 (.tmp 4),_,_,_,_⟩) rfl rfl (e1 _ rfl _ rfl) ?_
      simp only [Act.put,List.setIfInBounds_toArray,List.set_cons_succ,List.set_cons_zero]
      refine any1 (i:=2) (by kernel_rfl) (op_store (o:=⟨none,.store 70 (.tmp 6) (.tmp 43),_,_,_,_⟩) rfl rfl 70 (.tmp 6) (.tmp 43) rfl (w.heap.size+1+1) (ints .i64 S).toArray rfl rfl r6 (a26 LS.out) (ints_all _ _) ?_)
      simp only [Act.put]
      refine any1 (i:=3) (by kernel_rfl) (op_store (o:=⟨none,.store 70 (.tmp 7) (.tmp 44),_,_,_,_⟩) rfl rfl 70 (.tmp 7) (.tmp 44) rfl (w.heap.size+1+1+1) (ints .i64 T).toArray rfl rfl r7 (a26 LT.out) (ints_all _ _) ?_)
      simp only [Act.put]
      refine any0 (by kernel_rfl) ?_
      generalize (w2.setCells (w.heap.size+1+1) 0 (ints .i64 S).toArray.toList).setCells (w.heap.size+1+1+1) 0 (ints .i64 T).toArray.toList=w3 at *
      clear hA hB hR hR2 x6 y6 r6 r7 e0 e1 e2 bA bB bA' bB' bB2
      go_wp2_with (fail)
      exact bodyPost_ret (results_rows rfl _ _ (w.heap.size+1+1) (w.heap.size+1+1+1) rfl rfl (ints .i64 S) (ints .i64 T) _ x6'.range x7.range Tryz.underlying70 rfl (l26 LS.out) (l26 LT.out)) rfl ⟨rfl,hW2⟩
     ·refine op_store (o:=⟨none,.store 70 (.tmp 6) (.tmp 43),_,_,_,_⟩) rfl rfl 70 (.tmp 6) (.tmp 43) rfl (w.heap.size+1+1) (ints .i64 S).toArray rfl rfl r6 (a26 LS.out) (ints_all _ _) ?_
      simp only [Act.put]
      refine any1 (i:=1) (by kernel_rfl) (op_val (o:=⟨some 44,.load 70 (.tmp 4),_,_,_,_⟩) rfl rfl (e2 _ rfl _ rfl) ?_)
      simp only [Act.put,List.setIfInBounds_toArray,List.set_cons_succ,List.set_cons_zero]
      refine any1 (i:=3) (by kernel_rfl) (op_store (o:=⟨none,.store 70 (.tmp 7) (.tmp 44),_,_,_,_⟩) rfl rfl 70 (.tmp 7) (.tmp 44) rfl (w.heap.size+1+1+1) (ints .i64 T).toArray rfl rfl r7 (a26 LT.out) (ints_all _ _) ?_)
      simp only [Act.put]
      refine any0 (by kernel_rfl) ?_
      generalize (w2.setCells (w.heap.size+1+1) 0 (ints .i64 S).toArray.toList).setCells (w.heap.size+1+1+1) 0 (ints .i64 T).toArray.toList=w3 at *
      clear hA hB hR hR2 x6 y6 r6 r7 e0 e1 e2 bA bB bA' bB' bB2
      go_wp2_with (fail)
      exact bodyPost_ret (results_rows rfl _ _ (w.heap.size+1+1) (w.heap.size+1+1+1) rfl rfl (ints .i64 S) (ints .i64 T) _ x6'.range x7.range Tryz.underlying70 rfl (l26 LS.out) (l26 LT.out)) rfl ⟨rfl,hW2⟩
    ·refine op_val (o:=⟨some 44,.load 70 (.tmp 4),_,_,_,_⟩) rfl rfl (e1 _ rfl _ rfl) ?_
     simp only [Act.put,List.setIfInBounds_toArray,List.set_cons_succ,List.set_cons_zero]
     refine any1 (i:=0) (by kernel_rfl) (op_val (o:=⟨some 43,.load 70 (.tmp 3),_,_,_,_⟩) rfl rfl (e0 _ rfl _ rfl) ?_)
     simp only [Act.put,List.setIfInBounds_toArray,List.set_cons_succ,List.set_cons_zero]
     refine any1 (i:=2) (by kernel_rfl) (op_store (o:=⟨none,.store 70 (.tmp 6) (.tmp 43),_,_,_,_⟩) rfl rfl 70 (.tmp 6) (.tmp 43) rfl (w.heap.size+1+1) (ints .i64 S).toArray rfl rfl r6 (a26 LS.out) (ints_all _ _) ?_)
     simp only [Act.put]
     refine any1 (i:=3) (by kernel_rfl) (op_store (o:=⟨none,.store 70 (.tmp 7) (.tmp 44),_,_,_,_⟩) rfl rfl 70 (.tmp 7) (.tmp 44) rfl (w.heap.size+1+1+1) (ints .i64 T).toArray rfl rfl r7 (a26 LT.out) (ints_all _ _) ?_)
     simp only [Act.put]
     refine any0 (by kernel_rfl) ?_
     generalize (w2.setCells (w.heap.size+1+1) 0 (ints .i64 S).toArray.toList).setCells (w.heap.size+1+1+1) 0 (ints .i64 T).toArray.toList=w3 at *
     clear hA hB hR hR2 x6 y6 r6 r7 e0 e1 e2 bA bB bA' bB' bB2
     go_wp2_with (fail)
     exact bodyPost_ret (results_rows rfl _ _ (w.heap.size+1+1) (w.heap.size+1+1+1) rfl rfl (ints .i64 S) (ints .i64 T) _ x6'.range x7.range Tryz.underlying70 rfl (l26 LS.out) (l26 LT.out)) rfl ⟨rfl,hW2⟩
 ·obtain rfl:M=(-1):=hm
  go_enter Tryz.func71,Tryz.ntmps71
  go_wp2
  generalize ((((w.alloc (.cells (ints .i64 xs).toArray 70)).alloc (.cells (ints .i64 ys).toArray 70)).alloc (.cells (ints .i64 (zeros 16)).toArray 70)).alloc (.cells (ints .i64 (zeros 16)).toArray 70))=W0 at *
  go_loopw [12] (fun i wr=>∃k:Nat,k≤16∧i=.int .i64 k∧Arr wr (w.heap.size+1+1) 0 .i64 (zeros 16)∧Arr wr (w.heap.size+1+1+1) 0 .i64 (zeros 16)∧Arr wr w.heap.size 0 .i64 (mixK S xs k)∧Arr wr (w.heap.size+1) 0 .i64 (mixK T ys k)∧Below w.heap.size w wr) (fun i _=>16 - (intOf i).toNat)
  case atStart=>exact ⟨0,by omega,rfl,hR,hR2,by rw [←HZ.out];exact hA,by rw [←HZ2.out];exact hB,hW⟩
  case round =>
   clear hA hB hR hR2 hW
   obtain ⟨k,hk,rfl,hR,hR2,hA,hB,hW⟩:=hrel
   rename World=>W1
   by_cases hlt:k<16
   ·have HX:Hid (xs[k]? = some (xs.getD k 0)):=hid (getD_some (by rw [LX.out];exact hlt))
    have HY:Hid (ys[k]? = some (ys.getD k 0)):=hid (getD_some (by rw [LY.out];exact hlt))
    generalize xs.getD k 0=x at *
    generalize ys.getD k 0=y at *
    have HMX:Hid ((mixK S xs k)[k]? = some x):=hid (by rw [mixK_at HXL.out (by rw [LX.out];exact hlt)];exact HX.out)
    have HMY:Hid ((mixK T ys k)[k]? = some y):=hid (by rw [mixK_at HYL.out (by rw [LY.out];exact hlt)];exact HY.out)
    have cx:=hA.at_ HMX.out
    have fx:=hA.free (i:=k) (List.getElem?_eq_some_iff.1 HMX.out).1
    have cy:=hB.at_ HMY.out
    have fy:=hB.free (i:=k) (List.getElem?_eq_some_iff.1 HMY.out).1
    rw [Nat.zero_add] at cx fx cy fy
    obtain ⟨h1,h2⟩:=HS.out k x y HX.out HY.out
    obtain ⟨d,hd⟩:∃d,bits .and .i64 (-1) (bits .xor .i64 x y)=d:=⟨_,rfl⟩
    rw [hd] at h1 h2
    obtain ⟨u,hu⟩:∃u,bits .xor .i64 x d=u:=⟨_,rfl⟩
    obtain ⟨v,hv⟩:∃v,bits .xor .i64 y d=v:=⟨_,rfl⟩
    rw [hu] at h1
    rw [hv] at h2
    have H1:=hid h1
    have H2:=hid h2
    obtain ⟨q,hq⟩:∃q,bits .xor .i64 x y=q:=⟨_,rfl⟩
    rw [hq] at hd
    have hwk:IntKind.i64.wrap ((k:Int)+1)=(k:Int)+1:=IntWalk.i64_in _ (by omega)
    have k0:(0:Int)≤k:=by omega
    have k16:(k:Int)<16:=by omega
    clear h1 h2
    go_wp2
    go_quiet (fail)
    replace hA:Arr (W1.drewN nq) w.heap.size 0 .i64 (mixK S xs k):=hA
    replace hB:Arr (W1.drewN nq) (w.heap.size+1) 0 .i64 (mixK T ys k):=hB
    replace hR:Arr (W1.drewN nq) (w.heap.size+1+1) 0 .i64 (zeros 16):=hR
    replace hR2:Arr (W1.drewN nq) (w.heap.size+1+1+1) 0 .i64 (zeros 16):=hR2
    replace hW:=below_drewN hW nq
    replace cx:(W1.drewN nq).cell? _=_:=cx
    replace cy:(W1.drewN nq).cell? _=_:=cy
    replace fx:(W1.drewN nq).frozen? _=_:=fx
    replace fy:(W1.drewN nq).frozen? _=_:=fy
    generalize W1.drewN nq=W3 at *
    have hA1:=(hA.set k u).apart (p:=⟨w.heap.size+1,k,none⟩) (.int .i64 v) (.inl (by show w.heap.size+1≠w.heap.size;omega))
    have hB1:=(hB.apart (p:=⟨w.heap.size,k,none⟩) (.int .i64 u) (.inl (by show w.heap.size≠w.heap.size+1;omega))).set k v
    rw [Nat.zero_add,mixK_set HXL.out H1.out] at hA1
    rw [Nat.zero_add,mixK_set HYL.out H2.out] at hB1
    have hR3:=(hR.apart (p:=⟨w.heap.size,k,none⟩) (.int .i64 u) (.inl (by show w.heap.size≠w.heap.size+1+1;omega))).apart (p:=⟨w.heap.size+1,k,none⟩) (.int .i64 v) (.inl (by show w.heap.size+1≠w.heap.size+1+1;omega))
    have hR4:=(hR2.apart (p:=⟨w.heap.size,k,none⟩) (.int .i64 u) (.inl (by show w.heap.size≠w.heap.size+1+1+1;omega))).apart (p:=⟨w.heap.size+1,k,none⟩) (.int .i64 v) (.inl (by show w.heap.size+1≠w.heap.size+1+1+1;omega))
    have hW1:=(hW.setCell (p:=⟨w.heap.size,k,none⟩) (by show w.heap.size≤w.heap.size;omega) (.int .i64 u)).setCell (p:=⟨w.heap.size+1,k,none⟩) (by show w.heap.size≤w.heap.size+1;omega) (.int .i64 v)
    clear hA hB hR hR2 hW
    go_wp2
    go_roundw
    case rel=>exact ⟨k+1,by omega,by go_num,hR3,hR4,hA1,hB1,hW1⟩
    case measure=>simp [intOf];omega
   ·have e:k=16:=by omega
    subst e
    have HE:Hid (mixK S xs 16=S):=hid (by have h:=mixK_end S xs HXL.out;rw [LX.out] at h;exact h)
    have HE2:Hid (mixK T ys 16=T):=hid (by have h:=mixK_end T ys HYL.out;rw [LY.out] at h;exact h)
    rw [HE.out] at hA
    rw [HE2.out] at hB
    have bA:Bx W1 w.heap.size S:=⟨hA,LS.out⟩
    have bB:Bx W1 (w.heap.size+1) T:=⟨hB,LT.out⟩
    go_wp2_with (fail)
    have bA':Bx W1.drew w.heap.size S:=bA
    have bB':Bx W1.drew (w.heap.size+1) T:=bB
    have r6:W1.drew.there (w.heap.size+1+1) 0 (ints .i64 S).toArray.size:=hR.drew.room (by rw [zeros_len];exact LS.out)
    have x6:=hR.drew.stored (l':=S) (by rw [zeros_len];exact LS.out)
    have y6:=hR2.drew.past (b':=w.heap.size+1+1) (o':=0) (ints .i64 S).toArray.toList (.inl (by omega))
    have r7:=y6.room (l':=T) (k':=.i64) (by rw [zeros_len];exact LT.out)
    have x7:=y6.stored (l':=T) (by rw [zeros_len];exact LT.out)
    have x6':=x6.past (b':=w.heap.size+1+1+1) (o':=0) (ints .i64 T).toArray.toList (.inl (by omega))
    have bB2:=bB'.past (b':=w.heap.size+1+1) (ints .i64 S).toArray.toList (by omega)
    have hW2:=Below.setCells (Below.setCells hW.drew (g:=w.heap.size+1+1) (by omega) 0 (ints .i64 S).toArray.toList) (g:=w.heap.size+1+1+1) (by omega) 0 (ints .i64 T).toArray.toList
    have e0:∀ev:Operand→Value,ev (.tmp 3)=.pointer (some ⟨w.heap.size,0,none⟩)→∀(o:Oper),o.op=.load 70 (.tmp 3)→(execOp ev o).run Tryz.prog W1.drew=.ok (.value (.agg (ints .i64 S).toArray)) W1.drew:=fun ev h o ho=>ex_load 70 (.tmp 3) ho w.heap.size 0 h (ints .i64 S) _ bA'.range Tryz.underlying70 rfl (l26 LS.out)
    have e1:∀ev:Operand→Value,ev (.tmp 4)=.pointer (some ⟨w.heap.size+1,0,none⟩)→∀(o:Oper),o.op=.load 70 (.tmp 4)→(execOp ev o).run Tryz.prog W1.drew=.ok (.value (.agg (ints .i64 T).toArray)) W1.drew:=fun ev h o ho=>ex_load 70 (.tmp 4) ho (w.heap.size+1) 0 h (ints .i64 T) _ bB'.range Tryz.underlying70 rfl (l26 LT.out)
    have e2:∀ev:Operand→Value,ev (.tmp 4)=.pointer (some ⟨w.heap.size+1,0,none⟩)→∀(o:Oper),o.op=.load 70 (.tmp 4)→(execOp ev o).run Tryz.prog (W1.drew.setCells (w.heap.size+1+1) 0 (ints .i64 S).toArray.toList)=.ok (.value (.agg (ints .i64 T).toArray)) (W1.drew.setCells (w.heap.size+1+1) 0 (ints .i64 S).toArray.toList):=fun ev h o ho=>ex_load 70 (.tmp 4) ho (w.heap.size+1) 0 h (ints .i64 T) _ bB2.range Tryz.underlying70 rfl (l26 LT.out)
    refine wp_region_any (by kernel_rfl) ?_
    change wpAny _ _ _ _ 4 _ _ W1.drew
    generalize W1.drew=w2 at *
    refine any2 (i:=0) (k:=1) (by kernel_rfl) ?_ ?_
    ·refine op_val (o:=⟨some 43,.load 70 (.tmp 3),_,_,_,_⟩) rfl rfl (e0 _ rfl _ rfl) ?_
     simp only [Act.put,List.setIfInBounds_toArray,List.set_cons_succ,List.set_cons_zero]
     refine any2 (i:=1) (k:=2) (by kernel_rfl) ?_ ?_
     ·refine op_val (o:=⟨some 44,.load 70 (.tmp 4),_,_,_,_⟩) rfl rfl (e1 _ rfl _ rfl) ?_
      simp only [Act.put,List.setIfInBounds_toArray,List.set_cons_succ,List.set_cons_zero]
      refine any1 (i:=2) (by kernel_rfl) (op_store (o:=⟨none,.store 70 (.tmp 6) (.tmp 43),_,_,_,_⟩) rfl rfl 70 (.tmp 6) (.tmp 43) rfl (w.heap.size+1+1) (ints .i64 S).toArray rfl rfl r6 (a26 LS.out) (ints_all _ _) ?_)
      simp only [Act.put]
      refine any1 (i:=3) (by kernel_rfl) (op_store (o:=⟨none,.store 70 (.tmp 7) (.tmp 44),_,_,_,_⟩) rfl rfl 70 (.tmp 7) (.tmp 44) rfl (w.heap.size+1+1+1) (ints .i64 T).toArray rfl rfl r7 (a26 LT.out) (ints_all _ _) ?_)
      simp only [Act.put]
      refine any0 (by kernel_rfl) ?_
      generalize (w2.setCells (w.heap.size+1+1) 0 (ints .i64 S).toArray.toList).setCells (w.heap.size+1+1+1) 0 (ints .i64 T).toArray.toList=w3 at *
      clear hA hB hR hR2 x6 y6 r6 r7 e0 e1 e2 bA bB bA' bB' bB2
      go_wp2_with (fail)
      exact bodyPost_ret (results_rows rfl _ _ (w.heap.size+1+1) (w.heap.size+1+1+1) rfl rfl (ints .i64 S) (ints .i64 T) _ x6'.range x7.range Tryz.underlying70 rfl (l26 LS.out) (l26 LT.out)) rfl ⟨rfl,hW2⟩
     ·refine op_store (o:=⟨none,.store 70 (.tmp 6) (.tmp 43),_,_,_,_⟩) rfl rfl 70 (.tmp 6) (.tmp 43) rfl (w.heap.size+1+1) (ints .i64 S).toArray rfl rfl r6 (a26 LS.out) (ints_all _ _) ?_
      simp only [Act.put]
      refine any1 (i:=1) (by kernel_rfl) (op_val (o:=⟨some 44,.load 70 (.tmp 4),_,_,_,_⟩) rfl rfl (e2 _ rfl _ rfl) ?_)
      simp only [Act.put,List.setIfInBounds_toArray,List.set_cons_succ,List.set_cons_zero]
      refine any1 (i:=3) (by kernel_rfl) (op_store (o:=⟨none,.store 70 (.tmp 7) (.tmp 44),_,_,_,_⟩) rfl rfl 70 (.tmp 7) (.tmp 44) rfl (w.heap.size+1+1+1) (ints .i64 T).toArray rfl rfl r7 (a26 LT.out) (ints_all _ _) ?_)
      simp only [Act.put]
      refine any0 (by kernel_rfl) ?_
      generalize (w2.setCells (w.heap.size+1+1) 0 (ints .i64 S).toArray.toList).setCells (w.heap.size+1+1+1) 0 (ints .i64 T).toArray.toList=w3 at *
      clear hA hB hR hR2 x6 y6 r6 r7 e0 e1 e2 bA bB bA' bB' bB2
      go_wp2_with (fail)
      exact bodyPost_ret (results_rows rfl _ _ (w.heap.size+1+1) (w.heap.size+1+1+1) rfl rfl (ints .i64 S) (ints .i64 T) _ x6'.range x7.range Tryz.underlying70 rfl (l26 LS.out) (l26 LT.out)) rfl ⟨rfl,hW2⟩
    ·refine op_val (o:=⟨some 44,.load 70 (.tmp 4),_,_,_,_⟩) rfl rfl (e1 _ rfl _ rfl) ?_
     simp only [Act.put,List.setIfInBounds_toArray,List.set_cons_succ,List.set_cons_zero]
     refine any1 (i:=0) (by kernel_rfl) (op_val (o:=⟨some 43,.load 70 (.tmp 3),_,_,_,_⟩) rfl rfl (e0 _ rfl _ rfl) ?_)
     simp only [Act.put,List.setIfInBounds_toArray,List.set_cons_succ,List.set_cons_zero]
     refine any1 (i:=2) (by kernel_rfl) (op_store (o:=⟨none,.store 70 (.tmp 6) (.tmp 43),_,_,_,_⟩) rfl rfl 70 (.tmp 6) (.tmp 43) rfl (w.heap.size+1+1) (ints .i64 S).toArray rfl rfl r6 (a26 LS.out) (ints_all _ _) ?_)
     simp only [Act.put]
     refine any1 (i:=3) (by kernel_rfl) (op_store (o:=⟨none,.store 70 (.tmp 7) (.tmp 44),_,_,_,_⟩) rfl rfl 70 (.tmp 7) (.tmp 44) rfl (w.heap.size+1+1+1) (ints .i64 T).toArray rfl rfl r7 (a26 LT.out) (ints_all _ _) ?_)
     simp only [Act.put]
     refine any0 (by kernel_rfl) ?_
     generalize (w2.setCells (w.heap.size+1+1) 0 (ints .i64 S).toArray.toList).setCells (w.heap.size+1+1+1) 0 (ints .i64 T).toArray.toList=w3 at *
     clear hA hB hR hR2 x6 y6 r6 r7 e0 e1 e2 bA bB bA' bB' bB2
     go_wp2_with (fail)
     exact bodyPost_ret (results_rows rfl _ _ (w.heap.size+1+1) (w.heap.size+1+1+1) rfl rfl (ints .i64 S) (ints .i64 T) _ x6'.range x7.range Tryz.underlying70 rfl (l26 LS.out) (l26 LT.out)) rfl ⟨rfl,hW2⟩
theorem El.in64 {x:List Int} (h:El x) {k:Nat} {v:Int} (hv:x[k]? = some v):In64 v:=by
 have:=h.bd v (List.mem_of_getElem? hv)
 unfold In64;omega
theorem c_swap {x y:List Int} (hx:El x) (hy:El y) (sw:Bool):CallsTo 71 #[.agg (ints .i64 x).toArray,.agg (ints .i64 y).toArray,.bool sw] (.tuple #[.agg (ints .i64 (if sw then y else x)).toArray,.agg (ints .i64 (if sw then x else y)).toArray]):=fun w=>by
 cases sw with
 | true=>exact swap_core x y y x true (-1) w hx.len hy.len hy.len hx.len rfl fun k a b ha hb=>⟨by rw [xor_yes a b (hy.in64 hb)];exact hb,by rw [xor_yes' a b (hx.in64 ha)];exact ha⟩
 | false=>exact swap_core x y x y false 0 w hx.len hy.len hx.len hy.len rfl fun k a b ha hb=>⟨by rw [xor_no a b a (hx.in64 ha)];exact ha,by rw [xor_no a b b (hy.in64 hb)];exact hb⟩
end Go.Proofs.YtkblmdakejmmhaaGreatDoor
