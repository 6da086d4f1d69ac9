import Derived.Test.YtkblmdakejmmhaaGreatDoorDBlk0M
import Derived.Sort.CutIn
namespace Go.Proofs.YtkblmdakejmmhaaGreatDoor
open Go Go.RowKit
section
set_option maxRecDepth 50000
attribute [local go_sem] Oper.semAt_some
section
variable {P:Program} {ops:Array Oper} {md:Region.Mode} {W:World} {a0:Act} {n:Nat} {al:Nat→Bool} {S:Nat→Value→World→Prop} {Q:Exit→Act→World→Prop} {i:Nat} {o:Oper}
theorem step_min (hal:al i=false) (hg:GuardOn ops md n S i o) {x y:Operand} {p q r:Int} {ts:Array TypeId} (ho:o.op=.call { callee:=.builtin .min,args:=#[x,y],argTypes:=ts }) (hS:S i=Is (.int .i64 r)) (hr:(if q<p then q else p)=r) (hx:Knows ops md W a0 n S i x (.int .i64 p)) (hy:Knows ops md W a0 n S i y (.int .i64 q)):StepOk P ops md W a0 n al S Q i o :=
 step_ex (.int .i64 r) hal hg hS fun a w hw hf hd=>by
  have h1:=hx a w hw hf hd
  have h2:=hy a w hw hf hd
  unfold execOp
  simp only [ho,resolve,invoke,builtin,Sem.run_bind,Sem.run_pure,Result.andThen_ok,List.map_toArray,List.map_cons,List.map_nil,h1,h2,run_min_int2,hr]
end
theorem hide_world (key nonce:List Int) (AB:Option Addr) (lb cb:Nat) (w:World):∃W,W=((w.alloc (.cells (ints .u8 key).toArray 22)).alloc (.cells (ints .u8 nonce).toArray 40)).alloc (.cells #[.slice AB lb cb] 23)∧Arr W w.heap.size 0 .u8 key∧Arr W (w.heap.size+1) 0 .u8 nonce∧W.cell? ⟨w.heap.size+1+1,0,none⟩=some (.slice AB lb cb)∧Below w.heap.size w W∧W.heap.size=w.heap.size+3:=by
 have a1:=Arr.made w .u8 key 22
 have a2:=Arr.made (w.alloc (.cells (ints .u8 key).toArray 22)) .u8 nonce 40
 have a3:=World.cell?_alloc_new (w:=(w.alloc (.cells (ints .u8 key).toArray 22)).alloc (.cells (ints .u8 nonce).toArray 40)) #[.slice AB lb cb] 23 0
 simp only [World.size_alloc] at a2 a3
 exact ⟨_,rfl,(a1.alloc _).alloc _,a2.alloc _,by simpa using a3,(((Below.refl _ w).alloc (Nat.le_refl _) _).alloc (by simp) _).alloc (by simp;omega) _,by simp⟩
theorem wpListIn_load {P:Program} {n:Nat} {ops:Array Oper} {rest:List Oper} {op:Oper} {a:Act} {w:World} {Q:Exit→Act→World→Prop} (hgd:op.guard=none) (ty:TypeId) (x:Operand) (ho:op.op=.load ty x)
 (b o:Nat) (hx:a.eval x=.pointer (some ⟨b,o,none⟩)) (cs:List Value) (d:TypeDesc) (hc:w.rangeAt b o cs) (hu:P.underlying ty=some d) (hd:d.isRow=true) (hi:(P.info? ty).map (·.size)=some cs.length)
 (h:wpListIn Fence.wide n P ops Q rest (a.put op.dst (.agg cs.toArray)) w):wpListIn Fence.wide n P ops Q (op::rest) a w:=by
 refine wpListIn_plain hgd fun K hK=>?_
 have hr:=ex_load (P:=P) (w:=w) (o:=op) (ev:=a.eval) ty x ho b o hx cs d hc hu hd hi
 unfold Oper.wpIn
 refine ⟨fun _ _=>trivial,?_⟩
 rw [show Fence.wide.round=none from rfl,Oper.semAt_none,hr]
 exact hK _ _ h
theorem range_world (key nonce:List Int) (c:Int) (w:World):∃W,W=((w.alloc (.cells (ints .u8 key).toArray 22)).alloc (.cells (ints .u8 nonce).toArray 40)).alloc (.cells #[.int .u32 c] 53)∧Arr W w.heap.size 0 .u8 key∧Arr W (w.heap.size+1) 0 .u8 nonce∧W.cell? ⟨w.heap.size+1+1,0,none⟩=some (.int .u32 c)∧Below w.heap.size w W∧W.heap.size=w.heap.size+3:=by
 have a1:=Arr.made w .u8 key 22
 have a2:=Arr.made (w.alloc (.cells (ints .u8 key).toArray 22)) .u8 nonce 40
 have a3:=World.cell?_alloc_new (w:=(w.alloc (.cells (ints .u8 key).toArray 22)).alloc (.cells (ints .u8 nonce).toArray 40)) #[.int .u32 c] 53 0
 simp only [World.size_alloc] at a2 a3
 exact ⟨_,rfl,(a1.alloc _).alloc _,a2.alloc _,by simpa using a3,(((Below.refl _ w).alloc (Nat.le_refl _) _).alloc (by simp) _).alloc (by simp;omega) _,by simp⟩
theorem slice_of_row {W:World} {base:Nat} {e:TypeId} {k:IntKind} {v:Value} {xs:List Int} (h:Owns W base e k v xs):∃A m c,v=.slice A m c∧m=xs.length:=by
 rcases h.2 with ⟨hv,hn⟩|⟨g,cap,cur,hv,_⟩
 ·exact ⟨none,0,0,hv,by omega⟩
 ·exact ⟨_,_,_,hv,rfl⟩
theorem slice_of_row2 {W:World} {base:Nat} {e:TypeId} {k:IntKind} {v:Value} {xs:List Int} (h:Owns W base e k v xs):∃A m c,v=.slice A m c∧m=xs.length∧m≤c:=by
 rcases h.2 with ⟨hv,hn⟩|⟨g,cap,cur,hv,_,_,hc,_⟩
 ·exact ⟨none,0,0,hv,by omega,Nat.le_refl _⟩
 ·exact ⟨_,_,_,hv,rfl,hc⟩
theorem box_world {w9 wm:World} {v:Value} (hb:Below w9.heap.size w9 wm) (hown:wm.ownsRow w9.heap.size 5 1 v 0 []):∃W,W=wm.alloc (.cells #[v] 23)∧Boxed W wm.heap.size 23 v∧Owns W w9.heap.size 5 .u8 v []∧Below w9.heap.size w9 W∧W.heap.size=wm.heap.size+1 :=
 have hO:Owns wm w9.heap.size 5 .u8 v []:=hown
 ⟨_,rfl,Boxed.new wm 23 v,hO.alloc _,hb.alloc hb.size _,by simp⟩
def HideI (bh b7 nb x bk:Nat) (b:List Int) (sl:Value) (w:World) (pre:List B8) (W:World):Prop :=
 (∃v,Boxed W bh 23 v∧W.ownsRow nb 5 1 v (hideL b (bvals pre)).length ((hideL b (bvals pre)).map (Value.int .u8))∧(∀g,v.ownBlock=some g→g<x∨x+3≤g))∧(Below bk w W∧(W.cell? ⟨b7,0,none⟩=some sl∧x+3≤W.heap.size))
theorem HideI.own (bh b7 nb x bk:Nat) (b:List Int) (sl:Value) (w:World) (hw:bk≤w.heap.size) (B:Nat) (hB:bk≤B):OwnFrom B (HideI bh b7 nb x bk b sl w):=by
 have h1:Own (fun (s:List B8) (W:World)=>∃v,Boxed W bh 23 v∧W.ownsRow nb 5 1 v (hideL b (bvals s)).length ((hideL b (bvals s)).map (Value.int .u8))∧(∀g,v.ownBlock=some g→g<x∨x+3≤g)) :=
  holdsRow_own nb bh 23 5 1 (fun s=>(hideL b (bvals s)).length) (fun s=>(hideL b (bvals s)).map (Value.int .u8)) (fun _ v=>∀g,v.ownBlock=some g→g<x∨x+3≤g)
 have h2:OwnFrom B (fun (_:List B8) W=>W.cell? ⟨b7,0,none⟩=some sl∧x+3≤W.heap.size):=Own.from (fun s A C row hs hg hr=>⟨cell_kept hs.1 hg hr,Nat.le_trans hs.2 hg.size⟩) B
 exact OwnFrom.and (Own.from h1 B) (OwnFrom.and (ownFrom_below hw hB) h2)
theorem Nums.spotC {w:World} {k:IntKind} {g o:Nat} {xs:List Int} (h:Nums w k (some ⟨g,o,none⟩) xs) {i:Nat} {x:Int} (hx:xs[i]? = some x):w.cell? ⟨g,o+i,none⟩=some (.int k x):=by
 have hi:=(List.getElem?_eq_some_iff.1 hx).1
 obtain ⟨b,off,e,_,hc⟩:=h (by omega)
 injection e with e;injection e with e1 e2
 subst e1 e2
 rw [hc i hi,List.getD_eq_getElem?_getD,hx];rfl
theorem hide_end {b s:List Int} {lb nb D B:Nat} {w W:World} {v:Value} {ds:List Deferred} (hbn:b.length≤s.length) (hl:b.length=lb) (hO:Owns W nb 5 .u8 v (hideL b s)) (hn:w.heap.size≤nb) (hB:Below w.heap.size w W) (hwB:w.heap.size≤B) (hD:B≤D) (hK:W.heap[D]? = some (.deferred (some ds))) :
 ∃A m d,v=.slice A m d∧m=lb∧Owns (W.putObj D (.deferred none)) w.heap.size 5 .u8 (.slice A m d) (hideL b s)∧Below w.heap.size w (W.putObj D (.deferred none))∧m≤d:=by
 obtain ⟨A,m,d,rfl,hm,hmd⟩:=slice_of_row2 hO
 rw [hideL_length hbn,hl] at hm
 have hO2:Owns (W.putObj D (.deferred none)) nb 5 .u8 (.slice A m d) (hideL b s):=ownsRow_putObj (show W.ownsRow nb 5 1 _ _ _ from hO) _ hK rfl
 exact ⟨A,m,d,rfl,hm,hO2.lower hn,hB.trans (belowK_b (Nat.le_refl _) W D _ _ (by omega) hK rfl rfl),hmd⟩
theorem hide_box {bh nb:Nat} {xs0:List Int} {W w9 w3:World} {v v':Value} (hv:Boxed W bh 23 v) (hO:Owns W nb 5 .u8 v xs0) (hw:Cl W w9) (hG:Grew w9 w3 v v'):Boxed w3 bh 23 v :=
 Boxed.kept (show Boxed w9 bh 23 v from (hw.block bh hv.lt).trans hv) hG.1 (hv.not_row (by decide) hO)
theorem hide_step {bh b7 nb x5 bk B:Nat} {b xs0:List Int} {sl:Value} {w W w9 w3:World} {pre:List B8} {v v':Value} (h1:bk<nb) (h2:bk<b7) (h3:b7<nb) (h4:nb<bh) (h5:bh<x5)
 (hv:Boxed W bh 23 v) (hO:Owns W nb 5 .u8 v xs0) (hgx:∀g,v.ownBlock=some g→g<x5∨x5+3≤g) (hBW:Below bk w W) (hBz:bk≤W.heap.size) (c7:W.cell? ⟨b7,0,none⟩=some sl) (hxs:x5+3≤W.heap.size) (hw:Cl W w9)
 (hO3:Owns w3 nb 5 .u8 v' (hideL b (bvals pre))) (hG:Grew w9 w3 v v') :
 KeepsFrom B W (w3.setCell ⟨bh,0,none⟩ v')∧KpS bk x5 (x5+3) W (w3.setCell ⟨bh,0,none⟩ v')∧HideI bh b7 nb x5 bk b sl w pre (w3.setCell ⟨bh,0,none⟩ v'):=by
 have hOw:=hO.stay hw
 have hX3:=hide_box hv hO hw hG
 have hws:=hw.size
 have hgz:=hG.1.size
 have hcb:∀g,v.ownBlock=some g→∀o,w9.heap[g]? = some o→o.isCells=true:=fun g e o ho=>by
  rcases hOw.2 with ⟨rfl,_⟩|⟨g',cap,cur,rfl,_,hgb,_⟩
  ·simp [Value.ownBlock] at e
  ·obtain rfl:g'=g:=by simpa [Value.ownBlock] using e
   rw [hgb] at ho;cases ho;rfl
 have hlo:∀g,v.ownBlock=some g→nb≤g:=fun g e=>(hO.lt g e).1
 have hbW:Below bk W (w3.setCell ⟨bh,0,none⟩ v') :=
  ((hw.mono hBz).trans (hG.below (by omega) fun g e=>by have:=hlo g e;omega)).setCell (p:=⟨bh,0,none⟩) (show bk≤bh by omega) v'
 have hkeep:∀k,k<W.heap.size→k≠bh→v.ownBlock≠some k→(w3.setCell ⟨bh,0,none⟩ v').heap[k]? = W.heap[k]? := fun k hk hkb hkg =>
  (Below.heap_setCell _ _ _ k hkb).trans ((hG.1.block k (by omega) (fun e=>hkg e.symm)).trans (hw.block k hk))
 have hsz:(w3.setCell ⟨bh,0,none⟩ v').heap.size=w3.heap.size:=Array.size_modify
 refine ⟨⟨by rw [hsz];omega,fun k o _ hk ho=>?_⟩,⟨hbW,fun k h6 h7=>hkeep k (by omega) (by omega) (fun e=>by rcases hgx k e with h|h <;> omega)⟩,⟨v',hX3.set v',hO3.kept (grownBy_setCell' w3 bh v') (.inr (hX3.not_row (by decide) hO3).symm),fun g e=>?_⟩,hBW.trans hbW,?_,by rw [hsz];omega⟩
 ·have hkl:=(Array.getElem?_eq_some_iff.1 hk).1
  rw [hkeep k hkl,hk]
  ·rintro rfl
   rw [show W.heap[k]? = _ from hv] at hk;cases hk;cases ho
  ·intro e
   have:=hcb k e o ((hw.block k hkl).trans hk)
   rw [this] at ho;cases ho
 ·rcases hG.2 with e'|h
  ·exact hgx g (e'▸e)
  ·have:=h g e;exact .inr (by omega)
 ·have hb7:b7<W.heap.size:=by have:=hv.lt;omega
  have:=hkeep b7 hb7 (by omega) (fun e=>by have:=hlo b7 e;omega)
  unfold World.cell? at c7 ⊢
  rw [this];exact c7
theorem stream_stops (n:Nat) (hn1:1≤n) (n₀ L H bk bn bc c:Nat) (key nonce:List Int) (w:World)
 (hk:Hid (key.length=32)) (hn:Hid (nonce.length=12)) (hkb:HByt key) (hnb:HByt nonce) (hc:c<4294967296) (h0:1<n₀) (hLk:L≤bk∧bk<H) (hLn:L≤bn∧bn<H)
 (hb:bc<w.heap.size) (hcc:w.cell? ⟨bc,0,none⟩=some (.int .u32 (c:Int))) (hLay:Lay n₀ L H bk bn key nonce w) :
 SeqStopsK Fence.wide n Tryz.prog 85 #[.pointer (some ⟨bc,0,none⟩),.pointer (some ⟨bk,0,none⟩),.pointer (some ⟨bn,0,none⟩)] (fun x:B8=>#[Value.int .u8 x.1]) (KpS n₀ L H)
  (fun xs=>bvals xs=strm key nonce c (4294967296 - c)) (fun pre=>bvals pre <+: strm key nonce c (4294967296 - c)) (64*(4294967296 - c)) w:=fun l J Jx W hW hJ hJx hY hJ0 =>
 callsIn_wide.2 (stream1_in n hn1 l n₀ L H bk bn bc c key nonce J Jx W hk hn hkb hnb hc h0 hLk hLn hJ hY ((hW.cell (p:=⟨bc,0,none⟩) hb).trans hcc) (hLay.next hk.out hn.out hW) hJ0)
set_option maxHeartbeats 4000000 in
theorem hide_own (key nonce b:List Int) (c lb cb:Nat) (AB:Option Addr) (w:World) (hT:Tabs w) (hk:Hid (key.length=32)) (hn:Hid (nonce.length=12)) (hkb:HByt key) (hnb:HByt nonce) (hb:HByt b) (hl:Hid (b.length=lb)) (h5:lb≤500)
 (hc:c<4294967296) (hbn:lb≤64*(4294967296 - c)) (hA:Nums w .u8 AB b) :
 Calls Tryz.prog 28 #[.agg (ints .u8 key).toArray,.agg (ints .u8 nonce).toArray,.int .u32 (c:Int),.slice AB lb cb] w fun e w'=>∃A d,e=.returned (.tuple #[.slice A lb d,.int .i64 0])∧Owns w' w.heap.size 5 .u8 (.slice A lb d) (hideL b (strm key nonce c (4294967296 - c)))∧Below w.heap.size w w'∧lb≤d:=by
 obtain ⟨L,hL⟩:∃L,4294967296 - c=L:=⟨_,rfl⟩
 have hLi:(4294967296:Int) - (c:Int)=(L:Int):=by omega
 have hL0:(0:Int)≤L:=by omega
 have hL1:(L:Int)≤4294967296:=by omega
 have hc0:(0:Int)≤c:=by omega
 have hc1:(c:Int)<4294967296:=by omega
 have hlb0:(0:Int)≤lb:=by omega
 have hlb5:(lb:Int)≤500:=by omega
 have hlbL:(lb:Int)≤(L:Int)*64:=by omega
 rw [hL] at hbn ⊢
 have HL:=hid hL
 clear hL
 obtain ⟨mn,hmn⟩:∃m,(if (L:Int)*64<1048576 then (L:Int)*64 else 1048576)=m:=⟨_,rfl⟩
 have hmnl:(lb:Int)≤mn:=by rw [←hmn];split <;> omega
 have hmin0:∀(ts:Array TypeId) (t:TypeId) (W:World),(Builtin.min_ ts t #[.int .i64 1048576,.int .i64 ((L:Int)*64)]).run Tryz.prog W=.ok (.int .i64 mn) W:=fun ts t W=>by rw [run_min_int2,hmn]
 clear hmin0
 refine (callsIn_wide (n:=5)).1 (callsIn_of_wp_marks Tryz.func28 rfl trivial ?_)
 simp only [Tryz.ntmps28,List.size_toArray,List.length_cons,List.length_nil,Nat.reduceAdd,Nat.reduceSub,Array.replicate_succ,Array.replicate_zero,List.push_toArray,List.append_toArray,List.nil_append,List.cons_append]
 refine wpIn_wide.2 ?_
 obtain ⟨i0,hi0,hz0,hz1,hz2⟩:=info_parts Tryz.info5
 go_upto_region 2 with (fail)
 obtain ⟨W3,hW3,hK,hN,c70,hB3,hz3⟩:=hide_world key nonce AB lb cb w
 rw [←hW3]
 have HZ:=hid hz3
 clear hW3 hz3
 have c7:∀ww,Cl W3 ww→ww.cell? ⟨w.heap.size+1+1,0,none⟩=some (.slice AB lb cb):=fun ww h=>(h.cell (p:=⟨w.heap.size+1+1,0,none⟩) (by rw [HZ.out];simp)).trans c70
 refine rSeq 5 46 (fun _=>false) [Is (.slice AB lb cb),Is (.int .i64 (lb:Int)),Is (.int .i64 ((L:Int)*64)),Is (.int .i64 mn),Is (.bool false)] [17,18,19,20,21] (gC (gC (gC (gC (gC grows_nil)))))
  ⟨sxa rfl (.inl rfl) rfl (kO (v:=(.pointer (some ⟨w.heap.size+1+1,0,none⟩))) 7 rfl) (fun ev ww hw j0=>by have hcc:=c7 ww hw;unfold execOp;simp only [j0];go_simp),
   sxa rfl (.inl rfl) rfl (kI (v:=(.slice AB lb cb)) 0 17 rfl rfl) (fun ev ww hw j0=>by unfold execOp;simp only [j0];go_simp),
   step_mvP rfl (.inl rfl) rfl rfl (kO 10 rfl),
   (step_min rfl (.inl rfl) rfl rfl hmn (knows_const _) (knows_in (v:=(.int .i64 ((L:Int)*64))) 2 19 (by decide) (by kernel_rfl) rfl rfl)),
   sxb rfl (.inl rfl) rfl (kI (v:=(.int .i64 (lb:Int))) 1 18 rfl rfl) (kI (v:=(.int .i64 mn)) 3 20 rfl rfl) (fun ev ww hw j0 j1=>by unfold execOp;simp only [j0,j1];go_simp),trivial⟩ ?_
 intro val w9 hw hS hap hla
 simp only [pA,pB,pC,pD,pE,Act.put,pG,pH,pI,eVal hS 0 17 rfl rfl,eVal hS 1 18 rfl rfl,eVal hS 2 19 rfl rfl,eVal hS 3 20 rfl rfl,eVal hS 4 21 rfl rfl]
 clear hS hap hla
 have hK9:=hK.cl (by rw [HZ.out];omega) hw
 have hN9:=hN.cl (by rw [HZ.out];omega) hw
 have c79:=c7 w9 hw
 have hB9:Below w.heap.size w w9:=hB3.trans (hw.mono (by rw [HZ.out];omega))
 have hz9:w.heap.size+3≤w9.heap.size:=by have:=hw.size;rw [HZ.out] at this;exact this
 clear hK hN c70 c7 hB3 hw hmn hmnl HZ
 obtain ⟨bk,hbk⟩:∃b,w.heap.size=b:=⟨_,rfl⟩
 obtain ⟨bn,hbn2⟩:∃b,w.heap.size+1=b:=⟨_,rfl⟩
 obtain ⟨b7,hb7⟩:∃b,w.heap.size+1+1=b:=⟨_,rfl⟩
 have HBK:=hid hbk
 rw [hb7] at c79 ⊢
 rw [hbn2] at hN9 ⊢
 have hlk:bk<w9.heap.size:=by omega
 have hln:bn<w9.heap.size:=by omega
 have hl7:b7<w9.heap.size:=by omega
 have hkn:bk<bn:=by omega
 have hn7:bn<b7:=by omega
 clear hz9 hb7 hbn2
 rw [hbk] at hK9 hB9 ⊢
 have i22:(Tryz.prog.info? 22).map (·.size)=some (ints .u8 key).length:=by rw [ints_length,hk.out];exact info22
 have i23:(Tryz.prog.info? 40).map (·.size)=some (ints .u8 nonce).length:=by rw [ints_length,hn.out];exact info23
 have hbw:Below bk w w:=Below.refl _ _
 clear hbk
 rename_i Q0 K1 a1 K0 a0
 refine wpList_nil (a0 _ _ ((wpIn_wide (n:=5)).1 ?_))
 clear a0
 gi_wp2
 refine (wpIn_wide (n:=5)).1 ?_
 gi_wp2_with (first
  | (gi_at_make;refine wpListIn_make_own _ rfl _ _ 23 rfl w9.heap.size 5 i0 _ 1 Tryz.underlying23 hi0 hz0 hz1 .i64 .i64 _ lb rfl rfl rfl (by rw [hz2];omega) (by unfold maxLen;omega) (Nat.le_refl _) ?_;intro wm hown hgrow
     have hbm:Below w9.heap.size w9 wm:=(Below.refl _ _).grown hgrow (Nat.le_refl _) (by simp)
     obtain ⟨W4,hW4,hX4,hO4,hB4,hz4⟩:=box_world hbm hown
     have hgl:w9.heap.size<wm.heap.size:=(World.ownsRow.lt hown w9.heap.size rfl).2
     have HW4:=hid hW4
     have HZ4:=hid hz4
     have r4:(wm.alloc (.cells #[.slice (some ⟨w9.heap.size,0,none⟩) 0 lb] 23)).rangeAt bk 0 (ints .u8 key):=by rw [←hW4];exact (hK9.below hB4 hlk).range
     have r5:(wm.alloc (.cells #[.slice (some ⟨w9.heap.size,0,none⟩) 0 lb] 23)).rangeAt bn 0 (ints .u8 nonce):=by rw [←hW4];exact (hN9.below hB4 hln).range
     clear hown hgrow hbm hW4 hz4)
  | (with_reducible refine wpListIn_load (op:=⟨some 25,.load 22 (.tmp 4),_,_,_,_⟩) rfl 22 (.tmp 4) rfl bk 0 rfl (ints .u8 key) _ r4 Tryz.underlying22 rfl i22 ?_)
  | (with_reducible refine wpListIn_load (op:=⟨some 26,.load 40 (.tmp 5),_,_,_,_⟩) rfl 40 (.tmp 5) rfl bn 0 rfl (ints .u8 nonce) _ r5 Tryz.underlying40 rfl i23 ?_)
  | (refine ⟨trivial,?_⟩;gi_at_call 58;rw [←HW4.out];clear r4 r5;refine (callsIn_wide.2 (stream_any key nonce (c:Int) _)).mono ?_;rintro e w' ⟨rfl,rfl⟩))
 obtain ⟨W5,hW5,hK5,hN5,hc5,hB5,hz5⟩:=range_world key nonce (c:Int) W4
 rw [←hW5]
 clear hW5 HW4
 have hz4:=HZ4.out
 obtain ⟨x5,hx5⟩:∃x,W4.heap.size=x:=⟨_,rfl⟩
 obtain ⟨bh,hbh⟩:∃x,wm.heap.size=x:=⟨_,rfl⟩
 obtain ⟨nb,hnb2⟩:∃x,w9.heap.size=x:=⟨_,rfl⟩
 rw [hx5] at hK5 hN5 hc5 hB5 hz5 hz4 ⊢
 rw [hbh] at hX4 hgl hz4 ⊢
 rw [hnb2] at hO4 hB4 hX4 hgl hlk hln hl7 ⊢
 have hbx:bh<x5:=by omega
 have hbkn:bk<nb:=hlk
 have hkb7:bk<b7:=by omega
 have hb7n:b7<nb:=hl7
 have hz5l:x5+3≤W5.heap.size:=by omega
 have hz5u:W5.heap.size≤x5+3:=by omega
 clear hz4 hz5 hbh hnb2
 have hT5:Tabs W5:=(hT.next (by rw [HBK.out];exact hB9.trans ((hB4.mono (by omega)).trans (hB5.mono (by omega)))))
 have hB5w:Below bk w W5:=hB9.trans ((hB4.mono (by omega)).trans (hB5.mono (by omega)))
 have hX5:Boxed W5 bh 23 (.slice (some ⟨nb,0,none⟩) 0 lb):=(hB5.block bh (by omega)).trans hX4
 have hO5:Owns W5 nb 5 .u8 (.slice (some ⟨nb,0,none⟩) 0 lb) []:=hO4.stay (by rw [hx5];exact hB5)
 clear hx5
 have c75:W5.cell? ⟨b7,0,none⟩=some (.slice AB lb cb):=(hB5.cell (p:=⟨b7,0,none⟩) (show b7<x5 by omega)).trans ((hB4.cell (p:=⟨b7,0,none⟩) hl7).trans c79)
 have h0:1<bk:=by rw [←HBK.out];exact hT.1
 have hbw0:bk≤w.heap.size:=Nat.le_of_eq HBK.out.symm
 have hbl:bk≤W5.heap.size:=by omega
 have hLay:Lay bk x5 (x5+3) x5 (x5+1) key nonce W5:=⟨hT5,hK5,hN5⟩
 have hst:=stream_stops 4 (by omega) bk x5 (x5+3) x5 (x5+1) (x5+1+1) c key nonce W5 hk hn hkb hnb hc h0 ⟨by omega,by omega⟩ ⟨by omega,by omega⟩ (by omega) hc5 hLay
 have hAW:∀W,Below bk w W→Nums W .u8 AB b:=fun W h=>hA.below (by rw [HBK.out];exact h)
 rw [HL.out] at hst
 clear hK5 hN5 hc5 hB5 hLay hT5 hO4 hB4 hX4 c79 hK9 hN9 hB9
 refine wpIn_rangeFunc_ownG (F:=Fence.wide) rfl (by omega) (gf:=85) (lb:=#[.pointer (some ⟨x5+1+1,0,none⟩),.pointer (some ⟨x5,0,none⟩),.pointer (some ⟨x5+1,0,none⟩)]) rfl trivial (enters_of Tryz.func85 (by kernel_rfl) rfl)
  hst (fun h k=>KpS.t h k) (KpS.b (by omega) (by omega)) (Below.refl _ _) (fun _=>rfl)
  (fun pre W=>HideI bh b7 nb x5 bk b (.slice AB lb cb) w pre W∧pre.length≤lb)
  (fun cd pre W=>HideI bh b7 nb x5 bk b (.slice AB lb cb) w pre W∧(cd=.exit 0∧lb≤pre.length))
  (OwnFrom.and (HideI.own bh b7 nb x5 bk b _ w hbw0 _ hbl) (fun s A B row h _ _=>h)) (fun cd=>OwnFrom.and (HideI.own bh b7 nb x5 bk b _ w hbw0 _ hbl) (fun s A B row h _ _=>h))
  ⟨⟨⟨_,hX5,by have e:hideL b (bvals [])=[]:=(by simp [hideL,bvals]);rw [e];exact hO5,fun g e=>by have h2:nb=g:=(by simpa [Value.ownBlock] using e);exact .inl (by omega)⟩,hB5w,c75,by omega⟩,Nat.zero_le _⟩
  (fun x=>{ tmps:=((.agg (ints .u8 key).toArray)::(.agg (ints .u8 nonce).toArray)::(.int .u32 (c:Int))::(.slice AB lb cb)::(.pointer (some ⟨bk,0,none⟩))::(.pointer (some ⟨bn,0,none⟩))::(undef)::(.pointer (some ⟨b7,0,none⟩))::(.slice none 0 0)::(.int .i64 0)::(.int .i64 ((L:Int)*64))::(.pointer (some ⟨bh,0,none⟩))::(.int .u8 x.1)::(.int .u32 (c:Int))::(.int .i64 (c:Int))::(.int .i64 (L:Int))::(.int .i64 ((L:Int)*64))::(.slice AB lb cb)::(.int .i64 (lb:Int))::(.int .i64 ((L:Int)*64))::(.int .i64 mn)::(.bool false)::(.slice AB lb cb)::(.int .i64 (lb:Int))::(.slice (some ⟨nb,0,none⟩) 0 lb)::(.agg (ints .u8 key).toArray)::(.agg (ints .u8 nonce).toArray)::(.int .u32 (c:Int))::(.func (.func 85) #[] #[.pointer (some ⟨x5+1+1,0,none⟩),.pointer (some ⟨x5,0,none⟩),.pointer (some ⟨x5+1,0,none⟩)])::(.int .u8 x.1)::(undef)::(undef)::(undef)::(undef)::(undef)::(undef)::(undef)::(undef)::(undef)::(undef)::(undef)::(undef)::(undef)::(undef)::(undef)::(undef)::[]).toArray,defers:=[] }) ?assign ?body ?done ?stop
 case assign =>
  intro l x W K hK
  gi_wp2
  exact hK
 case body =>
  rintro l pre ⟨xv,hxv⟩ W ⟨⟨⟨v,hv,hrow,hgx⟩,hBW,c7,hxs⟩,hlen⟩ hN
  have hO:Owns W nb 5 .u8 v (hideL b (bvals pre)):=hrow
  obtain ⟨AR,mr,cr,rfl,hm⟩:=slice_of_row hO
  rw [hideL_len (by rw [bvals_len,hl.out];exact hlen),bvals_len] at hm
  have HM:=hid hm
  have hpl:pre.length=mr:=hm.symm
  rw [hpl] at hlen
  clear hm
  have HPL:=hid hpl
  clear hpl
  by_cases hlt:mr<lb
  ·obtain ⟨gb,ob,rfl⟩:∃gb ob,AB=some ⟨gb,ob,none⟩:=by
    obtain ⟨g,o,e,_⟩:=(hAW W hBW) (by rw [hl.out];omega)
    exact ⟨g,o,e⟩
   obtain ⟨y,hy⟩:∃y,b[mr]? = some y:=⟨b[mr]'(by rw [hl.out];exact hlt),by simp [hl.out,hlt]⟩
   obtain ⟨z,hz⟩:∃z,bits .xor .u8 y xv=z:=⟨_,rfl⟩
   have hyb:=hb.at_ hy
   have hBWz:bk≤W.heap.size:=Nat.le_trans hbw0 hBW.size
   have HSN:Hid (hideL b (bvals (pre++[⟨xv,hxv⟩]))=hideL b (bvals pre)++[z]):=hid (by rw [bvals_app,hideL_snoc (x:=y) (by rw [bvals_len,HPL.out];exact hy),←hz])
   have c0:∀ww,Cl W ww→ww.cell? ⟨bh,0,none⟩=some (.slice AR mr cr):=fun ww h=>(h.cell (p:=⟨bh,0,none⟩) (show bh<_ by omega)).trans hv.cell
   have c1:∀ww,Cl W ww→ww.cell? ⟨b7,0,none⟩=some (.slice (some ⟨gb,ob,none⟩) lb cb):=fun ww h=>(h.cell (p:=⟨b7,0,none⟩) (show b7<_ by omega)).trans c7
   have c2:∀ww,Cl W ww→ww.cell? ⟨gb,ob+mr,none⟩=some (.int .u8 y):=fun ww h=>(hAW ww (hBW.trans (h.mono hBWz))).spotC hy
   have hm0:(0:Int)≤mr:=by omega
   have hm1:(mr:Int)<lb:=by omega
   have hne1:(mr:Int)≠lb:=by omega
   have hne2:mr≠lb:=by omega
   have htn:(mr:Int).toNat=mr:=by omega
   have HLT:Hid ((hideL b (bvals pre)).length≤600):=hid (by rw [hideL_len (by rw [bvals_len,hl.out,HPL.out];exact hlen),bvals_len,HPL.out];omega)
   have hWz:nb≤W.heap.size:=by omega
   have hbhW:bh<W.heap.size:=by omega
   have cbx:=hv.cell
   clear hy
   dsimp only
   iterate 23 gi_step
   have e0:((mr:Int)==(lb:Int))=false:=beq_false_of_ne hne1
   rw [e0]
   gi_wp2
   clear cbx e0
   refine region_round 9 46 (fun i=>i==8) [Is (.slice AR mr cr),Is (.slice (some ⟨gb,ob,none⟩) lb cb),Is (.slice AR mr cr),Is (.int .i64 (mr:Int)),Is (.pointer (some ⟨gb,ob+mr,none⟩)),Is (.int .u8 y),Is (.int .u8 xv),Is (.int .u8 z),IsRowV W.heap.size 1 [.int .u8 z]] [35,36,37,38,39,40,41,42,43] (by kernel_rfl) (by kernel_rfl) (by kernel_rfl) (Nat.le_of_eq rfl) rfl (fun h=>by obtain ⟨_,_,h⟩:=h;exact h) (gC (gC (gC (gC (gC (gC (gC (gC (grows_cons (IsRowV.grows _ _ _) grows_nil)))))))))
    ⟨sxa rfl (.inl rfl) rfl (kO (v:=(.pointer (some ⟨bh,0,none⟩))) 11 rfl) (fun ev ww hw j0=>by have hcc:=c0 ww hw;unfold execOp;simp only [j0];go_simp),
     sxa rfl (.inl rfl) rfl (kO (v:=(.pointer (some ⟨b7,0,none⟩))) 7 rfl) (fun ev ww hw j0=>by have hcc:=c1 ww hw;unfold execOp;simp only [j0];go_simp),
     sxa rfl (.inl rfl) rfl (kO (v:=(.pointer (some ⟨bh,0,none⟩))) 11 rfl) (fun ev ww hw j0=>by have hcc:=c0 ww hw;unfold execOp;simp only [j0];go_simp),
     sxa rfl (.inl rfl) rfl (kI (v:=(.slice AR mr cr)) 2 37 rfl rfl) (fun ev ww hw j0=>by unfold execOp;simp only [j0];go_simp),
     sxb rfl (.inl rfl) rfl (kI (v:=(.slice (some ⟨gb,ob,none⟩) lb cb)) 1 36 rfl rfl) (kI (v:=(.int .i64 (mr:Int))) 3 38 rfl rfl) (fun ev ww hw j0 j1=>by unfold execOp;simp only [j0,j1];go_simp),
     sxa rfl (.inl rfl) rfl (kI (v:=(.pointer (some ⟨gb,ob+mr,none⟩))) 4 39 rfl rfl) (fun ev ww hw j0=>by have hcc:=c2 ww hw;unfold execOp;simp only [j0];go_simp),
     step_mvP rfl (.inl rfl) rfl rfl (kO 12 rfl),
     sxb rfl (.inl rfl) rfl (kI (v:=(.int .u8 y)) 5 40 rfl rfl) (kI (v:=(.int .u8 xv)) 6 41 rfl rfl) (fun ev ww hw j0 j1=>by unfold execOp;simp only [j0,j1];go_simp),
     (step_bsl (.inl rfl) rfl Tryz.underlying23 inf5 (by decide) (by decide) (by kernel_rfl) rfl (parts1 (knows_in (v:=(.int .u8 z)) 7 42 (by decide) (by kernel_rfl) rfl rfl))),trivial⟩ ?_
   intro val w9 hw hS hap hla
   have e35:=eVal hS 0 35 rfl rfl
   have e36:=eVal hS 1 36 rfl rfl
   have e37:=eVal hS 2 37 rfl rfl
   have e38:=eVal hS 3 38 rfl rfl
   have e39:=eVal hS 4 39 rfl rfl
   have e40:=eVal hS 5 40 rfl rfl
   have e41:=eVal hS 6 41 rfl rfl
   have e42:=eVal hS 7 42 rfl rfl
   simp only [pA,pB,pC,pD,pE,Act.put,pG,pH,pI,e35,e36,e37,e38,e39,e40,e41,e42]
   obtain ⟨g1,hg1,hg1b,hR1⟩:IsRowV W.heap.size 1 [.int .u8 z] (val 43) w9:=hS 8 43 (by decide) rfl
   rw [hg1]
   clear hS hap hla e35 e36 e37 e38 e39 e40 e41 e42
   have hOw:=hO.stay hw
   have hXw:Boxed w9 bh 23 (.slice AR mr cr):=(hw.block bh hbhW).trans hv
   have h63:((hideL b (bvals pre)).length+[z].length)*1≤140737488355328:=by have:=HLT.out;simp only [List.length_cons,List.length_nil];omega
   have hX:=one_row hR1
   have hWw:=hw.size
   refine app_nums rfl (.tmp 35) (.tmp 43) 23 rfl nb 5 .u8 1 Tryz.underlying23 Tryz.info5 (by omega) AR mr cr (hideL b (bvals pre)) rfl hOw (some ⟨g1,0,none⟩) 1 [z] rfl hX h63 (by omega) ?_
   intro A' n' c' w3 hO3 hG
   rw [←HSN.out] at hO3
   have hX3:Boxed w3 bh 23 (.slice AR mr cr):=hide_box hv hO hw hG
   have hfin:=hide_step (bh:=bh) (b7:=b7) (nb:=nb) (x5:=x5) (bk:=bk) (b:=b) (B:=W5.heap.size) hbkn hkb7 hb7n hgl hbx hv hO hgx hBW hBWz c7 hxs hw hO3 hG
   have c00:=hX3.cell
   have c01:=hX3.frozen
   refine wpList_plain rfl fun K hK=>?_
   go_simp
   refine hK _ _ ?_
   refine wpList_nil ?_
   exact ⟨hfin.1,hfin.2.1,hfin.2.2,by simp only [List.length_append,List.length_cons,List.length_nil];have:=HPL.out;omega⟩
  ·have heq:mr=lb:=by omega
   have cbx:=hv.cell
   have HI:HideI bh b7 nb x5 bk b (.slice AB lb cb) w (pre++[⟨xv,hxv⟩]) W:=⟨⟨_,hv,by rw [bvals_app,hideL_over _ (by rw [bvals_len,hl.out,HPL.out];omega)];exact hrow,hgx⟩,hBW,c7,hxs⟩
   have hlx:lb≤(pre++[(⟨xv,hxv⟩:B8)]).length:=by simp only [List.length_append,List.length_cons,List.length_nil];have:=HPL.out;omega
   have e0:((mr:Int)==(lb:Int))=true:=by rw [heq];exact beq_self_eq_true _
   clear heq hlt
   dsimp only
   iterate 23 gi_step
   gi_wp2
   exact ⟨KeepsFrom.refl _ _,HI,rfl,hlx⟩
 case done =>
  rintro D xs W hD hS ⟨⟨⟨v,hv,hrow,_⟩,hBW,_⟩,hlen⟩ hK
  have cbx:=hv.cell
  have hO:Owns W nb 5 .u8 v (hideL b (bvals xs)):=hrow
  rw [hS] at hO
  have hfin:=hide_end (b:=b) (s:=strm key nonce c L) (w:=w) (B:=W5.heap.size) (by rw [hl.out,strm_length hk.out hn.out];exact hbn) hl.out hO (by rw [HBK.out];omega) (by rw [HBK.out];exact hBW) (by rw [HBK.out];exact hbl) hD hK
  obtain ⟨A,m,d,rfl,rfl,hNF,hBF,hmd⟩:=hfin
  gi_wp2
  refine ⟨by simp,.inl ⟨_,_,rfl,run_takeDeferred hK,?_⟩⟩
  exact ⟨_,results_tmp2 rfl _ _ _,A,d,rfl,hNF,hBF,hmd⟩
 case stop =>
  rintro D cd pre W hD hS ⟨⟨⟨v,hv,hrow,_⟩,hBW,_⟩,rfl,hlen⟩ hK
  have cbx:=hv.cell
  have hO:Owns W nb 5 .u8 v (hideL b (bvals pre)):=hrow
  rw [←hideL_more hS (by rw [bvals_len,hl.out];exact hlen)] at hO
  have hfin:=hide_end (b:=b) (s:=strm key nonce c L) (w:=w) (B:=W5.heap.size) (by rw [hl.out,strm_length hk.out hn.out];exact hbn) hl.out hO (by rw [HBK.out];omega) (by rw [HBK.out];exact hBW) (by rw [HBK.out];exact hbl) hD hK
  obtain ⟨A,m,d,rfl,rfl,hNF,hBF,hmd⟩:=hfin
  gi_wp2
  refine ⟨by simp,.inl ⟨_,_,rfl,run_takeDeferred hK,?_⟩⟩
  exact ⟨_,results_tmp2 rfl _ _ _,A,d,rfl,hNF,hBF,hmd⟩
end
section
set_option maxHeartbeats 4000000
set_option maxRecDepth 50000
open Go Go.RowKit Go.Lib
theorem growB_any (n:Nat) (w:World) (h1:1≤n) (h2:n≤1000) :
 Calls Tryz.prog 30 #[.slice none 0 0,.int .i64 n] w fun e w'=>∃A c,e=.returned (.slice A 0 c)∧Owns w' w.heap.size 5 .u8 (.slice A 0 c) []∧Below w.heap.size w w':=by
 obtain ⟨i,hi,hz,hsize,hby⟩:=info_partsV Tryz.info5
 have hold:(Builtin.firstCells i.size 0 (.slice none 0 0)).run Tryz.prog w.drew=.ok ([]:List Value).toArray w.drew:=by
  rw [hsize]
  exact run_firstCells_none w.drew 1 0 0 0
 have hrz:∀ty,(Builtin.append_ #[23,3] ty #[.slice none 0 0,.int .i64 n]).run Tryz.prog w=_:=fun ty =>
  run_append_grow_zeros w 23 3 ty 5 i (.int .u8 0) .i64 .i64 (by kernel_rfl) (by kernel_rfl) hi hz none 0 0 [] hold n (by omega) (by omega) (by omega) (by omega) (by rw [hby];omega)
   (growslice_fits (by omega) (by rw [hby];omega))
 have hGn:0+n≤grownCap w (0+n) 0 5:=grownCap_ge w _ _ _
 have hGm:grownCap w (0+n) 0 5≤maxLen:=grownCap_le_maxLen w (0+n) 0 5 (by unfold maxLen;omega)
 rw [Nat.zero_add] at hrz hGn hGm
 obtain ⟨G,hG⟩:∃G,G=grownCap w n 0 5:=⟨_,rfl⟩
 rw [←hG] at hrz hGn hGm
 obtain ⟨cs,hcs⟩:∃cs,cs=([]:List Value).toArray++Builtin.zeroCells (Value.int .u8 0).cells n++Builtin.zeroCells (Value.int .u8 0).cells (G - n):=⟨_,rfl⟩
 rw [←hcs] at hrz
 have hcl:cs.size=G:=by
  rw [hcs]
  simp [Builtin.zeroCells,Value.cells]
  omega
 have hP:Owns (w.drew.alloc (.cells cs 5)) w.heap.size 5 .u8 (.slice (some ⟨w.drew.heap.size,0,none⟩) 0 G) [] :=
  ⟨rfl,.inr ⟨w.drew.heap.size,G,cs,rfl,Nat.le_refl _,heap_alloc_new w.drew _,Nat.zero_le _,hGm,by rw [hcl];simp,by simp⟩⟩
 have hW:Below w.heap.size w (w.drew.alloc (.cells cs 5)):=((Below.refl _ w).drew).alloc (Nat.le_refl _) _
 have hn1:(1:Int)≤n:=by omega
 have hn2:(n:Int)≤1000:=by omega
 have hG1:(G:Int)≤9223372036854775807:=by unfold maxLen at hGm;omega
 clear hold hG hcs hcl hi hz hsize hby hGm
 go_enter Tryz.func30,Tryz.ntmps30
 go_wp2_with (at_builtin;refine Lib.wpList_append_run _ rfl (.tmp 20) (.tmp 21) 23 3 rfl (.slice none 0 0) (.int .i64 n) rfl rfl _ _ (hrz _) ?_)
 go_ret
 exact ⟨_,_,rfl,hP,hW⟩
def CatB (m1 m2:Nat) (v i:Value):Prop:=(i=.int .i64 0∧v=.int .i64 0)∨(i=.int .i64 1∧v=.int .i64 m1)∨(i=.int .i64 2∧v=.int .i64 (m1+m2))
def CatBW (w0:World) (B:Nat) (l1 l2:List Int) (v i:Value) (w:World):Prop:=∃A m c,v=.slice A m c∧((i=.int .i64 0∧Owns w B 5 .u8 (.slice A m c) [])∨(i=.int .i64 1∧Owns w B 5 .u8 (.slice A m c) l1)∨(i=.int .i64 2∧Owns w B 5 .u8 (.slice A m c) (l1++l2)))∧Below B w0 w
theorem catB_core (g m1 m2 c1 c2 off pc:Nat) (A1 A2:Option Addr) (l1 l2:List Int) (w:World) (hg:g<w.heap.size) (k0':w.cell? ⟨g,off,none⟩=some (.slice A1 m1 c1)) (k1':w.cell? ⟨g,off+1,none⟩=some (.slice A2 m2 c2)) (hN1:Nums w .u8 A1 l1) (hN2:Nums w .u8 A2 l2) (H1:Hid (l1.length=m1)) (H2:Hid (l2.length=m2)) (h1:1≤m1) (hm1:m1≤400) (hm2:m2≤600) :
 Calls Tryz.prog 16 #[.slice (some ⟨g,off,none⟩) 2 pc] w fun e w'=>∃A c,e=.returned (.slice A (m1+m2) c)∧Owns w' w.heap.size 5 .u8 (.slice A (m1+m2) c) (l1++l2)∧Below w.heap.size w w':=by
 have n0:(0:Int)≤m1:=by omega
 have n1:(m1:Int)≤400:=by omega
 have n2:(0:Int)≤m2:=by omega
 have n3:(m2:Int)≤600:=by omega
 have hneg1:¬((m1:Int)<0):=by omega
 have hneg:¬((m1:Int)+(m2:Int)<0):=by omega
 go_enter Tryz.func16,Tryz.ntmps16
 go_wp2
 go_loopw [3,11] (fun v i wr=>CatB m1 m2 v i∧wr=w) (fun _ i _=>2 - (intOf i).toNat)
 case atStart=>exact ⟨.inl ⟨rfl,rfl⟩,rfl⟩
 case round =>
  obtain ⟨hC,rfl⟩:=hrel
  rcases hC with ⟨rfl,rfl⟩|⟨rfl,rfl⟩|⟨rfl,rfl⟩
  ·go_wp2
   go_roundw
   case rel=>exact ⟨.inr (.inl ⟨rfl,by go_num⟩),trivial⟩
   case measure=>simp [intOf]
  ·go_wp2
   go_roundw
   case rel=>exact ⟨.inr (.inr ⟨rfl,by go_num⟩),trivial⟩
   case measure=>simp [intOf]
  ·go_wp2_with (go_at_call 30;refine (growB_any (m1+m2) _ (by omega) (by omega)).mono ?_;rintro e w1 ⟨A0,c0,rfl,hO0,hb1⟩)
   go_loopw [6,27] (fun v i w2=>CatBW w1 wr.heap.size l1 l2 v i w2) (fun _ i _=>2 - (intOf i).toNat)
   case atStart=>exact ⟨A0,0,c0,rfl,.inl ⟨rfl,hO0⟩,Below.refl _ _⟩
   case round =>
    obtain ⟨A,m,c,rfl,hC,hb⟩:=hrel
    rename World=>w2
    have hbb:Below wr.heap.size wr w2:=hb1.trans hb
    have k0:=(hbb.cell (p:=⟨g,off,none⟩) hg).trans k0'
    have k1:=(hbb.cell (p:=⟨g,off+1,none⟩) hg).trans k1'
    have hQ1:=hN1.below hbb
    have hQ2:=hN2.below hbb
    clear k0' k1' hN1 hN2
    rcases hC with ⟨rfl,hO⟩|⟨rfl,hO⟩|⟨rfl,hO⟩
    ·go_wp2_with (at_builtin;refine app_nums rfl (.tmp 31) (.tmp 32) 23 rfl wr.heap.size 5 .u8 1 Tryz.underlying23 Tryz.info5 (by omega) A m c [] rfl hO A1 c1 l1 (by rw [H1.out];rfl) hQ1 (by rw [H1.out];simp;omega) hbb.size ?_;intro A' n' c' w3 hO3 hG)
     go_roundw
     case rel=>exact ⟨A',n',c',rfl,.inr (.inl ⟨rfl,hO3⟩),hb.trans (hG.below hbb.size fun g e=>(hO.lt g e).1)⟩
     case measure=>simp [intOf]
    ·go_wp2_with (at_builtin;refine app_nums rfl (.tmp 31) (.tmp 32) 23 rfl wr.heap.size 5 .u8 1 Tryz.underlying23 Tryz.info5 (by omega) A m c l1 rfl hO A2 c2 l2 (by rw [H2.out];rfl) hQ2 (by rw [H1.out,H2.out];omega) hbb.size ?_;intro A' n' c' w3 hO3 hG)
     go_roundw
     case rel=>exact ⟨A',n',c',rfl,.inr (.inr ⟨rfl,hO3⟩),hb.trans (hG.below hbb.size fun g e=>(hO.lt g e).1)⟩
     case measure=>simp [intOf]
    ·have hm:=hO.len
     rw [List.length_append,H1.out,H2.out] at hm
     subst hm
     go_wp2
     go_ret
     exact ⟨A,c,rfl,hO,hbb⟩
theorem catB_any (PA:Option Addr) (pc m1 m2:Nat) (q1 q2:Part) (w:World) (hP:Parts w PA [q1,q2]) (hN1:Nums w .u8 q1.1 q1.2.2) (hN2:Nums w .u8 q2.1 q2.2.2) (H1:Hid (q1.2.2.length=m1)) (H2:Hid (q2.2.2.length=m2)) (h1:1≤m1) (hm1:m1≤400) (hm2:m2≤600) :
 Calls Tryz.prog 16 #[.slice PA 2 pc] w fun e w'=>∃A c,e=.returned (.slice A (m1+m2) c)∧m1+m2≤c∧Nums w' .u8 A (q1.2.2++q2.2.2)∧Below w.heap.size w w':=by
 obtain ⟨g,off,rfl,hg,hc⟩:=hP (by simp)
 have k0:=hc 0 q1 rfl
 have k1:=hc 1 q2 rfl
 rw [H1.out,Nat.add_zero] at k0
 rw [H2.out] at k1
 refine (catB_core g m1 m2 q1.2.1 q2.2.1 off pc q1.1 q2.1 q1.2.2 q2.2.2 w hg k0 k1 hN1 hN2 H1 H2 h1 hm1 hm2).mono ?_
 rintro e w' ⟨A,c,he,hO,hb⟩
 obtain ⟨A3,m3,d3,e3,hm3,hmd3⟩:=slice_of_row2 hO
 injection e3 with e4 e5 e6
 subst e4 e5 e6
 exact ⟨A,c,he,hmd3,hO.nums,hb⟩
end
end Go.Proofs.YtkblmdakejmmhaaGreatDoor
