import Derived.Test.YtkblmdakejmmhaaGreatDoorG21
namespace Go.Proofs.YtkblmdakejmmhaaGreatDoor
open Go Go.RowKit
section
set_option maxRecDepth 50000
set_option maxHeartbeats 4000000 in
theorem key_core (src r1 r2:List Int) (A PA:Option Addr) (l c n pc z:Nat) (s:ByteArray) (cs:List Part) (w:World) (hT:TabsH w) (HK:Hid (src.length=l)) (h0:0<l) (h1:l≤1000) (hlc:l≤c) (hkb:HByt src) (hA:Nums w .u8 A src) (hz:Hid (s.size=z)) (hz6:z≤64)
 (hP:Parts w PA cs) (hn:Hid (cs.length=n)) (hn6:n≤16) (hok:∀q ∈ cs,PartOk w q) (HR:Hid (tagV src (textV (strL s) (cs.map (·.2.2)))=r1++r2)) (HRL:Hid ((r1++r2).length=64)) (H1:Hid (r1.length=32)) :
 Calls Tryz.prog 27 #[.slice A l c,.string s,.slice PA n pc] w fun e w'=>e=.returned (.tuple #[.agg (ints .u8 r1).toArray,.int .i64 0])∧Below w.heap.size w w':=by
 obtain ⟨z32,s32⟩:=zero_of_info infS32
 obtain ⟨z64,s64⟩:=zero_of_info infH
 have h6:=Rw.new w (ints .u8 (hzeros 32)) 22
 have hW:=below_new w (.cells (ints .u8 (hzeros 32)).toArray 22)
 have hS:w.heap.size+1≤(w.alloc (.cells (ints .u8 (hzeros 32)).toArray 22)).heap.size:=by simp
 have hl:¬(l:Int)=0:=by omega
 have i1:¬(64:Int)<(z:Int):=by omega
 have i2:¬(16:Int)<(n:Int):=by omega
 have hzs:(s.size:Int)=(z:Int):=by rw [hz.out]
 have hcv:∀w:World,(convert 9 23 (.string s)).run Tryz.prog w=.ok (.slice (some ⟨w.heap.size,0,none⟩) z (grownCap w s.size 0 5)) (Lib.bytesWorld w 5 s):=fun w=>by
  have h:=Lib.run_convert_string_bytes (P:=Tryz.prog) w 9 23 5 s (u:=.string) (by kernel_rfl) (by kernel_rfl) (by kernel_rfl)
  rw [h,hz.out]
 go_enter Tryz.func27,Tryz.ntmps27
 go_wp2_with (first
  | (go_at_call 54;generalize w.alloc (.cells (ints .u8 (hzeros 32)).toArray 22)=w0 at *
     refine (contains_no PA n pc cs _ (hP.below hW) hn (by omega) (fun q hq=>(hok q hq).2.2.1)).mono ?_;rintro e w1 ⟨rfl,hb1⟩
     replace h6:=h6.next hb1
     replace hW:=hW.trans (Below.mono hb1 hW.size)
     replace hS:=Nat.le_trans hS hb1.size
     clear hb1)
  | (go_at_call 56;refine (count_any z 1 _ (by omega) (by omega) (fits1 hz6)).mono ?_;rintro e w2 ⟨B2,d2,rfl,hd2,hN2,hb2⟩))
 have h21:=hb2.trans (Below.mono (str_below w2 s) hb2.size)
 replace h6:=h6.next h21
 replace hW:=hW.trans (Below.mono h21 hW.size)
 replace hS:=Nat.le_trans hS h21.size
 have hP1:PartOk (Lib.bytesWorld w2 5 s) (B2,d2,splitB true 1 [(z:Int)]):=⟨hN2.nums.below (str_below w2 s),by show (splitB true 1 [(z:Int)]).length≤d2;rw [split_len];exact hd2,by show (splitB true 1 [(z:Int)]).length≤1000;rw [split_len];omega,splitB_byt _ _ _⟩
 have hP2:PartOk (Lib.bytesWorld w2 5 s) (some ⟨w2.heap.size,0,none⟩,grownCap w2 s.size 0 5,strL s):=⟨str_nums w2 s,by show (strL s).length≤_;rw [strL_len];exact str_cap w2 s,by show (strL s).length≤1000;rw [strL_len,hz.out];omega,strL_byt s⟩
 clear h21 hN2 hd2 hb2
 generalize grownCap w2 s.size 0 5=cap at *
 generalize Lib.bytesWorld w2 5 s=w3 at *
 have hO:=owns_new2 w3 (w.heap.size+1) (B2,d2,splitB true 1 [(z:Int)]) (some ⟨w2.heap.size,0,none⟩,cap,strL s) 1 z (split_len _ _ _) (by show (strL s).length=z;rw [strL_len,hz.out]) hS
 have hb4:=below_new w3 (.cells #[.slice B2 1 d2,.slice (some ⟨w2.heap.size,0,none⟩) z cap] 23)
 have hKp:PKeep (w3.alloc (.cells #[.slice B2 1 d2,.slice (some ⟨w2.heap.size,0,none⟩) z cap] 23)) (.slice (some ⟨w3.heap.size,0,none⟩) 2 2) [(B2,d2,splitB true 1 [(z:Int)]),(some ⟨w2.heap.size,0,none⟩,cap,strL s)] :=
  PKeep.app (pkeep_old (D:=w3.heap.size) (v:=.slice (some ⟨w3.heap.size,0,none⟩) 2 2) hP1 hb4 (fun g (e:some w3.heap.size=some g)=>Nat.le_of_eq (Option.some.inj e)) (Nat.le_refl _)) (pkeep_old (D:=w3.heap.size) (v:=.slice (some ⟨w3.heap.size,0,none⟩) 2 2) hP2 hb4 (fun g (e:some w3.heap.size=some g)=>Nat.le_of_eq (Option.some.inj e)) (Nat.le_refl _))
 obtain ⟨ps0,hps⟩:∃ps0:List Part,ps0=[(B2,d2,splitB true 1 [(z:Int)]),(some ⟨w2.heap.size,0,none⟩,cap,strL s)]:=⟨_,rfl⟩
 obtain ⟨lbl,hlbl⟩:∃lbl,lbl=strL s:=⟨_,rfl⟩
 obtain ⟨L,hL⟩:∃L,L=cs.map (·.2.2):=⟨_,rfl⟩
 have HF0:Hid (flat ps0=textK lbl L 0):=hid (by rw [hps,flat_two,textK_zero,hlbl,strL_len,hz.out])
 have HPL0:Hid (ps0.length=2+2*0):=hid (by rw [hps];rfl)
 have hO0:OwnsP (w3.alloc (.cells #[.slice B2 1 d2,.slice (some ⟨w2.heap.size,0,none⟩) z cap] 23)) (w.heap.size+1) (.slice (some ⟨w3.heap.size,0,none⟩) 2 2) ps0:=by rw [hps];exact hO
 rw [←hps] at hKp
 have HLL:Hid (L.length=n):=hid (by rw [hL,List.length_map,hn.out])
 have HLK:Hid (∀(k:Nat) q,cs[k]? = some q→L[k]? = some q.2.2):=hid (fun k q h=>by rw [hL,List.getElem?_map,h];rfl)
 have HTL:Hid ((textV lbl L).length≤90000):=hid (by
  have h:=textV_le (lbl:=lbl) (L:=L) (b:=1000) (n:=n) (by rw [hlbl,strL_len,hz.out];exact hz6) HLL.out (fun c hc=>by rw [hL] at hc;obtain ⟨q,hq,rfl⟩:=List.mem_map.1 hc;exact (hok q hq).2.2.1)
  omega)
 rw [←hlbl,←hL] at HR
 replace h6:=h6.next hb4
 replace hW:=hW.trans (Below.mono hb4 hW.size)
 replace hS:=Nat.le_trans hS hb4.size
 clear hO hP1 hP2 hb4 hps hL hlbl hzs hcv
 generalize w3.alloc (.cells #[.slice B2 1 d2,.slice (some ⟨w2.heap.size,0,none⟩) z cap] 23)=w4 at *
 generalize w3.heap.size=g4 at *
 have n1:(n:Int)≤16:=by omega
 go_loopw [8,37] (fun v i wr=>∃(k:Nat) (A8:Option Addr) (m8 d8:Nat) (ps:List Part),k≤n∧v=.slice A8 m8 d8∧i=.int .i64 k∧OwnsP wr (w.heap.size+1) (.slice A8 m8 d8) ps∧Hid (ps.length=2+2*k)∧PKeep wr (.slice A8 m8 d8) ps∧Hid (flat ps=textK lbl L k)∧Below w.heap.size w wr∧w.heap.size+1≤wr.heap.size∧Rw wr w.heap.size 0 (ints .u8 (hzeros 32))) (fun _ i _=>n - (intOf i).toNat)
 case atStart=>exact ⟨0,_,_,_,ps0,Nat.zero_le _,rfl,rfl,hO0,HPL0,hKp,HF0,hW,hS,h6⟩
 case round =>
  clear hO0 HPL0 hKp HF0 hW hS h6
  obtain ⟨k,A8,m8,d8,ps,hk,rfl,rfl,hO,HPL,hKp,HF,hW,hS,h6⟩:=hrel
  by_cases hlt:k<n
  ·obtain ⟨q,hq⟩:∃q,cs[k]? = some q:=⟨cs[k]'(by rw [hn.out];exact hlt),by simp [hn.out,hlt]⟩
   obtain ⟨g,off,rfl,hg,hc⟩:=hP (by rw [hn.out];omega)
   have hck:_=_:=(hW.cell (p:=⟨g,off+k,none⟩) hg).trans (hc k q hq)
   have hqo:=hok q (List.mem_of_getElem? hq)
   have HQ:=hid (textK_succ lbl L (HLK.out k q hq))
   have hql:q.2.2.length≤1000:=hqo.2.2.1
   obtain ⟨ql,hqe⟩:∃ql,q.2.2.length=ql:=⟨_,rfl⟩
   rw [hqe] at hck hql
   have HQL:=hid hqe
   have k0:(0:Int)≤k:=by omega
   have k1:(k:Int)<n:=by omega
   clear hqe hq hc
   go_wp2_with (first
    | (go_at_call 56;refine (count_any ql 4 _ (by omega) (by omega) (fits4 (by omega))).mono ?_;rintro e w5 ⟨B4,d4,rfl,hd4,hN4,hb4⟩
       have hb6:=below_new w5 (.cells #[.slice B4 4 d4,.slice q.1 ql q.2.1] 23)
       have hK5:=((hKp.stay hb4).app ((pkeep_new (d:=d4) hN4 (by rw [split_len];exact hd4) (by rw [split_len];omega) (splitB_byt _ _ _) (fun g e=>(hO.lt g e).2)).app (pkeep_old (D:=w.heap.size+1) hqo (hW.trans (Below.mono hb4 hW.size)) (fun g e=>(hO.lt g e).1) (by omega)))).stay hb6
       have hO5:=(hO.stay hb4).stay hb6
       have hQ5:=parts_new2 w5 (B4,d4,splitB true 4 [(ql:Int)]) q 4 ql (split_len _ _ _) HQL.out
       have hb56:=hb4.trans (Below.mono hb6 hb4.size)
       replace hS:=Nat.le_trans hS hb56.size
       replace hW:=hW.trans (Below.mono hb56 hW.size)
       replace h6:=h6.next hb56
       clear hO hKp hb4 hb6 hb56 hN4 hd4 hck)
    | (at_builtin;refine app_parts rfl (.tmp 41) (.tmp 46) rfl (w.heap.size+1) A8 m8 d8 ps rfl hO5 (some ⟨w5.heap.size,0,none⟩) 2 2 [(B4,d4,splitB true 4 [(ql:Int)]),q] rfl rfl hQ5 (by rw [HPL.out];omega) hS ?_
       intro A9 n9 c9 w7 hO7 hG7
       have hK7:=hK5.grew hG7
       have hb7:Below (w.heap.size+1) _ w7:=hG7.below hS fun g e=>(hO5.lt g e).1
       replace h6:=h6.same (hb7.block w.heap.size (by omega))
       replace hW:=hW.trans (Below.mono hb7 (by omega))
       replace hS:=Nat.le_trans hS hb7.size
       clear hO5 hK5 hQ5 hG7 hb7))
   go_roundw
   case rel=>exact ⟨k+1,A9,n9,c9,_,by omega,rfl,by go_num,hO7,hid (by rw [List.length_append,HPL.out];show 2+2*k+2=_;omega),hK7,hid (by rw [flat_app,flat_two,HF.out,HQ.out];unfold ctxV;rw [HQL.out]),hW,hS,h6⟩
   case measure=>simp [intOf];omega
  ·have e:k=n:=by omega
   subst e
   have hm:=hO.len
   rw [HPL.out] at hm
   subst hm
   have HF2:Hid (flat ps=textV lbl L):=hid (by rw [HF.out,textK_end lbl L _ (by rw [HLL.out];omega)])
   have hT8:TabsH _:=hT.next hW
   have hA8:=hA.below hW
   have hP8:=hO.parts
   have hk8:=hKp.ok
   have harr:∀(W:World) (A:Option Addr),(Instr.arrayAt 22 (.slice A 32 64)).run Tryz.prog W=.ok (.pointer A) W:=fun W A=>run_arrayAt W 22 5 32 A 32 64 (by kernel_rfl) (Nat.le_refl _)
   clear hO hKp hlt HF
   go_wp2_with (first
    | (go_at_call 57;refine (vtag_any src (textV lbl L) (r1++r2) A A8 l c _ d8 ps _ hT8 HK h1 hlc hkb hA8 hP8 hk8 HPL (by omega) HF2 HTL HR).mono ?_;rintro e w7 ⟨rfl,hb7⟩
       have R11:=(Rw.new w7 (ints .u8 (hzeros 64)) 83).roomA (us:=ints .u8 (r1++r2)) ((il HRL.out).trans (il (hz_len 64)).symm)
       have X11:=((Rw.new w7 (ints .u8 (hzeros 64)) 83).storedA (us:=ints .u8 (r1++r2)) ((il HRL.out).trans (il (hz_len 64)).symm)).lo.range
       have hb8:=hb7.trans (Below.mono (Below.setCells (below_new w7 (.cells (ints .u8 (hzeros 64)).toArray 83)) (Nat.le_refl _) 0 (ints .u8 (r1++r2)).toArray.toList) hb7.size)
       replace h6:=h6.next hb8
       replace hW:=hW.trans (Below.mono hb8 hW.size)
       have R6:=h6.roomA (us:=ints .u8 r1) ((il H1.out).trans (il (hz_len 32)).symm)
       have X6:=h6.storedA (us:=ints .u8 r1) ((il H1.out).trans (il (hz_len 32)).symm)
       have hW2:=Below.setCells hW (g:=w.heap.size) (Nat.le_refl _) 0 (ints .u8 r1).toArray.toList
       clear hb7 hb8 h6 hW hP8 hk8 hA8 hT8)
    | (with_reducible refine wpList_store_mid (op:=⟨none,.store 83 (.tmp 11) (.tmp 51),_,_,_,_⟩) rfl 83 (.tmp 11) (.tmp 51) rfl w7.heap.size 0 (ints .u8 (r1++r2)).toArray rfl rfl R11 (szA infH (il HRL.out)) (ints_all _ _) ?_
       generalize (w7.alloc (.cells (ints .u8 (hzeros 64)).toArray 83)).setCells w7.heap.size 0 (ints .u8 (r1++r2)).toArray.toList=w8 at *
       generalize w7.heap.size=b11 at *
       clear R11)
    | (with_reducible refine wpList_load_mid (op:=⟨some 54,.load 22 (.tmp 53),_,_,_,_⟩) rfl 22 (.tmp 53) rfl b11 0 rfl (ints .u8 r1) _ X11 Tryz.underlying22 rfl (szV infS32 (il H1.out)) ?_)
    | (with_reducible refine wpList_store_mid (op:=⟨none,.store 22 (.tmp 6) (.tmp 54),_,_,_,_⟩) rfl 22 (.tmp 6) (.tmp 54) rfl w.heap.size 0 (ints .u8 r1).toArray rfl rfl R6 (szA infS32 (il H1.out)) (ints_all _ _) ?_
       clear R6
       generalize w8.setCells w.heap.size 0 (ints .u8 r1).toArray.toList=w9 at *))
   exact bodyPost_ret (results_rowV rfl _ _ w.heap.size 0 rfl (.int .i64 0) rfl (ints .u8 r1) _ X6.range Tryz.underlying22 rfl (szV infS32 (il H1.out))) rfl ⟨rfl,hW2⟩
theorem key_any (src:List Int) (A PA:Option Addr) (l c n pc:Nat) (s:ByteArray) (cs:List Part) (w:World) (hT:TabsH w) (HK:Hid (src.length=l)) (h0:0<l) (h1:l≤1000) (hlc:l≤c) (hkb:HByt src) (hA:Nums w .u8 A src) (hz6:s.size≤64)
 (hP:Parts w PA cs) (hn:Hid (cs.length=n)) (hn6:n≤16) (hok:∀q ∈ cs,PartOk w q) :
 Calls Tryz.prog 27 #[.slice A l c,.string s,.slice PA n pc] w fun e w'=>e=.returned (.tuple #[.agg (ints .u8 (keyD src (strL s) (cs.map (·.2.2)))).toArray,.int .i64 0])∧Below w.heap.size w w':=by
 obtain ⟨t,ht⟩:∃t,t=tagV src (textV (strL s) (cs.map (·.2.2))):=⟨_,rfl⟩
 have e:keyD src (strL s) (cs.map (·.2.2))=t.take 32:=by rw [ht];unfold keyD;rfl
 have hl:t.length=64:=by rw [ht];exact tagV_len _ _
 have h32:(t.take 32).length=32:=by rw [List.length_take,hl];rfl
 have h2:t.take 32++t.drop 32=t:=List.take_append_drop 32 t
 have h3:(t.take 32++t.drop 32).length=64:=by rw [h2,hl]
 have h4:tagV src (textV (strL s) (cs.map (·.2.2)))=t.take 32++t.drop 32:=by rw [h2,ht]
 rw [e]
 clear e ht h2
 generalize t.take 32=r1 at *
 generalize t.drop 32=r2 at *
 exact key_core src r1 r2 A PA l c n pc s.size s cs w hT HK h0 h1 hlc hkb hA (hid rfl) hz6 hP hn hn6 hok (hid h4) (hid h3) (hid h32)
end
section
set_option maxRecDepth 50000
section
variable {P:Program} {ops:Array Oper} {md:Region.Mode} {W:World} {a0:Act} {tv:Tmp→Value} {kd:Nat→Nat} {up:Nat→World→World} {Q:Exit→Act→World→Prop}
def behind (up:Nat→World→World):Nat→World→World
 | 0,w=>w
 | n+1,w=>up n (behind up n w)
def FrM (ops:Array Oper) (a0 a:Act):Prop:=∀t,(∀j,dstOf ops j≠some t)→a.tmps[t]? = a0.tmps[t]?
def DpM (ops:Array Oper) (md:Region.Mode) (tv:Tmp→Value) (i:Nat) (a:Act):Prop:=∀j d,Region.waitsFor md ops i j=true→dstOf ops j=some d→a.eval (.tmp d)=tv d
inductive StepM (P:Program) (ops:Array Oper) (md:Region.Mode) (W:World) (a0:Act) (tv:Tmp→Value) (kd:Nat→Nat) (up:Nat→World→World) (Q:Exit→Act→World→Prop) (i:Nat) (o:Oper):Prop
 | pure (hk:kd i=0) (hg:o.guard=none) (d:Tmp) (hd:o.dst=some d) (h:∀a w,FrM ops a0 a→DpM ops md tv i a→(execOp a.eval o).run P w=.ok (.value (tv d)) w)
 | read (hk:kd i=1) (hg:o.guard=none) (d:Tmp) (hd:o.dst=some d) (h:∀a w (K:Act→World→Prop),Cl W w→FrM ops a0 a→DpM ops md tv i a→(∀w',Cl W w'→K (a.put (some d) (tv d)) w')→o.wp P a w K Q)
 | store (m:Nat) (hk:kd i=m+2) (hg:o.guard=none) (hd:o.dst=none) (h:∀a w (K:Act→World→Prop),Cl W w→FrM ops a0 a→DpM ops md tv i a→K a (up m (behind up m w))→o.wp P a (behind up m w) K Q)
def dstM (ops:Array Oper) (M:Nat):Bool:=(List.range ops.size).all fun i=>match dstOf ops i with
 | some d=>decide (d<M)&&(List.range ops.size).all (fun j=>decide (i=j)||!(dstOf ops j==some d))
 | none=>true
def manyB (md:Region.Mode) (ops:Array Oper) (kd:Nat→Nat) (ss:List Nat) (M:Nat):Bool :=
 backB md ops&&dstM ops M&&(List.range ss.length).all (fun m=>kd (ss.getD m 0)==m+2&&decide (ss.getD m 0<ops.size)&&(m==0||Region.waitsFor md ops (ss.getD m 0) (ss.getD (m - 1) 0)))
  && (List.range ops.size).all (fun i=>if kd i==0 then true else if kd i==1 then (ss.length==0||Region.waitsFor md ops (ss.getD 0 0) i) else decide (kd i - 2<ss.length)&&ss.getD (kd i - 2) 0==i)
structure StM (md:Region.Mode) (ops:Array Oper) (W:World) (a0:Act) (tv:Tmp→Value) (up:Nat→World→World) (ss:List Nat) (listed:Array Bool) (a:Act) (w:World):Prop where
 size:listed.size=ops.size
 closed:∀i j,listed.getD i false=true→Region.waitsFor md ops i j=true→listed.getD j false=true
 df:a.defers=a0.defers
 tmps:a.tmps.size=a0.tmps.size
 frame:∀t,(∀i,listed.getD i false=true→dstOf ops i≠some t)→a.tmps[t]? = a0.tmps[t]?
 vals:∀i d,listed.getD i false=true→dstOf ops i=some d→a.eval (.tmp d)=tv d
 world:∃w0 j,Cl W w0∧w=behind up j w0∧j≤ss.length∧∀m,m<ss.length→listed.getD (ss.getD m 0) false=decide (m<j)
theorem dstM_spec {M:Nat} (h:dstM ops M=true) (hM:M≤a0.tmps.size) {i:Nat} {d:Tmp} (hd:dstOf ops i=some d):d<a0.tmps.size∧∀j,dstOf ops j=some d→i=j:=by
 have hi:∀{j},dstOf ops j=some d→j<ops.size:=fun {j} h=>by
  rcases Nat.lt_or_ge j ops.size with h2|h2
  ·exact h2
  ·unfold dstOf at h;rw [Array.getElem?_eq_none h2] at h;cases h
 have h1:=List.all_eq_true.1 h i (List.mem_range.2 (hi hd))
 rw [hd] at h1
 simp only [Bool.and_eq_true,decide_eq_true_eq] at h1
 refine ⟨Nat.lt_of_lt_of_le h1.1 hM,fun j hj=>?_⟩
 have h2:=List.all_eq_true.1 h1.2 j (List.mem_range.2 (hi hj))
 simp only [Bool.or_eq_true,decide_eq_true_eq,Bool.not_eq_true',hj] at h2
 rcases h2 with h2|h2
 ·exact h2
 ·simp at h2
theorem lack_ready {listed:Array Bool} {i:Nat} (h:listed.getD i true=false):listed.toList[i]? = some false:=by
 rw [Array.getD_eq_getD_getElem?] at h
 rw [Array.getElem?_toList]
 cases h3:listed[i]? with
 | none=>rw [h3] at h;simp at h
 | some b=>rw [h3] at h;simp at h;rw [h]
theorem lack_set {listed:Array Bool} {i F:Nat} (h:listed.getD i true=false) (hF:lacking listed.toList=F+1):lacking (listed.setIfInBounds i true).toList=F:=by
 have:=lacking_set _ i (lack_ready h)
 have e:(listed.setIfInBounds i true).toList=listed.toList.set i true:=by simp
 rw [e];omega
theorem lacking_none:∀(l:List Bool),lacking l=0→∀(i:Nat) (b:Bool),l[i]? = some b→b=true
 | [],_,i,b,h=>by simp at h
 | true::l,h0,0,b,h=>by simpa using h.symm
 | true::l,h0,i+1,b,h=>lacking_none l h0 i b (by simpa using h)
 | false::l,h0,_,_,_=>by simp [lacking] at h0
theorem ready_waitsM {listed:Array Bool} {i j:Nat} (hi:i ∈ Region.ready md ops listed) (hw:Region.waitsFor md ops i j=true):listed.getD j false=true:=by
 obtain ⟨_,o,ho,hall⟩:=mem_ready.1 hi
 obtain ⟨o',ho',e,he,hb,hon⟩:=Region.waitsFor_spec hw
 obtain rfl:o'=o:=Option.some.inj (ho'.symm.trans ho)
 rw [←hon];exact hall e he hb
theorem getD_eqM {l:Array Bool} {i:Nat} (h:i<l.size):l.getD i true=l.getD i false:=by
 rw [Array.getD_eq_getD_getElem?,Array.getD_eq_getD_getElem?,Array.getElem?_eq_getElem h];rfl
theorem StM.next {M:Nat} {ss:List Nat} {listed:Array Bool} {a:Act} {w w':World} {i:Nat} {o:Oper} (hdst:dstM ops M=true) (hM:M≤a0.tmps.size) (st:StM md ops W a0 tv up ss listed a w) (ho:ops[i]? = some o) (hil:i<listed.size)
 (hdeps:∀j,Region.waitsFor md ops i j=true→listed.getD j false=true) (v:Value) (hv:∀d,o.dst=some d→v=tv d)
 (hw:∃w0 j,Cl W w0∧w'=behind up j w0∧j≤ss.length∧∀m,m<ss.length→(listed.setIfInBounds i true).getD (ss.getD m 0) false=decide (m<j)) :
 StM md ops W a0 tv up ss (listed.setIfInBounds i true) (a.put o.dst v) w':=by
 have hod:dstOf ops i=o.dst:=by unfold dstOf;rw [ho];rfl
 have hset:∀j,(listed.setIfInBounds i true).getD j false=true→j=i∨listed.getD j false=true:=fun j hj=>by
  by_cases e:i=j
  ·exact .inl e.symm
  ·rw [getD_set_ne false e] at hj;exact .inr hj
 refine ⟨by simp [st.size],fun k j hk hwt=>?_,?_,?_,fun t ht=>?_,fun k d hk hd=>?_,hw⟩
 ·rcases hset k hk with e|hk
  ·subst e;exact getD_set_true (hdeps j hwt)
  ·exact getD_set_true (st.closed k j hk hwt)
 ·rw [←st.df];cases o.dst <;> rfl
 ·rw [←st.tmps];cases o.dst <;> simp [Act.put]
 ·have h1:=st.frame t fun k hk=>ht k (getD_set_true hk)
  rw [←h1]
  cases hd:o.dst with
  | none=>rfl
  | some d =>
    have hne:d≠t:=fun e=>ht i (by simp [hil]) (by rw [hod,hd,e])
    show (a.tmps.setIfInBounds d v)[t]? = _
    rw [Array.getElem?_setIfInBounds_ne hne]
 ·cases hdo:o.dst with
  | none =>
    rcases hset k hk with e|hk
    ·subst e;rw [hod,hdo] at hd;cases hd
    ·exact st.vals k d hk hd
  | some di =>
    have hsp:=dstM_spec hdst hM (i:=i) (d:=di) (by rw [hod,hdo])
    by_cases e:k=i
    ·subst e
     obtain rfl:di=d:=Option.some.inj (by rw [←hdo,←hod,hd])
     have h1:di<a.tmps.size:=by rw [st.tmps];exact hsp.1
     rw [←hv di hdo]
     simp [Act.put,Act.eval,Array.getD,h1]
    ·have hne:di≠d:=fun e2=>e (hsp.2 k (by rw [hd,e2])).symm
     rw [←st.vals k d ((hset k hk).resolve_left e) hd]
     simp only [Act.put,Act.eval,Array.getD_eq_getD_getElem?]
     rw [Array.getElem?_setIfInBounds_ne hne]
theorem many_any {M:Nat} {ss:List Nat} (hB:manyB md ops kd ss M=true) (hM:M≤a0.tmps.size) (hst:∀i o,ops[i]? = some o→StepM P ops md W a0 tv kd up Q i o)
 (hend:∀a w0,Cl W w0→a.defers=a0.defers→a.tmps.size=a0.tmps.size→FrM ops a0 a→(∀i d,dstOf ops i=some d→a.eval (.tmp d)=tv d)→Q .normal a (behind up ss.length w0)) :
 ∀(F:Nat) (listed:Array Bool) (a:Act) (w:World),lacking listed.toList=F→StM md ops W a0 tv up ss listed a w→wpAny P md ops Q F listed a w:=by
 simp only [manyB,Bool.and_eq_true] at hB
 obtain ⟨⟨⟨hback,hdst⟩,hss⟩,hkd⟩:=hB
 have hss':∀m,m<ss.length→kd (ss.getD m 0)=m+2∧ss.getD m 0<ops.size∧(m=0∨Region.waitsFor md ops (ss.getD m 0) (ss.getD (m - 1) 0)=true):=fun m hm=>by
  have h:=List.all_eq_true.1 hss m (List.mem_range.2 hm)
  simp only [Bool.and_eq_true,beq_iff_eq,decide_eq_true_eq,Bool.or_eq_true] at h
  exact ⟨h.1.1,h.1.2,h.2⟩
 have fin:∀listed a w,StM md ops W a0 tv up ss listed a w→(∀i,i<ops.size→listed.getD i false=true)→Q .normal a w:=fun listed a w st hall=>by
  obtain ⟨w0,j,hw0,rfl,hj,hm⟩:=st.world
  have e:j=ss.length:=by
   rcases Nat.lt_or_ge j ss.length with h|h
   ·have h2:=hm j h
    rw [hall _ (hss' j h).2.1] at h2
    simp at h2
   ·omega
  rw [e]
  refine hend a w0 hw0 st.df st.tmps (fun t ht=>st.frame t fun i _=>ht i) fun i d hd=>st.vals i d (hall i ?_) hd
  rcases Nat.lt_or_ge i ops.size with h2|h2
  ·exact h2
  ·unfold dstOf at hd;rw [Array.getElem?_eq_none h2] at hd;cases hd
 intro F
 induction F with
 | zero =>
   intro listed a w hF st
   have hall:∀i,i<ops.size→listed.getD i false=true:=fun i hi=>by
    have hil:i<listed.size:=by rw [st.size];exact hi
    have h:=lacking_none _ hF i listed[i] (by rw [Array.getElem?_toList];simp [hil])
    rw [Array.getD_eq_getD_getElem?,Array.getElem?_eq_getElem (by rw [st.size];exact hi),h];rfl
   refine ⟨?_,fin listed a w st hall⟩
   cases hr:Region.ready md ops listed with
   | nil=>rfl
   | cons i r =>
     obtain ⟨h1,o,ho,_⟩:=mem_ready.1 (by rw [hr];simp:i ∈ Region.ready md ops listed)
     have h2:=hall i (Array.getElem?_eq_some_iff.1 ho).1
     rw [getD_eqM (by rw [st.size];exact (Array.getElem?_eq_some_iff.1 ho).1),h2] at h1
     cases h1
 | succ F ih =>
   intro listed a w hF st
   refine ⟨fun hr=>fin listed a w st fun i hi=>?_,fun i hir=>?_⟩
   ·cases h:listed.getD i false with
    | true=>rfl
    | false =>
      obtain ⟨j,_,hj⟩:=first_ready hback st.size i hi h
      rw [hr] at hj;cases hj
   ·obtain ⟨hun,o,ho,hafter⟩:=mem_ready.1 hir
    have his:i<ops.size:=(Array.getElem?_eq_some_iff.1 ho).1
    have hil:i<listed.size:=by rw [st.size];exact his
    have hdeps:∀j,Region.waitsFor md ops i j=true→listed.getD j false=true:=fun j hw=>ready_waitsM hir hw
    have hfr:FrM ops a0 a:=fun t ht=>st.frame t fun k _=>ht k
    have hdp:DpM ops md tv i a:=fun j d hw hd=>st.vals j d (hdeps j hw) hd
    have hunF:listed.getD i false=false:=by rw [←getD_eqM hil];exact hun
    have hki:=List.all_eq_true.1 hkd i (List.mem_range.2 his)
    obtain ⟨w0,j,hw0,hw,hj,hm⟩:=st.world
    have other:∀m,m<ss.length→kd i<2→(listed.setIfInBounds i true).getD (ss.getD m 0) false=decide (m<j):=fun m h h2=>by
     have hne:i≠ss.getD m 0:=fun e=>by have:=(hss' m h).1;rw [←e] at this;omega
     rw [getD_set_ne false hne];exact hm m h
    have hF2:=lack_set hun hF
    unfold wpOp
    simp only [ho]
    obtain ⟨hk,hg,d,hd,h⟩|⟨hk,hg,d,hd,h⟩|⟨m,hk,hg,hd,h⟩:=hst i o ho
    ·rw [if_pos (by simp [Region.wanted,hg])]
     left
     unfold Oper.wp
     rw [h a w hfr hdp,Oper.upon_value]
     exact ih _ _ _ hF2 (st.next hdst hM ho hil hdeps (tv d) (fun d' e=>by rw [hd] at e;injection e with e;rw [e]) ⟨w0,j,hw0,hw,hj,fun m h2=>other m h2 (by omega)⟩)
    ·rw [if_pos (by simp [Region.wanted,hg])]
     left
     have hj0:j=0:=by
      rcases Nat.eq_zero_or_pos j with e|e
      ·exact e
      ·exfalso
       rw [hk,if_neg (by simp),if_pos (by simp),Bool.or_eq_true,beq_iff_eq] at hki
       have hpos:0<ss.length:=by omega
       have hki:Region.waitsFor md ops (ss.getD 0 0) i=true:=by
        rcases hki with e2|e2
        ·omega
        ·exact e2
       have h1:listed.getD (ss.getD 0 0) false=true:=by rw [hm 0 hpos];simp [e]
       have:=st.closed _ i h1 hki
       rw [hunF] at this;cases this
     subst hj0
     rw [hw]
     refine h a w0 _ hw0 hfr hdp fun w' hw'=>?_
     have:=st.next hdst hM ho hil hdeps (tv d) (fun d' e=>by rw [hd] at e;injection e with e;rw [e]) (w':=w') ⟨w',0,hw',rfl,hj,fun m h2=>other m h2 (by omega)⟩
     rw [hd] at this
     exact ih _ _ _ hF2 this
    ·rw [if_pos (by simp [Region.wanted,hg])]
     left
     rw [hk] at hki
     have e2:m+2 - 2=m:=by omega
     simp only [e2] at hki
     rw [if_neg (by simp),if_neg (by simp)] at hki
     simp only [Bool.and_eq_true,decide_eq_true_eq,beq_iff_eq] at hki
     obtain ⟨hml,hmi⟩:=hki
     have h0:=hm m hml
     rw [hmi,hunF] at h0
     have h1:j≤m:=by simpa using h0.symm
     have hjm:j=m:=by
      rcases Nat.eq_zero_or_pos m with e|e
      ·omega
      ·have h3:=(hss' m hml).2.2
       rcases h3 with h3|h3
       ·omega
       ·rw [hmi] at h3
        have h4:=hdeps _ h3
        rw [hm (m - 1) (by omega)] at h4
        have:m - 1<j:=by simpa using h4
        omega
     subst hjm
     rw [hw]
     refine h a w0 _ hw0 hfr hdp ?_
     have:=st.next hdst hM ho hil hdeps undef (fun d' e=>by rw [hd] at e;cases e) (w':=up j (behind up j w0)) ⟨w0,j+1,hw0,rfl,by omega,fun m' h2=>?_⟩
     ·rw [hd] at this
      exact ih _ _ _ hF2 this
     ·by_cases e:m'=j
      ·subst e
       rw [hmi]
       simp [hil]
      ·have hne:i≠ss.getD m' 0:=fun e2=>by
        have h5:=(hss' m' h2).1
        rw [←e2,hk] at h5
        omega
       rw [getD_set_ne false hne,hm m' h2]
       simp only [decide_eq_decide]
       omega
def StepsM (P:Program) (ops:Array Oper) (md:Region.Mode) (W:World) (a0:Act) (tv:Tmp→Value) (kd:Nat→Nat) (up:Nat→World→World) (Q:Exit→Act→World→Prop):Nat→List Oper→Prop
 | _,[]=>True
 | k,o::l=>StepM P ops md W a0 tv kd up Q k o∧StepsM P ops md W a0 tv kd up Q (k+1) l
theorem StepsM.at_:∀(k:Nat) (l:List Oper),StepsM P ops md W a0 tv kd up Q k l→∀i o,l[i]? = some o→StepM P ops md W a0 tv kd up Q (k+i) o
 | _,[],_,i,o,ho=>by simp at ho
 | k,o'::l,h,0,o,ho=>by simp at ho;subst ho;exact h.1
 | k,o'::l,h,i+1,o,ho=>by
   have:=StepsM.at_ (k+1) l h.2 i o (by simpa using ho)
   rw [show k+(i+1)=k+1+i by omega];exact this
theorem act_many {a:Act} {n:Nat} (hn:n=ops.size) (h1:a.defers=a0.defers) (h2:a.tmps.size=a0.tmps.size) (h3:FrM ops a0 a) (h4:∀i d,dstOf ops i=some d→a.eval (.tmp d)=tv d):a=putVals (dstsOf ops n) tv a0:=by
 subst hn
 have e1:a.tmps=(putVals (dstsOf ops ops.size) tv a0).tmps:=by
  apply Array.ext'
  apply List.ext_getElem?
  intro t
  rw [Array.getElem?_toList,Array.getElem?_toList,putVals_at]
  by_cases h:t ∈ dstsOf ops ops.size∧t<a0.tmps.size
  ·rw [if_pos h]
   obtain ⟨i,_,hi⟩:=List.mem_filterMap.1 h.1
   have hl:t<a.tmps.size:=by rw [h2];exact h.2
   have:=h4 i t hi
   simp only [Act.eval,Array.getD,hl,dif_pos] at this
   rw [Array.getElem?_eq_getElem hl]
   exact congrArg some this
  ·rw [if_neg h]
   by_cases hl:t<a0.tmps.size
   ·refine h3 t fun i hd=>h ⟨List.mem_filterMap.2 ⟨i,List.mem_range.2 ?_,hd⟩,hl⟩
    rcases Nat.lt_or_ge i ops.size with h5|h5
    ·exact h5
    ·unfold dstOf at hd;rw [Array.getElem?_eq_none h5] at hd;cases hd
   ·rw [Array.getElem?_eq_none (by rw [h2];omega),Array.getElem?_eq_none (by omega)]
 have e2:=putVals_defers (dstsOf ops ops.size) tv a0
 obtain ⟨t,f⟩:=a
 cases hq:putVals (dstsOf ops ops.size) tv a0 with
 | mk t' f' =>
   rw [hq] at e1 e2
   dsimp only at e1 e2 h1
   rw [e1,e2,h1]
theorem region_many {id:Nat} {l:List Oper} (M:Nat) (tv:Tmp→Value) (kd:Nat→Nat) (ss:List Nat) (up:Nat→World→World) (ds:List Tmp) (hds:dstsOf l.toArray l.toArray.size=ds) (hm:P.follows .mixedOrders=true) (hB:manyB .any l.toArray kd ss M=true) (hM:M≤a0.tmps.size)
 (hst:StepsM P l.toArray .any W a0 tv kd up Q 0 l) (hend:∀(val:Tmp→Value) w,(∀d,val d=tv d)→Cl W w→Q .normal (putVals ds val a0) (behind up ss.length w)):(Code.region id l.toArray true).wp P Q a0 W:=by
 refine wp_region_any hm ?_
 have hrep:∀i,(Array.replicate l.toArray.size false).getD i false=false:=fun i=>getD_replicate_false _ _
 refine many_any (W:=W) (tv:=tv) (kd:=kd) (up:=up) (ss:=ss) hB hM (fun i o ho=>?_) (fun a w0 hw h1 h2 h3 h4=>?_) _ _ _ _ ?_ ?_
 ·have:=StepsM.at_ 0 l hst i o (by simpa using ho)
  rwa [Nat.zero_add] at this
 ·rw [act_many rfl h1 h2 h3 h4,hds]
  exact hend tv w0 (fun _=>rfl) hw
 ·have:=lacking_new l.toArray.size
  simpa using this
 ·refine ⟨by simp,fun i j h=>?_,rfl,rfl,fun _ _=>rfl,fun i d h=>?_,⟨W.drew,0,Cl.drew W,rfl,Nat.zero_le _,fun m _=>?_⟩⟩
  ·rw [hrep] at h;cases h
  ·rw [hrep] at h;cases h
  ·rw [hrep];simp
def notDstM (ops:Array Oper) (t:Tmp):Bool:=(List.range ops.size).all fun j=>!(dstOf ops j==some t)
theorem outM {a:Act} (hf:FrM ops a0 a) (t:Tmp) (hB:notDstM ops t=true):a.eval (.tmp t)=a0.eval (.tmp t):=by
 have h:=hf t fun j e=>by
  have hj:j<ops.size:=by
   rcases Nat.lt_or_ge j ops.size with h5|h5
   ·exact h5
   ·unfold dstOf at e;rw [Array.getElem?_eq_none h5] at e;cases e
  have:=List.all_eq_true.1 hB j (List.mem_range.2 hj)
  rw [e] at this
  simp at this
 simp only [Act.eval,Array.getD_eq_getD_getElem?,h]
theorem StepM.run {i:Nat} {o:Oper} (hk:kd i=1) (hg:o.guard=none) (d:Tmp) (hd:o.dst=some d) (h:∀a w,Cl W w→FrM ops a0 a→DpM ops md tv i a→(execOp a.eval o).run P w=.ok (.value (tv d)) w):StepM P ops md W a0 tv kd up Q i o :=
 .read hk hg d hd fun a w K hw hf hp hK=>by
  unfold Oper.wp
  rw [h a w hw hf hp,Oper.upon_value,hd]
  exact hK w hw
theorem StepM.call {i:Nat} {o:Oper} (hk:kd i=1) (hg:o.guard=none) (d:Tmp) (hd:o.dst=some d) (h:∀a w,Cl W w→FrM ops a0 a→DpM ops md tv i a →
 ∃f args,(execOp a.eval o).run P w=.ok (.enter f args) w∧Calls P f args w fun e w'=>e=.returned (tv d)∧Below w.heap.size w w'):StepM P ops md W a0 tv kd up Q i o :=
 .read hk hg d hd fun a w K hw hf hp hK=>by
  obtain ⟨f,args,h1,h2⟩:=h a w hw hf hp
  unfold Oper.wp
  rw [h1,Oper.upon_enter]
  refine h2.mono fun e w' ⟨he,hb⟩=>?_
  subst he
  rw [hd]
  exact hK w' (hw.next hb)
theorem StepM.put {i:Nat} {o:Oper} (m:Nat) (hk:kd i=m+2) (hg:o.guard=none) (hd:o.dst=none) (p:Addr) (v:Value) (hu:∀w,up m w=w.setCell p v)
 (h:∀a w,Cl W w→FrM ops a0 a→DpM ops md tv i a→(execOp a.eval o).run P (behind up m w)=.ok .skip ((behind up m w).setCell p v)):StepM P ops md W a0 tv kd up Q i o :=
 .store m hk hg hd fun a w K hw hf hp hK=>by
  unfold Oper.wp
  rw [h a w hw hf hp,Oper.upon_skip,hd,←hu]
  exact hK
def tvOf (ps:List (Tmp × Value)) (t:Tmp):Value:=(ps.lookup t).getD undef
def kdOf (ks:List Nat) (i:Nat):Nat:=ks.getD i 0
end
section
variable {P:Program} {ops:Array Oper} {md:Region.Mode} {W:World} {a0:Act} {tv:Tmp→Value} {kd:Nat→Nat} {up:Nat→World→World} {Q:Exit→Act→World→Prop} {i:Nat} {o:Oper}
def KM (ops:Array Oper) (md:Region.Mode) (a0:Act) (tv:Tmp→Value) (i:Nat) (t:Tmp) (x:Value):Prop:=∀a,FrM ops a0 a→DpM ops md tv i a→a.eval (.tmp t)=x
theorem kxo (x:Value) (t:Tmp) (hx:a0.eval (.tmp t)=x) (hB:notDstM ops t=true:=by kernel_rfl):KM ops md a0 tv i t x:=fun _ hf _=>(outM hf t hB).trans hx
theorem kxi (x:Value) (j:Nat) (t:Tmp) (hx:tv t=x) (hd:dstOf ops j=some t) (hw:Region.waitsFor md ops i j=true:=by kernel_rfl):KM ops md a0 tv i t x:=fun _ _ h=>(h j t hw hd).trans hx
theorem pxm (d:Tmp) {t:Tmp} {x:Value} (hx:KM ops md a0 tv i t x) (ho:o.op=.move (.tmp t)) (hv:tv d=x) (hk:kd i=0) (hg:o.guard=none) (hd:o.dst=some d):StepM P ops md W a0 tv kd up Q i o :=
 .pure hk hg d hd fun a w hf hdp=>by
  have h:=hx a hf hdp
  rw [hv]
  generalize a.eval=ev at *
  unfold execOp
  simp only [ho,h]
  rfl
theorem pxa (d:Tmp) (v:Value) {t:Tmp} {x:Value} (hx:KM ops md a0 tv i t x) (hv:tv d=v) (hk:kd i=0) (hg:o.guard=none) (hd:o.dst=some d) (hr:∀(ev:Operand→Value) w,ev (.tmp t)=x→(execOp ev o).run P w=.ok (.value v) w):StepM P ops md W a0 tv kd up Q i o :=
 .pure hk hg d hd fun a w hf hdp=>by rw [hv];exact hr a.eval w (hx a hf hdp)
theorem pxb (d:Tmp) (v:Value) {t u:Tmp} {x y:Value} (hx:KM ops md a0 tv i t x) (hy:KM ops md a0 tv i u y) (hv:tv d=v) (hk:kd i=0) (hg:o.guard=none) (hd:o.dst=some d) (hr:∀(ev:Operand→Value) w,ev (.tmp t)=x→ev (.tmp u)=y→(execOp ev o).run P w=.ok (.value v) w):StepM P ops md W a0 tv kd up Q i o :=
 .pure hk hg d hd fun a w hf hdp=>by rw [hv];exact hr a.eval w (hx a hf hdp) (hy a hf hdp)
theorem qxa (d:Tmp) (v:Value) {t:Tmp} {x:Value} (hx:KM ops md a0 tv i t x) (hv:tv d=v) (hk:kd i=1) (hg:o.guard=none) (hd:o.dst=some d) (hr:∀(ev:Operand→Value) w,Cl W w→ev (.tmp t)=x→(execOp ev o).run P w=.ok (.value v) w):StepM P ops md W a0 tv kd up Q i o :=
 .run hk hg d hd fun a w hw hf hdp=>by rw [hv];exact hr a.eval w hw (hx a hf hdp)
theorem qxb (d:Tmp) (v:Value) {t u:Tmp} {x y:Value} (hx:KM ops md a0 tv i t x) (hy:KM ops md a0 tv i u y) (hv:tv d=v) (hk:kd i=1) (hg:o.guard=none) (hd:o.dst=some d) (hr:∀(ev:Operand→Value) w,Cl W w→ev (.tmp t)=x→ev (.tmp u)=y→(execOp ev o).run P w=.ok (.value v) w):StepM P ops md W a0 tv kd up Q i o :=
 .run hk hg d hd fun a w hw hf hdp=>by rw [hv];exact hr a.eval w hw (hx a hf hdp) (hy a hf hdp)
end
section
variable {P:Program} {ops:Array Oper} {md:Region.Mode} {W:World} {a0:Act} {n:Nat} {al:Nat→Bool} {S:Nat→Value→World→Prop} {Q:Exit→Act→World→Prop} {i:Nat} {o:Oper}
theorem sxa {v x:Value} {t:Operand} (hal:al i=false) (hg:GuardOn ops md n S i o) (hS:S i=Is v) (hx:Knows ops md W a0 n S i t x) (hr:∀(ev:Operand→Value) w,Cl W w→ev t=x→(execOp ev o).run P w=.ok (.value v) w):StepOk P ops md W a0 n al S Q i o :=
 step_run hal hg fun a w hw hf hd=>⟨v,hr a.eval w hw (hx a w hw hf hd),by rw [hS];exact rfl⟩
theorem sxb {v x y:Value} {t u:Operand} (hal:al i=false) (hg:GuardOn ops md n S i o) (hS:S i=Is v) (hx:Knows ops md W a0 n S i t x) (hy:Knows ops md W a0 n S i u y) (hr:∀(ev:Operand→Value) w,Cl W w→ev t=x→ev u=y→(execOp ev o).run P w=.ok (.value v) w):StepOk P ops md W a0 n al S Q i o :=
 step_run hal hg fun a w hw hf hd=>⟨v,hr a.eval w hw (hx a w hw hf hd) (hy a w hw hf hd),by rw [hS];exact rfl⟩
end
end
end Go.Proofs.YtkblmdakejmmhaaGreatDoor
