import Derived.Test.YtkblmdakejmmhaaGreatDoorG38
namespace Go.Proofs.YtkblmdakejmmhaaGreatDoor
open Go Go.RowKit
set_option maxRecDepth 50000
theorem split1 {z:Nat} (h:z≤64):splitB true 1 [(z:Int)]=[(z:Int)]:=by
 apply List.ext_getElem?
 intro i
 by_cases hi:i<1
 ·obtain rfl:i=0:=by omega
  rw [split_one true 1 (z:Int) (by omega)]
  simp [plc]
  omega
 ·rw [List.getElem?_eq_none (by rw [split_len];omega),List.getElem?_eq_none (by simp;omega)]
theorem strL_get (s:ByteArray) {i:Nat} (h:i<s.size):(strL s)[i]? = some ((s[i].toNat:Nat):Int):=by
 unfold strL
 rw [List.getElem?_map,Array.getElem?_toList,Array.getElem?_eq_getElem h]
 rfl
set_option maxHeartbeats 4000000 in
theorem rkey_core (src r1 r2:List Int) (A PA:Option Addr) (l c n pc z:Nat) (s:ByteArray) (cs:List Part) (w:World) (HK:Hid (src.length=l)) (h0:0<l) (h1:l≤1000) (hkb:HByt src) (hA:Nums w .u8 A src) (hz:Hid (s.size=z)) (hz6:z≤64)
 (hP:Parts w PA cs) (hn:Hid (cs.length=n)) (hn6:n≤16) (hok:∀q ∈ cs,PartOk w q) (hlen:∀q ∈ cs,q.2.2.length≤100) (HR:Hid (tagV src (textV (strL s) (cs.map (·.2.2)))=r1++r2)) (HRL:Hid ((r1++r2).length=64)) (H1:Hid (r1.length=32)) :
 Calls Tryz.prog 32 #[.slice A l c,.string s,.slice PA n pc] w fun e w'=>e=.returned (.tuple #[.agg (ints .u8 r1).toArray,.int .i64 0])∧Below w.heap.size w w':=by
 obtain ⟨z32,s32⟩:=zero_of_info infS32
 obtain ⟨z64,s64⟩:=zero_of_info infH
 have h6:=(Rw.new w (ints .u8 (hzeros 32)) 22).next (below_new (w.alloc (.cells (ints .u8 (hzeros 32)).toArray 22)) (.cells (ints .u8 (hzeros 32)).toArray 22))
 have h8:=Arr.made (w.alloc (.cells (ints .u8 (hzeros 32)).toArray 22)) .u8 (hzeros 32) 22
 rw [World.size_alloc] at h8
 have hW:=(below_new w (.cells (ints .u8 (hzeros 32)).toArray 22)).alloc (by simp) (.cells (ints .u8 (hzeros 32)).toArray 22)
 have hS:w.heap.size+2≤((w.alloc (.cells (ints .u8 (hzeros 32)).toArray 22)).alloc (.cells (ints .u8 (hzeros 32)).toArray 22)).heap.size:=by simp
 have hl:¬(l:Int)=0:=by omega
 have i1:¬(64:Int)<(z:Int):=by omega
 have i2:¬(16:Int)<(n:Int):=by omega
 have hzs:(s.size:Int)=(z:Int):=by rw [hz.out]
 have hzw:IntKind.u8.wrap (z:Int)=(z:Int):=IntWalk.u8_in _ (by omega)
 go_enter Tryz.func32,Tryz.ntmps32
 go_wp2
 have hO0:=Owns.new ((w.alloc (.cells (ints .u8 (hzeros 32)).toArray 22)).alloc (.cells (ints .u8 (hzeros 32)).toArray 22)) (w.heap.size+2) 5 .u8 [(z:Int)] hS (by simp [maxLen])
 rw [World.size_alloc,World.size_alloc] at hO0
 have hb0:=below_new ((w.alloc (.cells (ints .u8 (hzeros 32)).toArray 22)).alloc (.cells (ints .u8 (hzeros 32)).toArray 22)) (.cells #[.int .u8 z] 5)
 replace h6:=h6.next hb0
 replace h8:=h8.alloc (.cells #[.int .u8 z] 5)
 replace hW:=hW.trans (Below.mono hb0 hW.size)
 replace hS:=Nat.le_trans hS hb0.size
 have hO1:Owns (((w.alloc (.cells (ints .u8 (hzeros 32)).toArray 22)).alloc (.cells (ints .u8 (hzeros 32)).toArray 22)).alloc (.cells #[.int .u8 z] 5)) (w.heap.size+2) 5 .u8 (.slice (some ⟨w.heap.size+1+1,0,none⟩) 1 1) [(z:Int)]:=hO0
 clear hO0 hb0 hzs
 generalize ((w.alloc (.cells (ints .u8 (hzeros 32)).toArray 22)).alloc (.cells (ints .u8 (hzeros 32)).toArray 22)).alloc (.cells #[.int .u8 z] 5)=w1 at *
 obtain ⟨lbl,hlbl⟩:∃lbl,lbl=strL s:=⟨_,rfl⟩
 obtain ⟨L,hL⟩:∃L,L=cs.map (·.2.2):=⟨_,rfl⟩
 have HZ:Hid (lbl.length=z):=hid (by rw [hlbl,strL_len,hz.out])
 have HAT:Hid (∀(i:Nat) (h:i<s.size),lbl[i]? = some ((s[i].toNat:Nat):Int)):=hid (fun i h=>by rw [hlbl];exact strL_get s h)
 have HLL:Hid (L.length=n):=hid (by rw [hL,List.length_map,hn.out])
 have HLK:Hid (∀(k:Nat) q,cs[k]? = some q→L[k]? = some q.2.2):=hid (fun k q h=>by rw [hL,List.getElem?_map,h];rfl)
 have HTL:Hid ((textV lbl L).length≤2000):=hid (by
  have h:=textV_le (lbl:=lbl) (L:=L) (b:=100) (n:=n) (by rw [HZ.out];exact hz6) HLL.out (fun c hc=>by rw [hL] at hc;obtain ⟨q,hq,rfl⟩:=List.mem_map.1 hc;exact hlen q hq)
  omega)
 have HKL:Hid (∀k:Nat,k≤n→(textK lbl L k).length≤2000):=hid (fun k hk=>by
  have h:=textV_le (lbl:=lbl) (L:=L.take k) (b:=100) (n:=k) (by rw [HZ.out];exact hz6) (by rw [List.length_take,HLL.out];omega) (fun c hc=>by have hc:=List.mem_of_mem_take hc;rw [hL] at hc;obtain ⟨q,hq,rfl⟩:=List.mem_map.1 hc;exact hlen q hq)
  have e:textK lbl L k=textV lbl (L.take k):=rfl
  rw [e]
  omega)
 have HTB:HByt (textV lbl L):=textV_byt (by rw [hlbl];exact strL_byt s) (fun c hc=>by rw [hL] at hc;obtain ⟨q,hq,rfl⟩:=List.mem_map.1 hc;exact (hok q hq).2.2.2)
 rw [←hlbl,←hL] at HR
 have hzs:(s.size:Int)=(z:Int):=by rw [hz.out]
 clear hL hlbl
 go_loopw [9,10] (fun v i wr=>∃(k:Nat) (A9:Option Addr) (m9 d9:Nat),k≤z∧v=.slice A9 m9 d9∧i=.int .i64 k∧Owns wr (w.heap.size+2) 5 .u8 (.slice A9 m9 d9) ([(z:Int)]++lbl.take k)∧Below w.heap.size w wr∧w.heap.size+2≤wr.heap.size∧Rw wr w.heap.size 0 (ints .u8 (hzeros 32))∧Arr wr (w.heap.size+1) 0 .u8 (hzeros 32)) (fun _ i _=>z - (intOf i).toNat)
 case atStart=>exact ⟨0,_,_,_,Nat.zero_le _,rfl,rfl,hO1,hW,hS,h6,h8⟩
 case round =>
  clear hO1 hW hS h6 h8
  obtain ⟨k,A9,m9,d9,hk,rfl,rfl,hO,hW,hS,h6,h8⟩:=hrel
  by_cases hlt:k<z
  ·have k0:(0:Int)≤k:=by omega
   have k1:(k:Int)<z:=by omega
   have hks:k<s.size:=by rw [hz.out];exact hlt
   have HX:=hid (take_succ_at (HAT.out k hks))
   have HL9:Hid (([(z:Int)]++lbl.take k).length=1+k):=hid (by rw [List.length_append,List.length_take,HZ.out,Nat.min_eq_left (by omega)];rfl)
   go_wp2_with (at_builtin;refine app_one _ rfl (.tmp 39) (.tmp 43) 23 rfl (w.heap.size+2) 5 .u8 1 Tryz.underlying23 Tryz.info5 A9 m9 d9 ([(z:Int)]++lbl.take k) rfl hO _ 1 rfl (by rw [HL9.out];omega) (by omega) hS ?_;intro A' n' c' w2 hO2 hb2)
   go_roundw
   case rel=>exact ⟨k+1,A',n',c',by omega,rfl,by go_num,by rw [HX.out,←List.append_assoc];exact hO2,hW.trans (Below.mono hb2 (by omega)),Nat.le_trans hS hb2.size,h6.same (hb2.block w.heap.size (by omega)),h8.below hb2 (by omega)⟩
   case measure=>simp [intOf];omega
  ·have e:k=z:=by omega
   subst e
   have hO2:Owns wr (w.heap.size+2) 5 .u8 (.slice A9 m9 d9) (textK lbl L 0):=by
    rw [textK_zero,HZ.out,split1 hz6]
    rw [List.take_of_length_le (by rw [HZ.out];omega)] at hO
    exact hO
   clear hO hlt HAT
   go_wp2
   go_loopw [9,11] (fun v i wr=>∃(k:Nat) (A9:Option Addr) (m9 d9:Nat),k≤n∧v=.slice A9 m9 d9∧i=.int .i64 k∧Owns wr (w.heap.size+2) 5 .u8 (.slice A9 m9 d9) (textK lbl L k)∧Below w.heap.size w wr∧w.heap.size+2≤wr.heap.size∧Rw wr w.heap.size 0 (ints .u8 (hzeros 32))∧Arr wr (w.heap.size+1) 0 .u8 (hzeros 32)) (fun _ i _=>n - (intOf i).toNat)
   case atStart=>exact ⟨0,_,_,_,Nat.zero_le _,rfl,rfl,hO2,hW,hS,h6,h8⟩
   case round =>
    clear hO2 hW hS h6 h8 hk
    obtain ⟨k,A9,m9,d9,hk,rfl,rfl,hO,hW,hS,h6,h8⟩:=hrel
    by_cases hlt:k<n
    ·obtain ⟨q,hq⟩:∃q,cs[k]? = some q:=⟨cs[k]'(by rw [hn.out];exact hlt),by simp [hn.out,hlt]⟩
     obtain ⟨g,off,rfl,hg,hc⟩:=hP (by rw [hn.out];omega)
     have hck:_=_:=(hW.cell (p:=⟨g,off+k,none⟩) hg).trans (hc k q hq)
     have hqo:=hok q (List.mem_of_getElem? hq)
     have HQ:=hid (textK_succ lbl L (HLK.out k q hq))
     have hql:q.2.2.length≤1000:=hqo.2.2.1
     have hqn:NumsD w.heap.size w .u8 q.1 q.2.2:=hqo.1.under
     obtain ⟨ql,hqe⟩:∃ql,q.2.2.length=ql:=⟨_,rfl⟩
     rw [hqe] at hck hql
     have HQL:=hid hqe
     have HK1:=hid (HKL.out k hk)
     have k0:(0:Int)≤k:=by omega
     have k1:(k:Int)<n:=by omega
     clear hqe hq hc hqo
     go_wp2_with (first
      | (go_at_call 63;refine (rput4 ql _ (by omega)).mono ?_;rintro e w5 ⟨B4,d4,rfl,hN4,hb4⟩
         have hck5:=(hb4.cell (p:=⟨g,off+k,none⟩) (Nat.lt_of_lt_of_le hg hW.size)).trans hck
         have hO5:=hO.stay hb4
         replace hS:=Nat.le_trans hS hb4.size
         replace hW:=hW.trans (Below.mono hb4 hW.size)
         replace h6:=h6.next hb4
         replace h8:=h8.next' hb4
         clear hO hb4)
      | (at_builtin;refine app_nums rfl (.tmp 60) (.tmp 61) 23 rfl (w.heap.size+2) 5 .u8 1 Tryz.underlying23 Tryz.info5 (by omega) A9 m9 d9 (textK lbl L k) rfl hO5 B4 d4 (splitB true 4 [(ql:Int)]) (by rw [split_len];rfl) hN4.nums (by have:=HK1.out;rw [split_len];omega) hS ?_
         intro A6 n6 c6 w6 hO6 hG6
         have hb6:Below (w.heap.size+2) w5 w6:=hG6.below hS fun g e=>(hO5.lt g e).1
         have hck6:=(World.cell?_of_block (a:=⟨g,off+k,none⟩) (hb6.block g (by omega))).trans hck5
         replace hS:=Nat.le_trans hS hb6.size
         replace hW:=hW.trans (Below.mono hb6 (by omega))
         replace h6:=h6.same (hb6.block w.heap.size (by omega))
         replace h8:=h8.below hb6 (by omega)
         have hq6:=(hqn.stay hW).nums hW.size
         clear hO5 hG6 hb6 hN4 hck5 hck)
      | (at_builtin;refine app_nums rfl (.tmp 63) (.tmp 67) 23 rfl (w.heap.size+2) 5 .u8 1 Tryz.underlying23 Tryz.info5 (by omega) A6 n6 c6 (textK lbl L k++splitB true 4 [(ql:Int)]) rfl hO6 q.1 q.2.1 q.2.2 (by rw [HQL.out];rfl) hq6 (by have:=HK1.out;rw [List.length_append,split_len,HQL.out];omega) hS ?_
         intro A7 n7 c7 w7 hO7 hG7
         have hb7:Below (w.heap.size+2) w6 w7:=hG7.below hS fun g e=>(hO6.lt g e).1
         replace hS:=Nat.le_trans hS hb7.size
         replace hW:=hW.trans (Below.mono hb7 (by omega))
         replace h6:=h6.same (hb7.block w.heap.size (by omega))
         replace h8:=h8.below hb7 (by omega)
         clear hO6 hG7 hb7 hq6 hck6))
     go_roundw
     case rel=>exact ⟨k+1,A7,n7,c7,by omega,rfl,by go_num,by rw [HQ.out];unfold ctxV;rw [HQL.out,←List.append_assoc];exact hO7,hW,hS,h6,h8⟩
     case measure=>simp [intOf];omega
    ·have e:k=n:=by omega
     subst e
     obtain ⟨T,hTe⟩:∃T,T=textV lbl L:=⟨_,rfl⟩
     have hTl:T.length=m9:=by rw [hO.len,hTe,textK_end lbl L k (by rw [HLL.out];omega)]
     have hT2:T.length≤2000:=by rw [hTe];exact HTL.out
     have hm2:m9≤3000:=by omega
     have HTl:=hid hTl
     have hTN:=hO.nums
     rw [textK_end lbl L k (by rw [HLL.out];omega),←hTe] at hTN
     rw [←hTe] at HR HTB
     have hA9:=hA.below hW
     have hDS:Hid (w.heap.size+2≤wr.heap.size):=hid hS
     clear hO hTl hT2 hTe hlt HTL HKL HLK HLL
     go_wp2_with (first
      | (go_at_call 64;refine (rvtag_any src T (r1++r2) A A9 l c m9 d9 _ HK h1 hkb hA9 HTl hm2 HTB hTN HR).mono ?_;rintro e w7 ⟨rfl,hb7⟩
         have R14:=(Rw.new w7 (ints .u8 (hzeros 64)) 83).roomA (us:=ints .u8 (r1++r2)) ((il HRL.out).trans (il (hz_len 64)).symm)
         have X14:=((Rw.new w7 (ints .u8 (hzeros 64)) 83).storedA (us:=ints .u8 (r1++r2)) ((il HRL.out).trans (il (hz_len 64)).symm)).arr
         have hb8:=hb7.trans (Below.mono (Below.setCells (below_new w7 (.cells (ints .u8 (hzeros 64)).toArray 83)) (Nat.le_refl _) 0 (ints .u8 (r1++r2)).toArray.toList) hb7.size)
         have hD7:Hid (w.heap.size+2≤w7.heap.size):=hid (Nat.le_trans hS hb7.size)
         replace h6:=h6.next hb8
         replace h8:=h8.next' hb8
         replace hW:=hW.trans (Below.mono hb8 hW.size)
         clear hb7 hb8 hTN hA9 hS hDS)
      | (with_reducible refine wpList_store_mid (op:=⟨none,.store 83 (.tmp 14) (.tmp 71),_,_,_,_⟩) rfl 83 (.tmp 14) (.tmp 71) rfl w7.heap.size 0 (ints .u8 (r1++r2)).toArray rfl rfl R14 (szA infH (il HRL.out)) (ints_all _ _) ?_
         generalize (w7.alloc (.cells (ints .u8 (hzeros 64)).toArray 83)).setCells w7.heap.size 0 (ints .u8 (r1++r2)).toArray.toList=w8 at *
         generalize w7.heap.size=b14 at *
         clear R14))
     have h80:Arr w8 (w.heap.size+1) 0 .u8 (fillK r1 0):=by rw [fillK_zero,H1.out];exact h8
     have hD:=hD7.out
     clear h8 hD7
     go_loopw [15] (fun i wr=>∃k:Nat,k≤32∧i=.int .i64 k∧Below w.heap.size w wr∧Rw wr w.heap.size 0 (ints .u8 (hzeros 32))∧Arr wr (w.heap.size+1) 0 .u8 (fillK r1 k)∧Arr wr b14 0 .u8 (r1++r2)) (fun i _=>32 - (intOf i).toNat)
     case atStart=>exact ⟨0,Nat.zero_le _,rfl,hW,h6,h80,X14⟩
     case round =>
      clear hW h6 h80 X14 hk
      obtain ⟨k,hk,rfl,hW,h6,h8,h14⟩:=hrel
      by_cases hlt:k<32
      ·obtain ⟨x,hx⟩:∃x,r1[k]? = some x:=⟨r1[k]'(by rw [H1.out];exact hlt),by simp [H1.out,hlt]⟩
       have hx1:=h14.at_ (i:=k) (x:=x) (by rw [List.getElem?_append_left (by rw [H1.out];exact hlt)];exact hx)
       obtain ⟨y,hy,hyf,_⟩:=h8.spot (i:=k) (by rw [fillK_length,H1.out];exact hlt)
       rw [Nat.zero_add] at hx1 hy hyf
       have HX:=hid (fillK_set r1 hx)
       have k0:(0:Int)≤k:=by omega
       have k1:(k:Int)<32:=by omega
       clear hx
       go_wp2
       go_roundw
       case rel =>
        have h:=h8.set k x
        rw [HX.out,Nat.zero_add] at h
        exact ⟨k+1,by omega,by go_num,hW.setCell (by show w.heap.size≤w.heap.size+1;omega) _,h6.same (Below.heap_setCell _ _ _ _ (by show w.heap.size≠w.heap.size+1;omega)),h,h14.apart _ (.inl (by show w.heap.size+1≠b14;omega))⟩
       case measure=>simp [intOf];omega
      ·have e:k=32:=by omega
       subst e
       have he:fillK r1 32=r1:=by have h:=fillK_end r1;rw [H1.out] at h;exact h
       rw [he] at h8
       have r8:=h8.range
       have R6:=h6.roomA (us:=ints .u8 r1) ((il H1.out).trans (il (hz_len 32)).symm)
       have X6:=h6.storedA (us:=ints .u8 r1) ((il H1.out).trans (il (hz_len 32)).symm)
       have hW2:=Below.setCells hW (g:=w.heap.size) (Nat.le_refl _) 0 (ints .u8 r1).toArray.toList
       clear he h6 h14 h8 hlt
       go_wp2_with (first
        | (with_reducible refine wpList_load_mid (op:=⟨some 81,.load 22 (.tmp 8),_,_,_,_⟩) rfl 22 (.tmp 8) rfl (w.heap.size+1) 0 rfl (ints .u8 r1) _ r8 Tryz.underlying22 rfl (szV infS32 (il H1.out)) ?_)
        | (with_reducible refine wpList_store_mid (op:=⟨none,.store 22 (.tmp 6) (.tmp 81),_,_,_,_⟩) rfl 22 (.tmp 6) (.tmp 81) rfl w.heap.size 0 (ints .u8 r1).toArray rfl rfl R6 (szA infS32 (il H1.out)) (ints_all _ _) ?_
           clear R6 r8))
       exact bodyPost_ret (results_rowV rfl _ _ w.heap.size 0 rfl (.int .i64 0) rfl (ints .u8 r1) _ X6.range Tryz.underlying22 rfl (szV infS32 (il H1.out))) rfl ⟨rfl,hW2⟩
theorem rkey_any (src:List Int) (A PA:Option Addr) (l c n pc:Nat) (s:ByteArray) (cs:List Part) (w:World) (HK:Hid (src.length=l)) (h0:0<l) (h1:l≤1000) (hkb:HByt src) (hA:Nums w .u8 A src) (hz6:s.size≤64)
 (hP:Parts w PA cs) (hn:Hid (cs.length=n)) (hn6:n≤16) (hok:∀q ∈ cs,PartOk w q) (hlen:∀q ∈ cs,q.2.2.length≤100) :
 Calls Tryz.prog 32 #[.slice A l c,.string s,.slice PA n pc] w fun e w'=>e=.returned (.tuple #[.agg (ints .u8 (keyD src (strL s) (cs.map (·.2.2)))).toArray,.int .i64 0])∧Below w.heap.size w w':=by
 obtain ⟨t,ht⟩:∃t,t=tagV src (textV (strL s) (cs.map (·.2.2))):=⟨_,rfl⟩
 have e:keyD src (strL s) (cs.map (·.2.2))=t.take 32:=by rw [ht];unfold keyD;rfl
 have hl:t.length=64:=by rw [ht];exact tagV_len _ _
 have h32:(t.take 32).length=32:=by rw [List.length_take,hl];rfl
 have h2:t.take 32++t.drop 32=t:=List.take_append_drop 32 t
 have h3:(t.take 32++t.drop 32).length=64:=by rw [h2,hl]
 have h4:tagV src (textV (strL s) (cs.map (·.2.2)))=t.take 32++t.drop 32:=by rw [h2,ht]
 rw [e]
 clear e ht h2
 generalize t.take 32=r1 at *
 generalize t.drop 32=r2 at *
 exact rkey_core src r1 r2 A PA l c n pc s.size s cs w HK h0 h1 hkb hA (hid rfl) hz6 hP hn hn6 hok hlen (hid h4) (hid h3) (hid h32)
end Go.Proofs.YtkblmdakejmmhaaGreatDoor
