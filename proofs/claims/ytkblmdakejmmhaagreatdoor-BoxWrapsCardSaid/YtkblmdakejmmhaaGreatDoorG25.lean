import Derived.Test.YtkblmdakejmmhaaGreatDoorG24
import Derived.RangeFuncNested
import Derived.RangeFuncBound
import Derived.Shelf.Abstract
import Derived.OwnWalkIn
import Derived.TacticsInMore
import Derived.LoopNIn
import Derived.LoopIn
namespace Go.Proofs.YtkblmdakejmmhaaGreatDoor
open Go Go.RowKit
section
set_option maxRecDepth 50000
abbrev z64c:Array Value:=#[.int .u8 0,.int .u8 0,.int .u8 0,.int .u8 0,.int .u8 0,.int .u8 0,.int .u8 0,.int .u8 0,.int .u8 0,.int .u8 0,.int .u8 0,.int .u8 0,.int .u8 0,.int .u8 0,.int .u8 0,.int .u8 0,.int .u8 0,.int .u8 0,.int .u8 0,.int .u8 0,.int .u8 0,.int .u8 0,.int .u8 0,.int .u8 0,.int .u8 0,.int .u8 0,.int .u8 0,.int .u8 0,.int .u8 0,.int .u8 0,.int .u8 0,.int .u8 0,.int .u8 0,.int .u8 0,.int .u8 0,.int .u8 0,.int .u8 0,.int .u8 0,.int .u8 0,.int .u8 0,.int .u8 0,.int .u8 0,.int .u8 0,.int .u8 0,.int .u8 0,.int .u8 0,.int .u8 0,.int .u8 0,.int .u8 0,.int .u8 0,.int .u8 0,.int .u8 0,.int .u8 0,.int .u8 0,.int .u8 0,.int .u8 0,.int .u8 0,.int .u8 0,.int .u8 0,.int .u8 0,.int .u8 0,.int .u8 0,.int .u8 0,.int .u8 0]
abbrev z16c:Array Value:=#[.int .u32 0,.int .u32 0,.int .u32 0,.int .u32 0,.int .u32 0,.int .u32 0,.int .u32 0,.int .u32 0,.int .u32 0,.int .u32 0,.int .u32 0,.int .u32 0,.int .u32 0,.int .u32 0,.int .u32 0,.int .u32 0]
def z64:List Int:=List.replicate 64 0
theorem z64_eq:z64c=(ints .u8 z64).toArray:=rfl
theorem z16_eq:z16c=(ints .u32 z16).toArray:=rfl
theorem info22:(Tryz.prog.info? 22).map (·.size)=some 32:=by kernel_rfl
theorem info23:(Tryz.prog.info? 40).map (·.size)=some 12:=by kernel_rfl
theorem info33:(Tryz.prog.info? 83).map (fun i=>(i.zero,i.size))=some (some (.agg (ints .u8 z64).toArray),64):=by kernel_rfl
theorem wpList_arrP {P:Program} {T e k m c:Nat} (hT:P.underlying T=some (.array k e)) (hk:k≤m) {ops:Array Oper} {rest:List Oper} {o:Oper} {a:Act} {w:World} {Q:Exit→Act→World→Prop} (hgd:o.guard=none) (x:Operand) (ho:o.op=.sliceToArrayPointer T x) (A:Option Addr)
 (hx:a.eval x=.slice A m c) (h:wpList P ops Q rest (a.put o.dst (.pointer A)) w):wpList P ops Q (o::rest) a w :=
 wpList_plain hgd fun K hK=>by
  unfold Oper.wp
  rw [ex_arrP hT hk ho a.eval w hx (fun _=>rfl)]
  exact hK _ _ h
theorem block_world (key nonce:List Int) (w:World):∃W,W=(((w.alloc (.cells (ints .u8 key).toArray 22)).alloc (.cells (ints .u8 nonce).toArray 40)).alloc (.cells z64c 83))∧Arr W w.heap.size 0 .u8 key∧Arr W (w.heap.size+1) 0 .u8 nonce∧Arr W (w.heap.size+1+1) 0 .u8 z64∧Below w.heap.size w W∧W.heap.size=w.heap.size+3:=by
 have a1:=Arr.made w .u8 key 22
 have a2:=Arr.made (w.alloc (.cells (ints .u8 key).toArray 22)) .u8 nonce 40
 have a3:=Arr.made ((w.alloc (.cells (ints .u8 key).toArray 22)).alloc (.cells (ints .u8 nonce).toArray 40)) .u8 z64 83
 simp only [World.size_alloc] at a2 a3
 rw [z64_eq]
 refine ⟨_,rfl,(a1.alloc _).alloc _,a2.alloc _,a3,(((Below.refl _ w).alloc (Nat.le_refl _) _).alloc (by simp) _).alloc (by simp;omega) _,by simp⟩
set_option maxHeartbeats 2000000 in
theorem block_any (key nonce:List Int) (count:Int) (w:World) (hT:Tabs w) (hk:Hid (key.length=32)) (hn:Hid (nonce.length=12)) (hkb:HByt key) (hnb:HByt nonce) (hc:Hid (WdZ count)) :
 Calls Tryz.prog 59 #[.agg (ints .u8 key).toArray,.agg (ints .u8 nonce).toArray,.int .u32 count] w fun e w'=>e=.returned (.agg (ints .u8 (blockL key nonce count)).toArray)∧Below w.heap.size w w':=by
 obtain ⟨W1,hW1,hK,hN,hZ,hB,hsz⟩:=block_world key nonce w
 have HW:=hid hW1
 have r3:(((w.alloc (.cells (ints .u8 key).toArray 22)).alloc (.cells (ints .u8 nonce).toArray 40)).alloc (.cells z64c 83)).rangeAt w.heap.size 0 (ints .u8 key):=by rw [←hW1];exact hK.range
 have r4:(((w.alloc (.cells (ints .u8 key).toArray 22)).alloc (.cells (ints .u8 nonce).toArray 40)).alloc (.cells z64c 83)).rangeAt (w.heap.size+1) 0 (ints .u8 nonce):=by rw [←hW1];exact hN.range
 have HZ:=hid hsz
 have hTW:=hT.next hB
 clear hW1 hsz hK hN
 have i22:(Tryz.prog.info? 22).map (·.size)=some (ints .u8 key).length:=by rw [ints_length,hk.out];exact info22
 have i23:(Tryz.prog.info? 40).map (·.size)=some (ints .u8 nonce).length:=by rw [ints_length,hn.out];exact info23
 have HSL:Hid ((startL key nonce count).length=16):=hid (startL_length hk.out hn.out)
 have HSW:Hid (Wds (startL key nonce count)):=hid (startL_wds hkb hnb hc.out)
 obtain ⟨sl,hsl⟩:∃s,startL key nonce count=s:=⟨_,rfl⟩
 have HS:=hid hsl
 rw [hsl] at HSL HSW
 clear hsl
 go_enter Tryz.func59,Tryz.ntmps59
 go_wp2_with (first
  | (with_reducible refine wpList_load_mid (op:=⟨some 11,.load 22 (.tmp 3),_,_,_,_⟩) rfl 22 (.tmp 3) rfl w.heap.size 0 rfl (ints .u8 key) _ r3 Tryz.underlying22 rfl i22 ?_)
  | (with_reducible refine wpList_load_mid (op:=⟨some 12,.load 40 (.tmp 4),_,_,_,_⟩) rfl 40 (.tmp 4) rfl (w.heap.size+1) 0 rfl (ints .u8 nonce) _ r4 Tryz.underlying40 rfl i23 ?_)
  | (go_at_call 86;rw [←HW.out];clear r3 r4;refine (start_any key nonce count _ hk hn hkb hnb).mono ?_;rintro e w2 ⟨rfl,hb2⟩
     rw [HS.out]
     have s2:=hb2.size
     have hZ2:=hZ.below hb2 (by rw [HZ.out];omega)
     have hB2:=hB.trans (hb2.mono hB.size)
     have hT2:=hTW.next hb2
     have t7:(w2.alloc (.cells z16c 115)).there w2.heap.size 0 (ints .u32 sl).toArray.size:=by
      have:=(Arr.made w2 .u32 z16 115).there
      have e:(ints .u32 sl).toArray.size=z16.length:=by simp [HSL.out,z16]
      rw [e,z16_eq];exact this
     have i51:=szA info51 (il (k:=.u32) HSL.out))
  | (with_reducible refine wpList_store_mid (op:=⟨none,.store 115 (.tmp 7) (.tmp 14),_,_,_,_⟩) rfl 115 (.tmp 7) (.tmp 14) rfl w2.heap.size 0 (ints .u32 sl).toArray rfl rfl t7 i51 (ints_all _ _) ?_
     have h7:Arr ((w2.alloc (.cells z16c 115)).setCells w2.heap.size 0 (ints .u32 sl).toArray.toList) w2.heap.size 0 .u32 sl:=(Arr.made w2 .u32 z16 115).all (by rw [HSL.out];rfl)
     have hB3:Below w2.heap.size w2 ((w2.alloc (.cells z16c 115)).setCells w2.heap.size 0 (ints .u32 sl).toArray.toList):=Below.setCells ((Below.refl _ _).alloc (Nat.le_refl _) _) (Nat.le_refl _) _ _
     have z3:((w2.alloc (.cells z16c 115)).setCells w2.heap.size 0 (ints .u32 sl).toArray.toList).heap.size=w2.heap.size+1:=by rw [setCells_size];simp
     have hZ3:=hZ2.below hB3 (by rw [HZ.out] at s2;omega)
     have hBw:=hB2.trans (hB3.mono hB2.size)
     have hT3:=hT2.next hB3
     generalize (w2.alloc (.cells z16c 115)).setCells w2.heap.size 0 (ints .u32 sl).toArray.toList=w3 at *
     have b7l:w2.heap.size<w3.heap.size:=by omega
     have b7z:w.heap.size+1+1<w2.heap.size:=by rw [HZ.out] at s2;omega
     clear z3 t7 hZ2 hB2 hT2 hB3 hb2 s2 hZ hTW hB
     generalize w2.heap.size=b7 at *
     have G7:=h7.range
     have i51r:(Tryz.prog.info? 115).map (·.size)=some (ints .u32 sl).length:=szV info51 (il (k:=.u32) HSL.out)
     have t8:(w3.alloc (.cells z16c 115)).there w3.heap.size 0 (ints .u32 sl).toArray.size:=by
      have:=(Arr.made w3 .u32 z16 115).there
      have e:(ints .u32 sl).toArray.size=z16.length:=by simp [HSL.out,z16]
      rw [e,z16_eq];exact this)
  | (with_reducible refine wpList_load_mid (op:=⟨some 15,.load 115 (.tmp 7),_,_,_,_⟩) rfl 115 (.tmp 7) rfl b7 0 rfl (ints .u32 sl) _ G7 Tryz.underlying115 rfl i51r ?_)
  | (with_reducible refine wpList_store_mid (op:=⟨none,.store 115 (.tmp 8) (.tmp 15),_,_,_,_⟩) rfl 115 (.tmp 8) (.tmp 15) rfl w3.heap.size 0 (ints .u32 sl).toArray rfl rfl t8 i51 (ints_all _ _) ?_
     have h8:Arr ((w3.alloc (.cells z16c 115)).setCells w3.heap.size 0 (ints .u32 sl).toArray.toList) w3.heap.size 0 .u32 sl:=(Arr.made w3 .u32 z16 115).all (by rw [HSL.out];rfl)
     have hB3:Below w3.heap.size w3 ((w3.alloc (.cells z16c 115)).setCells w3.heap.size 0 (ints .u32 sl).toArray.toList):=Below.setCells ((Below.refl _ _).alloc (Nat.le_refl _) _) (Nat.le_refl _) _ _
     have z3:((w3.alloc (.cells z16c 115)).setCells w3.heap.size 0 (ints .u32 sl).toArray.toList).heap.size=w3.heap.size+1:=by rw [setCells_size];simp
     have hZ4:=hZ3.below hB3 (by omega)
     have h74:=h7.below hB3 b7l
     have hB4:=hBw.trans (hB3.mono hBw.size)
     have hT4:=hT3.next hB3
     generalize (w3.alloc (.cells z16c 115)).setCells w3.heap.size 0 (ints .u32 sl).toArray.toList=w4 at *
     have b78:b7≠w3.heap.size:=by omega
     have b8z:w.heap.size+1+1<w3.heap.size:=by omega
     have b8w:w.heap.size≤w3.heap.size:=by omega
     have b80:1<w3.heap.size:=hT3.1
     have hl4:w3.heap.size<w4.heap.size:=by omega
     clear z3 t8 hZ3 hBw hT3 hB3 G7 h7 b7l
     generalize w3.heap.size=b8 at *))
 go_loopw [16] (fun i wr=>∃k:Nat,k≤10∧i=.int .i64 k∧Arr wr b8 0 .u32 (rk sl k)∧Only b8 w4 wr) (fun i _=>10 - (intOf i).toNat)
 case atStart=>exact ⟨0,by omega,rfl,h8,Only.refl _ _⟩
 case round =>
  obtain ⟨k,hk10,rfl,hA,hO⟩:=hrel
  by_cases hlt:k<10
  ·have hlt':(k:Int)<10:=by omega
   have hl16:Hid ((rk sl k).length=16):=hid (by rw [rk_length];exact HSL.out)
   have hwk:Hid (Wds (rk sl k)):=hid (rk_wds HSW.out k)
   have hTr:=hT4.only hO b80
   go_wp2_with (go_at_call 87;refine (mix_anyZ b8 (rk sl k) _ hTr b80 hl16 hwk hA).mono ?_;rintro e w5 ⟨rfl,hA5,hO5⟩)
   go_roundw
   case rel=>exact ⟨k+1,by omega,by go_num,hA5,hO.trans hO5⟩
   case measure=>simp [intOf];omega
  ·have e:k=10:=by omega
   subst e
   have h7r:=h74.only hO b78
   have hZr:=hZ4.only hO (by omega)
   have hBr:Below w.heap.size w wr:=hB4.trans (hO.below b8w hB4.size)
   have hlr:b8<wr.heap.size:=Nat.lt_of_lt_of_le hl4 hO.size
   obtain ⟨rl,hrl⟩:∃r,rk sl 10=r:=⟨_,rfl⟩
   have HRL:=hid hrl
   rw [hrl] at hA
   have hrlen:Hid (rl.length=16):=hid (by rw [←hrl,rk_length];exact HSL.out)
   have hrw:Hid (Wds rl):=hid (by rw [←hrl];exact rk_wds HSW.out 10)
   clear hO h74 hZ4 hB4 hT4 hrl
   generalize wr=wa at *
   have G7:=h7r.range
   go_wp2_with (with_reducible refine wpList_load_mid (op:=⟨some 20,.load 115 (.tmp 7),_,_,_,_⟩) rfl 115 (.tmp 7) rfl b7 0 rfl (ints .u32 sl) _ G7 Tryz.underlying115 rfl i51r ?_)
   go_loopw [21] (fun i wq=>∃k:Nat,k≤16∧i=.int .i64 k∧Arr wq b8 0 .u32 (sumK rl sl k)∧Only b8 wa wq) (fun i _=>16 - (intOf i).toNat)
   case atStart=>exact ⟨0,by omega,rfl,by rw [sumK_zero];exact hA,Only.refl _ _⟩
   case round =>
    obtain ⟨k,hk16,rfl,hA2,hO2⟩:=hrel
    by_cases hlt2:k<16
    ·have hlt':(k:Int)<16:=by omega
     have hpos:(0:Int)≤k:=by omega
     obtain ⟨x,hx⟩:∃x,sl[k]? = some x:=⟨sl[k]'(by have:=HSL.out;omega),by simp [HSL.out,hlt2]⟩
     obtain ⟨y,hy⟩:∃y,rl[k]? = some y:=⟨rl[k]'(by have:=hrlen.out;omega),by simp [hrlen.out,hlt2]⟩
     have hix:=fun W:World=>run_index_row (P:=Tryz.prog) (w:=W) 115 53 16 (ints .u32 sl) .i64 k (.int .u32 x) _ Tryz.underlying115 Tryz.underlying53 rfl info24s hlt2 (by simp [ints,hx])
     have hyk:(sumK rl sl k)[k]? = some y:=by rw [sumK_at _ _ _ (by rw [hrlen.out];exact hlt2),if_neg (by omega)];simp [List.getD,hy]
     have hcc:=hA2.at_ hyk
     have hff:=hA2.free (i:=k) (by rw [sumK_length,hrlen.out];exact hlt2)
     rw [Nat.zero_add] at hcc hff
     have hset:(sumK rl sl k).set k ((y+x)%4294967296)=sumK rl sl (k+1):=by
      have:=sumK_set rl sl (k:=k) (by rw [hrlen.out];exact hlt2)
      simp only [List.getD_eq_getElem?_getD,hx,hy,Option.getD_some] at this
      exact this
     have HSET:=hid hset
     clear hset hyk hx hy
     go_wp2
     go_roundw
     case rel =>
      have h:=hA2.set k ((y+x)%4294967296)
      rw [HSET.out,Nat.zero_add] at h
      exact ⟨k+1,by omega,by go_num,h,hO2.setCell (.inl rfl) _⟩
     case measure=>simp [intOf];omega
    ·have e:k=16:=by omega
     subst e
     have hlw:(sumK rl sl 16).length=16:=by rw [sumK_length];exact hrlen.out
     have HB:Hid (splitB false 4 (sumK rl sl 16)=blockL key nonce count):=hid (by
      show _=splitB false 4 (words key nonce count)
      have e:words key nonce count=sumK (rk (startL key nonce count) 10) (startL key nonce count) 16:=rfl
      rw [e,HS.out,HRL.out])
     have hZq:=hZr.only hO2 (by omega)
     have hBq:=hBr.trans (hO2.below b8w hBr.size)
     have hZl:w.heap.size+1+1<wr.heap.size:=Nat.lt_of_lt_of_le (Nat.lt_trans b8z hlr) hO2.size
     clear hA hBr hZr h7r hO2 G7
     go_wp2_with (first
      | (go_at_call 88;refine (wBytes16 _ _ (sumK rl sl 16) _ hlw hA2.nums).mono ?_;rintro e w6 ⟨g,f,d,ys,rfl,HY,HYL,hR,hb6⟩
         have hZ6:=hZq.below hb6 hZl
         have hB6:=hBq.trans (hb6.mono hBq.size)
         have i33:(Tryz.prog.info? 83).map (·.size)=some (ints .u8 ys).length:=szV info33 (il HYL.out)
         have i33a:=szA info33 (il (k:=.u8) HYL.out)
         have t6:w6.there (w.heap.size+1+1) 0 (ints .u8 ys).toArray.size:=by
          have:=hZ6.there
          have e:(ints .u8 ys).toArray.size=z64.length:=by simp [HYL.out,z64]
          rw [e];exact this)
      | (with_reducible refine wpList_arrP (o:=⟨some 34,.sliceToArrayPointer 83 (.tmp 33),_,_,_,_⟩) Tryz.underlying83 (Nat.le_refl 64) rfl (.tmp 33) rfl (some ⟨g,f,none⟩) (c:=d) rfl ?_)
      | (with_reducible refine wpList_load_mid (op:=⟨some 35,.load 83 (.tmp 34),_,_,_,_⟩) rfl 83 (.tmp 34) rfl g f rfl (ints .u8 ys) _ hR Tryz.underlying83 rfl i33 ?_)
      | (with_reducible refine wpList_store_mid (op:=⟨none,.store 83 (.tmp 6) (.tmp 35),_,_,_,_⟩) rfl 83 (.tmp 6) (.tmp 35) rfl (w.heap.size+1+1) 0 (ints .u8 ys).toArray rfl rfl t6 i33a (ints_all _ _) ?_))
     have hZ7:=hZ6.all (ys:=ys) (by rw [HYL.out];rfl)
     (try simp only [Exit.inBlock,Exit.then])
     refine ret_rows rfl (w.heap.size+1+1) 0 rfl (ints .u8 ys) _ hZ7.range Tryz.underlying83 rfl i33 rfl ?_
     exact ⟨by rw [HY.out,HB.out],Below.setCells hB6 (by omega) 0 _⟩
abbrev xb (a b:Int):Int:=bits .xor .u8 a b
theorem nat_lt8 (x:Int) (h:0≤x∧x<256):x.toNat<2^8:=by have:=h.1;have:=h.2;omega
theorem xb_byt {a b:Int} (ha:0≤a∧a<256) (hb:0≤b∧b<256):0≤xb a b∧xb a b<256:=by
 show 0≤bits .xor .u8 a b∧bits .xor .u8 a b<256
 rw [u8_xor _ _ ha.1 ha.2 hb.1 hb.2]
 have:=Nat.xor_lt_two_pow (nat_lt8 a ha) (nat_lt8 b hb)
 exact ⟨by omega,by omega⟩
def hideL (b s:List Int):List Int:=List.zipWith xb b s
theorem hideL_length {b s:List Int} (h:b.length≤s.length):(hideL b s).length=b.length:=by simp [hideL];omega
theorem hideL_at {b s:List Int} {i:Nat} {x y:Int} (hx:b[i]? = some x) (hy:s[i]? = some y):(hideL b s)[i]? = some (xb x y):=by
 unfold hideL
 rw [List.getElem?_zipWith,hx,hy]
theorem hideL_byt {b s:List Int} (hb:HByt b) (hs:HByt s):HByt (hideL b s):=fun z hz=>by
 obtain ⟨i,hi⟩:=List.mem_iff_getElem?.1 hz
 unfold hideL at hi
 rw [List.getElem?_zipWith] at hi
 cases h1:b[i]? with
 | none=>rw [h1] at hi;simp at hi
 | some x =>
   cases h2:s[i]? with
   | none=>rw [h1,h2] at hi;simp at hi
   | some y =>
     rw [h1,h2] at hi
     simp at hi
     rw [←hi]
     exact xb_byt (hb.at_ h1) (hs.at_ h2)
theorem hideL_more {b s t:List Int} (h:s <+: t) (hl:b.length≤s.length):hideL b t=hideL b s:=by
 obtain ⟨r,rfl⟩:=h
 apply List.ext_getElem?
 intro i
 unfold hideL
 rw [List.getElem?_zipWith,List.getElem?_zipWith]
 by_cases hi:i<b.length
 ·rw [List.getElem?_append_left (by omega)]
 ·rw [List.getElem?_eq_none (l:=b) (by omega)]
theorem hideL_len {b s:List Int} (h:s.length≤b.length):(hideL b s).length=s.length:=by simp [hideL];omega
theorem hideL_snoc {b l:List Int} {x y:Int} (hx:b[l.length]? = some x):hideL b (l++[y])=hideL b l++[xb x y]:=by
 have hl:=(List.getElem?_eq_some_iff.1 hx).1
 apply List.ext_getElem?
 intro i
 by_cases h:i<l.length
 ·rw [List.getElem?_append_left (by rw [hideL_len (by omega)];exact h)]
  unfold hideL
  rw [List.getElem?_zipWith,List.getElem?_zipWith,List.getElem?_append_left h]
 ·rw [List.getElem?_append_right (by rw [hideL_len (by omega)];omega),hideL_len (by omega)]
  unfold hideL
  rw [List.getElem?_zipWith,List.getElem?_append_right (by omega)]
  by_cases e:i=l.length
  ·subst e;rw [hx];simp
  ·rw [List.getElem?_eq_none (l:=[y]) (by simp;omega),List.getElem?_eq_none (l:=[xb x y]) (by simp;omega)]
   cases b[i]? <;> rfl
theorem hideL_over {b l:List Int} (y:List Int) (h:b.length≤l.length):hideL b (l++y)=hideL b l:=hideL_more (List.prefix_append l y) h
theorem strm_at {key nonce:List Int} {c:Nat} (hk:key.length=32) (hn:nonce.length=12):∀(n:Nat) {k j:Nat},k<n→j<64→(strm key nonce c n)[64*k+j]? = (blockL key nonce ((c+k:Nat):Int))[j]?
 | 0,_,_,h,_=>by omega
 | n+1,k,j,h,hj=>by
   rw [strm]
   by_cases e:k<n
   ·rw [List.getElem?_append_left (by rw [strm_length hk hn];omega)]
    exact strm_at hk hn n e hj
   ·have e:k=n:=by omega
    subst e
    rw [List.getElem?_append_right (by rw [strm_length hk hn];omega),strm_length hk hn]
    congr 1;omega
end
section
set_option maxHeartbeats 4000000
set_option maxRecDepth 50000
abbrev B8:={ x:Int // 0≤x∧x<256 }
def bvals (l:List B8):List Int:=l.map (·.1)
theorem bvals_app (l:List B8) (x:B8):bvals (l++[x])=bvals l++[x.1]:=by simp [bvals]
theorem bvals_len (l:List B8):(bvals l).length=l.length:=by simp [bvals]
def KpS (n₀ L H:Nat) (W W':World):Prop:=Below n₀ W W'∧∀b,L≤b→b<H→W'.heap[b]? = W.heap[b]?
theorem KpS.t {n₀ L H:Nat} {A B C:World} (h:KpS n₀ L H A B) (k:KpS n₀ L H B C):KpS n₀ L H A C:=⟨h.1.trans k.1,fun b h1 h2=>(k.2 b h1 h2).trans (h.2 b h1 h2)⟩
theorem KpS.b {n₀ L H:Nat} {w:World} (hn:n₀≤w.heap.size) (hH:H≤w.heap.size) (W:World) (l:Nat) (o o':Obj) (hl:w.heap.size≤l) (h:W.heap[l]? = some o) (h1:o.isCells=false) (h2:o.isWalk=false):KpS n₀ L H W (W.putObj l o') :=
 ⟨belowK_b hn W l o o' hl h h1 h2,fun b _ hb=>World.putObj_heap_other (by omega)⟩
structure Lay (n₀ L H bk bn:Nat) (key nonce:List Int) (W:World):Prop where
 tab:Tabs W
 k:Arr W bk 0 .u8 key
 n:Arr W bn 0 .u8 nonce
theorem Lay.kp {n₀ L H bk bn:Nat} {key nonce:List Int} {W W':World} (h:Lay n₀ L H bk bn key nonce W) (h0:1<n₀) (hk:L≤bk∧bk<H) (hn:L≤bn∧bn<H) (hW:KpS n₀ L H W W'):Lay n₀ L H bk bn key nonce W' :=
 ⟨h.tab.below hW.1 h0,h.k.same (hW.2 bk hk.1 hk.2),h.n.same (hW.2 bn hn.1 hn.2)⟩
theorem Lay.next {n₀ L H bk bn:Nat} {key nonce:List Int} {W W':World} (h:Lay n₀ L H bk bn key nonce W) (hk:key.length=32) (hn:nonce.length=12) (hW:Below W.heap.size W W'):Lay n₀ L H bk bn key nonce W' :=
 ⟨h.tab.next hW,h.k.below hW (h.k.lt (by omega)),h.n.below hW (h.n.lt (by omega))⟩
theorem info5s:(Tryz.prog.info? 5).map (·.size)=some 1:=by kernel_rfl
theorem stream_any (key nonce:List Int) (c:Int) (w:World) :
 Calls Tryz.prog 58 #[.agg (ints .u8 key).toArray,.agg (ints .u8 nonce).toArray,.int .u32 c] w fun e w'=>e=.returned (.func (.func 85) #[] #[.pointer (some ⟨w.heap.size+1+1,0,none⟩),.pointer (some ⟨w.heap.size,0,none⟩),.pointer (some ⟨w.heap.size+1,0,none⟩)])∧w'=((w.alloc (.cells (ints .u8 key).toArray 22)).alloc (.cells (ints .u8 nonce).toArray 40)).alloc (.cells #[.int .u32 c] 53):=by
 go_enter Tryz.func58,Tryz.ntmps58
 go_wp2
 go_ret
 exact ⟨rfl,rfl⟩
theorem stream1_in (n:Nat) (hn1:1≤n) (l n₀ L H bk bn bc c:Nat) (key nonce:List Int) (J Jx:List B8→World→Prop) (W0:World)
 (hk:Hid (key.length=32)) (hn:Hid (nonce.length=12)) (hkb:HByt key) (hnb:HByt nonce) (hc:c<4294967296) (h0:1<n₀) (hLk:L≤bk∧bk<H) (hLn:L≤bn∧bn<H)
 (hJ:AbidesFrom W0.heap.size J)
 (hY:∀pre x W,J pre W→pre.length<64*(4294967296 - c)→YieldAt Fence.wide (n - 1) Tryz.prog l #[.int .u8 x.1] W fun e W' =>
   (e=.returned (.bool true)∧J (pre++[x]) W'∧KpS n₀ L H W W')∨(e=.returned (.bool false)∧Jx (pre++[x]) W'))
 (hcc:W0.cell? ⟨bc,0,none⟩=some (.int .u32 (c:Int))) (hLay:Lay n₀ L H bk bn key nonce W0) (hJ0:J [] W0) :
 Calls Tryz.prog 85 #[.func (.yield l) #[] #[],.pointer (some ⟨bc,0,none⟩),.pointer (some ⟨bk,0,none⟩),.pointer (some ⟨bn,0,none⟩)] W0 fun e W'=>(∃v,e=.returned v) ∧
  ((∃xs,bvals xs=strm key nonce c (4294967296 - c)∧J xs W')∨(∃pre,bvals pre <+: strm key nonce c (4294967296 - c)∧Jx pre W')):=by
 have hJn:∀pre A B,J pre A→Below A.heap.size A B→J pre B:=fun pre A B h hb=>hJ pre A B none h (grown_of_below hb none) (fun r e=>by cases e)
 have i22:(Tryz.prog.info? 22).map (·.size)=some (ints .u8 key).length:=by rw [ints_length,hk.out];exact info22
 have i23:(Tryz.prog.info? 40).map (·.size)=some (ints .u8 nonce).length:=by rw [ints_length,hn.out];exact info23
 clear hJ
 go_enter Tryz.func85,Tryz.ntmps85
 go_wp2
 go_loopw [5] (fun v wr=>∃(m:Nat) (pre:List B8),c+m≤4294967296∧v=.int .i64 ((c+m:Nat):Int)∧bvals pre=strm key nonce c m∧J pre wr∧Lay n₀ L H bk bn key nonce wr) (fun i _=>4294967296 - (intOf i).toNat)
 case atStart=>exact ⟨0,[],by omega,rfl,rfl,hJ0,hLay⟩
 case round =>
  clear hJ0 hLay hcc
  obtain ⟨m,pre,hm,rfl,hpre,hJr,hLr⟩:=hrel
  obtain ⟨q,hq⟩:∃q,c+m=q:=⟨_,rfl⟩
  rw [hq] at hm ⊢
  have HQ:=hid hq
  have HPRE:=hid hpre
  clear hq hpre
  have hq0:(0:Int)≤q:=by omega
  by_cases hlt:q<4294967296
  ·have hlt':(q:Int)<4294967296:=by omega
   have hwq:IntKind.u32.wrap (q:Int)=q:=IntWalk.u32_in _ ⟨by omega,by omega⟩
   have hwq2:(q:Int)%4294967296=q:=by omega
   have hK2:=hLr.k.range
   have hN2:=hLr.n.range
   have hwc:Hid (WdZ (q:Int)):=hid ⟨by omega,by omega⟩
   go_wp2_with (first
    | (with_reducible refine wpList_load_mid (op:=⟨some 14,.load 22 (.tmp 2),_,_,_,_⟩) rfl 22 (.tmp 2) rfl bk 0 rfl (ints .u8 key) _ hK2 Tryz.underlying22 rfl i22 ?_)
    | (with_reducible refine wpList_load_mid (op:=⟨some 15,.load 40 (.tmp 3),_,_,_,_⟩) rfl 40 (.tmp 3) rfl bn 0 rfl (ints .u8 nonce) _ hN2 Tryz.underlying40 rfl i23 ?_)
    | (go_at_call 59;refine (block_any key nonce (q:Int) _ hLr.tab hk hn hkb hnb hwc).mono ?_;rintro e w2 ⟨rfl,hb2⟩))
   obtain ⟨bl,hbl⟩:∃l,blockL key nonce (q:Int)=l:=⟨_,rfl⟩
   have hbl64:Hid (bl.length=64):=hid (by rw [←hbl];exact blockL_length hk.out hn.out)
   have hblb:HByt bl:=by rw [←hbl];exact blockL_byt _ _ _
   have HS:Hid (strm key nonce c (m+1)=strm key nonce c m++bl):=hid (by rw [←hbl,←HQ.out];rfl)
   rw [hbl]
   have hJ2:=hJn pre wr w2 hJr hb2
   have hL2:=hLr.next hk.out hn.out hb2
   clear hJr hLr hb2 hK2 hN2 hbl
   generalize wr=wo at *
   refine (wpIn_wide (n:=n)).1 ?_
   gi_loopw [19] (fun i wr=>∃(j:Nat) (pr:List B8),j≤64∧i=.int .i64 j∧bvals pr=strm key nonce c m++bl.take j∧J pr wr∧Lay n₀ L H bk bn key nonce wr) (fun i _=>64 - (intOf i).toNat)
   case atStart=>exact ⟨0,pre,by omega,rfl,by rw [HPRE.out,List.take_zero,List.append_nil],hJ2,hL2⟩
   case round =>
    clear hJ2 hL2
    obtain ⟨j,pr,hj,rfl,hpr,hJr,hLr⟩:=hrel
    have HPR:=hid hpr
    clear hpr
    by_cases hlj:j<64
    ·have hlj':(j:Int)<64:=by omega
     have hj0:(0:Int)≤j:=by omega
     obtain ⟨y,hy⟩:∃y,bl[j]? = some y:=⟨bl[j]'(by rw [hbl64.out];exact hlj),by simp [hbl64.out,hlj]⟩
     have hix:=fun W:World=>run_index_row (P:=Tryz.prog) (w:=W) 83 5 64 (ints .u8 bl) .i64 j (.int .u8 y) _ Tryz.underlying83 Tryz.underlying5 rfl info5s hlj (by simp [ints,hy])
     have hyb:=hblb.at_ hy
     have hlen:pr.length<64*(4294967296 - c):=by
      have h1:=congrArg List.length HPR.out
      rw [bvals_len,List.length_append,strm_length hk.out hn.out,List.length_take,hbl64.out] at h1
      have:=HQ.out
      omega
     have HT:=hid (take_succ_at hy)
     obtain ⟨fn,tmps,assign,body,hyl,hR⟩:=hY pr ⟨y,hyb⟩ wr hJr hlen
     dsimp only at hyl
     clear hy
     gi_wp2
     refine hR.mono ?_
     rintro e W3 (⟨rfl,hJ3,hk3⟩|⟨rfl,hJx3⟩)
     ·have hL3:=hLr.kp h0 hLk hLn hk3
      clear hR hyl hJr hLr hk3 hlen
      gi_wp2
      go_roundw
      case rel=>exact ⟨j+1,pr++[⟨y,hyb⟩],by omega,by go_num,by rw [bvals_app,HPR.out,HT.out,List.append_assoc],hJ3,hL3⟩
      case measure=>simp [intOf];omega
     ·have hpx:bvals (pr++[⟨y,hyb⟩]) <+: strm key nonce c (4294967296 - c):=by
       rw [bvals_app,HPR.out,List.append_assoc,←HT.out]
       refine List.IsPrefix.trans ?_ (strm_pre key nonce c (m:=m+1) (by have:=HQ.out;omega))
       rw [HS.out]
       exact (List.prefix_append_right_inj _).2 (List.take_prefix _ _)
      clear hR hyl hJr hLr hlen
      gi_wp2
      refine bodyPost_ret (results_none rfl _ _ _) rfl ?_
      exact ⟨⟨_,rfl⟩,.inr ⟨_,hpx,hJx3⟩⟩
    ·have hge:¬(j:Int)<64:=by omega
     have hpn:bvals pr=strm key nonce c (m+1):=by
      rw [HPR.out,HS.out,List.take_of_length_le (by rw [hbl64.out];omega)]
     have HPN:=hid hpn
     clear hpn
     gi_wp2
     go_wp2
     go_roundw
     case rel=>exact ⟨m+1,pr,by have:=HQ.out;omega,congrArg (Value.int .i64) (by have:=HQ.out;omega),HPN.out,hJr,hLr⟩
     case measure=>simp [intOf];omega
  ·have hge:¬(q:Int)<4294967296:=by omega
   have e:m=4294967296 - c:=by have:=HQ.out;omega
   have hp2:bvals pre=strm key nonce c (4294967296 - c):=by rw [←e];exact HPRE.out
   have HP2:=hid hp2
   clear e hp2
   go_wp2
   go_end0
   exact ⟨⟨_,rfl⟩,.inl ⟨pre,HP2.out,hJr⟩⟩
end
section
set_option maxRecDepth 50000
section
variable {P:Program} {ops:Array Oper} {md:Region.Mode} {Q:Exit→Act→World→Prop} {l n:Nat}
theorem rowsIn_wide {m:Nat} {row:String} {args:Array Value} {w:World} {R:Value→World→Prop} (h:Rows P row args w R):RowsIn (Fence.wide.inRound l) m P row args w R:=fun c cs _=>by
 obtain ⟨v,w',r,s⟩:=h c cs
 exact ⟨v,w',r,stepsIn_wide.2 s⟩
theorem opIn_of_op {o:Oper} {a:Act} {w:World} {K:Act→World→Prop} (hnd:∀c,o.op≠.defer c) (h:o.wp P a w K Q):o.wpIn (Fence.wide.inRound l) n P a w K Q:=by
 unfold Oper.wpIn
 refine ⟨fun _ _=>trivial,?_⟩
 rw [show (Fence.wide.inRound l).round=some l from rfl,Oper.semAt_some l _ _ hnd]
 unfold Oper.wp at h
 generalize (execOp a.eval o).run P w=r at *
 have hd:(Fence.wide.inRound l).depth.isSome=true→1≤n:=fun h=>by cases h
 cases r with
 | ok x w' =>
   cases x <;> simp only [Oper.upon] at h <;> simp only [Oper.uponIn]
   case value=>exact h
   case skip=>exact h
   case defer=>exact h
   case enter f args=>exact ⟨hd,CallsIn.inRound l (callsIn_wide.2 h)⟩
   case row=>exact ⟨hd,rowsIn_wide h⟩
 | halt x w' =>
   cases x <;> simp only [Oper.upon] at h <;> simp only [Oper.uponIn]
   exact h
theorem anyIn_of_any (hnd:∀(i:Nat) (o:Oper),ops[i]? = some o→∀c,o.op≠.defer c) (hQ:¬LetsOut Q):∀(F:Nat) (listed:Array Bool) (a:Act) (w:World),wpAny P md ops Q F listed a w→wpAnyIn (Fence.wide.inRound l) n P md ops Q F listed a w
 | 0,_,_,_,h=>h
 | F+1,listed,a,w,h=>⟨h.1,fun i hi=>by
   have h1:=h.2 i hi
   unfold wpOp at h1
   unfold wpOpIn
   cases ho:ops[i]? with
   | none=>simp only [ho] at h1 ⊢;exact anyIn_of_any hnd hQ F _ _ _ h1
   | some o =>
     simp only [ho] at h1 ⊢
     split
     ·rename_i hw
      rw [if_pos hw] at h1
      rcases h1 with h1|h1
      ·exact Oper.wpIn_mono (fun a' w' h'=>anyIn_of_any hnd hQ F _ _ _ h') (opIn_of_op (hnd i o ho) h1)
      ·exact absurd h1.2 hQ
     ·rename_i hw
      rw [if_neg hw] at h1
      exact ⟨fun _ _=>trivial,anyIn_of_any hnd hQ F _ _ _ h1⟩⟩
def noDefer (l:List Oper):Bool:=l.all fun o=>match o.op with
 | .defer _=>false
 | _=>true
theorem noDefer_spec {l:List Oper} (h:noDefer l=true):∀(i:Nat) (o:Oper),l.toArray[i]? = some o→∀c,o.op≠.defer c:=fun i o ho c e=>by
 have h1:=List.all_eq_true.1 h o (List.mem_of_getElem? (by simpa using ho))
 rw [e] at h1
 cases h1
end
section
variable {P:Program} {W:World} {a0:Act}
theorem region_round {id k m:Nat} {Q:Exit→Act→World→Prop} {l:List Oper} (n M:Nat) (al:Nat→Bool) (Ss:List (Value→World→Prop)) (ds:List Tmp) (hds:dstsOf l.toArray n=ds) (hm:P.follows .mixedOrders=true) (hB:specB .any l.toArray n M=true) (hM:M≤a0.tmps.size) (hnd:noDefer l=true) (hQ:¬LetsOut Q)
 (mono:∀S ∈ Ss,Grows S) (hst:Steps P l.toArray .any W a0 n al (sAt Ss) Q n 0 l)
 (hend:∀(val:Tmp→Value) w,Cl W w→(∀i d,i<n→dstOf l.toArray i=some d→sAt Ss i (val d) w) →
   (∀i j d d',i<n→j<n→al i=true→al j=true→i≠j→dstOf l.toArray i=some d→dstOf l.toArray j=some d'→home (val d)≠home (val d')) →
   (∀i d,i<n→al i=true→dstOf l.toArray i=some d→∃b,home (val d)=some b∧W.heap.size≤b∧b<w.heap.size)→wpList P l.toArray Q (l.drop n) (putVals ds val a0) w):(Code.region id l.toArray true).wpIn (Fence.wide.inRound k) m P Q a0 W:=by
 have hB2:=hB
 simp only [specB,Bool.and_eq_true,decide_eq_true_eq] at hB2
 obtain ⟨⟨⟨⟨⟨hn,hs⟩,hc⟩,hback⟩,hdst⟩,hseq⟩:=hB2
 refine wpIn_region_any hm (anyIn_of_any (noDefer_spec hnd) hQ _ _ _ _ ?_)
 have hrep:∀i,(Array.replicate l.toArray.size false).getD i false=false:=fun i=>getD_replicate_false _ _
 refine spec_any (W:=W) (a0:=a0) (al:=al) (S:=sAt Ss) (l:=l) rfl hB hM (fun i v w w' h1 h2=>grows_at mono i v w w' h1 h2) (fun i o hi ho=>?_) (fun a w st=>?_) _ _ _ _ ?_ ?_ ?_
 ·have:=Steps.at_ n 0 l hst i o hi (by simpa using ho)
  rwa [Nat.zero_add] at this
 ·rw [st.act,hds]
  have hl:∀i,i<n→(headArr n l.toArray.size).getD i false=true:=fun i hi=>head_true hi
  exact hend (fun d=>a.eval (.tmp d)) w st.cl (fun i d hi hd=>st.at_ i d hi hd) (fun i j d d' hi hj hai haj hij hd hd'=>st.apart i j hi hj (hl i hi) (hl j hj) hai haj hij d d' hd hd') (fun i d hi hai hd=>st.laid i hi (hl i hi) hai d hd)
 ·have:=lacking_new l.toArray.size
  simpa using this
 ·refine ⟨⟨by simp,fun j oj _ hl _ _ _=>?_,fun t _ hts=>?_⟩,fun i hi=>by omega⟩
  ·rw [hrep] at hl;cases hl
  ·exact getD_in (by simpa using hts) (hrep t)
 ·refine ⟨Cl.drew W,rfl,rfl,fun _ _=>rfl,fun i _ h=>?_,fun i _ h=>?_,fun i j _ _ h=>?_⟩ <;> (rw [hrep] at h;cases h)
end
end
end Go.Proofs.YtkblmdakejmmhaaGreatDoor
