import Derived.Test.YtkblmdakejmmhaaGreatDoorG7
import Derived.Test.YtkblmdakejmmhaaGreatDoorG3
namespace Go.Proofs.YtkblmdakejmmhaaGreatDoor
open Go Go.RowKit
def bitAt (bs:List Int) (i:Nat):Int:=bs.getD (i / 8) 0 / 2^(i%8)%2
def powL (xs bs:List Int):Nat→List Int
 | 0=>smallL 1
 | k+1=>if bitAt bs (255 - k)=1 then mulL (mulL (powL xs bs k) (powL xs bs k)) xs else mulL (powL xs bs k) (powL xs bs k)
theorem powL_el {xs bs:List Int} (hx:El xs) (k:Nat):El (powL xs bs k):=by
 induction k with
 | zero=>exact el_set (small_dg 1)
 | succ k ih =>
   simp only [powL]
   split
   ·exact (mulL_el (mulL_el ih ih).1 hx).1
   ·exact (mulL_el ih ih).1
theorem mask1_u8 (x:Int) (h:0≤x∧x<256):bits .and .u8 x 1=x%2:=by
 have key:∀n:Fin 256,bits .and .u8 (n.val:Int) 1=(n.val:Int)%2:=by decide +kernel
 have:=key ⟨x.toNat,by omega⟩
 simp only [Int.toNat_of_nonneg h.1] at this
 exact this
set_option maxRecDepth 4000 in
set_option maxHeartbeats 2000000 in
theorem power_walk (xs bs m:List Int) (w:World) (HM:Hid (powL xs bs 256=m)) (hx:El xs) (hl:bs.length=32) (hb:Byt bs) :
 Calls Tryz.prog 76 #[.agg (ints .i64 xs).toArray,.agg (ints .u8 bs).toArray] w fun e w'=>e=.returned (.agg (ints .i64 m).toArray)∧Below w.heap.size w w':=by
 obtain ⟨z26,s26⟩:=zero_of_info inf26
 have HL:=hid hl
 have HB:=hid hb
 have HX:=hid hx
 have HXL:=hid hx.len
 have HPE:Hid (∀k,El (powL xs bs k)):=hid fun k=>powL_el hx k
 have H1:Hid (powL xs bs 0=smallL 1):=hid rfl
 have H1L:Hid ((smallL 1).length=16):=hid (smallL_length 1)
 clear hl hb hx
 have hN:=((Arr.made w .i64 xs 70).alloc (.cells (ints .u8 bs).toArray 22)).alloc (.cells (ints .i64 (zeros 16)).toArray 70)
 have hY:=(Arr.made (w.alloc (.cells (ints .i64 xs).toArray 70)) .u8 bs 22).alloc (.cells (ints .i64 (zeros 16)).toArray 70)
 have hR:=Arr.made ((w.alloc (.cells (ints .i64 xs).toArray 70)).alloc (.cells (ints .u8 bs).toArray 22)) .i64 (zeros 16) 70
 have hW:=((below_new w (.cells (ints .i64 xs).toArray 70)).alloc (by simp) (.cells (ints .u8 bs).toArray 22)).alloc (by simp;omega) (.cells (ints .i64 (zeros 16)).toArray 70)
 rw [World.size_alloc] at hY
 rw [World.size_alloc,World.size_alloc] at hR
 go_enter Tryz.func76,Tryz.ntmps76
 go_wp2_with (fail)
 generalize (((w.alloc (.cells (ints .i64 xs).toArray 70)).alloc (.cells (ints .u8 bs).toArray 22)).alloc (.cells (ints .i64 (zeros 16)).toArray 70))=W0 at *
 refine (small_any 1 _).mono ?_
 generalize smallL 1=one at *
 rintro e w1 ⟨rfl,hb1⟩
 have hR1:=hR.below hb1 (hR.lt (by rw [zeros_len];omega))
 have hN1:=hN.below hb1 (hN.lt (by rw [HXL.out];omega))
 have hY1:=hY.below hb1 (hY.lt (by rw [HL.out];omega))
 have hW1:=hW.trans (hb1.mono hW.size)
 have hz2:=hR1.lt (by rw [zeros_len];omega)
 have hP:=Arr.made w1 .i64 (zeros 16) 70
 have hs1:(w1.alloc (.cells (ints .i64 (zeros 16)).toArray 70)).there w1.heap.size 0 (ints .i64 one).toArray.size:=hP.room (by rw [zeros_len];exact H1L.out)
 have hP2:=hP.stored (l':=one) (by rw [zeros_len];exact H1L.out)
 have hR2:=(hR1.alloc (.cells (ints .i64 (zeros 16)).toArray 70)).past (b':=w1.heap.size) (o':=0) (ints .i64 one).toArray.toList (.inl (by omega))
 have hN2:=(hN1.alloc (.cells (ints .i64 (zeros 16)).toArray 70)).past (b':=w1.heap.size) (o':=0) (ints .i64 one).toArray.toList (.inl (by omega))
 have hY2:=(hY1.alloc (.cells (ints .i64 (zeros 16)).toArray 70)).past (b':=w1.heap.size) (o':=0) (ints .i64 one).toArray.toList (.inl (by omega))
 have hW2:=Below.setCells (hW1.alloc hW1.size (.cells (ints .i64 (zeros 16)).toArray 70)) (g:=w1.heap.size) hW1.size 0 (ints .i64 one).toArray.toList
 clear hR hN hY hW hb1 hR1 hN1 hY1 hW1 hP
 go_wp2_with (first
  | (with_reducible refine wpList_store_mid (op:=⟨none,.store 70 (.tmp 5) (.tmp 7),_,_,_,_⟩) rfl 70 (.tmp 5) (.tmp 7) rfl w1.heap.size 0 (ints .i64 one).toArray rfl rfl hs1 (a26 H1L.out) (ints_all _ _) ?_))
 obtain ⟨B,hB⟩:∃B,B=w1.heap.size:=⟨_,rfl⟩
 have hP3:Arr ((w1.alloc (.cells (ints .i64 (zeros 16)).toArray 70)).setCells w1.heap.size 0 (ints .i64 one)) w1.heap.size 0 .i64 (powL xs bs 0):=by rw [H1.out];simpa using hP2
 have hR3:Arr ((w1.alloc (.cells (ints .i64 (zeros 16)).toArray 70)).setCells w1.heap.size 0 (ints .i64 one)) (w.heap.size+1+1) 0 .i64 (zeros 16):=by simpa using hR2
 have hN3:Arr ((w1.alloc (.cells (ints .i64 (zeros 16)).toArray 70)).setCells w1.heap.size 0 (ints .i64 one)) w.heap.size 0 .i64 xs:=by simpa using hN2
 have hY3:Arr ((w1.alloc (.cells (ints .i64 (zeros 16)).toArray 70)).setCells w1.heap.size 0 (ints .i64 one)) (w.heap.size+1) 0 .u8 bs:=by simpa using hY2
 have hW3:Below w.heap.size w ((w1.alloc (.cells (ints .i64 (zeros 16)).toArray 70)).setCells w1.heap.size 0 (ints .i64 one)):=by simpa using hW2
 clear hP2 hR2 hN2 hY2 hW2 hs1
 generalize ((w1.alloc (.cells (ints .i64 (zeros 16)).toArray 70)).setCells w1.heap.size 0 (ints .i64 one))=W2 at *
 rw [←hB] at hP3 hz2 ⊢
 clear hB
 go_loopw [6] (fun i wr=>∃(k:Nat) (b:Int),k≤256∧i=.int .i64 b∧Hid (b=255 - k)∧Arr wr (w.heap.size+1+1) 0 .i64 (zeros 16)∧Arr wr w.heap.size 0 .i64 xs∧Arr wr (w.heap.size+1) 0 .u8 bs∧Arr wr B 0 .i64 (powL xs bs k)∧Below w.heap.size w wr) (fun i _=>(intOf i+1).toNat)
 case atStart=>exact ⟨0,255,by omega,rfl,hid rfl,hR3,hN3,hY3,hP3,hW3⟩
 case round =>
  clear hR3 hN3 hY3 hP3 hW3
  obtain ⟨k,b,hk,rfl,HBK,hR,hN,hY,hP,hW⟩:=hrel
  rename World=>W3
  by_cases hlt:k<256
  ·have HKN:Hid (powL xs bs (k+1)=if bitAt bs (255 - k)=1 then mulL (mulL (powL xs bs k) (powL xs bs k)) xs else mulL (powL xs bs k) (powL xs bs k)):=hid rfl
   have HPk:=hid (HPE.out k)
   generalize powL xs bs k=p at *
   have HPL:=hid HPk.out.len
   have HMM:=hid (mulL_el HPk.out HPk.out).1
   have HMML:=hid HMM.out.len
   have HM2:=hid (mulL_el HMM.out HX.out).1
   have HM2L:=hid HM2.out.len
   obtain ⟨n,rfl⟩:∃n:Nat,b=n:=⟨(255 - k:Nat),by have:=HBK.out;omega⟩
   have HNK:Hid (255 - k=n):=hid (by have:=HBK.out;omega)
   have hn:(n:Int)≤255:=by have:=HBK.out;omega
   have n0:(0:Int)≤n:=by omega
   obtain ⟨q,hq⟩:∃q,q=n / 8:=⟨_,rfl⟩
   obtain ⟨r,hr⟩:∃r,r=n%8:=⟨_,rfl⟩
   have hqi:(n:Int) / 8=(q:Int):=by omega
   have hri:(n:Int)%8=(r:Int):=by omega
   have q0:(0:Int)≤q:=by omega
   have q32:(q:Int)<32:=by omega
   have r0:(0:Int)≤r:=by omega
   have r8:(r:Int)≤8:=by omega
   obtain ⟨x,cx,_,HXq⟩:=hY.spot (i:=q) (by rw [HL.out];omega)
   rw [Nat.zero_add] at cx
   have hxb:=HB.out.at_ HXq.out
   obtain ⟨s,hs⟩:∃s,s=x / 2^r:=⟨_,rfl⟩
   have hp2:(0:Int)<2^r:=Int.pow_pos (by omega)
   have hsb:0≤s∧s<256:=by
    have h1:=Int.ediv_nonneg hxb.1 (Int.le_of_lt hp2)
    have h2:=Int.ediv_le_self (2^r) hxb.1
    rw [hs];omega
   have hmk:=mask1_u8 s hsb
   have HBIT:Hid (bitAt bs (255 - k)=s%2):=hid (by rw [HNK.out,hs,hr];unfold bitAt;rw [←hq];simp [List.getD,HXq.out])
   have hsx:x / 2^r=s:=hs.symm
   have HQR:=hid (And.intro hq hr)
   clear hq hr hs hp2
   have hwn:IntKind.i64.wrap ((n:Int) - 1)=(n:Int) - 1:=IntWalk.i64_in _ (by omega)
   go_wp2_with (first
    | (with_reducible refine wpList_load_mid (op:=⟨some 12,.load 70 (.tmp 5),_,_,_,_⟩) rfl 70 (.tmp 5) rfl B 0 rfl (ints .i64 p) _ (hP.range) Tryz.underlying70 rfl (l26 HPL.out) ?_)
    | (with_reducible refine wpList_load_mid (op:=⟨some 13,.load 70 (.tmp 5),_,_,_,_⟩) rfl 70 (.tmp 5) rfl B 0 rfl (ints .i64 p) _ (hP.range) Tryz.underlying70 rfl (l26 HPL.out) ?_))
   refine (mul_any p p _ HPL.out HPL.out HPk.out.bd HPk.out.bd).mono ?_
   rintro e w4 ⟨rfl,hb4⟩
   have hR1:=hR.below hb4 (hR.lt (by rw [zeros_len];omega))
   have hN1:=hN.below hb4 (hN.lt (by rw [HXL.out];omega))
   have hY1:=hY.below hb4 (hY.lt (by rw [HL.out];omega))
   have hP1:=hP.below hb4 (hP.lt (by rw [HPL.out];omega))
   have hW1:=hW.trans (hb4.mono hW.size)
   clear hR hN hY hP hW hb4 cx
   generalize hmm:mulL p p=pp at *
   have HPP:=hid hmm
   clear hmm
   have hs1:w4.there B 0 (ints .i64 pp).toArray.size:=hP1.room (by rw [HPL.out];exact HMML.out)
   have hP2:=hP1.stored (l':=pp) (by rw [HPL.out];exact HMML.out)
   have hR2:=hR1.past (b':=B) (o':=0) (ints .i64 pp).toArray.toList (.inl (by omega))
   have hN2:=hN1.past (b':=B) (o':=0) (ints .i64 pp).toArray.toList (.inl (by omega))
   have hY2:=hY1.past (b':=B) (o':=0) (ints .i64 pp).toArray.toList (.inl (by omega))
   have hW2:=Below.setCells hW1 (g:=B) (by omega) 0 (ints .i64 pp).toArray.toList
   have cx:=hY2.at_ HXq.out
   rw [Nat.zero_add] at cx
   clear hR1 hN1 hY1 hP1 hW1
   by_cases hbit:s%2=1
   ·have hz:(s%2==1)=true:=by simpa using hbit
    have HK2:Hid (powL xs bs (k+1)=mulL pp xs):=hid (by rw [HKN.out,if_pos (by rw [HBIT.out];exact hbit)])
    clear hbit
    go_wp2_with (first
     | (with_reducible refine wpList_store_mid (op:=⟨none,.store 70 (.tmp 5) (.tmp 14),_,_,_,_⟩) rfl 70 (.tmp 5) (.tmp 14) rfl B 0 (ints .i64 pp).toArray rfl rfl hs1 (a26 HMML.out) (ints_all _ _) ?_;generalize (w4.setCells B 0 (ints .i64 pp).toArray.toList)=W5 at *)
     | (with_reducible refine wpList_load_mid (op:=⟨some 24,.load 70 (.tmp 5),_,_,_,_⟩) rfl 70 (.tmp 5) rfl B 0 rfl (ints .i64 pp) _ (hP2.range) Tryz.underlying70 rfl (l26 HMML.out) ?_)
     | (with_reducible refine wpList_load_mid (op:=⟨some 25,.load 70 (.tmp 2),_,_,_,_⟩) rfl 70 (.tmp 2) rfl w.heap.size 0 rfl (ints .i64 xs) _ (hN2.range) Tryz.underlying70 rfl (l26 HXL.out) ?_))
    refine (mul_any pp xs _ HMML.out HXL.out HMM.out.bd HX.out.bd).mono ?_
    rintro e w6 ⟨rfl,hb6⟩
    have hR3:=hR2.below hb6 (hR2.lt (by rw [zeros_len];omega))
    have hN3:=hN2.below hb6 (hN2.lt (by rw [HXL.out];omega))
    have hY3:=hY2.below hb6 (hY2.lt (by rw [HL.out];omega))
    have hP3:=hP2.below hb6 (hP2.lt (by rw [HMML.out];omega))
    have hW3:=hW2.trans (hb6.mono hW2.size)
    clear hR2 hN2 hY2 hP2 hW2 hb6 cx hs1
    generalize hm2:mulL pp xs=pq at *
    have HPQ:=hid hm2
    clear hm2
    have hs2:w6.there B 0 (ints .i64 pq).toArray.size:=hP3.room (by rw [HMML.out];exact HM2L.out)
    have hP4:=hP3.stored (l':=pq) (by rw [HMML.out];exact HM2L.out)
    have hR4:=hR3.past (b':=B) (o':=0) (ints .i64 pq).toArray.toList (.inl (by omega))
    have hN4:=hN3.past (b':=B) (o':=0) (ints .i64 pq).toArray.toList (.inl (by omega))
    have hY4:=hY3.past (b':=B) (o':=0) (ints .i64 pq).toArray.toList (.inl (by omega))
    have hW4:=Below.setCells hW3 (g:=B) (by omega) 0 (ints .i64 pq).toArray.toList
    clear hR3 hN3 hY3 hP3 hW3
    go_wp2_with (first
     | (with_reducible refine wpList_store_mid (op:=⟨none,.store 70 (.tmp 5) (.tmp 26),_,_,_,_⟩) rfl 70 (.tmp 5) (.tmp 26) rfl B 0 (ints .i64 pq).toArray rfl rfl hs2 (a26 HM2L.out) (ints_all _ _) ?_;generalize (w6.setCells B 0 (ints .i64 pq).toArray.toList)=W7 at *))
    go_roundw
    case rel=>exact ⟨k+1,(n:Int) - 1,by omega,rfl,hid (by have:=HBK.out;omega),hR4,hN4,hY4,by rw [HK2.out];exact hP4,hW4⟩
    case measure=>simp [intOf]
   ·have hz:(s%2==1)=false:=by simpa using hbit
    have HK2:Hid (powL xs bs (k+1)=pp):=hid (by rw [HKN.out,if_neg (by rw [HBIT.out];exact hbit)])
    clear hbit
    go_wp2_with (first
     | (with_reducible refine wpList_store_mid (op:=⟨none,.store 70 (.tmp 5) (.tmp 14),_,_,_,_⟩) rfl 70 (.tmp 5) (.tmp 14) rfl B 0 (ints .i64 pp).toArray rfl rfl hs1 (a26 HMML.out) (ints_all _ _) ?_;generalize (w4.setCells B 0 (ints .i64 pp).toArray.toList)=W5 at *))
    go_roundw
    case rel=>exact ⟨k+1,(n:Int) - 1,by omega,rfl,hid (by have:=HBK.out;omega),hR2,hN2,hY2,by rw [HK2.out];exact hP2,hW2⟩
    case measure=>simp [intOf]
  ·have e:k=256:=by omega
   have hb0:b<0:=by have:=HBK.out;omega
   rw [e,HM.out] at hP
   have HML:Hid (m.length=16):=hid (by rw [←HM.out];exact (HPE.out 256).len)
   clear e
   have hs1:W3.there (w.heap.size+1+1) 0 (ints .i64 m).toArray.size:=hR.room (by rw [zeros_len];exact HML.out)
   have hR4:=hR.stored (l':=m) (by rw [zeros_len];exact HML.out)
   have hW4:=Below.setCells hW (g:=w.heap.size+1+1) (by omega) 0 (ints .i64 m).toArray.toList
   go_wp2_with (first
    | (with_reducible refine wpList_load_mid (op:=⟨some 27,.load 70 (.tmp 5),_,_,_,_⟩) rfl 70 (.tmp 5) rfl B 0 rfl (ints .i64 m) _ (hP.range) Tryz.underlying70 rfl (l26 HML.out) ?_)
    | (with_reducible refine wpList_store_mid (op:=⟨none,.store 70 (.tmp 4) (.tmp 27),_,_,_,_⟩) rfl 70 (.tmp 4) (.tmp 27) rfl (w.heap.size+1+1) 0 (ints .i64 m).toArray rfl rfl hs1 (a26 HML.out) (ints_all _ _) ?_))
   exact ret_rows rfl (w.heap.size+1+1) 0 rfl (ints .i64 m) _ hR4.range Tryz.underlying70 rfl (l26 HML.out) rfl ⟨rfl,hW4⟩
section
set_option maxHeartbeats 1000000
set_option maxRecDepth 4000
def onesL (a b:Int):List Int:=a::(List.replicate 30 255++[b])
theorem onesL_length (a b:Int):(onesL a b).length=32:=by simp [onesL]
def full:List Int:=List.replicate 32 255
theorem ones_any (a b:Int) (w:World):Calls Tryz.prog 77 #[.int .u8 a,.int .u8 b] w fun e w'=>e=.returned (.agg (ints .u8 (onesL a b)).toArray)∧Below w.heap.size w w':=by
 obtain ⟨z22,s22⟩:=zero_of_info inf22
 have hR:=(Arr.made w .u8 (zeros 32) 22).alloc (.cells (ints .u8 (zeros 32)).toArray 22)
 have hD:=Arr.made (w.alloc (.cells (ints .u8 (zeros 32)).toArray 22)) .u8 (zeros 32) 22
 have hW:=(below_new w (.cells (ints .u8 (zeros 32)).toArray 22)).alloc (by simp) (.cells (ints .u8 (zeros 32)).toArray 22)
 rw [World.size_alloc] at hD
 have HFL:Hid (full.length=32):=hid rfl
 have HZ:Hid (zeros 32=fillK full 0):=hid (by rw [fillK_zero];rfl)
 have HA:Hid (∀i,i<32→full[i]? = some 255):=hid fun i h=>by rw [full,List.getElem?_replicate,if_pos h]
 have HO:Hid ((full.set 0 a).set 31 b=onesL a b):=hid rfl
 have HOL:=hid (onesL_length a b)
 generalize hfl:full=fl at *
 have HFULL:=hid hfl
 clear hfl
 go_enter Tryz.func77,Tryz.ntmps77
 go_wp2
 generalize ((w.alloc (.cells (ints .u8 (zeros 32)).toArray 22)).alloc (.cells (ints .u8 (zeros 32)).toArray 22))=W0 at *
 rw [HZ.out] at hD
 go_loopw [7] (fun i wr=>∃k:Nat,k≤32∧i=.int .i64 k∧Arr wr w.heap.size 0 .u8 (zeros 32)∧Arr wr (w.heap.size+1) 0 .u8 (fillK fl k)∧Below w.heap.size w wr) (fun i _=>32 - (intOf i).toNat)
 case atStart=>exact ⟨0,by omega,rfl,hR,hD,hW⟩
 case round =>
  clear hR hD hW
  obtain ⟨k,hk,rfl,hR,hD,hW⟩:=hrel
  rename World=>W1
  by_cases hlt:k<32
  ·obtain ⟨z,cz,fz,_⟩:=hD.spot (i:=k) (by rw [fillK_length,HFL.out];exact hlt)
   rw [Nat.zero_add] at cz fz
   have hD1:=hD.set k 255
   rw [Nat.zero_add,fillK_set _ (HA.out k hlt)] at hD1
   have k0:(0:Int)≤k:=by omega
   have k32:(k:Int)<32:=by omega
   have hwk:IntKind.i64.wrap ((k:Int)+1)=(k:Int)+1:=IntWalk.i64_in _ (by omega)
   go_wp2
   go_roundw
   case rel=>exact ⟨k+1,by omega,by go_num,hR.apart _ (.inl (by show w.heap.size+1≠w.heap.size;omega)),hD1,hW.setCell (by show w.heap.size≤w.heap.size+1;omega) _⟩
   case measure=>simp [intOf];omega
  ·have e:k=32:=by omega
   have hk32:¬(k:Int)<32:=by omega
   have HE:Hid (fillK fl 32=fl):=hid (by have h:=fillK_end fl;rw [HFL.out] at h;exact h)
   rw [e,HE.out] at hD
   clear e
   obtain ⟨z,cz,fz,_⟩:=hD.spot (i:=0) (by rw [HFL.out];omega)
   obtain ⟨z2,cz2,fz2,_⟩:=hD.spot (i:=31) (by rw [HFL.out];omega)
   rw [Nat.zero_add] at cz fz cz2 fz2
   have hD1:=(hD.set 0 a).set 31 b
   rw [Nat.zero_add,Nat.zero_add,HO.out] at hD1
   have hR1:=(hR.apart (p:=⟨w.heap.size+1,0,none⟩) (.int .u8 a) (.inl (by show w.heap.size+1≠w.heap.size;omega))).apart (p:=⟨w.heap.size+1,31,none⟩) (.int .u8 b) (.inl (by show w.heap.size+1≠w.heap.size;omega))
   have hW1:=(hW.setCell (p:=⟨w.heap.size+1,0,none⟩) (by show w.heap.size≤w.heap.size+1;omega) (.int .u8 a)).setCell (p:=⟨w.heap.size+1,31,none⟩) (by show w.heap.size≤w.heap.size+1;omega) (.int .u8 b)
   generalize hos:onesL a b=os at *
   have HOS:=hid hos
   clear hos
   have hs1:=hR1.room (l':=os) (k':=.u8) (by rw [zeros_len];exact HOL.out)
   have hR2:=hR1.stored (l':=os) (by rw [zeros_len];exact HOL.out)
   have hW2:=Below.setCells hW1 (g:=w.heap.size) (by omega) 0 (ints .u8 os).toArray.toList
   go_wp2_with (first
    | (with_reducible refine wpList_load_mid (op:=⟨some 17,.load 22 (.tmp 5),_,_,_,_⟩) rfl 22 (.tmp 5) rfl (w.heap.size+1) 0 rfl (ints .u8 os) _ (hD1.range) Tryz.underlying22 rfl (l22 HOL.out) ?_)
    | (with_reducible refine wpList_store_mid (op:=⟨none,.store 22 (.tmp 4) (.tmp 17),_,_,_,_⟩) rfl 22 (.tmp 4) (.tmp 17) rfl w.heap.size 0 (ints .u8 os).toArray rfl rfl hs1 (a22 HOL.out) (ints_all _ _) ?_))
   refine ret_rows rfl w.heap.size 0 rfl (ints .u8 os) _ hR2.range Tryz.underlying22 rfl (l22 HOL.out) rfl ⟨?_,hW2⟩
   rw [HOS.out]
def invL (xs:List Int):List Int:=powL xs (onesL 235 127) 256
theorem onesL_byt {a b:Int} (ha:0≤a∧a<256) (hb:0≤b∧b<256):Byt (onesL a b):=fun x hx=>by
 simp only [onesL,List.mem_cons,List.mem_append,List.mem_replicate,List.not_mem_nil,or_false] at hx
 rcases hx with rfl|⟨_,rfl⟩|rfl <;> omega
theorem invL_el {xs:List Int} (hx:El xs):El (invL xs):=powL_el hx 256
theorem inverse_walk (xs m:List Int) (w:World) (HM:Hid (invL xs=m)) (hx:El xs) :
 Calls Tryz.prog 52 #[.agg (ints .i64 xs).toArray] w fun e w'=>e=.returned (.agg (ints .i64 m).toArray)∧Below w.heap.size w w':=by
 obtain ⟨z26,s26⟩:=zero_of_info inf26
 have HX:=hid hx
 have HXL:=hid hx.len
 have HML:Hid (m.length=16):=hid (by rw [←HM.out];exact (invL_el hx).len)
 have HP:Hid (powL xs (onesL 235 127) 256=m):=HM
 clear hx
 have HOB:Hid (Byt (onesL 235 127)):=hid (onesL_byt (by omega) (by omega))
 have HOL:=hid (onesL_length 235 127)
 have HO1:Hid (∀w,Calls Tryz.prog 77 #[.int .u8 235,.int .u8 127] w fun e w'=>e=.returned (.agg (ints .u8 (onesL 235 127)).toArray)∧Below w.heap.size w w'):=hid (ones_any 235 127)
 generalize onesL 235 127=os at *
 have hN:=(Arr.made w .i64 xs 70).alloc (.cells (ints .i64 (zeros 16)).toArray 70)
 have hR:=Arr.made (w.alloc (.cells (ints .i64 xs).toArray 70)) .i64 (zeros 16) 70
 have hW:=(below_new w (.cells (ints .i64 xs).toArray 70)).alloc (by simp) (.cells (ints .i64 (zeros 16)).toArray 70)
 have hsz:w.heap.size+1<((w.alloc (.cells (ints .i64 xs).toArray 70)).alloc (.cells (ints .i64 (zeros 16)).toArray 70)).heap.size:=by simp
 rw [World.size_alloc] at hR
 go_enter Tryz.func52,Tryz.ntmps52
 go_wp2_with (fail)
 generalize ((w.alloc (.cells (ints .i64 xs).toArray 70)).alloc (.cells (ints .i64 (zeros 16)).toArray 70))=W at *
 refine region_quiet_tail 3 (Cl W) (by kernel_rfl) (by kernel_rfl) (Cl.drew W) ?_
 simp only [List.take_succ_cons,List.take_zero,List.drop_succ_cons,List.drop_zero]
 refine qs_read (.agg (ints .i64 xs).toArray) rfl (fun w' hw'=>ex_load 70 (.tmp 1) rfl w.heap.size 0 rfl (ints .i64 xs) _ (hN.below hw' (by omega)).range Tryz.underlying70 rfl (l26 HXL.out)) ?_
 refine qs_callB (.agg (ints .u8 os).toArray) 77 #[.int .u8 235,.int .u8 127] rfl (fun w'=>by go_simp) (fun w'=>HO1.out w') ?_
 refine qs_callB (.agg (ints .i64 m).toArray) 76 #[.agg (ints .i64 xs).toArray,.agg (ints .u8 os).toArray] rfl (fun w'=>by go_simp) (fun w'=>power_walk xs os m w' HP HX.out HOL.out HOB.out) ?_
 refine wpQuiet_nil ?_
 intro w' hw'
 have hR1:=hR.below hw' hsz
 have hs1:w'.there (w.heap.size+1) 0 (ints .i64 m).toArray.size:=hR1.room (by rw [zeros_len];exact HML.out)
 have hR2:=hR1.stored (l':=m) (by rw [zeros_len];exact HML.out)
 have hW2:=Below.setCells (hW.trans (Below.mono hw' hW.size)) (g:=w.heap.size+1) (by omega) 0 (ints .i64 m).toArray.toList
 go_wp2_with (first
  | (with_reducible refine wpList_store_mid (op:=⟨none,.store 70 (.tmp 2) (.tmp 5),_,_,_,_⟩) rfl 70 (.tmp 2) (.tmp 5) rfl (w.heap.size+1) 0 (ints .i64 m).toArray rfl rfl hs1 (a26 HML.out) (ints_all _ _) ?_))
 exact ret_rows rfl (w.heap.size+1) 0 rfl (ints .i64 m) _ hR2.range Tryz.underlying70 rfl (l26 HML.out) rfl ⟨rfl,hW2⟩
theorem inverse_any (xs:List Int) (w:World) (hx:El xs):Calls Tryz.prog 52 #[.agg (ints .i64 xs).toArray] w fun e w'=>e=.returned (.agg (ints .i64 (invL xs)).toArray)∧Below w.heap.size w w':=inverse_walk xs _ w (hid rfl) hx
end
def CallsTo (f:FuncId) (args:Array Value) (v:Value):Prop:=∀w,Calls Tryz.prog f args w fun e w'=>e=.returned v∧Below w.heap.size w w'
def Bx (w:World) (b:Nat) (l:List Int):Prop:=Arr w b 0 .i64 l∧l.length=16
def By (w:World) (b:Nat) (l:List Int):Prop:=Arr w b 0 .u8 l∧l.length=32
section
variable {w w' W:World} {b:Nat} {l:List Int}
theorem Bx.lt (h:Bx w b l):b<w.heap.size:=h.1.lt (by rw [h.2];omega)
theorem By.lt (h:By w b l):b<w.heap.size:=h.1.lt (by rw [h.2];omega)
theorem Bx.next (h:Bx w b l) (hb:Below w.heap.size w w'):Bx w' b l:=⟨h.1.below hb h.lt,h.2⟩
theorem By.next (h:By w b l) (hb:Below w.heap.size w w'):By w' b l:=⟨h.1.below hb h.lt,h.2⟩
theorem Bx.range (h:Bx w b l):w.rangeAt b 0 (ints .i64 l):=h.1.range
theorem By.range (h:By w b l):w.rangeAt b 0 (ints .u8 l):=h.1.range
theorem Bx.room (h:Bx w b l) {l':List Int} (e:l'.length=16):w.there b 0 (ints .i64 l').toArray.size:=h.1.room (by rw [e,h.2])
theorem Bx.stored (h:Bx w b l) {l':List Int} (e:l'.length=16):Bx (w.setCells b 0 (ints .i64 l').toArray.toList) b l':=⟨h.1.stored (by rw [e,h.2]),e⟩
theorem Bx.past (h:Bx w b l) {b':Nat} (vs:List Value) (hb:b'≠b):Bx (w.setCells b' 0 vs) b l:=⟨h.1.past vs (.inl hb),h.2⟩
end
section
variable {P:Program} {ops:Array Oper} {W:World} {Q:Act→Prop} {a:Act} {o:Oper} {rest:List Oper}
end
section
variable {ops:Array Oper} {W:World} {Q:Act→Prop} {a:Act} {o:Oper} {rest:List Oper} {b:Nat} {l:List Int}
end
def zob:Obj:=.cells (ints .i64 (zeros 16)).toArray 70
theorem alloc26 (ev:Operand→Value) (o:Oper) (ho:o.op=.alloc 70) (w:World):(execOp ev o).run Tryz.prog w=.ok (.value (.pointer (some ⟨w.heap.size,0,none⟩))) (w.alloc zob):=by
 obtain ⟨z26,s26⟩:=zero_of_info inf26
 unfold execOp
 simp only [ho]
 go_simp
 rfl
def Eqv (a b:Int):Prop:=a%P=b%P
theorem Eqv.refl (a:Int):Eqv a a:=rfl
theorem Eqv.trans {a b c:Int} (h:Eqv a b) (k:Eqv b c):Eqv a c:=Eq.trans h k
theorem Eqv.mul {a b c d:Int} (h:Eqv a b) (k:Eqv c d):Eqv (a*c) (b*d):=by
 unfold Eqv at *;rw [Int.mul_emod,h,k,←Int.mul_emod]
theorem Eqv.pow {a b:Int} (h:Eqv a b) (n:Nat):Eqv (a^n) (b^n):=by
 induction n with
 | zero=>rw [Int.pow_zero,Int.pow_zero];exact Eqv.refl _
 | succ n ih=>rw [Int.pow_succ,Int.pow_succ];exact ih.mul h
theorem mul_eqv {xs ys:List Int} (hx:El xs) (hy:El ys):Eqv (ev (mulL xs ys)) (ev xs*ev ys):=(mulL_el hx hy).2
def bv:List Int→Int
 | []=>0
 | b::l=>b+256*bv l
theorem bv_bd:∀l:List Int,Byt l→0≤bv l∧bv l<256^l.length
 | [],_=>by simp [bv]
 | x::l,h=>by
   have h1:=bv_bd l (fun y hy=>h y (by simp [hy]))
   have h2:=h x (by simp)
   simp only [bv,List.length_cons,Int.pow_succ]
   omega
theorem bv_at:∀(l:List Int) (j:Nat),Byt l→bv l / 256^j%256=l.getD j 0
 | [],j,_=>by simp [bv]
 | x::l,0,h=>by
   have h2:=h x (by simp)
   simp only [bv,Int.pow_zero,Int.ediv_one]
   simp;omega
 | x::l,j+1,h=>by
   have h1:=bv_at l j (fun y hy=>h y (by simp [hy]))
   have h2:=h x (by simp)
   have e:(x+256*bv l) / 256^(j+1)=bv l / 256^j:=by
    have e1:(x+256*bv l) / 256=bv l:=by omega
    rw [Int.pow_succ,Int.mul_comm ((256:Int)^j),←Int.ediv_ediv_of_nonneg (by omega:(0:Int)≤256),e1]
   simp only [bv]
   rw [e,h1]
   simp
theorem mod_div_pow (n:Int) (r:Nat) (h:r<8):n%256 / 2^r%2=n / 2^r%2:=by
 have:r=0∨r=1∨r=2∨r=3∨r=4∨r=5∨r=6∨r=7:=by omega
 rcases this with rfl|rfl|rfl|rfl|rfl|rfl|rfl|rfl <;> simp <;> omega
theorem pow256 (j:Nat):(256:Int)^j=2^(8*j):=by rw [Int.pow_mul];rfl
theorem bit_eq (bs:List Int) (hb:Byt bs) (i:Nat):bitAt bs i=bv bs / 2^i%2:=by
 unfold bitAt
 rw [←bv_at bs (i / 8) hb,mod_div_pow _ _ (by omega),pow256,Int.ediv_ediv_of_nonneg (Int.le_of_lt (Int.pow_pos (by omega))),←Int.pow_add]
 congr 3
 omega
theorem powL_eqv {xs bs:List Int} (hx:El xs) (hb:Byt bs) (hl:bs.length=32) (k:Nat) (hk:k≤256):Eqv (ev (powL xs bs k)) (ev xs^(bv bs / 2^(256 - k)).toNat):=by
 have hbd:=bv_bd bs hb
 rw [hl,pow256] at hbd
 induction k with
 | zero =>
   have e:bv bs / 2^(256 - 0)=0:=Int.ediv_eq_zero_of_lt hbd.1 hbd.2
   rw [e]
   show Eqv (ev (smallL 1)) _
   rw [small_ev 1 (by omega)]
   show Eqv 1 (ev xs^0)
   rw [Int.pow_zero]
   exact Eqv.refl _
 | succ k ih =>
   have h1:=ih (by omega)
   have hE:=powL_el (bs:=bs) hx k
   have hbit:=bit_eq bs hb (255 - k)
   have hN:bv bs / 2^(256 - k)=bv bs / 2^(255 - k) / 2:=by
    rw [Int.ediv_ediv_of_nonneg (Int.le_of_lt (Int.pow_pos (by omega))),←Int.pow_succ]
    congr 2;omega
   have e255:256 - (k+1)=255 - k:=by omega
   rw [e255]
   rw [hN] at h1
   have hn0:0≤bv bs / 2^(255 - k):=Int.ediv_nonneg hbd.1 (Int.le_of_lt (Int.pow_pos (by omega)))
   obtain ⟨N,hNe⟩:=Int.eq_ofNat_of_zero_le hn0
   rw [hNe] at h1 hbit ⊢
   have t1:((N:Int) / 2).toNat=N / 2:=by omega
   have t2:((N:Int)).toNat=N:=by omega
   rw [t1] at h1
   rw [t2]
   simp only [powL]
   have hsq:=(mul_eqv hE hE).trans (h1.mul h1)
   rw [←Int.pow_add] at hsq
   by_cases hb1:bitAt bs (255 - k)=1
   ·rw [if_pos hb1]
    have:=(mul_eqv (mulL_el hE hE).1 hx).trans (hsq.mul (Eqv.refl _))
    rw [←Int.pow_succ] at this
    have e:(N / 2+N / 2).succ=N:=by omega
    rw [e] at this
    exact this
   ·rw [if_neg hb1]
    have e:N / 2+N / 2=N:=by omega
    rw [e] at hsq
    exact hsq
theorem powL_num {xs bs:List Int} (hx:El xs) (hb:Byt bs) (hl:bs.length=32):Eqv (ev (powL xs bs 256)) (ev xs^(bv bs).toNat):=by
 have h:=powL_eqv hx hb hl 256 (by omega)
 rw [Nat.sub_self,Int.pow_zero,Int.ediv_one] at h
 exact h
theorem pn_int:((NT.PN:Nat):Int)=P:=by decide
theorem int_pow_mod (x:Int) (n:Nat):Eqv (x^n) ((((x%P).toNat^n%NT.PN:Nat)):Int):=by
 have h0:0≤x%P:=Int.emod_nonneg _ (by decide)
 have h1:((x%P).toNat:Int)=x%P:=Int.toNat_of_nonneg h0
 unfold Eqv
 rw [Int.natCast_emod,pn_int,Int.emod_emod_of_dvd _ (Int.dvd_refl P),Int.natCast_pow,h1]
 exact Eqv.pow (show Eqv x (x%P) from (Int.emod_emod_of_dvd _ (Int.dvd_refl P)).symm) n
theorem bv_inv:(bv (onesL 235 127)).toNat=NT.PN - 2:=by decide +kernel
theorem byt_getD {bs:List Int} (hb:Byt bs) (i:Nat):0≤bs.getD i 0∧bs.getD i 0<256:=by
 rw [List.getD_eq_getElem?_getD]
 cases h:bs[i]? with
 | none=>simp
 | some x=>exact hb.at_ h
theorem ofL_dg {bs:List Int} (hb:Byt bs):Dg (ofL bs):=by
 refine ⟨ofL_length bs,fun i x hi=>?_⟩
 have h15:(dgs bs)[15]? = some ((dgs bs).getD 15 0):=getD_some (by rw [dgs_length];omega)
 have key:∀(i:Nat) (x:Int),(dgs bs)[i]? = some x→0≤x∧x<65536:=fun i x hi=>by
  have h16:=(List.getElem?_eq_some_iff.1 hi).1
  rw [dgs_length] at h16
  rw [dgs_at bs h16] at hi
  have h1:=byt_getD hb (2*i)
  have h2:=byt_getD hb (2*i+1)
  rw [←Option.some.inj hi]
  omega
 unfold ofL at hi
 by_cases e:15=i
 ·subst e
  rw [List.getElem?_set_self (by rw [dgs_length];omega)] at hi
  rw [←Option.some.inj hi]
  omega
 ·rw [List.getElem?_set_ne e] at hi
  have:=key i x hi
  omega
theorem ofL_el {bs:List Int} (hb:Byt bs):El (ofL bs):=el_set (ofL_dg hb)
theorem El.big {a:List Int} (h:El a):Bd 100000000000000000 a:=fun x hx=>by have:=h.bd x hx;omega
theorem results_row2 {P:Program} {fn:Func} {p s:Tmp} {ty:TypeId} (h:fn.results = #[.cell p ty,.tmp s]) (tmps:Array Value) (w:World) (b o:Nat) (hp:tmps.getD p undef=.pointer (some ⟨b,o,none⟩)) (v:Value) (hs:tmps.getD s undef=v)
 (cs:List Value) (d:TypeDesc) (hc:w.rangeAt b o cs) (hu:P.underlying ty=some d) (hd:d.isRow=true) (hi:(P.info? ty).map (·.size)=some cs.length) :
 (results fn tmps).run P w=.ok (.tuple #[.agg cs.toArray,v]) w:=by
 simp only [results,h]
 have hp2:tmps[p]?.getD undef=.pointer (some ⟨b,o,none⟩):=by rw [←hp];simp
 have hs2:tmps[s]?.getD undef=v:=by rw [←hs];simp
 simp [hp2,hs2,asAddr,run_loadVar_mid w b o ty cs d hc hu hd hi]
theorem By.new (w:World) (l:List Int) (h:l.length=32):By (w.alloc (.cells (ints .u8 l).toArray 22)) w.heap.size l:=⟨Arr.made w .u8 l 22,h⟩
section
variable {xs ys bs:List Int}
theorem El.huge (h:El xs):Bd 1000000000000000000 xs:=fun x hx=>by have:=h.bd x hx;omega
theorem c_of (hl:bs.length=32) (hb:Byt bs):CallsTo 47 #[.agg (ints .u8 bs).toArray] (.agg (ints .i64 (ofL bs)).toArray):=fun w=>of_any bs w hl hb
theorem c_small (n:Int):CallsTo 48 #[.int .i64 n] (.agg (ints .i64 (smallL n)).toArray):=fun w=>small_any n w
theorem c_add (hx:El xs) (hy:El ys):CallsTo 72 #[.agg (ints .i64 xs).toArray,.agg (ints .i64 ys).toArray] (.agg (ints .i64 (cy (plus xs ys))).toArray):=fun w=>add_any xs ys w hx.len hy.len hx.big hy.big
theorem c_sub (hx:El xs) (hy:El ys):CallsTo 73 #[.agg (ints .i64 xs).toArray,.agg (ints .i64 ys).toArray] (.agg (ints .i64 (cy (minus xs ys))).toArray):=fun w=>sub_any xs ys w hx.len hy.len hx.big hy.big
theorem c_mul (hx:El xs) (hy:El ys):CallsTo 51 #[.agg (ints .i64 xs).toArray,.agg (ints .i64 ys).toArray] (.agg (ints .i64 (mulL xs ys)).toArray):=fun w=>mul_any xs ys w hx.len hy.len hx.bd hy.bd
theorem c_inv (hx:El xs):CallsTo 52 #[.agg (ints .i64 xs).toArray] (.agg (ints .i64 (invL xs)).toArray):=fun w=>inverse_any xs w hx
theorem c_bytes (hx:El xs):CallsTo 53 #[.agg (ints .i64 xs).toArray] (.agg (ints .u8 (byd (red xs))).toArray):=fun w=>bytes_any xs w hx.len hx.huge
end
end Go.Proofs.YtkblmdakejmmhaaGreatDoor
