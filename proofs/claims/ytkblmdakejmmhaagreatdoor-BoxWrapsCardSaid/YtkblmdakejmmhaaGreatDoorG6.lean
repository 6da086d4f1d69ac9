import Derived.Test.YtkblmdakejmmhaaGreatDoorG5
namespace Go.Proofs.YtkblmdakejmmhaaGreatDoor
open Go Go.RowKit
section
set_option maxRecDepth 4000 in
set_option maxHeartbeats 1000000 in
theorem reduced_any (xs:List Int) (w:World) (hl:xs.length=16) (hb:Bd 1000000000000000000 xs) :
 Calls Tryz.prog 78 #[.agg (ints .i64 xs).toArray] w fun e w'=>e=.returned (.agg (ints .i64 (red xs)).toArray)∧Below w.heap.size w w':=by
 obtain ⟨z24,s24⟩:=zero_of_info inf24
 have HL:=hid hl
 have HX0:Hid (-1000000000000000000≤xs.getD 0 0∧xs.getD 0 0≤1000000000000000000):=hid (hb.at_ (getD_some (by omega)))
 have HR:Hid (red xs=cy ((cy (xs.set 0 (xs.getD 0 0+19))).set 0 ((cy (xs.set 0 (xs.getD 0 0+19))).getD 0 0 - 19))):=hid rfl
 have H1:Hid (Bd 1152921504606846976 (xs.set 0 (xs.getD 0 0+19))):=hid (Bd.set (fun y hy=>by have:=hb y hy;omega) _ _ (by have:=HX0.out;omega))
 have h2:Bd 700000000000000 (cy (xs.set 0 (xs.getD 0 0+19))):=cy_small _ (by simp [hl]) H1.out
 have HX1:Hid (-700000000000000≤(cy (xs.set 0 (xs.getD 0 0+19))).getD 0 0∧(cy (xs.set 0 (xs.getD 0 0+19))).getD 0 0≤700000000000000):=hid (h2.at_ (getD_some (by rw [cy_length];simp [hl])))
 have H2:Hid (Bd 1152921504606846976 ((cy (xs.set 0 (xs.getD 0 0+19))).set 0 ((cy (xs.set 0 (xs.getD 0 0+19))).getD 0 0 - 19))):=hid (Bd.set (fun y hy=>by have:=h2 y hy;omega) _ _ (by have:=HX1.out;omega))
 have HLy:Hid ((cy (xs.set 0 (xs.getD 0 0+19))).length=16):=hid (by rw [cy_length];simp [hl])
 clear hb h2 hl
 have HX00:Hid (xs[0]? = some (xs.getD 0 0)):=hid (getD_some (by rw [HL.out];omega))
 generalize hxx:xs.getD 0 0=x at *
 have HXX:=hid hxx
 have hx19:IntKind.i64.wrap (x+19)=x+19:=IntWalk.i64_in _ (by have:=HX0.out;omega)
 have HLs:Hid ((xs.set 0 (x+19)).length=16):=hid (by simp [HL.out])
 generalize hxs:xs.set 0 (x+19)=xs1 at *
 have HXS:=hid hxs
 clear hxs hxx
 have HY00:Hid ((cy xs1)[0]? = some ((cy xs1).getD 0 0)):=hid (getD_some (by rw [HLy.out];omega))
 have HLy1:Hid ((cy xs1).length=16):=HLy
 have HY1:Hid (cy xs1=cy xs1):=hid rfl
 generalize hys:cy xs1=ys at *
 have HYS:=hid hys
 clear hys HY1 HLy1
 generalize hyy:ys.getD 0 0=y at *
 have hy19:IntKind.i64.wrap (y - 19)=y - 19:=IntWalk.i64_in _ (by have:=HX1.out;omega)
 have HLs2:Hid ((ys.set 0 (y - 19)).length=16):=hid (by simp [HLy.out])
 generalize hzs:ys.set 0 (y - 19)=zs at *
 have HZS:=hid hzs
 have HYY:=hid hyy
 clear hzs hyy
 have hN0:Arr (w.alloc (.cells (ints .i64 xs).toArray 70)) w.heap.size 0 .i64 xs:=Arr.made w .i64 xs 70
 have hB0:=(below_new w (.cells (ints .i64 xs).toArray 70)).alloc (by simp) (.cells (ints .i64 (zeros 16)).toArray 68)
 have hR0:=Arr.made (w.alloc (.cells (ints .i64 xs).toArray 70)) .i64 (zeros 16) 68
 rw [World.size_alloc] at hR0
 have hD0:=Arr.made ((w.alloc (.cells (ints .i64 xs).toArray 70)).alloc (.cells (ints .i64 (zeros 16)).toArray 68)) .i64 (zeros 16) 68
 rw [World.size_alloc,World.size_alloc] at hD0
 have hN1:=hN0.alloc (.cells (ints .i64 (zeros 16)).toArray 68)
 have hR1:=hR0.alloc (.cells (ints .i64 (zeros 16)).toArray 68)
 have hB1:=hB0.alloc (by simp;omega) (.cells (ints .i64 (zeros 16)).toArray 68)
 have hD1:=hD0.stored (l':=xs) (by rw [zeros_len];exact HL.out)
 have hR2:=hR1.past (b':=w.heap.size+1+1) (o':=0) (ints .i64 xs).toArray.toList (.inl (by omega))
 have hB2:=Below.setCells hB1 (g:=w.heap.size+1+1) (by omega) 0 (ints .i64 xs).toArray.toList
 have c0:=hD1.at_ HX00.out
 have f0:=hD1.free (i:=0) (by rw [HL.out];omega)
 have hs1:(((w.alloc (.cells (ints .i64 xs).toArray 70)).alloc (.cells (ints .i64 (zeros 16)).toArray 68)).alloc (.cells (ints .i64 (zeros 16)).toArray 68)).there (w.heap.size+1+1) 0 (ints .i64 xs).toArray.size:=hD0.room (by rw [zeros_len];exact HL.out)
 clear hN0 hR0 hD0 hR1 hB0 hB1
 go_enter Tryz.func78,Tryz.ntmps78
 go_wp2_with (first
  | (with_reducible refine wpList_load_mid (op:=⟨some 5,.load 68 (.tmp 4),_,_,_,_⟩) rfl 68 (.tmp 4) rfl w.heap.size 0 rfl (ints .i64 xs) _ (hN1.range) Tryz.underlying68 rfl (l24 HL.out) ?_)
  | (with_reducible refine wpList_store_mid (op:=⟨none,.store 68 (.tmp 3) (.tmp 5),_,_,_,_⟩) rfl 68 (.tmp 3) (.tmp 5) rfl (w.heap.size+1+1) 0 (ints .i64 xs).toArray rfl rfl hs1 (a24 HL.out) (ints_all _ _) ?_))
 have hA1:=hD1.set 0 (x+19)
 rw [Nat.add_zero,HXS.out] at hA1
 have hR3:=hR2.apart (p:=⟨w.heap.size+1+1,0,none⟩) (.int .i64 (x+19)) (.inl (by show w.heap.size+1+1≠w.heap.size+1;omega))
 have hB3:=hB2.setCell (p:=⟨w.heap.size+1+1,0,none⟩) (by show w.heap.size≤w.heap.size+1+1;omega) (.int .i64 (x+19))
 clear hs1 c0 f0 hN1 hD1 hR2 hB2
 refine (carry_any _ _ _ HLs.out H1.out hA1).mono ?_
 rintro e w1 ⟨rfl,hA2,hO2⟩
 rw [HYS.out] at hA2
 have hR4:=hR3.only hO2 (by omega)
 have hB4:=hB3.trans (hO2.below (B:=w.heap.size) (by omega) hB3.size)
 clear hA1 hR3 hB3 hO2
 have c0:=hA2.at_ HY00.out
 have f0:=hA2.free (i:=0) (by rw [HLy.out];omega)
 have hA3:=hA2.set 0 (y - 19)
 rw [Nat.add_zero,HZS.out] at hA3
 have hR5:=hR4.apart (p:=⟨w.heap.size+1+1,0,none⟩) (.int .i64 (y - 19)) (.inl (by show w.heap.size+1+1≠w.heap.size+1;omega))
 have hB5:=hB4.setCell (p:=⟨w.heap.size+1+1,0,none⟩) (by show w.heap.size≤w.heap.size+1+1;omega) (.int .i64 (y - 19))
 clear hA2 hR4 hB4
 go_wp2_with (fail)
 refine (carry_any _ _ _ HLs2.out H2.out hA3).mono ?_
 rintro e w2 ⟨rfl,hA6,hO6⟩
 rw [←HR.out] at hA6
 have hR6:=hR5.only hO6 (by omega)
 have hB6:=hB5.trans (hO6.below (B:=w.heap.size) (by omega) hB5.size)
 have HLR:Hid ((red xs).length=16):=hid (by rw [red_length];exact HL.out)
 have hs6:w2.there (w.heap.size+1) 0 (ints .i64 (red xs)).toArray.size:=hR6.room (by rw [zeros_len];exact HLR.out)
 have hR7:=hR6.stored (l':=red xs) (by rw [zeros_len];exact HLR.out)
 have hB7:=Below.setCells hB6 (g:=w.heap.size+1) (by omega) 0 (ints .i64 (red xs)).toArray.toList
 clear hA3 hR5 hB5 hO6
 go_wp2_with (first
  | (with_reducible refine wpList_load_mid (op:=⟨some 16,.load 68 (.tmp 3),_,_,_,_⟩) rfl 68 (.tmp 3) rfl (w.heap.size+1+1) 0 rfl (ints .i64 (red xs)) _ (hA6.range) Tryz.underlying68 rfl (l24 HLR.out) ?_)
  | (with_reducible refine wpList_store_mid (op:=⟨none,.store 68 (.tmp 2) (.tmp 16),_,_,_,_⟩) rfl 68 (.tmp 2) (.tmp 16) rfl (w.heap.size+1) 0 (ints .i64 (red xs)).toArray rfl rfl hs6 (a24 HLR.out) (ints_all _ _) ?_))
 exact ret_rows rfl (w.heap.size+1) 0 rfl (ints .i64 (red xs)) _ hR7.range Tryz.underlying68 rfl (l24 HLR.out) rfl ⟨rfl,hB7⟩
end
def smallL (n:Int):List Int:=if 0≤n∧n≤65535 then n::zeros 15 else zeros 16
theorem smallL_length (n:Int):(smallL n).length=16:=by unfold smallL;split <;> simp [zeros]
set_option maxRecDepth 4000 in
set_option maxHeartbeats 1000000 in
theorem small_any (n:Int) (w:World):Calls Tryz.prog 48 #[.int .i64 n] w fun e w'=>e=.returned (.agg (ints .i64 (smallL n)).toArray)∧Below w.heap.size w w':=by
 obtain ⟨z24,s24⟩:=zero_of_info inf24
 obtain ⟨z26,s26⟩:=zero_of_info inf26
 have hR:=Arr.made w .i64 (zeros 16) 70
 have hW:=below_new w (.cells (ints .i64 (zeros 16)).toArray 70)
 by_cases h:0≤n∧n≤65535
 ·have e:smallL n=n::zeros 15:=by unfold smallL;rw [if_pos h]
  have h0:decide (n<0)=false:=by simp;omega
  have h1:decide (65535<n)=false:=by simp;omega
  have hs:=hR.room (l':=n::zeros 15) (k':=.i64) rfl
  have hR2:=hR.stored (l':=n::zeros 15) rfl
  have hW2:=Below.setCells hW (g:=w.heap.size) (by omega) 0 (ints .i64 (n::zeros 15)).toArray.toList
  rw [e]
  clear e h
  have HQ:Hid ((n::zeros 15).length=16):=hid rfl
  go_enter Tryz.func48,Tryz.ntmps48
  go_wp2_with (first
   | ((with_reducible refine wpList_store_mid (op:=⟨none,.store 70 (.tmp 2) (.tmp 12),_,_,_,_⟩) rfl 70 (.tmp 2) (.tmp 12) rfl w.heap.size 0 (ints .i64 (n::zeros 15)).toArray rfl ?_ hs (a26 HQ.out) (ints_all _ _) ?_);focus (kernel_rfl)))
  exact ret_rows rfl w.heap.size 0 rfl (ints .i64 (n::zeros 15)) _ hR2.range Tryz.underlying70 rfl (l26 HQ.out) rfl ⟨rfl,hW2⟩
 ·have e:smallL n=zeros 16:=by unfold smallL;rw [if_neg h]
  have hs:=hR.room (l':=zeros 16) (k':=.i64) rfl
  have hR2:=hR.stored (l':=zeros 16) rfl
  have hW2:=Below.setCells hW (g:=w.heap.size) (by omega) 0 (ints .i64 (zeros 16)).toArray.toList
  rw [e]
  have HQ:Hid ((zeros 16).length=16):=hid rfl
  by_cases h2:n<0
  ·have h0:decide (n<0)=true:=by simp;omega
   clear e h
   go_enter Tryz.func48,Tryz.ntmps48
   go_wp2_with (first
    | ((with_reducible refine wpList_store_mid (op:=⟨none,.store 70 (.tmp 2) (.tmp 9),_,_,_,_⟩) rfl 70 (.tmp 2) (.tmp 9) rfl w.heap.size 0 (ints .i64 (zeros 16)).toArray rfl ?_ hs (a26 HQ.out) (ints_all _ _) ?_);focus (kernel_rfl)))
   exact ret_rows rfl w.heap.size 0 rfl (ints .i64 (zeros 16)) _ hR2.range Tryz.underlying70 rfl (l26 HQ.out) rfl ⟨rfl,hW2⟩
  ·have h0:decide (n<0)=false:=by simp;omega
   have h1:decide (65535<n)=true:=by simp;omega
   clear e h h2
   go_enter Tryz.func48,Tryz.ntmps48
   go_wp2_with (first
    | ((with_reducible refine wpList_store_mid (op:=⟨none,.store 70 (.tmp 2) (.tmp 9),_,_,_,_⟩) rfl 70 (.tmp 2) (.tmp 9) rfl w.heap.size 0 (ints .i64 (zeros 16)).toArray rfl ?_ hs (a26 HQ.out) (ints_all _ _) ?_);focus (kernel_rfl)))
   exact ret_rows rfl w.heap.size 0 rfl (ints .i64 (zeros 16)) _ hR2.range Tryz.underlying70 rfl (l26 HQ.out) rfl ⟨rfl,hW2⟩
theorem index24 {ds:List Int} {k:Nat} {d:Int} (h:ds[k]? = some d) (hk:k<16) (w:World):(Instr.index 68 (.agg (ints .i64 ds).toArray) (.int .i64 (k:Int))).run Tryz.prog w=.ok (.int .i64 d) w :=
 run_index_row 68 2 16 (ints .i64 ds) .i64 k (.int .i64 d) (.int .i64) Tryz.underlying68 Tryz.underlying2 rfl (by kernel_rfl) hk (by simp [ints,h])
set_option maxRecDepth 4000 in
set_option maxHeartbeats 1000000 in
theorem bytes_any (xs:List Int) (w:World) (hl:xs.length=16) (hb:Bd 1000000000000000000 xs) :
 Calls Tryz.prog 53 #[.agg (ints .i64 xs).toArray] w fun e w'=>e=.returned (.agg (ints .u8 (byd (red xs))).toArray)∧Below w.heap.size w w':=by
 obtain ⟨z22,s22⟩:=zero_of_info inf22
 have HL:=hid hl
 have HB:=hid hb
 clear hl hb
 have hN:=((Arr.made w .i64 xs 70).alloc (.cells (ints .u8 (zeros 32)).toArray 22)).alloc (.cells (ints .u8 (zeros 32)).toArray 22)
 have hR:=(Arr.made (w.alloc (.cells (ints .i64 xs).toArray 70)) .u8 (zeros 32) 22).alloc (.cells (ints .u8 (zeros 32)).toArray 22)
 have hD:=Arr.made ((w.alloc (.cells (ints .i64 xs).toArray 70)).alloc (.cells (ints .u8 (zeros 32)).toArray 22)) .u8 (zeros 32) 22
 have hW:=((below_new w (.cells (ints .i64 xs).toArray 70)).alloc (by simp) (.cells (ints .u8 (zeros 32)).toArray 22)).alloc (by simp;omega) (.cells (ints .u8 (zeros 32)).toArray 22)
 rw [World.size_alloc] at hR
 rw [World.size_alloc,World.size_alloc] at hD
 have HRL:Hid ((red xs).length=16):=hid (by rw [red_length];exact HL.out)
 have HZ:Hid (zeros 32=fillK (byd (red xs)) 0):=hid (by rw [fillK_zero,byd_length];rfl)
 rw [HZ.out] at hD
 go_enter Tryz.func53,Tryz.ntmps53
 go_wp2_with (first
  | (with_reducible refine wpList_load_mid (op:=⟨some 6,.load 70 (.tmp 1),_,_,_,_⟩) rfl 70 (.tmp 1) rfl w.heap.size 0 rfl (ints .i64 xs) _ (hN.range) Tryz.underlying70 rfl (l26 HL.out) ?_)
  | (go_at_call 78;refine (reduced_any xs _ HL.out HB.out).mono ?_;rintro e w1 ⟨rfl,hb1⟩))
 have hN1:=hN.below hb1 (by simp;omega)
 have hR1:=hR.below hb1 (by simp)
 have hD1:=hD.below hb1 (by simp)
 have hW1:=hW.trans (hb1.mono (by simp;omega))
 clear hN hR hD hW hb1
 have HBL:=hid (byd_length (red xs))
 have HE:Hid (∀i,i<16→(byd (red xs))[2*i]? = some ((red xs).getD i 0%256)):=hid fun i h=>byd_even _ h
 have HO:Hid (∀i,i<16→(byd (red xs))[2*i+1]? = some ((red xs).getD i 0 / 256%256)):=hid fun i h=>byd_odd _ h
 go_loopw [8] (fun i wr=>∃k:Nat,k≤16∧i=.int .i64 k∧Arr wr (w.heap.size+1) 0 .u8 (zeros 32)∧Arr wr (w.heap.size+1+1) 0 .u8 (fillK (byd (red xs)) (2*k))∧Below w.heap.size w wr) (fun i _=>16 - (intOf i).toNat)
 case atStart=>exact ⟨0,by omega,rfl,hR1,hD1,hW1⟩
 case round =>
  clear hN1 hR1 hD1 hW1
  obtain ⟨k,hk,rfl,hR,hD,hW⟩:=hrel
  rename World=>W1
  by_cases hlt:k<16
  ·have hx:(red xs)[k]? = some ((red xs).getD k 0):=getD_some (by rw [HRL.out];exact hlt)
   have hix:=fun w=>index24 hx hlt w
   have HX:=hid hx
   clear hx
   obtain ⟨z,cz,fz,_⟩:=hD.spot (i:=2*k) (by rw [fillK_length,HBL.out];omega)
   obtain ⟨z2,cz2,fz2,_⟩:=hD.spot (i:=2*k+1) (by rw [fillK_length,HBL.out];omega)
   rw [Nat.zero_add] at cz fz cz2 fz2
   have HV1:=hid (HE.out k hlt)
   have HV2:=hid (HO.out k hlt)
   generalize (red xs).getD k 0=d at *
   obtain ⟨p,hp⟩:∃p,p=2*k:=⟨_,rfl⟩
   obtain ⟨q,hq⟩:∃q,q=p+1:=⟨_,rfl⟩
   have hwp:IntKind.i64.wrap (2*(k:Int))=(p:Int):=by rw [IntWalk.i64_in _ (by omega)];omega
   have hwq:IntKind.i64.wrap ((p:Int)+1)=(q:Int):=by rw [IntWalk.i64_in _ (by omega)];omega
   have hwk:IntKind.i64.wrap ((k:Int)+1)=(k:Int)+1:=IntWalk.i64_in _ (by omega)
   rw [←hp] at cz fz cz2 fz2 HV1 HV2 hD
   rw [←hq] at cz2 fz2 HV2
   have k0:(0:Int)≤k:=by omega
   have k16:(k:Int)<16:=by omega
   have p0:(0:Int)≤p:=by omega
   have p32:(p:Int)<32:=by omega
   have q0:(0:Int)≤q:=by omega
   have q32:(q:Int)<32:=by omega
   have pq:p≠q:=by omega
   have HPQ:=hid (And.intro hp hq)
   clear hp hq
   have hD1:=(hD.set p (d%256)).set q (d / 256%256)
   rw [Nat.zero_add,Nat.zero_add,fillK_set _ HV1.out,←HPQ.out.2,fillK_set _ HV2.out,show q+1=2*(k+1) by have:=HPQ.out;omega] at hD1
   go_wp2
   go_roundw
   case rel=>exact ⟨k+1,by omega,by go_num,(hR.apart _ (.inl (by show w.heap.size+1+1≠w.heap.size+1;omega))).apart _ (.inl (by show w.heap.size+1+1≠w.heap.size+1;omega)),hD1,(hW.setCell (by show w.heap.size≤w.heap.size+1+1;omega) _).setCell (by show w.heap.size≤w.heap.size+1+1;omega) _⟩
   case measure=>simp [intOf];omega
  ·have e:k=16:=by omega
   subst e
   have HF:Hid (fillK (byd (red xs)) 32=byd (red xs)):=hid (by have:=fillK_end (byd (red xs));rw [HBL.out] at this;exact this)
   rw [show 2*16=32 from rfl,HF.out] at hD
   have hs1:W1.there (w.heap.size+1) 0 (ints .u8 (byd (red xs))).toArray.size:=hR.room (by rw [zeros_len];exact HBL.out)
   have hR2:=hR.stored (l':=byd (red xs)) (by rw [zeros_len];exact HBL.out)
   have hW2:=Below.setCells hW (g:=w.heap.size+1) (by omega) 0 (ints .u8 (byd (red xs))).toArray.toList
   go_wp2_with (first
    | (with_reducible refine wpList_load_mid (op:=⟨some 25,.load 22 (.tmp 3),_,_,_,_⟩) rfl 22 (.tmp 3) rfl (w.heap.size+1+1) 0 rfl (ints .u8 (byd (red xs))) _ (hD.range) Tryz.underlying22 rfl (l22 HBL.out) ?_)
    | (with_reducible refine wpList_store_mid (op:=⟨none,.store 22 (.tmp 2) (.tmp 25),_,_,_,_⟩) rfl 22 (.tmp 2) (.tmp 25) rfl (w.heap.size+1) 0 (ints .u8 (byd (red xs))).toArray rfl rfl hs1 (a22 HBL.out) (ints_all _ _) ?_))
   exact ret_rows rfl (w.heap.size+1) 0 rfl (ints .u8 (byd (red xs))) _ hR2.range Tryz.underlying22 rfl (l22 HBL.out) rfl ⟨rfl,hW2⟩
section
set_option maxHeartbeats 1000000
set_option maxRecDepth 4000
def plus (xs ys:List Int):List Int:=(List.range 16).map fun i=>xs.getD i 0+ys.getD i 0
def minus (xs ys:List Int):List Int:=(List.range 16).map fun i=>xs.getD i 0 - ys.getD i 0
def mixK (S xs:List Int) (k:Nat):List Int:=S.take k++xs.drop k
theorem mixK_set {S xs:List Int} {k:Nat} {x:Int} (hl:S.length=xs.length) (h:S[k]? = some x):(mixK S xs k).set k x=mixK S xs (k+1):=by
 have hk:=(List.getElem?_eq_some_iff.1 h).1
 apply List.ext_getElem?
 intro i
 unfold mixK
 rw [List.getElem?_set]
 have l1:(S.take k++xs.drop k).length=xs.length:=by simp;omega
 by_cases e:k=i
 ·subst e
  rw [if_pos rfl,if_pos (by rw [l1];omega),List.getElem?_append_left (by simp;omega),List.getElem?_take,if_pos (by omega),h]
 ·rw [if_neg e]
  by_cases h1:i<k
  ·rw [List.getElem?_append_left (by simp;omega),List.getElem?_append_left (by simp;omega),List.getElem?_take,List.getElem?_take,if_pos h1,if_pos (by omega)]
  ·rw [List.getElem?_append_right (by simp;omega),List.getElem?_append_right (by simp;omega),List.getElem?_drop,List.getElem?_drop]
   congr 1;simp;omega
theorem mixK_at {S xs:List Int} {k:Nat} (hl:S.length=xs.length) (h:k<xs.length):(mixK S xs k)[k]? = xs[k]? := by
 unfold mixK
 rw [List.getElem?_append_right (by simp;omega),List.getElem?_drop]
 congr 1;simp;omega
theorem mixK_zero (S xs:List Int):mixK S xs 0=xs:=by simp [mixK]
theorem mixK_end (S xs:List Int) (hl:S.length=xs.length):mixK S xs xs.length=S:=by simp [mixK,←hl]
theorem plus_length (xs ys:List Int):(plus xs ys).length=16:=by simp [plus]
theorem minus_length (xs ys:List Int):(minus xs ys).length=16:=by simp [minus]
theorem plus_at {xs ys:List Int} {i:Nat} {x y:Int} (h:i<16) (hx:xs[i]? = some x) (hy:ys[i]? = some y):(plus xs ys)[i]? = some (x+y):=by simp [plus,h,List.getD,hx,hy]
theorem minus_at {xs ys:List Int} {i:Nat} {x y:Int} (h:i<16) (hx:xs[i]? = some x) (hy:ys[i]? = some y):(minus xs ys)[i]? = some (x - y):=by simp [minus,h,List.getD,hx,hy]
theorem add_any (xs ys:List Int) (w:World) (hl:xs.length=16) (hl2:ys.length=16) (hb:Bd 100000000000000000 xs) (hb2:Bd 100000000000000000 ys) :
 Calls Tryz.prog 72 #[.agg (ints .i64 xs).toArray,.agg (ints .i64 ys).toArray] w fun e w'=>e=.returned (.agg (ints .i64 (cy (plus xs ys))).toArray)∧Below w.heap.size w w':=by
 obtain ⟨z26,s26⟩:=zero_of_info inf26
 have HL:=hid hl
 have HL2:=hid hl2
 have HB:=hid hb
 have HB2:=hid hb2
 have HPL:Hid ((plus xs ys).length=xs.length):=hid (by rw [plus_length];exact hl.symm)
 clear hl hb hl2 hb2
 have hD:=((Arr.made w .i64 xs 70).alloc (.cells (ints .i64 ys).toArray 70)).alloc (.cells (ints .i64 (zeros 16)).toArray 70)
 have hN:=(Arr.made (w.alloc (.cells (ints .i64 xs).toArray 70)) .i64 ys 70).alloc (.cells (ints .i64 (zeros 16)).toArray 70)
 have hR:=Arr.made ((w.alloc (.cells (ints .i64 xs).toArray 70)).alloc (.cells (ints .i64 ys).toArray 70)) .i64 (zeros 16) 70
 have hW:=((below_new w (.cells (ints .i64 xs).toArray 70)).alloc (by simp) (.cells (ints .i64 ys).toArray 70)).alloc (by simp;omega) (.cells (ints .i64 (zeros 16)).toArray 70)
 rw [World.size_alloc] at hN
 rw [World.size_alloc,World.size_alloc] at hR
 have HZ:Hid (xs=mixK (plus xs ys) xs 0):=hid (mixK_zero _ _).symm
 go_enter Tryz.func72,Tryz.ntmps72
 go_wp2_with (first
  | (with_reducible refine wpList_load_mid (op:=⟨some 8,.load 68 (.tmp 7),_,_,_,_⟩) rfl 68 (.tmp 7) rfl (w.heap.size+1) 0 rfl (ints .i64 ys) _ (hN.range) Tryz.underlying68 rfl (l24 HL2.out) ?_))
 generalize (((w.alloc (.cells (ints .i64 xs).toArray 70)).alloc (.cells (ints .i64 ys).toArray 70)).alloc (.cells (ints .i64 (zeros 16)).toArray 70))=W0 at *
 go_loopw [9] (fun i wr=>∃k:Nat,k≤16∧i=.int .i64 k∧Arr wr (w.heap.size+1+1) 0 .i64 (zeros 16)∧Arr wr w.heap.size 0 .i64 (mixK (plus xs ys) xs k)∧Below w.heap.size w wr) (fun i _=>16 - (intOf i).toNat)
 case atStart=>exact ⟨0,by omega,rfl,hR,by rw [←HZ.out];exact hD,hW⟩
 case round =>
  clear hN hR hD hW
  obtain ⟨k,hk,rfl,hR,hD,hW⟩:=hrel
  rename World=>W1
  by_cases hlt:k<16
  ·have HY:Hid (ys[k]? = some (ys.getD k 0)):=hid (getD_some (by rw [HL2.out];exact hlt))
   have HX:Hid (xs[k]? = some (xs.getD k 0)):=hid (getD_some (by rw [HL.out];exact hlt))
   generalize ys.getD k 0=y at *
   generalize xs.getD k 0=x at *
   have hx:=HB.out.at_ HX.out
   have hy:=HB2.out.at_ HY.out
   have hix:=fun w=>index24 HY.out hlt w
   have HM:Hid ((mixK (plus xs ys) xs k)[k]? = some x):=hid (by rw [mixK_at HPL.out (by rw [HL.out];exact hlt)];exact HX.out)
   have cz:=hD.at_ HM.out
   have fz:=hD.free (i:=k) (List.getElem?_eq_some_iff.1 HM.out).1
   rw [Nat.zero_add] at cz fz
   obtain ⟨v,hv⟩:∃v,v=x+y:=⟨_,rfl⟩
   have hwv:IntKind.i64.wrap (x+y)=v:=by rw [IntWalk.i64_in _ (by omega),hv]
   have HV:=hid hv
   clear hv
   have hD1:=hD.set k v
   rw [Nat.zero_add,mixK_set HPL.out (by rw [plus_at hlt HX.out HY.out,HV.out])] at hD1
   have hwk:IntKind.i64.wrap ((k:Int)+1)=(k:Int)+1:=IntWalk.i64_in _ (by omega)
   have k0:(0:Int)≤k:=by omega
   have k16:(k:Int)<16:=by omega
   go_wp2
   go_roundw
   case rel=>exact ⟨k+1,by omega,by go_num,hR.apart _ (.inl (by show w.heap.size≠w.heap.size+1+1;omega)),hD1,hW.setCell (by show w.heap.size≤w.heap.size;omega) _⟩
   case measure=>simp [intOf];omega
  ·have e:k=16:=by omega
   subst e
   have HE:Hid (mixK (plus xs ys) xs 16=plus xs ys):=hid (by have h:=mixK_end (plus xs ys) xs HPL.out;rw [HL.out] at h;exact h)
   rw [HE.out] at hD
   have HPB:Hid (Bd 1152921504606846976 (plus xs ys)):=hid fun v hv=>by
    obtain ⟨i,hi⟩:=List.getElem?_of_mem hv
    have h16:=(List.getElem?_eq_some_iff.1 hi).1
    rw [plus_length] at h16
    have hx:=getD_some (l:=xs) (i:=i) (by rw [HL.out];exact h16)
    have hy:=getD_some (l:=ys) (i:=i) (by rw [HL2.out];exact h16)
    rw [plus_at h16 hx hy] at hi
    injection hi with hi
    have h1:=HB.out.at_ hx
    have h2:=HB2.out.at_ hy
    omega
   have HCL:Hid ((cy (plus xs ys)).length=16):=hid (by rw [cy_length,plus_length])
   go_wp2_with (fail)
   refine (carry_any _ _ _ (plus_length _ _) HPB.out hD).mono ?_
   rintro e w1 ⟨rfl,hA2,hO2⟩
   have hR1:=hR.only hO2 (by omega)
   have hW1:=hW.trans (hO2.below (B:=w.heap.size) (by omega) hW.size)
   have hs1:w1.there (w.heap.size+1+1) 0 (ints .i64 (cy (plus xs ys))).toArray.size:=hR1.room (by rw [zeros_len];exact HCL.out)
   have hR2:=hR1.stored (l':=cy (plus xs ys)) (by rw [zeros_len];exact HCL.out)
   have hW2:=Below.setCells hW1 (g:=w.heap.size+1+1) (by omega) 0 (ints .i64 (cy (plus xs ys))).toArray.toList
   clear hD hR hW hO2
   go_wp2_with (first
    | (with_reducible refine wpList_load_mid (op:=⟨some 24,.load 70 (.tmp 2),_,_,_,_⟩) rfl 70 (.tmp 2) rfl w.heap.size 0 rfl (ints .i64 (cy (plus xs ys))) _ (hA2.range) Tryz.underlying70 rfl (l26 HCL.out) ?_)
    | (with_reducible refine wpList_store_mid (op:=⟨none,.store 70 (.tmp 4) (.tmp 24),_,_,_,_⟩) rfl 70 (.tmp 4) (.tmp 24) rfl (w.heap.size+1+1) 0 (ints .i64 (cy (plus xs ys))).toArray rfl rfl hs1 (a26 HCL.out) (ints_all _ _) ?_))
   exact ret_rows rfl (w.heap.size+1+1) 0 rfl (ints .i64 (cy (plus xs ys))) _ hR2.range Tryz.underlying70 rfl (l26 HCL.out) rfl ⟨rfl,hW2⟩
theorem sub_any (xs ys:List Int) (w:World) (hl:xs.length=16) (hl2:ys.length=16) (hb:Bd 100000000000000000 xs) (hb2:Bd 100000000000000000 ys) :
 Calls Tryz.prog 73 #[.agg (ints .i64 xs).toArray,.agg (ints .i64 ys).toArray] w fun e w'=>e=.returned (.agg (ints .i64 (cy (minus xs ys))).toArray)∧Below w.heap.size w w':=by
 obtain ⟨z26,s26⟩:=zero_of_info inf26
 have HL:=hid hl
 have HL2:=hid hl2
 have HB:=hid hb
 have HB2:=hid hb2
 have HPL:Hid ((minus xs ys).length=xs.length):=hid (by rw [minus_length];exact hl.symm)
 clear hl hb hl2 hb2
 have hD:=((Arr.made w .i64 xs 70).alloc (.cells (ints .i64 ys).toArray 70)).alloc (.cells (ints .i64 (zeros 16)).toArray 70)
 have hN:=(Arr.made (w.alloc (.cells (ints .i64 xs).toArray 70)) .i64 ys 70).alloc (.cells (ints .i64 (zeros 16)).toArray 70)
 have hR:=Arr.made ((w.alloc (.cells (ints .i64 xs).toArray 70)).alloc (.cells (ints .i64 ys).toArray 70)) .i64 (zeros 16) 70
 have hW:=((below_new w (.cells (ints .i64 xs).toArray 70)).alloc (by simp) (.cells (ints .i64 ys).toArray 70)).alloc (by simp;omega) (.cells (ints .i64 (zeros 16)).toArray 70)
 rw [World.size_alloc] at hN
 rw [World.size_alloc,World.size_alloc] at hR
 have HZ:Hid (xs=mixK (minus xs ys) xs 0):=hid (mixK_zero _ _).symm
 go_enter Tryz.func73,Tryz.ntmps73
 go_wp2_with (first
  | (with_reducible refine wpList_load_mid (op:=⟨some 8,.load 68 (.tmp 7),_,_,_,_⟩) rfl 68 (.tmp 7) rfl (w.heap.size+1) 0 rfl (ints .i64 ys) _ (hN.range) Tryz.underlying68 rfl (l24 HL2.out) ?_))
 generalize (((w.alloc (.cells (ints .i64 xs).toArray 70)).alloc (.cells (ints .i64 ys).toArray 70)).alloc (.cells (ints .i64 (zeros 16)).toArray 70))=W0 at *
 go_loopw [9] (fun i wr=>∃k:Nat,k≤16∧i=.int .i64 k∧Arr wr (w.heap.size+1+1) 0 .i64 (zeros 16)∧Arr wr w.heap.size 0 .i64 (mixK (minus xs ys) xs k)∧Below w.heap.size w wr) (fun i _=>16 - (intOf i).toNat)
 case atStart=>exact ⟨0,by omega,rfl,hR,by rw [←HZ.out];exact hD,hW⟩
 case round =>
  clear hN hR hD hW
  obtain ⟨k,hk,rfl,hR,hD,hW⟩:=hrel
  rename World=>W1
  by_cases hlt:k<16
  ·have HY:Hid (ys[k]? = some (ys.getD k 0)):=hid (getD_some (by rw [HL2.out];exact hlt))
   have HX:Hid (xs[k]? = some (xs.getD k 0)):=hid (getD_some (by rw [HL.out];exact hlt))
   generalize ys.getD k 0=y at *
   generalize xs.getD k 0=x at *
   have hx:=HB.out.at_ HX.out
   have hy:=HB2.out.at_ HY.out
   have hix:=fun w=>index24 HY.out hlt w
   have HM:Hid ((mixK (minus xs ys) xs k)[k]? = some x):=hid (by rw [mixK_at HPL.out (by rw [HL.out];exact hlt)];exact HX.out)
   have cz:=hD.at_ HM.out
   have fz:=hD.free (i:=k) (List.getElem?_eq_some_iff.1 HM.out).1
   rw [Nat.zero_add] at cz fz
   obtain ⟨v,hv⟩:∃v,v=x - y:=⟨_,rfl⟩
   have hwv:IntKind.i64.wrap (x - y)=v:=by rw [IntWalk.i64_in _ (by omega),hv]
   have HV:=hid hv
   clear hv
   have hD1:=hD.set k v
   rw [Nat.zero_add,mixK_set HPL.out (by rw [minus_at hlt HX.out HY.out,HV.out])] at hD1
   have hwk:IntKind.i64.wrap ((k:Int)+1)=(k:Int)+1:=IntWalk.i64_in _ (by omega)
   have k0:(0:Int)≤k:=by omega
   have k16:(k:Int)<16:=by omega
   go_wp2
   go_roundw
   case rel=>exact ⟨k+1,by omega,by go_num,hR.apart _ (.inl (by show w.heap.size≠w.heap.size+1+1;omega)),hD1,hW.setCell (by show w.heap.size≤w.heap.size;omega) _⟩
   case measure=>simp [intOf];omega
  ·have e:k=16:=by omega
   subst e
   have HE:Hid (mixK (minus xs ys) xs 16=minus xs ys):=hid (by have h:=mixK_end (minus xs ys) xs HPL.out;rw [HL.out] at h;exact h)
   rw [HE.out] at hD
   have HPB:Hid (Bd 1152921504606846976 (minus xs ys)):=hid fun v hv=>by
    obtain ⟨i,hi⟩:=List.getElem?_of_mem hv
    have h16:=(List.getElem?_eq_some_iff.1 hi).1
    rw [minus_length] at h16
    have hx:=getD_some (l:=xs) (i:=i) (by rw [HL.out];exact h16)
    have hy:=getD_some (l:=ys) (i:=i) (by rw [HL2.out];exact h16)
    rw [minus_at h16 hx hy] at hi
    injection hi with hi
    have h1:=HB.out.at_ hx
    have h2:=HB2.out.at_ hy
    omega
   have HCL:Hid ((cy (minus xs ys)).length=16):=hid (by rw [cy_length,minus_length])
   go_wp2_with (fail)
   refine (carry_any _ _ _ (minus_length _ _) HPB.out hD).mono ?_
   rintro e w1 ⟨rfl,hA2,hO2⟩
   have hR1:=hR.only hO2 (by omega)
   have hW1:=hW.trans (hO2.below (B:=w.heap.size) (by omega) hW.size)
   have hs1:w1.there (w.heap.size+1+1) 0 (ints .i64 (cy (minus xs ys))).toArray.size:=hR1.room (by rw [zeros_len];exact HCL.out)
   have hR2:=hR1.stored (l':=cy (minus xs ys)) (by rw [zeros_len];exact HCL.out)
   have hW2:=Below.setCells hW1 (g:=w.heap.size+1+1) (by omega) 0 (ints .i64 (cy (minus xs ys))).toArray.toList
   clear hD hR hW hO2
   go_wp2_with (first
    | (with_reducible refine wpList_load_mid (op:=⟨some 24,.load 70 (.tmp 2),_,_,_,_⟩) rfl 70 (.tmp 2) rfl w.heap.size 0 rfl (ints .i64 (cy (minus xs ys))) _ (hA2.range) Tryz.underlying70 rfl (l26 HCL.out) ?_)
    | (with_reducible refine wpList_store_mid (op:=⟨none,.store 70 (.tmp 4) (.tmp 24),_,_,_,_⟩) rfl 70 (.tmp 4) (.tmp 24) rfl (w.heap.size+1+1) 0 (ints .i64 (cy (minus xs ys))).toArray rfl rfl hs1 (a26 HCL.out) (ints_all _ _) ?_))
   exact ret_rows rfl (w.heap.size+1+1) 0 rfl (ints .i64 (cy (minus xs ys))) _ hR2.range Tryz.underlying70 rfl (l26 HCL.out) rfl ⟨rfl,hW2⟩
end
end Go.Proofs.YtkblmdakejmmhaaGreatDoor
