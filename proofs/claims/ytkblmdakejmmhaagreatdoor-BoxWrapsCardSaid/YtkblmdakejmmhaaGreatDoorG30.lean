import Derived.Test.YtkblmdakejmmhaaGreatDoorG29
import Derived.Test.YtkblmdakejmmhaaGreatDoorG25
namespace Go.Proofs.YtkblmdakejmmhaaGreatDoor
open Go Go.RowKit
set_option maxRecDepth 50000
theorem run_copyN {w:World} {b o m c L c':Nat} {A:Option Addr} {xs:List Int} (hX:Nums w .u8 A xs) (hl:xs.length=L) (hm:L≤m) (ht:w.there b o L) :
 (Builtin.copy_ #[23,23] 3 #[.slice (some ⟨b,o,none⟩) m c,.slice A L c']).run Tryz.prog w=.ok (.int .i64 (L:Int)) (w.setCells b o (ints .u8 xs)):=by
 subst hl
 rcases Nat.eq_zero_or_pos xs.length with h0|hp
 ·have e:=List.eq_nil_of_length_eq_zero h0
  subst e
  exact run_copy_none w 23 23 3 5 _ A m c 0 c' Tryz.underlying23 (by kernel_rfl) (Nat.zero_min m)
 ·obtain ⟨b2,f2,rfl,hlt,hc⟩:=hX hp
  have h:=run_copy_cells (P:=Tryz.prog) w 23 23 3 5 b o m c ⟨b2,f2,none⟩ xs.length c' (ints .u8 xs) Tryz.underlying23 (by kernel_rfl) (by rw [ints_length];exact (Nat.min_eq_left hm).symm) (fun j v hv=>by
   simp only [ints,List.getElem?_map,Option.map_eq_some_iff] at hv
   obtain ⟨x,hx,rfl⟩:=hv
   have hj:=(List.getElem?_eq_some_iff.1 hx).1
   rw [Addr.add_mid,hc j hj,List.getD_eq_getElem?_getD,hx];rfl) (fun j hj=>(ht j (by rwa [ints_length] at hj)).1) (fun j hj=>(ht j (by rwa [ints_length] at hj)).2) (ints_one _ _)
  rw [ints_length] at h
  exact h
theorem over_zeros {xs:List Int} {n:Nat} (h:xs.length≤n):over (zeros n) 0 xs=xs++zeros (n - xs.length):=by
 simp [over,zeros]
theorem bn_pad (xs:List Int) (n:Nat):bn (xs++zeros n)=bn xs:=by
 unfold bn
 rw [bv_append,bv_zeros,Int.mul_zero,Int.add_zero]
theorem and252 {x:Int} (h:0≤x∧x<256):bits .and .u8 x 252=x / 4*4:=by
 have key:∀n:Fin 256,bits .and .u8 (n.val:Int) 252=(n.val:Int) / 4*4:=by decide +kernel
 obtain ⟨n,rfl⟩:=Int.eq_ofNat_of_zero_le h.1
 exact key ⟨n,by omega⟩
theorem and15 {x:Int} (h:0≤x∧x<256):bits .and .u8 x 15=x%16:=by
 have key:∀n:Fin 256,bits .and .u8 (n.val:Int) 15=(n.val:Int)%16:=by decide +kernel
 obtain ⟨n,rfl⟩:=Int.eq_ofNat_of_zero_le h.1
 exact key ⟨n,by omega⟩
def K1 (bs:List Int) (i:Nat):List Int:=(List.range 16).map fun j=>if j%4=3∧j<i then bs.getD j 0%16 else bs.getD j 0
def K2 (bs:List Int) (i:Nat):List Int:=(List.range 16).map fun j=>if j%4=0∧4≤j∧j<i then bs.getD j 0 / 4*4 else bs.getD j 0
def clampLZ (bs:List Int):List Int:=K2 (K1 bs 16) 16
theorem K1_length (bs:List Int) (i:Nat):(K1 bs i).length=16:=by simp [K1]
theorem K2_length (bs:List Int) (i:Nat):(K2 bs i).length=16:=by simp [K2]
theorem K1_at (bs:List Int) (i:Nat) {j:Nat} (h:j<16):(K1 bs i)[j]? = some (if j%4=3∧j<i then bs.getD j 0%16 else bs.getD j 0):=by simp [K1,h]
theorem K2_at (bs:List Int) (i:Nat) {j:Nat} (h:j<16):(K2 bs i)[j]? = some (if j%4=0∧4≤j∧j<i then bs.getD j 0 / 4*4 else bs.getD j 0):=by simp [K2,h]
theorem K1_zero {bs:List Int} (h:bs.length=16):K1 bs 3=bs:=by
 apply List.ext_getElem?
 intro j
 by_cases hj:j<16
 ·rw [K1_at bs 3 hj,if_neg (by omega),←getD_some (by omega)]
 ·rw [List.getElem?_eq_none (by rw [K1_length];omega),List.getElem?_eq_none (by omega)]
theorem K2_zero {bs:List Int} (h:bs.length=16):K2 bs 4=bs:=by
 apply List.ext_getElem?
 intro j
 by_cases hj:j<16
 ·rw [K2_at bs 4 hj,if_neg (by omega),←getD_some (by omega)]
 ·rw [List.getElem?_eq_none (by rw [K2_length];omega),List.getElem?_eq_none (by omega)]
theorem K1_step {bs:List Int} {i:Nat} (hi:i<16) (h4:i%4=3):(K1 bs i).set i (bs.getD i 0%16)=K1 bs (i+4):=by
 apply List.ext_getElem?
 intro j
 by_cases hj:j<16
 ·by_cases e:i=j
  ·subst e
   rw [List.getElem?_set_self (by rw [K1_length];exact hi),K1_at bs _ hj,if_pos (by omega)]
  ·rw [List.getElem?_set_ne e,K1_at bs _ hj,K1_at bs _ hj]
   congr 1
   by_cases h:j%4=3∧j<i
   ·rw [if_pos h,if_pos (by omega)]
   ·rw [if_neg h,if_neg (by omega)]
 ·rw [List.getElem?_eq_none (by rw [List.length_set,K1_length];omega),List.getElem?_eq_none (by rw [K1_length];omega)]
theorem K2_step {bs:List Int} {i:Nat} (hi:i<16) (h4:i%4=0) (h5:4≤i):(K2 bs i).set i (bs.getD i 0 / 4*4)=K2 bs (i+4):=by
 apply List.ext_getElem?
 intro j
 by_cases hj:j<16
 ·by_cases e:i=j
  ·subst e
   rw [List.getElem?_set_self (by rw [K2_length];exact hi),K2_at bs _ hj,if_pos (by omega)]
  ·rw [List.getElem?_set_ne e,K2_at bs _ hj,K2_at bs _ hj]
   congr 1
   by_cases h:j%4=0∧4≤j∧j<i
   ·rw [if_pos h,if_pos (by omega)]
   ·rw [if_neg h,if_neg (by omega)]
 ·rw [List.getElem?_eq_none (by rw [List.length_set,K2_length];omega),List.getElem?_eq_none (by rw [K2_length];omega)]
theorem K1_end {bs:List Int} {i:Nat} (h:16≤i):K1 bs i=K1 bs 16:=by
 apply List.ext_getElem?
 intro j
 by_cases hj:j<16
 ·rw [K1_at bs _ hj,K1_at bs _ hj]
  congr 1
  by_cases h:j%4=3
  ·rw [if_pos (by omega),if_pos (by omega)]
  ·rw [if_neg (by omega),if_neg (by omega)]
 ·rw [List.getElem?_eq_none (by rw [K1_length];omega),List.getElem?_eq_none (by rw [K1_length];omega)]
theorem K1_byt {bs:List Int} (h:Byt bs) (hl:bs.length=16) (i:Nat):Byt (K1 bs i):=fun x hx=>by
 obtain ⟨j,hj⟩:=List.getElem?_of_mem hx
 have h16:=(List.getElem?_eq_some_iff.1 hj).1
 rw [K1_length] at h16
 rw [K1_at bs i h16] at hj
 injection hj with hj
 have:=h.at_ (getD_some (l:=bs) (i:=j) (by omega))
 split at hj <;> omega
theorem K2_byt {bs:List Int} (h:Byt bs) (hl:bs.length=16) (i:Nat):Byt (K2 bs i):=fun x hx=>by
 obtain ⟨j,hj⟩:=List.getElem?_of_mem hx
 have h16:=(List.getElem?_eq_some_iff.1 hj).1
 rw [K2_length] at h16
 rw [K2_at bs i h16] at hj
 injection hj with hj
 have:=h.at_ (getD_some (l:=bs) (i:=j) (by omega))
 split at hj <;> omega
theorem clampL_lengthZ (bs:List Int):(clampLZ bs).length=16:=K2_length _ _
theorem clampL_bytZ {bs:List Int} (h:Byt bs) (hl:bs.length=16):Byt (clampLZ bs):=K2_byt (K1_byt h hl 16) (K1_length _ _) 16
set_option maxHeartbeats 2000000 in
theorem clamp_core (bs r:List Int) (w:World) (hl:bs.length=16) (hb:Byt bs) (HR:Hid (K2 (K1 bs 16) 16=r)) (HRL:Hid (r.length=16)) :
 Calls Tryz.prog 89 #[.agg (ints .u8 bs).toArray] w fun e w'=>e=.returned (.agg (ints .u8 r).toArray)∧Below w.heap.size w w':=by
 obtain ⟨z33,s33⟩:=zero_of_info inf33
 have HL:=hid hl
 have HB:=hid hb
 have HB1:=hid (K1_byt hb hl 16)
 have hD:=(Arr.made w .u8 bs 54).alloc (.cells (ints .u8 (zeros 16)).toArray 54)
 have hR:=Arr.made (w.alloc (.cells (ints .u8 bs).toArray 54)) .u8 (zeros 16) 54
 have hW:=(below_new w (.cells (ints .u8 bs).toArray 54)).alloc (by simp) (.cells (ints .u8 (zeros 16)).toArray 54)
 rw [World.size_alloc] at hR
 have HZ:=hid (K1_zero hl)
 clear hb hl
 go_enter Tryz.func89,Tryz.ntmps89
 go_wp2
 generalize ((w.alloc (.cells (ints .u8 bs).toArray 54)).alloc (.cells (ints .u8 (zeros 16)).toArray 54))=W0 at *
 rw [←HZ.out] at hD
 go_loopw [3] (fun i wr=>∃k:Nat,k≤19∧k%4=3∧i=.int .i64 k∧Arr wr w.heap.size 0 .u8 (K1 bs k)∧Arr wr (w.heap.size+1) 0 .u8 (zeros 16)∧Below w.heap.size w wr) (fun i _=>19 - (intOf i).toNat)
 case atStart=>exact ⟨3,by omega,rfl,rfl,hD,hR,hW⟩
 case round =>
  clear hD hR hW
  obtain ⟨k,hk,hk4,rfl,hD,hR,hW⟩:=hrel
  rename World=>W1
  by_cases hlt:k<16
  ·obtain ⟨x,cx,fx,HX⟩:=hD.spot (i:=k) (by rw [K1_length];exact hlt)
   rw [Nat.zero_add] at cx fx
   have HXE:Hid (bs.getD k 0=x):=hid (by have h:=HX.out;rw [K1_at bs k hlt,if_neg (by omega)] at h;injection h)
   have hxb:=HB.out.at_ (getD_some (l:=bs) (i:=k) (by rw [HL.out];exact hlt))
   rw [HXE.out] at hxb
   have hmk:=and15 hxb
   have hw8:IntKind.u8.wrap (x%16)=x%16:=IntWalk.u8_in _ (by omega)
   have k0:(0:Int)≤k:=by omega
   have k16:(k:Int)<16:=by omega
   have hwk:IntKind.i64.wrap ((k:Int)+4)=(k:Int)+4:=IntWalk.i64_in _ (by omega)
   have hD1:=hD.set k (x%16)
   have hK:=K1_step (bs:=bs) hlt hk4
   rw [HXE.out] at hK
   rw [Nat.zero_add,hK] at hD1
   have HXB:=hid hxb
   clear hK hxb
   go_wp2
   go_roundw
   case rel=>exact ⟨k+4,by omega,by omega,by go_num,hD1,hR.apart _ (.inl (by show w.heap.size≠w.heap.size+1;omega)),hW.setCell (by show w.heap.size≤w.heap.size;omega) _⟩
   case measure=>simp [intOf];omega
  ·have e:k=19:=by omega
   subst e
   rw [K1_end (by omega)] at hD
   have HL1:=hid (K1_length bs 16)
   generalize K1 bs 16=ds at *
   have HZ2:=hid (K2_zero HL1.out)
   rw [←HZ2.out] at hD
   go_wp2
   go_loopw [4] (fun i wr=>∃k:Nat,k≤16∧4≤k∧k%4=0∧i=.int .i64 k∧Arr wr w.heap.size 0 .u8 (K2 ds k)∧Arr wr (w.heap.size+1) 0 .u8 (zeros 16)∧Below w.heap.size w wr) (fun i _=>16 - (intOf i).toNat)
   case atStart=>exact ⟨4,by omega,by omega,rfl,rfl,hD,hR,hW⟩
   case round =>
    clear hD hR hW
    obtain ⟨k,hk,hk5,hk4,rfl,hD,hR,hW⟩:=hrel
    rename World=>W2
    by_cases hlt2:k<16
    ·obtain ⟨x,cx,fx,HX⟩:=hD.spot (i:=k) (by rw [K2_length];exact hlt2)
     rw [Nat.zero_add] at cx fx
     have HXE:Hid (ds.getD k 0=x):=hid (by have h:=HX.out;rw [K2_at ds k hlt2,if_neg (by omega)] at h;injection h)
     have hxb:=HB1.out.at_ (getD_some (l:=ds) (i:=k) (by rw [HL1.out];exact hlt2))
     rw [HXE.out] at hxb
     have hmk:=and252 hxb
     have hw8:IntKind.u8.wrap (x / 4*4)=x / 4*4:=IntWalk.u8_in _ (by omega)
     have k0:(0:Int)≤k:=by omega
     have k16:(k:Int)<16:=by omega
     have hwk:IntKind.i64.wrap ((k:Int)+4)=(k:Int)+4:=IntWalk.i64_in _ (by omega)
     have hD1:=hD.set k (x / 4*4)
     have hK:=K2_step (bs:=ds) hlt2 hk4 hk5
     rw [HXE.out] at hK
     rw [Nat.zero_add,hK] at hD1
     have HXB:=hid hxb
     clear hK hxb
     go_wp2
     go_roundw
     case rel=>exact ⟨k+4,by omega,by omega,by omega,by go_num,hD1,hR.apart _ (.inl (by show w.heap.size≠w.heap.size+1;omega)),hW.setCell (by show w.heap.size≤w.heap.size;omega) _⟩
     case measure=>simp [intOf];omega
    ·have e:k=16:=by omega
     subst e
     rw [HR.out] at hD
     have hs1:W2.there (w.heap.size+1) 0 (ints .u8 r).toArray.size:=hR.room (by rw [zeros_len];exact HRL.out)
     have hR2:=hR.stored (l':=r) (by rw [zeros_len];exact HRL.out)
     have hW2:=Below.setCells hW (g:=w.heap.size+1) (by omega) 0 (ints .u8 r).toArray.toList
     go_wp2_with (first
      | (with_reducible refine wpList_load_mid (op:=⟨some 23,.load 54 (.tmp 1),_,_,_,_⟩) rfl 54 (.tmp 1) rfl w.heap.size 0 rfl (ints .u8 r) _ (hD.range) Tryz.underlying54 rfl (l33 HRL.out) ?_)
      | (with_reducible refine wpList_store_mid (op:=⟨none,.store 54 (.tmp 2) (.tmp 23),_,_,_,_⟩) rfl 54 (.tmp 2) (.tmp 23) rfl (w.heap.size+1) 0 (ints .u8 r).toArray rfl rfl hs1 (a33 HRL.out) (ints_all _ _) ?_))
     exact ret_rows rfl (w.heap.size+1) 0 rfl (ints .u8 r) _ hR2.range Tryz.underlying54 rfl (l33 HRL.out) rfl ⟨rfl,hW2⟩
theorem clamp_any (bs:List Int) (w:World) (hl:bs.length=16) (hb:Byt bs) :
 Calls Tryz.prog 89 #[.agg (ints .u8 bs).toArray] w fun e w'=>e=.returned (.agg (ints .u8 (clampLZ bs)).toArray)∧Below w.heap.size w w' :=
 clamp_core bs (clampLZ bs) w hl hb (hid rfl) (hid (clampL_lengthZ bs))
def lb (m:Nat):List Int:=(List.range 16).map fun i=>((m / 256^i%256:Nat):Int)
theorem lb_length (m:Nat):(lb m).length=16:=by simp [lb]
theorem lb_byt (m:Nat):Byt (lb m):=fun x hx=>by
 simp only [lb,List.mem_map] at hx
 obtain ⟨i,_,rfl⟩:=hx
 omega
theorem lb_bv (m:Nat):bv (lb m)=((m%256^16:Nat):Int):=range_bv 16 m
theorem byt_inj {a b:List Int} (hl:a.length=b.length) (ha:Byt a) (hb:Byt b) (h:bv a=bv b):a=b:=by
 apply List.ext_getElem?
 intro i
 by_cases hi:i<a.length
 ·rw [getD_some hi,getD_some (by omega),←bv_at a i ha,←bv_at b i hb,h]
 ·rw [List.getElem?_eq_none (by omega),List.getElem?_eq_none (by omega)]
def LowI (xs ys:List Int) (k:Nat) (zs:List Int) (c:Int):Prop:=zs.length=16∧Byt zs∧0≤c∧c≤1∧bv (zs.take k)+c*256^k=bv (xs.take k)+bv (ys.take k)∧∀j,k≤j→zs[j]? = ys[j]?
theorem LowI.start {xs ys:List Int} (hl:ys.length=16) (hb:Byt ys):LowI xs ys 0 ys 0:=⟨hl,hb,by omega,by omega,by simp [bv],fun _ _=>rfl⟩
theorem LowI.step {xs ys zs:List Int} {k:Nat} {c x y:Int} (h:LowI xs ys k zs c) (hk:k<16) (hx:xs[k]? = some x) (hy:ys[k]? = some y) (hxb:0≤x∧x<256) (hyb:0≤y∧y<256):LowI xs ys (k+1) (zs.set k ((c+(x+y))%256)) ((c+(x+y)) / 256):=by
 obtain ⟨h1,h2,h3,h4,h5,h6⟩:=h
 refine ⟨by simp [h1],fun z hz=>?_,by omega,by omega,?_,fun j hj=>?_⟩
 ·rcases List.mem_or_eq_of_mem_set hz with e|e
  ·exact h2 z e
  ·rw [e];omega
 ·have e1:(zs.set k ((c+(x+y))%256))[k]? = some ((c+(x+y))%256):=List.getElem?_set_self (by omega)
  rw [bv_take_succ e1,bv_take_succ hx,bv_take_succ hy,List.take_set_of_le (Nat.le_refl k),Int.pow_succ]
  have hdm:=Int.emod_add_mul_ediv (c+(x+y)) 256
  generalize (c+(x+y))%256=r at *
  generalize (c+(x+y)) / 256=q at *
  generalize (256:Int)^k=P at *
  have e2:(r+256*q)*P=(c+(x+y))*P:=by rw [hdm]
  rw [Int.add_mul,Int.add_mul,Int.add_mul] at e2
  have e3:q*(P*256)=256*q*P:=by rw [Int.mul_comm P,←Int.mul_assoc,Int.mul_comm q]
  rw [e3]
  omega
 ·rw [List.getElem?_set_ne (by omega)];exact h6 j (by omega)
theorem bn_take {xs:List Int} (hb:Byt xs) (h:16≤xs.length):bn (xs.take 16)=bn xs%256^16:=by
 have h1:=bv_append (xs.take 16) (xs.drop 16)
 rw [List.take_append_drop,List.length_take,Nat.min_eq_left h] at h1
 have h2:=bv_bd _ (hb.take 16)
 rw [List.length_take,Nat.min_eq_left h] at h2
 unfold bn
 rw [←toNat_mod _ _ (bv_bd xs hb).1,h1]
 have e:((256^16:Nat):Int)=(256:Int)^16:=by simp
 rw [e,Int.add_mul_emod_self_left,Int.emod_eq_of_lt h2.1 h2.2]
theorem LowI.end_ {xs ys zs:List Int} {c:Int} (h:LowI xs ys 16 zs c) (hl:ys.length=16) (hx:xs.length=17) (hb:Byt xs) (hb2:Byt ys):zs=lb (bn xs+bn ys):=by
 obtain ⟨h1,h2,h3,h4,h5,_⟩:=h
 rw [List.take_of_length_le (by omega),List.take_of_length_le (by omega:ys.length≤16)] at h5
 refine byt_inj (by rw [h1,lb_length]) h2 (lb_byt _) ?_
 rw [lb_bv]
 have hz:=bv_bd zs h2
 rw [h1] at hz
 have e1:=bn_take hb (by omega)
 have i1:=bn_int (hb.take 16)
 have i2:=bn_int hb2
 have i3:=bn_int h2
 have hz2:=bn_lt h2
 rw [h1] at hz2
 obtain ⟨d,rfl⟩:=Int.eq_ofNat_of_zero_le h3
 rw [←i1,←i2,←i3] at h5
 have e2:((256:Int)^16)=((256^16:Nat):Int):=by simp
 rw [e2] at h5
 have h6:bn zs+d*256^16=bn (xs.take 16)+bn ys:=by exact_mod_cast h5
 rw [←i3]
 congr 1
 have h7:(bn xs+bn ys)%256^16=(bn (xs.take 16)+bn ys)%256^16:=by rw [e1,Nat.mod_add_mod]
 rw [h7,←h6,Nat.add_mul_mod_self_right,Nat.mod_eq_of_lt hz2]
set_option maxHeartbeats 2000000 in
theorem low_core (xs ys r:List Int) (w:World) (HL:Hid (xs.length=17)) (HL2:Hid (ys.length=16)) (HB:Hid (Byt xs)) (HB2:Hid (Byt ys)) (HR:Hid (lb (bn xs+bn ys)=r)) (HRL:Hid (r.length=16)) :
 Calls Tryz.prog 92 #[.agg (ints .u8 xs).toArray,.agg (ints .u8 ys).toArray] w fun e w'=>e=.returned (.agg (ints .u8 r).toArray)∧Below w.heap.size w w':=by
 obtain ⟨z33,s33⟩:=zero_of_info inf33
 have HI0:=hid (LowI.start (xs:=xs) HL2.out HB2.out)
 have hX:=((Arr.made w .u8 xs 120).alloc (.cells (ints .u8 ys).toArray 54)).alloc (.cells (ints .u8 (zeros 16)).toArray 54)
 have hY:=(Arr.made (w.alloc (.cells (ints .u8 xs).toArray 120)) .u8 ys 54).alloc (.cells (ints .u8 (zeros 16)).toArray 54)
 have hR:=Arr.made ((w.alloc (.cells (ints .u8 xs).toArray 120)).alloc (.cells (ints .u8 ys).toArray 54)) .u8 (zeros 16) 54
 have hW:=((below_new w (.cells (ints .u8 xs).toArray 120)).alloc (by simp) (.cells (ints .u8 ys).toArray 54)).alloc (by simp;omega) (.cells (ints .u8 (zeros 16)).toArray 54)
 rw [World.size_alloc] at hY
 rw [World.size_alloc,World.size_alloc] at hR
 go_enter Tryz.func92,Tryz.ntmps92
 go_wp2_with (first
  | (with_reducible refine wpList_load_mid (op:=⟨some 8,.load 54 (.tmp 3),_,_,_,_⟩) rfl 54 (.tmp 3) rfl (w.heap.size+1) 0 rfl (ints .u8 ys) _ (hY.range) Tryz.underlying54 rfl (l33 HL2.out) ?_))
 generalize (((w.alloc (.cells (ints .u8 xs).toArray 120)).alloc (.cells (ints .u8 ys).toArray 54)).alloc (.cells (ints .u8 (zeros 16)).toArray 54))=W0 at *
 go_loopw [5,9] (fun o i wr=>∃(k:Nat) (zs:List Int) (c:Int),k≤16∧i=.int .i64 k∧o=.int .i64 c∧Hid (LowI xs ys k zs c)∧Arr wr w.heap.size 0 .u8 xs∧Arr wr (w.heap.size+1) 0 .u8 zs∧Arr wr (w.heap.size+1+1) 0 .u8 (zeros 16)∧Below w.heap.size w wr) (fun _ i _=>16 - (intOf i).toNat)
 case atStart=>exact ⟨0,ys,0,by omega,rfl,rfl,HI0,hX,hY,hR,hW⟩
 case round =>
  clear hX hY hR hW HI0
  obtain ⟨k,zs,c,hk,rfl,rfl,HI,hX,hD,hR,hW⟩:=hrel
  rename World=>W1
  by_cases hlt:k<16
  ·obtain ⟨x,cx,fx,HX⟩:=hX.spot (i:=k) (by rw [HL.out];omega)
   obtain ⟨z,cz,fz,_⟩:=hD.spot (i:=k) (by rw [HI.out.1];exact hlt)
   rw [Nat.zero_add] at cx cz fz
   have HY:=hid (getD_some (l:=ys) (i:=k) (by rw [HL2.out];exact hlt))
   have hix:=fun w=>index33 HY.out hlt w
   generalize ys.getD k 0=y at *
   have hxb:=HB.out.at_ HX.out
   have hyb:=HB2.out.at_ HY.out
   have hcb:=And.intro HI.out.2.2.1 HI.out.2.2.2.1
   have HS:=hid (HI.out.step hlt HX.out HY.out hxb hyb)
   have hx64:IntKind.i64.wrap x=x:=IntWalk.i64_in _ (by omega)
   have hy64:IntKind.i64.wrap y=y:=IntWalk.i64_in _ (by omega)
   have hs64:IntKind.i64.wrap (x+y)=x+y:=IntWalk.i64_in _ (by omega)
   obtain ⟨t,ht⟩:∃t,t=c+(x+y):=⟨_,rfl⟩
   have ht64:IntKind.i64.wrap (c+(x+y))=t:=by rw [IntWalk.i64_in _ (by omega),ht]
   rw [←ht] at HS
   have hw8:IntKind.u8.wrap t=t%256:=IntKind.wrap_u8 t
   have k0:(0:Int)≤k:=by omega
   have k16:(k:Int)<16:=by omega
   have k17:(k:Int)<17:=by omega
   have hwk:IntKind.i64.wrap ((k:Int)+1)=(k:Int)+1:=IntWalk.i64_in _ (by omega)
   have hD1:=hD.set k (t%256)
   rw [Nat.zero_add] at hD1
   have HXX:=hid (And.intro hxb (And.intro hyb (And.intro hcb ht)))
   clear hxb hyb hcb ht
   go_wp2
   go_roundw
   case rel=>exact ⟨k+1,zs.set k (t%256),t / 256,by omega,by go_num,rfl,HS,hX.apart _ (.inl (by show w.heap.size+1≠w.heap.size;omega)),hD1,hR.apart _ (.inl (by show w.heap.size+1≠w.heap.size+1+1;omega)),hW.setCell (by show w.heap.size≤w.heap.size+1;omega) _⟩
   case measure=>simp [intOf];omega
  ·have e:k=16:=by omega
   subst e
   have HE:=hid (HI.out.end_ HL2.out HL.out HB.out HB2.out)
   rw [HE.out,HR.out] at hD
   have hs1:W1.there (w.heap.size+1+1) 0 (ints .u8 r).toArray.size:=hR.room (by rw [zeros_len];exact HRL.out)
   have hR2:=hR.stored (l':=r) (by rw [zeros_len];exact HRL.out)
   have hW2:=Below.setCells hW (g:=w.heap.size+1+1) (by omega) 0 (ints .u8 r).toArray.toList
   go_wp2_with (first
    | (with_reducible refine wpList_load_mid (op:=⟨some 29,.load 54 (.tmp 3),_,_,_,_⟩) rfl 54 (.tmp 3) rfl (w.heap.size+1) 0 rfl (ints .u8 r) _ (hD.range) Tryz.underlying54 rfl (l33 HRL.out) ?_)
    | (with_reducible refine wpList_store_mid (op:=⟨none,.store 54 (.tmp 4) (.tmp 29),_,_,_,_⟩) rfl 54 (.tmp 4) (.tmp 29) rfl (w.heap.size+1+1) 0 (ints .u8 r).toArray rfl rfl hs1 (a33 HRL.out) (ints_all _ _) ?_))
   exact ret_rows rfl (w.heap.size+1+1) 0 rfl (ints .u8 r) _ hR2.range Tryz.underlying54 rfl (l33 HRL.out) rfl ⟨rfl,hW2⟩
theorem low_any (xs ys:List Int) (w:World) (hl:xs.length=17) (hl2:ys.length=16) (hb:Byt xs) (hb2:Byt ys) :
 Calls Tryz.prog 92 #[.agg (ints .u8 xs).toArray,.agg (ints .u8 ys).toArray] w fun e w'=>e=.returned (.agg (ints .u8 (lb (bn xs+bn ys))).toArray)∧Below w.heap.size w w' :=
 low_core xs ys _ w (hid hl) (hid hl2) (hid hb) (hid hb2) (hid rfl) (hid (lb_length _))
section
variable {ops:Array Oper} {md:Region.Mode} {W:World} {a0:Act} {n:Nat} {al:Nat→Bool} {S:Nat→Value→World→Prop} {Q:Exit→Act→World→Prop} {i:Nat} {o:Oper}
end
theorem cx11 (vs:Array Value) (w:World):(callFunc 113 vs).run Tryz.prog w=.ok (.enter 113 vs) w:=by go_simp
theorem cx13 (vs:Array Value) (w:World):(callFunc 114 vs).run Tryz.prog w=.ok (.enter 114 vs) w:=by go_simp
theorem cx19 (vs:Array Value) (w:World):(callFunc 70 vs).run Tryz.prog w=.ok (.enter 70 vs) w:=by go_simp
theorem cx20 (vs:Array Value) (w:World):(callFunc 60 vs).run Tryz.prog w=.ok (.enter 60 vs) w:=by go_simp
theorem cx28 (vs:Array Value) (w:World):(callFunc 92 vs).run Tryz.prog w=.ok (.enter 92 vs) w:=by go_simp
theorem fldT0 (b:Nat):∀w,(Instr.fieldAt 122 (.pointer (some ⟨b,0,none⟩)) 0).run Tryz.prog w=.ok (.pointer (some ⟨b,0,none⟩)) w:=fun w=>by go_simp
theorem fldT1 (b:Nat):∀w,(Instr.fieldAt 122 (.pointer (some ⟨b,0,none⟩)) 1).run Tryz.prog w=.ok (.pointer (some ⟨b,17,none⟩)) w:=fun w=>by go_simp
theorem fldT2 (b:Nat):∀w,(Instr.fieldAt 122 (.pointer (some ⟨b,0,none⟩)) 2).run Tryz.prog w=.ok (.pointer (some ⟨b,34,none⟩)) w:=fun w=>by go_simp
theorem zv (k:IntKind) (m:Nat):(ints k (zeros m)).length=m:=il (zeros_len m)
theorem ua25:Tryz.prog.underlying 120=some (.array (Tryz.prog.arrayLen 120) (Tryz.prog.elem 120)):=by kernel_rfl
theorem ua41:Tryz.prog.underlying 22=some (.array (Tryz.prog.arrayLen 22) (Tryz.prog.elem 22)):=by kernel_rfl
theorem ze25:∀w,(sizeOf (Tryz.prog.elem 120)).run Tryz.prog w=.ok 1 w:=fun w=>by kernel_rfl
theorem ze41:∀w,(sizeOf (Tryz.prog.elem 22)).run Tryz.prog w=.ok 1 w:=fun w=>by kernel_rfl
theorem infSl:(Tryz.prog.info? 23).map (fun i=>(i.zero,i.size))=some (some (.slice none 0 0),1):=by kernel_rfl
theorem infB3:(Tryz.prog.info? 5).map (fun i=>(i.zero,i.size,i.bytes))=some (some (.int .u8 0),1,1):=by kernel_rfl
theorem c_addZ {xs ys:List Int} (hl:xs.length=17) (hl2:ys.length=17) (hb:Byt xs) (hb2:Byt ys):CallsTo 113 #[.agg (ints .u8 xs).toArray,.agg (ints .u8 ys).toArray] (.agg (ints .u8 (pb ((bn xs+bn ys)%PNZ))).toArray):=fun w=>add_anyZ xs ys w hl hl2 hb hb2
theorem c_mulZ {xs ys:List Int} (hl:xs.length=17) (hl2:ys.length=17) (hb:Byt xs) (hb2:Byt ys):CallsTo 114 #[.agg (ints .u8 xs).toArray,.agg (ints .u8 ys).toArray] (.agg (ints .u8 (pb (bn xs*bn ys%PNZ))).toArray):=fun w=>mul_anyZ xs ys w hl hl2 hb hb2
theorem c_clampZ {xs:List Int} (hl:xs.length=16) (hb:Byt xs):CallsTo 89 #[.agg (ints .u8 xs).toArray] (.agg (ints .u8 (clampLZ xs)).toArray):=fun w=>clamp_any xs w hl hb
theorem c_low {xs ys:List Int} (hl:xs.length=17) (hl2:ys.length=16) (hb:Byt xs) (hb2:Byt ys):CallsTo 92 #[.agg (ints .u8 xs).toArray,.agg (ints .u8 ys).toArray] (.agg (ints .u8 (lb (bn xs+bn ys))).toArray):=fun w=>low_any xs ys w hl hl2 hb hb2
def stepN (r s:Nat) (x:List Int):Nat:=(s+bn (x++[1]))*r%PNZ
def pchunk (m:List Int) (j:Nat):List Int:=(m.drop (16*j)).take 16
def accN (r:Nat) (m:List Int) (q:Nat):Nat:=(List.range q).foldl (fun s j=>stepN r s (pchunk m j)) 0
def sumN (r:Nat) (m:List Int):Nat:=accN r m ((m.length+15) / 16)
def tagL (key m:List Int):List Int:=lb (sumN (bn (clampLZ (key.take 16))) m+bn (key.drop 16))
theorem accN_succ (r:Nat) (m:List Int) (q:Nat):accN r m (q+1)=stepN r (accN r m q) (pchunk m q):=by simp [accN,List.range_succ]
theorem accN_lt (r:Nat) (m:List Int) (q:Nat):accN r m q<PNZ:=by
 cases q with
 | zero=>exact pn_posZ
 | succ q=>rw [accN_succ];exact Nat.mod_lt _ pn_posZ
theorem chunk_appZ {m x:List Int} {j:Nat} (h:16*(j+1)≤m.length):pchunk (m++x) j=pchunk m j:=by
 unfold pchunk
 rw [List.drop_append_of_le_length (by omega),List.take_append_of_le_length (by simp;omega)]
theorem accN_app (r:Nat) (m x:List Int) (q:Nat) (h:16*q≤m.length):accN r (m++x) q=accN r m q:=by
 induction q with
 | zero=>simp only [accN,List.range_zero,List.foldl_nil]
 | succ q ih=>rw [accN_succ,accN_succ,ih (by omega),chunk_appZ h]
theorem sumN_lt (r:Nat) (m:List Int):sumN r m<PNZ:=accN_lt _ _ _
def tailB (m:List Int):List Int:=m.drop (16*(m.length / 16))
theorem tailB_length (m:List Int):(tailB m).length=m.length%16:=by unfold tailB;rw [List.length_drop];omega
theorem tail_chunk (m:List Int):pchunk m (m.length / 16)=tailB m:=by
 unfold pchunk tailB
 rw [List.take_of_length_le]
 rw [List.length_drop];omega
theorem one_byt {x:List Int} (h:Byt x):Byt (x++[1]):=h.app (fun y hy=>by simp at hy;omega)
def padBZ (x:List Int):List Int:=x++zeros (17 - x.length)
theorem padB_lengthZ {x:List Int} (h:x.length≤17):(padBZ x).length=17:=by unfold padBZ;rw [List.length_append,zeros_len];omega
theorem padB_over {a x:List Int} (h:a.length+x.length≤17):over (padBZ a) a.length x=padBZ (a++x):=by
 unfold over padBZ
 rw [List.take_append_of_le_length (Nat.le_refl _),List.take_length,List.length_append]
 congr 1
 rw [List.drop_append,List.drop_of_length_le (by omega),List.nil_append,zeros,List.drop_replicate,zeros]
 congr 1
 omega
theorem padB_one {x:List Int} (h:x.length≤16):(padBZ x).set x.length 1=padBZ (x++[1]):=by
 unfold padBZ
 rw [List.set_append_right _ _ (Nat.le_refl _),Nat.sub_self,List.append_assoc]
 congr 1
 rw [List.length_append,List.length_singleton]
 have e:17 - x.length=(17 - (x.length+1))+1:=by omega
 rw [e,zeros,List.replicate_succ,List.set_cons_zero]
 rfl
theorem padB_bn (x:List Int):bn (padBZ x)=bn x:=bn_pad x _
structure Tgr (w:World) (b:Nat) (s t blk:List Int) (fl:Nat):Prop where
 su:Arr w b 0 .u8 s
 ti:Arr w b 17 .u8 t
 bk:Arr w b 34 .u8 blk
 fc:w.cell? ⟨b,51,none⟩=some (.int .i64 fl)
 fz:w.frozen? ⟨b,51,none⟩=false
 sl:s.length=17
 tl:t.length=17
 bl:blk.length=17
 sb:Byt s
 tb:Byt t
 bb:Byt blk
section
variable {w w':World} {b:Nat} {s t blk:List Int} {fl:Nat}
theorem Tgr.lt (h:Tgr w b s t blk fl):b<w.heap.size:=World.block_lt_of_cell? w _ h.fc
theorem Tgr.same (h:Tgr w b s t blk fl) (he:w'.heap[b]? = w.heap[b]?):Tgr w' b s t blk fl :=
 ⟨h.su.same he,h.ti.same he,h.bk.same he,(cell_same he).trans h.fc,by have:=h.fz;unfold World.frozen? at *;simp only [he];exact this,h.sl,h.tl,h.bl,h.sb,h.tb,h.bb⟩
theorem Tgr.next (h:Tgr w b s t blk fl) (hb:Below w.heap.size w w'):Tgr w' b s t blk fl:=h.same (hb.block b h.lt)
theorem Tgr.drew (h:Tgr w b s t blk fl):Tgr w.drew b s t blk fl:=h.same rfl
theorem Tgr.sum (h:Tgr w b s t blk fl) {s':List Int} (hl:s'.length=17) (hb:Byt s'):Tgr (w.setCells b 0 (ints .u8 s').toArray.toList) b s' t blk fl:=by
 have e:(ints .u8 s').toArray.toList=ints .u8 s':=rfl
 have hn:(ints .u8 s').length=17:=il hl
 refine ⟨h.su.stored (by rw [hl,h.sl]),h.ti.past _ (.inr (.inl (by rw [e,hn];omega))),h.bk.past _ (.inr (.inl (by rw [e,hn];omega))),?_,by rw [World.frozen?_setCells];exact h.fz,hl,h.tl,h.bl,hb,h.tb,h.bb⟩
 rw [World.cell?_setCells_out _ _ _ _ _ (fun _ _=>.inr (by rw [e,hn];show 0+17≤51;omega))]
 exact h.fc
theorem Tgr.blk_ (h:Tgr w b s t blk fl) {x:List Int} (hl:x.length=17) (hb:Byt x):Tgr (w.setCells b 34 (ints .u8 x).toArray.toList) b s t x fl:=by
 have e:(ints .u8 x).toArray.toList=ints .u8 x:=rfl
 have hn:(ints .u8 x).length=17:=il hl
 refine ⟨h.su.past _ (.inr (.inr (by rw [h.sl];omega))),h.ti.past _ (.inr (.inr (by rw [h.tl];omega))),h.bk.stored (by rw [hl,h.bl]),?_,by rw [World.frozen?_setCells];exact h.fz,h.sl,h.tl,hl,h.sb,h.tb,hb⟩
 rw [World.cell?_setCells_out _ _ _ _ _ (fun _ _=>.inr (by rw [e,hn];show 34+17≤51;omega))]
 exact h.fc
theorem Tgr.lay (h:Tgr w b s t blk fl) {x:List Int} {j:Nat} (hj:j+x.length≤17) (hb:Byt x):Tgr (w.setCells b (34+j) (ints .u8 x)) b s t (over blk j x) fl:=by
 have hn:(ints .u8 x).length=x.length:=ints_length _ _
 have hov:(over blk j x).length=17:=by rw [over_length (by rw [h.bl];exact hj),h.bl]
 refine ⟨h.su.past _ (.inr (.inr (by rw [h.sl];omega))),h.ti.past _ (.inr (.inr (by rw [h.tl];omega))),h.bk.over (by rw [h.bl];exact hj),?_,by rw [World.frozen?_setCells];exact h.fz,h.sl,h.tl,hov,h.sb,h.tb,fun y hy=>?_⟩
 ·rw [World.cell?_setCells_out _ _ _ _ _ (fun _ _=>.inr (by rw [hn];show 34+j+x.length≤51;omega))]
  exact h.fc
 ·simp only [over,List.mem_append] at hy
  rcases hy with (hy|hy)|hy
  ·exact h.bb y (List.mem_of_mem_take hy)
  ·exact hb y hy
  ·exact h.bb y (List.mem_of_mem_drop hy)
theorem Tgr.put (h:Tgr w b s t blk fl) (j:Nat) {x:Int} (hj:j<17) (hx:0≤x∧x<256):Tgr (w.setCell ⟨b,34+j,none⟩ (.int .u8 x)) b s t (blk.set j x) fl:=by
 refine ⟨h.su.apart _ (.inr (.inr (by show 0+s.length≤34+j;rw [h.sl];omega))),h.ti.apart _ (.inr (.inr (by show 17+t.length≤34+j;rw [h.tl];omega))),h.bk.set j x,?_,by rw [World.frozen?_setCell];exact h.fz,h.sl,h.tl,by rw [List.length_set];exact h.bl,h.sb,h.tb,fun y hy=>?_⟩
 ·rw [World.cell?_setCell_other _ _ _ _ (by intro q;injection q with _ q;omega)]
  exact h.fc
 ·rcases List.mem_or_eq_of_mem_set hy with e|e
  ·exact h.bb y e
  ·rw [e];exact hx
theorem Tgr.fill (h:Tgr w b s t blk fl) (n:Nat):Tgr (w.setCell ⟨b,51,none⟩ (.int .i64 n)) b s t blk n :=
 ⟨h.su.apart _ (.inr (.inr (by show 0+s.length≤51;rw [h.sl];omega))),h.ti.apart _ (.inr (.inr (by show 17+t.length≤51;rw [h.tl];omega))),h.bk.apart _ (.inr (.inr (by show 34+blk.length≤51;rw [h.bl];omega))),World.cell?_setCell_same _ _ _ h.fc,by rw [World.frozen?_setCell];exact h.fz,h.sl,h.tl,h.bl,h.sb,h.tb,h.bb⟩
end
def AbsZ (w:World) (b:Nat) (t m:List Int):Prop:=Tgr w b (pb (accN (bn t) m (m.length / 16))) t (padBZ (tailB m)) (m.length%16)
theorem more_partZ {r:Nat} {m x:List Int} (h:m.length%16+x.length<16):accN r (m++x) ((m++x).length / 16)=accN r m (m.length / 16)∧tailB (m++x)=tailB m++x∧(m++x).length%16=m.length%16+x.length:=by
 have e1:(m++x).length%16=m.length%16+x.length:=by rw [List.length_append];omega
 have e2:(m++x).length / 16=m.length / 16:=by rw [List.length_append];omega
 refine ⟨by rw [e2];exact accN_app _ _ _ _ (by omega),?_,e1⟩
 unfold tailB
 rw [e2,List.drop_append_of_le_length (by omega)]
theorem more_fullZ {r:Nat} {m x:List Int} (h:m.length%16+x.length=16):accN r (m++x) ((m++x).length / 16)=stepN r (accN r m (m.length / 16)) (tailB m++x)∧tailB (m++x)=[]∧(m++x).length%16=0:=by
 have e1:(m++x).length%16=0:=by rw [List.length_append];omega
 have e2:(m++x).length / 16=m.length / 16+1:=by rw [List.length_append];omega
 have e3:pchunk (m++x) (m.length / 16)=tailB m++x:=by
  unfold pchunk tailB
  rw [List.drop_append_of_le_length (by omega),List.take_of_length_le]
  rw [List.length_append,List.length_drop];omega
 refine ⟨by rw [e2,accN_succ,accN_app _ _ _ _ (by omega),e3],?_,e1⟩
 unfold tailB
 rw [List.drop_of_length_le (by omega)]
theorem mix_step {t x:List Int} {s:Nat} (hs:s<PNZ):(bn (pb s)+bn (padBZ (x++[1])))%PNZ*bn t%PNZ=stepN (bn t) s x:=by
 unfold stepN
 rw [pb_bn (pn_lt hs),padB_bn,Nat.mod_mul_mod]
theorem sum_end {r:Nat} {m:List Int} (h:m.length%16=0):accN r m (m.length / 16)=sumN r m:=by
 unfold sumN
 congr 1
 omega
theorem sum_more {r:Nat} {m:List Int} (h:0<m.length%16):stepN r (accN r m (m.length / 16)) (tailB m)=sumN r m:=by
 unfold sumN
 have e:(m.length+15) / 16=m.length / 16+1:=by omega
 rw [e,accN_succ,tail_chunk]
def fillN (n:Nat):Nat:=(16 - n%16)%16
theorem fillN_lt (n:Nat):fillN n<16:=Nat.mod_lt _ (by omega)
theorem fillN_mod (n:Nat):(n+fillN n)%16=0:=by unfold fillN;omega
def tagT (be hi:List Int):List Int:=be++(zeros (fillN be.length)++(hi++(zeros (fillN hi.length)++(le8 be.length++le8 hi.length))))
theorem tagT_len (be hi:List Int):(tagT be hi).length=be.length+fillN be.length+hi.length+fillN hi.length+16:=by
 simp only [tagT,List.length_append,zeros_len,le8_length]
 omega
theorem tagT_byt {be hi:List Int} (h1:Byt be) (h2:Byt hi):Byt (tagT be hi):=by
 have h3:Byt (le8 be.length):=le8_byt _
 have h4:Byt (le8 hi.length):=le8_byt _
 exact h1.app ((byt_zeros _).app (h2.app ((byt_zeros _).app (h3.app h4))))
def onceL (key nonce:List Int):List Int:=(blockL key nonce 0).take 32
theorem onceL_len {key nonce:List Int} (hk:key.length=32) (hn:nonce.length=12):(onceL key nonce).length=32:=by
 unfold onceL
 rw [List.length_take,blockL_length hk hn];rfl
theorem onceL_byt (key nonce:List Int):Byt (onceL key nonce):=(blockL_byt key nonce 0).take 32
def atag (key nonce be hi:List Int):List Int:=tagL (onceL key nonce) (tagT be hi)
theorem atag_len (key nonce be hi:List Int):(atag key nonce be hi).length=16:=lb_length _
theorem atag_byt (key nonce be hi:List Int):Byt (atag key nonce be hi):=lb_byt _
def hidT (key nonce t:List Int):List Int:=hideL t (strm key nonce 1 (4294967296 - 1))
theorem hidT_room {key nonce t:List Int} (hk:key.length=32) (hn:nonce.length=12) (ht:t.length≤1000):t.length≤(strm key nonce 1 (4294967296 - 1)).length:=by
 rw [strm_length hk hn]
 omega
theorem hidT_len {key nonce t:List Int} (hk:key.length=32) (hn:nonce.length=12) (ht:t.length≤1000):(hidT key nonce t).length=t.length:=hideL_length (hidT_room hk hn ht)
theorem hidT_byt (key nonce:List Int) {t:List Int} (hb:HByt t):HByt (hidT key nonce t):=hideL_byt hb (strm_byt _ _ _ _)
def sealL (key nonce be t:List Int):List Int:=hidT key nonce t++atag key nonce be (hidT key nonce t)
theorem sealL_len {key nonce be t:List Int} (hk:key.length=32) (hn:nonce.length=12) (ht:t.length≤1000):(sealL key nonce be t).length=t.length+16:=by
 unfold sealL
 rw [List.length_append,hidT_len hk hn ht,atag_len]
theorem sealL_byt {key nonce be t:List Int} (hb:HByt t):Byt (sealL key nonce be t):=(show Byt _ from hidT_byt key nonce hb).app (atag_byt _ _ _ _)
end Go.Proofs.YtkblmdakejmmhaaGreatDoor
