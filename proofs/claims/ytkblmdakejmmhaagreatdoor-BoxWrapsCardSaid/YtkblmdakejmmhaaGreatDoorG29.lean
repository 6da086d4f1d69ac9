import Derived.Test.YtkblmdakejmmhaaGreatDoorG28
namespace Go.Proofs.YtkblmdakejmmhaaGreatDoor
open Go Go.RowKit
section
set_option maxRecDepth 50000
set_option maxHeartbeats 1000000 in
theorem number_core (xs a xs1 b xs2 r:List Int) (x y:Int) (w:World) (HL:Hid (xs.length=17)) (HB:Hid (Bd 1152921504606846976 xs)) (HA:Hid (cyZ xs=a)) (HX:Hid (a[0]? = some x)) (HXB:Hid (-100000000000≤x∧x≤100000000000))
 (H1:Hid (a.set 0 (x+5)=xs1)) (HL1:Hid (xs1.length=17)) (HB1:Hid (Bd 1152921504606846976 xs1)) (HBB:Hid (cyZ xs1=b)) (HY:Hid (b[0]? = some y)) (HYB:Hid (-100000000000≤y∧y≤100000000000))
 (H2:Hid (b.set 0 (y - 5)=xs2)) (HL2:Hid (xs2.length=17)) (HB2:Hid (Bd 1152921504606846976 xs2)) (HR:Hid (cyZ xs2=r)) (HRL:Hid (r.length=17)) (HRB:Hid (Byt r)) :
 Calls Tryz.prog 129 #[.agg (ints .i64 xs).toArray] w fun e w'=>e=.returned (.agg (ints .u8 r).toArray)∧Below w.heap.size w w':=by
 obtain ⟨z25,s25⟩:=zero_of_info inf25
 have hx5:IntKind.i64.wrap (x+5)=x+5:=IntWalk.i64_in _ (by have:=HXB.out;omega)
 have hy5:IntKind.i64.wrap (y - 5)=y - 5:=IntWalk.i64_in _ (by have:=HYB.out;omega)
 have hN:=(Arr.made w .i64 xs 162).alloc (.cells (ints .u8 (zeros 17)).toArray 120)
 have hR:=Arr.made (w.alloc (.cells (ints .i64 xs).toArray 162)) .u8 (zeros 17) 120
 have hW:=(below_new w (.cells (ints .i64 xs).toArray 162)).alloc (by simp) (.cells (ints .u8 (zeros 17)).toArray 120)
 rw [World.size_alloc] at hR
 go_enter Tryz.func129,Tryz.ntmps129
 go_wp2_with (fail)
 generalize ((w.alloc (.cells (ints .i64 xs).toArray 162)).alloc (.cells (ints .u8 (zeros 17)).toArray 120))=W0 at *
 refine (carry_anyZ _ _ _ HL.out HB.out hN).mono ?_
 rintro e w1 ⟨rfl,hA1,hO1⟩
 rw [HA.out] at hA1
 replace hR:=hR.only hO1 (by omega)
 replace hW:=hW.trans (hO1.below (B:=w.heap.size) (by omega) hW.size)
 clear hN hO1
 have c0:=hA1.at_ HX.out
 have f0:=hA1.free (i:=0) (List.getElem?_eq_some_iff.1 HX.out).1
 have hA2:=hA1.set 0 (x+5)
 rw [Nat.add_zero,H1.out] at hA2
 replace hR:=hR.apart (p:=⟨w.heap.size,0,none⟩) (.int .i64 (x+5)) (.inl (by show w.heap.size≠w.heap.size+1;omega))
 replace hW:=hW.setCell (p:=⟨w.heap.size,0,none⟩) (by show w.heap.size≤w.heap.size;omega) (.int .i64 (x+5))
 rw [Nat.zero_add] at c0 f0
 clear hA1
 go_wp2_with (fail)
 clear c0 f0
 generalize (w1.setCell ⟨w.heap.size,0,none⟩ (.int .i64 (x+5)))=W1 at *
 refine (carry_anyZ _ _ _ HL1.out HB1.out hA2).mono ?_
 rintro e w2 ⟨rfl,hA3,hO3⟩
 rw [HBB.out] at hA3
 replace hR:=hR.only hO3 (by omega)
 replace hW:=hW.trans (hO3.below (B:=w.heap.size) (by omega) hW.size)
 clear hA2 hO3
 have c0:=hA3.at_ HY.out
 have f0:=hA3.free (i:=0) (List.getElem?_eq_some_iff.1 HY.out).1
 have hA4:=hA3.set 0 (y - 5)
 rw [Nat.add_zero,H2.out] at hA4
 replace hR:=hR.apart (p:=⟨w.heap.size,0,none⟩) (.int .i64 (y - 5)) (.inl (by show w.heap.size≠w.heap.size+1;omega))
 replace hW:=hW.setCell (p:=⟨w.heap.size,0,none⟩) (by show w.heap.size≤w.heap.size;omega) (.int .i64 (y - 5))
 rw [Nat.zero_add] at c0 f0
 clear hA3
 go_wp2_with (fail)
 clear c0 f0
 generalize (w2.setCell ⟨w.heap.size,0,none⟩ (.int .i64 (y - 5)))=W2 at *
 refine (carry_anyZ _ _ _ HL2.out HB2.out hA4).mono ?_
 rintro e w3 ⟨rfl,hA5,hO5⟩
 rw [HR.out] at hA5
 replace hR:=hR.only hO5 (by omega)
 replace hW:=hW.trans (hO5.below (B:=w.heap.size) (by omega) hW.size)
 have hlt:=hR.lt (by rw [zeros_len];omega)
 clear hA4 hO5
 obtain ⟨B,hB⟩:∃B,B=w3.heap.size:=⟨_,rfl⟩
 have hD:=Arr.made w3 .u8 (zeros 17) 120
 replace hA5:=hA5.alloc (.cells (ints .u8 (zeros 17)).toArray 120)
 replace hR:=hR.alloc (.cells (ints .u8 (zeros 17)).toArray 120)
 replace hW:=hW.alloc hW.size (.cells (ints .u8 (zeros 17)).toArray 120)
 have HZ:=hid (fill_0 (n:=17) HRL.out)
 have HF:=hid (fill_id HRL.out)
 go_wp2_with (first
  | (with_reducible refine wpList_load_mid (op:=⟨some 17,.load 162 (.tmp 1),_,_,_,_⟩) rfl 162 (.tmp 1) rfl w.heap.size 0 rfl (ints .i64 r) _ (hA5.range) Tryz.underlying162 rfl (l51 HRL.out) ?_))
 rw [←hB] at hD hlt ⊢
 have HBW:=hid hB
 clear hA5 hB
 generalize w3.alloc (.cells (ints .u8 (zeros 17)).toArray 120)=W3 at *
 rw [HZ.out] at hD
 go_loopw [18] (fun i wr=>∃k:Nat,k≤17∧i=.int .i64 k∧Arr wr (w.heap.size+1) 0 .u8 (zeros 17)∧Arr wr B 0 .u8 (fillK r k)∧Below w.heap.size w wr) (fun i _=>17 - (intOf i).toNat)
 case atStart=>exact ⟨0,by omega,rfl,hR,hD,hW⟩
 case round =>
  clear hR hD hW
  obtain ⟨k,hk,rfl,hR,hD,hW⟩:=hrel
  rename World=>W4
  by_cases hlt2:k<17
  ·have HK:=hid (getD_some (l:=r) (i:=k) (by rw [HRL.out];exact hlt2))
   have hix:=fun w=>index51 HK.out hlt2 w
   have hxb:=HRB.out.at_ HK.out
   generalize r.getD k 0=d at *
   obtain ⟨z,cz,fz,_⟩:=hD.spot (i:=k) (by rw [fillK_length,HRL.out];exact hlt2)
   rw [Nat.zero_add] at cz fz
   have hw8:IntKind.u8.wrap d=d:=IntWalk.u8_in _ (by omega)
   have k0:(0:Int)≤k:=by omega
   have k17:(k:Int)<17:=by omega
   have hwk:IntKind.i64.wrap ((k:Int)+1)=(k:Int)+1:=IntWalk.i64_in _ (by omega)
   have hD1:=hD.set k d
   rw [Nat.zero_add,fillK_set _ HK.out] at hD1
   have HXX:=hid hxb
   clear hxb
   go_wp2
   go_roundw
   case rel=>exact ⟨k+1,by omega,by go_num,hR.apart _ (.inl (by show B≠w.heap.size+1;omega)),hD1,hW.setCell (by show w.heap.size≤B;omega) _⟩
   case measure=>simp [intOf];omega
  ·have e:k=17:=by omega
   subst e
   rw [HF.out] at hD
   have hs1:W4.there (w.heap.size+1) 0 (ints .u8 r).toArray.size:=hR.room (by rw [zeros_len];exact HRL.out)
   have hR2:=hR.stored (l':=r) (by rw [zeros_len];exact HRL.out)
   have hW2:=Below.setCells hW (g:=w.heap.size+1) (by omega) 0 (ints .u8 r).toArray.toList
   go_wp2_with (first
    | (with_reducible refine wpList_load_mid (op:=⟨some 27,.load 120 (.tmp 3),_,_,_,_⟩) rfl 120 (.tmp 3) rfl B 0 rfl (ints .u8 r) _ (hD.range) Tryz.underlying120 rfl (l25 HRL.out) ?_)
    | (with_reducible refine wpList_store_mid (op:=⟨none,.store 120 (.tmp 2) (.tmp 27),_,_,_,_⟩) rfl 120 (.tmp 2) (.tmp 27) rfl (w.heap.size+1) 0 (ints .u8 r).toArray rfl rfl hs1 (a25 HRL.out) (ints_all _ _) ?_))
   exact ret_rows rfl (w.heap.size+1) 0 rfl (ints .u8 r) _ hR2.range Tryz.underlying120 rfl (l25 HRL.out) rfl ⟨rfl,hW2⟩
theorem bv_digits (b:Int) (h0:0≤b):∀l:List Int,(∀x ∈ l,0≤x∧x≤b)→0≤bv l∧bv l*255≤b*(256^l.length - 1)
 | [],_=>by simp [bv]
 | x::l,h=>by
   have h1:=bv_digits b h0 l (fun y hy=>h y (by simp [hy]))
   have h2:=h x (by simp)
   simp only [bv,List.length_cons,Int.pow_succ]
   have e:b*(256^l.length*256 - 1)=256*(b*(256^l.length - 1))+255*b:=by
    rw [Int.mul_sub,Int.mul_sub,←Int.mul_assoc];omega
   rw [e]
   omega
theorem number_any (xs:List Int) (w:World) (hl:xs.length=17) (hb:∀x ∈ xs,0≤x∧x≤536870912) :
 Calls Tryz.prog 129 #[.agg (ints .i64 xs).toArray] w fun e w'=>e=.returned (.agg (ints .u8 (pb (bn xs%PNZ))).toArray)∧Below w.heap.size w w':=by
 have h0:=bv_digits 536870912 (by omega) xs hb
 rw [hl] at h0
 have e17:(256:Int)^17=87112285931760246646623899502532662132736:=by decide
 rw [e17] at h0
 obtain ⟨h1,h2,h3⟩:=num_all hl ⟨h0.1,by omega⟩
 have c1:(cyZ xs).length=17:=by rw [cy_lengthZ,hl]
 have l1:(d1 xs).length=17:=by rw [d1_length,hl]
 have c2:(cyZ (d1 xs)).length=17:=by rw [cy_lengthZ,l1]
 have l2:(d2 xs).length=17:=by rw [d2_length,hl]
 have x0:=getD_some (l:=cyZ xs) (i:=0) (by omega)
 have y0:=getD_some (l:=cyZ (d1 xs)) (i:=0) (by omega)
 have xb:=h1.at_ x0
 have yb:=h2.at_ y0
 exact number_core xs (cyZ xs) (d1 xs) (cyZ (d1 xs)) (d2 xs) _ _ _ w (hid hl) (hid fun x hx=>by have:=hb x hx;omega) (hid rfl) (hid x0) (hid ⟨by omega,by omega⟩) (hid rfl) (hid l1)
  (hid (Bd.set (fun x hx=>by have:=h1 x hx;omega) 0 _ ⟨by omega,by omega⟩)) (hid rfl) (hid y0) (hid ⟨by omega,by omega⟩) (hid rfl) (hid l2) (hid (Bd.set (fun x hx=>by have:=h2 x hx;omega) 0 _ ⟨by omega,by omega⟩)) (hid h3) (hid (pb_length _)) (hid (pb_byt _))
end
section
set_option maxRecDepth 50000
def zipc (c:Int) (a b:List Int):List Int:=List.zipWith (fun x y=>x+c*y) a b
theorem zipc_bv (c:Int):∀(a b:List Int),a.length=b.length→bv (zipc c a b)=bv a+c*bv b
 | [],[],_=>by simp [zipc,bv]
 | [],_::_,h=>by simp at h
 | _::_,[],h=>by simp at h
 | x::a,y::b,h=>by
   have h1:=zipc_bv c a b (by simpa using h)
   unfold zipc at *
   simp only [List.zipWith_cons_cons,bv,h1]
   rw [Int.mul_add,Int.mul_add,←Int.mul_assoc c 256,Int.mul_comm c 256,Int.mul_assoc]
   omega
theorem zipc_length (c:Int) {a b:List Int} {n:Nat} (ha:a.length=n) (hb:b.length=n):(zipc c a b).length=n:=by simp [zipc,ha,hb]
theorem zipc_at (c:Int) {a b:List Int} {i:Nat} {x y:Int} (hx:a[i]? = some x) (hy:b[i]? = some y):(zipc c a b)[i]? = some (x+c*y):=by
 simp [zipc,List.getElem?_zipWith,hx,hy]
theorem zipc_bd (c:Int) {a b:List Int} {A:Int} (hc:0≤c) (ha:∀x ∈ a,0≤x∧x≤A) (hb:∀x ∈ b,0≤x∧x≤A):∀x ∈ zipc c a b,0≤x∧x≤A+c*A:=fun x hx=>by
 obtain ⟨i,hi⟩:=List.getElem?_of_mem hx
 simp only [zipc,List.getElem?_zipWith] at hi
 cases h1:a[i]? with
 | none=>rw [h1] at hi;cases hi
 | some u =>
   cases h2:b[i]? with
   | none=>rw [h1,h2] at hi;cases hi
   | some v =>
     rw [h1,h2] at hi
     simp only [Option.some.injEq] at hi
     have hu:=ha u (List.mem_of_getElem? h1)
     have hv:=hb v (List.mem_of_getElem? h2)
     have p0:0≤c*v:=Int.mul_nonneg hc hv.1
     have p1:c*v≤c*A:=Int.mul_le_mul_of_nonneg_left hv.2 hc
     omega
set_option maxHeartbeats 1000000 in
theorem add_core (xs ys zs r:List Int) (w:World) (HL:Hid (xs.length=17)) (HL2:Hid (ys.length=17)) (HB:Hid (Byt xs)) (HB2:Hid (Byt ys)) (HZ:Hid (zs.length=17)) (HV:Hid (∀(i:Nat) (x y:Int),xs[i]? = some x→ys[i]? = some y→zs[i]? = some (x+y)))
 (HN:Hid (∀w,Calls Tryz.prog 129 #[.agg (ints .i64 zs).toArray] w fun e w'=>e=.returned (.agg (ints .u8 r).toArray)∧Below w.heap.size w w')) (HRL:Hid (r.length=17)) :
 Calls Tryz.prog 113 #[.agg (ints .u8 xs).toArray,.agg (ints .u8 ys).toArray] w fun e w'=>e=.returned (.agg (ints .u8 r).toArray)∧Below w.heap.size w w':=by
 obtain ⟨z25,s25⟩:=zero_of_info inf25
 obtain ⟨z51,s51⟩:=zero_of_info inf51
 have hX:=((Arr.made w .u8 xs 120).alloc (.cells (ints .u8 ys).toArray 120)).alloc (.cells (ints .u8 (zeros 17)).toArray 120) |>.alloc (.cells (ints .i64 (zeros 17)).toArray 162)
 have hY:=(Arr.made (w.alloc (.cells (ints .u8 xs).toArray 120)) .u8 ys 120).alloc (.cells (ints .u8 (zeros 17)).toArray 120) |>.alloc (.cells (ints .i64 (zeros 17)).toArray 162)
 have hR:=(Arr.made ((w.alloc (.cells (ints .u8 xs).toArray 120)).alloc (.cells (ints .u8 ys).toArray 120)) .u8 (zeros 17) 120).alloc (.cells (ints .i64 (zeros 17)).toArray 162)
 have hD:=Arr.made (((w.alloc (.cells (ints .u8 xs).toArray 120)).alloc (.cells (ints .u8 ys).toArray 120)).alloc (.cells (ints .u8 (zeros 17)).toArray 120)) .i64 (zeros 17) 162
 have hW:=(((below_new w (.cells (ints .u8 xs).toArray 120)).alloc (by simp) (.cells (ints .u8 ys).toArray 120)).alloc (by simp;omega) (.cells (ints .u8 (zeros 17)).toArray 120)).alloc (by simp;omega) (.cells (ints .i64 (zeros 17)).toArray 162)
 rw [World.size_alloc] at hY
 rw [World.size_alloc,World.size_alloc] at hR
 rw [World.size_alloc,World.size_alloc,World.size_alloc] at hD
 have HZF:=hid (fill_0 (n:=17) HZ.out)
 go_enter Tryz.func113,Tryz.ntmps113
 go_wp2
 generalize ((((w.alloc (.cells (ints .u8 xs).toArray 120)).alloc (.cells (ints .u8 ys).toArray 120)).alloc (.cells (ints .u8 (zeros 17)).toArray 120)).alloc (.cells (ints .i64 (zeros 17)).toArray 162))=W0 at *
 rw [HZF.out] at hD
 go_loopw [7] (fun i wr=>∃k:Nat,k≤17∧i=.int .i64 k∧Arr wr w.heap.size 0 .u8 xs∧Arr wr (w.heap.size+1) 0 .u8 ys∧Arr wr (w.heap.size+1+1) 0 .u8 (zeros 17)∧Arr wr (w.heap.size+1+1+1) 0 .i64 (fillK zs k)∧Below w.heap.size w wr) (fun i _=>17 - (intOf i).toNat)
 case atStart=>exact ⟨0,by omega,rfl,hX,hY,hR,hD,hW⟩
 case round =>
  clear hX hY hR hD hW
  obtain ⟨k,hk,rfl,hX,hY,hR,hD,hW⟩:=hrel
  rename World=>W1
  by_cases hlt:k<17
  ·obtain ⟨x,cx,fx,HX⟩:=hX.spot (i:=k) (by rw [HL.out];exact hlt)
   obtain ⟨y,cy0,fy,HY⟩:=hY.spot (i:=k) (by rw [HL2.out];exact hlt)
   obtain ⟨z,cz,fz,_⟩:=hD.spot (i:=k) (by rw [fillK_length,HZ.out];exact hlt)
   rw [Nat.zero_add] at cx cy0 cz fz
   have hxb:=HB.out.at_ HX.out
   have hyb:=HB2.out.at_ HY.out
   have HVk:=hid (HV.out k x y HX.out HY.out)
   have hx64:IntKind.i64.wrap x=x:=IntWalk.i64_in _ (by omega)
   have hy64:IntKind.i64.wrap y=y:=IntWalk.i64_in _ (by omega)
   obtain ⟨v,hv⟩:∃v,v=x+y:=⟨_,rfl⟩
   rw [←hv] at HVk
   have hwv:IntKind.i64.wrap (x+y)=v:=by rw [IntWalk.i64_in _ (by omega),hv]
   have k0:(0:Int)≤k:=by omega
   have k17:(k:Int)<17:=by omega
   have hwk:IntKind.i64.wrap ((k:Int)+1)=(k:Int)+1:=IntWalk.i64_in _ (by omega)
   have hD1:=hD.drew.set k v
   rw [Nat.zero_add,fillK_set _ HVk.out] at hD1
   have HXX:=hid (And.intro hxb (And.intro hyb hv))
   clear hxb hyb hv fx fy
   go_wp2
   go_still_tail 11,(by kernel_rfl)
   change wpList _ _ _ _ _ W1.drew
   have hX1:=hX.drew.apart (p:=⟨w.heap.size+1+1+1,k,none⟩) (.int .i64 v) (.inl (by show w.heap.size+1+1+1≠w.heap.size;omega))
   have hY1:=hY.drew.apart (p:=⟨w.heap.size+1+1+1,k,none⟩) (.int .i64 v) (.inl (by show w.heap.size+1+1+1≠w.heap.size+1;omega))
   have hR1:=hR.drew.apart (p:=⟨w.heap.size+1+1+1,k,none⟩) (.int .i64 v) (.inl (by show w.heap.size+1+1+1≠w.heap.size+1+1;omega))
   have hW1:=hW.drew.setCell (p:=⟨w.heap.size+1+1+1,k,none⟩) (by show w.heap.size≤w.heap.size+1+1+1;omega) (.int .i64 v)
   have cz1:W1.drew.cell? ⟨w.heap.size+1+1+1,k,none⟩=some (.int .i64 z):=cz
   have fz1:W1.drew.frozen? ⟨w.heap.size+1+1+1,k,none⟩=false:=fz
   clear cx cy0 cz fz hX hY hR hD hW
   generalize W1.drew=W4 at *
   go_wp2
   go_roundw
   case rel=>exact ⟨k+1,by omega,by go_num,hX1,hY1,hR1,hD1,hW1⟩
   case measure=>simp [intOf];omega
  ·have e:k=17:=by omega
   subst e
   rw [fill_id HZ.out] at hD
   go_wp2_with (first
    | (with_reducible refine wpList_load_mid (op:=⟨some 22,.load 162 (.tmp 5),_,_,_,_⟩) rfl 162 (.tmp 5) rfl (w.heap.size+1+1+1) 0 rfl (ints .i64 zs) _ (hD.range) Tryz.underlying162 rfl (l51 HZ.out) ?_))
   refine (HN.out _).mono ?_
   rintro e w1 ⟨rfl,hb1⟩
   replace hR:=hR.next hb1
   replace hW:=hW.trans (Below.mono hb1 hW.size)
   clear hX hY hD hb1
   have hs1:w1.there (w.heap.size+1+1) 0 (ints .u8 r).toArray.size:=hR.room (by rw [zeros_len];exact HRL.out)
   have hR2:=hR.stored (l':=r) (by rw [zeros_len];exact HRL.out)
   have hW2:=Below.setCells hW (g:=w.heap.size+1+1) (by omega) 0 (ints .u8 r).toArray.toList
   go_wp2_with (first
    | (with_reducible refine wpList_store_mid (op:=⟨none,.store 120 (.tmp 4) (.tmp 23),_,_,_,_⟩) rfl 120 (.tmp 4) (.tmp 23) rfl (w.heap.size+1+1) 0 (ints .u8 r).toArray rfl rfl hs1 (a25 HRL.out) (ints_all _ _) ?_))
   exact ret_rows rfl (w.heap.size+1+1) 0 rfl (ints .u8 r) _ hR2.range Tryz.underlying120 rfl (l25 HRL.out) rfl ⟨rfl,hW2⟩
theorem bn_add {a b:List Int} (ha:Byt a) (hb:Byt b) (h:a.length=b.length):bn (zipc 1 a b)=bn a+bn b:=by
 unfold bn
 rw [zipc_bv 1 a b h,Int.one_mul,Int.toNat_add (bv_bd a ha).1 (bv_bd b hb).1]
theorem add_anyZ (xs ys:List Int) (w:World) (hl:xs.length=17) (hl2:ys.length=17) (hb:Byt xs) (hb2:Byt ys) :
 Calls Tryz.prog 113 #[.agg (ints .u8 xs).toArray,.agg (ints .u8 ys).toArray] w fun e w'=>e=.returned (.agg (ints .u8 (pb ((bn xs+bn ys)%PNZ))).toArray)∧Below w.heap.size w w':=by
 have hz:=zipc_length 1 hl hl2
 have hbd:=zipc_bd 1 (a:=xs) (b:=ys) (A:=255) (by omega) (fun x hx=>by have:=hb x hx;omega) (fun x hx=>by have:=hb2 x hx;omega)
 rw [←bn_add hb hb2 (by rw [hl,hl2])]
 exact add_core xs ys (zipc 1 xs ys) _ w (hid hl) (hid hl2) (hid hb) (hid hb2) (hid hz) (hid fun i x y hx hy=>by rw [zipc_at 1 hx hy,Int.one_mul]) (hid fun w=>number_any _ w hz fun x hx=>by have:=hbd x hx;omega) (hid (pb_length _))
theorem built25:Tryz.prog.built 120 []=some (ints .u8 (zeros 17)).toArray:=by kernel_rfl
theorem alen52:Tryz.prog.arrayLen 164=34:=by kernel_rfl
theorem ael52:Tryz.prog.underlying 164=some (.array (Tryz.prog.arrayLen 164) (Tryz.prog.elem 164)):=by kernel_rfl
theorem esz52 (W:World):(sizeOf (Tryz.prog.elem 164)).run Tryz.prog W=.ok 1 W:=by
 have e:Tryz.prog.elem 164=2:=by kernel_rfl
 have h:(Tryz.prog.info? 2).map (·.size)=some 1:=by kernel_rfl
 rw [e]
 cases hq:Tryz.prog.info? 2 with
 | none=>simp [hq] at h
 | some j =>
   have hj:j.size=1:=by simpa [hq] using h
   simp [sizeOf,typeInfo,hq,hj]
theorem slice52 (b k:Nat) (hk:k<17) (W:World):(Instr.sliceAt 164 (.pointer (some ⟨b,0,none⟩)) (some (.int .i64 (k:Int))) (some (.int .i64 ((k:Int)+17))) none).run Tryz.prog W=.ok (.slice (some ⟨b,k,none⟩) 17 (34 - k)) W:=by
 rw [run_sliceAt_array_lh W 164 ⟨b,0,none⟩ ael52 .i64 .i64 (k:Int) ((k:Int)+17) (by omega) (by omega) (by rw [alen52];omega),esz52,alen52]
 have e1:((k:Int)+17).toNat=k+17:=by omega
 have e2:¬(34=k):=by omega
 have e3:k+17 - k=17:=by omega
 have e4:(⟨b,0,none⟩:Addr).add k=⟨b,k,none⟩:=by have h:=Addr.add_mid b 0 k;rw [Nat.zero_add] at h;exact h
 simp [Result.andThen,slicedAt,e1,e2,e3,e4]
theorem bv_take_succ {l:List Int} {j:Nat} {v:Int} (h:l[j]? = some v):bv (l.take (j+1))=bv (l.take j)+v*256^j:=by
 have hj:=(List.getElem?_eq_some_iff.1 h).1
 rw [List.take_add_one,h,Option.toList_some,bv_append]
 simp only [bv,List.length_take,Int.mul_zero,Int.add_zero]
 rw [Nat.min_eq_left (by omega),Int.mul_comm]
def MulO (xs ys:List Int) (k:Nat) (zs:List Int):Prop:=zs.length=34∧bv zs=bv (xs.take k)*bv ys∧∀z ∈ zs,0≤z∧z≤65025*k
def MulR (x:Int) (ys:List Int) (k:Nat) (zs:List Int) (m:Nat) (us:List Int):Prop:=us.length=34∧bv us=bv zs+x*256^k*bv (ys.take m)∧(∀z ∈ us,0≤z∧z≤65025*(k+1))∧∀j,k+m≤j→us[j]? = zs[j]?
theorem mul_small {x y:Int} (hx:0≤x∧x<256) (hy:0≤y∧y<256):0≤x*y∧x*y≤65025:=by
 have h1:=Int.mul_nonneg hx.1 hy.1
 have h2:x*y≤255*y:=Int.mul_le_mul_of_nonneg_right (by omega) hy.1
 omega
theorem MulO.start (xs ys:List Int):MulO xs ys 0 (zeros 34):=⟨zeros_len 34,by simp [bv,bv_zeros],fun z hz=>by rw [List.eq_of_mem_replicate hz];omega⟩
theorem MulO.row {xs ys zs:List Int} {k:Nat} (x:Int) (h:MulO xs ys k zs):MulR x ys k zs 0 zs:=⟨h.1,by simp [bv],fun z hz=>by have:=h.2.2 z hz;omega,fun _ _=>rfl⟩
theorem MulR.step {xs ys zs us:List Int} {k m:Nat} {x y z:Int} (ho:MulO xs ys k zs) (h:MulR x ys k zs m us) (hx:0≤x∧x<256) (hy:0≤y∧y<256) (hm:ys[m]? = some y) (hz:us[k+m]? = some z):MulR x ys k zs (m+1) (us.set (k+m) (z+x*y)):=by
 obtain ⟨h1,h2,h3,h4⟩:=h
 have hp:=mul_small hx hy
 have hz2:=ho.2.2 z (List.mem_of_getElem? ((h4 (k+m) (Nat.le_refl _)).symm.trans hz))
 refine ⟨by simp [h1],?_,fun u hu=>?_,fun j hj=>?_⟩
 ·rw [bv_set _ _ _ _ hz,h2,bv_take_succ hm,Int.mul_add]
  have e1:z+x*y - z=x*y:=by omega
  have e2:x*256^k*(y*256^m)=x*y*256^(k+m):=by
   rw [Int.pow_add]
   simp only [Int.mul_assoc,Int.mul_left_comm]
  rw [e1,e2]
  omega
 ·rcases List.mem_or_eq_of_mem_set hu with h|h
  ·exact h3 u h
  ·rw [h];omega
 ·rw [List.getElem?_set_ne (by omega)];exact h4 j (by omega)
theorem MulR.end_ {xs ys zs us:List Int} {k:Nat} {x:Int} (ho:MulO xs ys k zs) (h:MulR x ys k zs 17 us) (hl:ys.length=17) (hx:xs[k]? = some x):MulO xs ys (k+1) us:=by
 obtain ⟨h1,h2,h3,_⟩:=h
 rw [List.take_of_length_le (by omega)] at h2
 refine ⟨h1,?_,fun z hz=>by have:=h3 z hz;omega⟩
 rw [h2,ho.2.1,bv_take_succ hx,Int.add_mul]
def foldLZ (z:List Int):List Int:=zipc 320 (z.take 17) (z.drop 17)
theorem foldL_lengthZ {z:List Int} (h:z.length=34):(foldLZ z).length=17:=zipc_length 320 (by simp [h]) (by simp [h])
theorem foldL_atZ {z:List Int} {i:Nat} {x y:Int} (h:i<17) (hx:z[i]? = some x) (hy:z[i+17]? = some y):(foldLZ z)[i]? = some (x+320*y) :=
 zipc_at 320 (by rw [List.getElem?_take,if_pos h];exact hx) (by rw [List.getElem?_drop,Nat.add_comm];exact hy)
theorem MulO.fold {xs ys z:List Int} (h:MulO xs ys 17 z) (hl:xs.length=17) (hb:Byt xs) (hb2:Byt ys):(∀x ∈ foldLZ z,0≤x∧x≤536870912)∧bn (foldLZ z)%PNZ=(bn xs*bn ys)%PNZ:=by
 obtain ⟨h1,h2,h3⟩:=h
 have hbd:=zipc_bd 320 (a:=z.take 17) (b:=z.drop 17) (A:=1105425) (by omega) (fun x hx=>by have:=h3 x (List.mem_of_mem_take hx);omega) (fun x hx=>by have:=h3 x (List.mem_of_mem_drop hx);omega)
 have hz:=zipc_bv 320 (z.take 17) (z.drop 17) (by simp [h1])
 have hs:=bv_append (z.take 17) (z.drop 17)
 rw [List.take_append_drop,List.length_take,Nat.min_eq_left (by omega)] at hs
 rw [List.take_of_length_le (by omega)] at h2
 have p1:=(bv_bd xs hb).1
 have p2:=(bv_bd ys hb2).1
 have n0:0≤bv (foldLZ z):=(bv_digits 536870912 (by omega) _ (fun x hx=>by have:=hbd x hx;omega)).1
 refine ⟨fun x hx=>by have:=hbd x hx;omega,?_⟩
 have e:(bn xs*bn ys:Nat)=(bv xs*bv ys).toNat:=by
  unfold bn
  obtain ⟨a,ha⟩:=Int.eq_ofNat_of_zero_le p1
  obtain ⟨b,hb⟩:=Int.eq_ofNat_of_zero_le p2
  rw [ha,hb,←Int.natCast_mul]
  rfl
 rw [e,←h2]
 have hz0:0≤bv z:=by rw [h2];exact Int.mul_nonneg p1 p2
 unfold bn
 rw [←toNat_mod _ PNZ n0,←toNat_mod _ PNZ hz0]
 have hm:bv (foldLZ z)%(PNZ:Int)=bv z%(PNZ:Int):=by
  have e17:(256:Int)^17=320+(PNZ:Int)*64:=by decide
  have hz':bv (foldLZ z)=bv (z.take 17)+320*bv (z.drop 17):=hz
  rw [hs,e17,Int.add_mul,←Int.add_assoc,←hz',Int.mul_assoc,Int.add_mul_emod_self_left]
 rw [hm]
set_option maxHeartbeats 2000000 in
theorem mul_core (xs ys r:List Int) (w:World) (HL:Hid (xs.length=17)) (HL2:Hid (ys.length=17)) (HB:Hid (Byt xs)) (HB2:Hid (Byt ys))
 (HN:Hid (∀z,MulO xs ys 17 z→∀w,Calls Tryz.prog 129 #[.agg (ints .i64 (foldLZ z)).toArray] w fun e w'=>e=.returned (.agg (ints .u8 r).toArray)∧Below w.heap.size w w')) (HRL:Hid (r.length=17)) :
 Calls Tryz.prog 114 #[.agg (ints .u8 xs).toArray,.agg (ints .u8 ys).toArray] w fun e w'=>e=.returned (.agg (ints .u8 r).toArray)∧Below w.heap.size w w':=by
 obtain ⟨z25,s25⟩:=zero_of_info inf25
 obtain ⟨z51,s51⟩:=zero_of_info inf51
 obtain ⟨z52,s52⟩:=zero_of_info inf52
 have HO0:=hid (MulO.start xs ys)
 have hX:=(((Arr.made w .u8 xs 120).alloc (.cells (ints .u8 ys).toArray 120)).alloc (.cells (ints .u8 (zeros 17)).toArray 120)).alloc (.cells (ints .i64 (zeros 34)).toArray 164)
 have hY:=((Arr.made (w.alloc (.cells (ints .u8 xs).toArray 120)) .u8 ys 120).alloc (.cells (ints .u8 (zeros 17)).toArray 120)).alloc (.cells (ints .i64 (zeros 34)).toArray 164)
 have hR:=(Arr.made ((w.alloc (.cells (ints .u8 xs).toArray 120)).alloc (.cells (ints .u8 ys).toArray 120)) .u8 (zeros 17) 120).alloc (.cells (ints .i64 (zeros 34)).toArray 164)
 have hD:=Arr.made (((w.alloc (.cells (ints .u8 xs).toArray 120)).alloc (.cells (ints .u8 ys).toArray 120)).alloc (.cells (ints .u8 (zeros 17)).toArray 120)) .i64 (zeros 34) 164
 have hW:=(((below_new w (.cells (ints .u8 xs).toArray 120)).alloc (by simp) (.cells (ints .u8 ys).toArray 120)).alloc (by simp;omega) (.cells (ints .u8 (zeros 17)).toArray 120)).alloc (by simp;omega) (.cells (ints .i64 (zeros 34)).toArray 164)
 rw [World.size_alloc] at hY
 rw [World.size_alloc,World.size_alloc] at hR
 rw [World.size_alloc,World.size_alloc,World.size_alloc] at hD
 go_enter Tryz.func114,Tryz.ntmps114
 go_wp2_with (first
  | (with_reducible refine wpList_load_mid (op:=⟨some 13,.load 120 (.tmp 2),_,_,_,_⟩) rfl 120 (.tmp 2) rfl w.heap.size 0 rfl (ints .u8 xs) _ (hX.range) Tryz.underlying120 rfl (l25 HL.out) ?_))
 generalize ((((w.alloc (.cells (ints .u8 xs).toArray 120)).alloc (.cells (ints .u8 ys).toArray 120)).alloc (.cells (ints .u8 (zeros 17)).toArray 120)).alloc (.cells (ints .i64 (zeros 34)).toArray 164))=W0 at *
 clear hX
 go_loopw [14] (fun i wr=>∃(k:Nat) (zs:List Int),k≤17∧i=.int .i64 k∧Hid (MulO xs ys k zs)∧Arr wr (w.heap.size+1) 0 .u8 ys∧Arr wr (w.heap.size+1+1) 0 .u8 (zeros 17)∧Arr wr (w.heap.size+1+1+1) 0 .i64 zs∧Below w.heap.size w wr) (fun i _=>17 - (intOf i).toNat)
 case atStart=>exact ⟨0,zeros 34,by omega,rfl,HO0,hY,hR,hD,hW⟩
 case round =>
  clear hY hR hD hW HO0
  obtain ⟨k,zs,hk,rfl,HO,hY,hR,hD,hW⟩:=hrel
  rename World=>W1
  by_cases hlt:k<17
  ·have HX:=hid (getD_some (l:=xs) (i:=k) (by rw [HL.out];exact hlt))
   have HXB:=hid (HB.out.at_ HX.out)
   have hix:=fun w=>index25 HX.out hlt w
   generalize xs.getD k 0=x at *
   have HR0:=hid (HO.out.row x)
   have hxb:=HXB.out
   have hx64:IntKind.i64.wrap x=x:=IntWalk.i64_in _ (by omega)
   clear hxb
   have k0:(0:Int)≤k:=by omega
   have k17:(k:Int)<17:=by omega
   have hwk:IntKind.i64.wrap ((k:Int)+17)=(k:Int)+17:=IntWalk.i64_in _ (by omega)
   have hwk1:IntKind.i64.wrap ((k:Int)+1)=(k:Int)+1:=IntWalk.i64_in _ (by omega)
   have hsl:=fun W=>slice52 (w.heap.size+1+1+1) k hlt W
   go_wp2_with (first
    | (with_reducible refine wpList_load_mid (op:=⟨some 22,.load 120 (.tmp 3),_,_,_,_⟩) rfl 120 (.tmp 3) rfl (w.heap.size+1) 0 rfl (ints .u8 ys) _ (hY.range) Tryz.underlying120 rfl (l25 HL2.out) ?_))
   clear hwk
   go_loopw [23] (fun j wr=>∃(m:Nat) (us:List Int),m≤17∧j=.int .i64 m∧Hid (MulR x ys k zs m us)∧Arr wr (w.heap.size+1) 0 .u8 ys∧Arr wr (w.heap.size+1+1) 0 .u8 (zeros 17)∧Arr wr (w.heap.size+1+1+1) 0 .i64 us∧Below w.heap.size w wr) (fun j _=>17 - (intOf j).toNat)
   case atStart=>exact ⟨0,zs,by omega,rfl,HR0,hY,hR,hD,hW⟩
   case round =>
    clear hY hR hD hW HR0 hsl
    obtain ⟨m,us,hm,rfl,HI,hY,hR,hD,hW⟩:=hrel
    rename World=>W2
    by_cases hlt2:m<17
    ·have HY:=hid (getD_some (l:=ys) (i:=m) (by rw [HL2.out];exact hlt2))
     have HYB:=hid (HB2.out.at_ HY.out)
     have hiy:=fun w=>index25 HY.out hlt2 w
     generalize ys.getD m 0=y at *
     obtain ⟨z,cz,fz,HZ⟩:=hD.spot (i:=k+m) (by rw [HI.out.1];omega)
     rw [Nat.zero_add] at cz fz
     have HS:=hid (HI.out.step HO.out HXB.out HYB.out HY.out HZ.out)
     have hzb:=HI.out.2.2.1 z (List.mem_of_getElem? HZ.out)
     have hpb:=mul_small HXB.out HYB.out
     have hyb:=HYB.out
     have hy64:IntKind.i64.wrap y=y:=IntWalk.i64_in _ (by omega)
     obtain ⟨p,hp⟩:∃p,p=x*y:=⟨_,rfl⟩
     rw [←hp] at HS hpb
     have hwp:IntKind.i64.wrap (x*y)=p:=by rw [←hp];exact IntWalk.i64_in _ (by omega)
     obtain ⟨v,hv⟩:∃v,v=z+p:=⟨_,rfl⟩
     rw [←hv] at HS
     have hwv:IntKind.i64.wrap (z+p)=v:=by rw [←hv];exact IntWalk.i64_in _ (by omega)
     have HPV:=hid (And.intro hp (And.intro hv (And.intro hpb (And.intro hzb hyb))))
     clear hp hv hpb hzb hyb
     have hD1:=hD.set (k+m) v
     rw [Nat.zero_add] at hD1
     have m0:(0:Int)≤m:=by omega
     have m17:(m:Int)<17:=by omega
     have hwm:IntKind.i64.wrap ((m:Int)+1)=(m:Int)+1:=IntWalk.i64_in _ (by omega)
     go_wp2
     go_roundw
     case rel=>exact ⟨m+1,us.set (k+m) v,by omega,by go_num,HS,hY.apart _ (.inl (by show w.heap.size+1+1+1≠w.heap.size+1;omega)),hR.apart _ (.inl (by show w.heap.size+1+1+1≠w.heap.size+1+1;omega)),hD1,hW.setCell (by show w.heap.size≤w.heap.size+1+1+1;omega) _⟩
     case measure=>simp [intOf];omega
    ·have e:m=17:=by omega
     subst e
     have HE:=hid (HI.out.end_ HO.out HL2.out HX.out)
     go_wp2
     go_roundw
     case rel=>exact ⟨k+1,us,by omega,by go_num,HE,hY,hR,hD,hW⟩
     case measure=>simp [intOf];omega
  ·have e:k=17:=by omega
   have hk17:¬(k:Int)<17:=by omega
   rw [e] at HO
   clear e hlt hk
   have HZL:=hid HO.out.1
   have HZB:Hid (∀z ∈ zs,0≤z∧z≤1105425):=hid fun z hz=>by have:=HO.out.2.2 z hz;omega
   have HNz:=hid (HN.out zs HO.out)
   have HFL:=hid (foldL_lengthZ HZL.out)
   have HFA:Hid (∀(i:Nat) (x y:Int),i<17→zs[i]? = some x→zs[i+17]? = some y→(foldLZ zs)[i]? = some (x+320*y)):=hid fun i x y h hx hy=>foldL_atZ h hx hy
   generalize foldLZ zs=fs at *
   have HZF:=hid (fill_0 (n:=17) HFL.out)
   have hsz:w.heap.size+1+1+1<W1.heap.size:=hD.lt (by rw [HZL.out];omega)
   obtain ⟨B,hB⟩:∃B,B=W1.heap.size:=⟨_,rfl⟩
   have hP:=Arr.made W1 .i64 (zeros 17) 162
   have hR1:=hR.alloc (.cells (ints .i64 (zeros 17)).toArray 162)
   have hD1:=hD.alloc (.cells (ints .i64 (zeros 17)).toArray 162)
   have hW1:=hW.alloc hW.size (.cells (ints .i64 (zeros 17)).toArray 162)
   go_wp2
   rw [←hB] at hP hsz ⊢
   have HBW:=hid hB
   clear hY hR hD hW hB
   generalize W1.alloc (.cells (ints .i64 (zeros 17)).toArray 162)=W2 at *
   rw [HZF.out] at hP
   go_loopw [40] (fun j wr=>∃m:Nat,m≤17∧j=.int .i64 m∧Arr wr (w.heap.size+1+1) 0 .u8 (zeros 17)∧Arr wr (w.heap.size+1+1+1) 0 .i64 zs∧Arr wr B 0 .i64 (fillK fs m)∧Below w.heap.size w wr) (fun j _=>17 - (intOf j).toNat)
   case atStart=>exact ⟨0,by omega,rfl,hR1,hD1,hP,hW1⟩
   case round =>
    clear hP hR1 hD1 hW1
    obtain ⟨j,hj,rfl,hR,hD,hP,hW⟩:=hrel
    rename World=>W3
    by_cases hlt2:j<17
    ·obtain ⟨x,cx,_,HX⟩:=hD.spot (i:=j) (by rw [HZL.out];omega)
     obtain ⟨y,cy0,_,HY⟩:=hD.spot (i:=j+17) (by rw [HZL.out];omega)
     have hxb:=HZB.out x (List.mem_of_getElem? HX.out)
     have hyb:=HZB.out y (List.mem_of_getElem? HY.out)
     have HFj:=hid (HFA.out j _ _ hlt2 HX.out HY.out)
     obtain ⟨u,cz,fz,_⟩:=hP.spot (i:=j) (by rw [fillK_length,HFL.out];exact hlt2)
     rw [Nat.zero_add] at cx cy0 cz fz
     obtain ⟨q,hq⟩:∃q,q=j+17:=⟨_,rfl⟩
     rw [←hq] at cy0
     have hwq:IntKind.i64.wrap ((j:Int)+17)=(q:Int):=by rw [IntWalk.i64_in _ (by omega)];omega
     have q0:(0:Int)≤q:=by omega
     have q34:(q:Int)<34:=by omega
     obtain ⟨v,hv⟩:∃v,v=x+320*y:=⟨_,rfl⟩
     rw [←hv] at HFj
     have hw1:IntKind.i64.wrap (320*y)=320*y:=IntWalk.i64_in _ (by omega)
     have hw2:IntKind.i64.wrap (x+320*y)=v:=by rw [IntWalk.i64_in _ (by omega),hv]
     have HQ:=hid (And.intro hq (And.intro hv (And.intro hxb hyb)))
     clear hq hv hxb hyb
     have j0:(0:Int)≤j:=by omega
     have j17:(j:Int)<17:=by omega
     have j34:(j:Int)<34:=by omega
     have hwj:IntKind.i64.wrap ((j:Int)+1)=(j:Int)+1:=IntWalk.i64_in _ (by omega)
     have hP1:=hP.drew.set j v
     rw [Nat.zero_add,fillK_set _ HFj.out] at hP1
     go_wp2
     go_still_tail 11,(by kernel_rfl)
     change wpList _ _ _ _ _ W3.drew
     have hR1:Arr (W3.drew.setCell ⟨B,j,none⟩ (.int .i64 v)) (w.heap.size+1+1) 0 .u8 (zeros 17):=hR.drew.apart _ (.inl (by show B≠w.heap.size+1+1;omega))
     have hD1:Arr (W3.drew.setCell ⟨B,j,none⟩ (.int .i64 v)) (w.heap.size+1+1+1) 0 .i64 zs:=hD.drew.apart _ (.inl (by show B≠w.heap.size+1+1+1;omega))
     have hW1:Below w.heap.size w (W3.drew.setCell ⟨B,j,none⟩ (.int .i64 v)):=hW.drew.setCell (by show w.heap.size≤B;omega) _
     have cz1:W3.drew.cell? ⟨B,j,none⟩=some (.int .i64 u):=cz
     have fz1:W3.drew.frozen? ⟨B,j,none⟩=false:=fz
     clear cz fz cx cy0 hR hD hP hW
     generalize W3.drew=W4 at *
     go_wp2
     go_roundw
     case rel=>exact ⟨j+1,by omega,by go_num,hR1,hD1,hP1,hW1⟩
     case measure=>simp [intOf];omega
    ·have e:j=17:=by omega
     subst e
     rw [fill_id HFL.out] at hP
     go_wp2_with (first
      | (with_reducible refine wpList_load_mid (op:=⟨some 55,.load 162 (.tmp 11),_,_,_,_⟩) rfl 162 (.tmp 11) rfl B 0 rfl (ints .i64 fs) _ (hP.range) Tryz.underlying162 rfl (l51 HFL.out) ?_))
     refine (HNz.out _).mono ?_
     rintro e w1 ⟨rfl,hb1⟩
     replace hR:=hR.next hb1
     replace hW:=hW.trans (Below.mono hb1 hW.size)
     clear hD hP hb1
     have hs1:w1.there (w.heap.size+1+1) 0 (ints .u8 r).toArray.size:=hR.room (by rw [zeros_len];exact HRL.out)
     have hR2:=hR.stored (l':=r) (by rw [zeros_len];exact HRL.out)
     have hW2:=Below.setCells hW (g:=w.heap.size+1+1) (by omega) 0 (ints .u8 r).toArray.toList
     go_wp2_with (first
      | (with_reducible refine wpList_store_mid (op:=⟨none,.store 120 (.tmp 4) (.tmp 56),_,_,_,_⟩) rfl 120 (.tmp 4) (.tmp 56) rfl (w.heap.size+1+1) 0 (ints .u8 r).toArray rfl rfl hs1 (a25 HRL.out) (ints_all _ _) ?_))
     exact ret_rows rfl (w.heap.size+1+1) 0 rfl (ints .u8 r) _ hR2.range Tryz.underlying120 rfl (l25 HRL.out) rfl ⟨rfl,hW2⟩
theorem mul_anyZ (xs ys:List Int) (w:World) (hl:xs.length=17) (hl2:ys.length=17) (hb:Byt xs) (hb2:Byt ys) :
 Calls Tryz.prog 114 #[.agg (ints .u8 xs).toArray,.agg (ints .u8 ys).toArray] w fun e w'=>e=.returned (.agg (ints .u8 (pb (bn xs*bn ys%PNZ))).toArray)∧Below w.heap.size w w' :=
 mul_core xs ys _ w (hid hl) (hid hl2) (hid hb) (hid hb2) (hid fun z hz w=>by
  obtain ⟨h1,h2⟩:=hz.fold hl hb hb2
  have:=number_any (foldLZ z) w (foldL_lengthZ hz.1) h1
  rwa [h2] at this) (hid (pb_length _))
end
end Go.Proofs.YtkblmdakejmmhaaGreatDoor
