import Derived.Test.YtkblmdakejmmhaaGreatDoorG6
namespace Go.Proofs.YtkblmdakejmmhaaGreatDoor
open Go Go.RowKit
theorem alen55:Tryz.prog.arrayLen 100=32:=by kernel_rfl
theorem ael55:Tryz.prog.underlying 100=some (.array (Tryz.prog.arrayLen 100) (Tryz.prog.elem 100)):=by kernel_rfl
theorem esz55 (W:World):(sizeOf (Tryz.prog.elem 100)).run Tryz.prog W=.ok 1 W:=by
 have e:Tryz.prog.elem 100=2:=by kernel_rfl
 have h:(Tryz.prog.info? 2).map (·.size)=some 1:=by kernel_rfl
 rw [e]
 cases hq:Tryz.prog.info? 2 with
 | none=>simp [hq] at h
 | some j =>
   have hj:j.size=1:=by simpa [hq] using h
   simp [sizeOf,typeInfo,hq,hj]
theorem slice55 (b k:Nat) (hk:k<16) (W:World):(Instr.sliceAt 100 (.pointer (some ⟨b,0,none⟩)) (some (.int .i64 (k:Int))) (some (.int .i64 ((k:Int)+16))) none).run Tryz.prog W=.ok (.slice (some ⟨b,k,none⟩) 16 (32 - k)) W:=by
 rw [run_sliceAt_array_lh W 100 ⟨b,0,none⟩ ael55 .i64 .i64 (k:Int) ((k:Int)+16) (by omega) (by omega) (by rw [alen55];omega),esz55,alen55]
 have e1:((k:Int)+16).toNat=k+16:=by omega
 have e2:¬(32=k):=by omega
 have e3:k+16 - k=16:=by omega
 have e4:(⟨b,0,none⟩:Addr).add k=⟨b,k,none⟩:=by have h:=Addr.add_mid b 0 k;rw [Nat.zero_add] at h;exact h
 simp [Result.andThen,slicedAt,e1,e2,e3,e4]
set_option maxRecDepth 4000 in
set_option maxHeartbeats 2000000 in
theorem mul_walk (xs ys m:List Int) (w:World) (HM:Hid (mulL xs ys=m)) (hl:xs.length=16) (hl2:ys.length=16) (hb:Bd 70000 xs) (hb2:Bd 70000 ys) :
 Calls Tryz.prog 51 #[.agg (ints .i64 xs).toArray,.agg (ints .i64 ys).toArray] w fun e w'=>e=.returned (.agg (ints .i64 m).toArray)∧Below w.heap.size w w':=by
 obtain ⟨z26,s26⟩:=zero_of_info inf26
 obtain ⟨z55,s55⟩:=zero_of_info inf55
 have HL:=hid hl
 have HL2:=hid hl2
 have HB:=hid hb
 have HB2:=hid hb2
 have HCB:Hid (∀i:Nat,i≤16→Bd (4900000000*i) (colA xs ys i)):=hid fun i hi=>colA_bd xs ys hb hb2 hl hl2 i hi
 clear hl hb hl2 hb2
 have hN:=(((Arr.made w .i64 xs 70).alloc (.cells (ints .i64 ys).toArray 70)).alloc (.cells (ints .i64 (zeros 16)).toArray 70)).alloc (.cells (ints .i64 (zeros 32)).toArray 100)
 have hY:=((Arr.made (w.alloc (.cells (ints .i64 xs).toArray 70)) .i64 ys 70).alloc (.cells (ints .i64 (zeros 16)).toArray 70)).alloc (.cells (ints .i64 (zeros 32)).toArray 100)
 have hR:=(Arr.made ((w.alloc (.cells (ints .i64 xs).toArray 70)).alloc (.cells (ints .i64 ys).toArray 70)) .i64 (zeros 16) 70).alloc (.cells (ints .i64 (zeros 32)).toArray 100)
 have hD:=Arr.made (((w.alloc (.cells (ints .i64 xs).toArray 70)).alloc (.cells (ints .i64 ys).toArray 70)).alloc (.cells (ints .i64 (zeros 16)).toArray 70)) .i64 (zeros 32) 100
 have hW:=(((below_new w (.cells (ints .i64 xs).toArray 70)).alloc (by simp) (.cells (ints .i64 ys).toArray 70)).alloc (by simp;omega) (.cells (ints .i64 (zeros 16)).toArray 70)).alloc (by simp;omega) (.cells (ints .i64 (zeros 32)).toArray 100)
 rw [World.size_alloc] at hY
 rw [World.size_alloc,World.size_alloc] at hR
 rw [World.size_alloc,World.size_alloc,World.size_alloc] at hD
 go_enter Tryz.func51,Tryz.ntmps51
 go_wp2_with (first
  | (with_reducible refine wpList_load_mid (op:=⟨some 13,.load 68 (.tmp 12),_,_,_,_⟩) rfl 68 (.tmp 12) rfl w.heap.size 0 rfl (ints .i64 xs) _ (hN.range) Tryz.underlying68 rfl (l24 HL.out) ?_))
 generalize ((((w.alloc (.cells (ints .i64 xs).toArray 70)).alloc (.cells (ints .i64 ys).toArray 70)).alloc (.cells (ints .i64 (zeros 16)).toArray 70)).alloc (.cells (ints .i64 (zeros 32)).toArray 100))=W0 at *
 have hD0:Arr W0 (w.heap.size+1+1+1) 0 .i64 (colA xs ys 0):=hD
 clear hD hN
 go_loopw [14] (fun i wr=>∃k:Nat,k≤16∧i=.int .i64 k∧Arr wr (w.heap.size+1) 0 .i64 ys∧Arr wr (w.heap.size+1+1) 0 .i64 (zeros 16)∧Arr wr (w.heap.size+1+1+1) 0 .i64 (colA xs ys k)∧Below w.heap.size w wr) (fun i _=>16 - (intOf i).toNat)
 case atStart=>exact ⟨0,by omega,rfl,hY,hR,hD0,hW⟩
 case round =>
  clear hY hR hD0 hW
  obtain ⟨k,hk,rfl,hY,hR,hD,hW⟩:=hrel
  rename World=>W1
  by_cases hlt:k<16
  ·have HX:Hid (xs[k]? = some (xs.getD k 0)):=hid (getD_some (by rw [HL.out];exact hlt))
   have HXB:=hid (HB.out.at_ HX.out)
   have hix:=fun w=>index24 HX.out hlt w
   have HCN:Hid (colA xs ys (k+1)=rowA (xs.getD k 0) ys k (colA xs ys k) 16):=hid rfl
   have HZB:=hid (HCB.out k hk)
   have HZL:=hid (colA_length xs ys k)
   generalize colA xs ys k=z at *
   generalize xs.getD k 0=x at *
   have hD0:Arr W1 (w.heap.size+1+1+1) 0 .i64 (rowA x ys k z 0):=hD
   clear hD
   have k0:(0:Int)≤k:=by omega
   have k16:(k:Int)<16:=by omega
   have hwk:IntKind.i64.wrap ((k:Int)+16)=(k:Int)+16:=IntWalk.i64_in _ (by omega)
   have hsl:=fun W=>slice55 (w.heap.size+1+1+1) k hlt W
   go_wp2
   go_loopw [24] (fun j wr=>∃m:Nat,m≤16∧j=.int .i64 m∧Arr wr (w.heap.size+1) 0 .i64 ys∧Arr wr (w.heap.size+1+1) 0 .i64 (zeros 16)∧Arr wr (w.heap.size+1+1+1) 0 .i64 (rowA x ys k z m)∧Below w.heap.size w wr) (fun j _=>16 - (intOf j).toNat)
   case atStart=>exact ⟨0,by omega,rfl,hY,hR,hD0,hW⟩
   case round =>
    clear hY hR hD0 hW
    obtain ⟨m,hm,rfl,hY,hR,hD,hW⟩:=hrel
    rename World=>W2
    by_cases hlt2:m<16
    ·have HY:Hid (ys[m]? = some (ys.getD m 0)):=hid (getD_some (by rw [HL2.out];exact hlt2))
     have HYB:=hid (HB2.out.at_ HY.out)
     have HZ0:Hid (z[k+m]? = some (z.getD (k+m) 0)):=hid (getD_some (by rw [HZL.out];omega))
     have HZV:=hid (HZB.out.at_ HZ0.out)
     have HRZ:Hid ((rowA x ys k z m)[k+m]? = some (z.getD (k+m) 0)):=hid (by rw [rowA_past _ _ _ _ _ _ (Nat.le_refl _)];exact HZ0.out)
     have HRG:Hid ((rowA x ys k z m).getD (k+m) 0=z.getD (k+m) 0):=hid (by simp only [List.getD,rowA_past _ _ _ _ _ _ (Nat.le_refl _)])
     have HRN:Hid (rowA x ys k z (m+1)=(rowA x ys k z m).set (k+m) ((rowA x ys k z m).getD (k+m) 0+x*ys.getD m 0)):=hid rfl
     rw [HRG.out] at HRN
     have HMB:=hid (mul_bd HXB.out HYB.out)
     have cy0:=hY.at_ HY.out
     have cz:=hD.at_ HRZ.out
     have fz:=hD.free (i:=k+m) (List.getElem?_eq_some_iff.1 HRZ.out).1
     rw [Nat.zero_add] at cy0 cz fz
     generalize z.getD (k+m) 0=zz at *
     generalize ys.getD m 0=y at *
     obtain ⟨p,hp⟩:∃p,p=x*y:=⟨_,rfl⟩
     rw [←hp] at HRN HMB
     have hwp:IntKind.i64.wrap (x*y)=p:=by rw [←hp];exact IntWalk.i64_in _ (by have:=HMB.out;omega)
     obtain ⟨v,hv⟩:∃v,v=zz+p:=⟨_,rfl⟩
     rw [←hv] at HRN
     have hwv:IntKind.i64.wrap (zz+p)=v:=by rw [←hv];exact IntWalk.i64_in _ (by have:=HMB.out;have:=HZV.out;omega)
     have HPV:=hid (And.intro hp hv)
     clear hp hv
     have hD1:=hD.drew.set (k+m) v
     rw [Nat.zero_add,←HRN.out] at hD1
     have m0:(0:Int)≤m:=by omega
     have m16:(m:Int)<16:=by omega
     have hwm:IntKind.i64.wrap ((m:Int)+1)=(m:Int)+1:=IntWalk.i64_in _ (by omega)
     go_wp2
     go_still_tail 12,(by kernel_rfl)
     change wpList _ _ _ _ _ W2.drew
     have hY1:Arr (W2.drew.setCell ⟨w.heap.size+1+1+1,k+m,none⟩ (.int .i64 v)) (w.heap.size+1) 0 .i64 ys:=hY.drew.apart _ (.inl (by show w.heap.size+1+1+1≠w.heap.size+1;omega))
     have hR1:Arr (W2.drew.setCell ⟨w.heap.size+1+1+1,k+m,none⟩ (.int .i64 v)) (w.heap.size+1+1) 0 .i64 (zeros 16):=hR.drew.apart _ (.inl (by show w.heap.size+1+1+1≠w.heap.size+1+1;omega))
     have hW1:Below w.heap.size w (W2.drew.setCell ⟨w.heap.size+1+1+1,k+m,none⟩ (.int .i64 v)):=hW.drew.setCell (by show w.heap.size≤w.heap.size+1+1+1;omega) _
     have cz1:W2.drew.cell? ⟨w.heap.size+1+1+1,k+m,none⟩=some (.int .i64 zz):=cz
     have fz1:W2.drew.frozen? ⟨w.heap.size+1+1+1,k+m,none⟩=false:=fz
     clear cz fz cy0 hY hR hD hW
     generalize W2.drew=W4 at *
     go_wp2
     go_roundw
     case rel=>exact ⟨m+1,by omega,by go_num,hY1,hR1,hD1,hW1⟩
     case measure=>simp [intOf];omega
    ·have e:m=16:=by omega
     subst e
     rw [←HCN.out] at hD
     go_wp2
     go_roundw
     case rel=>exact ⟨k+1,by omega,by go_num,hY,hR,hD,hW⟩
     case measure=>simp [intOf];omega
  ·have e:k=16:=by omega
   rw [e] at hD
   have hk16:¬(k:Int)<16:=by omega
   clear e
   have HZL:=hid (colA_length xs ys 16)
   have HZB:Hid (Bd 80000000000 (colA xs ys 16)):=hid fun v hv=>by have:=HCB.out 16 (by omega) v hv;omega
   have HML:Hid (mulL xs ys=cy (cy (foldL (colA xs ys 16)))):=hid rfl
   generalize colA xs ys 16=z at *
   have HFL:=hid (foldL_length z)
   have HFB:Hid (Bd 1152921504606846976 (foldL z)):=hid fun v hv=>by have:=foldL_bd z HZB.out HZL.out v hv;omega
   have HFA:Hid (∀(i:Nat) (x y:Int),i<16→z[i]? = some x→z[i+16]? = some y→(foldL z)[i]? = some (x+38*y)):=hid fun i x y h hx hy=>foldL_at h hx hy
   generalize foldL z=fs at *
   have HC1:=hid (cy_small fs HFL.out HFB.out)
   have HC1L:Hid ((cy fs).length=16):=hid (by rw [cy_length];exact HFL.out)
   have HC1B:Hid (Bd 1152921504606846976 (cy fs)):=hid fun v hv=>by have:=HC1.out v hv;omega
   generalize hcf:cy fs=cf at *
   have HCF:=hid hcf
   clear hcf
   have HM2:Hid (cy cf=m):=hid (by rw [←HML.out];exact HM.out)
   have HMLen:Hid (m.length=16):=hid (by rw [←HM2.out,cy_length];exact HC1L.out)
   have hsz:w.heap.size+1+1+1<W1.heap.size:=hD.lt (by rw [HZL.out];omega)
   obtain ⟨B,hB⟩:∃B,B=W1.heap.size:=⟨_,rfl⟩
   have hP:=Arr.made W1 .i64 (zeros 16) 70
   have hR1:=hR.alloc (.cells (ints .i64 (zeros 16)).toArray 70)
   have hD1:=hD.alloc (.cells (ints .i64 (zeros 16)).toArray 70)
   have hW1:=hW.alloc hW.size (.cells (ints .i64 (zeros 16)).toArray 70)
   have HF0:Hid (zeros 16=fillK fs 0):=hid (by rw [fillK_zero,HFL.out];rfl)
   go_wp2
   rw [←hB] at hP hsz ⊢
   have HBW:=hid hB
   clear hY hR hD hW hB
   generalize W1.alloc (.cells (ints .i64 (zeros 16)).toArray 70)=W2 at *
   rw [HF0.out] at hP
   go_loopw [41] (fun j wr=>∃m:Nat,m≤16∧j=.int .i64 m∧Arr wr (w.heap.size+1+1) 0 .i64 (zeros 16)∧Arr wr (w.heap.size+1+1+1) 0 .i64 z∧Arr wr B 0 .i64 (fillK fs m)∧Below w.heap.size w wr) (fun j _=>16 - (intOf j).toNat)
   case atStart=>exact ⟨0,by omega,rfl,hR1,hD1,hP,hW1⟩
   case round =>
    clear hP hR1 hD1 hW1
    obtain ⟨j,hj,rfl,hR,hD,hP,hW⟩:=hrel
    rename World=>W3
    by_cases hlt2:j<16
    ·have HX:Hid (z[j]? = some (z.getD j 0)):=hid (getD_some (by rw [HZL.out];omega))
     have HY:Hid (z[j+16]? = some (z.getD (j+16) 0)):=hid (getD_some (by rw [HZL.out];omega))
     have HXB:=hid (HZB.out.at_ HX.out)
     have HYB:=hid (HZB.out.at_ HY.out)
     have HFj:=hid (HFA.out j _ _ hlt2 HX.out HY.out)
     have cx:=hD.at_ HX.out
     have cy0:=hD.at_ HY.out
     obtain ⟨u,cz,fz,_⟩:=hP.spot (i:=j) (by rw [fillK_length,HFL.out];exact hlt2)
     rw [Nat.zero_add] at cx cy0 cz fz
     generalize z.getD (j+16) 0=y at *
     generalize z.getD j 0=x at *
     obtain ⟨q,hq⟩:∃q,q=j+16:=⟨_,rfl⟩
     rw [←hq] at cy0
     have hwq:IntKind.i64.wrap ((j:Int)+16)=(q:Int):=by rw [IntWalk.i64_in _ (by omega)];omega
     have q0:(0:Int)≤q:=by omega
     have q32:(q:Int)<32:=by omega
     have HQ:=hid hq
     clear hq
     obtain ⟨v,hv⟩:∃v,v=x+38*y:=⟨_,rfl⟩
     rw [←hv] at HFj
     have hw1:IntKind.i64.wrap (38*y)=38*y:=IntWalk.i64_in _ (by have:=HYB.out;omega)
     have hw2:IntKind.i64.wrap (x+38*y)=v:=by rw [IntWalk.i64_in _ (by have:=HXB.out;have:=HYB.out;omega),hv]
     have HV:=hid hv
     clear hv
     have j0:(0:Int)≤j:=by omega
     have j16:(j:Int)<16:=by omega
     have j32:(j:Int)<32:=by omega
     have hwj:IntKind.i64.wrap ((j:Int)+1)=(j:Int)+1:=IntWalk.i64_in _ (by omega)
     have hP1:=hP.drew.set j v
     rw [Nat.zero_add,fillK_set _ HFj.out] at hP1
     go_wp2
     go_still_tail 12,(by kernel_rfl)
     change wpList _ _ _ _ _ W3.drew
     have hR1:Arr (W3.drew.setCell ⟨B,j,none⟩ (.int .i64 v)) (w.heap.size+1+1) 0 .i64 (zeros 16):=hR.drew.apart _ (.inl (by show B≠w.heap.size+1+1;omega))
     have hD1:Arr (W3.drew.setCell ⟨B,j,none⟩ (.int .i64 v)) (w.heap.size+1+1+1) 0 .i64 z:=hD.drew.apart _ (.inl (by show B≠w.heap.size+1+1+1;omega))
     have hW1:Below w.heap.size w (W3.drew.setCell ⟨B,j,none⟩ (.int .i64 v)):=hW.drew.setCell (by show w.heap.size≤B;omega) _
     have cz1:W3.drew.cell? ⟨B,j,none⟩=some (.int .i64 u):=cz
     have fz1:W3.drew.frozen? ⟨B,j,none⟩=false:=fz
     clear cz fz cx cy0 hR hD hP hW
     generalize W3.drew=W4 at *
     go_wp2
     go_roundw
     case rel=>exact ⟨j+1,by omega,by go_num,hR1,hD1,hP1,hW1⟩
     case measure=>simp [intOf];omega
    ·have e:j=16:=by omega
     subst e
     have HE:Hid (fillK fs 16=fs):=hid (by have h:=fillK_end fs;rw [HFL.out] at h;exact h)
     rw [HE.out] at hP
     go_wp2_with (fail)
     refine (carry_any _ _ _ HFL.out HFB.out hP).mono ?_
     rintro e w1 ⟨rfl,hP2,hO2⟩
     rw [HCF.out] at hP2
     have hR2:=hR.only hO2 (by omega)
     have hW2:=hW.trans (hO2.below (B:=w.heap.size) (by omega) hW.size)
     clear hR hD hP hW hO2
     go_wp2_with (fail)
     refine (carry_any _ _ _ HC1L.out HC1B.out hP2).mono ?_
     rintro e w2 ⟨rfl,hP3,hO3⟩
     rw [HM2.out] at hP3
     have hR3:=hR2.only hO3 (by omega)
     have hW3:=hW2.trans (hO3.below (B:=w.heap.size) (by omega) hW2.size)
     have hs1:w2.there (w.heap.size+1+1) 0 (ints .i64 m).toArray.size:=hR3.room (by rw [zeros_len];exact HMLen.out)
     have hR4:=hR3.stored (l':=m) (by rw [zeros_len];exact HMLen.out)
     have hW4:=Below.setCells hW3 (g:=w.heap.size+1+1) (by omega) 0 (ints .i64 m).toArray.toList
     clear hR2 hP2 hW2 hO3
     go_wp2_with (first
      | (with_reducible refine wpList_load_mid (op:=⟨some 61,.load 70 (.tmp 10),_,_,_,_⟩) rfl 70 (.tmp 10) rfl B 0 rfl (ints .i64 m) _ (hP3.range) Tryz.underlying70 rfl (l26 HMLen.out) ?_)
      | (with_reducible refine wpList_store_mid (op:=⟨none,.store 70 (.tmp 4) (.tmp 61),_,_,_,_⟩) rfl 70 (.tmp 4) (.tmp 61) rfl (w.heap.size+1+1) 0 (ints .i64 m).toArray rfl rfl hs1 (a26 HMLen.out) (ints_all _ _) ?_))
     exact ret_rows rfl (w.heap.size+1+1) 0 rfl (ints .i64 m) _ hR4.range Tryz.underlying70 rfl (l26 HMLen.out) rfl ⟨rfl,hW4⟩
theorem mul_any (xs ys:List Int) (w:World) (hl:xs.length=16) (hl2:ys.length=16) (hb:Bd 70000 xs) (hb2:Bd 70000 ys) :
 Calls Tryz.prog 51 #[.agg (ints .i64 xs).toArray,.agg (ints .i64 ys).toArray] w fun e w'=>e=.returned (.agg (ints .i64 (mulL xs ys)).toArray)∧Below w.heap.size w w':=mul_walk xs ys _ w (hid rfl) hl hl2 hb hb2
def Dg (l:List Int):Prop:=l.length=16∧∀(i:Nat) (x:Int),l[i]? = some x→0≤x∧x<65536∧(i=15→x<32768)
def sg:Nat→Int
 | 0=>0
 | n+1=>1+65536*sg n
theorem ev_bd (b:Int):∀l:List Int,Bd b l→-(b*sg l.length)≤ev l∧ev l≤b*sg l.length
 | [],_=>by simp [ev,sg]
 | x::l,h=>by
   have h1:=ev_bd b l (fun y hy=>h y (by simp [hy]))
   have h2:=h x (by simp)
   simp only [ev,List.length_cons,sg,Int.mul_add,Int.mul_one]
   have e:b*(65536*sg l.length)=65536*(b*sg l.length):=by rw [←Int.mul_assoc,Int.mul_comm b,Int.mul_assoc]
   rw [e];omega
theorem ev_digits:∀l:List Int,(∀x ∈ l,0≤x∧x<65536)→0≤ev l∧ev l<65536^l.length
 | [],_=>by simp [ev]
 | x::l,h=>by
   have h1:=ev_digits l (fun y hy=>h y (by simp [hy]))
   have h2:=h x (by simp)
   simp only [ev,List.length_cons,Int.pow_succ]
   omega
def Q:Int:=57896044618658097711785492504343953926634992332820282019728792003956564819968
def P:Int:=57896044618658097711785492504343953926634992332820282019728792003956564819949
theorem Dg.split {l:List Int} (h:Dg l):∃d m,l[0]? = some d∧0≤d∧d<65536∧ev l=d+65536*m∧0≤m∧65536*m+65536≤Q:=by
 obtain ⟨hl,hd⟩:=h
 match l,hl with
 | d::l,hl =>
   have h0:=hd 0 d rfl
   refine ⟨d,ev l,rfl,h0.1,h0.2.1,rfl,?_⟩
   have hl15:l.length=15:=by simpa using hl
   obtain ⟨a,b,rfl⟩:∃a b,l=a++[b]:=⟨l.dropLast,l.getLast (by intro e;rw [e] at hl15;simp at hl15),(List.dropLast_concat_getLast _).symm⟩
   have ha:a.length=14:=by simpa using hl15
   have hb:=hd 15 b (by simp [ha])
   have hda:=ev_digits a (fun y hy=>by
    obtain ⟨i,hi⟩:=List.getElem?_of_mem hy
    have hil:=(List.getElem?_eq_some_iff.1 hi).1
    have:=hd (i+1) y (by simp [List.getElem?_append_left hil,hi])
    omega)
   rw [ev_append,ha]
   rw [ha] at hda
   have e14:(65536:Int)^14=26959946667150639794667015087019630673637144422540572481103610249216:=by decide
   rw [e14] at hda ⊢
   have hb3:=hb.2.2 rfl
   simp only [ev]
   unfold Q
   omega
theorem Dg.bd {l:List Int} (h:Dg l):0≤ev l∧ev l<Q:=by
 obtain ⟨d,m,_,h1,h2,h3,h4,h5⟩:=h.split
 omega
theorem cyA_dg {xs:List Int} (hl:xs.length=16):Dg (cyA xs):=by
 refine ⟨by simp [cyA,cl_length,hl],fun i x hi=>?_⟩
 by_cases e:15=i
 ·subst e
  rw [cyA,List.getElem?_set_self (by rw [cl_length];omega)] at hi
  injection hi with hi;omega
 ·rw [cyA,List.getElem?_set_ne e] at hi
  have hi2:=(List.getElem?_eq_some_iff.1 hi).1
  rw [cl_length] at hi2
  have:=cl_below xs 15 i x (by omega) hi
  omega
theorem cyA_ev {xs:List Int} (hl:xs.length=16):ev (cyA xs)+Q*(lastOf xs / 32768)=ev xs:=by
 have h1:=cl_ev xs 15 (by omega)
 have hs:=ev_set (cl xs 15).1 15 (lastOf xs%32768) _ (getD_some (by rw [cl_length];omega))
 unfold cyA
 rw [hs]
 have e15:(65536:Int)^15=1766847064778384329583297500742918515827483896875618958121606201292619776:=by decide
 rw [e15] at h1 ⊢
 unfold lastOf Q
 omega
theorem cy_q {xs:List Int} (hl:xs.length=16):lastOf xs / 32768=ev xs / Q:=by
 have h1:=cyA_ev hl
 have h2:=(cyA_dg hl).bd
 unfold Q at *
 omega
theorem cy_set {xs:List Int} (hl:xs.length=16) {d:Int} (hd:(cyA xs)[0]? = some d):cy xs=(cyA xs).set 0 (d+19*(ev xs / Q)):=by
 unfold cy
 rw [cy_q hl]
 simp [List.getD,hd]
theorem cy_ev {xs:List Int} (hl:xs.length=16):ev (cy xs)=ev xs - P*(ev xs / Q):=by
 obtain ⟨d,m,hd,_⟩:=(cyA_dg hl).split
 have h1:=cyA_ev hl
 rw [cy_q hl] at h1
 rw [cy_set hl hd,ev_set _ _ _ _ hd]
 unfold P
 unfold Q at *
 omega
def El (a:List Int):Prop:=a.length=16∧∃l q,Dg l∧∃d,l[0]? = some d∧a=l.set 0 (d+q)∧-19≤d+q∧d+q≤65554
theorem El.len {a:List Int} (h:El a):a.length=16:=h.1
theorem El.bd {a:List Int} (h:El a):Bd 70000 a:=by
 obtain ⟨_,l,q,hl,d,hd,rfl,h1,h2⟩:=h
 refine Bd.set (fun x hx=>?_) 0 _ (by omega)
 obtain ⟨i,hi⟩:=List.getElem?_of_mem hx
 have:=hl.2 i x hi
 omega
theorem El.ev {a:List Int} (h:El a) : -19≤ev a∧ev a≤Q+18:=by
 obtain ⟨_,l,q,hl,d,hd,rfl,h1,h2⟩:=h
 obtain ⟨d',m,hd',b1,b2,b3,b4,b5⟩:=hl.split
 obtain rfl:d=d':=Option.some.inj (hd.symm.trans hd')
 rw [ev_set _ _ _ _ hd,b3]
 omega
theorem cy_el {xs:List Int} (hl:xs.length=16) (h1 : -(Q+1000)≤ev xs) (h2:ev xs≤2*Q+1000):El (cy xs):=by
 obtain ⟨d,m,hd,b1,b2,b3,b4,b5⟩:=(cyA_dg hl).split
 have h3:=cyA_ev hl
 rw [cy_q hl] at h3
 refine ⟨by rw [cy_length];exact hl,cyA xs,19*(Proofs.YtkblmdakejmmhaaGreatDoor.ev xs / Q),cyA_dg hl,d,hd,cy_set hl hd,?_⟩
 have hq:Proofs.YtkblmdakejmmhaaGreatDoor.ev xs / Q = -2∨Proofs.YtkblmdakejmmhaaGreatDoor.ev xs / Q = -1∨Proofs.YtkblmdakejmmhaaGreatDoor.ev xs / Q=0∨Proofs.YtkblmdakejmmhaaGreatDoor.ev xs / Q=1∨Proofs.YtkblmdakejmmhaaGreatDoor.ev xs / Q=2:=by unfold Q at *;omega
 rcases hq with e|e|e|e|e <;> rw [e] at h3 ⊢ <;> omega
theorem plus_ev {a b:List Int} (ha:a.length=16) (hb:b.length=16) {d:List Int} (hd:d.length=16) {c:Int} (h:∀(i:Nat) (x y:Int),a[i]? = some x→b[i]? = some y→d[i]? = some (x+c*y)):ev d=ev a+c*ev b:=ev_zip 16 c a b d ha hb hd h
theorem mod_sub_mul (x q:Int):(x - P*q)%P=x%P:=by
 rw [Int.sub_eq_add_neg,←Int.mul_neg,Int.add_mul_emod_self_left]
theorem cy_mod {xs:List Int} (hl:xs.length=16):ev (cy xs)%P=ev xs%P:=by rw [cy_ev hl,mod_sub_mul]
theorem mulL_el {xs ys:List Int} (hx:El xs) (hy:El ys):El (mulL xs ys)∧ev (mulL xs ys)%P=ev xs*ev ys%P:=by
 have hz:=colA_bd xs ys hx.bd hy.bd hx.len hy.len 16 (by omega)
 have hzl:=colA_length xs ys 16
 have he:=colA_ev xs ys hx.len hy.len 16 (by omega)
 rw [List.take_of_length_le (by rw [hx.len];omega)] at he
 have hf:=foldL_bd (colA xs ys 16) (fun v hv=>by have:=hz v hv;omega) hzl
 have hfl:=foldL_length (colA xs ys 16)
 have hfe:=foldL_ev (colA xs ys 16) hzl
 have hsp:ev (colA xs ys 16)=ev ((colA xs ys 16).take 16)+65536^16*ev ((colA xs ys 16).drop 16):=by
  have h:=ev_append ((colA xs ys 16).take 16) ((colA xs ys 16).drop 16)
  rw [List.take_append_drop,List.length_take,hzl] at h
  exact h
 have hfb:=ev_bd _ _ hf
 rw [hfl] at hfb
 unfold mulL
 generalize foldL (colA xs ys 16)=fs at *
 generalize colA xs ys 16=z at *
 have h1:=cy_ev hfl
 have hcl:(cy fs).length=16:=by rw [cy_length];exact hfl
 have e16:(65536:Int)^16=2*Q:=by decide
 have hs:4000000000000*sg 16≤130000000*Q:=by decide
 refine ⟨cy_el hcl ?_ ?_,?_⟩
 ·rw [h1];unfold Q P at *;omega
 ·rw [h1];unfold Q P at *;omega
 ·rw [cy_mod hcl,cy_mod hfl,hfe,←he,hsp,e16]
  have e:ev (z.take 16)+2*Q*ev (z.drop 16)=ev (z.take 16)+38*ev (z.drop 16) - P*(-2*ev (z.drop 16)):=by
   have:2*Q*ev (z.drop 16)=38*ev (z.drop 16) - P*(-2*ev (z.drop 16)):=by
    generalize ev (z.drop 16)=t
    unfold Q P;omega
   omega
  rw [e,mod_sub_mul]
theorem addL_el {xs ys:List Int} (hx:El xs) (hy:El ys):El (cy (plus xs ys))∧ev (cy (plus xs ys))%P=(ev xs+ev ys)%P:=by
 have e:ev (plus xs ys)=ev xs+1*ev ys:=plus_ev hx.len hy.len (plus_length xs ys) (fun i x y h1 h2=>by
  have hi:=(List.getElem?_eq_some_iff.1 h1).1
  rw [hx.len] at hi
  rw [plus_at hi h1 h2];congr 1;omega)
 have h1:=hx.ev
 have h2:=hy.ev
 refine ⟨cy_el (plus_length _ _) ?_ ?_,?_⟩
 ·unfold Q at *;omega
 ·unfold Q at *;omega
 ·rw [cy_mod (plus_length _ _),e,Int.one_mul]
theorem subL_el {xs ys:List Int} (hx:El xs) (hy:El ys):El (cy (minus xs ys))∧ev (cy (minus xs ys))%P=(ev xs - ev ys)%P:=by
 have e:ev (minus xs ys)=ev xs+(-1)*ev ys:=plus_ev hx.len hy.len (minus_length xs ys) (fun i x y h1 h2=>by
  have hi:=(List.getElem?_eq_some_iff.1 h1).1
  rw [hx.len] at hi
  rw [minus_at hi h1 h2];congr 1;omega)
 have h1:=hx.ev
 have h2:=hy.ev
 refine ⟨cy_el (minus_length _ _) ?_ ?_,?_⟩
 ·unfold Q at *;omega
 ·unfold Q at *;omega
 ·rw [cy_mod (minus_length _ _),e];congr 1;omega
theorem el_set {l:List Int} (h:Dg l):El l:=by
 obtain ⟨d,m,hd,b1,b2,_⟩:=h.split
 refine ⟨h.1,l,0,h,d,hd,?_,by omega,by omega⟩
 apply List.ext_getElem?
 intro i
 rw [List.getElem?_set]
 split
 ·rename_i e;subst e
  rw [hd];simp
  intro e;rw [e] at hd;simp at hd
 ·rfl
theorem zeros_dg:Dg (zeros 16):=⟨rfl,fun i x hi=>by
 have:=List.eq_of_mem_replicate (List.mem_of_getElem? hi)
 omega⟩
theorem zeros_el:El (zeros 16):=el_set zeros_dg
theorem small_dg (n:Int):Dg (smallL n):=by
 unfold smallL
 split
 ·rename_i h
  refine ⟨rfl,fun i x hi=>?_⟩
  cases i with
  | zero=>simp at hi;omega
  | succ i =>
    have:=List.eq_of_mem_replicate (List.mem_of_getElem? (show (zeros 15)[i]? = some x by simpa using hi))
    omega
 ·exact zeros_dg
theorem small_ev (n:Int) (h:0≤n∧n≤65535):ev (smallL n)=n:=by
 unfold smallL
 rw [if_pos h]
 simp only [ev,ev_zeros];omega
theorem red_dg {xs:List Int} (hx:El xs):Dg (red xs)∧ev (red xs)=ev xs%P:=by
 have hb:=hx.ev
 have hl:=hx.len
 have hx0:xs[0]? = some (xs.getD 0 0):=getD_some (by omega)
 have l1:(xs.set 0 (xs.getD 0 0+19)).length=16:=by simp [hl]
 have e1:ev (xs.set 0 (xs.getD 0 0+19))=ev xs+19:=by rw [ev_set _ _ _ _ hx0];omega
 unfold red
 generalize xs.set 0 (xs.getD 0 0+19)=x1 at *
 have l2:(cy x1).length=16:=by rw [cy_length];exact l1
 have e2:=cy_ev l1
 have hy0:(cy x1)[0]? = some ((cy x1).getD 0 0):=getD_some (by omega)
 have l3:((cy x1).set 0 ((cy x1).getD 0 0 - 19)).length=16:=by simp [l2]
 have e3:ev ((cy x1).set 0 ((cy x1).getD 0 0 - 19))=ev (cy x1) - 19:=by rw [ev_set _ _ _ _ hy0];omega
 generalize (cy x1).set 0 ((cy x1).getD 0 0 - 19)=x2 at *
 have e4:=cy_ev l3
 obtain ⟨d,m,hd,b1,b2,b3,b4,b5⟩:=(cyA_dg l3).split
 have e5:=cyA_ev l3
 rw [cy_q l3] at e5
 have hZ:ev x2=ev xs - P*((ev xs+19) / Q):=by rw [e3,e2,e1];omega
 have hmod:ev (cy x2)%P=ev xs%P:=by rw [cy_mod l3,hZ,mod_sub_mul]
 have hq:(ev xs+19) / Q=0∨(ev xs+19) / Q=1:=by unfold Q at *;omega
 have hz : -19≤ev x2∧ev x2<P:=by
  rcases hq with h|h
  ·rw [hZ,h];unfold Q P at *;omega
  ·rw [hZ,h];unfold Q P at *;omega
 have hq2:(ev x2 / Q = -1∧ev x2<0)∨(ev x2 / Q=0∧0≤ev x2):=by unfold Q P at *;omega
 have hr:0≤ev (cy x2)∧ev (cy x2)<P:=by
  rcases hq2 with h|h
  ·rw [e4,h.1];unfold P at *;omega
  ·rw [e4,h.1];omega
 have hd1:0≤d+19*(ev x2 / Q)∧d+19*(ev x2 / Q)<65536:=by
  rcases hq2 with h|h
  ·rw [h.1] at e5 ⊢;omega
  ·rw [h.1];omega
 refine ⟨?_,?_⟩
 ·rw [cy_set l3 hd]
  refine ⟨by simp [cyA,cl_length,l3],fun i x hi=>?_⟩
  by_cases e0:0=i
  ·subst e0
   rw [List.getElem?_set_self (by rw [(cyA_dg l3).1];omega)] at hi
   rw [←Option.some.inj hi]
   exact ⟨hd1.1,hd1.2,fun h=>by omega⟩
  ·rw [List.getElem?_set_ne e0] at hi
   exact (cyA_dg l3).2 i x hi
 ·rw [←hmod]
  exact (Int.emod_eq_of_lt hr.1 hr.2).symm
theorem Dg.all {l:List Int} (h:Dg l):∀x ∈ l,0≤x∧x<65536:=fun x hx=>by
 obtain ⟨i,hi⟩:=List.getElem?_of_mem hx
 have:=h.2 i x hi
 omega
end Go.Proofs.YtkblmdakejmmhaaGreatDoor
