import Derived.Test.YtkblmdakejmmhaaGreatDoorRModM
namespace Go.Proofs.YtkblmdakejmmhaaGreatDoor
open Go Go.RowKit
section
set_option maxHeartbeats 400000
def Rp (l:List Nat) (n:Nat):Prop:=l.length=16∧Digs l∧dv l=n
def ROut (n:Nat) (w:World) (e:Ending) (w':World):Prop:=∃A c ys,e=.returned (.slice A 16 c)∧Hid (Rp ys n)∧NumsF w.heap.size w' .i64 A (nl ys)∧Below w.heap.size w w'
theorem ROut.mk {n:Nat} {w w':World} {A:Option Addr} {c:Nat} {ys:List Nat} (h:Rp ys n) (hN:NumsF w.heap.size w' .i64 A (nl ys)) (hb:Below w.heap.size w w'):ROut n w (.returned (.slice A 16 c)) w':=⟨A,c,ys,rfl,h,hN,hb⟩
theorem pd_rp:Rp PD NT.PN:=⟨by decide,pd_digs,by decide⟩
theorem rp_out (w:World):Calls Tryz.prog 42 #[] w (ROut NT.PN w):=(rp_any w).mono fun _ _ ⟨A,c,he,hN,hb⟩=>⟨A,c,PD,he,pd_rp,hN,hb⟩
theorem rmod_out (A:Option Addr) (cA L n:Nat) (l:List Nat) (w:World) (hl:l.length=L) (hL1:16≤L) (hn:L≤50) (dl:Digs l) (hA:Nums w .i64 A (nl l)) (hv:dv l=n):Calls Tryz.prog 66 #[.slice A L cA] w (ROut (n%NT.PN) w):=by
 subst hv
 exact (rmod_any A cA L l w hl hL1 hn dl hA).mono fun e w' ⟨A,c,ys,he,hy,hN,hb⟩=>⟨A,c,ys,he,hy,hN,hb⟩
theorem rless_out {A B:Option Addr} {cA cB m n:Nat} {a b:List Nat} {w:World} (ha:Rp a m) (hb:Rp b n) (h:n≤m) (hA:Nums w .i64 A (nl a)) (hB:Nums w .i64 B (nl b)):Calls Tryz.prog 41 #[.slice A 16 cA,.slice B 16 cB] w (ROut (m - n) w) :=
 (le_any A B cA cB 16 a b w ha.1 hb.1 (by omega) ha.2.1 hb.2.1 (by rw [ha.2.2,hb.2.2];exact h) hA hB).mono fun e w' ⟨A,c,ys,he,hy,hN,hbl⟩=>⟨A,c,ys,he,⟨hy.1,hy.2.1,by rw [hy.2.2,ha.2.2,hb.2.2]⟩,hN,hbl⟩
theorem ral_out {A B:Option Addr} {cA cB m n:Nat} {a b:List Nat} {w:World} (ha:Rp a m) (hb:Rp b n) (hA:Nums w .i64 A (nl a)) (hB:Nums w .i64 B (nl b)):Calls Tryz.prog 67 #[.slice A 16 cA,.slice B 16 cB] w fun e w'=>e=.returned (.bool (decide (n≤m)))∧Below w.heap.size w w' :=
 (al_any A B cA cB 16 a b w ha.1 hb.1 (by omega) ha.2.1 hb.2.1 hA hB).mono fun e w' ⟨x,he,hy,hw⟩=>⟨by rw [he,hy.out,ha.2.2,hb.2.2],hw.below⟩
set_option maxRecDepth 50000 in
theorem make28 (n:Nat) (h:n≤1000) (w:World):(Instr.makeSlice 60 (.int .i64 (n:Int)) (.int .i64 (n:Int))).run Tryz.prog w=.ok (.slice (some ⟨w.heap.size,0,none⟩) n n) (w.alloc (.cells (ints .i64 (nl (List.replicate n 0))).toArray 3)):=by
 have hi:=Tryz.info3
 cases hc:Tryz.prog.info? 3 with
 | none=>rw [hc] at hi;simp at hi
 | some i =>
   rw [hc] at hi
   simp only [Option.map_some,Option.some.injEq,Prod.mk.injEq] at hi
   have h2:=run_make (P:=Tryz.prog) w 60 3 i (.int .i64 0) (by kernel_rfl) hc hi.1 .i64 .i64 n n (by omega) (by omega) (by rw [hi.2.2];omega) (by omega)
   rw [h2,hi.2.1]
   simp only [Int.toNat_natCast,Nat.mul_one]
   congr 3
   apply Array.toList_inj.1
   show (madeCells #[.int .i64 0] n).toList=_
   rw [toList_madeCells_one]
   simp [ints,nl]
theorem small_rp {n:Nat} (h:n<65536):Rp ((List.replicate 16 0).set 0 n) n:=by
 refine ⟨by simp,set_digs (fun v hv=>by have:=List.eq_of_mem_replicate hv;omega) _ _ h,?_⟩
 have e:(List.replicate 16 0).set 0 n=n::List.replicate 15 0:=rfl
 have h0:=dv_zeros [] 15
 rw [List.nil_append] at h0
 rw [e,dv,h0]
 simp [dv]
theorem rsmall_out (n:Nat) (h:n<65536) (w:World):Calls Tryz.prog 35 #[.int .i64 n] w (ROut n w):=by
 have HR:=hid (small_rp h)
 have hmk:∀w:World,(Instr.makeSlice 60 (.int .i64 16) (.int .i64 16)).run Tryz.prog w=.ok (.slice (some ⟨w.heap.size,0,none⟩) 16 16) (w.alloc (.cells (ints .i64 (nl (List.replicate 16 0))).toArray 3)):=fun w=>make28 16 (by omega) w
 have hO:=Owns.new w w.heap.size 3 .i64 (nl (List.replicate 16 0)) (Nat.le_refl _) (by rw [nl_length];simp [maxLen])
 have e:((nl (List.replicate 16 0)).map (Value.int .i64)).toArray=(ints .i64 (nl (List.replicate 16 0))).toArray:=rfl
 rw [e] at hO
 have hb:=below_new w (.cells (ints .i64 (nl (List.replicate 16 0))).toArray 3)
 have hl:(nl (List.replicate 16 0)).length=16:=by rw [nl_length];simp
 rw [hl] at hO
 obtain ⟨x,c0,f0,_⟩:=hO.spot (j:=0) (by rw [hl];omega)
 have hO2:=Owns.new w w.heap.size 3 .i64 (nl ((List.replicate 16 0).set 0 n)) (Nat.le_refl _) (by rw [nl_length];simp [maxLen])
 have e2:((nl ((List.replicate 16 0).set 0 n)).map (Value.int .i64)).toArray=(ints .i64 (nl (List.replicate 16 0))).toArray.setIfInBounds 0 (.int .i64 (n:Int)):=by
  rw [←nl_set];simp [ints]
 have hl2:(nl ((List.replicate 16 0).set 0 n)).length=16:=by rw [nl_length];simp
 rw [e2,hl2] at hO2
 have HO:=hid hO2
 have hb2:=below_new w (.cells ((ints .i64 (nl (List.replicate 16 0))).toArray.setIfInBounds 0 (.int .i64 (n:Int))) 3)
 have HB:=hid hb2
 clear hl e e2 hl2 hO hO2 hb hb2
 go_enter Tryz.func35,Tryz.ntmps35
 generalize hZ:(ints .i64 (nl (List.replicate 16 0))).toArray=Z at *
 go_wp2
 go_ret
 exact ROut.mk HR.out HO.out.fresh HB.out
theorem sub_mod {m n:Nat} (hn:n<NT.PN) (h:¬n≤m):NT.PN - (n - m)=(m+NT.PN - n)%NT.PN:=by
 rw [Nat.mod_eq_of_lt (by omega)];omega
theorem sub_mod' {m n:Nat} (hm:m<NT.PN) (h:n≤m):m - n=(m+NT.PN - n)%NT.PN:=by
 rw [show m+NT.PN - n=(m - n)+NT.PN by omega,Nat.add_mod_right,Nat.mod_eq_of_lt (by omega)]
theorem rsub_walk {A B:Option Addr} {cA cB m n:Nat} {a b:List Nat} {w:World} (ha:Rp a m) (hb:Rp b n) (hm:m<NT.PN) (hn:n<NT.PN) (hA:Nums w .i64 A (nl a)) (hB:Nums w .i64 B (nl b)):Calls Tryz.prog 37 #[.slice A 16 cA,.slice B 16 cB] w (ROut ((m+NT.PN - n)%NT.PN) w):=by
 have HA:=hid ha
 have HB:=hid hb
 have HM:=hid (And.intro hm hn)
 have c1:=ral_out (cA:=cA) (cB:=cB) ha hb hA hB
 clear ha hb hm hn
 by_cases hle:n≤m
 ·rw [decide_eq_true hle] at c1
  have C1:=hid c1
  have HE:=hid (sub_mod' HM.out.1 hle)
  have HLE:=hid hle
  clear c1 hle
  rw [←HE.out]
  go_enter Tryz.func37,Tryz.ntmps37
  go_wp2_with (fail)
  refine C1.out.mono ?_
  rintro e w1 ⟨rfl,hb1⟩
  go_wp2_with (fail)
  refine (rless_out HA.out HB.out HLE.out (hA.below hb1) (hB.below hb1)).mono ?_
  rintro e w2 ⟨R,c,ys,rfl,HY,hN,hb2⟩
  go_wp2
  go_ret
  exact ROut.mk HY.out (hN.less hb1.size) (hb1.trans (hb2.mono hb1.size))
 ·rw [decide_eq_false hle] at c1
  have C1:=hid c1
  have HE:=hid (sub_mod HM.out.2 hle)
  have HLE:=hid hle
  have HLP:Hid (n - m≤NT.PN):=hid (by have:=HM.out.2;omega)
  clear c1 hle
  rw [←HE.out]
  go_enter Tryz.func37,Tryz.ntmps37
  go_wp2_with (fail)
  refine C1.out.mono ?_
  rintro e w1 ⟨rfl,hb1⟩
  go_wp2_with (fail)
  refine (rp_out _).mono ?_
  rintro e w2 ⟨R,c,ys,rfl,HY,hN,hb2⟩
  replace hb2:=hb1.trans (hb2.mono hb1.size)
  go_wp2_with (fail)
  refine (rless_out HB.out HA.out (Nat.le_of_not_le HLE.out) (hB.below hb2) (hA.below hb2)).mono ?_
  rintro e w3 ⟨R3,c3,ys3,rfl,HY3,hN3,hb3⟩
  go_wp2_with (fail)
  refine (rless_out HY.out HY3.out HLP.out (hN.stay hb3).nums hN3.nums).mono ?_
  rintro e w4 ⟨R4,c4,ys4,rfl,HY4,hN4,hb4⟩
  go_wp2
  go_ret
  have h3:=hb2.trans (hb3.mono hb2.size)
  exact ROut.mk HY4.out (hN4.less h3.size) (h3.trans (hb4.mono h3.size))
end
def SumI (l m ys:List Nat) (cy k:Nat):Prop:=ys.length=k∧Digs ys∧cy≤1∧dv ys+cy*65536^k=dv (l.take k)+dv (m.take k)
theorem SumI.step {l m ys:List Nat} {cy k:Nat} (h:SumI l m ys cy k) (h1:k<l.length) (h2:k<m.length) (dl:Digs l) (dm:Digs m):SumI l m (ys++[(l.getD k 0+m.getD k 0+cy)%65536]) ((l.getD k 0+m.getD k 0+cy) / 65536) (k+1):=by
 obtain ⟨a,b,c,e⟩:=h
 have g1:l[k]? = some (l.getD k 0):=by rw [List.getD_eq_getElem?_getD,List.getElem?_eq_getElem h1];rfl
 have g2:m[k]? = some (m.getD k 0):=by rw [List.getD_eq_getElem?_getD,List.getElem?_eq_getElem h2];rfl
 have hx:=getD_dig dl k
 have hy:=getD_dig dm k
 refine ⟨by simp [a],digs_snoc b (Nat.mod_lt _ (by omega)),by omega,?_⟩
 rw [dv_snoc,a,dv_take_succ l k _ g1,dv_take_succ m k _ g2,Nat.pow_succ]
 generalize l.getD k 0=x at *
 generalize m.getD k 0=y at *
 have hdm:=Nat.div_add_mod (x+y+cy) 65536
 generalize (x+y+cy)%65536=r at *
 generalize (x+y+cy) / 65536=q at *
 generalize 65536^k=P at *
 have h3:(65536*q+r)*P=(x+y+cy)*P:=by rw [hdm]
 have h4:q*(P*65536)=65536*q*P:=by rw [Nat.mul_comm P,←Nat.mul_assoc,Nat.mul_comm q]
 rw [Nat.add_mul,Nat.add_mul,Nat.add_mul] at h3
 rw [h4]
 omega
set_option maxRecDepth 4000 in
set_option maxHeartbeats 1000000 in
theorem radd_walk {A B:Option Addr} {cA cB m n:Nat} {a b:List Nat} {w:World} (ha:Rp a m) (hb:Rp b n) (hA:Nums w .i64 A (nl a)) (hB:Nums w .i64 B (nl b)):Calls Tryz.prog 36 #[.slice A 16 cA,.slice B 16 cB] w (ROut ((m+n)%NT.PN) w):=by
 have HA:=hid ha
 have HB:=hid hb
 clear ha hb
 go_enter Tryz.func36,Tryz.ntmps36
 go_wp2
 go_loopw [5,6,7] (fun v b' i wr=>∃(k:Nat) (ys:List Nat) (cy:Nat) (R:Option Addr) (n c:Nat),k≤16∧v=.slice R n c∧b'=.int .i64 cy∧i=.int .i64 k∧Hid (SumI a b ys cy k)∧Owns wr w.heap.size 3 .i64 (.slice R n c) (nl ys)∧Below w.heap.size w wr) (fun _ _ i _=>16 - (intOf i).toNat)
 case atStart=>exact ⟨0,[],0,none,0,0,Nat.zero_le _,rfl,rfl,rfl,hid ⟨rfl,fun v hv=>by simp at hv,by omega,by simp [dv]⟩,Owns.none_ _ _ _ _,Below.refl _ _⟩
 case round =>
  obtain ⟨k,ys,cy,R,n',c,hk,rfl,rfl,rfl,HI,hO,hbl⟩:=hrel
  have hsz:=hbl.size
  have HY:Hid ((nl ys).length=k):=hid (by rw [nl_length];exact HI.out.1)
  have hcy:=HI.out.2.2.1
  by_cases hlt:k<16
  ·have hil:k<a.length:=by rw [HA.out.1];omega
   have him:k<b.length:=by rw [HB.out.1];omega
   obtain ⟨g,o,rfl,_,cA0⟩:=(hA.below hbl).num (by rw [nl_length,HA.out.1];omega)
   obtain ⟨g2,o2,rfl,_,cB0⟩:=(hB.below hbl).num (by rw [nl_length,HB.out.1];omega)
   have cl:=cA0 k _ (nl_at hil)
   have cm:=cB0 k _ (nl_at him)
   have hx:=getD_dig HA.out.2.1 k
   have hy:=getD_dig HB.out.2.1 k
   have HS:=hid (HI.out.step hil him HA.out.2.1 HB.out.2.1)
   clear cA0 cB0 hil him
   generalize a.getD k 0=x at *
   generalize b.getD k 0=y at *
   have k0:(0:Int)≤k:=by omega
   have k1:(k:Int)<16:=by omega
   obtain ⟨t,ht⟩:∃t,t=x+y+cy:=⟨_,rfl⟩
   have w1:IntKind.i64.wrap ((x:Int)+y)=(x:Int)+y:=IntWalk.i64_in _ (by omega)
   have w2:IntKind.i64.wrap ((x:Int)+y+cy)=t:=by rw [IntWalk.i64_in _ (by omega)];omega
   have htl:t<200000:=by omega
   rw [←ht] at HS
   clear ht
   have e1:((t%65536:Nat):Int)=(t:Int)%65536:=by omega
   have e2:Value.int .i64 ((t:Int) / 65536)=Value.int .i64 ((t / 65536:Nat):Int):=by congr 1
   have E1:=hid e1
   have E2:=hid e2
   clear e1 e2
   go_wp2
   go_quiet (fail)
   clear w1 w2
   go_wp2_with (at_builtin;refine app_one _ rfl (.tmp 24) (.tmp 27) 60 rfl w.heap.size 3 .i64 8 Tryz.underlying60 Tryz.info3 R n' c (nl ys) rfl (hO.drewN _) _ 1 rfl (by rw [HY.out];omega) (by omega) (by simpa using hsz) ?_;intro A' n2 c' w2 hO2 hb2)
   go_roundw
   case rel=>exact ⟨k+1,_,t / 65536,A',n2,c',by omega,rfl,E2.out,by go_num,HS,by rw [←nl_snoc,E1.out];exact hO2,(below_drewN hbl nq).trans hb2⟩
   case measure=>simp [intOf];omega
  ·have e:k=16:=by omega
   subst e
   have HE:Hid (dv (ys++[cy])=m+n):=hid (by
    have h:=HI.out.2.2.2
    rw [List.take_of_length_le (by rw [HA.out.1];omega),List.take_of_length_le (by rw [HB.out.1];omega),HA.out.2.2,HB.out.2.2] at h
    rw [dv_snoc,HI.out.1];exact h)
   go_wp2_with (at_builtin;refine app_one _ rfl (.tmp 31) (.tmp 33) 60 rfl w.heap.size 3 .i64 8 Tryz.underlying60 Tryz.info3 R n' c (nl ys) rfl hO _ 1 rfl (by rw [HY.out];omega) (by omega) hsz ?_;intro A' n2 c' w2 hO2 hb2)
   rw [nl_snoc] at hO2
   have hn2:=hO2.len
   rw [nl_length,List.length_append,HI.out.1] at hn2
   subst hn2
   replace hb2:=hbl.trans hb2
   refine (rmod_out A' c' 17 (m+n) (ys++[cy]) _ (by simp [HI.out.1]) (by omega) (by omega) (digs_snoc HI.out.2.1 (by omega)) hO2.nums HE.out).mono ?_
   rintro e3 w3 ⟨A3,c3,ys3,rfl,HY3,hN3,hb3⟩
   go_wp2
   go_ret
   exact ROut.mk HY3.out (hN3.less hb2.size) (hb2.trans (hb3.mono hb2.size))
def dgs (bs:List Int):List Int:=(List.range 16).map fun i=>bs.getD (2*i) 0+256*bs.getD (2*i+1) 0
theorem dgs_length (bs:List Int):(dgs bs).length=16:=by simp [dgs]
theorem dgs_at (bs:List Int) {i:Nat} (h:i<16):(dgs bs)[i]? = some (bs.getD (2*i) 0+256*bs.getD (2*i+1) 0):=by simp [dgs,h]
def byd (ds:List Int):List Int:=(List.range 32).map fun i=>ds.getD (i / 2) 0 / 256^(i%2)%256
theorem byd_length (ds:List Int):(byd ds).length=32:=by simp [byd]
theorem byd_even (ds:List Int) {i:Nat} (h:i<16):(byd ds)[2*i]? = some (ds.getD i 0%256):=by
 have e1:2*i / 2=i:=by omega
 have e2:2*i%2=0:=by omega
 unfold byd
 rw [List.getElem?_map,List.getElem?_range (by omega)]
 simp [e1,e2]
theorem byd_odd (ds:List Int) {i:Nat} (h:i<16):(byd ds)[2*i+1]? = some (ds.getD i 0 / 256%256):=by
 have e1:(2*i+1) / 2=i:=by omega
 have e2:(2*i+1)%2=1:=by omega
 unfold byd
 rw [List.getElem?_map,List.getElem?_range (by omega)]
 simp [e1,e2]
def Byt (l:List Int):Prop:=∀x ∈ l,0≤x∧x<256
theorem Byt.at_ {l:List Int} (h:Byt l) {i:Nat} {x:Int} (hx:l[i]? = some x):0≤x∧x<256:=h x (List.mem_of_getElem? hx)
def ofL (bs:List Int):List Int:=(dgs bs).set 15 ((dgs bs).getD 15 0%32768)
theorem ofL_length (bs:List Int):(ofL bs).length=16:=by simp [ofL,dgs_length]
set_option maxRecDepth 4000 in
set_option maxHeartbeats 1000000 in
theorem of_any (bs:List Int) (w:World) (hl:bs.length=32) (hb:Byt bs) :
 Calls Tryz.prog 47 #[.agg (ints .u8 bs).toArray] w fun e w'=>e=.returned (.agg (ints .i64 (ofL bs)).toArray)∧Below w.heap.size w w':=by
 obtain ⟨z24,s24⟩:=zero_of_info inf24
 obtain ⟨z26,s26⟩:=zero_of_info inf26
 have HL:=hid hl
 have HB:=hid hb
 clear hl hb
 have hN:=((Arr.made w .u8 bs 22).alloc (.cells (ints .i64 (zeros 16)).toArray 70)).alloc (.cells (ints .i64 (zeros 16)).toArray 70)
 have hR:=(Arr.made (w.alloc (.cells (ints .u8 bs).toArray 22)) .i64 (zeros 16) 70).alloc (.cells (ints .i64 (zeros 16)).toArray 70)
 have hD:=Arr.made ((w.alloc (.cells (ints .u8 bs).toArray 22)).alloc (.cells (ints .i64 (zeros 16)).toArray 70)) .i64 (zeros 16) 70
 have hW:=((below_new w (.cells (ints .u8 bs).toArray 22)).alloc (by simp) (.cells (ints .i64 (zeros 16)).toArray 70)).alloc (by simp;omega) (.cells (ints .i64 (zeros 16)).toArray 70)
 rw [World.size_alloc] at hR
 rw [World.size_alloc,World.size_alloc] at hD
 have HZ:Hid (zeros 16=fillK (dgs bs) 0):=hid (by rw [fillK_zero,dgs_length];rfl)
 go_enter Tryz.func47,Tryz.ntmps47
 go_wp2
 generalize (((w.alloc (.cells (ints .u8 bs).toArray 22)).alloc (.cells (ints .i64 (zeros 16)).toArray 70)).alloc (.cells (ints .i64 (zeros 16)).toArray 70))=W0 at *
 rw [HZ.out] at hD
 go_loopw [5] (fun i wr=>∃k:Nat,k≤16∧i=.int .i64 k∧Arr wr w.heap.size 0 .u8 bs∧Arr wr (w.heap.size+1) 0 .i64 (zeros 16)∧Arr wr (w.heap.size+1+1) 0 .i64 (fillK (dgs bs) k)∧Below w.heap.size w wr) (fun i _=>16 - (intOf i).toNat)
 case atStart=>exact ⟨0,by omega,rfl,hN,hR,hD,hW⟩
 case round =>
  clear hN hR hD hW
  obtain ⟨k,hk,rfl,hN,hR,hD,hW⟩:=hrel
  rename World=>W1
  by_cases hlt:k<16
  ·obtain ⟨x,cx,fx,HX⟩:=hN.spot (i:=2*k) (by rw [HL.out];omega)
   obtain ⟨y,cy0,fy,HY⟩:=hN.spot (i:=2*k+1) (by rw [HL.out];omega)
   obtain ⟨z,cz,fz,HZ2⟩:=hD.spot (i:=k) (by rw [fillK_length,dgs_length];omega)
   rw [Nat.zero_add] at cx fx cy0 fy cz fz
   have hx:=HB.out.at_ HX.out
   have hy:=HB.out.at_ HY.out
   have HV:Hid ((dgs bs)[k]? = some (x+256*y)):=hid (by rw [dgs_at bs hlt];simp [List.getD,HX.out,HY.out])
   obtain ⟨p,hp⟩:∃p,p=2*k:=⟨_,rfl⟩
   obtain ⟨q,hq⟩:∃q,q=2*k+1:=⟨_,rfl⟩
   have hwp:IntKind.i64.wrap (2*(k:Int))=(p:Int):=by rw [IntWalk.i64_in _ (by omega)];omega
   have hwq:IntKind.i64.wrap ((p:Int)+1)=(q:Int):=by rw [IntWalk.i64_in _ (by omega)];omega
   have hwk:IntKind.i64.wrap ((k:Int)+1)=(k:Int)+1:=IntWalk.i64_in _ (by omega)
   rw [←hp] at cx fx
   rw [←hq] at cy0 fy
   have k0:(0:Int)≤k:=by omega
   have k16:(k:Int)<16:=by omega
   have p0:(0:Int)≤p:=by omega
   have p32:(p:Int)<32:=by omega
   have q0:(0:Int)≤q:=by omega
   have q32:(q:Int)<32:=by omega
   have hx64:IntKind.i64.wrap x=x:=IntWalk.i64_in _ (by omega)
   have hy64:IntKind.i64.wrap y=y:=IntWalk.i64_in _ (by omega)
   have hs8:IntKind.i64.wrap (y*256)=256*y:=by rw [IntWalk.i64_in _ (by omega)];omega
   obtain ⟨v,hv⟩:∃v,v=x+256*y:=⟨_,rfl⟩
   have hor:bits .or .i64 x (256*y)=v:=by rw [or16 x y hx hy,hv]
   rw [←hv] at HV
   have HPQ:=hid (And.intro hp (And.intro hq hv))
   clear hp hq fx fy hv
   go_wp2
   go_still_tail 16,(by kernel_rfl)
   change wpList _ _ _ _ _ W1.drew
   have hN1:Arr (W1.drew.setCell ⟨w.heap.size+1+1,k,none⟩ (.int .i64 v)) w.heap.size 0 .u8 bs:=hN.drew.apart _ (.inl (by show w.heap.size+1+1≠w.heap.size;omega))
   have hR1:Arr (W1.drew.setCell ⟨w.heap.size+1+1,k,none⟩ (.int .i64 v)) (w.heap.size+1) 0 .i64 (zeros 16):=hR.drew.apart _ (.inl (by show w.heap.size+1+1≠w.heap.size+1;omega))
   have hD1:Arr (W1.drew.setCell ⟨w.heap.size+1+1,k,none⟩ (.int .i64 v)) (w.heap.size+1+1) 0 .i64 (fillK (dgs bs) (k+1)):=by
    have h:=hD.drew.set k v
    rw [Nat.zero_add,fillK_set _ HV.out] at h;exact h
   have hW1:Below w.heap.size w (W1.drew.setCell ⟨w.heap.size+1+1,k,none⟩ (.int .i64 v)):=hW.drew.setCell (by show w.heap.size≤w.heap.size+1+1;omega) _
   have cz1:W1.drew.cell? ⟨w.heap.size+1+1,k,none⟩=some (.int .i64 z):=cz
   have fz1:W1.drew.frozen? ⟨w.heap.size+1+1,k,none⟩=false:=fz
   clear cz fz cx cy0 hN hR hD hW
   generalize W1.drew=W4 at *
   go_wp2
   go_roundw
   case rel=>exact ⟨k+1,by omega,by go_num,hN1,hR1,hD1,hW1⟩
   case measure=>simp [intOf];omega
  ·have e:k=16:=by omega
   subst e
   have HF:Hid (fillK (dgs bs) 16=dgs bs):=hid (by have:=fillK_end (dgs bs);rw [dgs_length] at this;exact this)
   rw [HF.out] at hD
   have HDL:=hid (dgs_length bs)
   have HOL:=hid (ofL_length bs)
   have HO:Hid (ofL bs=(dgs bs).set 15 ((dgs bs).getD 15 0%32768)):=hid rfl
   generalize hds:dgs bs=ds at *
   have HDS:=hid hds
   clear hds
   obtain ⟨x,cx,fx,HX⟩:=hD.spot (i:=15) (by rw [HDL.out];omega)
   rw [Nat.zero_add] at cx fx
   have HXE:Hid (ds.getD 15 0=x):=hid (by simp [List.getD,HX.out])
   rw [HXE.out] at HO
   have hmk:=mask15 x
   have hD1:=hD.set 15 (x%32768)
   rw [Nat.zero_add,←HO.out] at hD1
   have hR1:=hR.apart (p:=⟨w.heap.size+1+1,15,none⟩) (.int .i64 (x%32768)) (.inl (by show w.heap.size+1+1≠w.heap.size+1;omega))
   have hW1:=hW.setCell (p:=⟨w.heap.size+1+1,15,none⟩) (by show w.heap.size≤w.heap.size+1+1;omega) (.int .i64 (x%32768))
   have hs1:(W1.setCell ⟨w.heap.size+1+1,15,none⟩ (.int .i64 (x%32768))).there (w.heap.size+1) 0 (ints .i64 (ofL bs)).toArray.size:=hR1.room (by rw [zeros_len];exact HOL.out)
   have hR2:=hR1.stored (l':=ofL bs) (by rw [zeros_len];exact HOL.out)
   have hW2:=Below.setCells hW1 (g:=w.heap.size+1) (by omega) 0 (ints .i64 (ofL bs)).toArray.toList
   clear hD hR hW hN
   go_wp2_with (first
    | (with_reducible refine wpList_load_mid (op:=⟨some 31,.load 70 (.tmp 3),_,_,_,_⟩) rfl 70 (.tmp 3) rfl (w.heap.size+1+1) 0 rfl (ints .i64 (ofL bs)) _ (hD1.range) Tryz.underlying70 rfl (l26 HOL.out) ?_)
    | (with_reducible refine wpList_store_mid (op:=⟨none,.store 70 (.tmp 2) (.tmp 31),_,_,_,_⟩) rfl 70 (.tmp 2) (.tmp 31) rfl (w.heap.size+1) 0 (ints .i64 (ofL bs)).toArray rfl rfl hs1 (a26 HOL.out) (ints_all _ _) ?_))
   exact ret_rows rfl (w.heap.size+1) 0 rfl (ints .i64 (ofL bs)) _ hR2.range Tryz.underlying70 rfl (l26 HOL.out) rfl ⟨rfl,hW2⟩
section
set_option maxRecDepth 4000 in
set_option maxHeartbeats 1000000 in
theorem rbytes_walk {A:Option Addr} {cA m:Nat} {a:List Nat} {w:World} (ha:Rp a m) (hA:Nums w .i64 A (nl a)):Calls Tryz.prog 40 #[.slice A 16 cA] w fun e w'=>e=.returned (.agg (ints .u8 (byd (nl a))).toArray)∧Below w.heap.size w w':=by
 obtain ⟨z22,s22⟩:=zero_of_info inf22
 have HA:=hid ha
 have hR:=(Arr.made w .u8 (zeros 32) 22).alloc (.cells (ints .u8 (zeros 32)).toArray 22)
 have hD:=Arr.made (w.alloc (.cells (ints .u8 (zeros 32)).toArray 22)) .u8 (zeros 32) 22
 have hW:=(below_new w (.cells (ints .u8 (zeros 32)).toArray 22)).alloc (by simp) (.cells (ints .u8 (zeros 32)).toArray 22)
 rw [World.size_alloc] at hD
 have hAl:(nl a).length=16:=by rw [nl_length];exact ha.1
 obtain ⟨g,o,rfl,hg,hc⟩:=hA.num (by omega)
 obtain ⟨ds,hds⟩:∃ds,ds=nl a:=⟨_,rfl⟩
 have HD0:Hid (∀i,i<16→∃d:Nat,ds[i]? = some (d:Int)∧d<65536∧ds.getD i 0=d):=hid fun i hi=>by
  refine ⟨a.getD i 0,?_,getD_dig ha.2.1 i,?_⟩
  ·rw [hds];exact nl_at (by rw [ha.1];exact hi)
  ·rw [hds]
   have:=nl_at (l:=a) (i:=i) (by rw [ha.1];exact hi)
   rw [List.getD_eq_getElem?_getD,this];rfl
 rw [←hds] at hA hAl hc ⊢
 have hN:=hA.below hW
 clear ha hc hds hA hAl
 have HZ:Hid (zeros 32=fillK (byd ds) 0):=hid (by rw [fillK_zero,byd_length];rfl)
 rw [HZ.out] at hD
 have HBL:=hid (byd_length ds)
 have HE:Hid (∀i,i<16→(byd ds)[2*i]? = some (ds.getD i 0%256)):=hid fun i h=>byd_even _ h
 have HO:Hid (∀i,i<16→(byd ds)[2*i+1]? = some (ds.getD i 0 / 256%256)):=hid fun i h=>byd_odd _ h
 go_enter Tryz.func40,Tryz.ntmps40
 go_wp2
 go_loopw [4] (fun i wr=>∃k:Nat,k≤16∧i=.int .i64 k∧Nums wr .i64 (some ⟨g,o,none⟩) ds∧Arr wr w.heap.size 0 .u8 (zeros 32)∧Arr wr (w.heap.size+1) 0 .u8 (fillK (byd ds) (2*k))∧Below w.heap.size w wr) (fun i _=>16 - (intOf i).toNat)
 case atStart=>exact ⟨0,by omega,rfl,hN,hR,hD,hW⟩
 case round =>
  clear hN hR hD hW
  obtain ⟨k,hk,rfl,hN,hR,hD,hW⟩:=hrel
  rename World=>W1
  by_cases hlt:k<16
  ·obtain ⟨d,hx,hd,hgd⟩:=HD0.out k hlt
   have hck:W1.cell? ⟨g,o+k,none⟩=some (.int .i64 (d:Int)):=by
    obtain ⟨g2,o2,e2,_,hc⟩:=hN.num (by have:=(List.getElem?_eq_some_iff.1 hx).1;omega)
    injection e2 with e2
    injection e2 with e2 e3
    subst e2 e3
    exact hc k _ hx
   have hv1:=HE.out k hlt
   have hv2:=HO.out k hlt
   rw [hgd] at hv1 hv2
   have HV1:=hid hv1
   have HV2:=hid hv2
   obtain ⟨z,cz,fz,_⟩:=hD.spot (i:=2*k) (by rw [fillK_length,HBL.out];omega)
   obtain ⟨z2,cz2,fz2,_⟩:=hD.spot (i:=2*k+1) (by rw [fillK_length,HBL.out];omega)
   rw [Nat.zero_add] at cz fz cz2 fz2
   clear hv1 hv2 hx hgd
   obtain ⟨p,hp⟩:∃p,p=2*k:=⟨_,rfl⟩
   obtain ⟨q,hq⟩:∃q,q=p+1:=⟨_,rfl⟩
   have hwp:IntKind.i64.wrap (2*(k:Int))=(p:Int):=by rw [IntWalk.i64_in _ (by omega)];omega
   have hwq:IntKind.i64.wrap ((p:Int)+1)=(q:Int):=by rw [IntWalk.i64_in _ (by omega)];omega
   have hwk:IntKind.i64.wrap ((k:Int)+1)=(k:Int)+1:=IntWalk.i64_in _ (by omega)
   rw [←hp] at cz fz cz2 fz2 HV1 HV2 hD
   rw [←hq] at cz2 fz2 HV2
   have k0:(0:Int)≤k:=by omega
   have k16:(k:Int)<16:=by omega
   have p0:(0:Int)≤p:=by omega
   have p32:(p:Int)<32:=by omega
   have q0:(0:Int)≤q:=by omega
   have q32:(q:Int)<32:=by omega
   have pq:p≠q:=by omega
   have HPQ:=hid (And.intro hp hq)
   have hgn:g≠w.heap.size+1:=by omega
   have hm1:IntKind.u8.wrap ((d:Int)%256)=(d:Int)%256:=IntWalk.u8_in _ (by omega)
   have hm2:IntKind.u8.wrap ((d:Int) / 256)=(d:Int) / 256%256:=by rw [IntWalk.u8_in _ (by omega)];omega
   clear hp hq
   have hD1:=(hD.set p ((d:Int)%256)).set q ((d:Int) / 256%256)
   rw [Nat.zero_add,Nat.zero_add,fillK_set _ HV1.out,←HPQ.out.2,fillK_set _ HV2.out,show q+1=2*(k+1) by have:=HPQ.out;omega] at hD1
   go_wp2
   go_roundw
   case rel =>
    refine ⟨k+1,by omega,by go_num,(hN.setOff _ (by show w.heap.size+1≠g;omega)).setOff _ (by show w.heap.size+1≠g;omega),(hR.apart _ (.inl (by show w.heap.size+1≠w.heap.size;omega))).apart _ (.inl (by show w.heap.size+1≠w.heap.size;omega)),hD1,(hW.setCell (by show w.heap.size≤w.heap.size+1;omega) _).setCell (by show w.heap.size≤w.heap.size+1;omega) _⟩
   case measure=>simp [intOf];omega
  ·have e:k=16:=by omega
   subst e
   have HF:Hid (fillK (byd ds) 32=byd ds):=hid (by have:=fillK_end (byd ds);rw [HBL.out] at this;exact this)
   rw [show 2*16=32 from rfl,HF.out] at hD
   have hs1:W1.there w.heap.size 0 (ints .u8 (byd ds)).toArray.size:=hR.room (by rw [zeros_len];exact HBL.out)
   have hR2:=hR.stored (l':=byd ds) (by rw [zeros_len];exact HBL.out)
   have hW2:=Below.setCells hW (g:=w.heap.size) (by omega) 0 (ints .u8 (byd ds)).toArray.toList
   clear hN hR HE HO HD0
   go_wp2_with (first
    | (with_reducible refine wpList_load_mid (op:=⟨some 28,.load 22 (.tmp 3),_,_,_,_⟩) rfl 22 (.tmp 3) rfl (w.heap.size+1) 0 rfl (ints .u8 (byd ds)) _ (hD.range) Tryz.underlying22 rfl (l22 HBL.out) ?_)
    | (with_reducible refine wpList_store_mid (op:=⟨none,.store 22 (.tmp 2) (.tmp 28),_,_,_,_⟩) rfl 22 (.tmp 2) (.tmp 28) rfl w.heap.size 0 (ints .u8 (byd ds)).toArray rfl rfl hs1 (a22 HBL.out) (ints_all _ _) ?_;generalize W1.setCells w.heap.size 0 (ints .u8 (byd ds)).toArray.toList=W5 at *))
   exact ret_rows rfl w.heap.size 0 rfl (ints .u8 (byd ds)) _ hR2.range Tryz.underlying22 rfl (l22 HBL.out) rfl ⟨rfl,hW2⟩
end
def rowA (x:Int) (ys:List Int) (i:Nat) (z:List Int):Nat→List Int
 | 0=>z
 | j+1=>(rowA x ys i z j).set (i+j) ((rowA x ys i z j).getD (i+j) 0+x*ys.getD j 0)
def colA (xs ys:List Int):Nat→List Int
 | 0=>zeros 32
 | i+1=>rowA (xs.getD i 0) ys i (colA xs ys i) 16
def foldL (z:List Int):List Int:=(List.range 16).map fun i=>z.getD i 0+38*z.getD (i+16) 0
def mulL (xs ys:List Int):List Int:=cy (cy (foldL (colA xs ys 16)))
theorem foldL_length (z:List Int):(foldL z).length=16:=by simp [foldL]
theorem foldL_at {z:List Int} {i:Nat} {x y:Int} (h:i<16) (hx:z[i]? = some x) (hy:z[i+16]? = some y):(foldL z)[i]? = some (x+38*y):=by simp [foldL,h,List.getD,hx,hy]
theorem rowA_length (x:Int) (ys:List Int) (i:Nat) (z:List Int) (j:Nat):(rowA x ys i z j).length=z.length:=by
 induction j with
 | zero=>rfl
 | succ j ih=>simp [rowA,ih]
theorem colA_length (xs ys:List Int) (i:Nat):(colA xs ys i).length=32:=by
 induction i with
 | zero=>simp [colA,zeros_len]
 | succ i ih=>simp [colA,rowA_length,ih]
theorem rowA_past (x:Int) (ys:List Int) (i:Nat) (z:List Int) (j k:Nat) (h:i+j≤k):(rowA x ys i z j)[k]? = z[k]? := by
 induction j with
 | zero=>rfl
 | succ j ih=>simp only [rowA];rw [List.getElem?_set_ne (by omega),ih (by omega)]
theorem mul_bd {x y b:Int} (hx : -b≤x∧x≤b) (hy : -b≤y∧y≤b) : -(b*b)≤x*y∧x*y≤b*b:=by
 have hb:0≤b:=by omega
 have h:=Int.natAbs_mul x y
 have h1:x.natAbs≤b.natAbs:=by omega
 have h2:y.natAbs≤b.natAbs:=by omega
 have h3:=Nat.mul_le_mul h1 h2
 have h4:((b.natAbs*b.natAbs:Nat):Int)=b*b:=by rw [Int.natCast_mul,Int.natAbs_of_nonneg hb]
 omega
theorem rowA_bd (x:Int) (ys:List Int) (i:Nat) (z:List Int) (B:Int) (hz:Bd B z) (hx : -70000≤x∧x≤70000) (hy:Bd 70000 ys) (hl:ys.length=16) (j:Nat) (hj:j≤16):Bd (B+4900000000) (rowA x ys i z j):=by
 induction j with
 | zero=>exact fun v hv=>by have:=hz v hv;omega
 | succ j ih =>
   simp only [rowA]
   intro v hv
   rcases List.mem_or_eq_of_mem_set hv with h1|h1
   ·exact ih (by omega) v h1
   ·have hyj:=hy.at_ (getD_some (l:=ys) (i:=j) (by omega))
    have hp:=mul_bd hx hyj
    by_cases hk:i+j<z.length
    ·have h0:=hz.at_ (getD_some (l:=z) (i:=i+j) hk)
     have e:(rowA x ys i z j).getD (i+j) 0=z.getD (i+j) 0:=by simp only [List.getD,rowA_past x ys i z j (i+j) (by omega)]
     rw [e] at h1
     omega
    ·rw [List.set_eq_of_length_le (by rw [rowA_length];omega)] at hv
     exact ih (by omega) v hv
theorem colA_bd (xs ys:List Int) (hx:Bd 70000 xs) (hy:Bd 70000 ys) (hl:xs.length=16) (hl2:ys.length=16) (i:Nat) (hi:i≤16):Bd (4900000000*i) (colA xs ys i):=by
 induction i with
 | zero=>exact fun v hv=>by have:=List.eq_of_mem_replicate hv;omega
 | succ i ih =>
   have h:=rowA_bd (xs.getD i 0) ys i (colA xs ys i) _ (ih (by omega)) (hx.at_ (getD_some (by omega))) hy hl2 16 (by omega)
   intro v hv
   have:=h v hv
   omega
theorem foldL_bd (z:List Int) (hz:Bd 80000000000 z) (hl:z.length=32):Bd 4000000000000 (foldL z):=fun v hv=>by
 obtain ⟨i,hi⟩:=List.getElem?_of_mem hv
 have h16:=(List.getElem?_eq_some_iff.1 hi).1
 rw [foldL_length] at h16
 have hx:=getD_some (l:=z) (i:=i) (by omega)
 have hy:=getD_some (l:=z) (i:=i+16) (by omega)
 rw [foldL_at h16 hx hy] at hi
 injection hi with hi
 have h1:=hz.at_ hx
 have h2:=hz.at_ hy
 omega
theorem rowA_ev (x:Int) (ys:List Int) (i:Nat) (z:List Int) (j:Nat) (hj:j≤ys.length) (hz:i+j≤z.length):ev (rowA x ys i z j)=ev z+x*ev (ys.take j)*65536^i:=by
 induction j with
 | zero=>simp [rowA,ev]
 | succ j ih =>
   have h1:=ih (by omega) (by omega)
   simp only [rowA]
   rw [ev_set _ _ _ _ (getD_some (by rw [rowA_length];omega)),h1]
   have e:ev (ys.take (j+1))=ev (ys.take j)+ys.getD j 0*65536^j:=by
    have hj2:=getD_some (l:=ys) (i:=j) (by omega)
    rw [List.take_add_one,hj2,ev_append]
    simp only [Option.toList_some,ev,List.length_take]
    rw [show min j ys.length=j by omega]
    simp only [Int.mul_zero,Int.add_zero]
    rw [Int.mul_comm (ys.getD j 0)]
   rw [e,Int.pow_add]
   have e2:(rowA x ys i z j).getD (i+j) 0+x*ys.getD j 0 - (rowA x ys i z j).getD (i+j) 0=x*ys.getD j 0:=by omega
   rw [e2,Int.mul_add,Int.add_mul]
   have e3:x*ys.getD j 0*(65536^i*65536^j)=x*(ys.getD j 0*65536^j)*65536^i:=by
    rw [←Int.mul_assoc x,Int.mul_assoc (x*ys.getD j 0),Int.mul_comm (65536^i)]
   rw [e3];omega
theorem take_ev (xs:List Int) (i:Nat) (h:i<xs.length):ev (xs.take (i+1))=ev (xs.take i)+xs.getD i 0*65536^i:=by
 rw [List.take_add_one,getD_some h,ev_append]
 simp only [Option.toList_some,ev,List.length_take]
 rw [show min i xs.length=i by omega]
 simp only [Int.mul_zero,Int.add_zero]
 rw [Int.mul_comm (xs.getD i 0)]
theorem ev_zeros (n:Nat):ev (zeros n)=0:=by
 induction n with
 | zero=>rfl
 | succ n ih=>simp only [zeros,List.replicate_succ,ev] at ih ⊢;rw [ih];rfl
theorem colA_ev (xs ys:List Int) (hl:xs.length=16) (hl2:ys.length=16) (i:Nat) (hi:i≤16):ev (colA xs ys i)=ev (xs.take i)*ev ys:=by
 induction i with
 | zero=>simp [colA,ev_zeros,ev]
 | succ i ih =>
   have h1:=rowA_ev (xs.getD i 0) ys i (colA xs ys i) 16 (by omega) (by rw [colA_length];omega)
   rw [List.take_of_length_le (i:=16) (l:=ys) (by omega)] at h1
   refine Eq.trans (show ev (colA xs ys (i+1))=_ from h1) ?_
   rw [ih (by omega),take_ev xs i (by omega),Int.add_mul]
   rw [Int.mul_assoc (xs.getD i 0),Int.mul_assoc (xs.getD i 0),Int.mul_comm (ev ys)]
theorem ev_zip (n:Nat) (c:Int):∀(a b d:List Int),a.length=n→b.length=n→d.length=n→(∀(i:Nat) (x y:Int),a[i]? = some x→b[i]? = some y→d[i]? = some (x+c*y))→ev d=ev a+c*ev b:=by
 induction n with
 | zero =>
   intro a b d h1 h2 h3 _
   obtain rfl:=List.length_eq_zero_iff.1 h1
   obtain rfl:=List.length_eq_zero_iff.1 h2
   obtain rfl:=List.length_eq_zero_iff.1 h3
   simp [ev]
 | succ n ih =>
   intro a b d h1 h2 h3 h
   match a,b,d,h1,h2,h3 with
   | x::a,y::b,z::d,h1,h2,h3 =>
     have h0:=h 0 x y rfl rfl
     simp at h0
     have hr:=ih a b d (by simpa using h1) (by simpa using h2) (by simpa using h3) (fun i u v hu hv=>by simpa using h (i+1) u v (by simpa using hu) (by simpa using hv))
     simp only [ev,hr,h0,Int.mul_add]
     rw [←Int.mul_assoc,←Int.mul_assoc,Int.mul_comm c 65536]
     omega
theorem foldL_ev (z:List Int) (hl:z.length=32):ev (foldL z)=ev (z.take 16)+38*ev (z.drop 16) :=
 ev_zip 16 38 _ _ _ (by simp;omega) (by simp;omega) (foldL_length z) (fun i x y hx hy=>by
  have hi:i<16:=by
   have:=(List.getElem?_eq_some_iff.1 hx).1
   simp at this;omega
  refine foldL_at hi ?_ ?_
  ·rw [List.getElem?_take,if_pos hi] at hx;exact hx
  ·rw [List.getElem?_drop,Nat.add_comm] at hy;exact hy)
end Go.Proofs.YtkblmdakejmmhaaGreatDoor
