import Derived.Test.YtkblmdakejmmhaaGreatDoorG8
namespace Go.Proofs.YtkblmdakejmmhaaGreatDoor
open Go Go.RowKit
theorem Arr.grew {w w':World} {k:IntKind} {b o:Nat} {xs:List Int} {v v':Value} (h:Arr w b o k xs) (hG:Grew w w' v v') (hne:v.ownBlock≠some b) (hb:b<w.heap.size):Arr w' b o k xs :=
 h.same (hG.1.block b hb (fun e=>hne e.symm))
set_option maxRecDepth 4000 in
set_option maxHeartbeats 1000000 in
theorem rdigits_walk {bs:List Int} {w:World} (hl:bs.length=32) (hb:Byt bs):Calls Tryz.prog 65 #[.agg (ints .u8 bs).toArray] w fun e w'=>∃g c,e=.returned (.slice (some ⟨g,0,none⟩) 16 c)∧Owns w' w.heap.size 3 .i64 (.slice (some ⟨g,0,none⟩) 16 c) (dgs bs)∧Below w.heap.size w w':=by
 have HL:=hid hl
 have HB:=hid hb
 have hN:=Arr.made w .u8 bs 22
 have hW:=below_new w (.cells (ints .u8 bs).toArray 22)
 clear hl hb
 go_enter Tryz.func65,Tryz.ntmps65
 go_wp2
 generalize w.alloc (.cells (ints .u8 bs).toArray 22)=W0 at *
 go_loopw [3,4] (fun v i wr=>∃(k:Nat) (R:Option Addr) (n c:Nat),k≤16∧v=.slice R n c∧i=.int .i64 ((2*k:Nat):Int)∧Owns wr w.heap.size 3 .i64 (.slice R n c) ((dgs bs).take k)∧Hid ((Value.slice R n c).ownBlock≠some w.heap.size)∧Arr wr w.heap.size 0 .u8 bs∧Below w.heap.size w wr) (fun _ i _=>32 - (intOf i).toNat)
 case atStart=>exact ⟨0,none,0,0,Nat.zero_le _,rfl,rfl,Owns.none_ _ _ _ _,hid (by intro e;cases e),hN,hW⟩
 case round =>
  clear hN hW
  obtain ⟨k,R,n,c,hk,rfl,rfl,hO,HF,hN,hW⟩:=hrel
  rename World=>W1
  have hsz:=hW.size
  by_cases hlt:k<16
  ·obtain ⟨x,cx,fx,HX⟩:=hN.spot (i:=2*k) (by rw [HL.out];omega)
   obtain ⟨y,cy0,fy,HY⟩:=hN.spot (i:=2*k+1) (by rw [HL.out];omega)
   rw [Nat.zero_add] at cx cy0
   have hx:=HB.out.at_ HX.out
   have hy:=HB.out.at_ HY.out
   have HV:Hid ((dgs bs)[k]? = some (x+256*y)):=hid (by rw [dgs_at bs hlt];simp [List.getD,HX.out,HY.out])
   have HT:Hid ((dgs bs).take (k+1)=(dgs bs).take k++[x+256*y]):=hid (by rw [List.take_add_one,HV.out];rfl)
   have HTL:Hid (((dgs bs).take k).length≤16):=hid (by rw [List.length_take,dgs_length];omega)
   have hlb:=hN.lt (by rw [HL.out];omega)
   obtain ⟨p,hp⟩:∃p,p=2*k:=⟨_,rfl⟩
   obtain ⟨q,hq⟩:∃q,q=2*k+1:=⟨_,rfl⟩
   have hwq:IntKind.i64.wrap ((p:Int)+1)=(q:Int):=by rw [IntWalk.i64_in _ (by omega)];omega
   have hw2:IntKind.i64.wrap ((p:Int)+2)=((2*(k+1):Nat):Int):=by rw [IntWalk.i64_in _ (by omega)];omega
   rw [←hp] at cx ⊢
   rw [←hq] at cy0
   have p0:(0:Int)≤p:=by omega
   have p32:(p:Int)<32:=by omega
   have q0:(0:Int)≤q:=by omega
   have q32:(q:Int)<32:=by omega
   have hx64:IntKind.i64.wrap x=x:=IntWalk.i64_in _ (by omega)
   have hy64:IntKind.i64.wrap y=y:=IntWalk.i64_in _ (by omega)
   have hs8:IntKind.i64.wrap (256*y)=256*y:=by rw [IntWalk.i64_in _ (by omega)]
   have hsv:IntKind.i64.wrap (x+256*y)=x+256*y:=by rw [IntWalk.i64_in _ (by omega)]
   have HPQ:=hid (And.intro hp hq)
   clear hp hq fx fy
   go_wp2
   refine region_quiet_tail_one 12 (fun w'=>∃j,w'=W1.drewN j) (.slice R n c) (by kernel_rfl) (by kernel_rfl) (by kernel_rfl) (fun _ _ _ h=>h) (Or.inl ⟨rfl,fun w=>by go_simp⟩) ⟨1,rfl⟩ ?_
   simp only [List.take_succ_cons,List.take_zero,List.drop_succ_cons,List.drop_zero,Nat.reduceSub]
   go_simp
   repeat (quiet_step (fail))
   refine wpQuiet_nil ?_
   intro nq
   have hOd:=hO.drewN nq
   have hNd:Arr (W1.drewN nq) w.heap.size 0 .u8 bs:=hN
   have hWd:Below w.heap.size w (W1.drewN nq):=below_drewN hW nq
   have hlb2:w.heap.size<(W1.drewN nq).heap.size:=hlb
   clear cx cy0 hO hN hW hsz hlb
   generalize W1.drewN nq=W4 at *
   have hsz:=hWd.size
   have hW5:∀A' n' c' w2,Grew W4 w2 (Value.slice R n c) (Value.slice A' n' c')→Below w.heap.size w w2:=fun A' n' c' w2 hG=>hWd.trans (hG.below hsz (fun g hg=>(hOd.lt g hg).1))
   have HW5:=hid hW5
   clear hW5
   go_wp2_with (at_builtin;refine app_oneG rfl (.tmp 9) (.tmp 21) 60 rfl w.heap.size 3 .i64 8 Tryz.underlying60 Tryz.info3 (by omega) R n c ((dgs bs).take k) rfl hOd _ 1 rfl (by have:=HTL.out;omega) hsz ?_;intro A' n' c' w2 hO2 hG2)
   go_roundw
   case rel =>
    rw [←HT.out] at hO2
    exact ⟨k+1,A',n',c',by omega,rfl,by congr 1,hO2,hid (hG2.far HF.out hlb2),Arr.grew hNd hG2 HF.out hlb2,HW5.out _ _ _ _ hG2⟩
   case measure=>simp [intOf];have:=HPQ.out.1;omega
  ·have e:k=16:=by omega
   subst e
   have hf:(dgs bs).take 16=dgs bs:=List.take_of_length_le (by rw [dgs_length];omega)
   rw [hf] at hO
   have hm:=hO.len
   rw [dgs_length] at hm
   subst hm
   obtain ⟨g,rfl,_⟩:=hO.block (by rw [dgs_length];omega)
   clear hf
   go_wp2
   go_ret
   exact ⟨g,c,rfl,hO,hW⟩
theorem dg_nat {l:List Int} (h:Dg l):∃a:List Nat,nl a=l∧Rp a (ev l).toNat:=by
 have h1:nl (l.map Int.toNat)=l:=by
  unfold nl
  rw [List.map_map]
  conv=>rhs;rw [←List.map_id l]
  refine List.map_congr_left fun x hx=>?_
  have:=h.all x hx
  simp;omega
 refine ⟨l.map Int.toNat,h1,by rw [List.length_map];exact h.1,fun v hv=>?_,?_⟩
 ·obtain ⟨x,hx,rfl⟩:=List.mem_map.1 hv
  have:=h.all x hx
  omega
 ·have h2:=ev_nl (l.map Int.toNat)
  rw [h1] at h2
  rw [h2];simp
set_option maxRecDepth 4000 in
set_option maxHeartbeats 1000000 in
theorem rof_walk {bs:List Int} {w:World} (hl:bs.length=32) (hb:Byt bs):Calls Tryz.prog 34 #[.agg (ints .u8 bs).toArray] w (ROut ((ev (ofL bs)).toNat%NT.PN) w):=by
 obtain ⟨a,ha,hr⟩:=dg_nat (ofL_dg hb)
 have HL:=hid hl
 have HB:=hid hb
 have HA:=hid ha
 have HR:=hid hr
 have hN:=Arr.made w .u8 bs 22
 have hW:=below_new w (.cells (ints .u8 bs).toArray 22)
 clear hl hb ha hr
 go_enter Tryz.func34,Tryz.ntmps34
 go_wp2_with (with_reducible refine wpList_load_mid (op:=⟨some 4,.load 22 (.tmp 1),_,_,_,_⟩) rfl 22 (.tmp 1) rfl w.heap.size 0 rfl (ints .u8 bs) _ (hN.range) Tryz.underlying22 rfl (l22 HL.out) ?_)
 generalize w.alloc (.cells (ints .u8 bs).toArray 22)=W0 at *
 refine (rdigits_walk HL.out HB.out).mono ?_
 rintro e w1 ⟨g,c,rfl,hO,hb1⟩
 have hb2:=hW.trans (hb1.mono hW.size)
 have hg:=(hO.lt g rfl).1
 have hsz:=hW.size
 clear hN
 have HO:Hid (ofL bs=(dgs bs).set 15 ((dgs bs).getD 15 0%32768)):=hid rfl
 obtain ⟨x,cx,fx,HX⟩:=hO.spot (j:=15) (by rw [dgs_length];omega)
 have HXE:Hid ((dgs bs).getD 15 0=x):=hid (by rw [List.getD_eq_getElem?_getD,HX.out];rfl)
 rw [HXE.out] at HO
 have hx:0≤x:=by
  have h1:=dgs_at bs (i:=15) (by omega)
  have h2:=byt_getD HB.out (2*15)
  have h3:=byt_getD HB.out (2*15+1)
  have h4:=HX.out
  rw [h1] at h4
  have h5:=Option.some.inj h4
  omega
 have hO2:=hO.store 15 (x%32768)
 rw [←HO.out,←HA.out] at hO2
 have hb3:=hb2.setCell (p:=⟨g,15,none⟩) (by show w.heap.size≤g;omega) (.int .i64 (x%32768))
 have HO2:=hid (hO2.nums)
 have HB3:=hid hb3
 clear hO hO2 hb1 hb2 hb3 hW
 go_wp2_with (fail)
 refine (rmod_out _ _ 16 _ a _ HR.out.1 (by omega) (by omega) HR.out.2.1 HO2.out HR.out.2.2).mono ?_
 rintro e3 w3 ⟨A3,c3,ys3,rfl,HY3,hN3,hb3⟩
 have hb4:=HB3.out.trans (hb3.mono HB3.out.size)
 have hN4:=hN3.less HB3.out.size
 go_wp2
 go_ret
 exact ROut.mk HY3.out hN4 hb4
theorem num_cell {w:World} {k:IntKind} {g o:Nat} {xs:List Int} {i:Nat} {x:Int} (h:Nums w k (some ⟨g,o,none⟩) xs) (hx:xs[i]? = some x):w.cell? ⟨g,o+i,none⟩=some (.int k x):=by
 obtain ⟨hi,hxe⟩:=List.getElem?_eq_some_iff.1 hx
 obtain ⟨b,off,e,_,hc⟩:=h (by omega)
 injection e with e
 injection e with e1 e2
 subst e1 e2
 have:=hc i hi
 rw [this]
 simp [List.getD,hx]
theorem e64 (T:Nat) (h:T<4294967296):Value.int .i64 (wrap64 ((T:Int) / 65536))=Value.int .i64 ((T / 65536:Nat):Int):=by
 congr 1
 unfold wrap64
 omega
set_option maxRecDepth 4000 in
set_option maxHeartbeats 1000000 in
theorem rmul_core (gx ox cx gy oy cy:Nat) (x y:List Nat) (w:World) (lx:8≤x.length∧x.length≤20) (ly:8≤y.length∧y.length≤20) (hx:Digs x) (hy:Digs y) (hX:Nums w .i64 (some ⟨gx,ox,none⟩) (nl x)) (hY:Nums w .i64 (some ⟨gy,oy,none⟩) (nl y)) :
 Calls Tryz.prog 38 #[.slice (some ⟨gx,ox,none⟩) x.length cx,.slice (some ⟨gy,oy,none⟩) y.length cy] w (ROut (dv x*dv y%NT.PN) w):=by
 have HG:Hid (gx<w.heap.size∧gy<w.heap.size):=hid ⟨hX.lt0 (by rw [nl_length];omega),hY.lt0 (by rw [nl_length];omega)⟩
 have HX:=hid hx
 have HY:=hid hy
 clear hx hy
 have hs:IntKind.i64.wrap ((x.length:Int)+y.length)=((x.length+y.length:Nat):Int):=by rw [IntWalk.i64_in _ (by omega)];omega
 go_enter Tryz.func38,Tryz.ntmps38
 have hmk:∀w:World,(Instr.makeSlice 60 (.int .i64 ((x.length:Int)+y.length)) (.int .i64 ((x.length:Int)+y.length))).run Tryz.prog w=.ok (.slice (some ⟨w.heap.size,0,none⟩) (x.length+y.length) (x.length+y.length)) (w.alloc (.cells (ints .i64 (nl (colD x y 0))).toArray 3)):=fun w=>by
  have:=make28 (x.length+y.length) (by omega) w
  rw [←Int.natCast_add]
  exact this
 go_wp2
 have hB:=below_new w (.cells (ints .i64 (nl (colD x y 0))).toArray 3)
 have hZ:=Arr.made w .i64 (nl (colD x y 0)) 3
 have hX1:=hX.below hB
 have hY1:=hY.below hB
 generalize w.alloc (.cells (ints .i64 (nl (colD x y 0))).toArray 3)=W0 at *
 clear hX hY hmk hs
 go_loopw [6] (fun i wr=>∃k:Nat,k≤x.length∧i=.int .i64 k∧Below w.heap.size w wr∧Nums wr .i64 (some ⟨gx,ox,none⟩) (nl x)∧Nums wr .i64 (some ⟨gy,oy,none⟩) (nl y)∧Arr wr w.heap.size 0 .i64 (nl (colD x y k))∧Hid (gx<w.heap.size∧gy<w.heap.size)) (fun i _=>x.length - (intOf i).toNat)
 case atStart=>exact ⟨0,by omega,rfl,hB,hX1,hY1,hZ,HG⟩
 case round =>
  clear hB hZ hX1 hY1
  obtain ⟨k,hk,rfl,hB,hX,hY,hZ,HG⟩:=hrel
  by_cases hlt:k<x.length
  ·have HXA:Hid ((nl x)[k]? = some ((x.getD k 0:Nat):Int)):=hid (nl_at hlt)
   have HXi:Hid (x.getD k 0<65536):=hid (getD_dig HX.out k)
   have HZL:=hid (colD_length x y k)
   have HZW:=hid (colD_digs x y HX.out HY.out k)
   have HCN:Hid (colD x y (k+1)=(rowD (x.getD k 0) y k (colD x y k) y.length).1.set (k+y.length) ((rowD (x.getD k 0) y k (colD x y k) y.length).1.getD (k+y.length) 0+(rowD (x.getD k 0) y k (colD x y k) y.length).2)):=hid rfl
   have HCP:Hid ((rowD (x.getD k 0) y k (colD x y k) y.length).1.getD (k+y.length) 0=0):=hid (by rw [rowD_past _ _ _ _ _ _ (Nat.le_refl _),colD_past _ _ _ _ (Nat.le_refl _)])
   generalize colD x y k=z at *
   generalize x.getD k 0=xi at *
   have hZ0:Arr wr w.heap.size 0 .i64 (nl (rowD xi y k z 0).1):=hZ
   clear hZ
   have k0:(0:Int)≤k:=by omega
   have k4:(k:Int)<x.length:=by omega
   rename World=>W1
   go_wp2
   go_loopw [7,8] (fun c j wr=>∃m:Nat,m≤y.length∧j=.int .i64 m∧c=.int .i64 ((rowD xi y k z m).2:Nat)∧Below w.heap.size w wr∧Nums wr .i64 (some ⟨gx,ox,none⟩) (nl x)∧Nums wr .i64 (some ⟨gy,oy,none⟩) (nl y)∧Arr wr w.heap.size 0 .i64 (nl (rowD xi y k z m).1)) (fun _ j _=>y.length - (intOf j).toNat)
   case atStart=>exact ⟨0,by omega,rfl,rfl,hB,hX,hY,hZ0⟩
   case round =>
    clear hB hX hY hZ0
    obtain ⟨m,hm,rfl,rfl,hB,hX,hY,hZ⟩:=hrel
    by_cases hlt2:m<y.length
    ·rename World=>W2
     have HYM:Hid (y.getD m 0<65536):=hid (getD_dig HY.out m)
     have cx:=num_cell hX HXA.out
     have cy:=num_cell hY (nl_at hlt2)
     have HRN:Hid (rowD xi y k z (m+1)=stepD xi (y.getD m 0) (k+m) (rowD xi y k z m)):=hid rfl
     have HRL:=hid (rowD_length xi y k z m)
     have HRW:=hid (rowD_digsL xi y k z HXi.out HY.out HZW.out m)
     generalize y.getD m 0=yj at *
     generalize rowD xi y k z m=st at *
     rcases st with ⟨zz,cc⟩
     dsimp only at *
     have hzz:k+m<zz.length:=by rw [HRL.out,HZL.out];omega
     have cz:=hZ.at_ (i:=k+m) (nl_at hzz)
     have fz:=hZ.free (i:=k+m) (by rw [nl_length];exact hzz)
     rw [Nat.zero_add] at cz fz
     have HP:Hid (zz.getD (k+m) 0<65536):=hid (getD_dig HRW.out.1 _)
     have HS:Hid (stepD xi yj (k+m) (zz,cc)=(zz.set (k+m) ((xi*yj+cc+zz.getD (k+m) 0)%65536),(xi*yj+cc+zz.getD (k+m) 0) / 65536)):=hid rfl
     generalize zz.getD (k+m) 0=q at *
     have HC:Hid (cc<65536):=hid HRW.out.2
     have HT:Hid (xi*yj≤4294836225):=hid (Nat.mul_le_mul (Nat.le_pred_of_lt HXi.out) (Nat.le_pred_of_lt HYM.out))
     have w1:IntKind.i64.wrap ((xi:Int)*yj)=((xi*yj:Nat):Int):=by have:=HT.out;rw [IntWalk.i64_in _ (by omega)];omega
     generalize xi*yj=P at *
     have w2:IntKind.i64.wrap ((q:Int)+P)=((q+P:Nat):Int):=by rw [IntWalk.i64_in _ (by have:=HT.out;have:=HP.out;omega)];omega
     have hT1:Hid (q+P<4294967296):=hid (by have:=HT.out;have:=HP.out;omega)
     have w3:IntKind.i64.wrap (((q+P:Nat):Int)+cc)=((P+cc+q:Nat):Int):=by rw [IntWalk.i64_in _ (by have:=HT.out;have:=HP.out;have:=HC.out;omega)];omega
     have HQ:Hid (P+cc+q<4294967296):=hid (by have:=HT.out;have:=HP.out;have:=HC.out;omega)
     generalize q+P=q1 at *
     generalize P+cc+q=T at *
     have HE:Hid (rowD xi y k z (m+1)=(zz.set (k+m) (T%65536),T / 65536)):=hid (by rw [HRN.out,HS.out])
     have hT0:(0:Int)≤T:=by omega
     have km0:(0:Int)≤(k:Int)+m:=by omega
     have kmw:IntKind.i64.wrap ((k:Int)+m)=(k:Int)+m:=IntWalk.i64_in _ (by omega)
     have kmn:((k:Int)+m).toNat=k+m:=by omega
     have kml:(k:Int)+m<(x.length:Int)+y.length:=by omega
     have m0:(0:Int)≤m:=by omega
     have m4:(m:Int)<y.length:=by omega
     go_wp2
     go_quiet (fail)
     replace hX:=hX.drewN nq
     replace hY:=hY.drewN nq
     replace hZ:=hZ.drewN nq
     replace hB:=below_drewN hB nq
     replace cz:(W2.drewN nq).cell? _=_:=cz
     replace fz:(W2.drewN nq).frozen? _=_:=fz
     clear cx cy
     generalize W2.drewN nq=W3 at *
     go_wp2
     go_roundw
     case rel =>
      refine ⟨m+1,by omega,by go_num,by rw [HE.out,e64 T HQ.out],hB.setCell (by simp) _,hX.setOff _ (by show w.heap.size≠gx;have:=HG.out;omega),hY.setOff _ (by show w.heap.size≠gy;have:=HG.out;omega),?_⟩
      have h:=hZ.set (k+m) ((T%65536:Nat):Int)
      rw [nl_set,Nat.zero_add] at h
      rw [HE.out]
      exact h
     case measure=>simp [intOf];omega
    ·have e:m=y.length:=by omega
     subst e
     have HRL:=hid (rowD_length xi y k z y.length)
     have HRW:=hid (rowD_digsL xi y k z HXi.out HY.out HZW.out y.length)
     rw [HCP.out,Nat.zero_add] at HCN
     generalize rowD xi y k z y.length=st at *
     rcases st with ⟨zz,cc⟩
     dsimp only at *
     have hzz:k+y.length<zz.length:=by rw [HRL.out,HZL.out];omega
     have cz:=hZ.at_ (i:=k+y.length) (nl_at hzz)
     have fz:=hZ.free (i:=k+y.length) (by rw [nl_length];exact hzz)
     rw [HCP.out] at cz
     rw [Nat.zero_add] at cz fz
     have kmw:IntKind.i64.wrap ((k:Int)+y.length)=(k:Int)+y.length:=IntWalk.i64_in _ (by omega)
     have kmn:((k:Int)+y.length).toNat=k+y.length:=by omega
     have km0:(0:Int)≤(k:Int)+y.length:=by omega
     have kml:(k:Int)+y.length<(x.length:Int)+y.length:=by omega
     have hcw:IntKind.i64.wrap (cc:Int)=cc:=IntWalk.i64_in _ (by have:=HRW.out.2;omega)
     clear hlt2
     go_wp2
     go_roundw
     case rel =>
      refine ⟨k+1,by omega,by go_num,hB.setCell (by simp) _,hX.setOff _ (by show w.heap.size≠gx;have:=HG.out;omega),hY.setOff _ (by show w.heap.size≠gy;have:=HG.out;omega),?_,HG⟩
      have h:=hZ.set (k+y.length) ((cc:Nat):Int)
      rw [nl_set,Nat.zero_add] at h
      rw [HCN.out]
      exact h
     case measure=>simp [intOf];omega
  ·have e:k=x.length:=by omega
   subst e
   have HM:Hid (Digs (digs x y)∧(digs x y).length=x.length+y.length∧dv (digs x y)=dv x*dv y):=hid ⟨digs_digs x y HX.out HY.out,digs_length x y,digs_dv x y⟩
   have hNZ:Nums wr .i64 (some ⟨w.heap.size,0,none⟩) (nl (digs x y)):=hZ.nums
   clear hX hY hZ
   go_wp2_with (fail)
   refine (rmod_out _ _ (x.length+y.length) _ (digs x y) _ HM.out.2.1 (by omega) (by omega) HM.out.1 hNZ HM.out.2.2).mono ?_
   rintro e3 w3 ⟨A3,c3,ys3,rfl,HY3,hN3,hb3⟩
   have hb4:=hB.trans (hb3.mono hB.size)
   have hN4:=hN3.less hB.size
   go_wp2
   go_ret
   exact ROut.mk HY3.out hN4 hb4
theorem rmul_walk {A B:Option Addr} {cA cB m n:Nat} {a b:List Nat} {w:World} (ha:Rp a m) (hb:Rp b n) (hA:Nums w .i64 A (nl a)) (hB:Nums w .i64 B (nl b)):Calls Tryz.prog 38 #[.slice A 16 cA,.slice B 16 cB] w (ROut (m*n%NT.PN) w):=by
 obtain ⟨g,o,rfl,_,_⟩:=hA.num (by rw [nl_length,ha.1];omega)
 obtain ⟨g2,o2,rfl,_,_⟩:=hB.num (by rw [nl_length,hb.1];omega)
 have h:=rmul_core g o cA g2 o2 cB a b w (by rw [ha.1];omega) (by rw [hb.1];omega) ha.2.1 hb.2.1 hA hB
 rw [ha.1,hb.1,ha.2.2,hb.2.2] at h
 exact h
theorem pow_sq (m t M:Nat):(m^2^t%M)*(m^2^t%M)%M=m^2^(t+1)%M:=by
 rw [←Nat.mul_mod,←Nat.pow_add,Nat.pow_succ]
 congr 2;omega
theorem pow_bit1 {m N t M:Nat} (h:N / 2^t%2=1):(m^(N%2^t)%M)*(m^2^t%M)%M=m^(N%2^(t+1))%M:=by
 rw [←Nat.mul_mod,←Nat.pow_add,Nat.mod_pow_succ,h,Nat.mul_one]
theorem pow_bit0 {m N t:Nat} (h:N / 2^t%2=0):m^(N%2^(t+1))=m^(N%2^t):=by
 rw [Nat.mod_pow_succ,h,Nat.mul_zero,Nat.add_zero]
theorem byte_bit {bs:List Int} (hb:Byt bs) (i k x:Nat) (hk:k<8) (hx:bs[i]? = some (x:Int)):(bv bs).toNat / 2^(8*i+k)%2=x / 2^k%2:=by
 have h1:=bit_eq bs hb (8*i+k)
 unfold bitAt at h1
 have e1:(8*i+k) / 8=i:=by omega
 have e2:(8*i+k)%8=k:=by omega
 rw [e1,e2] at h1
 have e3:bs.getD i 0=x:=by rw [List.getD_eq_getElem?_getD,hx];rfl
 rw [e3] at h1
 have h0:=(bv_bd bs hb).1
 obtain ⟨N,hN⟩:=Int.eq_ofNat_of_zero_le h0
 rw [hN] at h1 ⊢
 have h2:((2:Int)^k)=((2^k:Nat):Int):=by simp
 have h3:((2:Int)^(8*i+k))=((2^(8*i+k):Nat):Int):=by simp
 rw [h2,h3] at h1
 have t:((N:Int)).toNat=N:=by omega
 rw [t]
 generalize 2^(8*i+k)=P at *
 generalize 2^k=q at *
 have e4:((x / q%2:Nat):Int)=(x:Int) / (q:Int)%2:=by simp
 have e5:((N / P%2:Nat):Int)=(N:Int) / (P:Int)%2:=by simp
 omega
theorem bv_lt {bs:List Int} (hb:Byt bs) (hl:bs.length=32):(bv bs).toNat%2^256=(bv bs).toNat:=by
 have h:=bv_bd bs hb
 rw [hl,pow256] at h
 apply Nat.mod_eq_of_lt
 have e:((2:Int)^(8*32))=((2^256:Nat):Int):=by decide
 rw [e] at h
 generalize 2^256=P at *
 omega
set_option maxRecDepth 4000 in
set_option maxHeartbeats 1000000 in
theorem rpower_walk {A:Option Addr} {cA m:Nat} {a:List Nat} {bs:List Int} {w:World} (ha:Rp a m) (hm:m<NT.PN) (hl:bs.length=32) (hbb:Byt bs) (hA:Nums w .i64 A (nl a)) :
 Calls Tryz.prog 39 #[.slice A 16 cA,.agg (ints .u8 bs).toArray] w (ROut (m^(bv bs).toNat%NT.PN) w):=by
 have HL:=hid hl
 have HB:=hid hbb
 have ha0:Rp a (m^2^0%NT.PN):=by rw [Nat.pow_zero,Nat.pow_one,Nat.mod_eq_of_lt hm];exact ha
 have HA:=hid ha0
 have h10:m^((bv bs).toNat%2^0)%NT.PN=1:=by rw [Nat.pow_zero,Nat.mod_one,Nat.pow_zero];decide
 have H10:=hid h10
 have HFIN:Hid (m^((bv bs).toNat%2^256)%NT.PN=m^(bv bs).toNat%NT.PN):=hid (by rw [bv_lt hbb hl])
 have HBIT:Hid (∀i k x:Nat,k<8→bs[i]? = some (x:Int)→(bv bs).toNat / 2^(8*i+k)%2=x / 2^k%2):=hid fun i k x=>byte_bit hbb i k x
 have hN:=Arr.made w .u8 bs 22
 have hW:=below_new w (.cells (ints .u8 bs).toArray 22)
 clear ha ha0 hl hbb hm h10
 rw [←HFIN.out]
 generalize (bv bs).toNat=N at *
 clear HFIN
 have c1:∀w:World,Calls Tryz.prog 35 #[.int .i64 1] w (ROut 1 w):=fun w=>rsmall_out 1 (by omega) w
 have C1:=hid c1
 clear c1
 go_enter Tryz.func39,Tryz.ntmps39
 go_wp2_with (fail)
 generalize w.alloc (.cells (ints .u8 bs).toArray 22)=W0 at *
 refine (C1.out _).mono ?_
 rintro e w1 ⟨B,cB,q,rfl,HQ,hQ,hb1⟩
 rw [←H10.out] at HQ
 have hA1:=(hA.below hW).below hb1
 have hQ1:=hQ.less hW.size
 have hN1:=hN.below hb1 (by have:=hN.lt (by rw [HL.out];omega);exact this)
 have hW1:=hW.trans (hb1.mono hW.size)
 clear hA hN hW hQ hb1 H10 C1
 go_wp2
 go_loopw [0,5,6] (fun x y i wr=>∃(k:Nat) (A:Option Addr) (cA:Nat) (a:List Nat) (B:Option Addr) (cB:Nat) (q:List Nat),k≤32∧i=.int .i64 k∧x=.slice A 16 cA∧Hid (Rp a (m^2^(8*k)%NT.PN))∧Nums wr .i64 A (nl a)∧y=.slice B 16 cB∧Hid (Rp q (m^(N%2^(8*k))%NT.PN))∧NumsF w.heap.size wr .i64 B (nl q)∧Arr wr w.heap.size 0 .u8 bs∧Below w.heap.size w wr) (fun _ _ i _=>32 - (intOf i).toNat)
 case atStart=>exact ⟨0,A,cA,a,B,cB,q,by omega,rfl,rfl,HA,hA1,rfl,HQ,hQ1,hN1,hW1⟩
 case round =>
  clear hA1 hN1 hW1 hQ1 HA HQ
  obtain ⟨i,A,cA,a,B,cB,q,hi,rfl,rfl,HA,hA,rfl,HQ,hQ,hN,hW⟩:=hrel
  by_cases hlt:i<32
  ·obtain ⟨x',cx,fx,HX'⟩:=hN.spot (i:=i) (by rw [HL.out];omega)
   rw [Nat.zero_add] at cx
   have hx':=HB.out.at_ HX'.out
   obtain ⟨x,rfl⟩:=Int.eq_ofNat_of_zero_le hx'.1
   have hx:x<256:=by omega
   have HBT:Hid (∀k,k<8→N / 2^(8*i+k)%2=x / 2^k%2):=hid fun k hk=>HBIT.out i k x hk HX'.out
   have i0:(0:Int)≤i:=by omega
   have i1:(i:Int)<32:=by omega
   have hxw:IntKind.i64.wrap (x:Int)=x:=IntWalk.i64_in _ (by omega)
   clear hx' fx
   rename World=>W1
   go_wp2
   go_loopw [0,5,7,8] (fun x' y c j wr=>∃(k cc:Nat) (A:Option Addr) (cA:Nat) (a:List Nat) (B:Option Addr) (cB:Nat) (q:List Nat),k≤8∧j=.int .i64 k∧c=.int .i64 cc∧cc<256∧Hid (cc=x / 2^k)∧x'=.slice A 16 cA∧Hid (Rp a (m^2^(8*i+k)%NT.PN))∧Nums wr .i64 A (nl a)∧y=.slice B 16 cB∧Hid (Rp q (m^(N%2^(8*i+k))%NT.PN))∧NumsF w.heap.size wr .i64 B (nl q)∧Arr wr w.heap.size 0 .u8 bs∧Below w.heap.size w wr) (fun _ _ _ j _=>8 - (intOf j).toNat)
   case atStart=>exact ⟨0,x,A,cA,a,B,cB,q,by omega,rfl,rfl,hx,hid (by simp),rfl,HA,hA,rfl,HQ,hQ,hN,hW⟩
   case round =>
    clear hA hQ hN hW cx HA HQ hlt
    obtain ⟨k,cc,A,cA,a,B,cB,q,hk,rfl,rfl,hcc,HC,rfl,HA,hA,rfl,HQ,hQ,hN,hW⟩:=hrel
    have hbl:=hN.lt (by rw [HL.out];omega)
    by_cases hlt:k<8
    ·have HBK:Hid (N / 2^(8*i+k)%2=cc%2):=hid (by rw [HBT.out k hlt,HC.out])
     have HC2:Hid (cc / 2=x / 2^(k+1)):=hid (by rw [HC.out,Nat.pow_succ,Nat.div_div_eq_div_mul])
     have hcv:Value.int .i64 ((cc:Int) / 2)=Value.int .i64 ((cc / 2:Nat):Int):=by congr 1
     have HCV:=hid hcv
     clear hcv
     by_cases hbit:cc%2=1
     ·have hbe:((cc:Int)%2==1)=true:=by simp;omega
      have HQ2:Hid (m^(N%2^(8*i+k))%NT.PN*(m^2^(8*i+k)%NT.PN)%NT.PN=m^(N%2^(8*i+(k+1)))%NT.PN):=hid (pow_bit1 (by rw [HBK.out,hbit]))
      go_wp2_with (fail)
      refine (rmul_walk HQ.out HA.out hQ.nums hA).mono ?_
      rintro e1 w1 ⟨B1,cB1,q1,rfl,HQ1,hQ1,hb1⟩
      rw [HQ2.out] at HQ1
      go_wp2_with (fail)
      refine (rmul_walk HA.out HA.out (hA.below hb1) (hA.below hb1)).mono ?_
      rintro e2 w2 ⟨A2,cA2,a2,rfl,HA2,hA2,hb2⟩
      rw [pow_sq] at HA2
      have hW1:=hW.trans (hb1.mono hW.size)
      go_wp2
      go_roundw
      case rel=>exact ⟨k+1,cc / 2,A2,cA2,a2,B1,cB1,q1,by omega,by go_num,HCV.out,by omega,HC2,rfl,HA2,hA2.nums,rfl,HQ1,(hQ1.less hW.size).stay hb2,(hN.below hb1 hbl).below hb2 (Nat.lt_of_lt_of_le hbl hb1.size),hW1.trans (hb2.mono hW1.size)⟩
      case measure=>simp [intOf];omega
     ·have hbe:((cc:Int)%2==1)=false:=by simp;omega
      have HQ2:Hid (m^(N%2^(8*i+k))%NT.PN=m^(N%2^(8*i+(k+1)))%NT.PN):=hid (by rw [show 8*i+(k+1)=8*i+k+1 from rfl,pow_bit0 (by rw [HBK.out];omega)])
      rw [HQ2.out] at HQ
      go_wp2_with (fail)
      refine (rmul_walk HA.out HA.out hA hA).mono ?_
      rintro e2 w2 ⟨A2,cA2,a2,rfl,HA2,hA2,hb2⟩
      rw [pow_sq] at HA2
      go_wp2
      go_roundw
      case rel=>exact ⟨k+1,cc / 2,A2,cA2,a2,B,cB,q,by omega,by go_num,HCV.out,by omega,HC2,rfl,HA2,hA2.nums,rfl,HQ,hQ.stay hb2,hN.below hb2 hbl,hW.trans (hb2.mono hW.size)⟩
      case measure=>simp [intOf];omega
    ·have e:k=8:=by omega
     have e8:8*i+k=8*(i+1):=by omega
     rw [e8] at HA HQ
     clear e8
     go_wp2
     go_roundw
     case rel=>exact ⟨i+1,A,cA,a,B,cB,q,by omega,by go_num,rfl,HA,hA,rfl,HQ,hQ,hN,hW⟩
     case measure=>simp [intOf];omega
  ·have e:i=32:=by omega
   have e8:8*i=256:=by omega
   rw [e8] at HQ
   clear e8 e
   go_wp2
   go_ret
   exact ROut.mk HQ.out hQ hW
theorem rp_inj {a b:List Nat} {n:Nat} (ha:Rp a n) (hb:Rp b n):a=b:=by
 have inj:∀(a b:List Nat),a.length=b.length→Digs a→Digs b→dv a=dv b→a=b:=by
  intro a
  induction a with
  | nil=>intro b hl _ _ _;exact (List.length_eq_zero_iff.1 hl.symm).symm
  | cons x a ih =>
    intro b hl ha hb he
    cases b with
    | nil=>simp at hl
    | cons y b =>
      have h1:=ha x (by simp)
      have h2:=hb y (by simp)
      simp only [dv] at he
      have e1:x=y:=by omega
      have e2:dv a=dv b:=by omega
      rw [e1,ih b (by simpa using hl) (fun v hv=>ha v (by simp [hv])) (fun v hv=>hb v (by simp [hv])) e2]
 exact inj a b (by rw [ha.1,hb.1]) ha.2.1 hb.2.1 (by rw [ha.2.2,hb.2.2])
theorem digs_dec {l:List Nat} (h:l.all (fun v=>decide (v<65536))=true):Digs l:=fun v hv=>of_decide_eq_true (List.all_eq_true.1 h v hv)
def dgN (m:Nat):Nat→List Nat
 | 0=>[]
 | k+1=>m%65536::dgN (m / 65536) k
theorem dgN_rp (k:Nat):∀m,m<65536^k→(dgN m k).length=k∧Digs (dgN m k)∧dv (dgN m k)=m:=by
 induction k with
 | zero=>intro m h;simp at h;subst h;exact ⟨rfl,fun v hv=>by simp [dgN] at hv,rfl⟩
 | succ k ih =>
   intro m h
   rw [Nat.pow_succ,Nat.mul_comm] at h
   obtain ⟨h1,h2,h3⟩:=ih (m / 65536) (by omega)
   refine ⟨by simp [dgN,h1],fun v hv=>?_,?_⟩
   ·rcases List.mem_cons.1 hv with e|e
    ·omega
    ·exact h2 v e
   ·simp only [dgN,dv,h3];omega
theorem Rp.eq {a:List Nat} {m:Nat} (h:Rp a m):a=dgN m 16:=by
 have hl:=dv_lt a h.2.1
 rw [h.1,h.2.2] at hl
 obtain ⟨h1,h2,h3⟩:=dgN_rp 16 m hl
 exact rp_inj h ⟨h1,h2,h3⟩
def rbytes (m:Nat):List Int:=byd (nl (dgN m 16))
theorem rbytes_length (m:Nat):(rbytes m).length=32:=byd_length _
theorem rbytes_out {A:Option Addr} {cA m:Nat} {a:List Nat} {w:World} (ha:Rp a m) (hA:Nums w .i64 A (nl a)):Calls Tryz.prog 40 #[.slice A 16 cA] w fun e w'=>e=.returned (.agg (ints .u8 (rbytes m)).toArray)∧Below w.heap.size w w':=by
 have h:=rbytes_walk (cA:=cA) ha hA
 rw [ha.eq] at h
 exact h
def Nm (x:List Int) (m:Nat):Prop:=El x∧(ev x%P).toNat=m
theorem emod_nat (a:Int):((a%P).toNat:Int)=a%P:=Int.toNat_of_nonneg (Int.emod_nonneg _ (by decide))
theorem Nm.int {x:List Int} {m:Nat} (h:Nm x m):ev x%P=(m:Int):=by rw [←h.2,emod_nat]
theorem Nm.lt {x:List Int} {m:Nat} (h:Nm x m):m<NT.PN:=by
 have h1:ev x%P<P:=Int.emod_lt_of_pos _ (by decide)
 rw [h.int,←pn_int] at h1
 exact Int.ofNat_lt.1 h1
theorem Nm.mk {x:List Int} {m:Nat} (h:El x) (e:ev x%P=(m:Int)):Nm x m:=⟨h,by rw [e];omega⟩
theorem Nm.of {x:List Int} (h:El x):Nm x (ev x%P).toNat:=⟨h,rfl⟩
section
variable {x y:List Int} {m n:Nat}
theorem Nm.add (h:Nm x m) (k:Nm y n):Nm (cy (plus x y)) ((m+n)%NT.PN) :=
 .mk (addL_el h.1 k.1).1 (by rw [(addL_el h.1 k.1).2,Int.add_emod,h.int,k.int,Int.natCast_emod,pn_int,Int.natCast_add])
theorem Nm.mul (h:Nm x m) (k:Nm y n):Nm (mulL x y) (m*n%NT.PN) :=
 .mk (mulL_el h.1 k.1).1 (by rw [(mulL_el h.1 k.1).2,Int.mul_emod,h.int,k.int,Int.natCast_emod,pn_int,Int.natCast_mul])
theorem sub_int (m n:Nat) (hn:n<NT.PN):(((m+NT.PN - n)%NT.PN:Nat):Int)=((m:Int) - n)%P:=by
 rw [Int.natCast_emod,pn_int,Int.ofNat_sub (by omega),Int.natCast_add,pn_int,show (m:Int)+P - n=(m - n)+P by omega,Int.add_emod_right]
theorem Nm.sub (h:Nm x m) (k:Nm y n):Nm (cy (minus x y)) ((m+NT.PN - n)%NT.PN) :=
 .mk (subL_el h.1 k.1).1 (by rw [(subL_el h.1 k.1).2,Int.sub_emod,h.int,k.int,sub_int m n k.lt])
theorem Nm.pow (h:Nm x m) {bs:List Int} (hl:bs.length=32) (hb:Byt bs):Nm (powL x bs 256) (m^(bv bs).toNat%NT.PN):=by
 have h1:=(powL_num h.1 hb hl).trans (int_pow_mod (ev x) (bv bs).toNat)
 rw [h.2] at h1
 have h2:ev (powL x bs 256)%P=((m^(bv bs).toNat%NT.PN:Nat):Int)%P:=h1
 refine .mk (powL_el h.1 256) (h2.trans ?_)
 rw [←pn_int,←Int.natCast_emod,Nat.mod_mod]
theorem Nm.inv (h:Nm x m):Nm (invL x) (m^(NT.PN - 2)%NT.PN):=by
 have:=h.pow (onesL_length 235 127) (onesL_byt (a:=235) (b:=127) (by omega) (by omega))
 rw [bv_inv] at this
 exact this
theorem Nm.small (n:Nat) (h:n<65536):Nm (smallL n) n:=.mk (el_set (small_dg n)) (by
 rw [small_ev n (by omega)]
 apply Int.emod_eq_of_lt (by omega)
 have:(65536:Int)<P:=by decide
 omega)
theorem Nm.reds (h:Nm x m):byd (red x)=rbytes m:=by
 obtain ⟨hd,he⟩:=red_dg h.1
 obtain ⟨a,ha,hr⟩:=dg_nat hd
 rw [he,h.2] at hr
 unfold rbytes
 rw [←ha,hr.eq]
theorem Nm.bytes (h:Nm x m):CallsTo 53 #[.agg (ints .i64 x).toArray] (.agg (ints .u8 (rbytes m)).toArray):=by
 have:=c_bytes h.1
 rwa [h.reds] at this
end
theorem rof_out {bs:List Int} {w:World} (hl:bs.length=32) (hb:Byt bs) {m:Nat} (h:Nm (ofL bs) m):Calls Tryz.prog 34 #[.agg (ints .u8 bs).toArray] w (ROut m w):=by
 have h1:=rof_walk (w:=w) hl hb
 have h0:=(ofL_dg hb).bd.1
 obtain ⟨N,hN⟩:=Int.eq_ofNat_of_zero_le h0
 have h2:(ev (ofL bs)).toNat%NT.PN=m:=by
  have h3:=h.int
  rw [hN] at h3 ⊢
  rw [←pn_int,←Int.natCast_emod] at h3
  have:((N:Int)).toNat=N:=by omega
  rw [this];omega
 rwa [h2] at h1
end Go.Proofs.YtkblmdakejmmhaaGreatDoor
