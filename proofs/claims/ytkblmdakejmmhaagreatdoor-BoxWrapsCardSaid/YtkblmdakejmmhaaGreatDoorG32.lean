import Derived.Test.YtkblmdakejmmhaaGreatDoorG31
namespace Go.Proofs.YtkblmdakejmmhaaGreatDoor
open Go Go.RowKit
section
set_option maxHeartbeats 2000000
set_option maxRecDepth 50000
theorem digits_walk (A:Option Addr) (L c:Nat) (bs:List Int) (w:World) (hl:bs.length=L) (hn:L≤1000) (hb:Byt bs) (hA:Nums w .u8 A bs):Calls Tryz.prog 101 #[.slice A L c] w fun e w'=>∃B d,e=.returned (.slice B ((L+1) / 2) d)∧NumsF w.heap.size w' .i64 B (pr bs)∧Below w.heap.size w w':=by
 have HL:=hid hl
 have HB:=hid hb
 have HPL:Hid ((pr bs).length=(L+1) / 2):=hid (by rw [pr_length,hl])
 have hA0:=hA
 clear hl hb hA
 go_enter Tryz.func101,Tryz.ntmps101
 go_wp2
 go_loopw [3,4] (fun v i wr=>∃(k:Nat) (R:Option Addr) (n d:Nat),k≤(L+1) / 2∧v=.slice R n d∧i=.int .i64 ((2*k:Nat):Int)∧Owns wr w.heap.size 3 .i64 (.slice R n d) ((pr bs).take k)∧Below w.heap.size w wr) (fun _ i _=>L+1 - (intOf i).toNat)
 case atStart=>exact ⟨0,none,0,0,Nat.zero_le _,rfl,rfl,Owns.none_ _ _ _ _,Below.refl _ _⟩
 case round =>
  obtain ⟨k,R,n,d,hk,rfl,rfl,hO,hb⟩:=hrel
  rename World=>W1
  have hsz:=hb.size
  by_cases hlt:2*k<L
  ·have hlk:2*k<bs.length:=by rw [HL.out];exact hlt
   obtain ⟨g,o,rfl,_,cA⟩:=(hA0.below hb).num (by omega)
   have hx:bs[2*k]? = some (bs.getD (2*k) 0):=by rw [List.getD_eq_getElem?_getD,List.getElem?_eq_getElem hlk];rfl
   have cx:=cA _ _ hx
   have hxb:=HB.out.at_ hx
   have HV:=hid (pr_at bs k hlk)
   have HT:Hid ((pr bs).take (k+1)=(pr bs).take k++[bs.getD (2*k) 0+256*bs.getD (2*k+1) 0]):=hid (by rw [List.take_add_one,HV.out];rfl)
   have HTL:Hid (((pr bs).take k).length≤1000):=hid (by rw [List.length_take,HPL.out];omega)
   have HW5:Hid (∀A' n' c' w2,Grew W1 w2 (Value.slice R n d) (Value.slice A' n' c')→Below w.heap.size w w2):=hid fun A' n' c' w2 hG=>hb.trans (hG.below hsz (fun g hg=>(hO.lt g hg).1))
   by_cases hlt2:2*k+1<L
   ·have hlk2:2*k+1<bs.length:=by rw [HL.out];exact hlt2
    have hy:bs[2*k+1]? = some (bs.getD (2*k+1) 0):=by rw [List.getD_eq_getElem?_getD,List.getElem?_eq_getElem hlk2];rfl
    have cy0:=cA _ _ hy
    have hyb:=HB.out.at_ hy
    clear hx hy hlk hlk2 cA HV
    generalize bs.getD (2*k) 0=x at *
    generalize bs.getD (2*k+1) 0=y at *
    obtain ⟨p,hp⟩:∃p,p=2*k:=⟨_,rfl⟩
    obtain ⟨q,hq⟩:∃q,q=2*k+1:=⟨_,rfl⟩
    have hwq:IntKind.i64.wrap ((p:Int)+1)=(q:Int):=by rw [IntWalk.i64_in _ (by omega)];omega
    have hw2:IntKind.i64.wrap ((p:Int)+2)=((2*(k+1):Nat):Int):=by rw [IntWalk.i64_in _ (by omega)];omega
    rw [←hp] at cx ⊢
    rw [←hq] at cy0
    have p0:(0:Int)≤p:=by omega
    have pL:(p:Int)<L:=by omega
    have q0:(0:Int)≤q:=by omega
    have qL:(q:Int)<L:=by omega
    have hx64:IntKind.i64.wrap x=x:=IntWalk.i64_in _ (by omega)
    have hy64:IntKind.i64.wrap y=y:=IntWalk.i64_in _ (by omega)
    have hs8:IntKind.i64.wrap (256*y)=256*y:=by rw [IntWalk.i64_in _ (by omega)]
    have hsv:IntKind.i64.wrap (x+256*y)=x+256*y:=by rw [IntWalk.i64_in _ (by omega)]
    have HPQ:=hid (And.intro hp hq)
    clear hp hq
    go_wp2_with (at_builtin;refine app_oneP rfl (.tmp 31) (.tmp 33) 60 rfl w.heap.size 3 .i64 8 Tryz.underlying60 Tryz.info3 (by omega) R n d ((pr bs).take k) rfl hO _ 1 rfl (by have:=HTL.out;omega) hsz ?_;intro A' n' c' w2 hO2 hG2)
    go_roundw
    case rel =>
     rw [←HT.out] at hO2
     exact ⟨k+1,A',n',c',by omega,rfl,by congr 1,hO2,HW5.out _ _ _ _ hG2⟩
    case measure=>simp [intOf];have:=HPQ.out.1;omega
   ·have hy0:bs.getD (2*k+1) 0=0:=by rw [List.getD_eq_getElem?_getD,List.getElem?_eq_none (by rw [HL.out];omega)];rfl
    rw [hy0] at HT
    clear hx hy0 hlk cA HV
    generalize bs.getD (2*k) 0=x at *
    obtain ⟨p,hp⟩:∃p,p=2*k:=⟨_,rfl⟩
    have hwq:IntKind.i64.wrap ((p:Int)+1)=(p:Int)+1:=IntWalk.i64_in _ (by omega)
    have hw2:IntKind.i64.wrap ((p:Int)+2)=((2*(k+1):Nat):Int):=by rw [IntWalk.i64_in _ (by omega)];omega
    rw [←hp] at cx ⊢
    have p0:(0:Int)≤p:=by omega
    have pL:(p:Int)<L:=by omega
    have qL:¬(p:Int)+1<L:=by omega
    have hx64:IntKind.i64.wrap x=x:=IntWalk.i64_in _ (by omega)
    have HXV:Hid (x+256*0=x):=hid (by omega)
    rw [HXV.out] at HT
    have HPQ:=hid hp
    clear hp
    go_wp2_with (at_builtin;refine app_oneP rfl (.tmp 31) (.tmp 33) 60 rfl w.heap.size 3 .i64 8 Tryz.underlying60 Tryz.info3 (by omega) R n d ((pr bs).take k) rfl hO _ 1 rfl (by have:=HTL.out;omega) hsz ?_;intro A' n' c' w2 hO2 hG2)
    go_roundw
    case rel =>
     rw [←HT.out] at hO2
     exact ⟨k+1,A',n',c',by omega,rfl,by congr 1,hO2,HW5.out _ _ _ _ hG2⟩
    case measure=>simp [intOf];have:=HPQ.out;omega
  ·have e:k=(L+1) / 2:=by omega
   have hf:(pr bs).take k=pr bs:=List.take_of_length_le (by rw [HPL.out];omega)
   rw [hf] at hO
   have hm:=hO.len
   rw [HPL.out] at hm
   subst hm
   have hNF:=hO.fresh
   obtain ⟨p,hp⟩:∃p,p=2*k:=⟨_,rfl⟩
   have hpL:¬(p:Int)<L:=by omega
   rw [←hp]
   clear hf e hO hlt hp hsz
   go_wp2
   go_ret
   exact ⟨R,⟨d,rfl⟩,hNF,hb⟩
theorem modd_any (A:Option Addr) (L c:Nat) (bs:List Int) (w:World) (hl:bs.length=L) (hn:L≤1000) (hb:Byt bs) (hA:Nums w .i64 A (pr bs)):Calls Tryz.prog 100 #[.slice A ((L+1) / 2) c] w (ROutZ (bn bs%PNZ) w):=by
 obtain ⟨a,h1,h2,h3,h4⟩:=pr_nl hb
 rw [←h1] at hA
 have:=mod_walk A c ((L+1) / 2) w a (by rw [h2,hl]) (by omega) h3 hA
 rwa [h4] at this
theorem SumIZ.end_ {l m ys:List Nat} {cyZ:Nat} (h:SumIZ l m ys cyZ 10) (hl:l.length=10) (hm:m.length=10) (hs:dv l+dv m<65536^10):R10 ys (dv l+dv m):=by
 obtain ⟨a,b,c,e⟩:=h
 rw [List.take_of_length_le (by omega),List.take_of_length_le (by omega)] at e
 refine ⟨a,b,?_⟩
 cases cyZ with
 | zero=>omega
 | succ cyZ =>
   have:65536^10≤(cyZ+1)*65536^10:=Nat.le_mul_of_pos_left _ (by omega)
   omega
theorem radd_any {A B:Option Addr} {cA cB m n:Nat} {a b:List Nat} {w:World} (ha:R10 a m) (hb:R10 b n) (hs:m+n<65536^10) (hA:Nums w .i64 A (nl a)) (hB:Nums w .i64 B (nl b)):Calls Tryz.prog 104 #[.slice A 10 cA,.slice B 10 cB] w (ROutZ ((m+n)%PNZ) w):=by
 have HA:=hid ha
 have HB:=hid hb
 have HSE:Hid (∀ys cyZ,SumIZ a b ys cyZ 10→R10 ys (m+n)):=hid fun ys cyZ h=>by
  have:=h.end_ HA.out.1 HB.out.1 (by rw [HA.out.2.2,HB.out.2.2];exact hs)
  rwa [HA.out.2.2,HB.out.2.2] at this
 clear ha hb hs
 go_enter Tryz.func104,Tryz.ntmps104
 go_wp2
 go_loopw [5,6,7] (fun v b' i wr=>∃(k:Nat) (ys:List Nat) (cyZ:Nat) (R:Option Addr) (n c:Nat),k≤10∧v=.slice R n c∧b'=.int .i64 cyZ∧i=.int .i64 k∧Hid (SumIZ a b ys cyZ k)∧Owns wr w.heap.size 3 .i64 (.slice R n c) (nl ys)∧Below w.heap.size w wr) (fun _ _ i _=>10 - (intOf i).toNat)
 case atStart=>exact ⟨0,[],0,none,0,0,Nat.zero_le _,rfl,rfl,rfl,hid ⟨rfl,fun v hv=>by simp at hv,by omega,by simp [dv]⟩,Owns.none_ _ _ _ _,Below.refl _ _⟩
 case round =>
  obtain ⟨k,ys,cyZ,R,n',c,hk,rfl,rfl,rfl,HI,hO,hbl⟩:=hrel
  have hsz:=hbl.size
  have HY:Hid ((nl ys).length=k):=hid (by rw [nl_length];exact HI.out.1)
  have hcy:=HI.out.2.2.1
  by_cases hlt:k<10
  ·have hil:k<a.length:=by rw [HA.out.1];omega
   have him:k<b.length:=by rw [HB.out.1];omega
   obtain ⟨g,o,rfl,_,cA0⟩:=(hA.below hbl).num (by rw [nl_length,HA.out.1];omega)
   obtain ⟨g2,o2,rfl,_,cB0⟩:=(hB.below hbl).num (by rw [nl_length,HB.out.1];omega)
   have clZ:=cA0 k _ (nl_at hil)
   have cm:=cB0 k _ (nl_at him)
   have hx:=getD_dig HA.out.2.1 k
   have hy:=getD_dig HB.out.2.1 k
   have HS:=hid (HI.out.step hil him HA.out.2.1 HB.out.2.1)
   clear cA0 cB0 hil him
   generalize a.getD k 0=x at *
   generalize b.getD k 0=y at *
   have k0:(0:Int)≤k:=by omega
   have k1:(k:Int)<10:=by omega
   obtain ⟨t,ht⟩:∃t,t=x+y+cyZ:=⟨_,rfl⟩
   have w1:IntKind.i64.wrap ((x:Int)+y)=(x:Int)+y:=IntWalk.i64_in _ (by omega)
   have w2:IntKind.i64.wrap ((x:Int)+y+cyZ)=t:=by rw [IntWalk.i64_in _ (by omega)];omega
   have htl:t<200000:=by omega
   rw [←ht] at HS
   clear ht
   have e1:((t%65536:Nat):Int)=(t:Int)%65536:=by omega
   have e2:Value.int .i64 ((t:Int) / 65536)=Value.int .i64 ((t / 65536:Nat):Int):=by congr 1
   have E1:=hid e1
   have E2:=hid e2
   clear e1 e2
   go_wp2
   go_quiet (fail)
   clear w1 w2
   go_wp2_with (at_builtin;refine app_one _ rfl (.tmp 24) (.tmp 27) 60 rfl w.heap.size 3 .i64 8 Tryz.underlying60 Tryz.info3 R n' c (nl ys) rfl (hO.drewN _) _ 1 rfl (by rw [HY.out];omega) (by omega) (by simpa using hsz) ?_;intro A' n2 c' w2 hO2 hb2)
   go_roundw
   case rel=>exact ⟨k+1,_,t / 65536,A',n2,c',by omega,rfl,E2.out,by go_num,HS,by rw [←nl_snoc,E1.out];exact hO2,(below_drewN hbl nq).trans hb2⟩
   case measure=>simp [intOf];omega
  ·have e:k=10:=by omega
   subst e
   have HE:=hid (HSE.out ys cyZ HI.out)
   have hn':=hO.len
   rw [nl_length,HI.out.1] at hn'
   subst hn'
   go_wp2_with (fail)
   refine (mod_walk R c 10 _ ys HE.out.1 (by omega) HE.out.2.1 hO.nums).mono ?_
   rw [HE.out.2.2]
   rintro e3 w3 ⟨A3,c3,ys3,rfl,HY3,hN3,hb3⟩
   go_wp2
   go_ret
   exact ROutZ.mk HY3.out (hN3.less hbl.size) (hbl.trans (hb3.mono hbl.size))
end
section
set_option maxRecDepth 50000
theorem e64Z (T:Nat) (h:T<4294967296):Value.int .i64 (wrap64 ((T:Int) / 65536))=Value.int .i64 ((T / 65536:Nat):Int):=by
 have e:((T:Int) / 65536)=((T / 65536:Nat):Int):=by omega
 rw [e]
 congr 1
 unfold wrap64
 omega
set_option maxHeartbeats 2000000 in
theorem rmul_any {A B:Option Addr} {cA cB m n:Nat} {xs ys:List Nat} {w:World} (ha:R10 xs m) (hb:R10 ys n) (hA:Nums w .i64 A (nl xs)) (hB0:Nums w .i64 B (nl ys)):Calls Tryz.prog 103 #[.slice A 10 cA,.slice B 10 cB] w (ROutZ (m*n%PNZ) w):=by
 have hX2:=hA
 have hY2:=hB0
 have HXL:=hid ha.1
 have HYL:=hid hb.1
 have HXD:=hid ha.2.1
 have HYD:=hid hb.2.1
 have HDE:Hid ((digs xs ys).length=20∧Digs (digs xs ys)∧dv (digs xs ys)=m*n):=hid ⟨by rw [digs_length,HXL.out,HYL.out],digs_digs xs ys HXD.out HYD.out,by rw [digs_dv,ha.2.2,hb.2.2]⟩
 have HDC:Hid (digs xs ys=colD xs ys 10):=hid (by unfold digs;rw [HXL.out])
 obtain ⟨z0,hz0⟩:∃z,z=colD xs ys 0:=⟨_,rfl⟩
 have hmk:∀w:World,(Instr.makeSlice 60 (.int .i64 20) (.int .i64 20)).run Tryz.prog w=.ok (.slice (some ⟨w.heap.size,0,none⟩) 20 20) (w.alloc (.cells (ints .i64 (nl z0)).toArray 3)):=by
  have e:colD xs ys 0=List.replicate 20 0:=by rw [colD,HXL.out,HYL.out]
  rw [hz0,e];exact make28 20 (by omega)
 have HZ0:=hid hz0
 clear hz0 ha hb hA hB0
 go_enter Tryz.func103,Tryz.ntmps103
 go_wp2
 have hB:=below_new w (.cells (ints .i64 (nl z0)).toArray 3)
 have hZ:Arr (w.alloc (.cells (ints .i64 (nl z0)).toArray 3)) w.heap.size 0 .i64 (nl (colD xs ys 0)):=by have:=Arr.made w .i64 (nl z0) 3;rw [HZ0.out] at this ⊢;exact this
 clear hmk
 generalize w.alloc (.cells (ints .i64 (nl z0)).toArray 3)=W0 at *
 go_loopw [6] (fun i wr=>∃k:Nat,k≤10∧i=.int .i64 k∧Below w.heap.size w wr∧Arr wr w.heap.size 0 .i64 (nl (colD xs ys k))) (fun i _=>10 - (intOf i).toNat)
 case atStart=>exact ⟨0,by omega,rfl,hB,hZ⟩
 case round =>
  clear hB hZ
  obtain ⟨k,hk,rfl,hB,hZ⟩:=hrel
  by_cases hlt:k<10
  ·have HXi:Hid (xs.getD k 0<65536):=hid (getD_dig HXD.out k)
   have hnx:=nl_at (l:=xs) (i:=k) (by rw [HXL.out];exact hlt)
   obtain ⟨gx,ox,rfl,hgx,cA⟩:=hX2.num (by rw [nl_length,HXL.out];omega)
   have cx0:=cA k _ hnx
   have HZL:Hid ((colD xs ys k).length=20):=hid (by rw [colD_length,HXL.out,HYL.out])
   have HZW:=hid (colD_digs xs ys HXD.out HYD.out k)
   have HCN:Hid (colD xs ys (k+1)=(rowD (xs.getD k 0) ys k (colD xs ys k) 10).1.set (k+10) ((rowD (xs.getD k 0) ys k (colD xs ys k) 10).1.getD (k+10) 0+(rowD (xs.getD k 0) ys k (colD xs ys k) 10).2)):=hid (by rw [colD,HYL.out])
   have HCP:Hid ((rowD (xs.getD k 0) ys k (colD xs ys k) 10).1.getD (k+10) 0=0):=hid (by rw [rowD_past _ _ _ _ _ _ (Nat.le_refl _),colD_past _ _ _ _ (by rw [HYL.out];exact Nat.le_refl _)])
   clear cA hnx
   generalize colD xs ys k=z at *
   generalize xs.getD k 0=xi at *
   have hZ0:Arr wr w.heap.size 0 .i64 (nl (rowD xi ys k z 0).1):=hZ
   clear hZ
   have k0:(0:Int)≤k:=by omega
   have k4:(k:Int)<10:=by omega
   rename World=>W1
   go_wp2
   go_loopw [7,8] (fun c j wr=>∃m:Nat,m≤10∧j=.int .i64 m∧c=.int .i64 ((rowD xi ys k z m).2:Nat)∧Below w.heap.size w wr∧Arr wr w.heap.size 0 .i64 (nl (rowD xi ys k z m).1)) (fun _ j _=>10 - (intOf j).toNat)
   case atStart=>exact ⟨0,by omega,rfl,rfl,hB,hZ0⟩
   case round =>
    clear hB hZ0
    obtain ⟨m,hm,rfl,rfl,hB,hZ⟩:=hrel
    by_cases hlt2:m<10
    ·rename World=>W2
     have HYM:Hid (ys.getD m 0<65536):=hid (getD_dig HYD.out m)
     have cx1:=cell_same_of hB hgx cx0
     obtain ⟨gy,oy,rfl,hgy,cB⟩:=(hY2.below hB).num (by rw [nl_length,HYL.out];omega)
     have cy0:=cB m _ (nl_at (by rw [HYL.out];exact hlt2))
     have HRN:Hid (rowD xi ys k z (m+1)=stepD xi (ys.getD m 0) (k+m) (rowD xi ys k z m)):=hid rfl
     have HRL:=hid (rowD_length xi ys k z m)
     have HRW:=hid (rowD_digsL xi ys k z HXi.out HYD.out HZW.out m)
     clear cB
     generalize ys.getD m 0=yj at *
     generalize rowD xi ys k z m=st at *
     rcases st with ⟨zz,cc⟩
     dsimp only at *
     have hzz:k+m<zz.length:=by rw [HRL.out,HZL.out];omega
     have cz:=hZ.at_ (i:=k+m) (nl_at hzz)
     have fz:=hZ.free (i:=k+m) (by rw [nl_length];exact hzz)
     rw [Nat.zero_add] at cz fz
     have HP:Hid (zz.getD (k+m) 0<65536):=hid (getD_dig HRW.out.1 _)
     have HS:Hid (stepD xi yj (k+m) (zz,cc)=(zz.set (k+m) ((xi*yj+cc+zz.getD (k+m) 0)%65536),(xi*yj+cc+zz.getD (k+m) 0) / 65536)):=hid rfl
     generalize zz.getD (k+m) 0=q at *
     have HC:Hid (cc<65536):=hid HRW.out.2
     have HT:Hid (xi*yj≤4294836225):=hid (Nat.mul_le_mul (Nat.le_pred_of_lt HXi.out) (Nat.le_pred_of_lt HYM.out))
     have w1:IntKind.i64.wrap ((xi:Int)*yj)=((xi*yj:Nat):Int):=by have:=HT.out;rw [IntWalk.i64_in _ (by omega)];omega
     generalize xi*yj=P at *
     have w2:IntKind.i64.wrap ((q:Int)+P)=((q+P:Nat):Int):=by rw [IntWalk.i64_in _ (by have:=HT.out;have:=HP.out;omega)];omega
     have w3:IntKind.i64.wrap (((q+P:Nat):Int)+cc)=((P+cc+q:Nat):Int):=by rw [IntWalk.i64_in _ (by have:=HT.out;have:=HP.out;have:=HC.out;omega)];omega
     have HQ:Hid (P+cc+q<4294967296):=hid (by have:=HT.out;have:=HP.out;have:=HC.out;omega)
     generalize q+P=q1 at *
     generalize P+cc+q=T at *
     have HE:Hid (rowD xi ys k z (m+1)=(zz.set (k+m) (T%65536),T / 65536)):=hid (by rw [HRN.out,HS.out])
     have hT0:(0:Int)≤T:=by omega
     have km0:(0:Int)≤(k:Int)+m:=by omega
     have kmw:IntKind.i64.wrap ((k:Int)+m)=(k:Int)+m:=IntWalk.i64_in _ (by omega)
     have kmn:((k:Int)+m).toNat=k+m:=by omega
     have kml:(k:Int)+m<20:=by omega
     have m0:(0:Int)≤m:=by omega
     have m4:(m:Int)<10:=by omega
     go_wp2
     go_quiet (fail)
     replace hZ:=hZ.drewN nq
     replace hB:=below_drewN hB nq
     replace cz:(W2.drewN nq).cell? _=_:=cz
     replace fz:(W2.drewN nq).frozen? _=_:=fz
     clear cx1 cy0
     generalize W2.drewN nq=W3 at *
     go_wp2
     go_roundw
     case rel =>
      refine ⟨m+1,by omega,by go_num,by rw [HE.out,e64Z T HQ.out],hB.setCell (Nat.le_refl _) _,?_⟩
      have h:=hZ.set (k+m) ((T%65536:Nat):Int)
      rw [nl_set,Nat.zero_add] at h
      rw [HE.out]
      exact h
     case measure=>simp [intOf];omega
    ·have e:m=10:=by omega
     subst e
     have HRL:=hid (rowD_length xi ys k z 10)
     have HRW:=hid (rowD_digsL xi ys k z HXi.out HYD.out HZW.out 10)
     rw [HCP.out,Nat.zero_add] at HCN
     generalize rowD xi ys k z 10=st at *
     rcases st with ⟨zz,cc⟩
     dsimp only at *
     have hzz:k+10<zz.length:=by rw [HRL.out,HZL.out];omega
     have cz:=hZ.at_ (i:=k+10) (nl_at hzz)
     have fz:=hZ.free (i:=k+10) (by rw [nl_length];exact hzz)
     rw [HCP.out] at cz
     rw [Nat.zero_add] at cz fz
     have kmw:IntKind.i64.wrap ((k:Int)+10)=(k:Int)+10:=IntWalk.i64_in _ (by omega)
     have kmn:((k:Int)+10).toNat=k+10:=by omega
     have km0:(0:Int)≤(k:Int)+10:=by omega
     have kml:(k:Int)+10<20:=by omega
     have hcw:IntKind.i64.wrap (cc:Int)=cc:=IntWalk.i64_in _ (by have:=HRW.out.2;omega)
     clear hlt2
     go_wp2
     go_roundw
     case rel =>
      refine ⟨k+1,by omega,by go_num,hB.setCell (Nat.le_refl _) _,?_⟩
      have h:=hZ.set (k+10) ((cc:Nat):Int)
      rw [nl_set,Nat.zero_add] at h
      rw [HCN.out]
      exact h
     case measure=>simp [intOf];omega
  ·have e:k=10:=by omega
   rw [e,←HDC.out] at hZ
   have hk16:¬(k:Int)<10:=by omega
   have hNZ:Nums wr .i64 (some ⟨w.heap.size,0,none⟩) (nl (digs xs ys)):=hZ.nums
   generalize digs xs ys=ds at *
   clear hZ hlt e HDC HXD HYD
   go_wp2_with (fail)
   refine (mod_walk (some ⟨w.heap.size,0,none⟩) 20 20 _ ds HDE.out.1 (by omega) HDE.out.2.1 hNZ).mono ?_
   rw [HDE.out.2.2]
   rintro e w6 ⟨A2,c2,ys2,rfl,HY,hN2,hb6⟩
   go_wp2
   go_ret
   exact ROutZ.mk HY.out (hN2.less hB.size) (hB.trans (Below.mono hb6 hB.size))
theorem clampL_at {bs:List Int} {k:Nat} {x:Int} (h:k<16) (hx:bs[k]? = some x):(clampLZ bs)[k]? = some (if k%4=0∧4≤k then (if k%4=3 then x%16 else x) / 4*4 else if k%4=3 then x%16 else x):=by
 have hg:bs.getD k 0=x:=by rw [List.getD_eq_getElem?_getD,hx];rfl
 have h1:=K1_at bs 16 h
 rw [hg] at h1
 have h2:(K1 bs 16).getD k 0=if k%4=3 then x%16 else x:=by
  rw [List.getD_eq_getElem?_getD,h1]
  show (if k%4=3∧k<16 then x%16 else x)=_
  by_cases h3:k%4=3
  ·rw [if_pos ⟨h3,h⟩,if_pos h3]
  ·rw [if_neg (fun h=>h3 h.1),if_neg h3]
 unfold clampLZ
 rw [K2_at _ 16 h,h2]
 congr 1
 by_cases h3:k%4=0∧4≤k
 ·rw [if_pos ⟨h3.1,h3.2,h⟩,if_pos h3]
 ·rw [if_neg (fun h=>h3 ⟨h.1,h.2.1⟩),if_neg h3]
theorem take_snoc {l:List Int} {k:Nat} {v:Int} (h:l[k]? = some v):l.take (k+1)=l.take k++[v]:=by rw [List.take_add_one,h];rfl
set_option maxHeartbeats 4000000 in
theorem rclamp_core {A:Option Addr} {cA:Nat} {bs r:List Int} {w:World} (HL:Hid (bs.length=16)) (HB:Hid (Byt bs)) (hA:Nums w .u8 A bs) (HR:Hid (clampLZ bs=r)) (HRL:Hid (r.length=16)) :
 Calls Tryz.prog 102 #[.slice A 16 cA] w fun e w'=>∃B d,e=.returned (.slice B 16 d)∧NumsF w.heap.size w' .u8 B r∧Below w.heap.size w w':=by
 have hA0:=hA
 clear hA
 go_enter Tryz.func102,Tryz.ntmps102
 go_wp2
 go_loopw [3,4] (fun v i wr=>∃(k:Nat) (R:Option Addr) (n d:Nat),k≤16∧v=.slice R n d∧i=.int .i64 (k:Int)∧Owns wr w.heap.size 5 .u8 (.slice R n d) (r.take k)∧Below w.heap.size w wr) (fun _ i _=>16 - (intOf i).toNat)
 case atStart=>exact ⟨0,none,0,0,Nat.zero_le _,rfl,rfl,Owns.none_ _ _ _ _,Below.refl _ _⟩
 case round =>
  obtain ⟨k,R,n,d,hk,rfl,rfl,hO,hb⟩:=hrel
  rename World=>W1
  have hsz:=hb.size
  by_cases hlt:k<16
  ·obtain ⟨g,o,rfl,_,cA⟩:=(hA0.below hb).num (by rw [HL.out];omega)
   have hx:=getD_some (l:=bs) (i:=k) (by rw [HL.out];exact hlt)
   have cx:=cA _ _ hx
   have hxb:=HB.out.at_ hx
   have HV:=hid (clampL_at hlt hx)
   rw [HR.out] at HV
   have HTL:Hid ((r.take k).length≤16):=hid (by rw [List.length_take];omega)
   have HW5:Hid (∀A' n' c' w2,Grew W1 w2 (Value.slice R n d) (Value.slice A' n' c')→Below w.heap.size w w2):=hid fun A' n' c' w2 hG=>hb.trans (hG.below hsz (fun g hg=>(hO.lt g hg).1))
   clear hx cA
   generalize bs.getD k 0=x at *
   have k0:(0:Int)≤k:=by omega
   have k16:(k:Int)<16:=by omega
   have hwk:IntKind.i64.wrap ((k:Int)+1)=(k:Int)+1:=IntWalk.i64_in _ (by omega)
   by_cases h3:k%4=3
   ·rw [if_neg (by omega),if_pos h3] at HV
    have HT:=hid (take_snoc HV.out)
    obtain ⟨y,hy⟩:∃y,y=x%16:=⟨_,rfl⟩
    have y1:x%16=y:=hy.symm
    have y2:Int.tmod x 16=y:=by rw [Int.tmod_eq_emod_of_nonneg (by omega),hy]
    have y3:IntKind.u8.wrap y=y:=IntWalk.u8_in _ (by omega)
    rw [←hy] at HT
    have e4:((k:Int)==4)=false:=by simp;omega
    have e8:((k:Int)==8)=false:=by simp;omega
    have e12:((k:Int)==12)=false:=by simp;omega
    have HXX:=hid (And.intro hxb hy)
    by_cases c3:k=3
    ·have e3:((k:Int)==3)=true:=by rw [beq_iff_eq];omega
     clear hxb hy h3 c3
     go_wp2_with (at_builtin;refine app_oneP rfl (.tmp 43) (.tmp 45) 23 rfl w.heap.size 5 .u8 1 Tryz.underlying23 infB3 (by omega) R n d (r.take k) rfl hO _ 1 rfl (by have:=HTL.out;omega) hsz ?_;intro A' n' c' w2 hO2 hG2)
     go_roundw
     case rel=>exact ⟨k+1,A',n',c',by omega,rfl,by go_num,by rw [HT.out];exact hO2,HW5.out _ _ _ _ hG2⟩
     case measure=>simp [intOf];omega
    ·have e3:((k:Int)==3)=false:=by simp;omega
     by_cases c7:k=7
     ·have e7:((k:Int)==7)=true:=by rw [beq_iff_eq];omega
      clear hxb hy h3 c3 c7
      go_wp2_with (at_builtin;refine app_oneP rfl (.tmp 43) (.tmp 45) 23 rfl w.heap.size 5 .u8 1 Tryz.underlying23 infB3 (by omega) R n d (r.take k) rfl hO _ 1 rfl (by have:=HTL.out;omega) hsz ?_;intro A' n' c' w2 hO2 hG2)
      go_roundw
      case rel=>exact ⟨k+1,A',n',c',by omega,rfl,by go_num,by rw [HT.out];exact hO2,HW5.out _ _ _ _ hG2⟩
      case measure=>simp [intOf];omega
     ·have e7:((k:Int)==7)=false:=by simp;omega
      by_cases c11:k=11
      ·have e11:((k:Int)==11)=true:=by rw [beq_iff_eq];omega
       clear hxb hy h3 c3 c7 c11
       go_wp2_with (at_builtin;refine app_oneP rfl (.tmp 43) (.tmp 45) 23 rfl w.heap.size 5 .u8 1 Tryz.underlying23 infB3 (by omega) R n d (r.take k) rfl hO _ 1 rfl (by have:=HTL.out;omega) hsz ?_;intro A' n' c' w2 hO2 hG2)
       go_roundw
       case rel=>exact ⟨k+1,A',n',c',by omega,rfl,by go_num,by rw [HT.out];exact hO2,HW5.out _ _ _ _ hG2⟩
       case measure=>simp [intOf];omega
      ·have e11:((k:Int)==11)=false:=by simp;omega
       have e15:((k:Int)==15)=true:=by rw [beq_iff_eq];omega
       clear hxb hy h3 c3 c7 c11
       go_wp2_with (at_builtin;refine app_oneP rfl (.tmp 43) (.tmp 45) 23 rfl w.heap.size 5 .u8 1 Tryz.underlying23 infB3 (by omega) R n d (r.take k) rfl hO _ 1 rfl (by have:=HTL.out;omega) hsz ?_;intro A' n' c' w2 hO2 hG2)
       go_roundw
       case rel=>exact ⟨k+1,A',n',c',by omega,rfl,by go_num,by rw [HT.out];exact hO2,HW5.out _ _ _ _ hG2⟩
       case measure=>simp [intOf];omega
   ·rw [if_neg h3] at HV
    have e3:((k:Int)==3)=false:=by simp;omega
    have e7:((k:Int)==7)=false:=by simp;omega
    have e11:((k:Int)==11)=false:=by simp;omega
    have e15:((k:Int)==15)=false:=by simp;omega
    by_cases h4:k%4=0∧4≤k
    ·rw [if_pos h4] at HV
     have HT:=hid (take_snoc HV.out)
     obtain ⟨q,hq⟩:∃q,q=x / 4:=⟨_,rfl⟩
     have q1:x / 4=q:=hq.symm
     have q2:Int.tdiv x 4=q:=by rw [Int.tdiv_eq_ediv_of_nonneg (by omega),hq]
     have q3:IntKind.u8.wrap q=q:=IntWalk.u8_in _ (by omega)
     have y3:IntKind.u8.wrap (q*4)=q*4:=IntWalk.u8_in _ (by omega)
     rw [←hq] at HT
     have HXX:=hid (And.intro hxb (And.intro hq h4))
     by_cases c4:k=4
     ·have e4:((k:Int)==4)=true:=by rw [beq_iff_eq];omega
      clear hxb hq h3 h4 c4
      go_wp2_with (at_builtin;refine app_oneP rfl (.tmp 43) (.tmp 45) 23 rfl w.heap.size 5 .u8 1 Tryz.underlying23 infB3 (by omega) R n d (r.take k) rfl hO _ 1 rfl (by have:=HTL.out;omega) hsz ?_;intro A' n' c' w2 hO2 hG2)
      go_roundw
      case rel=>exact ⟨k+1,A',n',c',by omega,rfl,by go_num,by rw [HT.out];exact hO2,HW5.out _ _ _ _ hG2⟩
      case measure=>simp [intOf];omega
     ·have e4:((k:Int)==4)=false:=by simp;omega
      by_cases c8:k=8
      ·have e8:((k:Int)==8)=true:=by rw [beq_iff_eq];omega
       clear hxb hq h3 h4 c4 c8
       go_wp2_with (at_builtin;refine app_oneP rfl (.tmp 43) (.tmp 45) 23 rfl w.heap.size 5 .u8 1 Tryz.underlying23 infB3 (by omega) R n d (r.take k) rfl hO _ 1 rfl (by have:=HTL.out;omega) hsz ?_;intro A' n' c' w2 hO2 hG2)
       go_roundw
       case rel=>exact ⟨k+1,A',n',c',by omega,rfl,by go_num,by rw [HT.out];exact hO2,HW5.out _ _ _ _ hG2⟩
       case measure=>simp [intOf];omega
      ·have e8:((k:Int)==8)=false:=by simp;omega
       have e12:((k:Int)==12)=true:=by rw [beq_iff_eq];omega
       clear hxb hq h3 h4 c4 c8
       go_wp2_with (at_builtin;refine app_oneP rfl (.tmp 43) (.tmp 45) 23 rfl w.heap.size 5 .u8 1 Tryz.underlying23 infB3 (by omega) R n d (r.take k) rfl hO _ 1 rfl (by have:=HTL.out;omega) hsz ?_;intro A' n' c' w2 hO2 hG2)
       go_roundw
       case rel=>exact ⟨k+1,A',n',c',by omega,rfl,by go_num,by rw [HT.out];exact hO2,HW5.out _ _ _ _ hG2⟩
       case measure=>simp [intOf];omega
    ·rw [if_neg h4] at HV
     have HT:=hid (take_snoc HV.out)
     have e4:((k:Int)==4)=false:=by simp;omega
     have e8:((k:Int)==8)=false:=by simp;omega
     have e12:((k:Int)==12)=false:=by simp;omega
     clear hxb h3 h4
     go_wp2_with (at_builtin;refine app_oneP rfl (.tmp 43) (.tmp 45) 23 rfl w.heap.size 5 .u8 1 Tryz.underlying23 infB3 (by omega) R n d (r.take k) rfl hO _ 1 rfl (by have:=HTL.out;omega) hsz ?_;intro A' n' c' w2 hO2 hG2)
     go_roundw
     case rel=>exact ⟨k+1,A',n',c',by omega,rfl,by go_num,by rw [HT.out];exact hO2,HW5.out _ _ _ _ hG2⟩
     case measure=>simp [intOf];omega
  ·have e:k=16:=by omega
   have hf:r.take k=r:=List.take_of_length_le (by rw [HRL.out];omega)
   rw [hf] at hO
   have hm:=hO.len
   rw [HRL.out] at hm
   subst hm
   have hNF:=hO.fresh
   have hk16:¬(k:Int)<16:=by omega
   clear hf e hO hlt hsz
   go_wp2
   go_ret
   exact ⟨R,⟨d,rfl⟩,hNF,hb⟩
theorem rclamp_any {A:Option Addr} {cA:Nat} {bs:List Int} {w:World} (hl:bs.length=16) (hb:Byt bs) (hA:Nums w .u8 A bs) :
 Calls Tryz.prog 102 #[.slice A 16 cA] w fun e w'=>∃B d,e=.returned (.slice B 16 d)∧NumsF w.heap.size w' .u8 B (clampLZ bs)∧Below w.heap.size w w' :=
 rclamp_core (hid hl) (hid hb) hA (hid rfl) (hid (clampL_lengthZ bs))
end
end Go.Proofs.YtkblmdakejmmhaaGreatDoor
