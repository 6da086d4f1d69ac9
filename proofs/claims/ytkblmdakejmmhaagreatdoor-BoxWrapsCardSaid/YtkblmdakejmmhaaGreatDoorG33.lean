import Derived.Test.YtkblmdakejmmhaaGreatDoorG32
namespace Go.Proofs.YtkblmdakejmmhaaGreatDoor
open Go Go.RowKit
set_option maxRecDepth 50000
theorem Owns.aside {w w':World} {base:Nat} {e:TypeId} {k:IntKind} {v v0 v0':Value} {xs:List Int} (h:Owns w base e k v xs) (hG:Grew w w' v0 v0') (hne:∀g,v.ownBlock=some g→v0.ownBlock≠some g):Owns w' base e k v xs :=
 h.keep fun g hg=>hG.1.block g (h.lt g hg).2 (fun e=>hne g hg e.symm)
theorem apart_l {w w':World} {base:Nat} {e:TypeId} {k:IntKind} {v v0 v0':Value} {xs:List Int} (h:Owns w base e k v xs) (hG:Grew w w' v0 v0') (hne:∀g,v.ownBlock=some g→v0.ownBlock≠some g):∀g,v.ownBlock=some g→v0'.ownBlock≠some g :=
 fun g hg=>hG.farP (hne g hg) (h.lt g hg).2
theorem apart_r {w w':World} {base:Nat} {e:TypeId} {k:IntKind} {v v' v0:Value} {xs:List Int} (h0:Owns w base e k v0 xs) (hG:Grew w w' v v') (hne:∀g,v.ownBlock=some g→v0.ownBlock≠some g):∀g,v'.ownBlock=some g→v0.ownBlock≠some g:=fun g hg hg0=>by
 rcases hG.2 with e|e
 ·exact hne g (by rw [←e];exact hg) hg0
 ·have:=e g hg
  have:=(h0.lt g hg0).2
  omega
theorem digits_q (A:Option Addr) (L c q:Nat) (bs:List Int) (w:World) (hl:bs.length=L) (hn:L≤1000) (hq:(L+1) / 2=q) (hb:Byt bs) (hA:Nums w .u8 A bs):Calls Tryz.prog 101 #[.slice A L c] w fun e w'=>∃B d,e=.returned (.slice B q d)∧NumsF w.heap.size w' .i64 B (pr bs)∧Below w.heap.size w w':=by
 subst hq
 exact digits_walk A L c bs w hl hn hb hA
theorem modd_q (A:Option Addr) (L c q:Nat) (bs:List Int) (w:World) (hl:bs.length=L) (hn:L≤1000) (hq:(L+1) / 2=q) (hb:Byt bs) (hA:Nums w .i64 A (pr bs)):Calls Tryz.prog 100 #[.slice A q c] w (ROutZ (bn bs%PNZ) w):=by
 subst hq
 exact modd_any A L c bs w hl hn hb hA
theorem pchunk_at {m:List Int} {j t:Nat} (ht:t<16):(pchunk m j)[t]? = m[16*j+t]? := by
 unfold pchunk
 rw [List.getElem?_take,if_pos ht,List.getElem?_drop]
theorem chunk_length (m:List Int) (j:Nat):(pchunk m j).length=min 16 (m.length - 16*j):=by simp [pchunk]
theorem pchunk_byt {m:List Int} (h:Byt m) (j:Nat):Byt (pchunk m j):=(h.drop _).take _
theorem ref_step {r s:Nat} {x:List Int}:(s+bn (x++[1])%PNZ)%PNZ*(r%PNZ)%PNZ=stepN r s x:=by
 unfold stepN
 rw [Nat.add_mod_mod,←Nat.mul_mod]
theorem two_pn {a b:Nat} (ha:a<PNZ) (hb:b<PNZ):a+b<65536^10:=by
 have h2:65536^10=1461501637330902918203684832716283019655932542976:=by decide
 rw [h2]
 unfold PNZ at ha hb
 omega
def RI (aa ss:List Nat) (k:Nat) (zs:List Int) (cyZ:Nat):Prop:=zs.length=16∧Byt zs∧cyZ≤1∧bv (zs.take (2*k))+((cyZ*65536^k:Nat):Int)=((dv (aa.take k)+dv (ss.take k):Nat):Int)
theorem RI.start (aa ss:List Nat):RI aa ss 0 (zeros 16) 0:=⟨zeros_len 16,byt_zeros 16,by omega,by simp [bv,dv]⟩
theorem pow_256 (k:Nat):(256:Int)^(2*k)=((65536^k:Nat):Int):=by
 rw [Int.pow_mul,Int.natCast_pow]
 rfl
theorem RI.step {aa ss:List Nat} {k cyZ x y t:Nat} {zs:List Int} (h:RI aa ss k zs cyZ) (hk:k<8) (hx:aa[k]? = some x) (hy:ss[k]? = some y) (hxd:x<65536) (hyd:y<65536) (ht:t=x+y+cyZ):RI aa ss (k+1) ((zs.set (2*k) ((t%256:Nat):Int)).set (2*k+1) ((t / 256%256:Nat):Int)) (t / 65536):=by
 obtain ⟨h1,h2,h3,h4⟩:=h
 refine ⟨by simp [h1],fun z hz=>?_,by omega,?_⟩
 ·rcases List.mem_or_eq_of_mem_set hz with e|e
  ·rcases List.mem_or_eq_of_mem_set e with e|e
   ·exact h2 z e
   ·rw [e];omega
  ·rw [e];omega
 ·have e1:((zs.set (2*k) ((t%256:Nat):Int)).set (2*k+1) ((t / 256%256:Nat):Int))[2*k+1]? = some ((t / 256%256:Nat):Int):=List.getElem?_set_self (by rw [List.length_set];omega)
  have e0:((zs.set (2*k) ((t%256:Nat):Int)).set (2*k+1) ((t / 256%256:Nat):Int))[2*k]? = some ((t%256:Nat):Int):=by
   rw [List.getElem?_set_ne (by omega),List.getElem?_set_self (by omega)]
  rw [show 2*(k+1)=2*k+1+1 by omega,bv_take_succ e1,bv_take_succ e0,List.take_set_of_le (by omega),List.take_set_of_le (Nat.le_refl _),dv_take_succ aa k x hx,dv_take_succ ss k y hy,Int.pow_succ,pow_256,Nat.pow_succ]
  have hd:((t%256:Nat):Int)+256*((t / 256%256:Nat):Int)+65536*((t / 65536:Nat):Int)=((x+y+cyZ:Nat):Int):=by omega
  generalize (t%256:Nat)=t0 at *
  generalize (t / 256%256:Nat)=t1 at *
  generalize (t / 65536:Nat)=t2 at *
  generalize 65536^k=P at *
  have hm:(((t0:Int)+256*(t1:Int)+65536*(t2:Int))*(P:Int))=((x+y+cyZ:Nat):Int)*(P:Int):=by rw [hd]
  rw [Int.add_mul,Int.add_mul,Int.natCast_add,Int.natCast_add,Int.add_mul,Int.add_mul] at hm
  have n1:((t2*(P*65536):Nat):Int)=65536*(t2:Int)*(P:Int):=by
   rw [Int.natCast_mul,Int.natCast_mul,Int.mul_comm (P:Int),←Int.mul_assoc,Int.mul_comm (t2:Int)];rfl
  have n2:(t1:Int)*((P:Int)*256)=256*(t1:Int)*(P:Int):=by rw [Int.mul_comm (P:Int),←Int.mul_assoc,Int.mul_comm (t1:Int)]
  rw [n1,n2]
  have n3:((dv (aa.take k)+x*P+(dv (ss.take k)+y*P):Nat):Int)=((dv (aa.take k)+dv (ss.take k):Nat):Int)+(x:Int)*P+(y:Int)*P:=by
   simp only [Int.natCast_add,Int.natCast_mul];omega
  rw [n3,←h4]
  have n4:((cyZ*P:Nat):Int)=(cyZ:Int)*P:=by rw [Int.natCast_mul]
  rw [n4]
  omega
theorem RI.end_ {aa ss:List Nat} {zs:List Int} {cyZ S K:Nat} (h:RI aa ss 8 zs cyZ) (ha:R10 aa S) (hs:ss.length=8) (hK:dv ss=K):zs=lb (S+K):=by
 obtain ⟨h1,h2,h3,h4⟩:=h
 rw [List.take_of_length_le (by omega),List.take_of_length_le (by omega:ss.length≤8),hK] at h4
 refine byt_inj (by rw [h1,lb_length]) h2 (lb_byt _) ?_
 rw [lb_bv]
 have i3:=bn_int h2
 have hz2:=bn_lt h2
 rw [h1] at hz2
 rw [←i3] at h4 ⊢
 congr 1
 have h5:bn zs+cyZ*65536^8=dv (aa.take 8)+K:=by exact_mod_cast h4
 have h6:=dv_split aa 8 (by rw [ha.1];omega)
 rw [ha.2.2] at h6
 have e:65536^8=256^16:=by decide
 rw [e] at h5 h6
 have h7:(S+K)%256^16=(dv (aa.take 8)+K)%256^16:=by
  rw [h6,show dv (aa.take 8)+256^16*dv (aa.drop 8)+K=dv (aa.take 8)+K+256^16*dv (aa.drop 8) by omega,Nat.add_mul_mod_self_left]
 rw [h7,←h5,Nat.add_mul_mod_self_right,Nat.mod_eq_of_lt hz2]
theorem nat_at {l:List Nat} {k:Nat} (h:k<l.length):l[k]? = some (l.getD k 0):=by rw [List.getD_eq_getElem?_getD,List.getElem?_eq_getElem h];rfl
set_option maxHeartbeats 8000000 in
theorem rtag_core (key m r k1 k2:List Int) (rr:Nat) (A:Option Addr) (L c:Nat) (w:World) (HK:Hid (key.length=32)) (HKB:Hid (Byt key)) (HK1:Hid (key.take 16=k1)) (HK2:Hid (key.drop 16=k2)) (HK1L:Hid (k1.length=16)) (HK2L:Hid (k2.length=16)) (HK1B:Hid (Byt k1)) (HK2B:Hid (Byt k2))
 (HRR:Hid (bn (clampLZ k1)=rr)) (hl:m.length=L) (hn:L≤1000) (HMB:Hid (Byt m)) (hA:Nums w .u8 A m) (HR:Hid (lb (sumN rr m+bn k2)=r)) (HRL:Hid (r.length=16)) :
 Calls Tryz.prog 70 #[.agg (ints .u8 key).toArray,.slice A L c] w fun e w'=>e=.returned (.agg (ints .u8 r).toArray)∧Below w.heap.size w w':=by
 obtain ⟨z33,s33⟩:=zero_of_info inf33
 have HL:=hid hl
 clear hl
 have hK:=(Arr.made w .u8 key 22).alloc (.cells (ints .u8 (zeros 16)).toArray 54)
 have hR:=Arr.made (w.alloc (.cells (ints .u8 key).toArray 22)) .u8 (zeros 16) 54
 have hW:=(below_new w (.cells (ints .u8 key).toArray 22)).alloc (by simp) (.cells (ints .u8 (zeros 16)).toArray 54)
 rw [World.size_alloc] at hR
 have hz0:((w.alloc (.cells (ints .u8 key).toArray 22)).alloc (.cells (ints .u8 (zeros 16)).toArray 54)).heap.size=w.heap.size+1+1:=by simp
 have hA0:=hA.below hW
 obtain ⟨z10,hz⟩:∃z,z=List.replicate 10 0:=⟨_,rfl⟩
 have hmk:∀w:World,(Instr.makeSlice 60 (.int .i64 10) (.int .i64 10)).run Tryz.prog w=.ok (.slice (some ⟨w.heap.size,0,none⟩) 10 10) (w.alloc (.cells (ints .i64 (nl z10)).toArray 3)):=by rw [hz];exact make28 10 (by omega)
 have HO9:Hid (∀w:World,Owns (w.alloc (.cells (ints .i64 (nl z10)).toArray 3)) w.heap.size 3 .i64 (.slice (some ⟨w.heap.size,0,none⟩) 10 10) (nl z10)):=by
  rw [hz];exact hid fun w=>Owns.new w w.heap.size 3 .i64 (nl (List.replicate 10 0)) (Nat.le_refl _) (by simp [maxLen])
 have HZ9:Hid (R10 z10 (accN rr m 0)):=by
  rw [hz];exact hid ⟨by simp,fun v hv=>by have:=List.eq_of_mem_replicate hv;omega,by have:=dv_zeros [] 10;rw [List.nil_append] at this;rw [this];rfl⟩
 clear hz hA
 have HMK:=hid hmk
 clear hmk
 go_enter Tryz.func70,Tryz.ntmps70
 go_wp2
 generalize ((w.alloc (.cells (ints .u8 key).toArray 22)).alloc (.cells (ints .u8 (zeros 16)).toArray 54))=W0 at *
 go_loopw [5,6,7] (fun v5 v6 i wr=>∃(k:Nat) (R5:Option Addr) (n5 d5:Nat) (R6:Option Addr) (n6 d6:Nat),k≤16∧v5=.slice R5 n5 d5∧v6=.slice R6 n6 d6∧i=.int .i64 (k:Int)∧Owns wr W0.heap.size 5 .u8 (.slice R5 n5 d5) (key.take k)∧Owns wr W0.heap.size 5 .u8 (.slice R6 n6 d6) ((key.drop 16).take k)∧Hid (∀g,(Value.slice R6 n6 d6).ownBlock=some g→(Value.slice R5 n5 d5).ownBlock≠some g)∧Below W0.heap.size W0 wr) (fun _ _ i _=>16 - (intOf i).toNat)
 case atStart=>exact ⟨0,none,0,0,none,0,0,Nat.zero_le _,rfl,rfl,rfl,Owns.none_ _ _ _ _,by rw [List.take_zero];exact Owns.none_ _ _ _ _,hid (fun g hg=>by cases hg),Below.refl _ _⟩
 case round =>
  obtain ⟨k,R5,n5,d5,R6,n6,d6,hk,rfl,rfl,rfl,hO5,hO6,HNE,hB⟩:=hrel
  rename World=>W1
  have hsz:=hB.size
  by_cases hlt:k<16
  ·have hKr:=hK.below hB (by omega)
   have hx:=getD_some (l:=key) (i:=k) (by rw [HK.out];omega)
   have hy:=getD_some (l:=key) (i:=16+k) (by rw [HK.out];omega)
   have hy2:(key.drop 16)[k]? = some (key.getD (16+k) 0):=by rw [List.getElem?_drop];exact hy
   have cx:=hKr.at_ hx
   have cy0:=hKr.at_ hy
   rw [Nat.zero_add] at cx cy0
   have HT5:=hid (take_snoc hx)
   have HT6:=hid (take_snoc hy2)
   have HL5:Hid ((key.take k).length≤16):=hid (by rw [List.length_take];omega)
   have HL6:Hid (((key.drop 16).take k).length≤16):=hid (by rw [List.length_take];omega)
   clear hx hy hy2 hKr
   generalize key.getD k 0=x at *
   obtain ⟨q,hq⟩:∃q,q=16+k:=⟨_,rfl⟩
   rw [←hq] at cy0 HT6
   generalize key.getD q 0=y at *
   have hqw:IntKind.i64.wrap (16+(k:Int))=(q:Int):=by rw [IntWalk.i64_in _ (by omega)];omega
   have q0:(0:Int)≤q:=by omega
   have q32:(q:Int)<32:=by omega
   have k0:(0:Int)≤k:=by omega
   have k16:(k:Int)<16:=by omega
   have k32:(k:Int)<32:=by omega
   have hwk:IntKind.i64.wrap ((k:Int)+1)=(k:Int)+1:=IntWalk.i64_in _ (by omega)
   have cy1:∀w2,Below W0.heap.size W1 w2→w2.cell? ⟨w.heap.size,q,none⟩=some (.int .u8 y):=fun w2 hb=>(hb.cell (p:=⟨w.heap.size,q,none⟩) (by show w.heap.size<W0.heap.size;omega)).trans cy0
   have HCY:=hid cy1
   have HQ:=hid hq
   clear hq cy0 cy1
   go_wp2_with (first
    | (at_builtin;refine app_oneP rfl (.tmp 28) (.tmp 33) 23 rfl W0.heap.size 5 .u8 1 Tryz.underlying23 infB3 (by omega) R6 n6 d6 ((key.drop 16).take k) rfl hO62 _ 1 rfl (by have:=HL6.out;omega) hsz2 ?_;intro A6' n6' c6' w3 hO63 hG6)
    | (at_builtin;refine app_oneP rfl (.tmp 22) (.tmp 26) 23 rfl W0.heap.size 5 .u8 1 Tryz.underlying23 infB3 (by omega) R5 n5 d5 (key.take k) rfl hO5 _ 1 rfl (by have:=HL5.out;omega) hsz ?_;intro A5' n5' c5' w2 hO52 hG5
       have hb2:=hG5.below hsz (fun g hg=>(hO5.lt g hg).1)
       have hO62:=hO6.aside hG5 HNE.out
       have HNE2:=hid (apart_l hO6 hG5 HNE.out)
       have hsz2:=Nat.le_trans hsz hb2.size
       have cy2:=HCY.out _ hb2))
   go_roundw
   case rel =>
    rw [←HT5.out] at hO52
    rw [←HT6.out] at hO63
    refine ⟨k+1,A5',n5',c5',A6',n6',c6',by omega,rfl,rfl,by go_num,hO52.aside hG6 (fun g hg hg6=>HNE2.out g hg6 hg),hO63,hid (apart_r hO52 hG6 HNE2.out),hB.trans (hb2.trans (hG6.below hsz2 (fun g hg=>(hO62.lt g hg).1)))⟩
   case measure=>simp [intOf];omega
  ·have e:k=16:=by omega
   subst e
   have hf6:(key.drop 16).take 16=k2:=by rw [HK2.out];exact List.take_of_length_le (by rw [HK2L.out];omega)
   rw [hf6] at hO6
   rw [HK1.out] at hO5
   have hm5:=hO5.len
   have hm6:=hO6.len
   rw [HK1L.out] at hm5
   rw [HK2L.out] at hm6
   subst hm5
   subst hm6
   have h5:=hO5.nums
   have h6:=hO6.nums
   have hcb:=clampL_bytZ HK1B.out HK1L.out
   have hcl:=clampL_lengthZ k1
   have HCB:=hid hcb
   have HCL:=hid hcl
   clear hf6 hO5 hO6 hcb hcl HNE hlt hk
   go_wp2_with (fail)
   refine (rclamp_any HK1L.out HK1B.out h5).mono ?_
   rintro e w2 ⟨B2,d2,rfl,hN2,hb2⟩
   go_wp2_with (fail)
   refine (digits_q B2 16 d2 8 (clampLZ k1) w2 HCL.out (by omega) (by decide) HCB.out hN2.nums).mono ?_
   rintro e w3 ⟨B3,d3,rfl,hN3,hb3⟩
   go_wp2_with (fail)
   refine (modd_q B3 16 d3 8 (clampLZ k1) w3 HCL.out (by omega) (by decide) HCB.out hN3.nums).mono ?_
   rw [HRR.out]
   rintro e w4 ⟨B4,d4,rs,rfl,HRS,hN4,hb4⟩
   have hb24:Below W1.heap.size W1 w4:=hb2.trans ((Below.mono hb3 hb2.size).trans (Below.mono hb4 (Nat.le_trans hb2.size hb3.size)))
   have hB4:Below W0.heap.size W0 w4:=hB.trans (Below.mono hb24 hsz)
   have h64:=h6.below hb24
   have hA4:=hA0.below hB4
   have hR4:=hR.below hB4 (by omega)
   have hW4:Below w.heap.size w w4:=hW.trans (Below.mono hB4 (by omega))
   have hN4':=hN4.nums
   have HO:=HO9.out w4
   have hB5:=below_new w4 (.cells (ints .i64 (nl z10)).toArray 3)
   have hmk:=HMK.out
   clear hN2 hN3 hb2 hb3 hb4 hb24 hB4 h5 h6 hA0 hR hK hW hB hN4 hz0 hsz
   go_wp2
   clear hmk
   have h9:Nums (w4.alloc (.cells (ints .i64 (nl z10)).toArray 3)) .i64 (some ⟨w4.heap.size,0,none⟩) (nl z10):=Owns.nums HO
   have h65:=h64.below hB5
   have hA5:=hA4.below hB5
   have hR5:=hR4.next hB5
   have hW5:=hW4.trans (Below.mono hB5 hW4.size)
   have h85:=hN4'.below hB5
   clear HO hB5 h64 hA4 hR4 hW4 hN4'
   generalize hWW:w4.alloc (.cells (ints .i64 (nl z10)).toArray 3)=W5 at *
   generalize w4.heap.size=b9 at *
   clear hWW
   go_loopw [9,10] (fun v9 v10 wr=>∃(j:Nat) (A9:Option Addr) (d9:Nat) (aa:List Nat),j≤(L+15) / 16∧v9=.slice A9 10 d9∧v10=.int .i64 ((16*j:Nat):Int)∧Hid (R10 aa (accN rr m j))∧Nums wr .i64 A9 (nl aa)∧Below W5.heap.size W5 wr) (fun _ v10 _=>L+16 - (intOf v10).toNat)
   case atStart=>exact ⟨0,_,_,z10,Nat.zero_le _,rfl,rfl,HZ9,h9,Below.refl _ _⟩
   case round =>
    clear h9
    obtain ⟨j,A9,d9,aa,hj,rfl,rfl,HAS,h9,hB⟩:=hrel
    rename World=>W6
    obtain ⟨p,hp⟩:∃p,p=16*j:=⟨_,rfl⟩
    rw [←hp]
    by_cases hlt:p<L
    ·have hpL:(p:Int)<L:=by omega
     have hA6:=hA5.below hB
     have h86:=h85.below hB
     have HCHL:=hid (chunk_length m j)
     have HCHB:=hid (pchunk_byt HMB.out j)
     rw [HL.out] at HCHL
     have HCA:Hid (∀t,t<16→(pchunk m j)[t]? = m[p+t]?):=hid fun t ht=>by rw [hp];exact pchunk_at ht
     have HNX:Hid (accN rr m (j+1)=stepN rr (accN rr m j) (pchunk m j)):=hid (accN_succ _ _ _)
     have HAL:=hid (accN_lt rr m j)
     generalize pchunk m j=ch at *
     have HP:=hid hp
     have hpw:IntKind.i64.wrap ((p:Int)+16)=(p:Int)+16:=IntWalk.i64_in _ (by omega)
     have HP16:Hid ((p:Int)+16=((16*(j+1):Nat):Int)):=hid (by omega)
     clear hp
     go_wp2
     go_loopw [11,12] (fun v11 v12 wr=>∃(t:Nat) (R:Option Addr) (n d:Nat),t≤16∧p+t≤L∧v12=.int .i64 ((p+t:Nat):Int)∧v11=.slice R n d∧Owns wr W6.heap.size 5 .u8 (.slice R n d) (ch.take t)∧Below W6.heap.size W6 wr) (fun _ v12 _=>L - (intOf v12).toNat)
     case atStart=>exact ⟨0,none,0,0,Nat.zero_le _,by omega,rfl,rfl,Owns.none_ _ _ _ _,Below.refl _ _⟩
     case round =>
      obtain ⟨t,R,n,d,ht,htL,rfl,rfl,hO,hB7⟩:=hrel
      rename World=>W7
      have hsz7:=hB7.size
      obtain ⟨q,hq⟩:∃q,q=p+t:=⟨_,rfl⟩
      rw [←hq]
      have HTL:Hid ((ch.take t).length≤16):=hid (by rw [List.length_take];omega)
      by_cases hgo:t<16∧q<L
      ·have hx:=getD_some (l:=m) (i:=q) (by rw [HL.out];exact hgo.2)
       obtain ⟨g,o,rfl,_,cA⟩:=(hA6.below hB7).num (by rw [HL.out];omega)
       have cx:=cA _ _ hx
       have HT:=hid (take_snoc ((HCA.out t hgo.1).trans (by rw [←hq];exact hx)))
       have HW5:Hid (∀A' n' c' w2,Grew W7 w2 (Value.slice R n d) (Value.slice A' n' c')→Below W6.heap.size W6 w2):=hid fun A' n' c' w2 hG=>hB7.trans (hG.below hsz7 (fun g hg=>(hO.lt g hg).1))
       generalize m.getD q 0=x at *
       have q0:(0:Int)≤q:=by omega
       have qL:(q:Int)<L:=by omega
       have q16:(q:Int)<(p:Int)+16:=by omega
       have hqw:IntKind.i64.wrap ((q:Int)+1)=((p+(t+1):Nat):Int):=by rw [IntWalk.i64_in _ (by omega)];omega
       have HG:=hid (And.intro hgo hq)
       clear hgo hq hx cA
       go_wp2_with (at_builtin;refine app_oneP rfl (.tmp 59) (.tmp 64) 23 rfl W6.heap.size 5 .u8 1 Tryz.underlying23 infB3 (by omega) R n d (ch.take t) rfl hO _ 1 rfl (by have:=HTL.out;omega) hsz7 ?_;intro A' n' c' w2 hO2 hG2)
       go_roundw
       case rel =>
        rw [←HT.out] at hO2
        exact ⟨t+1,A',n',c',by have:=HG.out;omega,by have:=HG.out;omega,rfl,rfl,hO2,HW5.out _ _ _ _ hG2⟩
       case measure=>simp [intOf];have:=HG.out;omega
      ·have hch:ch.take t=ch:=List.take_of_length_le (by rw [HCHL.out,←HP.out];omega)
       rw [hch] at hO HTL
       obtain ⟨lp,hlp⟩:∃lp,lp=ch.length:=⟨_,rfl⟩
       have HPL:Hid ((ch++[(1:Int)]).length=lp+1):=hid (by rw [List.length_append,hlp];rfl)
       have HPB:=hid (one_byt HCHB.out)
       have HP17:Hid (lp+1≤17):=hid (by have:=HTL.out;omega)
       have HST:=hid (ref_step (r:=rr) (s:=accN rr m j) (x:=ch))
       rw [←HNX.out] at HST
       have HW5:Hid (∀A' n' c' w2,Grew W7 w2 (Value.slice R n d) (Value.slice A' n' c')→Below W6.heap.size W6 w2):=hid fun A' n' c' w2 hG=>hB7.trans (hG.below hsz7 (fun g hg=>(hO.lt g hg).1))
       have hguard:((q:Int)<(p:Int)+16∧¬q<L)∨¬(q:Int)<(p:Int)+16:=by
        by_cases h16:(q:Int)<(p:Int)+16
        ·left
         exact ⟨h16,by omega⟩
        ·right;exact h16
       clear hgo hq hlp hch ht htL
       rcases hguard with ⟨g1,g2⟩|g1
       all_goals
        go_wp2_with (at_builtin;refine app_oneP rfl (.tmp 66) (.tmp 67) 23 rfl W6.heap.size 5 .u8 1 Tryz.underlying23 infB3 (by omega) R n d ch rfl hO _ 1 rfl (by have:=HTL.out;omega) hsz7 ?_;intro A' n' c' w8 hO8 hG8)
        have hn8:=hO8.len
        rw [HPL.out] at hn8
        subst hn8
        have hb8:=HW5.out _ _ _ _ hG8
        have h98:=h9.below hb8
        have h88:=h86.below hb8
        have hN8:=hO8.nums
        have hB8:=hB.trans (Below.mono hb8 hB.size)
        clear hO hB7 hsz7 hG8 hO8 hb8
        obtain ⟨qq,hqq⟩:∃qq,(lp+1+1) / 2=qq:=⟨_,rfl⟩
        refine (digits_q A' (lp+1) c' qq (ch++[1]) w8 HPL.out (by have:=HP17.out;omega) hqq HPB.out hN8).mono ?_
        rintro e wa ⟨Ba,da,rfl,hNa,hba⟩
        have h9a:=h98.below hba
        have h8a:=h88.below hba
        have hBa:=hB8.trans (Below.mono hba hB8.size)
        clear h98 h88 hB8 hN8 hba
        go_wp2_with (fail)
        refine (modd_q Ba (lp+1) da qq (ch++[1]) wa HPL.out (by have:=HP17.out;omega) hqq HPB.out hNa.nums).mono ?_
        rintro e wb ⟨Bb,db,ps,rfl,HPS,hNb,hbb⟩
        have h9b:=h9a.below hbb
        have h8b:=h8a.below hbb
        have hBb:=hBa.trans (Below.mono hbb hBa.size)
        clear h9a h8a hBa hNa hbb
        go_wp2_with (fail)
        refine (radd_any (cA:=d9) (cB:=db) HAS.out HPS.out (two_pn HAL.out (Nat.mod_lt _ pn_posZ)) h9b hNb.nums).mono ?_
        rintro e wc ⟨Bc,dc,us,rfl,HUS,hNc,hbc⟩
        have h8c:=h8b.below hbc
        have hBc:=hBb.trans (Below.mono hbc hBb.size)
        clear h9b h8b hBb hNb hbc
        go_wp2_with (fail)
        refine (rmul_any (cA:=dc) (cB:=d4) HUS.out HRS.out hNc.nums h8c).mono ?_
        rw [HST.out]
        rintro e wd ⟨Bd,dd,vs,rfl,HVS,hNd,hbd⟩
        have hBd:=hBc.trans (Below.mono hbd hBc.size)
        have hNd':=hNd.nums
        clear h8c hBc hNc hbd hNd
        go_wp2
        go_roundw
        case rel=>exact ⟨j+1,Bd,dd,vs,by have:=HP.out;omega,rfl,by rw [HP16.out],HVS,hNd',hBd⟩
        case measure=>have h1:=HP.out;have h2:=HP16.out;simp [intOf];omega
    ·have hS:accN rr m j=sumN rr m:=by unfold sumN;congr 1;rw [HL.out];omega
     rw [hS] at HAS
     have h66:=h65.below hB
     have hR6:=hR5.next hB
     have hW6:=hW5.trans (Below.mono hB hW5.size)
     have hpL:¬(p:Int)<L:=by omega
     have HSL:=hid (sumN_lt rr m)
     generalize sumN rr m=S at *
     clear hS h85 hA5 h65 hR5 hW5 hB hp hj hlt
     go_wp2_with (fail)
     refine (digits_q R6 16 d6 8 k2 W6 HK2L.out (by omega) (by decide) HK2B.out h66).mono ?_
     rintro e w7 ⟨B7,d7,rfl,hN7,hb7⟩
     obtain ⟨ss,hs1,hs2,hs3,hs4⟩:=pr_nl HK2B.out
     rw [HK2L.out] at hs2
     have hN7':=hN7.nums
     rw [←hs1] at hN7'
     have HSS:=hid (And.intro hs2 (And.intro hs3 hs4))
     have h97:=h9.below hb7
     have hR7:=hR6.next hb7
     have hW7:=hW6.trans (Below.mono hb7 hW6.size)
     clear hs1 hs2 hs3 hs4 hN7 h9 hR6 hW6 h66 hb7
     have hb14:=below_new w7 (.cells (ints .u8 (zeros 16)).toArray 54)
     have h14:=Arr.made w7 .u8 (zeros 16) 54
     have HI0:=hid (RI.start aa ss)
     have hlt7:=hR7.lt (by rw [zeros_len];omega)
     have hw7:=hW7.size
     go_wp2
     obtain ⟨b14,hbe⟩:∃b,b=w7.heap.size:=⟨_,rfl⟩
     rw [←hbe] at h14 hb14 hlt7 ⊢
     have HBE:=hid hbe
     clear hbe
     generalize w7.alloc (.cells (ints .u8 (zeros 16)).toArray 54)=W9 at *
     go_loopw [15,16] (fun v15 v16 wr=>∃(k cyZ:Nat) (zs:List Int),k≤8∧v15=.int .i64 (cyZ:Int)∧v16=.int .i64 (k:Int)∧Hid (RI aa ss k zs cyZ)∧Arr wr b14 0 .u8 zs∧Below b14 w7 wr) (fun _ v16 _=>8 - (intOf v16).toNat)
     case atStart=>exact ⟨0,0,zeros 16,by omega,rfl,rfl,HI0,h14,hb14⟩
     case round =>
      clear h14 hb14 HI0
      obtain ⟨k,cyZ,zs,hk,rfl,rfl,HI,h14,hB⟩:=hrel
      rename World=>W8
      have hBw:Below w7.heap.size w7 W8:=by rw [←HBE.out];exact hB
      by_cases hlt:k<8
      ·have hxa:=nat_at (l:=aa) (k:=k) (by rw [HAS.out.1];omega)
       have hya:=nat_at (l:=ss) (k:=k) (by rw [HSS.out.1];exact hlt)
       have hxd:=getD_dig HAS.out.2.1 k
       have hyd:=getD_dig HSS.out.2.1 k
       obtain ⟨g9,o9,rfl,_,c9⟩:=(h97.below hBw).num (by rw [nl_length,HAS.out.1];omega)
       obtain ⟨g7,o7,rfl,_,c7⟩:=(hN7'.below hBw).num (by rw [nl_length,HSS.out.1];omega)
       have cx:=c9 k _ (nl_at (by rw [HAS.out.1];omega))
       have cy0:=c7 k _ (nl_at (by rw [HSS.out.1];exact hlt))
       have hcy:=HI.out.2.2.1
       have HST:=hid (fun t ht=>HI.out.step (t:=t) hlt hxa hya hxd hyd ht)
       obtain ⟨z,cz,fz,_⟩:=h14.spot (i:=2*k) (by rw [HI.out.1];omega)
       obtain ⟨z2,cz2,fz2,_⟩:=h14.spot (i:=2*k+1) (by rw [HI.out.1];omega)
       rw [Nat.zero_add] at cz fz cz2 fz2
       clear c9 c7 hxa hya
       generalize aa.getD k 0=x at *
       generalize ss.getD k 0=y at *
       obtain ⟨t,ht⟩:∃t,t=x+y+cyZ:=⟨_,rfl⟩
       have HN:=hid (HST.out t ht)
       have w1':IntKind.i64.wrap ((x:Int)+y)=(x:Int)+y:=IntWalk.i64_in _ (by omega)
       have w2':IntKind.i64.wrap ((x:Int)+y+cyZ)=(t:Int):=by rw [IntWalk.i64_in _ (by omega)];omega
       have htl:t<200000:=by omega
       have HT:=hid (And.intro ht (And.intro hxd (And.intro hyd hcy)))
       clear ht hxd hyd hcy HST
       obtain ⟨p,hp⟩:∃p,p=2*k:=⟨_,rfl⟩
       obtain ⟨q,hq⟩:∃q,q=p+1:=⟨_,rfl⟩
       rw [←hp] at cz fz cz2 fz2 HN
       rw [←hq] at cz2 fz2 HN
       have hwp:IntKind.i64.wrap (2*(k:Int))=(p:Int):=by rw [IntWalk.i64_in _ (by omega)];omega
       have hwq:IntKind.i64.wrap ((p:Int)+1)=(q:Int):=by rw [IntWalk.i64_in _ (by omega)];omega
       have k0:(0:Int)≤k:=by omega
       have k8:(k:Int)<8:=by omega
       have k10:(k:Int)<10:=by omega
       have p0:(0:Int)≤p:=by omega
       have p16:(p:Int)<16:=by omega
       have q0:(0:Int)≤q:=by omega
       have q16:(q:Int)<16:=by omega
       have pq:p≠q:=by omega
       have hwk:IntKind.i64.wrap ((k:Int)+1)=(k:Int)+1:=IntWalk.i64_in _ (by omega)
       have HPQ:=hid (And.intro hp hq)
       clear hp hq
       have t1:(t:Int)%256=((t%256:Nat):Int):=by omega
       have t2:Int.tmod (t:Int) 256=((t%256:Nat):Int):=by rw [Int.tmod_eq_emod_of_nonneg (by omega)];omega
       have t3:IntKind.u8.wrap ((t%256:Nat):Int)=((t%256:Nat):Int):=IntWalk.u8_in _ (by omega)
       have u1:(t:Int) / 256=((t / 256:Nat):Int):=by omega
       have u2:Int.tdiv (t:Int) 256=((t / 256:Nat):Int):=by rw [Int.tdiv_eq_ediv_of_nonneg (by omega)];omega
       have u3:IntKind.i64.wrap ((t / 256:Nat):Int)=((t / 256:Nat):Int):=IntWalk.i64_in _ (by omega)
       have u4:((t / 256:Nat):Int)%256=((t / 256%256:Nat):Int):=by omega
       have u5':Int.tmod ((t / 256:Nat):Int) 256=((t / 256%256:Nat):Int):=by rw [Int.tmod_eq_emod_of_nonneg (by omega)];omega
       have u6:IntKind.u8.wrap ((t / 256%256:Nat):Int)=((t / 256%256:Nat):Int):=IntWalk.u8_in _ (by omega)
       have v1:(t:Int) / 65536=((t / 65536:Nat):Int):=by omega
       have v2:Int.tdiv (t:Int) 65536=((t / 65536:Nat):Int):=by rw [Int.tdiv_eq_ediv_of_nonneg (by omega)];omega
       have v3:IntKind.i64.wrap ((t / 65536:Nat):Int)=((t / 65536:Nat):Int):=IntWalk.i64_in _ (by omega)
       generalize t / 256%256=e1 at *
       generalize t / 256=e2 at *
       generalize t%256=e0 at *
       generalize t / 65536=e3 at *
       have HTL:=hid htl
       clear htl
       go_wp2
       go_quiet (fail)
       replace h14:=h14.drewN nq
       replace hB:=below_drewN hB nq
       replace cz:(W8.drewN nq).cell? _=_:=cz
       replace fz:(W8.drewN nq).frozen? _=_:=fz
       replace cz2:(W8.drewN nq).cell? _=_:=cz2
       replace fz2:(W8.drewN nq).frozen? _=_:=fz2
       clear cx cy0 w1' w2' hBw
       generalize W8.drewN nq=Wa at *
       have hD1:=(h14.set p (e0:Int)).set q (e1:Int)
       rw [Nat.zero_add,Nat.zero_add] at hD1
       go_wp2
       go_roundw
       case rel=>exact ⟨k+1,e3,_,by omega,rfl,by go_num,HN,hD1,(hB.setCell (by show b14≤b14;omega) _).setCell (by show b14≤b14;omega) _⟩
       case measure=>simp [intOf];omega
      ·have e:k=8:=by omega
       subst e
       have HE:=hid (HI.out.end_ HAS.out HSS.out.1 HSS.out.2.2)
       rw [HE.out,HR.out] at h14
       have hR8:=hR7.next hBw
       have hW8:=hW7.trans (Below.mono hBw hW7.size)
       have hs1:W8.there (w.heap.size+1) 0 (ints .u8 r).toArray.size:=hR8.room (by rw [zeros_len];exact HRL.out)
       have hR9:=hR8.stored (l':=r) (by rw [zeros_len];exact HRL.out)
       have hW9:=Below.setCells hW8 (g:=w.heap.size+1) (by omega) 0 (ints .u8 r).toArray.toList
       go_wp2_with (first
        | (with_reducible refine wpList_load_mid (op:=⟨some 109,.load 54 (.tmp 14),_,_,_,_⟩) rfl 54 (.tmp 14) rfl b14 0 rfl (ints .u8 r) _ (h14.range) Tryz.underlying54 rfl (l33 HRL.out) ?_)
        | (with_reducible refine wpList_store_mid (op:=⟨none,.store 54 (.tmp 4) (.tmp 109),_,_,_,_⟩) rfl 54 (.tmp 4) (.tmp 109) rfl (w.heap.size+1) 0 (ints .u8 r).toArray rfl rfl hs1 (a33 HRL.out) (ints_all _ _) ?_))
       exact ret_rows rfl (w.heap.size+1) 0 rfl (ints .u8 r) _ hR9.range Tryz.underlying54 rfl (l33 HRL.out) rfl ⟨rfl,hW9⟩
theorem rtag_any (key m:List Int) (A:Option Addr) (L c:Nat) (w:World) (hk:key.length=32) (hkb:Byt key) (hl:m.length=L) (hn:L≤1000) (hmb:Byt m) (hA:Nums w .u8 A m) :
 Calls Tryz.prog 70 #[.agg (ints .u8 key).toArray,.slice A L c] w fun e w'=>e=.returned (.agg (ints .u8 (tagL key m)).toArray)∧Below w.heap.size w w' :=
 rtag_core key m (tagL key m) (key.take 16) (key.drop 16) (bn (clampLZ (key.take 16))) A L c w (hid hk) (hid hkb) (hid rfl) (hid rfl) (hid (by simp [hk])) (hid (by simp [hk])) (hid (hkb.take 16)) (hid (hkb.drop 16)) (hid rfl) hl hn (hid hmb) hA (hid rfl) (hid (lb_length _))
theorem zeros_pad:zeros 17=padBZ []:=by simp [padBZ]
set_option maxHeartbeats 4000000 in
theorem mix_core (b:Nat) (s t blk x y r:List Int) (fl:Nat) (w:World) (hH:Tgr w b s t blk fl) (hfl:fl≤16) (HX:Hid (blk.set fl 1=x))
 (HRL:Hid (r.length=17)) (HRB:Hid (Byt r)) (KA:Hid (CallsTo 113 #[.agg (ints .u8 s).toArray,.agg (ints .u8 x).toArray] (.agg (ints .u8 y).toArray))) (KM:Hid (CallsTo 114 #[.agg (ints .u8 y).toArray,.agg (ints .u8 t).toArray] (.agg (ints .u8 r).toArray))) :
 Calls Tryz.prog 91 #[.pointer (some ⟨b,0,none⟩)] w fun e w'=>e=.returned (.tuple #[])∧Tgr w' b r t (zeros 17) 0∧Only b w w':=by
 obtain ⟨z25,s25⟩:=zero_of_info inf25
 have fc:=hH.fc
 have HB0:=hid hH.bl
 obtain ⟨z,cz,fz,_⟩:=hH.bk.spot (i:=fl) (by rw [hH.bl];omega)
 have f0:(0:Int)≤fl:=by omega
 have f1:(fl:Int)<17:=by omega
 have hH1:=hH.drew.put fl (x:=1) (by omega) (by omega)
 rw [HX.out] at hH1
 have hO1:Only b w (w.drew.setCell ⟨b,34+fl,none⟩ (.int .u8 1)):=(Only.refl b w).drew.setCell (.inl rfl) _
 clear hH
 go_enter Tryz.func91,Tryz.ntmps91
 go_wp2
 go_still_tail 8,(by kernel_rfl)
 change wpList _ _ _ _ _ w.drew
 have cz1:w.drew.cell? ⟨b,34+fl,none⟩=some (.int .u8 z):=cz
 have fz1:w.drew.frozen? ⟨b,34+fl,none⟩=false:=fz
 clear cz fz fc
 generalize w.drew=wd at *
 go_wp2_with (fail)
 generalize wd.setCell ⟨b,34+fl,none⟩ (.int .u8 1)=w0 at *
 clear cz1 fz1
 have hH:=hH1
 have hH0:=hH1
 clear hH1
 have hW:=Below.refl w0.heap.size w0
 have s0:=hW.size
 refine rSpec 17 34 (fun _=>false) [Is (.pointer (some ⟨b,0,none⟩)),Is (.pointer (some ⟨b,0,none⟩)),Is (.pointer (some ⟨b,0,none⟩)),Is (.pointer (some ⟨b,0,none⟩)),Is (.agg (ints .u8 s).toArray),Is (.pointer (some ⟨b,0,none⟩)),Is (.pointer (some ⟨b,0,none⟩)),Is (.pointer (some ⟨b,34,none⟩)),Is (.agg (ints .u8 x).toArray),Is (.agg (ints .u8 y).toArray),Is (.pointer (some ⟨b,0,none⟩)),Is (.pointer (some ⟨b,0,none⟩)),Is (.pointer (some ⟨b,17,none⟩)),Is (.agg (ints .u8 t).toArray),Is (.agg (ints .u8 r).toArray),Is (.pointer (some ⟨b,0,none⟩)),Is (.pointer (some ⟨b,0,none⟩))] [10,11,12,13,14,15,16,17,18,19,20,21,22,23,24,25,26] (gC (gC (gC (gC (gC (gC (gC (gC (gC (gC (gC (gC (gC (gC (gC (gC (gC grows_nil)))))))))))))))))
  ⟨step_mvP rfl (.inl rfl) rfl rfl (kO 0 rfl),
   step_mvP rfl (.inl rfl) rfl rfl (kO 0 rfl),
   step_one rfl (.inl rfl) (fun ev w h hc=>ex_nilc rfl ev w h hc) rfl (kI 1 11 rfl rfl),
   step_one rfl (.inl rfl) (fun ev w h hc=>ex_fld (P:=Tryz.prog) rfl (fldT0 _) ev w h hc) rfl (kI 2 12 rfl rfl),
   step_ldV rfl (.inl rfl) (fun _ hw=>((hH.su.rw.next hw)).range) rfl Tryz.underlying120 rfl (szV inf25 (il hH.sl)) rfl (kI 3 13 rfl rfl),
   step_mvP rfl (.inl rfl) rfl rfl (kO 0 rfl),
   step_one rfl (.inl rfl) (fun ev w h hc=>ex_nilc rfl ev w h hc) rfl (kI 5 15 rfl rfl),
   step_one rfl (.inl rfl) (fun ev w h hc=>ex_fld (P:=Tryz.prog) rfl (fldT2 _) ev w h hc) rfl (kI 6 16 rfl rfl),
   step_ldV rfl (.inl rfl) (fun _ hw=>((hH.bk.rw.next hw)).range) rfl Tryz.underlying120 rfl (szV inf25 (il hH.bl)) rfl (kI 7 17 rfl rfl),
   step_to rfl (.inl rfl) rfl cx11 KA.out rfl (two_args (kI 4 14 rfl rfl) (kI 8 18 rfl rfl)),
   step_mvP rfl (.inl rfl) rfl rfl (kO 0 rfl),
   step_one rfl (.inl rfl) (fun ev w h hc=>ex_nilc rfl ev w h hc) rfl (kI 10 20 rfl rfl),
   step_one rfl (.inl rfl) (fun ev w h hc=>ex_fld (P:=Tryz.prog) rfl (fldT1 _) ev w h hc) rfl (kI 11 21 rfl rfl),
   step_ldV rfl (.inl rfl) (fun _ hw=>((hH.ti.rw.next hw)).range) rfl Tryz.underlying120 rfl (szV inf25 (il hH.tl)) rfl (kI 12 22 rfl rfl),
   step_to rfl (.inl rfl) rfl cx13 KM.out rfl (two_args (kI 9 19 rfl rfl) (kI 13 23 rfl rfl)),
   step_one rfl (.inl rfl) (fun ev w h hc=>ex_nilc rfl ev w h hc) rfl (kI 0 10 rfl rfl),
   step_one rfl (.inl rfl) (fun ev w h hc=>ex_fld (P:=Tryz.prog) rfl (fldT0 _) ev w h hc) rfl (kI 15 25 rfl rfl),trivial⟩ ?_
 intro val w1 hw hS hap hla
 simp only [pA,pB,pC,pD,pE,Act.put,pG,pH,pI,eVal hS 0 10 rfl rfl,eVal hS 1 11 rfl rfl,eVal hS 2 12 rfl rfl,eVal hS 3 13 rfl rfl,eVal hS 4 14 rfl rfl,eVal hS 5 15 rfl rfl,eVal hS 6 16 rfl rfl,eVal hS 7 17 rfl rfl,eVal hS 8 18 rfl rfl,eVal hS 9 19 rfl rfl,eVal hS 10 20 rfl rfl,eVal hS 11 21 rfl rfl,eVal hS 12 22 rfl rfl,eVal hS 13 23 rfl rfl,eVal hS 14 24 rfl rfl,eVal hS 15 25 rfl rfl,eVal hS 16 26 rfl rfl]
 clear hS hap hla
 replace hH:=hH.next hw
 replace hW:=bT hW hw
 clear hw
 have hO2:=(Only.of hW b).setCells (.inl rfl) 0 (ints .u8 r).toArray.toList
 have hH2:=hH.sum HRL.out HRB.out
 have R0:w1.there b 0 (ints .u8 r).toArray.size:=hH.su.room (by rw [HRL.out,hH.sl])
 clear hH hH0 hW
 with_reducible refine wpList_store_mid (op:=⟨none,.store 120 (.tmp 26) (.tmp 24),_,_,_,_⟩) rfl 120 (.tmp 26) (.tmp 24) rfl b 0 (ints .u8 r).toArray rfl rfl R0 (a25 HRL.out) (ints_all _ _) ?_
 generalize w1.setCells b 0 (ints .u8 r).toArray.toList=w2 at *
 have R34:w2.there b 34 (ints .u8 (zeros 17)).toArray.size:=hH2.bk.room (by rw [zeros_len,hH2.bl])
 have hH3:=hH2.blk_ (zeros_len 17) (byt_zeros 17)
 have hO3:=hO2.setCells (.inl rfl) 34 (ints .u8 (zeros 17)).toArray.toList
 have fc3:=hH3.fc
 have fz3:=hH3.fz
 clear hH2 hO2
 go_wp2_with (first
  | (with_reducible refine wpList_built (o:=⟨some 29,.build 120 #[],_,_,_,_⟩) rfl 120 #[] rfl [] (ints .u8 (zeros 17)).toArray rfl built25 ?_)
  | (with_reducible refine wpList_store_mid (op:=⟨none,.store 120 (.tmp 31) (.tmp 29),_,_,_,_⟩) rfl 120 (.tmp 31) (.tmp 29) rfl b 34 (ints .u8 (zeros 17)).toArray rfl rfl R34 (a25 (zeros_len 17)) (ints_all _ _) ?_;generalize w2.setCells b 34 (ints .u8 (zeros 17)).toArray.toList=w3 at *))
 go_end0
 exact ⟨rfl,hH3.fill 0,(hO1.trans hO3).setCell (.inl rfl) _⟩
theorem pmix_any (b:Nat) (q:Nat) (t x:List Int) (fl:Nat) (w:World) (hq:q<PNZ) (hx:x.length=fl) (hf:fl≤16) (hH:Tgr w b (pb q) t (padBZ x) fl) :
 Calls Tryz.prog 91 #[.pointer (some ⟨b,0,none⟩)] w fun e w'=>e=.returned (.tuple #[])∧Tgr w' b (pb (stepN (bn t) q x)) t (padBZ []) 0∧Only b w w':=by
 subst hx
 have h1:=padB_one hf
 have l1:(padBZ (x++[1])).length=17:=padB_lengthZ (by simp;omega)
 have b1:Byt (padBZ (x++[1])):=by
  rw [←h1]
  intro y hy
  rcases List.mem_or_eq_of_mem_set hy with e|e
  ·exact hH.bb y e
  ·omega
 have ka:=c_addZ hH.sl l1 hH.sb b1
 have km:=c_mulZ (pb_length _) hH.tl (pb_byt ((bn (pb q)+bn (padBZ (x++[1])))%PNZ)) hH.tb
 rw [pmod_bn,mix_step hq] at km
 rw [←zeros_pad]
 exact mix_core b (pb q) t (padBZ x) (padBZ (x++[1])) _ _ x.length w hH hf (hid h1) (hid (pb_length _)) (hid (pb_byt _)) (hid ka) (hid km)
end Go.Proofs.YtkblmdakejmmhaaGreatDoor
