import Derived.Test.YtkblmdakejmmhaaGreatDoorG26
namespace Go.Proofs.YtkblmdakejmmhaaGreatDoor
open Go Go.RowKit
set_option maxRecDepth 50000
theorem set8 (l:List Int) {a b c d:Nat} (h1:a≠b) (h2:a≠c) (h3:a≠d) (h4:b≠c) (h5:b≠d) (h6:c≠d) (a1 d1 c1 b1 a2 d2 c2 b2:Int) :
 ((((((((l.set a a1).set d d1).set c c1).set b b1).set a a2).set d d2).set c c2).set b b2)=(((l.set a a2).set b b2).set c c2).set d d2:=by
 apply List.ext_getElem?
 intro i
 simp only [List.getElem?_set,List.length_set]
 by_cases ha:a=i <;> by_cases hb:b=i <;> by_cases hc:c=i <;> by_cases hd:d=i <;> simp [ha,hb,hc,hd] <;> omega
set_option maxHeartbeats 4000000 in
theorem rquarter_any (g n cp ia ib ic ie:Nat) (l:List Int) (w:World) (hl:Hid (l.length=n)) (hw0:Hid (Wds l)) (q1:ia<n) (q2:ib<n) (q3:ic<n) (q4:ie<n)
 (D12:ia≠ib) (D13:ia≠ic) (D14:ia≠ie) (D23:ib≠ic) (D24:ib≠ie) (D34:ic≠ie) (hA:Arr w g 0 .u32 l) :
 Calls Tryz.prog 99 #[.slice (some ⟨g,0,none⟩) n cp,.int .i64 (ia:Int),.int .i64 (ib:Int),.int .i64 (ic:Int),.int .i64 (ie:Int)] w fun e w'=>e=.returned (.tuple #[])∧Arr w' g 0 .u32 (qAt l (ia,ib,ic,ie))∧Only g w w':=by
 have D21:=Ne.symm D12
 have D31:=Ne.symm D13
 have D41:=Ne.symm D14
 have D32:=Ne.symm D23
 have D42:=Ne.symm D24
 have D43:=Ne.symm D34
 have ha0:(0:Int)≤ia:=by omega
 have hb0:(0:Int)≤ib:=by omega
 have hc0:(0:Int)≤ic:=by omega
 have he0:(0:Int)≤ie:=by omega
 have ha1:(ia:Int)<n:=by omega
 have hb1:(ib:Int)<n:=by omega
 have hc1:(ic:Int)<n:=by omega
 have he1:(ie:Int)<n:=by omega
 obtain ⟨xa,hxa⟩:∃x,l[ia]? = some x:=⟨l[ia]'(by rw [hl.out];exact q1),by simp [hl.out,q1]⟩
 obtain ⟨xb,hxb⟩:∃x,l[ib]? = some x:=⟨l[ib]'(by rw [hl.out];exact q2),by simp [hl.out,q2]⟩
 obtain ⟨xc,hxc⟩:∃x,l[ic]? = some x:=⟨l[ic]'(by rw [hl.out];exact q3),by simp [hl.out,q3]⟩
 obtain ⟨xd,hxd⟩:∃x,l[ie]? = some x:=⟨l[ie]'(by rw [hl.out];exact q4),by simp [hl.out,q4]⟩
 have hwb:=hw0.out.at_ hxb
 have hwd:=hw0.out.at_ hxd
 obtain ⟨a1,e1⟩:∃z,(xa+xb)%4294967296=z:=⟨_,rfl⟩
 obtain ⟨x1,f1⟩:∃z,bits .xor .u32 xd a1=z:=⟨_,rfl⟩
 obtain ⟨d1,g1⟩:∃z,rotZ x1 16=z:=⟨_,rfl⟩
 obtain ⟨c1,e2⟩:∃z,(xc+d1)%4294967296=z:=⟨_,rfl⟩
 obtain ⟨x2,f2⟩:∃z,bits .xor .u32 xb c1=z:=⟨_,rfl⟩
 obtain ⟨b1,g2⟩:∃z,rotZ x2 20=z:=⟨_,rfl⟩
 obtain ⟨a2,e3⟩:∃z,(a1+b1)%4294967296=z:=⟨_,rfl⟩
 obtain ⟨x3,f3⟩:∃z,bits .xor .u32 d1 a2=z:=⟨_,rfl⟩
 obtain ⟨d2,g3⟩:∃z,rotZ x3 24=z:=⟨_,rfl⟩
 obtain ⟨c2,e4⟩:∃z,(c1+d2)%4294967296=z:=⟨_,rfl⟩
 obtain ⟨x4,f4⟩:∃z,bits .xor .u32 b1 c2=z:=⟨_,rfl⟩
 obtain ⟨b2,g4⟩:∃z,rotZ x4 25=z:=⟨_,rfl⟩
 have r1:qa xa xb xc xd=a2:=by subst e1 f1 g1 e2 f2 g2 e3;rfl
 have r2:qb xa xb xc xd=b2:=by subst e1 f1 g1 e2 f2 g2 e3 f3 g3 e4 f4 g4;rfl
 have r3:qc xa xb xc xd=c2:=by subst e1 f1 g1 e2 f2 g2 e3 f3 g3 e4;rfl
 have r4:qd xa xb xc xd=d2:=by subst e1 f1 g1 e2 f2 g2 e3 f3 g3;rfl
 have Hx1:Hid (WdZ x1):=hid (by rw [←f1];exact xr_wdZ hwd (by rw [←e1];exact pl_wd _ _))
 have k1:WdZ d1:=by rw [←g1];exact rot_wdZ (by omega) Hx1.out
 have Hx2:Hid (WdZ x2):=hid (by rw [←f2];exact xr_wdZ hwb (by rw [←e2];exact pl_wd _ _))
 have k2:WdZ b1:=by rw [←g2];exact rot_wdZ (by omega) Hx2.out
 have Hx3:Hid (WdZ x3):=hid (by rw [←f3];exact xr_wdZ k1 (by rw [←e3];exact pl_wd _ _))
 have Hx4:Hid (WdZ x4):=hid (by rw [←f4];exact xr_wdZ k2 (by rw [←e4];exact pl_wd _ _))
 have Gx1:=hid g1
 have Gx2:=hid g2
 have Gx3:=hid g3
 have Gx4:=hid g4
 have RES:Hid (qAt l (ia,ib,ic,ie)=((((((((l.set ia a1).set ie d1).set ic c1).set ib b1).set ia a2).set ie d2).set ic c2).set ib b2)):=hid (by
  rw [set8 l D12 D13 D14 D23 D24 D34]
  unfold qAt
  simp only [List.getD_eq_getElem?_getD,hxa,hxb,hxc,hxd,Option.getD_some,r1,r2,r3,r4])
 have F1:=hid hxa
 have F2:=hid hxb
 have F3:=hid hxc
 have F4:=hid hxd
 have HP0:Hid (0<l.length):=hid (by rw [hl.out];omega)
 have hgl:g<w.heap.size:=hA.lt HP0.out
 have hO:Only g w w:=Only.refl _ _
 clear g1 g2 g3 g4 k1 k2 r1 r2 r3 r4 hxa hxb hxc hxd hwb hwd hl hw0 q1 q2 q3 q4
 obtain ⟨l1,hl1⟩:∃m,l.set ia a1=m:=⟨_,rfl⟩
 obtain ⟨l2,hl2⟩:∃m,l1.set ie d1=m:=⟨_,rfl⟩
 obtain ⟨l3,hl3⟩:∃m,l2.set ic c1=m:=⟨_,rfl⟩
 obtain ⟨l4,hl4⟩:∃m,l3.set ib b1=m:=⟨_,rfl⟩
 obtain ⟨l5,hl5⟩:∃m,l4.set ia a2=m:=⟨_,rfl⟩
 obtain ⟨l6,hl6⟩:∃m,l5.set ie d2=m:=⟨_,rfl⟩
 obtain ⟨l7,hl7⟩:∃m,l6.set ic c2=m:=⟨_,rfl⟩
 obtain ⟨l8,hl8⟩:∃m,l7.set ib b2=m:=⟨_,rfl⟩
 have RES2:Hid (qAt l (ia,ib,ic,ie)=l8):=hid (by rw [RES.out,hl1,hl2,hl3,hl4,hl5,hl6,hl7,hl8])
 have L1:=hid hl1
 have L2:=hid hl2
 have L3:=hid hl3
 have L4:=hid hl4
 have L5:=hid hl5
 have L6:=hid hl6
 have L7:=hid hl7
 have L8:=hid hl8
 clear RES hl1 hl2 hl3 hl4 hl5 hl6 hl7 hl8
 have E1:IntKind.u32.wrap (xa+xb)=a1:=by rw [IntKind.wrap_u32];exact e1
 have E2:IntKind.u32.wrap (xc+d1)=c1:=by rw [IntKind.wrap_u32];exact e2
 have E3:IntKind.u32.wrap (a1+b1)=a2:=by rw [IntKind.wrap_u32];exact e3
 have E4:IntKind.u32.wrap (c1+d2)=c2:=by rw [IntKind.wrap_u32];exact e4
 rw [RES2.out]
 go_enter Tryz.func99,Tryz.ntmps99
 go_wp2
 have hS0:∀ww,Cl w ww→Arr ww g 0 .u32 l:=fun ww h=>hA.below h hgl
 obtain ⟨up,hup⟩:∃up:Nat→World→World,up=fun _ ww=>ww.setCell ⟨g,ia,none⟩ (.int .u32 a1):=⟨_,rfl⟩
 have hu:∀ww,up 0 ww=ww.setCell ⟨g,ia,none⟩ (.int .u32 a1):=fun ww=>by rw [hup]
 clear hup
 refine region_many 110 (tvOf [(10,(.slice (some ⟨g,0,none⟩) n cp)),(11,(.int .i64 (ia:Int))),(12,(.slice (some ⟨g,0,none⟩) n cp)),(13,(.int .i64 (ia:Int))),(14,(.pointer (some ⟨g,ia,none⟩))),(15,(.int .u32 xa)),(16,(.slice (some ⟨g,0,none⟩) n cp)),(17,(.int .i64 (ib:Int))),(18,(.pointer (some ⟨g,ib,none⟩))),(19,(.int .u32 xb)),(20,(.int .u32 a1)),(21,(.pointer (some ⟨g,ia,none⟩)))]) (kdOf [0,0,0,0,0,1,0,0,0,1,0,0,2]) [12] up [10,11,12,13,14,15,16,17,18,19,20,21] (by kernel_rfl) (by kernel_rfl) (by kernel_rfl) (Nat.le_of_eq rfl)
  ⟨pxm 10 (kxo (.slice (some ⟨g,0,none⟩) n cp) 0 rfl) rfl rfl rfl rfl rfl,
   pxm 11 (kxo (.int .i64 (ia:Int)) 1 rfl) rfl rfl rfl rfl rfl,
   pxm 12 (kxo (.slice (some ⟨g,0,none⟩) n cp) 0 rfl) rfl rfl rfl rfl rfl,
   pxm 13 (kxo (.int .i64 (ia:Int)) 1 rfl) rfl rfl rfl rfl rfl,
   pxb 14 (.pointer (some ⟨g,ia,none⟩)) (kxi (.slice (some ⟨g,0,none⟩) n cp) 2 12 rfl rfl) (kxi (.int .i64 (ia:Int)) 3 13 rfl rfl) rfl rfl rfl rfl (fun ev ww j0 j1=>by unfold execOp;simp only [j0,j1];try go_simp),
   qxa 15 (.int .u32 xa) (kxi (.pointer (some ⟨g,ia,none⟩)) 4 14 rfl rfl) rfl rfl rfl rfl (fun ev ww hw j0=>by have hcc:=(hS0 ww hw).at_ F1.out;rw [Nat.zero_add] at hcc;unfold execOp;simp only [j0];try go_simp),
   pxm 16 (kxo (.slice (some ⟨g,0,none⟩) n cp) 0 rfl) rfl rfl rfl rfl rfl,
   pxm 17 (kxo (.int .i64 (ib:Int)) 2 rfl) rfl rfl rfl rfl rfl,
   pxb 18 (.pointer (some ⟨g,ib,none⟩)) (kxi (.slice (some ⟨g,0,none⟩) n cp) 6 16 rfl rfl) (kxi (.int .i64 (ib:Int)) 7 17 rfl rfl) rfl rfl rfl rfl (fun ev ww j0 j1=>by unfold execOp;simp only [j0,j1];try go_simp),
   qxa 19 (.int .u32 xb) (kxi (.pointer (some ⟨g,ib,none⟩)) 8 18 rfl rfl) rfl rfl rfl rfl (fun ev ww hw j0=>by have hcc:=(hS0 ww hw).at_ F2.out;rw [Nat.zero_add] at hcc;unfold execOp;simp only [j0];try go_simp),
   pxb 20 (.int .u32 a1) (kxi (.int .u32 xa) 5 15 rfl rfl) (kxi (.int .u32 xb) 9 19 rfl rfl) rfl rfl rfl rfl (fun ev ww j0 j1=>by unfold execOp;simp only [j0,j1];try go_simp),
   pxb 21 (.pointer (some ⟨g,ia,none⟩)) (kxi (.slice (some ⟨g,0,none⟩) n cp) 0 10 rfl rfl) (kxi (.int .i64 (ia:Int)) 1 11 rfl rfl) rfl rfl rfl rfl (fun ev ww j0 j1=>by unfold execOp;simp only [j0,j1];try go_simp),
   .put 0 rfl rfl rfl ⟨g,ia,none⟩ (.int .u32 a1) hu fun a ww hw hf hd=>by
    have h21:a.eval (.tmp 21)=(.pointer (some ⟨g,ia,none⟩)):=hd 11 21 (by kernel_rfl) rfl
    have h20:a.eval (.tmp 20)=(.int .u32 a1):=hd 10 20 (by kernel_rfl) rfl
    have hst:Arr (behind up 0 ww) g 0 .u32 l:=hS0 ww hw
    have hcc:=hst.at_ F1.out
    have hff:=hst.free (List.getElem?_eq_some_iff.1 F1.out).1
    rw [Nat.zero_add] at hcc hff
    generalize behind up 0 ww=wb at *
    revert h21 h20
    generalize a.eval=ev
    intro h21 h20
    unfold execOp
    simp only [h21,h20]
    (try go_simp),trivial⟩ ?_
 intro val w9 hv hw
 have e10:val 10=(.slice (some ⟨g,0,none⟩) n cp):=hv 10
 have e11:val 11=(.int .i64 (ia:Int)):=hv 11
 have e12:val 12=(.slice (some ⟨g,0,none⟩) n cp):=hv 12
 have e13:val 13=(.int .i64 (ia:Int)):=hv 13
 have e14:val 14=(.pointer (some ⟨g,ia,none⟩)):=hv 14
 have e15:val 15=(.int .u32 xa):=hv 15
 have e16:val 16=(.slice (some ⟨g,0,none⟩) n cp):=hv 16
 have e17:val 17=(.int .i64 (ib:Int)):=hv 17
 have e18:val 18=(.pointer (some ⟨g,ib,none⟩)):=hv 18
 have e19:val 19=(.int .u32 xb):=hv 19
 have e20:val 20=(.int .u32 a1):=hv 20
 have e21:val 21=(.pointer (some ⟨g,ia,none⟩)):=hv 21
 simp only [putVals,List.foldl_cons,List.foldl_nil,Act.put,List.setIfInBounds_toArray,List.set_cons_succ,List.set_cons_zero,e10,e11,e12,e13,e14,e15,e16,e17,e18,e19,e20,e21]
 clear hv e10 e11 e12 e13 e14 e15 e16 e17 e18 e19 e20 e21
 have hA9:Arr (up 0 w9) g 0 .u32 l1:=by rw [hu,←L1.out];have:=(hS0 w9 hw).set ia a1;rwa [Nat.zero_add] at this
 have hO9:Only g w (up 0 w9):=by rw [hu];exact (hO.trans (Only.of hw g)).setCell (.inl rfl) _
 change Arr (behind up [12].length w9) _ _ _ _ at hA9
 change Only g w (behind up [12].length w9) at hO9
 clear hA hO hS0 hu hw
 generalize behind up [12].length w9=w1 at *
 clear up
 have hgl:g<w1.heap.size:=hA9.lt (by rw [←L1.out,List.length_set];exact HP0.out)
 have HP1:Hid (0<l1.length):=hid (by rw [←L1.out,List.length_set];exact HP0.out)
 have hA:=hA9
 have hO:=hO9
 clear hA9 hO9
 have F1n:Hid (l1[ia]? = some a1):=hid (by rw [←L1.out,List.getElem?_set_self (List.getElem?_eq_some_iff.1 F1.out).1])
 have F2n:Hid (l1[ib]? = some xb):=hid (by rw [←L1.out,List.getElem?_set_ne D12];exact F2.out)
 have F3n:Hid (l1[ic]? = some xc):=hid (by rw [←L1.out,List.getElem?_set_ne D13];exact F3.out)
 have F4n:Hid (l1[ie]? = some xd):=hid (by rw [←L1.out,List.getElem?_set_ne D14];exact F4.out)
 clear F1 F2 F3 F4
 have F1:=F1n
 have F2:=F2n
 have F3:=F3n
 have F4:=F4n
 clear F1n F2n F3n F4n
 go_wp2
 have hS0:∀ww,Cl w1 ww→Arr ww g 0 .u32 l1:=fun ww h=>hA.below h hgl
 obtain ⟨up,hup⟩:∃up:Nat→World→World,up=fun _ ww=>ww.setCell ⟨g,ie,none⟩ (.int .u32 d1):=⟨_,rfl⟩
 have hu:∀ww,up 0 ww=ww.setCell ⟨g,ie,none⟩ (.int .u32 d1):=fun ww=>by rw [hup]
 clear hup
 refine region_many 110 (tvOf [(22,(.slice (some ⟨g,0,none⟩) n cp)),(23,(.int .i64 (ie:Int))),(24,(.slice (some ⟨g,0,none⟩) n cp)),(25,(.int .i64 (ie:Int))),(26,(.pointer (some ⟨g,ie,none⟩))),(27,(.int .u32 xd)),(28,(.slice (some ⟨g,0,none⟩) n cp)),(29,(.int .i64 (ia:Int))),(30,(.pointer (some ⟨g,ia,none⟩))),(31,(.int .u32 a1)),(32,(.int .u32 x1)),(33,(.int .u32 d1)),(34,(.pointer (some ⟨g,ie,none⟩)))]) (kdOf [0,0,0,0,0,1,0,0,0,1,0,1,0,2]) [13] up [22,23,24,25,26,27,28,29,30,31,32,33,34] (by kernel_rfl) (by kernel_rfl) (by kernel_rfl) (Nat.le_of_eq rfl)
  ⟨pxm 22 (kxo (.slice (some ⟨g,0,none⟩) n cp) 0 rfl) rfl rfl rfl rfl rfl,
   pxm 23 (kxo (.int .i64 (ie:Int)) 4 rfl) rfl rfl rfl rfl rfl,
   pxm 24 (kxo (.slice (some ⟨g,0,none⟩) n cp) 0 rfl) rfl rfl rfl rfl rfl,
   pxm 25 (kxo (.int .i64 (ie:Int)) 4 rfl) rfl rfl rfl rfl rfl,
   pxb 26 (.pointer (some ⟨g,ie,none⟩)) (kxi (.slice (some ⟨g,0,none⟩) n cp) 2 24 rfl rfl) (kxi (.int .i64 (ie:Int)) 3 25 rfl rfl) rfl rfl rfl rfl (fun ev ww j0 j1=>by unfold execOp;simp only [j0,j1];try go_simp),
   qxa 27 (.int .u32 xd) (kxi (.pointer (some ⟨g,ie,none⟩)) 4 26 rfl rfl) rfl rfl rfl rfl (fun ev ww hw j0=>by have hcc:=(hS0 ww hw).at_ F4.out;rw [Nat.zero_add] at hcc;unfold execOp;simp only [j0];try go_simp),
   pxm 28 (kxo (.slice (some ⟨g,0,none⟩) n cp) 0 rfl) rfl rfl rfl rfl rfl,
   pxm 29 (kxo (.int .i64 (ia:Int)) 1 rfl) rfl rfl rfl rfl rfl,
   pxb 30 (.pointer (some ⟨g,ia,none⟩)) (kxi (.slice (some ⟨g,0,none⟩) n cp) 6 28 rfl rfl) (kxi (.int .i64 (ia:Int)) 7 29 rfl rfl) rfl rfl rfl rfl (fun ev ww j0 j1=>by unfold execOp;simp only [j0,j1];try go_simp),
   qxa 31 (.int .u32 a1) (kxi (.pointer (some ⟨g,ia,none⟩)) 8 30 rfl rfl) rfl rfl rfl rfl (fun ev ww hw j0=>by have hcc:=(hS0 ww hw).at_ F1.out;rw [Nat.zero_add] at hcc;unfold execOp;simp only [j0];try go_simp),
   pxb 32 (.int .u32 x1) (kxi (.int .u32 xd) 5 27 rfl rfl) (kxi (.int .u32 a1) 9 31 rfl rfl) rfl rfl rfl rfl (fun ev ww j0 j1=>by unfold execOp;simp only [j0,j1];try go_simp),
   .call rfl rfl 33 rfl fun a ww hw hf hd=>by
    have h32:a.eval (.tmp 32)=(.int .u32 x1):=hd 10 32 (by kernel_rfl) rfl
    have c0:a.eval (.const (.int .i64 (16)))=.int .i64 (16):=rfl
    have f16:a.eval (.func 121)=.func (.func 121) #[] #[]:=rfl
    refine ⟨121,#[(.int .u32 x1),(.int .i64 16)],?_,(left_any x1 16 16 ww (by omega) (hid rfl) Hx1).mono fun e w2 ⟨he,hw2⟩=>⟨by rw [he,Gx1.out];rfl,by rw [←hw2];exact Below.refl _ _⟩⟩
    revert h32 c0 f16
    generalize a.eval=ev
    intro h32 c0 f16
    unfold execOp
    simp only [h32,c0,f16]
    (try go_simp),
   pxb 34 (.pointer (some ⟨g,ie,none⟩)) (kxi (.slice (some ⟨g,0,none⟩) n cp) 0 22 rfl rfl) (kxi (.int .i64 (ie:Int)) 1 23 rfl rfl) rfl rfl rfl rfl (fun ev ww j0 j1=>by unfold execOp;simp only [j0,j1];try go_simp),
   .put 0 rfl rfl rfl ⟨g,ie,none⟩ (.int .u32 d1) hu fun a ww hw hf hd=>by
    have h34:a.eval (.tmp 34)=(.pointer (some ⟨g,ie,none⟩)):=hd 12 34 (by kernel_rfl) rfl
    have h33:a.eval (.tmp 33)=(.int .u32 d1):=hd 11 33 (by kernel_rfl) rfl
    have hst:Arr (behind up 0 ww) g 0 .u32 l1:=hS0 ww hw
    have hcc:=hst.at_ F4.out
    have hff:=hst.free (List.getElem?_eq_some_iff.1 F4.out).1
    rw [Nat.zero_add] at hcc hff
    generalize behind up 0 ww=wb at *
    revert h34 h33
    generalize a.eval=ev
    intro h34 h33
    unfold execOp
    simp only [h34,h33]
    (try go_simp),trivial⟩ ?_
 intro val w9 hv hw
 have e22:val 22=(.slice (some ⟨g,0,none⟩) n cp):=hv 22
 have e23:val 23=(.int .i64 (ie:Int)):=hv 23
 have e24:val 24=(.slice (some ⟨g,0,none⟩) n cp):=hv 24
 have e25:val 25=(.int .i64 (ie:Int)):=hv 25
 have e26:val 26=(.pointer (some ⟨g,ie,none⟩)):=hv 26
 have e27:val 27=(.int .u32 xd):=hv 27
 have e28:val 28=(.slice (some ⟨g,0,none⟩) n cp):=hv 28
 have e29:val 29=(.int .i64 (ia:Int)):=hv 29
 have e30:val 30=(.pointer (some ⟨g,ia,none⟩)):=hv 30
 have e31:val 31=(.int .u32 a1):=hv 31
 have e32:val 32=(.int .u32 x1):=hv 32
 have e33:val 33=(.int .u32 d1):=hv 33
 have e34:val 34=(.pointer (some ⟨g,ie,none⟩)):=hv 34
 simp only [putVals,List.foldl_cons,List.foldl_nil,Act.put,List.setIfInBounds_toArray,List.set_cons_succ,List.set_cons_zero,e22,e23,e24,e25,e26,e27,e28,e29,e30,e31,e32,e33,e34]
 clear hv e22 e23 e24 e25 e26 e27 e28 e29 e30 e31 e32 e33 e34
 have hA9:Arr (up 0 w9) g 0 .u32 l2:=by rw [hu,←L2.out];have:=(hS0 w9 hw).set ie d1;rwa [Nat.zero_add] at this
 have hO9:Only g w (up 0 w9):=by rw [hu];exact (hO.trans (Only.of hw g)).setCell (.inl rfl) _
 change Arr (behind up [13].length w9) _ _ _ _ at hA9
 change Only g w (behind up [13].length w9) at hO9
 clear hA hO hS0 hu hw
 generalize behind up [13].length w9=w2 at *
 clear up
 have hgl:g<w2.heap.size:=hA9.lt (by rw [←L2.out,List.length_set];exact HP1.out)
 have HP2:Hid (0<l2.length):=hid (by rw [←L2.out,List.length_set];exact HP1.out)
 have hA:=hA9
 have hO:=hO9
 clear hA9 hO9
 have F1n:Hid (l2[ia]? = some a1):=hid (by rw [←L2.out,List.getElem?_set_ne D41];exact F1.out)
 have F2n:Hid (l2[ib]? = some xb):=hid (by rw [←L2.out,List.getElem?_set_ne D42];exact F2.out)
 have F3n:Hid (l2[ic]? = some xc):=hid (by rw [←L2.out,List.getElem?_set_ne D43];exact F3.out)
 have F4n:Hid (l2[ie]? = some d1):=hid (by rw [←L2.out,List.getElem?_set_self (List.getElem?_eq_some_iff.1 F4.out).1])
 clear F1 F2 F3 F4
 have F1:=F1n
 have F2:=F2n
 have F3:=F3n
 have F4:=F4n
 clear F1n F2n F3n F4n
 go_wp2
 have hS0:∀ww,Cl w2 ww→Arr ww g 0 .u32 l2:=fun ww h=>hA.below h hgl
 obtain ⟨up,hup⟩:∃up:Nat→World→World,up=fun _ ww=>ww.setCell ⟨g,ic,none⟩ (.int .u32 c1):=⟨_,rfl⟩
 have hu:∀ww,up 0 ww=ww.setCell ⟨g,ic,none⟩ (.int .u32 c1):=fun ww=>by rw [hup]
 clear hup
 refine region_many 110 (tvOf [(35,(.slice (some ⟨g,0,none⟩) n cp)),(36,(.int .i64 (ic:Int))),(37,(.slice (some ⟨g,0,none⟩) n cp)),(38,(.int .i64 (ic:Int))),(39,(.pointer (some ⟨g,ic,none⟩))),(40,(.int .u32 xc)),(41,(.slice (some ⟨g,0,none⟩) n cp)),(42,(.int .i64 (ie:Int))),(43,(.pointer (some ⟨g,ie,none⟩))),(44,(.int .u32 d1)),(45,(.int .u32 c1)),(46,(.pointer (some ⟨g,ic,none⟩)))]) (kdOf [0,0,0,0,0,1,0,0,0,1,0,0,2]) [12] up [35,36,37,38,39,40,41,42,43,44,45,46] (by kernel_rfl) (by kernel_rfl) (by kernel_rfl) (Nat.le_of_eq rfl)
  ⟨pxm 35 (kxo (.slice (some ⟨g,0,none⟩) n cp) 0 rfl) rfl rfl rfl rfl rfl,
   pxm 36 (kxo (.int .i64 (ic:Int)) 3 rfl) rfl rfl rfl rfl rfl,
   pxm 37 (kxo (.slice (some ⟨g,0,none⟩) n cp) 0 rfl) rfl rfl rfl rfl rfl,
   pxm 38 (kxo (.int .i64 (ic:Int)) 3 rfl) rfl rfl rfl rfl rfl,
   pxb 39 (.pointer (some ⟨g,ic,none⟩)) (kxi (.slice (some ⟨g,0,none⟩) n cp) 2 37 rfl rfl) (kxi (.int .i64 (ic:Int)) 3 38 rfl rfl) rfl rfl rfl rfl (fun ev ww j0 j1=>by unfold execOp;simp only [j0,j1];try go_simp),
   qxa 40 (.int .u32 xc) (kxi (.pointer (some ⟨g,ic,none⟩)) 4 39 rfl rfl) rfl rfl rfl rfl (fun ev ww hw j0=>by have hcc:=(hS0 ww hw).at_ F3.out;rw [Nat.zero_add] at hcc;unfold execOp;simp only [j0];try go_simp),
   pxm 41 (kxo (.slice (some ⟨g,0,none⟩) n cp) 0 rfl) rfl rfl rfl rfl rfl,
   pxm 42 (kxo (.int .i64 (ie:Int)) 4 rfl) rfl rfl rfl rfl rfl,
   pxb 43 (.pointer (some ⟨g,ie,none⟩)) (kxi (.slice (some ⟨g,0,none⟩) n cp) 6 41 rfl rfl) (kxi (.int .i64 (ie:Int)) 7 42 rfl rfl) rfl rfl rfl rfl (fun ev ww j0 j1=>by unfold execOp;simp only [j0,j1];try go_simp),
   qxa 44 (.int .u32 d1) (kxi (.pointer (some ⟨g,ie,none⟩)) 8 43 rfl rfl) rfl rfl rfl rfl (fun ev ww hw j0=>by have hcc:=(hS0 ww hw).at_ F4.out;rw [Nat.zero_add] at hcc;unfold execOp;simp only [j0];try go_simp),
   pxb 45 (.int .u32 c1) (kxi (.int .u32 xc) 5 40 rfl rfl) (kxi (.int .u32 d1) 9 44 rfl rfl) rfl rfl rfl rfl (fun ev ww j0 j1=>by unfold execOp;simp only [j0,j1];try go_simp),
   pxb 46 (.pointer (some ⟨g,ic,none⟩)) (kxi (.slice (some ⟨g,0,none⟩) n cp) 0 35 rfl rfl) (kxi (.int .i64 (ic:Int)) 1 36 rfl rfl) rfl rfl rfl rfl (fun ev ww j0 j1=>by unfold execOp;simp only [j0,j1];try go_simp),
   .put 0 rfl rfl rfl ⟨g,ic,none⟩ (.int .u32 c1) hu fun a ww hw hf hd=>by
    have h46:a.eval (.tmp 46)=(.pointer (some ⟨g,ic,none⟩)):=hd 11 46 (by kernel_rfl) rfl
    have h45:a.eval (.tmp 45)=(.int .u32 c1):=hd 10 45 (by kernel_rfl) rfl
    have hst:Arr (behind up 0 ww) g 0 .u32 l2:=hS0 ww hw
    have hcc:=hst.at_ F3.out
    have hff:=hst.free (List.getElem?_eq_some_iff.1 F3.out).1
    rw [Nat.zero_add] at hcc hff
    generalize behind up 0 ww=wb at *
    revert h46 h45
    generalize a.eval=ev
    intro h46 h45
    unfold execOp
    simp only [h46,h45]
    (try go_simp),trivial⟩ ?_
 intro val w9 hv hw
 have e35:val 35=(.slice (some ⟨g,0,none⟩) n cp):=hv 35
 have e36:val 36=(.int .i64 (ic:Int)):=hv 36
 have e37:val 37=(.slice (some ⟨g,0,none⟩) n cp):=hv 37
 have e38:val 38=(.int .i64 (ic:Int)):=hv 38
 have e39:val 39=(.pointer (some ⟨g,ic,none⟩)):=hv 39
 have e40:val 40=(.int .u32 xc):=hv 40
 have e41:val 41=(.slice (some ⟨g,0,none⟩) n cp):=hv 41
 have e42:val 42=(.int .i64 (ie:Int)):=hv 42
 have e43:val 43=(.pointer (some ⟨g,ie,none⟩)):=hv 43
 have e44:val 44=(.int .u32 d1):=hv 44
 have e45:val 45=(.int .u32 c1):=hv 45
 have e46:val 46=(.pointer (some ⟨g,ic,none⟩)):=hv 46
 simp only [putVals,List.foldl_cons,List.foldl_nil,Act.put,List.setIfInBounds_toArray,List.set_cons_succ,List.set_cons_zero,e35,e36,e37,e38,e39,e40,e41,e42,e43,e44,e45,e46]
 clear hv e35 e36 e37 e38 e39 e40 e41 e42 e43 e44 e45 e46
 have hA9:Arr (up 0 w9) g 0 .u32 l3:=by rw [hu,←L3.out];have:=(hS0 w9 hw).set ic c1;rwa [Nat.zero_add] at this
 have hO9:Only g w (up 0 w9):=by rw [hu];exact (hO.trans (Only.of hw g)).setCell (.inl rfl) _
 change Arr (behind up [12].length w9) _ _ _ _ at hA9
 change Only g w (behind up [12].length w9) at hO9
 clear hA hO hS0 hu hw
 generalize behind up [12].length w9=w3 at *
 clear up
 have hgl:g<w3.heap.size:=hA9.lt (by rw [←L3.out,List.length_set];exact HP2.out)
 have HP3:Hid (0<l3.length):=hid (by rw [←L3.out,List.length_set];exact HP2.out)
 have hA:=hA9
 have hO:=hO9
 clear hA9 hO9
 have F1n:Hid (l3[ia]? = some a1):=hid (by rw [←L3.out,List.getElem?_set_ne D31];exact F1.out)
 have F2n:Hid (l3[ib]? = some xb):=hid (by rw [←L3.out,List.getElem?_set_ne D32];exact F2.out)
 have F3n:Hid (l3[ic]? = some c1):=hid (by rw [←L3.out,List.getElem?_set_self (List.getElem?_eq_some_iff.1 F3.out).1])
 have F4n:Hid (l3[ie]? = some d1):=hid (by rw [←L3.out,List.getElem?_set_ne D34];exact F4.out)
 clear F1 F2 F3 F4
 have F1:=F1n
 have F2:=F2n
 have F3:=F3n
 have F4:=F4n
 clear F1n F2n F3n F4n
 go_wp2
 have hS0:∀ww,Cl w3 ww→Arr ww g 0 .u32 l3:=fun ww h=>hA.below h hgl
 obtain ⟨up,hup⟩:∃up:Nat→World→World,up=fun _ ww=>ww.setCell ⟨g,ib,none⟩ (.int .u32 b1):=⟨_,rfl⟩
 have hu:∀ww,up 0 ww=ww.setCell ⟨g,ib,none⟩ (.int .u32 b1):=fun ww=>by rw [hup]
 clear hup
 refine region_many 110 (tvOf [(47,(.slice (some ⟨g,0,none⟩) n cp)),(48,(.int .i64 (ib:Int))),(49,(.slice (some ⟨g,0,none⟩) n cp)),(50,(.int .i64 (ib:Int))),(51,(.pointer (some ⟨g,ib,none⟩))),(52,(.int .u32 xb)),(53,(.slice (some ⟨g,0,none⟩) n cp)),(54,(.int .i64 (ic:Int))),(55,(.pointer (some ⟨g,ic,none⟩))),(56,(.int .u32 c1)),(57,(.int .u32 x2)),(58,(.int .u32 b1)),(59,(.pointer (some ⟨g,ib,none⟩)))]) (kdOf [0,0,0,0,0,1,0,0,0,1,0,1,0,2]) [13] up [47,48,49,50,51,52,53,54,55,56,57,58,59] (by kernel_rfl) (by kernel_rfl) (by kernel_rfl) (Nat.le_of_eq rfl)
  ⟨pxm 47 (kxo (.slice (some ⟨g,0,none⟩) n cp) 0 rfl) rfl rfl rfl rfl rfl,
   pxm 48 (kxo (.int .i64 (ib:Int)) 2 rfl) rfl rfl rfl rfl rfl,
   pxm 49 (kxo (.slice (some ⟨g,0,none⟩) n cp) 0 rfl) rfl rfl rfl rfl rfl,
   pxm 50 (kxo (.int .i64 (ib:Int)) 2 rfl) rfl rfl rfl rfl rfl,
   pxb 51 (.pointer (some ⟨g,ib,none⟩)) (kxi (.slice (some ⟨g,0,none⟩) n cp) 2 49 rfl rfl) (kxi (.int .i64 (ib:Int)) 3 50 rfl rfl) rfl rfl rfl rfl (fun ev ww j0 j1=>by unfold execOp;simp only [j0,j1];try go_simp),
   qxa 52 (.int .u32 xb) (kxi (.pointer (some ⟨g,ib,none⟩)) 4 51 rfl rfl) rfl rfl rfl rfl (fun ev ww hw j0=>by have hcc:=(hS0 ww hw).at_ F2.out;rw [Nat.zero_add] at hcc;unfold execOp;simp only [j0];try go_simp),
   pxm 53 (kxo (.slice (some ⟨g,0,none⟩) n cp) 0 rfl) rfl rfl rfl rfl rfl,
   pxm 54 (kxo (.int .i64 (ic:Int)) 3 rfl) rfl rfl rfl rfl rfl,
   pxb 55 (.pointer (some ⟨g,ic,none⟩)) (kxi (.slice (some ⟨g,0,none⟩) n cp) 6 53 rfl rfl) (kxi (.int .i64 (ic:Int)) 7 54 rfl rfl) rfl rfl rfl rfl (fun ev ww j0 j1=>by unfold execOp;simp only [j0,j1];try go_simp),
   qxa 56 (.int .u32 c1) (kxi (.pointer (some ⟨g,ic,none⟩)) 8 55 rfl rfl) rfl rfl rfl rfl (fun ev ww hw j0=>by have hcc:=(hS0 ww hw).at_ F3.out;rw [Nat.zero_add] at hcc;unfold execOp;simp only [j0];try go_simp),
   pxb 57 (.int .u32 x2) (kxi (.int .u32 xb) 5 52 rfl rfl) (kxi (.int .u32 c1) 9 56 rfl rfl) rfl rfl rfl rfl (fun ev ww j0 j1=>by unfold execOp;simp only [j0,j1];try go_simp),
   .call rfl rfl 58 rfl fun a ww hw hf hd=>by
    have h57:a.eval (.tmp 57)=(.int .u32 x2):=hd 10 57 (by kernel_rfl) rfl
    have c0:a.eval (.const (.int .i64 (12)))=.int .i64 (12):=rfl
    have f16:a.eval (.func 121)=.func (.func 121) #[] #[]:=rfl
    refine ⟨121,#[(.int .u32 x2),(.int .i64 12)],?_,(left_any x2 12 20 ww (by omega) (hid rfl) Hx2).mono fun e w2 ⟨he,hw2⟩=>⟨by rw [he,Gx2.out];rfl,by rw [←hw2];exact Below.refl _ _⟩⟩
    revert h57 c0 f16
    generalize a.eval=ev
    intro h57 c0 f16
    unfold execOp
    simp only [h57,c0,f16]
    (try go_simp),
   pxb 59 (.pointer (some ⟨g,ib,none⟩)) (kxi (.slice (some ⟨g,0,none⟩) n cp) 0 47 rfl rfl) (kxi (.int .i64 (ib:Int)) 1 48 rfl rfl) rfl rfl rfl rfl (fun ev ww j0 j1=>by unfold execOp;simp only [j0,j1];try go_simp),
   .put 0 rfl rfl rfl ⟨g,ib,none⟩ (.int .u32 b1) hu fun a ww hw hf hd=>by
    have h59:a.eval (.tmp 59)=(.pointer (some ⟨g,ib,none⟩)):=hd 12 59 (by kernel_rfl) rfl
    have h58:a.eval (.tmp 58)=(.int .u32 b1):=hd 11 58 (by kernel_rfl) rfl
    have hst:Arr (behind up 0 ww) g 0 .u32 l3:=hS0 ww hw
    have hcc:=hst.at_ F2.out
    have hff:=hst.free (List.getElem?_eq_some_iff.1 F2.out).1
    rw [Nat.zero_add] at hcc hff
    generalize behind up 0 ww=wb at *
    revert h59 h58
    generalize a.eval=ev
    intro h59 h58
    unfold execOp
    simp only [h59,h58]
    (try go_simp),trivial⟩ ?_
 intro val w9 hv hw
 have e47:val 47=(.slice (some ⟨g,0,none⟩) n cp):=hv 47
 have e48:val 48=(.int .i64 (ib:Int)):=hv 48
 have e49:val 49=(.slice (some ⟨g,0,none⟩) n cp):=hv 49
 have e50:val 50=(.int .i64 (ib:Int)):=hv 50
 have e51:val 51=(.pointer (some ⟨g,ib,none⟩)):=hv 51
 have e52:val 52=(.int .u32 xb):=hv 52
 have e53:val 53=(.slice (some ⟨g,0,none⟩) n cp):=hv 53
 have e54:val 54=(.int .i64 (ic:Int)):=hv 54
 have e55:val 55=(.pointer (some ⟨g,ic,none⟩)):=hv 55
 have e56:val 56=(.int .u32 c1):=hv 56
 have e57:val 57=(.int .u32 x2):=hv 57
 have e58:val 58=(.int .u32 b1):=hv 58
 have e59:val 59=(.pointer (some ⟨g,ib,none⟩)):=hv 59
 simp only [putVals,List.foldl_cons,List.foldl_nil,Act.put,List.setIfInBounds_toArray,List.set_cons_succ,List.set_cons_zero,e47,e48,e49,e50,e51,e52,e53,e54,e55,e56,e57,e58,e59]
 clear hv e47 e48 e49 e50 e51 e52 e53 e54 e55 e56 e57 e58 e59
 have hA9:Arr (up 0 w9) g 0 .u32 l4:=by rw [hu,←L4.out];have:=(hS0 w9 hw).set ib b1;rwa [Nat.zero_add] at this
 have hO9:Only g w (up 0 w9):=by rw [hu];exact (hO.trans (Only.of hw g)).setCell (.inl rfl) _
 change Arr (behind up [13].length w9) _ _ _ _ at hA9
 change Only g w (behind up [13].length w9) at hO9
 clear hA hO hS0 hu hw
 generalize behind up [13].length w9=w4 at *
 clear up
 have hgl:g<w4.heap.size:=hA9.lt (by rw [←L4.out,List.length_set];exact HP3.out)
 have HP4:Hid (0<l4.length):=hid (by rw [←L4.out,List.length_set];exact HP3.out)
 have hA:=hA9
 have hO:=hO9
 clear hA9 hO9
 have F1n:Hid (l4[ia]? = some a1):=hid (by rw [←L4.out,List.getElem?_set_ne D21];exact F1.out)
 have F2n:Hid (l4[ib]? = some b1):=hid (by rw [←L4.out,List.getElem?_set_self (List.getElem?_eq_some_iff.1 F2.out).1])
 have F3n:Hid (l4[ic]? = some c1):=hid (by rw [←L4.out,List.getElem?_set_ne D23];exact F3.out)
 have F4n:Hid (l4[ie]? = some d1):=hid (by rw [←L4.out,List.getElem?_set_ne D24];exact F4.out)
 clear F1 F2 F3 F4
 have F1:=F1n
 have F2:=F2n
 have F3:=F3n
 have F4:=F4n
 clear F1n F2n F3n F4n
 go_wp2
 have hS0:∀ww,Cl w4 ww→Arr ww g 0 .u32 l4:=fun ww h=>hA.below h hgl
 obtain ⟨up,hup⟩:∃up:Nat→World→World,up=fun _ ww=>ww.setCell ⟨g,ia,none⟩ (.int .u32 a2):=⟨_,rfl⟩
 have hu:∀ww,up 0 ww=ww.setCell ⟨g,ia,none⟩ (.int .u32 a2):=fun ww=>by rw [hup]
 clear hup
 refine region_many 110 (tvOf [(60,(.slice (some ⟨g,0,none⟩) n cp)),(61,(.int .i64 (ia:Int))),(62,(.slice (some ⟨g,0,none⟩) n cp)),(63,(.int .i64 (ia:Int))),(64,(.pointer (some ⟨g,ia,none⟩))),(65,(.int .u32 a1)),(66,(.slice (some ⟨g,0,none⟩) n cp)),(67,(.int .i64 (ib:Int))),(68,(.pointer (some ⟨g,ib,none⟩))),(69,(.int .u32 b1)),(70,(.int .u32 a2)),(71,(.pointer (some ⟨g,ia,none⟩)))]) (kdOf [0,0,0,0,0,1,0,0,0,1,0,0,2]) [12] up [60,61,62,63,64,65,66,67,68,69,70,71] (by kernel_rfl) (by kernel_rfl) (by kernel_rfl) (Nat.le_of_eq rfl)
  ⟨pxm 60 (kxo (.slice (some ⟨g,0,none⟩) n cp) 0 rfl) rfl rfl rfl rfl rfl,
   pxm 61 (kxo (.int .i64 (ia:Int)) 1 rfl) rfl rfl rfl rfl rfl,
   pxm 62 (kxo (.slice (some ⟨g,0,none⟩) n cp) 0 rfl) rfl rfl rfl rfl rfl,
   pxm 63 (kxo (.int .i64 (ia:Int)) 1 rfl) rfl rfl rfl rfl rfl,
   pxb 64 (.pointer (some ⟨g,ia,none⟩)) (kxi (.slice (some ⟨g,0,none⟩) n cp) 2 62 rfl rfl) (kxi (.int .i64 (ia:Int)) 3 63 rfl rfl) rfl rfl rfl rfl (fun ev ww j0 j1=>by unfold execOp;simp only [j0,j1];try go_simp),
   qxa 65 (.int .u32 a1) (kxi (.pointer (some ⟨g,ia,none⟩)) 4 64 rfl rfl) rfl rfl rfl rfl (fun ev ww hw j0=>by have hcc:=(hS0 ww hw).at_ F1.out;rw [Nat.zero_add] at hcc;unfold execOp;simp only [j0];try go_simp),
   pxm 66 (kxo (.slice (some ⟨g,0,none⟩) n cp) 0 rfl) rfl rfl rfl rfl rfl,
   pxm 67 (kxo (.int .i64 (ib:Int)) 2 rfl) rfl rfl rfl rfl rfl,
   pxb 68 (.pointer (some ⟨g,ib,none⟩)) (kxi (.slice (some ⟨g,0,none⟩) n cp) 6 66 rfl rfl) (kxi (.int .i64 (ib:Int)) 7 67 rfl rfl) rfl rfl rfl rfl (fun ev ww j0 j1=>by unfold execOp;simp only [j0,j1];try go_simp),
   qxa 69 (.int .u32 b1) (kxi (.pointer (some ⟨g,ib,none⟩)) 8 68 rfl rfl) rfl rfl rfl rfl (fun ev ww hw j0=>by have hcc:=(hS0 ww hw).at_ F2.out;rw [Nat.zero_add] at hcc;unfold execOp;simp only [j0];try go_simp),
   pxb 70 (.int .u32 a2) (kxi (.int .u32 a1) 5 65 rfl rfl) (kxi (.int .u32 b1) 9 69 rfl rfl) rfl rfl rfl rfl (fun ev ww j0 j1=>by unfold execOp;simp only [j0,j1];try go_simp),
   pxb 71 (.pointer (some ⟨g,ia,none⟩)) (kxi (.slice (some ⟨g,0,none⟩) n cp) 0 60 rfl rfl) (kxi (.int .i64 (ia:Int)) 1 61 rfl rfl) rfl rfl rfl rfl (fun ev ww j0 j1=>by unfold execOp;simp only [j0,j1];try go_simp),
   .put 0 rfl rfl rfl ⟨g,ia,none⟩ (.int .u32 a2) hu fun a ww hw hf hd=>by
    have h71:a.eval (.tmp 71)=(.pointer (some ⟨g,ia,none⟩)):=hd 11 71 (by kernel_rfl) rfl
    have h70:a.eval (.tmp 70)=(.int .u32 a2):=hd 10 70 (by kernel_rfl) rfl
    have hst:Arr (behind up 0 ww) g 0 .u32 l4:=hS0 ww hw
    have hcc:=hst.at_ F1.out
    have hff:=hst.free (List.getElem?_eq_some_iff.1 F1.out).1
    rw [Nat.zero_add] at hcc hff
    generalize behind up 0 ww=wb at *
    revert h71 h70
    generalize a.eval=ev
    intro h71 h70
    unfold execOp
    simp only [h71,h70]
    (try go_simp),trivial⟩ ?_
 intro val w9 hv hw
 have e60:val 60=(.slice (some ⟨g,0,none⟩) n cp):=hv 60
 have e61:val 61=(.int .i64 (ia:Int)):=hv 61
 have e62:val 62=(.slice (some ⟨g,0,none⟩) n cp):=hv 62
 have e63:val 63=(.int .i64 (ia:Int)):=hv 63
 have e64Z:val 64=(.pointer (some ⟨g,ia,none⟩)):=hv 64
 have e65:val 65=(.int .u32 a1):=hv 65
 have e66:val 66=(.slice (some ⟨g,0,none⟩) n cp):=hv 66
 have e67:val 67=(.int .i64 (ib:Int)):=hv 67
 have e68:val 68=(.pointer (some ⟨g,ib,none⟩)):=hv 68
 have e69:val 69=(.int .u32 b1):=hv 69
 have e70:val 70=(.int .u32 a2):=hv 70
 have e71:val 71=(.pointer (some ⟨g,ia,none⟩)):=hv 71
 simp only [putVals,List.foldl_cons,List.foldl_nil,Act.put,List.setIfInBounds_toArray,List.set_cons_succ,List.set_cons_zero,e60,e61,e62,e63,e64Z,e65,e66,e67,e68,e69,e70,e71]
 clear hv e60 e61 e62 e63 e64Z e65 e66 e67 e68 e69 e70 e71
 have hA9:Arr (up 0 w9) g 0 .u32 l5:=by rw [hu,←L5.out];have:=(hS0 w9 hw).set ia a2;rwa [Nat.zero_add] at this
 have hO9:Only g w (up 0 w9):=by rw [hu];exact (hO.trans (Only.of hw g)).setCell (.inl rfl) _
 change Arr (behind up [12].length w9) _ _ _ _ at hA9
 change Only g w (behind up [12].length w9) at hO9
 clear hA hO hS0 hu hw
 generalize behind up [12].length w9=w5 at *
 clear up
 have hgl:g<w5.heap.size:=hA9.lt (by rw [←L5.out,List.length_set];exact HP4.out)
 have HP5:Hid (0<l5.length):=hid (by rw [←L5.out,List.length_set];exact HP4.out)
 have hA:=hA9
 have hO:=hO9
 clear hA9 hO9
 have F1n:Hid (l5[ia]? = some a2):=hid (by rw [←L5.out,List.getElem?_set_self (List.getElem?_eq_some_iff.1 F1.out).1])
 have F2n:Hid (l5[ib]? = some b1):=hid (by rw [←L5.out,List.getElem?_set_ne D12];exact F2.out)
 have F3n:Hid (l5[ic]? = some c1):=hid (by rw [←L5.out,List.getElem?_set_ne D13];exact F3.out)
 have F4n:Hid (l5[ie]? = some d1):=hid (by rw [←L5.out,List.getElem?_set_ne D14];exact F4.out)
 clear F1 F2 F3 F4
 have F1:=F1n
 have F2:=F2n
 have F3:=F3n
 have F4:=F4n
 clear F1n F2n F3n F4n
 go_wp2
 have hS0:∀ww,Cl w5 ww→Arr ww g 0 .u32 l5:=fun ww h=>hA.below h hgl
 obtain ⟨up,hup⟩:∃up:Nat→World→World,up=fun _ ww=>ww.setCell ⟨g,ie,none⟩ (.int .u32 d2):=⟨_,rfl⟩
 have hu:∀ww,up 0 ww=ww.setCell ⟨g,ie,none⟩ (.int .u32 d2):=fun ww=>by rw [hup]
 clear hup
 refine region_many 110 (tvOf [(72,(.slice (some ⟨g,0,none⟩) n cp)),(73,(.int .i64 (ie:Int))),(74,(.slice (some ⟨g,0,none⟩) n cp)),(75,(.int .i64 (ie:Int))),(76,(.pointer (some ⟨g,ie,none⟩))),(77,(.int .u32 d1)),(78,(.slice (some ⟨g,0,none⟩) n cp)),(79,(.int .i64 (ia:Int))),(80,(.pointer (some ⟨g,ia,none⟩))),(81,(.int .u32 a2)),(82,(.int .u32 x3)),(83,(.int .u32 d2)),(84,(.pointer (some ⟨g,ie,none⟩)))]) (kdOf [0,0,0,0,0,1,0,0,0,1,0,1,0,2]) [13] up [72,73,74,75,76,77,78,79,80,81,82,83,84] (by kernel_rfl) (by kernel_rfl) (by kernel_rfl) (Nat.le_of_eq rfl)
  ⟨pxm 72 (kxo (.slice (some ⟨g,0,none⟩) n cp) 0 rfl) rfl rfl rfl rfl rfl,
   pxm 73 (kxo (.int .i64 (ie:Int)) 4 rfl) rfl rfl rfl rfl rfl,
   pxm 74 (kxo (.slice (some ⟨g,0,none⟩) n cp) 0 rfl) rfl rfl rfl rfl rfl,
   pxm 75 (kxo (.int .i64 (ie:Int)) 4 rfl) rfl rfl rfl rfl rfl,
   pxb 76 (.pointer (some ⟨g,ie,none⟩)) (kxi (.slice (some ⟨g,0,none⟩) n cp) 2 74 rfl rfl) (kxi (.int .i64 (ie:Int)) 3 75 rfl rfl) rfl rfl rfl rfl (fun ev ww j0 j1=>by unfold execOp;simp only [j0,j1];try go_simp),
   qxa 77 (.int .u32 d1) (kxi (.pointer (some ⟨g,ie,none⟩)) 4 76 rfl rfl) rfl rfl rfl rfl (fun ev ww hw j0=>by have hcc:=(hS0 ww hw).at_ F4.out;rw [Nat.zero_add] at hcc;unfold execOp;simp only [j0];try go_simp),
   pxm 78 (kxo (.slice (some ⟨g,0,none⟩) n cp) 0 rfl) rfl rfl rfl rfl rfl,
   pxm 79 (kxo (.int .i64 (ia:Int)) 1 rfl) rfl rfl rfl rfl rfl,
   pxb 80 (.pointer (some ⟨g,ia,none⟩)) (kxi (.slice (some ⟨g,0,none⟩) n cp) 6 78 rfl rfl) (kxi (.int .i64 (ia:Int)) 7 79 rfl rfl) rfl rfl rfl rfl (fun ev ww j0 j1=>by unfold execOp;simp only [j0,j1];try go_simp),
   qxa 81 (.int .u32 a2) (kxi (.pointer (some ⟨g,ia,none⟩)) 8 80 rfl rfl) rfl rfl rfl rfl (fun ev ww hw j0=>by have hcc:=(hS0 ww hw).at_ F1.out;rw [Nat.zero_add] at hcc;unfold execOp;simp only [j0];try go_simp),
   pxb 82 (.int .u32 x3) (kxi (.int .u32 d1) 5 77 rfl rfl) (kxi (.int .u32 a2) 9 81 rfl rfl) rfl rfl rfl rfl (fun ev ww j0 j1=>by unfold execOp;simp only [j0,j1];try go_simp),
   .call rfl rfl 83 rfl fun a ww hw hf hd=>by
    have h82:a.eval (.tmp 82)=(.int .u32 x3):=hd 10 82 (by kernel_rfl) rfl
    have c0:a.eval (.const (.int .i64 (8)))=.int .i64 (8):=rfl
    have f16:a.eval (.func 121)=.func (.func 121) #[] #[]:=rfl
    refine ⟨121,#[(.int .u32 x3),(.int .i64 8)],?_,(left_any x3 8 24 ww (by omega) (hid rfl) Hx3).mono fun e w2 ⟨he,hw2⟩=>⟨by rw [he,Gx3.out];rfl,by rw [←hw2];exact Below.refl _ _⟩⟩
    revert h82 c0 f16
    generalize a.eval=ev
    intro h82 c0 f16
    unfold execOp
    simp only [h82,c0,f16]
    (try go_simp),
   pxb 84 (.pointer (some ⟨g,ie,none⟩)) (kxi (.slice (some ⟨g,0,none⟩) n cp) 0 72 rfl rfl) (kxi (.int .i64 (ie:Int)) 1 73 rfl rfl) rfl rfl rfl rfl (fun ev ww j0 j1=>by unfold execOp;simp only [j0,j1];try go_simp),
   .put 0 rfl rfl rfl ⟨g,ie,none⟩ (.int .u32 d2) hu fun a ww hw hf hd=>by
    have h84:a.eval (.tmp 84)=(.pointer (some ⟨g,ie,none⟩)):=hd 12 84 (by kernel_rfl) rfl
    have h83:a.eval (.tmp 83)=(.int .u32 d2):=hd 11 83 (by kernel_rfl) rfl
    have hst:Arr (behind up 0 ww) g 0 .u32 l5:=hS0 ww hw
    have hcc:=hst.at_ F4.out
    have hff:=hst.free (List.getElem?_eq_some_iff.1 F4.out).1
    rw [Nat.zero_add] at hcc hff
    generalize behind up 0 ww=wb at *
    revert h84 h83
    generalize a.eval=ev
    intro h84 h83
    unfold execOp
    simp only [h84,h83]
    (try go_simp),trivial⟩ ?_
 intro val w9 hv hw
 have e72:val 72=(.slice (some ⟨g,0,none⟩) n cp):=hv 72
 have e73:val 73=(.int .i64 (ie:Int)):=hv 73
 have e74:val 74=(.slice (some ⟨g,0,none⟩) n cp):=hv 74
 have e75:val 75=(.int .i64 (ie:Int)):=hv 75
 have e76:val 76=(.pointer (some ⟨g,ie,none⟩)):=hv 76
 have e77:val 77=(.int .u32 d1):=hv 77
 have e78:val 78=(.slice (some ⟨g,0,none⟩) n cp):=hv 78
 have e79:val 79=(.int .i64 (ia:Int)):=hv 79
 have e80:val 80=(.pointer (some ⟨g,ia,none⟩)):=hv 80
 have e81:val 81=(.int .u32 a2):=hv 81
 have e82:val 82=(.int .u32 x3):=hv 82
 have e83:val 83=(.int .u32 d2):=hv 83
 have e84:val 84=(.pointer (some ⟨g,ie,none⟩)):=hv 84
 simp only [putVals,List.foldl_cons,List.foldl_nil,Act.put,List.setIfInBounds_toArray,List.set_cons_succ,List.set_cons_zero,e72,e73,e74,e75,e76,e77,e78,e79,e80,e81,e82,e83,e84]
 clear hv e72 e73 e74 e75 e76 e77 e78 e79 e80 e81 e82 e83 e84
 have hA9:Arr (up 0 w9) g 0 .u32 l6:=by rw [hu,←L6.out];have:=(hS0 w9 hw).set ie d2;rwa [Nat.zero_add] at this
 have hO9:Only g w (up 0 w9):=by rw [hu];exact (hO.trans (Only.of hw g)).setCell (.inl rfl) _
 change Arr (behind up [13].length w9) _ _ _ _ at hA9
 change Only g w (behind up [13].length w9) at hO9
 clear hA hO hS0 hu hw
 generalize behind up [13].length w9=w6 at *
 clear up
 have hgl:g<w6.heap.size:=hA9.lt (by rw [←L6.out,List.length_set];exact HP5.out)
 have HP6:Hid (0<l6.length):=hid (by rw [←L6.out,List.length_set];exact HP5.out)
 have hA:=hA9
 have hO:=hO9
 clear hA9 hO9
 have F1n:Hid (l6[ia]? = some a2):=hid (by rw [←L6.out,List.getElem?_set_ne D41];exact F1.out)
 have F2n:Hid (l6[ib]? = some b1):=hid (by rw [←L6.out,List.getElem?_set_ne D42];exact F2.out)
 have F3n:Hid (l6[ic]? = some c1):=hid (by rw [←L6.out,List.getElem?_set_ne D43];exact F3.out)
 have F4n:Hid (l6[ie]? = some d2):=hid (by rw [←L6.out,List.getElem?_set_self (List.getElem?_eq_some_iff.1 F4.out).1])
 clear F1 F2 F3 F4
 have F1:=F1n
 have F2:=F2n
 have F3:=F3n
 have F4:=F4n
 clear F1n F2n F3n F4n
 go_wp2
 have hS0:∀ww,Cl w6 ww→Arr ww g 0 .u32 l6:=fun ww h=>hA.below h hgl
 obtain ⟨up,hup⟩:∃up:Nat→World→World,up=fun _ ww=>ww.setCell ⟨g,ic,none⟩ (.int .u32 c2):=⟨_,rfl⟩
 have hu:∀ww,up 0 ww=ww.setCell ⟨g,ic,none⟩ (.int .u32 c2):=fun ww=>by rw [hup]
 clear hup
 refine region_many 110 (tvOf [(85,(.slice (some ⟨g,0,none⟩) n cp)),(86,(.int .i64 (ic:Int))),(87,(.slice (some ⟨g,0,none⟩) n cp)),(88,(.int .i64 (ic:Int))),(89,(.pointer (some ⟨g,ic,none⟩))),(90,(.int .u32 c1)),(91,(.slice (some ⟨g,0,none⟩) n cp)),(92,(.int .i64 (ie:Int))),(93,(.pointer (some ⟨g,ie,none⟩))),(94,(.int .u32 d2)),(95,(.int .u32 c2)),(96,(.pointer (some ⟨g,ic,none⟩)))]) (kdOf [0,0,0,0,0,1,0,0,0,1,0,0,2]) [12] up [85,86,87,88,89,90,91,92,93,94,95,96] (by kernel_rfl) (by kernel_rfl) (by kernel_rfl) (Nat.le_of_eq rfl)
  ⟨pxm 85 (kxo (.slice (some ⟨g,0,none⟩) n cp) 0 rfl) rfl rfl rfl rfl rfl,
   pxm 86 (kxo (.int .i64 (ic:Int)) 3 rfl) rfl rfl rfl rfl rfl,
   pxm 87 (kxo (.slice (some ⟨g,0,none⟩) n cp) 0 rfl) rfl rfl rfl rfl rfl,
   pxm 88 (kxo (.int .i64 (ic:Int)) 3 rfl) rfl rfl rfl rfl rfl,
   pxb 89 (.pointer (some ⟨g,ic,none⟩)) (kxi (.slice (some ⟨g,0,none⟩) n cp) 2 87 rfl rfl) (kxi (.int .i64 (ic:Int)) 3 88 rfl rfl) rfl rfl rfl rfl (fun ev ww j0 j1=>by unfold execOp;simp only [j0,j1];try go_simp),
   qxa 90 (.int .u32 c1) (kxi (.pointer (some ⟨g,ic,none⟩)) 4 89 rfl rfl) rfl rfl rfl rfl (fun ev ww hw j0=>by have hcc:=(hS0 ww hw).at_ F3.out;rw [Nat.zero_add] at hcc;unfold execOp;simp only [j0];try go_simp),
   pxm 91 (kxo (.slice (some ⟨g,0,none⟩) n cp) 0 rfl) rfl rfl rfl rfl rfl,
   pxm 92 (kxo (.int .i64 (ie:Int)) 4 rfl) rfl rfl rfl rfl rfl,
   pxb 93 (.pointer (some ⟨g,ie,none⟩)) (kxi (.slice (some ⟨g,0,none⟩) n cp) 6 91 rfl rfl) (kxi (.int .i64 (ie:Int)) 7 92 rfl rfl) rfl rfl rfl rfl (fun ev ww j0 j1=>by unfold execOp;simp only [j0,j1];try go_simp),
   qxa 94 (.int .u32 d2) (kxi (.pointer (some ⟨g,ie,none⟩)) 8 93 rfl rfl) rfl rfl rfl rfl (fun ev ww hw j0=>by have hcc:=(hS0 ww hw).at_ F4.out;rw [Nat.zero_add] at hcc;unfold execOp;simp only [j0];try go_simp),
   pxb 95 (.int .u32 c2) (kxi (.int .u32 c1) 5 90 rfl rfl) (kxi (.int .u32 d2) 9 94 rfl rfl) rfl rfl rfl rfl (fun ev ww j0 j1=>by unfold execOp;simp only [j0,j1];try go_simp),
   pxb 96 (.pointer (some ⟨g,ic,none⟩)) (kxi (.slice (some ⟨g,0,none⟩) n cp) 0 85 rfl rfl) (kxi (.int .i64 (ic:Int)) 1 86 rfl rfl) rfl rfl rfl rfl (fun ev ww j0 j1=>by unfold execOp;simp only [j0,j1];try go_simp),
   .put 0 rfl rfl rfl ⟨g,ic,none⟩ (.int .u32 c2) hu fun a ww hw hf hd=>by
    have h96:a.eval (.tmp 96)=(.pointer (some ⟨g,ic,none⟩)):=hd 11 96 (by kernel_rfl) rfl
    have h95:a.eval (.tmp 95)=(.int .u32 c2):=hd 10 95 (by kernel_rfl) rfl
    have hst:Arr (behind up 0 ww) g 0 .u32 l6:=hS0 ww hw
    have hcc:=hst.at_ F3.out
    have hff:=hst.free (List.getElem?_eq_some_iff.1 F3.out).1
    rw [Nat.zero_add] at hcc hff
    generalize behind up 0 ww=wb at *
    revert h96 h95
    generalize a.eval=ev
    intro h96 h95
    unfold execOp
    simp only [h96,h95]
    (try go_simp),trivial⟩ ?_
 intro val w9 hv hw
 have e85:val 85=(.slice (some ⟨g,0,none⟩) n cp):=hv 85
 have e86:val 86=(.int .i64 (ic:Int)):=hv 86
 have e87:val 87=(.slice (some ⟨g,0,none⟩) n cp):=hv 87
 have e88:val 88=(.int .i64 (ic:Int)):=hv 88
 have e89:val 89=(.pointer (some ⟨g,ic,none⟩)):=hv 89
 have e90:val 90=(.int .u32 c1):=hv 90
 have e91:val 91=(.slice (some ⟨g,0,none⟩) n cp):=hv 91
 have e92:val 92=(.int .i64 (ie:Int)):=hv 92
 have e93:val 93=(.pointer (some ⟨g,ie,none⟩)):=hv 93
 have e94:val 94=(.int .u32 d2):=hv 94
 have e95:val 95=(.int .u32 c2):=hv 95
 have e96:val 96=(.pointer (some ⟨g,ic,none⟩)):=hv 96
 simp only [putVals,List.foldl_cons,List.foldl_nil,Act.put,List.setIfInBounds_toArray,List.set_cons_succ,List.set_cons_zero,e85,e86,e87,e88,e89,e90,e91,e92,e93,e94,e95,e96]
 clear hv e85 e86 e87 e88 e89 e90 e91 e92 e93 e94 e95 e96
 have hA9:Arr (up 0 w9) g 0 .u32 l7:=by rw [hu,←L7.out];have:=(hS0 w9 hw).set ic c2;rwa [Nat.zero_add] at this
 have hO9:Only g w (up 0 w9):=by rw [hu];exact (hO.trans (Only.of hw g)).setCell (.inl rfl) _
 change Arr (behind up [12].length w9) _ _ _ _ at hA9
 change Only g w (behind up [12].length w9) at hO9
 clear hA hO hS0 hu hw
 generalize behind up [12].length w9=w7 at *
 clear up
 have hgl:g<w7.heap.size:=hA9.lt (by rw [←L7.out,List.length_set];exact HP6.out)
 have HP7:Hid (0<l7.length):=hid (by rw [←L7.out,List.length_set];exact HP6.out)
 have hA:=hA9
 have hO:=hO9
 clear hA9 hO9
 have F1n:Hid (l7[ia]? = some a2):=hid (by rw [←L7.out,List.getElem?_set_ne D31];exact F1.out)
 have F2n:Hid (l7[ib]? = some b1):=hid (by rw [←L7.out,List.getElem?_set_ne D32];exact F2.out)
 have F3n:Hid (l7[ic]? = some c2):=hid (by rw [←L7.out,List.getElem?_set_self (List.getElem?_eq_some_iff.1 F3.out).1])
 have F4n:Hid (l7[ie]? = some d2):=hid (by rw [←L7.out,List.getElem?_set_ne D34];exact F4.out)
 clear F1 F2 F3 F4
 have F1:=F1n
 have F2:=F2n
 have F3:=F3n
 have F4:=F4n
 clear F1n F2n F3n F4n
 go_wp2
 have hS0:∀ww,Cl w7 ww→Arr ww g 0 .u32 l7:=fun ww h=>hA.below h hgl
 obtain ⟨up,hup⟩:∃up:Nat→World→World,up=fun _ ww=>ww.setCell ⟨g,ib,none⟩ (.int .u32 b2):=⟨_,rfl⟩
 have hu:∀ww,up 0 ww=ww.setCell ⟨g,ib,none⟩ (.int .u32 b2):=fun ww=>by rw [hup]
 clear hup
 refine region_many 110 (tvOf [(97,(.slice (some ⟨g,0,none⟩) n cp)),(98,(.int .i64 (ib:Int))),(99,(.slice (some ⟨g,0,none⟩) n cp)),(100,(.int .i64 (ib:Int))),(101,(.pointer (some ⟨g,ib,none⟩))),(102,(.int .u32 b1)),(103,(.slice (some ⟨g,0,none⟩) n cp)),(104,(.int .i64 (ic:Int))),(105,(.pointer (some ⟨g,ic,none⟩))),(106,(.int .u32 c2)),(107,(.int .u32 x4)),(108,(.int .u32 b2)),(109,(.pointer (some ⟨g,ib,none⟩)))]) (kdOf [0,0,0,0,0,1,0,0,0,1,0,1,0,2]) [13] up [97,98,99,100,101,102,103,104,105,106,107,108,109] (by kernel_rfl) (by kernel_rfl) (by kernel_rfl) (Nat.le_of_eq rfl)
  ⟨pxm 97 (kxo (.slice (some ⟨g,0,none⟩) n cp) 0 rfl) rfl rfl rfl rfl rfl,
   pxm 98 (kxo (.int .i64 (ib:Int)) 2 rfl) rfl rfl rfl rfl rfl,
   pxm 99 (kxo (.slice (some ⟨g,0,none⟩) n cp) 0 rfl) rfl rfl rfl rfl rfl,
   pxm 100 (kxo (.int .i64 (ib:Int)) 2 rfl) rfl rfl rfl rfl rfl,
   pxb 101 (.pointer (some ⟨g,ib,none⟩)) (kxi (.slice (some ⟨g,0,none⟩) n cp) 2 99 rfl rfl) (kxi (.int .i64 (ib:Int)) 3 100 rfl rfl) rfl rfl rfl rfl (fun ev ww j0 j1=>by unfold execOp;simp only [j0,j1];try go_simp),
   qxa 102 (.int .u32 b1) (kxi (.pointer (some ⟨g,ib,none⟩)) 4 101 rfl rfl) rfl rfl rfl rfl (fun ev ww hw j0=>by have hcc:=(hS0 ww hw).at_ F2.out;rw [Nat.zero_add] at hcc;unfold execOp;simp only [j0];try go_simp),
   pxm 103 (kxo (.slice (some ⟨g,0,none⟩) n cp) 0 rfl) rfl rfl rfl rfl rfl,
   pxm 104 (kxo (.int .i64 (ic:Int)) 3 rfl) rfl rfl rfl rfl rfl,
   pxb 105 (.pointer (some ⟨g,ic,none⟩)) (kxi (.slice (some ⟨g,0,none⟩) n cp) 6 103 rfl rfl) (kxi (.int .i64 (ic:Int)) 7 104 rfl rfl) rfl rfl rfl rfl (fun ev ww j0 j1=>by unfold execOp;simp only [j0,j1];try go_simp),
   qxa 106 (.int .u32 c2) (kxi (.pointer (some ⟨g,ic,none⟩)) 8 105 rfl rfl) rfl rfl rfl rfl (fun ev ww hw j0=>by have hcc:=(hS0 ww hw).at_ F3.out;rw [Nat.zero_add] at hcc;unfold execOp;simp only [j0];try go_simp),
   pxb 107 (.int .u32 x4) (kxi (.int .u32 b1) 5 102 rfl rfl) (kxi (.int .u32 c2) 9 106 rfl rfl) rfl rfl rfl rfl (fun ev ww j0 j1=>by unfold execOp;simp only [j0,j1];try go_simp),
   .call rfl rfl 108 rfl fun a ww hw hf hd=>by
    have h107:a.eval (.tmp 107)=(.int .u32 x4):=hd 10 107 (by kernel_rfl) rfl
    have c0:a.eval (.const (.int .i64 (7)))=.int .i64 (7):=rfl
    have f16:a.eval (.func 121)=.func (.func 121) #[] #[]:=rfl
    refine ⟨121,#[(.int .u32 x4),(.int .i64 7)],?_,(left_any x4 7 25 ww (by omega) (hid rfl) Hx4).mono fun e w2 ⟨he,hw2⟩=>⟨by rw [he,Gx4.out];rfl,by rw [←hw2];exact Below.refl _ _⟩⟩
    revert h107 c0 f16
    generalize a.eval=ev
    intro h107 c0 f16
    unfold execOp
    simp only [h107,c0,f16]
    (try go_simp),
   pxb 109 (.pointer (some ⟨g,ib,none⟩)) (kxi (.slice (some ⟨g,0,none⟩) n cp) 0 97 rfl rfl) (kxi (.int .i64 (ib:Int)) 1 98 rfl rfl) rfl rfl rfl rfl (fun ev ww j0 j1=>by unfold execOp;simp only [j0,j1];try go_simp),
   .put 0 rfl rfl rfl ⟨g,ib,none⟩ (.int .u32 b2) hu fun a ww hw hf hd=>by
    have h109:a.eval (.tmp 109)=(.pointer (some ⟨g,ib,none⟩)):=hd 12 109 (by kernel_rfl) rfl
    have h108:a.eval (.tmp 108)=(.int .u32 b2):=hd 11 108 (by kernel_rfl) rfl
    have hst:Arr (behind up 0 ww) g 0 .u32 l7:=hS0 ww hw
    have hcc:=hst.at_ F2.out
    have hff:=hst.free (List.getElem?_eq_some_iff.1 F2.out).1
    rw [Nat.zero_add] at hcc hff
    generalize behind up 0 ww=wb at *
    revert h109 h108
    generalize a.eval=ev
    intro h109 h108
    unfold execOp
    simp only [h109,h108]
    (try go_simp),trivial⟩ ?_
 intro val w9 hv hw
 have e97:val 97=(.slice (some ⟨g,0,none⟩) n cp):=hv 97
 have e98:val 98=(.int .i64 (ib:Int)):=hv 98
 have e99:val 99=(.slice (some ⟨g,0,none⟩) n cp):=hv 99
 have e100:val 100=(.int .i64 (ib:Int)):=hv 100
 have e101:val 101=(.pointer (some ⟨g,ib,none⟩)):=hv 101
 have e102:val 102=(.int .u32 b1):=hv 102
 have e103:val 103=(.slice (some ⟨g,0,none⟩) n cp):=hv 103
 have e104:val 104=(.int .i64 (ic:Int)):=hv 104
 have e105:val 105=(.pointer (some ⟨g,ic,none⟩)):=hv 105
 have e106:val 106=(.int .u32 c2):=hv 106
 have e107:val 107=(.int .u32 x4):=hv 107
 have e108:val 108=(.int .u32 b2):=hv 108
 have e109:val 109=(.pointer (some ⟨g,ib,none⟩)):=hv 109
 simp only [putVals,List.foldl_cons,List.foldl_nil,Act.put,List.setIfInBounds_toArray,List.set_cons_succ,List.set_cons_zero,e97,e98,e99,e100,e101,e102,e103,e104,e105,e106,e107,e108,e109]
 clear hv e97 e98 e99 e100 e101 e102 e103 e104 e105 e106 e107 e108 e109
 have hA9:Arr (up 0 w9) g 0 .u32 l8:=by rw [hu,←L8.out];have:=(hS0 w9 hw).set ib b2;rwa [Nat.zero_add] at this
 have hO9:Only g w (up 0 w9):=by rw [hu];exact (hO.trans (Only.of hw g)).setCell (.inl rfl) _
 change Arr (behind up [13].length w9) _ _ _ _ at hA9
 change Only g w (behind up [13].length w9) at hO9
 clear hA hO hS0 hu hw
 generalize behind up [13].length w9=w8 at *
 clear up
 have hgl:g<w8.heap.size:=hA9.lt (by rw [←L8.out,List.length_set];exact HP7.out)
 have HP8:Hid (0<l8.length):=hid (by rw [←L8.out,List.length_set];exact HP7.out)
 have hA:=hA9
 have hO:=hO9
 clear hA9 hO9
 have F1n:Hid (l8[ia]? = some a2):=hid (by rw [←L8.out,List.getElem?_set_ne D21];exact F1.out)
 have F2n:Hid (l8[ib]? = some b2):=hid (by rw [←L8.out,List.getElem?_set_self (List.getElem?_eq_some_iff.1 F2.out).1])
 have F3n:Hid (l8[ic]? = some c2):=hid (by rw [←L8.out,List.getElem?_set_ne D23];exact F3.out)
 have F4n:Hid (l8[ie]? = some d2):=hid (by rw [←L8.out,List.getElem?_set_ne D24];exact F4.out)
 clear F1 F2 F3 F4
 have F1:=F1n
 have F2:=F2n
 have F3:=F3n
 have F4:=F4n
 clear F1n F2n F3n F4n
 go_wp2
 go_end0
 exact ⟨rfl,hA,hO⟩
end Go.Proofs.YtkblmdakejmmhaaGreatDoor
