import Derived.Test.YtkblmdakejmmhaaGreatDoorG22
namespace Go.Proofs.YtkblmdakejmmhaaGreatDoor
open Go Go.RowKit
section
set_option maxRecDepth 50000 in
set_option maxHeartbeats 400000 in
theorem split32 (hi:Bool) (A:Option Addr) (c s:Nat) (l:List Int) (w:World) (h1:1≤s) (h8:s≤4) (hn:l.length*s≤4096) (hA:Nums w .u32 A l) :
 Calls Tryz.prog 112 #[.slice A l.length c,.int .i64 s,.int .i64 (ordN hi)] w fun e w'=>∃B d ys,e=.returned (.slice B ys.length d)∧Hid (ys=splitB hi s l)∧NumsF w.heap.size w' .u8 B ys∧Below w.heap.size w w':=by
 obtain ⟨i0,hi0,hz0,hz1,hz2⟩:=info_parts Tryz.info5
 obtain ⟨S,hS⟩:∃S,S=splitB hi s l:=⟨_,rfl⟩
 have hSl:S.length=l.length*s:=by rw [hS,splitB_length]
 have HS:=hid hS
 have HSl:=hid hSl
 have hSb:S.length≤4096:=by omega
 have hi1:((l.length*s:Nat):Int)=(l.length:Int)*(s:Int):=by simp
 have hi2:0≤(l.length:Int)*(s:Int):=by omega
 have hi3:(l.length:Int)*(s:Int)≤4096:=by omega
 have HI:=hid hi1
 have hll:l.length≤4096:=Nat.le_trans (Nat.le_mul_of_pos_right _ (by omega)) hn
 clear hS hSl hi1
 go_enter Tryz.func112,Tryz.ntmps112
 go_wp2_with (at_make;refine wpList_make_full _ rfl _ _ 23 rfl w.heap.size 5 i0 _ 1 Tryz.underlying23 hi0 hz0 hz1 .i64 .i64 _ _ S.length rfl rfl ?_ ?_ ?_ ?_ ?_ ?_)
 ·rw [HSl.out];exact HI.out.symm
 ·rw [HSl.out];exact HI.out.symm
 ·rw [hz2];omega
 ·unfold maxLen;omega
 ·omega
 intro w1 hown hgrow
 have hb1:Below w.heap.size w w1:=(Below.refl _ _).grown hgrow (Nat.le_refl _) (by simp)
 have hO:Owns w1 w.heap.size 5 .u8 (.slice (some ⟨w.heap.size,0,none⟩) S.length S.length) (fillK S 0):=by
  rw [fillK_zero]
  unfold Owns
  rw [List.length_replicate,List.map_replicate,←toList_madeCells_one]
  exact hown
 clear hown hgrow
 go_wp2
 go_loopw [16] (fun i wr=>∃k:Nat,k≤S.length∧i=.int .i64 k∧Below w.heap.size w wr∧Owns wr w.heap.size 5 .u8 (.slice (some ⟨w.heap.size,0,none⟩) S.length S.length) (fillK S k)) (fun i _=>S.length - (intOf i).toNat)
 case atStart=>exact ⟨0,Nat.zero_le _,rfl,hb1,hO⟩
 case round =>
  clear hb1 hO
  obtain ⟨k,hk,rfl,hb,hO⟩:=hrel
  by_cases hlt:k<S.length
  ·have hq:k / s<l.length:=by
    have:=HSl.out
    rw [Nat.div_lt_iff_lt_mul (by omega)];omega
   have hr:k%s<s:=Nat.mod_lt _ (by omega)
   obtain ⟨b1,o1,x,rfl,_,hc1,H1⟩:=(hA.below hb).get hq
   obtain ⟨q,hqe⟩:∃q,q=k / s:=⟨_,rfl⟩
   obtain ⟨r,hre⟩:∃r,r=k%s:=⟨_,rfl⟩
   rw [←hqe] at hq hc1 H1
   rw [←hre] at hr
   have hqi:(k:Int) / (s:Int)=(q:Int):=by rw [hqe];simp
   have hri:(k:Int)%(s:Int)=(r:Int):=by rw [hre];simp
   have HQ:=hid hqe
   have HR:=hid hre
   clear hqe hre
   have hpos:(0:Int)≤k:=by omega
   have hlt':(k:Int)<S.length:=by omega
   have hs1:(1:Int)≤s:=by omega
   go_wp2
   have hs0:¬s=0:=by omega
   have hwq:IntKind.i64.wrap (q:Int)=(q:Int):=IntWalk.i64_in _ (by omega)
   have hti:(k:Int).tmod (s:Int)=(r:Int):=by rw [Int.tmod_eq_emod_of_nonneg (by omega)];exact hri
   have hwr:IntKind.i64.wrap (r:Int)=(r:Int):=IntWalk.i64_in _ (by omega)
   have hq0:(0:Int)≤q:=by omega
   have hq1:(q:Int)<l.length:=by omega
   obtain ⟨P,hP⟩:∃P,P=8*plc hi r s:=⟨_,rfl⟩
   have HP:=hid hP
   have hP1:(P:Int)≤32:=by unfold plc at hP;split at hP <;> omega
   have hP0:(0:Int)≤P:=by omega
   clear hP
   go_still_tail 16,(by kernel_rfl)
   still_call (shift_any hi r s P _ HP.out hr (by omega))
   repeat still_step
   refine wpStill_nil ?_
   obtain ⟨y,hy,hyf,_⟩:=hO.spot (j:=k) (by rw [fillK_length];exact hlt)
   change wpList _ _ _ _ _ wr.drew
   have hy1:wr.drew.cell? ⟨w.heap.size,k,none⟩=some (.int .u8 y):=hy
   have hyf1:wr.drew.frozen? ⟨w.heap.size,k,none⟩=false:=hyf
   have hb1:Below w.heap.size w wr.drew:=hb.drew
   have hO1:=hO.drew
   clear hO hb hy hyf hc1
   generalize wr.drew=w2 at *
   go_wp2
   go_roundw
   case rel =>
    have hsk:S[k]? = some (x / 2^P%256):=by
     rw [HS.out,splitB_at hi s l (by have:=HSl.out;omega),←HQ.out,←HR.out,HP.out]
     simp [List.getD,H1.out,dig]
    exact ⟨k+1,by omega,by go_num,hb1.setCell (Nat.le_refl _) _,by have h:=hO1.store k (x / 2^P%256);rw [fillK_set S hsk] at h;exact h⟩
   case measure=>simp [intOf];omega
  ·go_wp2
   go_ret
   have e:k=S.length:=by omega
   subst e
   rw [fillK_end] at hO
   exact ⟨_,_,S,rfl,HS,hO.fresh,hb⟩
end
section
set_option maxRecDepth 50000
theorem Tryz.info53:(Tryz.prog.info? 53).map (fun i=>(i.zero,i.size,i.bytes))=some (some (.int .u32 0),1,4):=by kernel_rfl
set_option maxHeartbeats 400000 in
theorem join32 (hi:Bool) (A:Option Addr) (c s:Nat) (b:List Int) (w:World) (h1:1≤s) (h8:s≤4) (hn:b.length≤4096) (hm:b.length%s=0) (hby:HByt b) (hA:Nums w .u8 A b) :
 Calls Tryz.prog 132 #[.slice A b.length c,.int .i64 s,.int .i64 (ordN hi)] w fun e w'=>∃B d ys,e=.returned (.slice B ys.length d)∧Hid (ys=joinB hi s b)∧NumsF w.heap.size w' .u32 B ys∧Below w.heap.size w w':=by
 obtain ⟨i0,hi0,hz0,hz1,hz2⟩:=info_parts Tryz.info53
 obtain ⟨M,hM⟩:∃M,M=b.length / s:=⟨_,rfl⟩
 have HM:=hid hM
 have hM1:M≤4096:=by rw [hM];exact Nat.le_trans (Nat.div_le_self _ _) hn
 have hMi:(b.length:Int) / (s:Int)=(M:Int):=by rw [hM];simp
 have HMod:=hid hm
 have hs0:¬s=0:=by omega
 have hs1:(1:Int)≤s:=by omega
 have hwM:IntKind.i64.wrap (M:Int)=(M:Int):=IntWalk.i64_in _ (by omega)
 clear hM hm
 go_enter Tryz.func132,Tryz.ntmps132
 go_wp2_with (at_make;refine wpList_make_full _ rfl _ _ 118 rfl w.heap.size 53 i0 _ 1 Tryz.underlying118 hi0 hz0 hz1 .i64 .i64 _ _ M rfl rfl ?_ ?_ ?_ ?_ ?_ ?_)
 ·rfl
 ·rfl
 ·rw [hz2];omega
 ·unfold maxLen;omega
 ·omega
 intro w1 hown hgrow
 have hb1:Below w.heap.size w w1:=(Below.refl _ _).grown hgrow (Nat.le_refl _) (by simp)
 have hO:Owns w1 w.heap.size 53 .u32 (.slice (some ⟨w.heap.size,0,none⟩) M M) (partK hi s b 0):=by
  rw [partK_zero,←HM.out]
  unfold Owns
  rw [List.length_replicate,List.map_replicate,←toList_madeCells_one]
  exact hown
 clear hown hgrow
 go_wp2
 go_loopw [17] (fun i wr=>∃k:Nat,k≤b.length∧i=.int .i64 k∧Below w.heap.size w wr∧Owns wr w.heap.size 53 .u32 (.slice (some ⟨w.heap.size,0,none⟩) M M) (partK hi s b k)) (fun i _=>b.length - (intOf i).toNat)
 case atStart=>exact ⟨0,Nat.zero_le _,rfl,hb1,hO⟩
 case round =>
  clear hb1 hO
  obtain ⟨k,hk,rfl,hb,hO⟩:=hrel
  by_cases hlt:k<b.length
  ·have hq:k / s<M:=by
    have h2:=HM.out
    have h3:=HMod.out
    rw [Nat.div_lt_iff_lt_mul (by omega),h2,Nat.mul_comm]
    have:=Nat.div_add_mod b.length s
    omega
   have hr:k%s<s:=Nat.mod_lt _ (by omega)
   obtain ⟨b1,o1,x,rfl,_,hc1,H1⟩:=(hA.below hb).get hlt
   obtain ⟨q,hqe⟩:∃q,q=k / s:=⟨_,rfl⟩
   obtain ⟨r,hre⟩:∃r,r=k%s:=⟨_,rfl⟩
   rw [←hqe] at hq
   rw [←hre] at hr
   have hqi:(k:Int) / (s:Int)=(q:Int):=by rw [hqe];simp
   have hri:(k:Int)%(s:Int)=(r:Int):=by rw [hre];simp
   obtain ⟨y,hy,hyf,H2⟩:=hO.spot (j:=q) (by rw [partK_length,←HM.out];exact hq)
   have hch:(chunk s b q)[r]? = some x:=by
    rw [chunk_at s b q hr,←H1.out,hqe,hre,Nat.mul_comm];congr 1;exact Nat.div_add_mod k s
   have hye:y=pval hi s (chunk s b q) r:=by
    have h2:=H2.out
    rw [partK_cur hi s b hqe hre (by omega) (by rw [←HM.out];exact hq)] at h2
    injection h2 with h2
    exact h2.symm
   have hcb:=chunk_byt hby s q
   have hxb:=hcb.at_ hch
   have hx0:=hxb.1
   have hx1:=hxb.2
   obtain ⟨P,hP⟩:∃P,P=8*plc hi r s:=⟨_,rfl⟩
   obtain ⟨z,hz⟩:∃z,z=pval hi s (chunk s b q) (r+1):=⟨_,rfl⟩
   have hor:=pval_or hi s (chunk s b q) hr hcb hch
   rw [←hye,←hP,←hz] at hor
   have hsh:=byte_shift_bd hi hr hx0 hx1
   rw [←hP] at hsh
   have hset:=partK_set hi s b hqe hre (by omega) (by rw [←HM.out];exact hq) hz
   have HS:=hid hset
   have HP:=hid hP
   have hyb:=pval_bd hi s (chunk s b q) (r:=r) (by omega) hcb
   rw [←hye] at hyb
   have hP1:(P:Int)≤32:=by unfold plc at hP;split at hP <;> omega
   have hP0:(0:Int)≤P:=by omega
   have h64:=pow_mono2 (a:=8*s) (b:=32) (by omega)
   have hwx:IntKind.u32.wrap x=x:=IntWalk.u32_in _ (by omega)
   have hwz:IntKind.u32.wrap (x*2^P)=x*2^P:=IntWalk.u32_in _ (by omega)
   have hbo:bits .or .u32 y (x*2^P)=z:=by rw [u32_or _ _ hyb.1 (by omega) hsh.1 (by omega)];exact hor
   clear hP hor hset hz hye hch hqe hre hxb hsh h64 hyb
   have hpos:(0:Int)≤k:=by omega
   have hlt':(k:Int)<b.length:=by omega
   have hwq:IntKind.i64.wrap (q:Int)=(q:Int):=IntWalk.i64_in _ (by omega)
   have hti:(k:Int).tmod (s:Int)=(r:Int):=by rw [Int.tmod_eq_emod_of_nonneg (by omega)];exact hri
   have hq0:(0:Int)≤q:=by omega
   have hq1:(q:Int)<M:=by omega
   go_wp2
   go_still_tail 16,(by kernel_rfl)
   still_call (shift_any hi r s P _ HP.out hr (by omega))
   repeat still_step
   refine wpStill_nil ?_
   change wpList _ _ _ _ _ wr.drew
   have hy1:wr.drew.cell? ⟨w.heap.size,q,none⟩=some (.int .u32 y):=hy
   have hyf1:wr.drew.frozen? ⟨w.heap.size,q,none⟩=false:=hyf
   have hb1:Below w.heap.size w wr.drew:=hb.drew
   have hO1:=hO.drew
   clear hO hb hy hyf hc1
   generalize wr.drew=w2 at *
   go_wp2
   go_roundw
   case rel=>exact ⟨k+1,by omega,by go_num,hb1.setCell (Nat.le_refl _) _,by have h:=hO1.store q z;rw [HS.out] at h;exact h⟩
   case measure=>simp [intOf];omega
  ·go_wp2
   go_ret
   have e:k=b.length:=by omega
   subst e
   rw [partK_end] at hO
   have hln:M=(joinB hi s b).length:=by rw [joinB_length];exact HM.out
   refine ⟨some ⟨w.heap.size,0,none⟩,M,joinB hi s b,?_,hid rfl,hO.fresh,hb⟩
   rw [←hln]
   rfl
end
section
set_option maxRecDepth 50000
set_option maxHeartbeats 400000 in
theorem words32_any (A:Option Addr) (c n:Nat) (b:List Int) (w:World) (hn:b.length≤4096) (hq:b.length=4*n) (hby:HByt b) (hA:Nums w .u8 A b) :
 Calls Tryz.prog 126 #[.slice A b.length c,.int .i64 4,.int .i64 1] w fun e w'=>∃B d ys,e=.returned (.tuple #[.slice B ys.length d,.int .i64 0])∧Hid (ys=joinB false 4 b)∧NumsF w.heap.size w' .u32 B ys∧Below w.heap.size w w':=by
 have hmi:(b.length:Int)%4=0:=by omega
 have HQ:=hid hq
 clear hq
 go_enter Tryz.func126,Tryz.ntmps126
 go_wp2_with (go_at_call 132;refine (join32 false A c 4 b _ (by omega) (by omega) hn (by have:=HQ.out;omega) hby hA).mono ?_;rintro e w' ⟨B,d,ys,rfl,HY,hN,hb⟩)
 go_ret2
 exact ⟨B,d,ys,rfl,HY,hN,hb⟩
theorem wWords32 (A:Option Addr) (c n m:Nat) (b:List Int) (w:World) (hl:b.length=m) (hn:m≤4096) (hq:m=4*n) (hby:HByt b) (hA:Nums w .u8 A b) :
 Calls Tryz.prog 110 #[.slice A m c] w fun e w'=>∃B d ys,e=.returned (.tuple #[.slice B n d,.int .i64 0])∧Hid (ys=joinB false 4 b)∧Hid (ys.length=n)∧NumsF w.heap.size w' .u32 B ys∧Below w.heap.size w w':=by
 subst hl
 have HQ:=hid hq
 clear hq
 go_enter Tryz.func110,Tryz.ntmps110
 go_wp2_with (go_at_call 126;refine (words32_any A c n b _ hn HQ.out hby hA).mono ?_;rintro e w' ⟨B,d,ys,rfl,HY,hN,hb⟩)
 go_ret2
 have e:ys.length=n:=by rw [HY.out,joinB_length];have:=HQ.out;omega
 exact ⟨B,d,ys,by rw [←e];rfl,HY,hid e,hN,hb⟩
theorem wBytes32 (A:Option Addr) (c n:Nat) (l:List Int) (w:World) (hl:l.length=n) (hn:n≤500) (hA:Nums w .u32 A l) :
 Calls Tryz.prog 88 #[.slice A n c] w fun e w'=>∃B d ys,e=.returned (.slice B (4*n) d)∧Hid (ys=splitB false 4 l)∧Hid (ys.length=4*n)∧NumsF w.heap.size w' .u8 B ys∧Below w.heap.size w w':=by
 subst hl
 go_enter Tryz.func88,Tryz.ntmps88
 go_wp2_with (go_at_call 112;refine (split32 false A c 4 l _ (by omega) (by omega) (by omega) hA).mono ?_;rintro e w' ⟨B,d,ys,rfl,HY,hN,hb⟩)
 go_ret
 have e:ys.length=4*l.length:=by rw [HY.out,splitB_length];omega
 exact ⟨B,d,ys,by rw [←e];rfl,HY,hid e,hN,hb⟩
theorem wBytes16 (A:Option Addr) (c:Nat) (l:List Int) (w:World) (hl:l.length=16) (hA:Nums w .u32 A l) :
 Calls Tryz.prog 88 #[.slice A 16 c] w fun e w'=>∃g f d ys,e=.returned (.slice (some ⟨g,f,none⟩) 64 d)∧Hid (ys=splitB false 4 l)∧Hid (ys.length=64)∧w'.rangeAt g f (ints .u8 ys)∧Below w.heap.size w w' :=
 (wBytes32 A c 16 l w hl (by omega) hA).mono fun e w' ⟨B,d,ys,he,hY,hL,hN,hb⟩=>by
   obtain ⟨g,f,hB,_,_,hc⟩:=hN (by rw [hL.out];omega)
   refine ⟨g,f,d,ys,by rw [he,hB],hY,hL,fun j v hv=>?_,hb⟩
   simp only [ints,List.getElem?_map,Option.map_eq_some_iff] at hv
   obtain ⟨x,hx,rfl⟩:=hv
   rw [hc j (List.getElem?_eq_some_iff.1 hx).1,List.getD_eq_getElem?_getD,hx];rfl
end
section
set_option maxRecDepth 50000
def WdZ (x:Int):Prop:=0≤x∧x<4294967296
theorem wd_wrapZ (x:Int):WdZ (IntKind.u32.wrap x):=by rw [IntKind.wrap_u32];exact ⟨by omega,by omega⟩
def rotZ (x:Int) (n:Nat):Int:=x / 2^n+x%2^n*2^(32 - n)
theorem pow_splitZ {n:Nat} (h:n≤32):(2:Int)^n*2^(32 - n)=4294967296:=by
 rw [←Int.pow_add,show n+(32 - n)=32 by omega];rfl
theorem rot_partsZ {x:Int} {n:Nat} (h:n≤32) (hx:WdZ x):0≤x / 2^n∧x / 2^n<2^(32 - n)∧0≤x%2^n∧x%2^n<2^n:=by
 have hp:=Int.pow_pos (n:=2) (m:=n) (by omega)
 have hs:=pow_splitZ h
 refine ⟨Int.ediv_nonneg hx.1 (by omega),?_,Int.emod_nonneg _ (by omega),Int.emod_lt_of_pos _ hp⟩
 apply Int.ediv_lt_of_lt_mul hp
 have:=hx.2
 rw [Int.mul_comm] at hs
 omega
theorem rot_wdZ {x:Int} {n:Nat} (h:n≤32) (hx:WdZ x):WdZ (rotZ x n):=by
 obtain ⟨a,b,c,d⟩:=rot_partsZ h hx
 have hp:=Int.pow_pos (n:=2) (m:=32 - n) (by omega)
 have hs:=pow_splitZ h
 unfold rotZ
 have h1:0≤x%2^n*2^(32 - n):=Int.mul_nonneg c (by omega)
 have h2:(x%2^n+1)*2^(32 - n)≤2^n*2^(32 - n):=Int.mul_le_mul_of_nonneg_right (by omega) (by omega)
 rw [Int.add_mul] at h2
 exact ⟨by omega,by omega⟩
theorem wrap_mul_powZ {x:Int} {n:Nat} (h:n≤32) (_:WdZ x):IntKind.u32.wrap (x*2^(32 - n))=x%2^n*2^(32 - n):=by
 rw [IntKind.wrap_u32]
 have hs:=pow_splitZ h
 rw [←hs]
 rw [Int.mul_comm x,Int.mul_comm (2^n),Int.mul_emod_mul_of_pos _ _ (Int.pow_pos (by omega)),Int.mul_comm]
theorem rot_orZ {x:Int} {n:Nat} (h:n≤32) (hx:WdZ x):bits .or .u32 (x*2^(32 - n)%4294967296) (x / 2^n)=rotZ x n:=by
 rw [←IntKind.wrap_u32]
 obtain ⟨a,b,c,d⟩:=rot_partsZ h hx
 have hr:=rot_wdZ h hx
 have hw:=wd_wrapZ (x*2^(32 - n))
 have hs:=pow_splitZ h
 have hp:=Int.pow_pos (n:=2) (m:=n) (by omega)
 have hle:x / 2^n≤x:=Int.ediv_le_self _ hx.1
 have hx2:=hx.2
 rw [u32_or _ _ hw.1 hw.2 a (by omega),wrap_mul_powZ h hx,or_apart _ _ _ c a b]
 unfold rotZ
 omega
theorem rot_sum {x:Int} {n:Nat} (h:n≤32) (hx:WdZ x):IntKind.u32.wrap (IntKind.u32.wrap (x*2^(32 - n))+x / 2^n)=rotZ x n:=by
 have hr:=rot_wdZ h hx
 rw [wrap_mul_powZ h hx]
 have e:x%2^n*2^(32 - n)+x / 2^n=rotZ x n:=by unfold rotZ;omega
 rw [e]
 exact IntWalk.u32_in _ ⟨hr.1,by have:=hr.2;omega⟩
abbrev xrZ (a b:Int):Int:=bits .xor .u32 a b
abbrev pl (a b:Int):Int:=(a+b)%4294967296
theorem nat_ltZ (x:Int) (h:WdZ x):x.toNat<2^32:=by have:=h.1;have:=h.2;omega
theorem xr_wdZ {a b:Int} (ha:WdZ a) (hb:WdZ b):WdZ (xrZ a b):=by
 show WdZ (bits .xor .u32 a b)
 rw [u32_xor _ _ ha.1 ha.2 hb.1 hb.2]
 have:=Nat.xor_lt_two_pow (nat_ltZ a ha) (nat_ltZ b hb)
 exact ⟨by omega,by omega⟩
theorem pl_wd (a b:Int):WdZ (pl a b):=⟨by show 0≤(a+b)%4294967296;omega,by show (a+b)%4294967296<4294967296;omega⟩
def ha (a b:Int):Int:=pl a b
def hd (n:Nat) (a b d:Int):Int:=rotZ (xrZ d (pl a b)) n
def qa1 (a b:Int):Int:=pl a b
def qd1 (a b d:Int):Int:=rotZ (xrZ d (qa1 a b)) 16
def qc1 (a b c d:Int):Int:=pl c (qd1 a b d)
def qb1 (a b c d:Int):Int:=rotZ (xrZ b (qc1 a b c d)) 20
def qa (a b c d:Int):Int:=pl (qa1 a b) (qb1 a b c d)
def qd (a b c d:Int):Int:=rotZ (xrZ (qd1 a b d) (qa a b c d)) 24
def qc (a b c d:Int):Int:=pl (qc1 a b c d) (qd a b c d)
def qb (a b c d:Int):Int:=rotZ (xrZ (qb1 a b c d) (qc a b c d)) 25
section
variable {a b c d:Int}
theorem qa1_wd:WdZ (qa1 a b):=pl_wd _ _
theorem qd1_wd (hd:WdZ d):WdZ (qd1 a b d):=rot_wdZ (by omega) (xr_wdZ hd qa1_wd)
theorem qc1_wd:WdZ (qc1 a b c d):=pl_wd _ _
theorem qb1_wd (hb:WdZ b):WdZ (qb1 a b c d):=rot_wdZ (by omega) (xr_wdZ hb qc1_wd)
theorem qa_wd:WdZ (qa a b c d):=pl_wd _ _
theorem qd_wd (hd:WdZ d):WdZ (qd a b c d):=rot_wdZ (by omega) (xr_wdZ (qd1_wd hd) qa_wd)
theorem qc_wd:WdZ (qc a b c d):=pl_wd _ _
theorem qb_wd (hb:WdZ b):WdZ (qb a b c d):=rot_wdZ (by omega) (xr_wdZ (qb1_wd hb) qc_wd)
end
def Wds (l:List Int):Prop:=∀x ∈ l,WdZ x
theorem Wds.at_ {l:List Int} (h:Wds l) {i:Nat} {x:Int} (hx:l[i]? = some x):WdZ x:=h x (List.mem_of_getElem? hx)
theorem Wds.get {l:List Int} (h:Wds l) (i:Nat):WdZ (l.getD i 0):=by
 rw [List.getD_eq_getElem?_getD]
 cases e:l[i]? with
 | none=>exact ⟨by simp,by simp⟩
 | some x=>exact h.at_ e
theorem Wds.set {l:List Int} (h:Wds l) (i:Nat) {x:Int} (hx:WdZ x):Wds (l.set i x):=fun y hy=>by
 rcases List.mem_or_eq_of_mem_set hy with e|e
 ·exact h y e
 ·rw [e];exact hx
theorem Wds.app {l m:List Int} (h:Wds l) (k:Wds m):Wds (l++m):=fun x hx=>by
 rcases List.mem_append.1 hx with e|e
 ·exact h x e
 ·exact k x e
def qAt (l:List Int) (i:Nat × Nat × Nat × Nat):List Int :=
 let a:=l.getD i.1 0;let b:=l.getD i.2.1 0;let c:=l.getD i.2.2.1 0;let d:=l.getD i.2.2.2 0
 (((l.set i.1 (qa a b c d)).set i.2.1 (qb a b c d)).set i.2.2.1 (qc a b c d)).set i.2.2.2 (qd a b c d)
theorem qAt_length (l:List Int) (i:Nat × Nat × Nat × Nat):(qAt l i).length=l.length:=by simp [qAt]
theorem qAt_wds {l:List Int} (h:Wds l) (i:Nat × Nat × Nat × Nat):Wds (qAt l i):=by
 unfold qAt
 exact (((h.set _ qa_wd).set _ (qb_wd (h.get _))).set _ qc_wd).set _ (qd_wd (h.get _))
def QS:List (Nat × Nat × Nat × Nat):=[(0,4,8,12),(1,5,9,13),(2,6,10,14),(3,7,11,15),(0,5,10,15),(1,6,11,12),(2,7,8,13),(3,4,9,14)]
def QI (n:Nat):Nat × Nat × Nat × Nat:=QS.getD n (0,0,0,0)
def qk (l:List Int):Nat→List Int
 | 0=>l
 | n+1=>qAt (qk l n) (QI n)
theorem qk_length (l:List Int) (n:Nat):(qk l n).length=l.length:=by induction n with
 | zero=>rfl
 | succ n ih=>rw [qk,qAt_length,ih]
theorem qk_wds {l:List Int} (h:Wds l) (n:Nat):Wds (qk l n):=by induction n with
 | zero=>exact h
 | succ n ih=>exact qAt_wds ih _
def rk (l:List Int):Nat→List Int
 | 0=>l
 | n+1=>qk (rk l n) 8
theorem rk_length (l:List Int) (n:Nat):(rk l n).length=l.length:=by induction n with
 | zero=>rfl
 | succ n ih=>rw [rk,qk_length,ih]
theorem rk_wds {l:List Int} (h:Wds l) (n:Nat):Wds (rk l n):=by induction n with
 | zero=>exact h
 | succ n ih=>exact qk_wds ih _
def C4:List Int:=[1634760805,857760878,2036477234,1797285236]
def startL (key nonce:List Int) (count:Int):List Int:=C4++joinB false 4 key++[count]++joinB false 4 nonce
theorem startL_length {key nonce:List Int} {count:Int} (hk:key.length=32) (hn:nonce.length=12):(startL key nonce count).length=16:=by
 simp [startL,C4,joinB_length,hk,hn]
theorem joinB_wds (b:List Int) (h:HByt b):Wds (joinB false 4 b):=fun x hx=>by
 obtain ⟨i,hi,rfl⟩:=List.mem_map.1 hx
 have:=pval_bd false 4 (chunk 4 b i) (r:=4) (by omega) (chunk_byt h 4 i)
 exact ⟨this.1,by have:=this.2;simpa using this⟩
theorem startL_wds {key nonce:List Int} {count:Int} (hk:HByt key) (hn:HByt nonce) (hc:WdZ count):Wds (startL key nonce count):=by
 refine ((Wds.app ?_ (joinB_wds _ hk)).app ?_).app (joinB_wds _ hn)
 ·intro x hx
  simp only [C4,List.mem_cons,List.not_mem_nil,or_false] at hx
  rcases hx with rfl|rfl|rfl|rfl <;> exact ⟨by decide,by decide⟩
 ·intro x hx
  rw [List.mem_singleton] at hx
  rw [hx];exact hc
def sumK (l m:List Int) (k:Nat):List Int:=(List.range l.length).map fun i=>if i<k then pl (l.getD i 0) (m.getD i 0) else l.getD i 0
theorem sumK_length (l m:List Int) (k:Nat):(sumK l m k).length=l.length:=by simp [sumK]
theorem sumK_at (l m:List Int) (k:Nat) {i:Nat} (hi:i<l.length):(sumK l m k)[i]? = some (if i<k then pl (l.getD i 0) (m.getD i 0) else l.getD i 0):=by
 unfold sumK
 rw [List.getElem?_map,List.getElem?_range hi];rfl
theorem sumK_zero (l m:List Int):sumK l m 0=l:=by
 apply List.ext_getElem?
 intro i
 by_cases hi:i<l.length
 ·rw [sumK_at l m 0 hi,if_neg (by omega)];simp [List.getD,hi]
 ·rw [List.getElem?_eq_none (by rw [sumK_length];omega),List.getElem?_eq_none (by omega)]
theorem sumK_set (l m:List Int) {k:Nat} (hk:k<l.length):(sumK l m k).set k (pl (l.getD k 0) (m.getD k 0))=sumK l m (k+1):=by
 apply List.ext_getElem?
 intro i
 by_cases e:k=i
 ·subst e
  rw [List.getElem?_set_self (by rw [sumK_length];exact hk),sumK_at l m _ hk,if_pos (by omega)]
 ·rw [List.getElem?_set_ne e]
  by_cases hi:i<l.length
  ·rw [sumK_at l m _ hi,sumK_at l m _ hi]
   by_cases h:i<k
   ·rw [if_pos h,if_pos (by omega)]
   ·rw [if_neg h,if_neg (by omega)]
  ·rw [List.getElem?_eq_none (by rw [sumK_length];omega),List.getElem?_eq_none (by rw [sumK_length];omega)]
def words (key nonce:List Int) (count:Int):List Int:=let s:=startL key nonce count;sumK (rk s 10) s 16
def blockL (key nonce:List Int) (count:Int):List Int:=splitB false 4 (words key nonce count)
theorem words_length {key nonce:List Int} {count:Int} (hk:key.length=32) (hn:nonce.length=12):(words key nonce count).length=16:=by
 unfold words;rw [sumK_length,rk_length,startL_length hk hn]
theorem blockL_length {key nonce:List Int} {count:Int} (hk:key.length=32) (hn:nonce.length=12):(blockL key nonce count).length=64:=by
 unfold blockL;rw [splitB_length,words_length hk hn]
theorem blockL_byt (key nonce:List Int) (count:Int):HByt (blockL key nonce count):=splitB_byt _ _ _
def strm (key nonce:List Int) (count:Nat):Nat→List Int
 | 0=>[]
 | n+1=>strm key nonce count n++blockL key nonce ((count+n:Nat):Int)
theorem strm_length {key nonce:List Int} {count:Nat} (hk:key.length=32) (hn:nonce.length=12) (n:Nat):(strm key nonce count n).length=64*n:=by
 induction n with
 | zero=>rfl
 | succ n ih=>rw [strm,List.length_append,ih,blockL_length hk hn];omega
theorem strm_byt (key nonce:List Int) (count n:Nat):HByt (strm key nonce count n):=by
 induction n with
 | zero=>intro x hx;cases hx
 | succ n ih =>
   intro x hx
   rcases List.mem_append.1 hx with h|h
   ·exact ih x h
   ·exact blockL_byt _ _ _ x h
theorem strm_pre (key nonce:List Int) (count:Nat) {m n:Nat} (h:m≤n):strm key nonce count m <+: strm key nonce count n:=by
 induction n with
 | zero =>
   have e:m=0:=by omega
   rw [e];exact List.prefix_rfl
 | succ n ih =>
   by_cases e:m=n+1
   ·subst e;exact List.prefix_rfl
   ·exact (ih (by omega)).trans (List.prefix_append _ _)
theorem rl_16 (x y:Int) (w:World) (h:Hid (WdZ x)) (hy:Hid (rotZ x 16=y)) :
 Calls Tryz.prog 127 #[.int .u32 x,.int .i64 16] w fun e w'=>e=.returned (.int .u32 y)∧w=w':=by
 have k1:bits .and .u64 16 31=16:=by kernel_rfl
 go_enter Tryz.func127,Tryz.ntmps127
 go_wp2
 go_ret
 exact ⟨ret_int (by rw [←hy.out];have:=rot_orZ (n:=16) (by omega) h.out;simpa using this),rfl⟩
theorem rl_12 (x y:Int) (w:World) (h:Hid (WdZ x)) (hy:Hid (rotZ x 20=y)) :
 Calls Tryz.prog 127 #[.int .u32 x,.int .i64 12] w fun e w'=>e=.returned (.int .u32 y)∧w=w':=by
 have k1:bits .and .u64 12 31=12:=by kernel_rfl
 go_enter Tryz.func127,Tryz.ntmps127
 go_wp2
 go_ret
 exact ⟨ret_int (by rw [←hy.out];have:=rot_orZ (n:=20) (by omega) h.out;simpa using this),rfl⟩
theorem rl_8Z (x y:Int) (w:World) (h:Hid (WdZ x)) (hy:Hid (rotZ x 24=y)) :
 Calls Tryz.prog 127 #[.int .u32 x,.int .i64 8] w fun e w'=>e=.returned (.int .u32 y)∧w=w':=by
 have k1:bits .and .u64 8 31=8:=by kernel_rfl
 go_enter Tryz.func127,Tryz.ntmps127
 go_wp2
 go_ret
 exact ⟨ret_int (by rw [←hy.out];have:=rot_orZ (n:=24) (by omega) h.out;simpa using this),rfl⟩
theorem rl_7 (x y:Int) (w:World) (h:Hid (WdZ x)) (hy:Hid (rotZ x 25=y)) :
 Calls Tryz.prog 127 #[.int .u32 x,.int .i64 7] w fun e w'=>e=.returned (.int .u32 y)∧w=w':=by
 have k1:bits .and .u64 7 31=7:=by kernel_rfl
 go_enter Tryz.func127,Tryz.ntmps127
 go_wp2
 go_ret
 exact ⟨ret_int (by rw [←hy.out];have:=rot_orZ (n:=25) (by omega) h.out;simpa using this),rfl⟩
theorem results_tmp4 {fn:Func} {t u v x:Tmp} (h:fn.results = #[.tmp t,.tmp u,.tmp v,.tmp x]) (tmps:Array Value) (P:Program) (w:World) :
 (results fn tmps).run P w=.ok (.tuple #[tmps.getD t undef,tmps.getD u undef,tmps.getD v undef,tmps.getD x undef]) w:=by
 simp [results,h]
set_option maxHeartbeats 400000 in
theorem quarter_any (a b c d:Int) (w:World) (hb:Hid (WdZ b)) (hd:Hid (WdZ d)) :
 Calls Tryz.prog 111 #[.int .u32 a,.int .u32 b,.int .u32 c,.int .u32 d] w fun e w'=>e=.returned (.tuple #[.int .u32 (qa a b c d),.int .u32 (qb a b c d),.int .u32 (qc a b c d),.int .u32 (qd a b c d)])∧w=w':=by
 obtain ⟨a1,e1⟩:∃z,(a+b)%4294967296=z:=⟨_,rfl⟩
 obtain ⟨x1,f1⟩:∃z,bits .xor .u32 d a1=z:=⟨_,rfl⟩
 obtain ⟨d1,g1⟩:∃z,rotZ x1 16=z:=⟨_,rfl⟩
 obtain ⟨c1,e2⟩:∃z,(c+d1)%4294967296=z:=⟨_,rfl⟩
 obtain ⟨x2,f2⟩:∃z,bits .xor .u32 b c1=z:=⟨_,rfl⟩
 obtain ⟨b1,g2⟩:∃z,rotZ x2 20=z:=⟨_,rfl⟩
 obtain ⟨a2,e3⟩:∃z,(a1+b1)%4294967296=z:=⟨_,rfl⟩
 obtain ⟨x3,f3⟩:∃z,bits .xor .u32 d1 a2=z:=⟨_,rfl⟩
 obtain ⟨d2,g3⟩:∃z,rotZ x3 24=z:=⟨_,rfl⟩
 obtain ⟨c2,e4⟩:∃z,(c1+d2)%4294967296=z:=⟨_,rfl⟩
 obtain ⟨x4,f4⟩:∃z,bits .xor .u32 b1 c2=z:=⟨_,rfl⟩
 obtain ⟨b2,g4⟩:∃z,rotZ x4 25=z:=⟨_,rfl⟩
 have r1:qa a b c d=a2:=by subst e1 f1 g1 e2 f2 g2 e3;rfl
 have r2:qb a b c d=b2:=by subst e1 f1 g1 e2 f2 g2 e3 f3 g3 e4 f4 g4;rfl
 have r3:qc a b c d=c2:=by subst e1 f1 g1 e2 f2 g2 e3 f3 g3 e4;rfl
 have r4:qd a b c d=d2:=by subst e1 f1 g1 e2 f2 g2 e3 f3 g3;rfl
 have h1:Hid (WdZ x1):=hid (by rw [←f1];exact xr_wdZ hd.out (by rw [←e1];exact pl_wd _ _))
 have k1:WdZ d1:=by rw [←g1];exact rot_wdZ (by omega) h1.out
 have h2:Hid (WdZ x2):=hid (by rw [←f2];exact xr_wdZ hb.out (by rw [←e2];exact pl_wd _ _))
 have k2:WdZ b1:=by rw [←g2];exact rot_wdZ (by omega) h2.out
 have h3:Hid (WdZ x3):=hid (by rw [←f3];exact xr_wdZ k1 (by rw [←e3];exact pl_wd _ _))
 have h4:Hid (WdZ x4):=hid (by rw [←f4];exact xr_wdZ k2 (by rw [←e4];exact pl_wd _ _))
 have G1:=hid g1
 have G2:=hid g2
 have G3:=hid g3
 have G4:=hid g4
 rw [r1,r2,r3,r4]
 clear r1 r2 r3 r4 g1 g2 g3 g4 k1 k2
 go_enter Tryz.func111,Tryz.ntmps111
 go_wp2_with (go_at_call 127;(first|(with_reducible refine (rl_16 x1 d1 _ h1 G1).mono ?_)|(with_reducible refine (rl_12 x2 b1 _ h2 G2).mono ?_)|(with_reducible refine (rl_8Z x3 d2 _ h3 G3).mono ?_)|(with_reducible refine (rl_7 x4 b2 _ h4 G4).mono ?_));rintro e w' ⟨rfl,rfl⟩)
 (try simp only [Exit.inBlock,Exit.then])
 refine bodyPost_ret (results_tmp4 rfl _ _ _) rfl ?_
 exact ⟨rfl,rfl⟩
def QT:List Int:=[0,4,8,12,1,5,9,13,2,6,10,14,3,7,11,15,0,5,10,15,1,6,11,12,2,7,8,13,3,4,9,14]
def Tabs (w:World):Prop:=1<w.heap.size∧w.rangeAt 1 0 (ints .i64 QT)
theorem Tabs.below {w w':World} {B:Nat} (h:Tabs w) (hb:Below B w w') (hB:1<B):Tabs w' :=
 ⟨Nat.lt_of_lt_of_le h.1 hb.size,fun j v hv=>(cell_same (hb.block 1 hB)).trans (h.2 j v hv)⟩
theorem Tabs.next {w w':World} (h:Tabs w) (hb:Below w.heap.size w w'):Tabs w':=h.below hb h.1
theorem Tabs.only {w w':World} {b:Nat} (h:Tabs w) (hb:Only b w w') (h2:1<b):Tabs w' :=
 ⟨Nat.lt_of_lt_of_le h.1 hb.size,fun j v hv=>(cell_same (hb.block 1 h.1 (by omega))).trans (h.2 j v hv)⟩
theorem info61:(Tryz.prog.info? 147).map (·.size)=some (ints .i64 QT).length:=by kernel_rfl
theorem info60:(Tryz.prog.info? 146).map (fun i=>(i.zero,i.size))=some (some (.agg (ints .i64 [0,0,0,0]).toArray),4):=by kernel_rfl
theorem index61 (k:Nat) (hk:k<8) (w:World):(Instr.index 147 (.agg (ints .i64 QT).toArray) (.int .i64 (k:Int))).run Tryz.prog w=.ok (.agg (ints .i64 [((QI k).1:Int),((QI k).2.1:Int),((QI k).2.2.1:Int),((QI k).2.2.2:Int)]).toArray) w:=by
 have h:k=0∨k=1∨k=2∨k=3∨k=4∨k=5∨k=6∨k=7:=by omega
 have hu:(underlying 147).run Tryz.prog w=.ok (.array 8 146) w:=by go_simp
 have hs:(sizeOf 146).run Tryz.prog w=.ok 4 w:=by go_simp
 rcases h with rfl|rfl|rfl|rfl|rfl|rfl|rfl|rfl <;> (simp [Instr.index,QI,QS,QT,ints];go_simp)
theorem QI_lt (k:Nat):(QI k).1<16∧(QI k).2.1<16∧(QI k).2.2.1<16∧(QI k).2.2.2<16:=by
 by_cases h:k<8
 ·have h:k=0∨k=1∨k=2∨k=3∨k=4∨k=5∨k=6∨k=7:=by omega
  rcases h with rfl|rfl|rfl|rfl|rfl|rfl|rfl|rfl <;> decide
 ·have e:QI k=(0,0,0,0):=by unfold QI;rw [List.getD_eq_getElem?_getD,List.getElem?_eq_none (by simp [QS];omega)];rfl
  rw [e];decide
end
end Go.Proofs.YtkblmdakejmmhaaGreatDoor
