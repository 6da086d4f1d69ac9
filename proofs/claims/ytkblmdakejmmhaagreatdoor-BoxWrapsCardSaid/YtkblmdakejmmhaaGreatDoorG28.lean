import Derived.Test.YtkblmdakejmmhaaGreatDoorG21
namespace Go.Proofs.YtkblmdakejmmhaaGreatDoor
open Go Go.RowKit
section
set_option maxHeartbeats 400000
set_option maxRecDepth 50000
theorem split64Z (hi:Bool) (A:Option Addr) (c s:Nat) (l:List Int) (w:World) (h1:1≤s) (h8:s≤8) (hn:l.length*s≤4096) (hA:Nums w .u64 A l) :
 Calls Tryz.prog 124 #[.slice A l.length c,.int .i64 s,.int .i64 (ordN hi)] w fun e w'=>∃B d ys,e=.returned (.slice B ys.length d)∧ys.length≤d∧Hid (ys=splitB hi s l)∧NumsF w.heap.size w' .u8 B ys∧Below w.heap.size w w':=by
 obtain ⟨i0,hi0,hz0,hz1,hz2⟩:=info_parts Tryz.info5
 obtain ⟨S,hS⟩:∃S,S=splitB hi s l:=⟨_,rfl⟩
 have hSl:S.length=l.length*s:=by rw [hS,splitB_length]
 have HS:=hid hS
 have HSl:=hid hSl
 have hSb:S.length≤4096:=by omega
 have hi1:((l.length*s:Nat):Int)=(l.length:Int)*(s:Int):=by simp
 have hi2:0≤(l.length:Int)*(s:Int):=by omega
 have hi3:(l.length:Int)*(s:Int)≤4096:=by omega
 have HI:=hid hi1
 have hll:l.length≤4096:=Nat.le_trans (Nat.le_mul_of_pos_right _ (by omega)) hn
 clear hS hSl hi1
 go_enter Tryz.func124,Tryz.ntmps124
 go_wp2_with (at_make;refine wpList_make_full _ rfl _ _ 23 rfl w.heap.size 5 i0 _ 1 Tryz.underlying23 hi0 hz0 hz1 .i64 .i64 _ _ S.length rfl rfl ?_ ?_ ?_ ?_ ?_ ?_)
 ·rw [HSl.out];exact HI.out.symm
 ·rw [HSl.out];exact HI.out.symm
 ·rw [hz2];omega
 ·unfold maxLen;omega
 ·omega
 intro w1 hown hgrow
 have hb1:Below w.heap.size w w1:=(Below.refl _ _).grown hgrow (Nat.le_refl _) (by simp)
 have hO:Owns w1 w.heap.size 5 .u8 (.slice (some ⟨w.heap.size,0,none⟩) S.length S.length) (fillK S 0):=by
  rw [fillK_zero]
  unfold Owns
  rw [List.length_replicate,List.map_replicate,←toList_madeCells_one]
  exact hown
 clear hown hgrow
 go_wp2
 go_loopw [16] (fun i wr=>∃k:Nat,k≤S.length∧i=.int .i64 k∧Below w.heap.size w wr∧Owns wr w.heap.size 5 .u8 (.slice (some ⟨w.heap.size,0,none⟩) S.length S.length) (fillK S k)) (fun i _=>S.length - (intOf i).toNat)
 case atStart=>exact ⟨0,Nat.zero_le _,rfl,hb1,hO⟩
 case round =>
  clear hb1 hO
  obtain ⟨k,hk,rfl,hb,hO⟩:=hrel
  by_cases hlt:k<S.length
  ·have hq:k / s<l.length:=by
    have:=HSl.out
    rw [Nat.div_lt_iff_lt_mul (by omega)];omega
   have hr:k%s<s:=Nat.mod_lt _ (by omega)
   obtain ⟨b1,o1,x,rfl,_,hc1,H1⟩:=(hA.below hb).get hq
   obtain ⟨q,hqe⟩:∃q,q=k / s:=⟨_,rfl⟩
   obtain ⟨r,hre⟩:∃r,r=k%s:=⟨_,rfl⟩
   rw [←hqe] at hq hc1 H1
   rw [←hre] at hr
   have hqi:(k:Int) / (s:Int)=(q:Int):=by rw [hqe];simp
   have hri:(k:Int)%(s:Int)=(r:Int):=by rw [hre];simp
   have HQ:=hid hqe
   have HR:=hid hre
   clear hqe hre
   have hpos:(0:Int)≤k:=by omega
   have hlt':(k:Int)<S.length:=by omega
   have hs1:(1:Int)≤s:=by omega
   go_wp2
   have hs0:¬s=0:=by omega
   have hwq:IntKind.i64.wrap (q:Int)=(q:Int):=IntWalk.i64_in _ (by omega)
   have hti:(k:Int).tmod (s:Int)=(r:Int):=by rw [Int.tmod_eq_emod_of_nonneg (by omega)];exact hri
   have hwr:IntKind.i64.wrap (r:Int)=(r:Int):=IntWalk.i64_in _ (by omega)
   have hq0:(0:Int)≤q:=by omega
   have hq1:(q:Int)<l.length:=by omega
   obtain ⟨P,hP⟩:∃P,P=8*plc hi r s:=⟨_,rfl⟩
   have HP:=hid hP
   have hP1:(P:Int)≤64:=by unfold plc at hP;split at hP <;> omega
   have hP0:(0:Int)≤P:=by omega
   clear hP
   go_still_tail 16,(by kernel_rfl)
   still_call (shift_any hi r s P _ HP.out hr h8)
   repeat still_step
   refine wpStill_nil ?_
   obtain ⟨y,hy,hyf,_⟩:=hO.spot (j:=k) (by rw [fillK_length];exact hlt)
   change wpList _ _ _ _ _ wr.drew
   have hy1:wr.drew.cell? ⟨w.heap.size,k,none⟩=some (.int .u8 y):=hy
   have hyf1:wr.drew.frozen? ⟨w.heap.size,k,none⟩=false:=hyf
   have hb1:Below w.heap.size w wr.drew:=hb.drew
   have hO1:=hO.drew
   clear hO hb hy hyf hc1
   generalize wr.drew=w2 at *
   go_wp2
   go_roundw
   case rel =>
    have hsk:S[k]? = some (x / 2^P%256):=by
     rw [HS.out,splitB_at hi s l (by have:=HSl.out;omega),←HQ.out,←HR.out,HP.out]
     simp [List.getD,H1.out,dig]
    exact ⟨k+1,by omega,by go_num,hb1.setCell (Nat.le_refl _) _,by have h:=hO1.store k (x / 2^P%256);rw [fillK_set S hsk] at h;exact h⟩
   case measure=>simp [intOf];omega
  ·go_wp2
   go_ret
   have e:k=S.length:=by omega
   subst e
   rw [fillK_end] at hO
   exact ⟨_,_,S,rfl,Nat.le_refl _,HS,hO.fresh,hb⟩
theorem split64_oneZ (hi:Bool) (b:Nat) (s:Nat) (n:Int) (w:World) (h1:1≤s) (h8:s≤8) (hb:b<w.heap.size) (hc:w.cell? ⟨b,0,none⟩=some (.int .u64 n)) :
 Calls Tryz.prog 124 #[.slice (some ⟨b,0,none⟩) 1 1,.int .i64 s,.int .i64 (ordN hi)] w fun e w'=>∃B d ys,e=.returned (.slice B ys.length d)∧ys.length≤d∧Hid (ys=splitB hi s [n])∧NumsF w.heap.size w' .u8 B ys∧Below w.heap.size w w' :=
 split64Z hi (some ⟨b,0,none⟩) 1 s [n] w h1 h8 (by simp;omega) (fun _=>⟨b,0,rfl,hb,fun i hi=>by
  have:i=0:=by simpa using hi
  subst this
  exact hc⟩)
theorem put_yesZ (hi:Bool) (n:Int) (s:Nat) (w:World) (h:Fits n s) :
 Calls Tryz.prog 105 #[.int .i64 n,.int .i64 s,.int .i64 (ordN hi)] w fun e w'=>∃B d ys,e=.returned (.tuple #[.slice B ys.length d,.int .i64 0])∧ys.length≤d∧Hid (ys=splitB hi s [n])∧NumsF w.heap.size w' .u8 B ys∧Below w.heap.size w w':=by
 obtain ⟨h1,h8,h0,hg⟩:=h
 rw [Int.toNat_natCast] at hg
 have hgb:=(grt_bd s (by omega) (by omega)).2
 have hwn:IntKind.u64.wrap n=n:=IntWalk.u64_in _ (by omega)
 go_enter Tryz.func105,Tryz.ntmps105
 go_wp2_with (first|(go_at_call 123;refine (greatest_any s _ (by omega) (by omega)).mono ?_;rintro e w' ⟨rfl,rfl⟩)|(go_at_call 124;refine (split64_oneZ hi _ s n _ (by omega) (by omega) (by simp) (by go_simp)).mono ?_;rintro e w' ⟨B,d,ys,rfl,hyd,HY,hN,hb⟩))
 go_ret2
 exact ⟨B,d,ys,rfl,hyd,HY,hN.less (by simp),((Below.refl _ _).alloc (Nat.le_refl _) _).trans (hb.mono (by simp))⟩
def le8 (n:Nat):List Int:=splitB false 8 [(n:Int)]
theorem le8_length (n:Nat):(le8 n).length=8:=split_len false 8 n
theorem le8_byt (n:Nat):HByt (le8 n):=splitB_byt _ _ _
theorem wlow8 (n:Nat) (w:World) (hn:n≤4096):Calls Tryz.prog 93 #[.int .i64 n,.int .i64 8] w fun e w'=>∃B d,e=.returned (.tuple #[.slice B 8 d,.int .i64 0])∧8≤d∧Nums w' .u8 B (le8 n)∧Below w.heap.size w w':=by
 have hf:Fits (n:Int) ((8:Nat):Int):=by
  unfold Fits
  rw [Int.toNat_natCast]
  simp [grt]
  omega
 have HL:=hid (le8_length n)
 go_enter Tryz.func93,Tryz.ntmps93
 go_wp2_with (go_at_call 105;refine (put_yesZ false n 8 _ hf).mono ?_;rintro e w' ⟨B,d,ys,rfl,hyd,HY,hN,hb⟩)
 obtain ⟨m,hm⟩:∃m,ys.length=m:=⟨_,rfl⟩
 have hy:ys=le8 n:=HY.out
 rw [hm] at hyd ⊢
 rw [hy,HL.out] at hm
 rw [hy] at hN
 subst hm
 go_wp2
 go_ret2
 exact ⟨B,d,rfl,hyd,hN.nums,hb⟩
theorem rlow8 (n:Nat) (w:World) (hn:n≤4096):Calls Tryz.prog 69 #[.int .i64 n,.int .i64 8] w fun e w'=>∃B d,e=.returned (.tuple #[.slice B 8 d,.int .i64 0])∧NumsF w.heap.size w' .u8 B (le8 n)∧Below w.heap.size w w':=by
 refine (refLow_loop n 8 w (by omega) (by omega) (by omega) (by omega)).mono ?_
 rintro e w' (⟨h,B,d,ys,rfl,HY,hN,hb⟩|⟨h,rfl,hb⟩)
 ·have hy:ys=le8 n:=HY.out
  subst hy
  rw [le8_length]
  exact ⟨B,d,rfl,hN,hb⟩
 ·exact absurd (by have:(2:Int)^(8*8)=18446744073709551616:=by decide
                   rw [this];omega) h
end
section
set_option maxRecDepth 50000
theorem byt_of_wfZ {bs:List Int} (h:∀x ∈ bs,(Lit.int .u8 x).wf=true):Byt bs:=fun x hx=>by
 have h1:=h x hx
 simp [Lit.wf,IntKind.min,IntKind.max,IntKind.bits,IntKind.signed] at h1
 omega
theorem Byt.app {a b:List Int} (h:Byt a) (k:Byt b):Byt (a++b):=fun x hx=>by
 rcases List.mem_append.1 hx with h1|h1
 ·exact h x h1
 ·exact k x h1
theorem Byt.take {a:List Int} (h:Byt a) (n:Nat):Byt (a.take n):=fun x hx=>h x (List.mem_of_mem_take hx)
theorem Byt.drop {a:List Int} (h:Byt a) (n:Nat):Byt (a.drop n):=fun x hx=>h x (List.mem_of_mem_drop hx)
theorem byt_zeros (n:Nat):Byt (zeros n):=fun x hx=>by rw [List.eq_of_mem_replicate hx];omega
theorem bv_set (l:List Int):∀(p:Nat) (v v0:Int),l[p]? = some v0→bv (l.set p v)=bv l+(v - v0)*256^p:=by
 induction l with
 | nil=>intro p v v0 h;simp at h
 | cons a l ih =>
   intro p v v0 h
   cases p with
   | zero=>simp at h;subst h;simp [bv];omega
   | succ p =>
     have h2:=ih p v v0 (by simpa using h)
     simp only [List.set_cons_succ,bv,h2,Int.pow_succ]
     rw [Int.mul_add]
     have e:(v - v0)*(256^p*256)=256*((v - v0)*256^p):=by rw [←Int.mul_assoc,Int.mul_comm]
     rw [e];omega
theorem bv_append (a b:List Int):bv (a++b)=bv a+256^a.length*bv b:=by
 induction a with
 | nil=>simp [bv]
 | cons x a ih =>
   simp only [List.cons_append,bv,ih,List.length_cons,Int.pow_succ]
   rw [Int.mul_add,←Int.mul_assoc,Int.mul_comm 256 (256^a.length)]
   omega
theorem bv_zeros (n:Nat):bv (zeros n)=0:=by
 induction n with
 | zero=>rfl
 | succ n ih=>rw [zeros,List.replicate_succ,bv];unfold zeros at ih;rw [ih];rfl
def bn (l:List Int):Nat:=(bv l).toNat
theorem bn_int {l:List Int} (h:Byt l):(bn l:Int)=bv l:=Int.toNat_of_nonneg (bv_bd l h).1
theorem bn_lt {l:List Int} (h:Byt l):bn l<256^l.length:=by
 have h1:=(bv_bd l h).2
 rw [←bn_int h] at h1
 have e:((256^l.length:Nat):Int)=(256:Int)^l.length:=by simp
 rw [←e] at h1
 exact Int.ofNat_lt.1 h1
def clZ (xs:List Int):Nat→List Int × Int
 | 0=>(xs,0)
 | i+1=>((clZ xs i).1.set i (((clZ xs i).1.getD i 0+(clZ xs i).2)%256),((clZ xs i).1.getD i 0+(clZ xs i).2) / 256)
def lastOfZ (xs:List Int):Int:=(clZ xs 16).1.getD 16 0+(clZ xs 16).2
def cyAZ (xs:List Int):List Int:=(clZ xs 16).1.set 16 (lastOfZ xs%4)
def cyZ (xs:List Int):List Int:=(cyAZ xs).set 0 ((cyAZ xs).getD 0 0+5*(lastOfZ xs / 4))
theorem cl_lengthZ (xs:List Int) (i:Nat):(clZ xs i).1.length=xs.length:=by
 induction i with
 | zero=>rfl
 | succ i ih=>simp [clZ,ih]
theorem cyA_length (xs:List Int):(cyAZ xs).length=xs.length:=by simp [cyAZ,cl_lengthZ]
theorem cy_lengthZ (xs:List Int):(cyZ xs).length=xs.length:=by simp [cyZ,cyA_length]
theorem cl_bv (xs:List Int) (i:Nat) (h:i≤xs.length):bv (clZ xs i).1+256^i*(clZ xs i).2=bv xs:=by
 induction i with
 | zero=>simp [clZ]
 | succ i ih =>
   have h1:=ih (by omega)
   have hl:i<(clZ xs i).1.length:=by rw [cl_lengthZ];omega
   simp only [clZ]
   rw [bv_set _ _ _ _ (getD_some hl),←h1]
   generalize (clZ xs i).1.getD i 0=x
   generalize (clZ xs i).2=o
   have e:=Int.emod_add_mul_ediv (x+o) 256
   generalize (x+o)%256=m at *
   generalize (x+o) / 256=q at *
   rw [Int.pow_succ]
   have e2:(m - x)=o - 256*q:=by omega
   rw [e2,Int.sub_mul,Int.mul_assoc ((256:Int)^i),Int.mul_comm o,Int.mul_comm (256*q)]
   omega
theorem cl_aboveZ (xs:List Int) (i j:Nat) (h:i≤j):(clZ xs i).1[j]? = xs[j]? := by
 induction i with
 | zero=>rfl
 | succ i ih =>
   simp only [clZ]
   rw [List.getElem?_set_ne (by omega),ih (by omega)]
theorem cl_belowZ (xs:List Int) (i j:Nat) (x:Int) (h:j<i) (hx:(clZ xs i).1[j]? = some x):0≤x∧x<256:=by
 induction i with
 | zero=>omega
 | succ i ih =>
   simp only [clZ] at hx
   by_cases e:i=j
   ·subst e
    rw [List.getElem?_set] at hx
    simp only [if_true] at hx
    split at hx
    ·injection hx with hx;omega
    ·cases hx
   ·rw [List.getElem?_set_ne e] at hx
    exact ih (by omega) hx
theorem cl_smallZ (xs:List Int) (h:Bd 1152921504606846976 xs) (i:Nat) (hi:i≤xs.length) : -4600000000000000≤(clZ xs i).2∧(clZ xs i).2≤4600000000000000:=by
 induction i with
 | zero=>simp [clZ]
 | succ i ih =>
   have h1:=ih (by omega)
   have hl:i<xs.length:=by omega
   have hx:=h.at_ (getD_some hl)
   have e:(clZ xs i).1.getD i 0=xs.getD i 0:=by simp only [List.getD,cl_aboveZ xs i i (Nat.le_refl _)]
   simp only [clZ,e]
   omega
def pb (m:Nat):List Int:=(List.range 17).map fun i=>((m / 256^i%256:Nat):Int)
theorem pb_length (m:Nat):(pb m).length=17:=by simp [pb]
theorem pb_at (m:Nat) {i:Nat} (h:i<17):(pb m)[i]? = some ((m / 256^i%256:Nat):Int):=by simp [pb,h]
theorem pb_byt (m:Nat):Byt (pb m):=fun x hx=>by
 obtain ⟨i,hi⟩:=List.getElem?_of_mem hx
 have h:=(List.getElem?_eq_some_iff.1 hi).1
 rw [pb_length] at h
 rw [pb_at m h] at hi
 injection hi with hi
 omega
theorem pb_of {l:List Int} (hl:l.length=17) (hb:Byt l):pb (bn l)=l:=by
 apply List.ext_getElem?
 intro i
 by_cases hi:i<17
 ·rw [pb_at _ hi,getD_some (by omega),←bv_at l i hb,←bn_int hb]
  congr 1
 ·rw [List.getElem?_eq_none (by rw [pb_length];omega),List.getElem?_eq_none (by omega)]
theorem toNat_mod (a:Int) (n:Nat) (h:0≤a):(a%(n:Int)).toNat=a.toNat%n:=by
 obtain ⟨N,rfl⟩:=Int.eq_ofNat_of_zero_le h
 rw [←Int.natCast_emod]
 rfl
theorem range_bv (n:Nat):∀m:Nat,bv ((List.range n).map fun i=>((m / 256^i%256:Nat):Int))=((m%256^n:Nat):Int):=by
 induction n with
 | zero=>intro m;simp [bv,Nat.mod_one]
 | succ n ih =>
   intro m
   rw [List.range_succ,List.map_append,bv_append,ih]
   simp only [List.map_cons,List.map_nil,bv,List.length_map,List.length_range,Int.mul_zero,Int.add_zero]
   rw [Nat.pow_succ,Nat.mod_mul,Int.natCast_add,Int.natCast_mul,Int.natCast_pow]
   rfl
theorem pb_bv {m:Nat} (h:m<256^17):bv (pb m)=m:=by
 unfold pb
 rw [range_bv,Nat.mod_eq_of_lt h]
theorem pb_bn {m:Nat} (h:m<256^17):bn (pb m)=m:=by
 unfold bn
 rw [pb_bv h];rfl
def PNZ:Nat:=1361129467683753853853498429727072845819
theorem pn_posZ:0<PNZ:=by decide
theorem pn_lt {m:Nat} (h:m<PNZ):m<256^17:=by unfold PNZ at h;omega
theorem pmod_lt (m:Nat):m%PNZ<256^17:=pn_lt (Nat.mod_lt _ pn_posZ)
theorem pmod_bn (m:Nat):bn (pb (m%PNZ))=m%PNZ:=pb_bn (pmod_lt m)
def TT:Int:=1361129467683753853853498429727072845824
theorem tt16:(256:Int)^16*4=TT:=by decide
theorem lastDig {xs:List Int} (hl:xs.length=17):∀(j:Nat) x,(cyAZ xs)[j]? = some x→0≤x∧x<256∧(j=16→x<4):=fun j x hx=>by
 unfold cyAZ at hx
 by_cases e:16=j
 ·subst e
  rw [List.getElem?_set_self (by rw [cl_lengthZ];omega)] at hx
  injection hx with hx;omega
 ·rw [List.getElem?_set_ne e] at hx
  have hj:=(List.getElem?_eq_some_iff.1 hx).1
  rw [cl_lengthZ] at hj
  have:=cl_belowZ xs 16 j x (by omega) hx
  omega
theorem cyA_byt {xs:List Int} (hl:xs.length=17):Byt (cyAZ xs):=fun x hx=>by
 obtain ⟨j,hj⟩:=List.getElem?_of_mem hx
 have:=lastDig hl j x hj
 omega
theorem cyA_bv {xs:List Int} (hl:xs.length=17):bv (cyAZ xs)=bv xs - TT*(lastOfZ xs / 4):=by
 have h1:=cl_bv xs 16 (by omega)
 have h2:(clZ xs 16).1[16]? = some ((clZ xs 16).1.getD 16 0):=getD_some (by rw [cl_lengthZ];omega)
 unfold cyAZ
 rw [bv_set _ _ _ _ h2,←h1,←tt16]
 unfold lastOfZ
 generalize (clZ xs 16).1.getD 16 0=x
 generalize (clZ xs 16).2=o
 generalize bv (clZ xs 16).1=b
 have e:=Int.emod_add_mul_ediv (x+o) 4
 generalize (x+o)%4=m at *
 generalize (x+o) / 4=q at *
 have e2:m - x=o - 4*q:=by omega
 rw [e2,Int.sub_mul,Int.mul_comm o,Int.mul_comm (4*q),Int.mul_assoc ((256:Int)^16)]
 omega
theorem cyA_lt {xs:List Int} (hl:xs.length=17):0≤bv (cyAZ xs)∧bv (cyAZ xs)<TT:=by
 have hb:=cyA_byt hl
 have hL:(cyAZ xs).length=17:=by rw [cyA_length,hl]
 have h16:=lastDig hl 16 _ (getD_some (l:=cyAZ xs) (i:=16) (by omega))
 have e:cyAZ xs=(cyAZ xs).take 16++[(cyAZ xs).getD 16 0]:=by
  have h0:(cyAZ xs).drop 16=[(cyAZ xs).getD 16 0]:=by
   rw [List.drop_eq_getElem_cons (by omega),List.drop_of_length_le (by omega)]
   simp [List.getD,hL]
  conv=>lhs;rw [←List.take_append_drop 16 (cyAZ xs),h0]
 have h1:=bv_bd _ (hb.take 16)
 have hl16:((cyAZ xs).take 16).length=16:=by rw [List.length_take,hL];rfl
 rw [hl16] at h1
 rw [e,bv_append,hl16]
 generalize (cyAZ xs).getD 16 0=x at *
 generalize bv ((cyAZ xs).take 16)=t at *
 simp only [bv,Int.mul_zero,Int.add_zero]
 have e16:(256:Int)^16=340282366920938463463374607431768211456:=by decide
 rw [e16] at *
 unfold TT
 omega
theorem cy_div {xs:List Int} (hl:xs.length=17):lastOfZ xs / 4=bv xs / TT∧bv (cyAZ xs)=bv xs%TT:=by
 have h1:=cyA_bv hl
 have h2:=cyA_lt hl
 generalize lastOfZ xs / 4=q at *
 generalize bv (cyAZ xs)=r at *
 have hT:(0:Int)<TT:=by decide
 have e:bv xs=r+TT*q:=by omega
 rw [e,Int.add_mul_ediv_left _ _ (by omega),Int.ediv_eq_zero_of_lt h2.1 h2.2,Int.add_mul_emod_self_left,Int.emod_eq_of_lt h2.1 h2.2]
 exact ⟨by omega,rfl⟩
theorem cy_bv {xs:List Int} (hl:xs.length=17):bv (cyZ xs)=bv xs%TT+5*(bv xs / TT):=by
 obtain ⟨h1,h2⟩:=cy_div hl
 unfold cyZ
 rw [bv_set _ _ _ _ (getD_some (by rw [cyA_length];omega)),h2,h1,Int.pow_zero]
 omega
theorem cy_bd {xs:List Int} (hl:xs.length=17) {q:Int} (h : -q≤bv xs / TT∧bv xs / TT≤q):Bd (256+5*q) (cyZ xs):=by
 obtain ⟨h1,h2⟩:=cy_div hl
 unfold cyZ
 rw [h1]
 have hb:=cyA_byt hl
 refine Bd.set (fun y hy=>?_) 0 _ ?_
 ·have:=hb y hy;omega
 ·have:=hb.at_ (getD_some (l:=cyAZ xs) (i:=0) (by rw [cyA_length];omega))
  omega
theorem cy_smallZ {xs:List Int} (hl:xs.length=17) (h:0≤bv xs∧bv xs<TT):cyZ xs=pb (bv xs).toNat:=by
 obtain ⟨h1,h2⟩:=cy_div hl
 rw [Int.ediv_eq_zero_of_lt h.1 h.2] at h1
 rw [Int.emod_eq_of_lt h.1 h.2] at h2
 have e:cyZ xs=cyAZ xs:=by
  unfold cyZ
  rw [h1]
  have hg:=getD_some (l:=cyAZ xs) (i:=0) (by rw [cyA_length];omega)
  apply List.ext_getElem?
  intro i
  by_cases e:0=i
  ·subst e
   rw [List.getElem?_set_self (by rw [cyA_length];omega),hg]
   simp
  ·rw [List.getElem?_set_ne e]
 rw [e,←pb_of (l:=cyAZ xs) (by rw [cyA_length,hl]) (cyA_byt hl)]
 unfold bn
 rw [h2]
def d1 (xs:List Int):List Int:=(cyZ xs).set 0 ((cyZ xs).getD 0 0+5)
def d2 (xs:List Int):List Int:=(cyZ (d1 xs)).set 0 ((cyZ (d1 xs)).getD 0 0 - 5)
theorem d1_length (xs:List Int):(d1 xs).length=xs.length:=by simp [d1,cy_lengthZ]
theorem d2_length (xs:List Int):(d2 xs).length=xs.length:=by simp [d2,cy_lengthZ,d1_length]
theorem bv_get0 {l:List Int} (h:0<l.length) (c:Int):bv (l.set 0 (l.getD 0 0+c))=bv l+c:=by
 rw [bv_set _ _ _ _ (getD_some h),Int.pow_zero];omega
theorem num_all {xs:List Int} (hl:xs.length=17) (h:0≤bv xs∧bv xs<1461501637330902918203684832716283019655932542976) :
 Bd 100000000000 (cyZ xs)∧Bd 1000 (cyZ (d1 xs))∧cyZ (d2 xs)=pb ((bv xs).toNat%PNZ):=by
 have hT:TT=1361129467683753853853498429727072845824:=rfl
 have h1:=cy_bv hl
 have q0:0≤bv xs / TT:=Int.ediv_nonneg h.1 (by decide)
 have q1:bv xs / TT≤1073741825:=by rw [hT];omega
 have c1:(cyZ xs).length=17:=by rw [cy_lengthZ,hl]
 have e1:bv (d1 xs)=bv (cyZ xs)+5:=bv_get0 (by omega) 5
 have dm:=Int.emod_add_mul_ediv (bv xs) TT
 have rm:=Int.emod_lt_of_pos (bv xs) (show (0:Int)<TT by decide)
 have rn:=Int.emod_nonneg (bv xs) (show TT≠0 by decide)
 have l1:(d1 xs).length=17:=by rw [d1_length,hl]
 have h2:=cy_bv l1
 have c2:(cyZ (d1 xs)).length=17:=by rw [cy_lengthZ,l1]
 have e2:bv (d2 xs)=bv (cyZ (d1 xs)) - 5:=by
  have:=bv_get0 (l:=cyZ (d1 xs)) (by omega) (-5)
  simpa [d2,Int.sub_eq_add_neg] using this
 have l2:(d2 xs).length=17:=by rw [d2_length,hl]
 have k1:0≤bv (d1 xs) / TT∧bv (d1 xs) / TT≤1:=by
  rw [e1,h1]
  rw [hT] at *
  omega
 have kk:bv (d2 xs)=bv xs%PNZ:=by
  have hP:(PNZ:Int)=1361129467683753853853498429727072845819:=rfl
  have hq:bv xs=bv xs%TT+PNZ*(bv xs / TT)+5*(bv xs / TT):=by
   rw [hT] at *;rw [hP];omega
  have hm:bv xs%(PNZ:Int)=(bv xs%TT+5*(bv xs / TT))%(PNZ:Int):=by
   conv=>lhs;rw [hq]
   rw [show bv xs%TT+(PNZ:Int)*(bv xs / TT)+5*(bv xs / TT)=bv xs%TT+5*(bv xs / TT)+(PNZ:Int)*(bv xs / TT) by omega,Int.add_mul_emod_self_left]
  rw [hm,e2,h2,e1,h1]
  generalize bv xs / TT=q at *
  generalize bv xs%TT=r at *
  rw [hT] at *
  rw [hP]
  omega
 have hlt:0≤bv (d2 xs)∧bv (d2 xs)<TT:=by
  rw [kk]
  have hP:(PNZ:Int)=1361129467683753853853498429727072845819:=rfl
  rw [hT,hP]
  omega
 refine ⟨fun x hx=>?_,fun x hx=>?_,?_⟩
 ·have:=cy_bd hl (q:=1073741825) ⟨by omega,q1⟩ x hx;omega
 ·have:=cy_bd l1 (q:=1) ⟨by omega,k1.2⟩ x hx;omega
 ·rw [cy_smallZ l2 hlt,kk,toNat_mod _ _ h.1]
theorem mask8 (t:Int):bits .and .i64 t 255=t%256:=mask_i64 t 8 255 rfl (by omega)
theorem mask2 (t:Int):bits .and .i64 t 3=t%4:=mask_i64 t 2 3 rfl (by omega)
set_option maxHeartbeats 1000000 in
theorem carry_anyZ (b:Nat) (xs:List Int) (w:World) (hl:xs.length=17) (hb:Bd 1152921504606846976 xs) (hA:Arr w b 0 .i64 xs) :
 Calls Tryz.prog 133 #[.pointer (some ⟨b,0,none⟩)] w fun e w'=>e=.returned (.tuple #[])∧Arr w' b 0 .i64 (cyZ xs)∧Only b w w':=by
 have HL:=hid hl
 have HB:=hid hb
 clear hb hl
 go_enter Tryz.func133,Tryz.ntmps133
 go_wp2
 go_loopw [2,5] (fun o i wr=>∃k:Nat,k≤16∧i=.int .i64 k∧o=.int .i64 (clZ xs k).2∧Arr wr b 0 .i64 (clZ xs k).1∧Only b w wr) (fun _ i _=>16 - (intOf i).toNat)
 case atStart=>exact ⟨0,by omega,rfl,rfl,hA,Only.refl _ _⟩
 case round =>
  clear hA
  obtain ⟨k,hk,rfl,rfl,hA,hO⟩:=hrel
  rename World=>W1
  have HS:=hid (cl_smallZ xs HB.out k (by rw [HL.out];omega))
  by_cases hlt:k<16
  ·have HLL:Hid (k<(clZ xs k).1.length):=hid (by rw [cl_lengthZ,HL.out];omega)
   have HX0:Hid ((clZ xs k).1.getD k 0=xs.getD k 0):=hid (by simp only [List.getD,cl_aboveZ xs k k (Nat.le_refl _)])
   have HXB:Hid (-1152921504606846976≤xs.getD k 0∧xs.getD k 0≤1152921504606846976):=hid (HB.out.at_ (getD_some (by rw [HL.out];omega)))
   have HN:Hid (clZ xs (k+1)=((clZ xs k).1.set k (((clZ xs k).1.getD k 0+(clZ xs k).2)%256),((clZ xs k).1.getD k 0+(clZ xs k).2) / 256)):=hid rfl
   generalize hc:clZ xs k=st at *
   have HC:=hid hc
   clear hc
   rcases st with ⟨zs,o⟩
   dsimp only at *
   obtain ⟨x,cx,fx,HX⟩:=(hA.spot (i:=k) HLL.out)
   rw [Nat.zero_add] at cx fx
   have HXE:Hid (zs.getD k 0=x):=hid (by simp [List.getD,HX.out])
   obtain ⟨t,ht⟩:∃t,t=x+o:=⟨_,rfl⟩
   have hwt:IntKind.i64.wrap (x+o)=t:=by rw [IntWalk.i64_in _ (by have h1:=HXB.out;have h2:=HS.out;rw [←HX0.out,HXE.out] at h1;omega),ht]
   rw [HXE.out,←ht] at HN
   have HT:=hid ht
   clear ht
   have k0:(0:Int)≤k:=by omega
   have k15:(k:Int)<16:=by omega
   have k16:(k:Int)<17:=by omega
   have hkw:IntKind.i64.wrap ((k:Int)+1)=(k:Int)+1:=IntWalk.i64_in _ (by omega)
   have hmk:=mask8 t
   go_wp2
   go_still_tail 9,(by kernel_rfl)
   change wpList _ _ _ _ _ W1.drew
   have hA1:Arr (W1.drew.setCell ⟨b,k,none⟩ (.int .i64 t)) b 0 .i64 (zs.set k t):=by have h:=hA.drew.set k t;rw [Nat.zero_add] at h;exact h
   have hO1:Only b w (W1.drew.setCell ⟨b,k,none⟩ (.int .i64 t)):=hO.drew.setCell (.inl rfl) _
   have hz:(zs.set k t)[k]? = some t:=List.getElem?_set_self HLL.out
   have c1:=hA1.at_ hz
   have f1:=hA1.free (i:=k) (by rw [List.length_set];exact HLL.out)
   rw [Nat.zero_add] at c1 f1
   have cx1:W1.drew.cell? ⟨b,k,none⟩=some (.int .i64 x):=cx
   have fx1:W1.drew.frozen? ⟨b,k,none⟩=false:=fx
   clear cx fx hz hA hO
   generalize W1.drew=W2 at *
   go_wp2
   generalize (W2.setCell ⟨b,k,none⟩ (.int .i64 t))=W3 at *
   clear cx1 fx1
   go_still_tail 8,(by kernel_rfl)
   change wpList _ _ _ _ _ W3.drew
   have hA2:Arr (W3.drew.setCell ⟨b,k,none⟩ (.int .i64 (t%256))) b 0 .i64 (zs.set k (t%256)):=by
    have h:=hA1.drew.set k (t%256)
    rw [Nat.zero_add,List.set_set] at h;exact h
   have hO2:Only b w (W3.drew.setCell ⟨b,k,none⟩ (.int .i64 (t%256))):=hO1.drew.setCell (.inl rfl) _
   have cx2:W3.drew.cell? ⟨b,k,none⟩=some (.int .i64 t):=c1
   have fx2:W3.drew.frozen? ⟨b,k,none⟩=false:=f1
   clear c1 f1 hA1 hO1
   generalize W3.drew=W4 at *
   go_wp2
   go_roundw
   case rel=>exact ⟨k+1,by omega,by go_num,by rw [HN.out],by rw [HN.out];exact hA2,hO2⟩
   case measure=>simp [intOf];omega
  ·have e:k=16:=by omega
   subst e
   have HLL:Hid ((clZ xs 16).1.length=17):=hid (by rw [cl_lengthZ,HL.out])
   have HX0:Hid ((clZ xs 16).1.getD 16 0=xs.getD 16 0):=hid (by simp only [List.getD,cl_aboveZ xs 16 16 (Nat.le_refl _)])
   have HXB:Hid (-1152921504606846976≤xs.getD 16 0∧xs.getD 16 0≤1152921504606846976):=hid (HB.out.at_ (getD_some (by rw [HL.out];omega)))
   have HLA:Hid (lastOfZ xs=(clZ xs 16).1.getD 16 0+(clZ xs 16).2):=hid rfl
   have HCA:Hid (cyAZ xs=(clZ xs 16).1.set 16 (lastOfZ xs%4)):=hid rfl
   have HCY:Hid (cyZ xs=(cyAZ xs).set 0 ((cyAZ xs).getD 0 0+5*(lastOfZ xs / 4))):=hid rfl
   generalize hc:clZ xs 16=st at *
   have HC:=hid hc
   clear hc
   rcases st with ⟨zs,o⟩
   dsimp only at *
   obtain ⟨x,cx,fx,HX⟩:=(hA.spot (i:=16) (by rw [HLL.out];omega))
   rw [Nat.zero_add] at cx fx
   have HXE:Hid (zs.getD 16 0=x):=hid (by simp [List.getD,HX.out])
   obtain ⟨t,ht⟩:∃t,t=x+o:=⟨_,rfl⟩
   have htb : -1162940000000000000≤t∧t≤1162940000000000000:=by have h1:=HXB.out;have h2:=HS.out;rw [←HX0.out,HXE.out] at h1;omega
   have hwt:IntKind.i64.wrap (x+o)=t:=by rw [IntWalk.i64_in _ (by omega),ht]
   rw [HXE.out,←ht] at HLA
   rw [HLA.out] at HCA HCY
   have HT:=hid ht
   have HTB:=hid htb
   clear ht htb
   have hmk:=mask2 t
   have hA1:Arr (W1.setCell ⟨b,16,none⟩ (.int .i64 (t%4))) b 0 .i64 (cyAZ xs):=by have h:=hA.set 16 (t%4);rw [Nat.zero_add] at h;rw [HCA.out];exact h
   have hO1:Only b w (W1.setCell ⟨b,16,none⟩ (.int .i64 (t%4))):=hO.setCell (.inl rfl) _
   obtain ⟨y,cy0,fy0,HY⟩:=hA1.spot (i:=0) (by rw [HCA.out];simp [HLL.out])
   have HYE:Hid ((cyAZ xs).getD 0 0=y):=hid (by simp [List.getD,HY.out])
   have HYB:Hid (0≤y∧y<256):=hid (by
    have h:=cl_belowZ xs 16 0 y (by omega) (by rw [HC.out];have h:=HY.out;rw [HCA.out,List.getElem?_set_ne (by omega)] at h;exact h)
    omega)
   rw [Nat.zero_add] at cy0 fy0
   obtain ⟨q,hq⟩:∃q,q=t / 4:=⟨_,rfl⟩
   have hq1:t / 4=q:=hq.symm
   have HQ:Hid (-300000000000000000≤q∧q≤300000000000000000):=hid (by have:=HTB.out;omega)
   have w1:IntKind.i64.wrap (5*q)=5*q:=IntWalk.i64_in _ (by have:=HQ.out;omega)
   have w2:IntKind.i64.wrap (y+5*q)=y+5*q:=IntWalk.i64_in _ (by have:=HQ.out;have:=HYB.out;omega)
   rw [hq1,HYE.out] at HCY
   have HQ1:=hid hq
   clear hq
   go_wp2
   generalize (W1.setCell ⟨b,16,none⟩ (.int .i64 (t%4)))=W2 at *
   clear cx fx hA hO
   go_still_tail 10,(by kernel_rfl)
   change wpList _ _ _ _ _ W2.drew
   have hA2:Arr (W2.drew.setCell ⟨b,0,none⟩ (.int .i64 (y+5*q))) b 0 .i64 (cyZ xs):=by
    have h:=hA1.drew.set 0 (y+5*q)
    rw [Nat.zero_add] at h;rw [HCY.out];exact h
   have hO2:Only b w (W2.drew.setCell ⟨b,0,none⟩ (.int .i64 (y+5*q))):=hO1.drew.setCell (.inl rfl) _
   have cx2:W2.drew.cell? ⟨b,0,none⟩=some (.int .i64 y):=cy0
   have fx2:W2.drew.frozen? ⟨b,0,none⟩=false:=fy0
   clear cy0 fy0 hA1 hO1
   generalize W2.drew=W4 at *
   go_wp2
   go_end0
   exact ⟨rfl,hA2,hO2⟩
theorem inf25:(Tryz.prog.info? 120).map (fun i=>(i.zero,i.size))=some (some (.agg (ints .u8 (zeros 17)).toArray),17):=by kernel_rfl
theorem inf33:(Tryz.prog.info? 54).map (fun i=>(i.zero,i.size))=some (some (.agg (ints .u8 (zeros 16)).toArray),16):=by kernel_rfl
theorem inf41:(Tryz.prog.info? 22).map (fun i=>(i.zero,i.size))=some (some (.agg (ints .u8 (zeros 32)).toArray),32):=by kernel_rfl
theorem inf51:(Tryz.prog.info? 162).map (fun i=>(i.zero,i.size))=some (some (.agg (ints .i64 (zeros 17)).toArray),17):=by kernel_rfl
theorem inf52:(Tryz.prog.info? 164).map (fun i=>(i.zero,i.size))=some (some (.agg (ints .i64 (zeros 34)).toArray),34):=by kernel_rfl
theorem l25 {q:List Int} (h:q.length=17):(Tryz.prog.info? 120).map (·.size)=some (ints .u8 q).length:=szV inf25 (il h)
theorem a25 {q:List Int} (h:q.length=17):(Tryz.prog.info? 120).map (·.size)=some (ints .u8 q).toArray.size:=szA inf25 (il h)
theorem l33 {q:List Int} (h:q.length=16):(Tryz.prog.info? 54).map (·.size)=some (ints .u8 q).length:=szV inf33 (il h)
theorem a33 {q:List Int} (h:q.length=16):(Tryz.prog.info? 54).map (·.size)=some (ints .u8 q).toArray.size:=szA inf33 (il h)
theorem l51 {q:List Int} (h:q.length=17):(Tryz.prog.info? 162).map (·.size)=some (ints .i64 q).length:=szV inf51 (il h)
theorem Arr.next {w w':World} {b o:Nat} {k:IntKind} {xs:List Int} (h:Arr w b o k xs) (hb:Below w.heap.size w w'):Arr w' b o k xs:=fun i x hi =>
 h.same (hb.block b (World.block_lt_of_cell? w _ (h i x hi).1)) i x hi
theorem index51 {ds:List Int} {k:Nat} {d:Int} (h:ds[k]? = some d) (hk:k<17) (w:World):(Instr.index 162 (.agg (ints .i64 ds).toArray) (.int .i64 (k:Int))).run Tryz.prog w=.ok (.int .i64 d) w :=
 run_index_row 162 2 17 (ints .i64 ds) .i64 k (.int .i64 d) (.int .i64) Tryz.underlying162 Tryz.underlying2 rfl (by kernel_rfl) hk (by simp [ints,h])
theorem index25 {ds:List Int} {k:Nat} {d:Int} (h:ds[k]? = some d) (hk:k<17) (w:World):(Instr.index 120 (.agg (ints .u8 ds).toArray) (.int .i64 (k:Int))).run Tryz.prog w=.ok (.int .u8 d) w :=
 run_index_row 120 5 17 (ints .u8 ds) .i64 k (.int .u8 d) (.int .u8) Tryz.underlying120 Tryz.underlying5 rfl (by kernel_rfl) hk (by simp [ints,h])
theorem index33 {ds:List Int} {k:Nat} {d:Int} (h:ds[k]? = some d) (hk:k<16) (w:World):(Instr.index 54 (.agg (ints .u8 ds).toArray) (.int .i64 (k:Int))).run Tryz.prog w=.ok (.int .u8 d) w :=
 run_index_row 54 5 16 (ints .u8 ds) .i64 k (.int .u8 d) (.int .u8) Tryz.underlying54 Tryz.underlying5 rfl (by kernel_rfl) hk (by simp [ints,h])
theorem fill_id {r:List Int} {n:Nat} (h:r.length=n):fillK r n=r:=by subst h;exact fillK_end r
theorem fill_0 {r:List Int} {n:Nat} (h:r.length=n):zeros n=fillK r 0:=by subst h;exact (fillK_zero r).symm
end
end Go.Proofs.YtkblmdakejmmhaaGreatDoor
