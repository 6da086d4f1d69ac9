import Derived.Test.YtkblmdakejmmhaaGreatDoorRows
import Derived.Test.YtkblmdakejmmhaaGreatDoorG1
import Derived.BigQuiet
import Derived.StillTailTactics
namespace Go.Proofs.YtkblmdakejmmhaaGreatDoor
open Go Go.RowKit
set_option maxRecDepth 50000
def dig (n:Int) (i:Nat):Int:=n / 2^(8*i)%256
theorem dig_bd (n:Int) (i:Nat):0≤dig n i∧dig n i<256:=by unfold dig;omega
def plc (hi:Bool) (p s:Nat):Nat:=if hi then s - 1 - p else p
def splitB (hi:Bool) (s:Nat) (l:List Int):List Int:=(List.range (l.length*s)).map fun i=>dig (l.getD (i / s) 0) (plc hi (i%s) s)
theorem splitB_length (hi:Bool) (s:Nat) (l:List Int):(splitB hi s l).length=l.length*s:=by simp [splitB]
theorem splitB_at (hi:Bool) (s:Nat) (l:List Int) {i:Nat} (h:i<l.length*s):(splitB hi s l)[i]? = some (dig (l.getD (i / s) 0) (plc hi (i%s) s)):=by
 simp [splitB,h]
theorem div_step (n:Int) (k:Nat):n / 2^(8*k) / 256=n / 2^(8*(k+1)):=by
 have hp:(0:Int)<2^(8*k):=Int.pow_pos (by omega)
 rw [Int.ediv_ediv_of_nonneg (by omega),show 8*(k+1)=8*k+8 by omega,Int.pow_add]
 rfl
theorem split_one (hi:Bool) (s:Nat) (n:Int) {k:Nat} (hk:k<s):(splitB hi s [n])[k]? = some (n / 2^(8*plc hi k s)%256):=by
 rw [splitB_at hi s [n] (by simpa using hk),Nat.div_eq_of_lt hk,Nat.mod_eq_of_lt hk]
 rfl
def HByt (l:List Int):Prop:=∀x ∈ l,0≤x∧x<256
theorem HByt.take {l:List Int} (h:HByt l) (n:Nat):HByt (l.take n):=fun x hx=>h x (List.mem_of_mem_take hx)
theorem HByt.drop {l:List Int} (h:HByt l) (n:Nat):HByt (l.drop n):=fun x hx=>h x (List.mem_of_mem_drop hx)
theorem HByt.rev {l:List Int} (h:HByt l):HByt l.reverse:=fun x hx=>h x (List.mem_reverse.1 hx)
theorem HByt.at_ {l:List Int} (h:HByt l) {i:Nat} {x:Int} (hx:l[i]? = some x):0≤x∧x<256:=h x (List.mem_of_getElem? hx)
theorem splitB_byt (hi:Bool) (s:Nat) (l:List Int):HByt (splitB hi s l):=by
 intro x hx
 simp only [splitB,List.mem_map] at hx
 obtain ⟨i,_,rfl⟩:=hx
 exact dig_bd _ _
def hiv (l:List Int):Int:=l.foldl (fun n c=>256*n+c) 0
theorem hiv_snoc (l:List Int) (c:Int):hiv (l++[c])=256*hiv l+c:=by simp [hiv]
theorem pow8 (n:Nat):(2:Int)^(8*(n+1))=256*2^(8*n):=by
 rw [show 8*(n+1)=8*n+8 by omega,Int.pow_add]
 simp [Int.mul_comm]
theorem foldl_hiv (l:List Int) (a:Int):l.foldl (fun n c=>256*n+c) a=a*2^(8*l.length)+hiv l:=by
 induction l generalizing a with
 | nil=>simp [hiv]
 | cons c l ih =>
   rw [List.foldl_cons,ih,List.length_cons,pow8]
   have:hiv (c::l)=c*2^(8*l.length)+hiv l:=by
    show List.foldl _ (256*0+c) l=_
    rw [ih];simp
   rw [this,Int.add_mul]
   have:256*a*2^(8*l.length)=a*(256*2^(8*l.length)):=by
    rw [Int.mul_comm 256 a,Int.mul_assoc]
   omega
theorem hiv_cons (c:Int) (l:List Int):hiv (c::l)=c*2^(8*l.length)+hiv l:=by
 show List.foldl _ (256*0+c) l=_
 rw [foldl_hiv];simp
theorem pow_pos8 (n:Nat):(0:Int)<2^n:=Int.pow_pos (by omega)
theorem hiv_bd (l:List Int) (h:HByt l):0≤hiv l∧hiv l<2^(8*l.length):=by
 induction l with
 | nil=>simp [hiv]
 | cons c l ih =>
   have hc:=h c (by simp)
   have:=ih (fun x hx=>h x (by simp [hx]))
   rw [hiv_cons,List.length_cons,pow8]
   have hp:=pow_pos8 (8*l.length)
   have h1:0≤c*2^(8*l.length):=Int.mul_nonneg hc.1 (by omega)
   have h2:c*2^(8*l.length)≤255*2^(8*l.length):=Int.mul_le_mul_of_nonneg_right (by omega) (by omega)
   omega
theorem split_len (hi:Bool) (s:Nat) (n:Int):(splitB hi s [n]).length=s:=by rw [splitB_length];simp
def pval (hi:Bool) (s:Nat) (c:List Int) (r:Nat):Int:=if hi then hiv (c.take r)*2^(8*(s - r)) else hiv (c.take r).reverse
theorem pval_zero (hi:Bool) (s:Nat) (c:List Int):pval hi s c 0=0:=by cases hi <;> simp [pval,hiv]
theorem take_succ_at {l:List Int} {r:Nat} {x:Int} (h:l[r]? = some x):l.take (r+1)=l.take r++[x]:=by
 rw [List.take_add_one,h];rfl
theorem len_take_at {l:List Int} {r:Nat} {x:Int} (h:l[r]? = some x):(l.take r).length=r:=by
 have:=(List.getElem?_eq_some_iff.1 h).1
 simp;omega
theorem pval_succ (hi:Bool) (s:Nat) (c:List Int) {r:Nat} {x:Int} (hr:r<s) (h:c[r]? = some x):pval hi s c (r+1)=pval hi s c r+x*2^(8*plc hi r s):=by
 cases hi
 ·simp only [pval,plc,Bool.false_eq_true,if_false]
  rw [take_succ_at h,List.reverse_append,List.reverse_singleton,List.singleton_append,hiv_cons,List.length_reverse,len_take_at h]
  omega
 ·simp only [pval,plc,if_true]
  rw [take_succ_at h,hiv_snoc,Int.add_mul,show s - (r+1)=s - 1 - r by omega,show s - r=(s - 1 - r)+1 by omega,pow8]
  have:256*hiv (c.take r)*2^(8*(s - 1 - r))=hiv (c.take r)*(256*2^(8*(s - 1 - r))):=by
   rw [Int.mul_comm 256,Int.mul_assoc]
  omega
theorem or_apart (n:Nat) (a y:Int) (ha:0≤a) (hy:0≤y) (hy2:y<2^n):(((a*2^n).toNat ||| y.toNat:Nat):Int)=a*2^n+y:=by
 obtain ⟨A,rfl⟩:=Int.eq_ofNat_of_zero_le ha
 obtain ⟨Y,rfl⟩:=Int.eq_ofNat_of_zero_le hy
 have e:((A:Int)*2^n)=((A*2^n:Nat):Int):=by simp
 rw [e,Int.toNat_natCast,Int.toNat_natCast]
 have hlt:Y<2^n:=by
  have:((Y:Nat):Int)<((2^n:Nat):Int):=by simpa using hy2
  omega
 have:=Nat.two_pow_add_eq_or_of_lt hlt A
 rw [Nat.mul_comm] at this
 rw [←this]
 simp
theorem or_comm_int (a b:Int):((a.toNat ||| b.toNat:Nat):Int)=((b.toNat ||| a.toNat:Nat):Int):=by rw [Nat.or_comm]
theorem pval_or (hi:Bool) (s:Nat) (c:List Int) {r:Nat} {x:Int} (hr:r<s) (hb:HByt c) (h:c[r]? = some x) :
 (((pval hi s c r).toNat ||| (x*2^(8*plc hi r s)).toNat:Nat):Int)=pval hi s c (r+1):=by
 have hx:=hb.at_ h
 rw [pval_succ hi s c hr h]
 have hv:=hiv_bd _ (hb.take r)
 have hv2:=hiv_bd _ (hb.take r).rev
 rw [List.length_reverse,len_take_at h] at hv2
 cases hi
 ·simp only [pval,plc,Bool.false_eq_true,if_false]
  rw [or_comm_int,or_apart _ _ _ hx.1 hv2.1 hv2.2]
  omega
 ·simp only [pval,plc,if_true]
  have hp:=pow_pos8 (8*(s - 1 - r))
  have h1:0≤x*2^(8*(s - 1 - r)):=Int.mul_nonneg hx.1 (by omega)
  have h2:x*2^(8*(s - 1 - r))≤255*2^(8*(s - 1 - r)):=Int.mul_le_mul_of_nonneg_right (by omega) (by omega)
  have h3:(2:Int)^(8*(s - r))=256*2^(8*(s - 1 - r)):=by rw [show s - r=(s - 1 - r)+1 by omega,pow8]
  rw [or_apart _ _ _ hv.1 h1 (by omega)]
theorem pow_mono2 {a b:Nat} (h:a≤b):(2:Int)^a≤2^b:=by
 have:=Nat.pow_le_pow_right (show 0<2 by omega) h
 exact_mod_cast this
theorem pval_bd (hi:Bool) (s:Nat) (c:List Int) {r:Nat} (hr:r≤s) (hb:HByt c):0≤pval hi s c r∧pval hi s c r<2^(8*s):=by
 have hv:=hiv_bd _ (hb.take r)
 have hv2:=hiv_bd _ (hb.take r).rev
 have hl:(c.take r).length≤r:=List.length_take_le _ _
 rw [List.length_reverse] at hv2
 have hp:=pow_mono2 (a:=8*(c.take r).length) (b:=8*r) (by omega)
 cases hi
 ·simp only [pval,Bool.false_eq_true,if_false]
  have:=pow_mono2 (a:=8*r) (b:=8*s) (by omega)
  omega
 ·simp only [pval,if_true]
  have h0:=pow_pos8 (8*(s - r))
  refine ⟨Int.mul_nonneg hv.1 (by omega),?_⟩
  have e:(2:Int)^(8*s)=2^(8*r)*2^(8*(s - r)):=by rw [←Int.pow_add];congr 1;omega
  rw [e]
  exact Int.mul_lt_mul_of_pos_right (by omega) h0
theorem byte_shift_bd (hi:Bool) {p s:Nat} {x:Int} (hp:p<s) (h0:0≤x) (h1:x<256):0≤x*2^(8*plc hi p s)∧x*2^(8*plc hi p s)<2^(8*s):=by
 have hq:=pow_pos8 (8*plc hi p s)
 refine ⟨Int.mul_nonneg h0 (by omega),?_⟩
 have h2:x*2^(8*plc hi p s)≤255*2^(8*plc hi p s):=Int.mul_le_mul_of_nonneg_right (by omega) (by omega)
 have h3:=pow8 (plc hi p s)
 have h4:=pow_mono2 (a:=8*(plc hi p s+1)) (b:=8*s) (by unfold plc;split <;> omega)
 omega
def chunk (s:Nat) (b:List Int) (j:Nat):List Int:=(b.drop (j*s)).take s
theorem chunk_byt {b:List Int} (h:HByt b) (s j:Nat):HByt (chunk s b j):=(h.drop _).take _
theorem chunk_at (s:Nat) (b:List Int) (j:Nat) {r:Nat} (hr:r<s):(chunk s b j)[r]? = b[j*s+r]? := by
 unfold chunk
 rw [List.getElem?_take,if_pos hr,List.getElem?_drop]
def partK (hi:Bool) (s:Nat) (b:List Int) (k:Nat):List Int:=(List.range (b.length / s)).map fun j=>pval hi s (chunk s b j) (min (k - j*s) s)
def joinB (hi:Bool) (s:Nat) (b:List Int):List Int:=(List.range (b.length / s)).map fun j=>pval hi s (chunk s b j) s
theorem partK_length (hi:Bool) (s:Nat) (b:List Int) (k:Nat):(partK hi s b k).length=b.length / s:=by simp [partK]
theorem joinB_length (hi:Bool) (s:Nat) (b:List Int):(joinB hi s b).length=b.length / s:=by simp [joinB]
theorem partK_at (hi:Bool) (s:Nat) (b:List Int) (k:Nat) {j:Nat} (hj:j<b.length / s):(partK hi s b k)[j]? = some (pval hi s (chunk s b j) (min (k - j*s) s)):=by
 simp [partK,hj]
theorem joinB_at (hi:Bool) (s:Nat) (b:List Int) {j:Nat} (hj:j<b.length / s):(joinB hi s b)[j]? = some (pval hi s (chunk s b j) s):=by
 simp [joinB,hj]
theorem partK_zero (hi:Bool) (s:Nat) (b:List Int):partK hi s b 0=List.replicate (b.length / s) 0:=by
 rw [List.eq_replicate_iff]
 refine ⟨partK_length _ _ _ _,fun x hx=>?_⟩
 simp only [partK,List.mem_map] at hx
 obtain ⟨j,_,rfl⟩:=hx
 rw [Nat.zero_sub,Nat.zero_min,pval_zero]
theorem partK_end (hi:Bool) (s:Nat) (b:List Int):partK hi s b b.length=joinB hi s b:=by
 unfold partK joinB
 apply List.map_congr_left
 intro j hj
 have hj':j<b.length / s:=List.mem_range.1 hj
 have:(j+1)*s≤b.length:=by
  have h1:(j+1)*s≤(b.length / s)*s:=Nat.mul_le_mul_right _ hj'
  exact Nat.le_trans h1 (Nat.div_mul_le_self _ _)
 rw [Nat.add_mul] at this
 rw [show min (b.length - j*s) s=s by omega]
theorem partK_set (hi:Bool) (s:Nat) (b:List Int) {k q r:Nat} {z:Int} (hq:q=k / s) (hr:r=k%s) (hs:0<s) (hlt:q<b.length / s)
 (hz:z=pval hi s (chunk s b q) (r+1)):(partK hi s b k).set q z=partK hi s b (k+1):=by
 have hk:q*s+r=k:=by rw [hq,hr,Nat.mul_comm];exact Nat.div_add_mod k s
 have hrs:r<s:=by rw [hr];exact Nat.mod_lt _ hs
 apply List.ext_getElem?
 intro j
 by_cases hj:j<b.length / s
 ·by_cases e:q=j
  ·subst e
   rw [List.getElem?_set_self (by rw [partK_length];exact hlt),partK_at _ _ _ _ hlt,hz]
   rw [show min (k+1 - q*s) s=r+1 by omega]
  ·rw [List.getElem?_set_ne e,partK_at _ _ _ _ hj,partK_at _ _ _ _ hj]
   rcases Nat.lt_or_ge j q with h|h
   ·have h1:(j+1)*s≤q*s:=Nat.mul_le_mul_right _ h
    rw [Nat.add_mul] at h1
    rw [show min (k - j*s) s=s by omega,show min (k+1 - j*s) s=s by omega]
   ·have h1:(q+1)*s≤j*s:=Nat.mul_le_mul_right _ (by omega)
    rw [Nat.add_mul] at h1
    rw [show min (k - j*s) s=0 by omega,show min (k+1 - j*s) s=0 by omega]
 ·rw [List.getElem?_eq_none (by rw [List.length_set,partK_length];omega),List.getElem?_eq_none (by rw [partK_length];omega)]
theorem partK_cur (hi:Bool) (s:Nat) (b:List Int) {k q r:Nat} (hq:q=k / s) (hr:r=k%s) (hs:0<s) (hlt:q<b.length / s) :
 (partK hi s b k)[q]? = some (pval hi s (chunk s b q) r):=by
 have hk:q*s+r=k:=by rw [hq,hr,Nat.mul_comm];exact Nat.div_add_mod k s
 have hrs:r<s:=by rw [hr];exact Nat.mod_lt _ hs
 rw [partK_at _ _ _ _ hlt,show min (k - q*s) s=r by omega]
theorem chunk_len {s:Nat} {b:List Int} {j:Nat} (h:j<b.length / s):(chunk s b j).length=s:=by
 have:(j+1)*s≤b.length:=Nat.le_trans (Nat.mul_le_mul_right _ h) (Nat.div_mul_le_self _ _)
 rw [Nat.add_mul] at this
 simp [chunk]
 omega
theorem join_get (hi:Bool) (s:Nat) (b:List Int) {j:Nat} {x:Int} (h:(joinB hi s b)[j]? = some x):j*s+s≤b.length∧x=if hi then hiv (chunk s b j) else hiv (chunk s b j).reverse:=by
 have hj:j<b.length / s:=by
  rcases Nat.lt_or_ge j (b.length / s) with h1|h1
  ·exact h1
  ·rw [List.getElem?_eq_none (by rw [joinB_length];exact h1)] at h;cases h
 have h2:(j+1)*s≤b.length:=Nat.le_trans (Nat.mul_le_mul_right _ hj) (Nat.div_mul_le_self _ _)
 rw [Nat.add_mul] at h2
 rw [joinB_at hi s b hj] at h
 injection h with h
 refine ⟨by omega,?_⟩
 have hcl:=chunk_len (s:=s) (b:=b) hj
 rw [←h]
 cases hi
 ·simp only [pval,Bool.false_eq_true,if_false]
  rw [List.take_of_length_le (by omega)]
 ·simp only [pval,if_true,Nat.sub_self,Nat.mul_zero,Int.pow_zero,Int.mul_one]
  rw [List.take_of_length_le (by omega)]
section
set_option maxRecDepth 50000
def Wd (x:Int):Prop:=0≤x∧x<18446744073709551616
theorem wd_wrap (x:Int):Wd (IntKind.u64.wrap x):=by rw [IntKind.wrap_u64];exact ⟨by omega,by omega⟩
def rot (x:Int) (n:Nat):Int:=x / 2^n+x%2^n*2^(64 - n)
theorem pow_split {n:Nat} (h:n≤64):(2:Int)^n*2^(64 - n)=18446744073709551616:=by
 rw [←Int.pow_add,show n+(64 - n)=64 by omega];rfl
theorem rot_parts {x:Int} {n:Nat} (h:n≤64) (hx:Wd x):0≤x / 2^n∧x / 2^n<2^(64 - n)∧0≤x%2^n∧x%2^n<2^n:=by
 have hp:=Int.pow_pos (n:=2) (m:=n) (by omega)
 have hs:=pow_split h
 refine ⟨Int.ediv_nonneg hx.1 (by omega),?_,Int.emod_nonneg _ (by omega),Int.emod_lt_of_pos _ hp⟩
 apply Int.ediv_lt_of_lt_mul hp
 have:=hx.2
 rw [Int.mul_comm] at hs
 omega
theorem rot_wd {x:Int} {n:Nat} (h:n≤64) (hx:Wd x):Wd (rot x n):=by
 obtain ⟨a,b,c,d⟩:=rot_parts h hx
 have hp:=Int.pow_pos (n:=2) (m:=64 - n) (by omega)
 have hs:=pow_split h
 unfold rot
 have h1:0≤x%2^n*2^(64 - n):=Int.mul_nonneg c (by omega)
 have h2:(x%2^n+1)*2^(64 - n)≤2^n*2^(64 - n):=Int.mul_le_mul_of_nonneg_right (by omega) (by omega)
 rw [Int.add_mul] at h2
 exact ⟨by omega,by omega⟩
theorem wrap_mul_pow {x:Int} {n:Nat} (h:n≤64) (_:Wd x):IntKind.u64.wrap (x*2^(64 - n))=x%2^n*2^(64 - n):=by
 rw [IntKind.wrap_u64]
 have hs:=pow_split h
 rw [←hs]
 rw [Int.mul_comm x,Int.mul_comm (2^n),Int.mul_emod_mul_of_pos _ _ (Int.pow_pos (by omega)),Int.mul_comm]
theorem rot_or {x:Int} {n:Nat} (h:n≤64) (hx:Wd x):bits .or .u64 (IntKind.u64.wrap (x*2^(64 - n))) (x / 2^n)=rot x n:=by
 obtain ⟨a,b,c,d⟩:=rot_parts h hx
 have hr:=rot_wd h hx
 have hw:=wd_wrap (x*2^(64 - n))
 have hs:=pow_split h
 have hp:=Int.pow_pos (n:=2) (m:=n) (by omega)
 have hle:x / 2^n≤x:=Int.ediv_le_self _ hx.1
 have hx2:=hx.2
 rw [u64_or _ _ hw.1 hw.2 a (by omega),wrap_mul_pow h hx,or_apart _ _ _ c a b]
 unfold rot
 omega
def xr (a b:Int):Int:=bits .xor .u64 a b
def an (a b:Int):Int:=bits .and .u64 a b
def hplus (a b:Int):Int:=IntKind.u64.wrap (a+b)
theorem rl_14 (x:Int) (w:World) (h:Hid (Wd x)) :
 Calls Tryz.prog 137 #[.int .u64 x,.int .i64 (-14)] w fun e w'=>e=.returned (.int .u64 (rot x 14))∧w=w':=by
 have k1:bits .and .u64 (IntKind.u64.wrap (-14)) 63=50:=by kernel_rfl
 go_enter Tryz.func137,Tryz.ntmps137
 go_wp2
 go_ret
 exact ⟨ret_int (by have:=rot_or (n:=14) (by omega) h.out;simpa using this),rfl⟩
theorem right_14 (x:Int) (w:World) (h:Hid (Wd x)) :
 Calls Tryz.prog 135 #[.int .u64 x,.int .i64 14] w fun e w'=>e=.returned (.int .u64 (rot x 14))∧w=w':=by
 go_enter Tryz.func135,Tryz.ntmps135
 go_wp2_with (go_at_call 137;refine (rl_14 x _ h).mono ?_;rintro e w' ⟨rfl,rfl⟩)
 go_ret
 exact ⟨rfl,rfl⟩
theorem rl_18 (x:Int) (w:World) (h:Hid (Wd x)) :
 Calls Tryz.prog 137 #[.int .u64 x,.int .i64 (-18)] w fun e w'=>e=.returned (.int .u64 (rot x 18))∧w=w':=by
 have k1:bits .and .u64 (IntKind.u64.wrap (-18)) 63=46:=by kernel_rfl
 go_enter Tryz.func137,Tryz.ntmps137
 go_wp2
 go_ret
 exact ⟨ret_int (by have:=rot_or (n:=18) (by omega) h.out;simpa using this),rfl⟩
theorem right_18 (x:Int) (w:World) (h:Hid (Wd x)) :
 Calls Tryz.prog 135 #[.int .u64 x,.int .i64 18] w fun e w'=>e=.returned (.int .u64 (rot x 18))∧w=w':=by
 go_enter Tryz.func135,Tryz.ntmps135
 go_wp2_with (go_at_call 137;refine (rl_18 x _ h).mono ?_;rintro e w' ⟨rfl,rfl⟩)
 go_ret
 exact ⟨rfl,rfl⟩
theorem rl_41 (x:Int) (w:World) (h:Hid (Wd x)) :
 Calls Tryz.prog 137 #[.int .u64 x,.int .i64 (-41)] w fun e w'=>e=.returned (.int .u64 (rot x 41))∧w=w':=by
 have k1:bits .and .u64 (IntKind.u64.wrap (-41)) 63=23:=by kernel_rfl
 go_enter Tryz.func137,Tryz.ntmps137
 go_wp2
 go_ret
 exact ⟨ret_int (by have:=rot_or (n:=41) (by omega) h.out;simpa using this),rfl⟩
theorem right_41 (x:Int) (w:World) (h:Hid (Wd x)) :
 Calls Tryz.prog 135 #[.int .u64 x,.int .i64 41] w fun e w'=>e=.returned (.int .u64 (rot x 41))∧w=w':=by
 go_enter Tryz.func135,Tryz.ntmps135
 go_wp2_with (go_at_call 137;refine (rl_41 x _ h).mono ?_;rintro e w' ⟨rfl,rfl⟩)
 go_ret
 exact ⟨rfl,rfl⟩
theorem rl_28 (x:Int) (w:World) (h:Hid (Wd x)) :
 Calls Tryz.prog 137 #[.int .u64 x,.int .i64 (-28)] w fun e w'=>e=.returned (.int .u64 (rot x 28))∧w=w':=by
 have k1:bits .and .u64 (IntKind.u64.wrap (-28)) 63=36:=by kernel_rfl
 go_enter Tryz.func137,Tryz.ntmps137
 go_wp2
 go_ret
 exact ⟨ret_int (by have:=rot_or (n:=28) (by omega) h.out;simpa using this),rfl⟩
theorem right_28 (x:Int) (w:World) (h:Hid (Wd x)) :
 Calls Tryz.prog 135 #[.int .u64 x,.int .i64 28] w fun e w'=>e=.returned (.int .u64 (rot x 28))∧w=w':=by
 go_enter Tryz.func135,Tryz.ntmps135
 go_wp2_with (go_at_call 137;refine (rl_28 x _ h).mono ?_;rintro e w' ⟨rfl,rfl⟩)
 go_ret
 exact ⟨rfl,rfl⟩
theorem rl_34 (x:Int) (w:World) (h:Hid (Wd x)) :
 Calls Tryz.prog 137 #[.int .u64 x,.int .i64 (-34)] w fun e w'=>e=.returned (.int .u64 (rot x 34))∧w=w':=by
 have k1:bits .and .u64 (IntKind.u64.wrap (-34)) 63=30:=by kernel_rfl
 go_enter Tryz.func137,Tryz.ntmps137
 go_wp2
 go_ret
 exact ⟨ret_int (by have:=rot_or (n:=34) (by omega) h.out;simpa using this),rfl⟩
theorem right_34 (x:Int) (w:World) (h:Hid (Wd x)) :
 Calls Tryz.prog 135 #[.int .u64 x,.int .i64 34] w fun e w'=>e=.returned (.int .u64 (rot x 34))∧w=w':=by
 go_enter Tryz.func135,Tryz.ntmps135
 go_wp2_with (go_at_call 137;refine (rl_34 x _ h).mono ?_;rintro e w' ⟨rfl,rfl⟩)
 go_ret
 exact ⟨rfl,rfl⟩
theorem rl_39 (x:Int) (w:World) (h:Hid (Wd x)) :
 Calls Tryz.prog 137 #[.int .u64 x,.int .i64 (-39)] w fun e w'=>e=.returned (.int .u64 (rot x 39))∧w=w':=by
 have k1:bits .and .u64 (IntKind.u64.wrap (-39)) 63=25:=by kernel_rfl
 go_enter Tryz.func137,Tryz.ntmps137
 go_wp2
 go_ret
 exact ⟨ret_int (by have:=rot_or (n:=39) (by omega) h.out;simpa using this),rfl⟩
theorem right_39 (x:Int) (w:World) (h:Hid (Wd x)) :
 Calls Tryz.prog 135 #[.int .u64 x,.int .i64 39] w fun e w'=>e=.returned (.int .u64 (rot x 39))∧w=w':=by
 go_enter Tryz.func135,Tryz.ntmps135
 go_wp2_with (go_at_call 137;refine (rl_39 x _ h).mono ?_;rintro e w' ⟨rfl,rfl⟩)
 go_ret
 exact ⟨rfl,rfl⟩
theorem rl_1 (x:Int) (w:World) (h:Hid (Wd x)) :
 Calls Tryz.prog 137 #[.int .u64 x,.int .i64 (-1)] w fun e w'=>e=.returned (.int .u64 (rot x 1))∧w=w':=by
 have k1:bits .and .u64 (IntKind.u64.wrap (-1)) 63=63:=by kernel_rfl
 go_enter Tryz.func137,Tryz.ntmps137
 go_wp2
 go_ret
 exact ⟨ret_int (by have:=rot_or (n:=1) (by omega) h.out;simpa using this),rfl⟩
theorem right_1 (x:Int) (w:World) (h:Hid (Wd x)) :
 Calls Tryz.prog 135 #[.int .u64 x,.int .i64 1] w fun e w'=>e=.returned (.int .u64 (rot x 1))∧w=w':=by
 go_enter Tryz.func135,Tryz.ntmps135
 go_wp2_with (go_at_call 137;refine (rl_1 x _ h).mono ?_;rintro e w' ⟨rfl,rfl⟩)
 go_ret
 exact ⟨rfl,rfl⟩
theorem rl_8 (x:Int) (w:World) (h:Hid (Wd x)) :
 Calls Tryz.prog 137 #[.int .u64 x,.int .i64 (-8)] w fun e w'=>e=.returned (.int .u64 (rot x 8))∧w=w':=by
 have k1:bits .and .u64 (IntKind.u64.wrap (-8)) 63=56:=by kernel_rfl
 go_enter Tryz.func137,Tryz.ntmps137
 go_wp2
 go_ret
 exact ⟨ret_int (by have:=rot_or (n:=8) (by omega) h.out;simpa using this),rfl⟩
theorem right_8 (x:Int) (w:World) (h:Hid (Wd x)) :
 Calls Tryz.prog 135 #[.int .u64 x,.int .i64 8] w fun e w'=>e=.returned (.int .u64 (rot x 8))∧w=w':=by
 go_enter Tryz.func135,Tryz.ntmps135
 go_wp2_with (go_at_call 137;refine (rl_8 x _ h).mono ?_;rintro e w' ⟨rfl,rfl⟩)
 go_ret
 exact ⟨rfl,rfl⟩
theorem rl_19 (x:Int) (w:World) (h:Hid (Wd x)) :
 Calls Tryz.prog 137 #[.int .u64 x,.int .i64 (-19)] w fun e w'=>e=.returned (.int .u64 (rot x 19))∧w=w':=by
 have k1:bits .and .u64 (IntKind.u64.wrap (-19)) 63=45:=by kernel_rfl
 go_enter Tryz.func137,Tryz.ntmps137
 go_wp2
 go_ret
 exact ⟨ret_int (by have:=rot_or (n:=19) (by omega) h.out;simpa using this),rfl⟩
theorem right_19 (x:Int) (w:World) (h:Hid (Wd x)) :
 Calls Tryz.prog 135 #[.int .u64 x,.int .i64 19] w fun e w'=>e=.returned (.int .u64 (rot x 19))∧w=w':=by
 go_enter Tryz.func135,Tryz.ntmps135
 go_wp2_with (go_at_call 137;refine (rl_19 x _ h).mono ?_;rintro e w' ⟨rfl,rfl⟩)
 go_ret
 exact ⟨rfl,rfl⟩
theorem rl_61 (x:Int) (w:World) (h:Hid (Wd x)) :
 Calls Tryz.prog 137 #[.int .u64 x,.int .i64 (-61)] w fun e w'=>e=.returned (.int .u64 (rot x 61))∧w=w':=by
 have k1:bits .and .u64 (IntKind.u64.wrap (-61)) 63=3:=by kernel_rfl
 go_enter Tryz.func137,Tryz.ntmps137
 go_wp2
 go_ret
 exact ⟨ret_int (by have:=rot_or (n:=61) (by omega) h.out;simpa using this),rfl⟩
theorem right_61 (x:Int) (w:World) (h:Hid (Wd x)) :
 Calls Tryz.prog 135 #[.int .u64 x,.int .i64 61] w fun e w'=>e=.returned (.int .u64 (rot x 61))∧w=w':=by
 go_enter Tryz.func135,Tryz.ntmps135
 go_wp2_with (go_at_call 137;refine (rl_61 x _ h).mono ?_;rintro e w' ⟨rfl,rfl⟩)
 go_ret
 exact ⟨rfl,rfl⟩
def tri (x:Int) (i j k:Nat):Int:=xr (xr (rot x i) (rot x j)) (rot x k)
theorem turns_e (x:Int) (w:World) (h:Hid (Wd x)) :
 Calls Tryz.prog 131 #[.int .u64 x,.int .i64 14,.int .i64 18,.int .i64 41] w fun e w'=>e=.returned (.int .u64 (tri x 14 18 41))∧w=w':=by
 go_enter Tryz.func131,Tryz.ntmps131
 go_wp2_with (go_at_call 135;(first|(with_reducible refine (right_14 x _ h).mono ?_)|(with_reducible refine (right_18 x _ h).mono ?_)|(with_reducible refine (right_41 x _ h).mono ?_));rintro e w' ⟨rfl,rfl⟩)
 go_ret
 exact ⟨rfl,rfl⟩
theorem turns_a (x:Int) (w:World) (h:Hid (Wd x)) :
 Calls Tryz.prog 131 #[.int .u64 x,.int .i64 28,.int .i64 34,.int .i64 39] w fun e w'=>e=.returned (.int .u64 (tri x 28 34 39))∧w=w':=by
 go_enter Tryz.func131,Tryz.ntmps131
 go_wp2_with (go_at_call 135;(first|(with_reducible refine (right_28 x _ h).mono ?_)|(with_reducible refine (right_34 x _ h).mono ?_)|(with_reducible refine (right_39 x _ h).mono ?_));rintro e w' ⟨rfl,rfl⟩)
 go_ret
 exact ⟨rfl,rfl⟩
def ordN (hi:Bool):Int:=if hi then 0 else 1
theorem shift_any (hi:Bool) (p s P:Nat) (w:World) (hP:P=8*plc hi p s) (hp:p<s) (hs:s≤8) :
 Calls Tryz.prog 128 #[.int .i64 p,.int .i64 s,.int .i64 (ordN hi)] w fun e w'=>e=.returned (.int .i64 P)∧w'=w:=by
 subst hP
 cases hi
 ·simp only [ordN,plc]
  go_enter Tryz.func128,Tryz.ntmps128
  go_wp2
  go_ret
  exact ⟨by simp,rfl⟩
 ·simp only [ordN,plc]
  have e:((8*(s - 1 - p):Nat):Int)=8*((s:Int) - 1 - (p:Int)):=by omega
  simp only [if_true,e]
  clear e
  go_enter Tryz.func128,Tryz.ntmps128
  go_wp2
  go_ret
  exact ⟨rfl,rfl⟩
theorem Tryz.info5:(Tryz.prog.info? 5).map (fun i=>(i.zero,i.size,i.bytes))=some (some (.int .u8 0),1,1):=by kernel_rfl
set_option maxHeartbeats 400000 in
theorem split64 (hi:Bool) (A:Option Addr) (c s:Nat) (l:List Int) (w:World) (h1:1≤s) (h8:s≤8) (hn:l.length*s≤4096) (hA:Nums w .u64 A l) :
 Calls Tryz.prog 124 #[.slice A l.length c,.int .i64 s,.int .i64 (ordN hi)] w fun e w'=>∃B d ys,e=.returned (.slice B ys.length d)∧Hid (ys=splitB hi s l)∧NumsF w.heap.size w' .u8 B ys∧Below w.heap.size w w':=by
 obtain ⟨i0,hi0,hz0,hz1,hz2⟩:=info_parts Tryz.info5
 obtain ⟨S,hS⟩:∃S,S=splitB hi s l:=⟨_,rfl⟩
 have hSl:S.length=l.length*s:=by rw [hS,splitB_length]
 have HS:=hid hS
 have HSl:=hid hSl
 have hSb:S.length≤4096:=by omega
 have hi1:((l.length*s:Nat):Int)=(l.length:Int)*(s:Int):=by simp
 have hi2:0≤(l.length:Int)*(s:Int):=by omega
 have hi3:(l.length:Int)*(s:Int)≤4096:=by omega
 have HI:=hid hi1
 have hll:l.length≤4096:=Nat.le_trans (Nat.le_mul_of_pos_right _ (by omega)) hn
 clear hS hSl hi1
 go_enter Tryz.func124,Tryz.ntmps124
 go_wp2_with (at_make;refine wpList_make_full _ rfl _ _ 23 rfl w.heap.size 5 i0 _ 1 Tryz.underlying23 hi0 hz0 hz1 .i64 .i64 _ _ S.length rfl rfl ?_ ?_ ?_ ?_ ?_ ?_)
 ·rw [HSl.out];exact HI.out.symm
 ·rw [HSl.out];exact HI.out.symm
 ·rw [hz2];omega
 ·unfold maxLen;omega
 ·omega
 intro w1 hown hgrow
 have hb1:Below w.heap.size w w1:=(Below.refl _ _).grown hgrow (Nat.le_refl _) (by simp)
 have hO:Owns w1 w.heap.size 5 .u8 (.slice (some ⟨w.heap.size,0,none⟩) S.length S.length) (fillK S 0):=by
  rw [fillK_zero]
  unfold Owns
  rw [List.length_replicate,List.map_replicate,←toList_madeCells_one]
  exact hown
 clear hown hgrow
 go_wp2
 go_loopw [16] (fun i wr=>∃k:Nat,k≤S.length∧i=.int .i64 k∧Below w.heap.size w wr∧Owns wr w.heap.size 5 .u8 (.slice (some ⟨w.heap.size,0,none⟩) S.length S.length) (fillK S k)) (fun i _=>S.length - (intOf i).toNat)
 case atStart=>exact ⟨0,Nat.zero_le _,rfl,hb1,hO⟩
 case round =>
  clear hb1 hO
  obtain ⟨k,hk,rfl,hb,hO⟩:=hrel
  by_cases hlt:k<S.length
  ·have hq:k / s<l.length:=by
    have:=HSl.out
    rw [Nat.div_lt_iff_lt_mul (by omega)];omega
   have hr:k%s<s:=Nat.mod_lt _ (by omega)
   obtain ⟨b1,o1,x,rfl,_,hc1,H1⟩:=(hA.below hb).get hq
   obtain ⟨q,hqe⟩:∃q,q=k / s:=⟨_,rfl⟩
   obtain ⟨r,hre⟩:∃r,r=k%s:=⟨_,rfl⟩
   rw [←hqe] at hq hc1 H1
   rw [←hre] at hr
   have hqi:(k:Int) / (s:Int)=(q:Int):=by rw [hqe];simp
   have hri:(k:Int)%(s:Int)=(r:Int):=by rw [hre];simp
   have HQ:=hid hqe
   have HR:=hid hre
   clear hqe hre
   have hpos:(0:Int)≤k:=by omega
   have hlt':(k:Int)<S.length:=by omega
   have hs1:(1:Int)≤s:=by omega
   go_wp2
   have hs0:¬s=0:=by omega
   have hwq:IntKind.i64.wrap (q:Int)=(q:Int):=IntWalk.i64_in _ (by omega)
   have hti:(k:Int).tmod (s:Int)=(r:Int):=by rw [Int.tmod_eq_emod_of_nonneg (by omega)];exact hri
   have hwr:IntKind.i64.wrap (r:Int)=(r:Int):=IntWalk.i64_in _ (by omega)
   have hq0:(0:Int)≤q:=by omega
   have hq1:(q:Int)<l.length:=by omega
   obtain ⟨P,hP⟩:∃P,P=8*plc hi r s:=⟨_,rfl⟩
   have HP:=hid hP
   have hP1:(P:Int)≤64:=by unfold plc at hP;split at hP <;> omega
   have hP0:(0:Int)≤P:=by omega
   clear hP
   go_still_tail 16,(by kernel_rfl)
   still_call (shift_any hi r s P _ HP.out hr h8)
   repeat still_step
   refine wpStill_nil ?_
   obtain ⟨y,hy,hyf,_⟩:=hO.spot (j:=k) (by rw [fillK_length];exact hlt)
   change wpList _ _ _ _ _ wr.drew
   have hy1:wr.drew.cell? ⟨w.heap.size,k,none⟩=some (.int .u8 y):=hy
   have hyf1:wr.drew.frozen? ⟨w.heap.size,k,none⟩=false:=hyf
   have hb1:Below w.heap.size w wr.drew:=hb.drew
   have hO1:=hO.drew
   clear hO hb hy hyf hc1
   generalize wr.drew=w2 at *
   go_wp2
   go_roundw
   case rel =>
    have hsk:S[k]? = some (x / 2^P%256):=by
     rw [HS.out,splitB_at hi s l (by have:=HSl.out;omega),←HQ.out,←HR.out,HP.out]
     simp [List.getD,H1.out,dig]
    exact ⟨k+1,by omega,by go_num,hb1.setCell (Nat.le_refl _) _,by have h:=hO1.store k (x / 2^P%256);rw [fillK_set S hsk] at h;exact h⟩
   case measure=>simp [intOf];omega
  ·go_wp2
   go_ret
   have e:k=S.length:=by omega
   subst e
   rw [fillK_end] at hO
   exact ⟨_,_,S,rfl,HS,hO.fresh,hb⟩
theorem Tryz.info134:(Tryz.prog.info? 134).map (fun i=>(i.zero,i.size,i.bytes))=some (some (.int .u64 0),1,8):=by kernel_rfl
set_option maxHeartbeats 400000 in
theorem join64 (hi:Bool) (A:Option Addr) (c s:Nat) (b:List Int) (w:World) (h1:1≤s) (h8:s≤8) (hn:b.length≤4096) (hm:b.length%s=0) (hby:HByt b) (hA:Nums w .u8 A b) :
 Calls Tryz.prog 138 #[.slice A b.length c,.int .i64 s,.int .i64 (ordN hi)] w fun e w'=>∃B d ys,e=.returned (.slice B ys.length d)∧Hid (ys=joinB hi s b)∧Nums w' .u64 B ys∧Below w.heap.size w w':=by
 obtain ⟨i0,hi0,hz0,hz1,hz2⟩:=info_parts Tryz.info134
 obtain ⟨M,hM⟩:∃M,M=b.length / s:=⟨_,rfl⟩
 have HM:=hid hM
 have hM1:M≤4096:=by rw [hM];exact Nat.le_trans (Nat.div_le_self _ _) hn
 have hMi:(b.length:Int) / (s:Int)=(M:Int):=by rw [hM];simp
 have HMod:=hid hm
 have hs0:¬s=0:=by omega
 have hs1:(1:Int)≤s:=by omega
 have hwM:IntKind.i64.wrap (M:Int)=(M:Int):=IntWalk.i64_in _ (by omega)
 clear hM hm
 go_enter Tryz.func138,Tryz.ntmps138
 go_wp2_with (at_make;refine wpList_make_full _ rfl _ _ 140 rfl w.heap.size 134 i0 _ 1 Tryz.underlying140 hi0 hz0 hz1 .i64 .i64 _ _ M rfl rfl ?_ ?_ ?_ ?_ ?_ ?_)
 ·rfl
 ·rfl
 ·rw [hz2];omega
 ·unfold maxLen;omega
 ·omega
 intro w1 hown hgrow
 have hb1:Below w.heap.size w w1:=(Below.refl _ _).grown hgrow (Nat.le_refl _) (by simp)
 have hO:Owns w1 w.heap.size 134 .u64 (.slice (some ⟨w.heap.size,0,none⟩) M M) (partK hi s b 0):=by
  rw [partK_zero,←HM.out]
  unfold Owns
  rw [List.length_replicate,List.map_replicate,←toList_madeCells_one]
  exact hown
 clear hown hgrow
 go_wp2
 go_loopw [17] (fun i wr=>∃k:Nat,k≤b.length∧i=.int .i64 k∧Below w.heap.size w wr∧Owns wr w.heap.size 134 .u64 (.slice (some ⟨w.heap.size,0,none⟩) M M) (partK hi s b k)) (fun i _=>b.length - (intOf i).toNat)
 case atStart=>exact ⟨0,Nat.zero_le _,rfl,hb1,hO⟩
 case round =>
  clear hb1 hO
  obtain ⟨k,hk,rfl,hb,hO⟩:=hrel
  by_cases hlt:k<b.length
  ·have hq:k / s<M:=by
    have h2:=HM.out
    have h3:=HMod.out
    rw [Nat.div_lt_iff_lt_mul (by omega),h2,Nat.mul_comm]
    have:=Nat.div_add_mod b.length s
    omega
   have hr:k%s<s:=Nat.mod_lt _ (by omega)
   obtain ⟨b1,o1,x,rfl,_,hc1,H1⟩:=(hA.below hb).get hlt
   obtain ⟨q,hqe⟩:∃q,q=k / s:=⟨_,rfl⟩
   obtain ⟨r,hre⟩:∃r,r=k%s:=⟨_,rfl⟩
   rw [←hqe] at hq
   rw [←hre] at hr
   have hqi:(k:Int) / (s:Int)=(q:Int):=by rw [hqe];simp
   have hri:(k:Int)%(s:Int)=(r:Int):=by rw [hre];simp
   obtain ⟨y,hy,hyf,H2⟩:=hO.spot (j:=q) (by rw [partK_length,←HM.out];exact hq)
   have hch:(chunk s b q)[r]? = some x:=by
    rw [chunk_at s b q hr,←H1.out,hqe,hre,Nat.mul_comm];congr 1;exact Nat.div_add_mod k s
   have hye:y=pval hi s (chunk s b q) r:=by
    have h2:=H2.out
    rw [partK_cur hi s b hqe hre (by omega) (by rw [←HM.out];exact hq)] at h2
    injection h2 with h2
    exact h2.symm
   have hcb:=chunk_byt hby s q
   have hxb:=hcb.at_ hch
   have hx0:=hxb.1
   have hx1:=hxb.2
   obtain ⟨P,hP⟩:∃P,P=8*plc hi r s:=⟨_,rfl⟩
   obtain ⟨z,hz⟩:∃z,z=pval hi s (chunk s b q) (r+1):=⟨_,rfl⟩
   have hor:=pval_or hi s (chunk s b q) hr hcb hch
   rw [←hye,←hP,←hz] at hor
   have hsh:=byte_shift_bd hi hr hx0 hx1
   rw [←hP] at hsh
   have hset:=partK_set hi s b hqe hre (by omega) (by rw [←HM.out];exact hq) hz
   have HS:=hid hset
   have HP:=hid hP
   have hyb:=pval_bd hi s (chunk s b q) (r:=r) (by omega) hcb
   rw [←hye] at hyb
   have hP1:(P:Int)≤64:=by unfold plc at hP;split at hP <;> omega
   have hP0:(0:Int)≤P:=by omega
   have h64:=pow_mono2 (a:=8*s) (b:=64) (by omega)
   have hwx:IntKind.u64.wrap x=x:=IntWalk.u64_in _ (by omega)
   have hwz:IntKind.u64.wrap (x*2^P)=x*2^P:=IntWalk.u64_in _ (by omega)
   have hbo:bits .or .u64 y (x*2^P)=z:=by rw [u64_or _ _ hyb.1 (by omega) hsh.1 (by omega)];exact hor
   clear hP hor hset hz hye hch hqe hre hxb hsh h64 hyb
   have hpos:(0:Int)≤k:=by omega
   have hlt':(k:Int)<b.length:=by omega
   have hwq:IntKind.i64.wrap (q:Int)=(q:Int):=IntWalk.i64_in _ (by omega)
   have hti:(k:Int).tmod (s:Int)=(r:Int):=by rw [Int.tmod_eq_emod_of_nonneg (by omega)];exact hri
   have hq0:(0:Int)≤q:=by omega
   have hq1:(q:Int)<M:=by omega
   go_wp2
   go_still_tail 16,(by kernel_rfl)
   still_call (shift_any hi r s P _ HP.out hr h8)
   repeat still_step
   refine wpStill_nil ?_
   change wpList _ _ _ _ _ wr.drew
   have hy1:wr.drew.cell? ⟨w.heap.size,q,none⟩=some (.int .u64 y):=hy
   have hyf1:wr.drew.frozen? ⟨w.heap.size,q,none⟩=false:=hyf
   have hb1:Below w.heap.size w wr.drew:=hb.drew
   have hO1:=hO.drew
   clear hO hb hy hyf hc1
   generalize wr.drew=w2 at *
   go_wp2
   go_roundw
   case rel=>exact ⟨k+1,by omega,by go_num,hb1.setCell (Nat.le_refl _) _,by have h:=hO1.store q z;rw [HS.out] at h;exact h⟩
   case measure=>simp [intOf];omega
  ·go_wp2
   go_ret
   have e:k=b.length:=by omega
   subst e
   rw [partK_end] at hO
   have hln:M=(joinB hi s b).length:=by rw [joinB_length];exact HM.out
   refine ⟨some ⟨w.heap.size,0,none⟩,M,joinB hi s b,?_,hid rfl,hO.nums,hb⟩
   rw [←hln]
   rfl
end
end Go.Proofs.YtkblmdakejmmhaaGreatDoor
