import Derived.Test.YtkblmdakejmmhaaGreatDoorG1
import Derived.Test.YtkblmdakejmmhaaGreatDoorProg
import Derived.StillTailTactics
import Derived.BigQuiet
namespace Go.Proofs.YtkblmdakejmmhaaGreatDoor
open Go Go.RowKit
def nl (l:List Nat):List Int:=l.map fun (v:Nat)=>(v:Int)
@[simp] theorem nl_length (l:List Nat):(nl l).length=l.length:=by simp [nl]
theorem nl_at {l:List Nat} {i:Nat} (h:i<l.length):(nl l)[i]? = some ((l.getD i 0:Nat):Int):=by simp [nl,h]
theorem nl_set (l:List Nat) (i v:Nat):(nl l).set i (v:Int)=nl (l.set i v):=by simp [nl]
def ev:List Int→Int
 | []=>0
 | a::l=>a+65536*ev l
theorem ev_nl (l:List Nat):ev (nl l)=(dv l:Int):=by
 induction l with
 | nil=>rfl
 | cons a l ih=>simp only [nl,List.map_cons,ev,dv] at ih ⊢;rw [ih];omega
theorem ev_set (l:List Int):∀(p:Nat) (v v0:Int),l[p]? = some v0→ev (l.set p v)=ev l+(v - v0)*65536^p:=by
 induction l with
 | nil=>intro p v v0 h;simp at h
 | cons a l ih =>
   intro p v v0 h
   cases p with
   | zero=>simp at h;subst h;simp [ev];omega
   | succ p =>
     have h2:=ih p v v0 (by simpa using h)
     simp only [List.set_cons_succ,ev,h2,Int.pow_succ]
     rw [Int.mul_add]
     have e:(v - v0)*(65536^p*65536)=65536*((v - v0)*65536^p):=by rw [←Int.mul_assoc,Int.mul_comm]
     rw [e];omega
theorem ev_append (a b:List Int):ev (a++b)=ev a+65536^a.length*ev b:=by
 induction a with
 | nil=>simp [ev]
 | cons x a ih =>
   simp only [List.cons_append,ev,ih,List.length_cons,Int.pow_succ]
   rw [Int.mul_add,←Int.mul_assoc,Int.mul_comm 65536 (65536^a.length)]
   omega
def cl (xs:List Int):Nat→List Int × Int
 | 0=>(xs,0)
 | i+1=>((cl xs i).1.set i (((cl xs i).1.getD i 0+(cl xs i).2)%65536),((cl xs i).1.getD i 0+(cl xs i).2) / 65536)
def lastOf (xs:List Int):Int:=(cl xs 15).1.getD 15 0+(cl xs 15).2
def cyA (xs:List Int):List Int:=(cl xs 15).1.set 15 (lastOf xs%32768)
def cy (xs:List Int):List Int:=(cyA xs).set 0 ((cyA xs).getD 0 0+19*(lastOf xs / 32768))
theorem cl_length (xs:List Int) (i:Nat):(cl xs i).1.length=xs.length:=by
 induction i with
 | zero=>rfl
 | succ i ih=>simp [cl,ih]
theorem getD_some {l:List Int} {i:Nat} (h:i<l.length):l[i]? = some (l.getD i 0):=by simp [h]
theorem cl_ev (xs:List Int) (i:Nat) (h:i≤xs.length):ev (cl xs i).1+65536^i*(cl xs i).2=ev xs:=by
 induction i with
 | zero=>simp [cl]
 | succ i ih =>
   have h1:=ih (by omega)
   have hl:i<(cl xs i).1.length:=by rw [cl_length];omega
   simp only [cl]
   rw [ev_set _ _ _ _ (getD_some hl),←h1]
   generalize (cl xs i).1.getD i 0=x
   generalize (cl xs i).2=o
   have e:=Int.emod_add_mul_ediv (x+o) 65536
   generalize (x+o)%65536=m at *
   generalize (x+o) / 65536=q at *
   rw [Int.pow_succ]
   have e2:(m - x)=o - 65536*q:=by omega
   rw [e2,Int.sub_mul,Int.mul_assoc ((65536:Int)^i),Int.mul_comm o,Int.mul_comm (65536*q)]
   omega
theorem cl_above (xs:List Int) (i j:Nat) (h:i≤j):(cl xs i).1[j]? = xs[j]? := by
 induction i with
 | zero=>rfl
 | succ i ih =>
   simp only [cl]
   rw [List.getElem?_set_ne (by omega),ih (by omega)]
theorem cl_below (xs:List Int) (i j:Nat) (x:Int) (h:j<i) (hx:(cl xs i).1[j]? = some x):0≤x∧x<65536:=by
 induction i with
 | zero=>omega
 | succ i ih =>
   simp only [cl] at hx
   by_cases e:i=j
   ·subst e
    rw [List.getElem?_set] at hx
    simp only [if_true] at hx
    split at hx
    ·injection hx with hx;omega
    ·cases hx
   ·rw [List.getElem?_set_ne e] at hx
    exact ih (by omega) hx
def Bd (b:Int) (xs:List Int):Prop:=∀x ∈ xs,-b≤x∧x≤b
theorem Bd.at_ {b:Int} {xs:List Int} (h:Bd b xs) {i:Nat} {x:Int} (hx:xs[i]? = some x) : -b≤x∧x≤b:=h x (List.mem_of_getElem? hx)
theorem cl_small (xs:List Int) (h:Bd 1152921504606846976 xs) (i:Nat) (hi:i≤xs.length) : -17600000000000≤(cl xs i).2∧(cl xs i).2≤17600000000000:=by
 induction i with
 | zero=>simp [cl]
 | succ i ih =>
   have h1:=ih (by omega)
   have hl:i<xs.length:=by omega
   have hx:=h.at_ (getD_some hl)
   have e:(cl xs i).1.getD i 0=xs.getD i 0:=by simp only [List.getD,cl_above xs i i (Nat.le_refl _)]
   simp only [cl,e]
   omega
section
open Go
theorem wrap_toInt (v:BitVec 64):IntKind.i64.wrap (v.toNat:Int)=v.toInt:=by
 have h:v.toNat<2^64:=v.isLt
 rw [BitVec.toInt_eq_toNat_cond]
 simp only [IntKind.wrap,IntKind.bits,IntKind.signed]
 simp
 split <;> split <;> omega
theorem bits64 (x y:Int):bits .and .i64 x y=(BitVec.ofInt 64 x &&& BitVec.ofInt 64 y).toInt∧bits .xor .i64 x y=(BitVec.ofInt 64 x ^^^ BitVec.ofInt 64 y).toInt∧bits .or .i64 x y=(BitVec.ofInt 64 x ||| BitVec.ofInt 64 y).toInt :=
 ⟨wrap_toInt _,wrap_toInt _,wrap_toInt _⟩
theorem toInt_small (v:BitVec 64) (n:Nat) (h:v.toNat=n) (hn:n<9223372036854775808):v.toInt=n:=by
 rw [BitVec.toInt_eq_toNat_cond,h]
 rw [if_pos (by omega)]
theorem mask_i64 (t:Int) (n:Nat) (m:Int) (hm:m=2^n - 1) (hn:n≤62):bits .and .i64 t m=t%2^n:=by
 subst hm
 have hp:(2:Nat)^n≤2^62:=Nat.pow_le_pow_right (by omega) hn
 have hp1:0<(2:Nat)^n:=Nat.pow_pos (by omega)
 have e:((2:Int)^n)=((2^n:Nat):Int):=by simp
 have hd:(2:Nat)^n ∣ 2^64:=Nat.pow_dvd_pow 2 (by omega)
 rw [(bits64 _ _).1]
 have h2:(BitVec.ofInt 64 ((2:Int)^n - 1)).toNat=2^n - 1:=by
  rw [BitVec.toNat_ofInt,e]
  have:(((2^n:Nat):Int) - 1)%(2^64:Nat)=((2^n:Nat):Int) - 1:=Int.emod_eq_of_lt (by omega) (by omega)
  rw [this];omega
 have h3:(BitVec.ofInt 64 t &&& BitVec.ofInt 64 ((2:Int)^n - 1)).toNat=(t%2^n).toNat:=by
  rw [BitVec.toNat_and,h2,Nat.and_two_pow_sub_one_eq_mod,BitVec.toNat_ofInt]
  have h4:((t%(2^64:Nat)).toNat:Int)=t%(2^64:Nat):=Int.toNat_of_nonneg (Int.emod_nonneg _ (by decide))
  have h5:(((t%(2^64:Nat)).toNat%2^n:Nat):Int)=t%2^n:=by
   rw [Int.natCast_emod,h4,e,Int.emod_emod_of_dvd _ (Int.natCast_dvd_natCast.2 hd)]
  omega
 have h6:(t%2^n)<2^n:=Int.emod_lt_of_pos _ (by rw [e];omega)
 have h7:0≤(t%2^n):=Int.emod_nonneg _ (by rw [e];omega)
 rw [toInt_small _ _ h3 (by rw [e] at h6;omega)]
 omega
theorem mask16 (t:Int):bits .and .i64 t 65535=t%65536:=mask_i64 t 16 65535 rfl (by omega)
theorem mask15 (t:Int):bits .and .i64 t 32767=t%32768:=mask_i64 t 15 32767 rfl (by omega)
def In64 (x:Int):Prop:=-9223372036854775808≤x∧x<9223372036854775808
theorem toInt_ofInt {x:Int} (h:In64 x):(BitVec.ofInt 64 x).toInt=x:=by
 rw [BitVec.toInt_ofInt]
 exact Int.bmod_eq_of_le (by have:=h.1;omega) (by have:=h.2;omega)
theorem xor_yes (x y:Int) (hy:In64 y):bits .xor .i64 x (bits .and .i64 (-1) (bits .xor .i64 x y))=y:=by
 rw [(bits64 _ _).2.1,(bits64 _ _).1,(bits64 x y).2.1,BitVec.ofInt_toInt,BitVec.ofInt_toInt]
 have h1:BitVec.ofInt 64 (-1)=BitVec.allOnes 64:=by decide
 rw [h1,BitVec.allOnes_and,←BitVec.xor_assoc,BitVec.xor_self,BitVec.zero_xor,toInt_ofInt hy]
theorem xor_yes' (x y:Int) (hx:In64 x):bits .xor .i64 y (bits .and .i64 (-1) (bits .xor .i64 x y))=x:=by
 rw [(bits64 _ _).2.1,(bits64 _ _).1,(bits64 x y).2.1,BitVec.ofInt_toInt,BitVec.ofInt_toInt]
 have h1:BitVec.ofInt 64 (-1)=BitVec.allOnes 64:=by decide
 rw [h1,BitVec.allOnes_and,BitVec.xor_comm (BitVec.ofInt 64 x),←BitVec.xor_assoc,BitVec.xor_self,BitVec.zero_xor,toInt_ofInt hx]
theorem xor_no (x y z:Int) (hz:In64 z):bits .xor .i64 z (bits .and .i64 0 (bits .xor .i64 x y))=z:=by
 rw [(bits64 _ _).2.1,(bits64 _ _).1,BitVec.ofInt_toInt]
 have h1:BitVec.ofInt 64 0=0#64:=by decide
 rw [h1,BitVec.zero_and,BitVec.xor_zero,toInt_ofInt hz]
theorem or16 (a b:Int) (ha:0≤a∧a<256) (hb:0≤b∧b<256):bits .or .i64 a (256*b)=a+256*b:=by
 obtain ⟨a,rfl⟩:=Int.eq_ofNat_of_zero_le ha.1
 obtain ⟨b,rfl⟩:=Int.eq_ofNat_of_zero_le hb.1
 rw [(bits64 _ _).2.2]
 have e:(256*(b:Int))=((2^8*b:Nat):Int):=by omega
 have h3:(BitVec.ofInt 64 (a:Int) ||| BitVec.ofInt 64 (256*(b:Int))).toNat=2^8*b+a:=by
  rw [BitVec.toNat_or,e,BitVec.ofInt_natCast,BitVec.ofInt_natCast,BitVec.toNat_ofNat,BitVec.toNat_ofNat,Nat.mod_eq_of_lt (by omega),Nat.mod_eq_of_lt (by omega),Nat.or_comm,←Nat.two_pow_add_eq_or_of_lt (by omega)]
 rw [toInt_small _ _ h3 (by omega)]
 omega
end
section
set_option maxRecDepth 4000 in
set_option maxHeartbeats 1000000 in
theorem carry_any (b:Nat) (xs:List Int) (w:World) (hl:xs.length=16) (hb:Bd 1152921504606846976 xs) (hA:Arr w b 0 .i64 xs) :
 Calls Tryz.prog 75 #[.pointer (some ⟨b,0,none⟩)] w fun e w'=>e=.returned (.tuple #[])∧Arr w' b 0 .i64 (cy xs)∧Only b w w':=by
 have HL:=hid hl
 have HB:=hid hb
 clear hb hl
 go_enter Tryz.func75,Tryz.ntmps75
 go_wp2
 go_loopw [2,5] (fun o i wr=>∃k:Nat,k≤15∧i=.int .i64 k∧o=.int .i64 (cl xs k).2∧Arr wr b 0 .i64 (cl xs k).1∧Only b w wr) (fun _ i _=>15 - (intOf i).toNat)
 case atStart=>exact ⟨0,by omega,rfl,rfl,hA,Only.refl _ _⟩
 case round =>
  clear hA
  obtain ⟨k,hk,rfl,rfl,hA,hO⟩:=hrel
  rename World=>W1
  have HS:=hid (cl_small xs HB.out k (by rw [HL.out];omega))
  by_cases hlt:k<15
  ·have HLL:Hid (k<(cl xs k).1.length):=hid (by rw [cl_length,HL.out];omega)
   have HX0:Hid ((cl xs k).1.getD k 0=xs.getD k 0):=hid (by simp only [List.getD,cl_above xs k k (Nat.le_refl _)])
   have HXB:Hid (-1152921504606846976≤xs.getD k 0∧xs.getD k 0≤1152921504606846976):=hid (HB.out.at_ (getD_some (by rw [HL.out];omega)))
   have HN:Hid (cl xs (k+1)=((cl xs k).1.set k (((cl xs k).1.getD k 0+(cl xs k).2)%65536),((cl xs k).1.getD k 0+(cl xs k).2) / 65536)):=hid rfl
   generalize hc:cl xs k=st at *
   have HC:=hid hc
   clear hc
   rcases st with ⟨zs,o⟩
   dsimp only at *
   obtain ⟨x,cx,fx,HX⟩:=(hA.spot (i:=k) HLL.out)
   rw [Nat.zero_add] at cx fx
   have HXE:Hid (zs.getD k 0=x):=hid (by simp [List.getD,HX.out])
   obtain ⟨t,ht⟩:∃t,t=x+o:=⟨_,rfl⟩
   have hwt:IntKind.i64.wrap (x+o)=t:=by rw [IntWalk.i64_in _ (by have h1:=HXB.out;have h2:=HS.out;rw [←HX0.out,HXE.out] at h1;omega),ht]
   rw [HXE.out,←ht] at HN
   have HT:=hid ht
   clear ht
   have k0:(0:Int)≤k:=by omega
   have k15:(k:Int)<15:=by omega
   have k16:(k:Int)<16:=by omega
   have hkw:IntKind.i64.wrap ((k:Int)+1)=(k:Int)+1:=IntWalk.i64_in _ (by omega)
   have hmk:=mask16 t
   go_wp2
   go_still_tail 9,(by kernel_rfl)
   change wpList _ _ _ _ _ W1.drew
   have hA1:Arr (W1.drew.setCell ⟨b,k,none⟩ (.int .i64 t)) b 0 .i64 (zs.set k t):=by have h:=hA.drew.set k t;rw [Nat.zero_add] at h;exact h
   have hO1:Only b w (W1.drew.setCell ⟨b,k,none⟩ (.int .i64 t)):=hO.drew.setCell (.inl rfl) _
   have hz:(zs.set k t)[k]? = some t:=List.getElem?_set_self HLL.out
   have c1:=hA1.at_ hz
   have f1:=hA1.free (i:=k) (by rw [List.length_set];exact HLL.out)
   rw [Nat.zero_add] at c1 f1
   have cx1:W1.drew.cell? ⟨b,k,none⟩=some (.int .i64 x):=cx
   have fx1:W1.drew.frozen? ⟨b,k,none⟩=false:=fx
   clear cx fx hz hA hO
   generalize W1.drew=W2 at *
   go_wp2
   generalize (W2.setCell ⟨b,k,none⟩ (.int .i64 t))=W3 at *
   clear cx1 fx1
   go_still_tail 8,(by kernel_rfl)
   change wpList _ _ _ _ _ W3.drew
   have hA2:Arr (W3.drew.setCell ⟨b,k,none⟩ (.int .i64 (t%65536))) b 0 .i64 (zs.set k (t%65536)):=by
    have h:=hA1.drew.set k (t%65536)
    rw [Nat.zero_add,List.set_set] at h;exact h
   have hO2:Only b w (W3.drew.setCell ⟨b,k,none⟩ (.int .i64 (t%65536))):=hO1.drew.setCell (.inl rfl) _
   have cx2:W3.drew.cell? ⟨b,k,none⟩=some (.int .i64 t):=c1
   have fx2:W3.drew.frozen? ⟨b,k,none⟩=false:=f1
   clear c1 f1 hA1 hO1
   generalize W3.drew=W4 at *
   go_wp2
   go_roundw
   case rel=>exact ⟨k+1,by omega,by go_num,by rw [HN.out],by rw [HN.out];exact hA2,hO2⟩
   case measure=>simp [intOf];omega
  ·have e:k=15:=by omega
   subst e
   have HLL:Hid ((cl xs 15).1.length=16):=hid (by rw [cl_length,HL.out])
   have HX0:Hid ((cl xs 15).1.getD 15 0=xs.getD 15 0):=hid (by simp only [List.getD,cl_above xs 15 15 (Nat.le_refl _)])
   have HXB:Hid (-1152921504606846976≤xs.getD 15 0∧xs.getD 15 0≤1152921504606846976):=hid (HB.out.at_ (getD_some (by rw [HL.out];omega)))
   have HLA:Hid (lastOf xs=(cl xs 15).1.getD 15 0+(cl xs 15).2):=hid rfl
   have HCA:Hid (cyA xs=(cl xs 15).1.set 15 (lastOf xs%32768)):=hid rfl
   have HCY:Hid (cy xs=(cyA xs).set 0 ((cyA xs).getD 0 0+19*(lastOf xs / 32768))):=hid rfl
   generalize hc:cl xs 15=st at *
   have HC:=hid hc
   clear hc
   rcases st with ⟨zs,o⟩
   dsimp only at *
   obtain ⟨x,cx,fx,HX⟩:=(hA.spot (i:=15) (by rw [HLL.out];omega))
   rw [Nat.zero_add] at cx fx
   have HXE:Hid (zs.getD 15 0=x):=hid (by simp [List.getD,HX.out])
   obtain ⟨t,ht⟩:∃t,t=x+o:=⟨_,rfl⟩
   have htb : -1152940000000000000≤t∧t≤1152940000000000000:=by have h1:=HXB.out;have h2:=HS.out;rw [←HX0.out,HXE.out] at h1;omega
   have hwt:IntKind.i64.wrap (x+o)=t:=by rw [IntWalk.i64_in _ (by omega),ht]
   rw [HXE.out,←ht] at HLA
   rw [HLA.out] at HCA HCY
   have HT:=hid ht
   have HTB:=hid htb
   clear ht htb
   have hmk:=mask15 t
   have hA1:Arr (W1.setCell ⟨b,15,none⟩ (.int .i64 (t%32768))) b 0 .i64 (cyA xs):=by have h:=hA.set 15 (t%32768);rw [Nat.zero_add] at h;rw [HCA.out];exact h
   have hO1:Only b w (W1.setCell ⟨b,15,none⟩ (.int .i64 (t%32768))):=hO.setCell (.inl rfl) _
   obtain ⟨y,cy0,fy0,HY⟩:=hA1.spot (i:=0) (by rw [HCA.out];simp [HLL.out])
   have HYE:Hid ((cyA xs).getD 0 0=y):=hid (by simp [List.getD,HY.out])
   have HYB:Hid (-1152921504606846976≤y∧y≤1152921504606846976):=hid (by
    have h:=cl_below xs 15 0 y (by omega) (by rw [HC.out];have h:=HY.out;rw [HCA.out,List.getElem?_set_ne (by omega)] at h;exact h)
    omega)
   rw [Nat.zero_add] at cy0 fy0
   obtain ⟨q,hq⟩:∃q,q=t / 32768:=⟨_,rfl⟩
   have hq1:t / 32768=q:=hq.symm
   have HQ:Hid (-35190000000000≤q∧q≤35190000000000):=hid (by have:=HTB.out;omega)
   have w1:IntKind.i64.wrap (19*q)=19*q:=IntWalk.i64_in _ (by have:=HQ.out;omega)
   have w2:IntKind.i64.wrap (y+19*q)=y+19*q:=IntWalk.i64_in _ (by have:=HQ.out;have:=HYB.out;omega)
   rw [hq1,HYE.out] at HCY
   have HQ1:=hid hq
   clear hq
   go_wp2
   generalize (W1.setCell ⟨b,15,none⟩ (.int .i64 (t%32768)))=W2 at *
   clear cx fx hA hO
   go_still_tail 10,(by kernel_rfl)
   change wpList _ _ _ _ _ W2.drew
   have hA2:Arr (W2.drew.setCell ⟨b,0,none⟩ (.int .i64 (y+19*q))) b 0 .i64 (cy xs):=by
    have h:=hA1.drew.set 0 (y+19*q)
    rw [Nat.zero_add] at h;rw [HCY.out];exact h
   have hO2:Only b w (W2.drew.setCell ⟨b,0,none⟩ (.int .i64 (y+19*q))):=hO1.drew.setCell (.inl rfl) _
   have cx2:W2.drew.cell? ⟨b,0,none⟩=some (.int .i64 y):=cy0
   have fx2:W2.drew.frozen? ⟨b,0,none⟩=false:=fy0
   clear cy0 fy0 hA1 hO1
   generalize W2.drew=W4 at *
   go_wp2
   go_end0
   exact ⟨rfl,hA2,hO2⟩
end
def zeros (n:Nat):List Int:=List.replicate n 0
theorem zeros_len (n:Nat):(zeros n).length=n:=by simp [zeros]
theorem inf24:(Tryz.prog.info? 68).map (fun i=>(i.zero,i.size))=some (some (.agg (ints .i64 (zeros 16)).toArray),16):=by kernel_rfl
theorem inf26:(Tryz.prog.info? 70).map (fun i=>(i.zero,i.size))=some (some (.agg (ints .i64 (zeros 16)).toArray),16):=by kernel_rfl
theorem inf22:(Tryz.prog.info? 22).map (fun i=>(i.zero,i.size))=some (some (.agg (ints .u8 (zeros 32)).toArray),32):=by kernel_rfl
theorem inf55:(Tryz.prog.info? 100).map (fun i=>(i.zero,i.size))=some (some (.agg (ints .i64 (zeros 32)).toArray),32):=by kernel_rfl
theorem siz {T n:Nat} {z:Value} {q:List Int} {k:IntKind} (h:(Tryz.prog.info? T).map (fun i=>(i.zero,i.size))=some (some z,n)) (hq:q.length=n):(Tryz.prog.info? T).map (·.size)=some (ints k q).length∧(Tryz.prog.info? T).map (·.size)=some (ints k q).toArray.size:=by
 cases hc:Tryz.prog.info? T with
 | none=>rw [hc] at h;simp at h
 | some i =>
   rw [hc] at h
   simp only [Option.map_some,Option.some.injEq,Prod.mk.injEq] at h
   simp [h.2,hq]
theorem l24 {q:List Int} (h:q.length=16):(Tryz.prog.info? 68).map (·.size)=some (ints .i64 q).length:=(siz inf24 h).1
theorem a24 {q:List Int} (h:q.length=16):(Tryz.prog.info? 68).map (·.size)=some (ints .i64 q).toArray.size:=(siz inf24 h).2
theorem l26 {q:List Int} (h:q.length=16):(Tryz.prog.info? 70).map (·.size)=some (ints .i64 q).length:=(siz inf26 h).1
theorem a26 {q:List Int} (h:q.length=16):(Tryz.prog.info? 70).map (·.size)=some (ints .i64 q).toArray.size:=(siz inf26 h).2
theorem l22 {q:List Int} (h:q.length=32):(Tryz.prog.info? 22).map (·.size)=some (ints .u8 q).length:=(siz inf22 h).1
theorem a22 {q:List Int} (h:q.length=32):(Tryz.prog.info? 22).map (·.size)=some (ints .u8 q).toArray.size:=(siz inf22 h).2
theorem wpList_built {P:Program} {ops:Array Oper} {rest:List Oper} {o:Oper} {a:Act} {w:World} {Q:Exit→Act→World→Prop} (hg:o.guard=none) (t:TypeId) (parts:Array (Nat × Operand)) (ho:o.op=.build t parts) (vals:List (Nat × Value)) (cells:Array Value)
 (hv:(parts.map fun (i,x)=>(i,a.eval x)).toList=vals) (hb:P.built t vals=some cells) (h:wpList P ops Q rest (a.put o.dst (.agg cells)) w):wpList P ops Q (o::rest) a w:=by
 refine wpList_plain hg fun _ hK=>?_
 rw [←hv] at hb
 unfold Oper.wp execOp
 simp only [ho,Sem.run_bind,run_build w t _ _ hb,Result.andThen_ok]
 exact hK _ _ h
theorem Arr.room {w:World} {b o:Nat} {k k':IntKind} {l l':List Int} (h:Arr w b o k l) (e:l'.length=l.length):w.there b o (ints k' l').toArray.size:=by
 have:=h.there
 simpa [e] using this
theorem Arr.stored {w:World} {b o:Nat} {k:IntKind} {l l':List Int} (h:Arr w b o k l) (e:l'.length=l.length):Arr (w.setCells b o (ints k l').toArray.toList) b o k l':=by
 have:=h.all e
 simpa using this
theorem cy_length (xs:List Int):(cy xs).length=xs.length:=by simp [cy,cyA,cl_length]
theorem Bd.set {b:Int} {xs:List Int} (h:Bd b xs) (i:Nat) (x:Int) (hx : -b≤x∧x≤b):Bd b (xs.set i x):=fun y hy=>by
 rcases List.mem_or_eq_of_mem_set hy with h1|h1
 ·exact h y h1
 ·rw [h1];exact hx
def red (xs:List Int):List Int:=cy ((cy (xs.set 0 (xs.getD 0 0+19))).set 0 ((cy (xs.set 0 (xs.getD 0 0+19))).getD 0 0 - 19))
theorem red_length (xs:List Int):(red xs).length=xs.length:=by simp [red,cy_length]
theorem cy_small (xs:List Int) (hl:xs.length=16) (h:Bd 1152921504606846976 xs):Bd 700000000000000 (cy xs):=by
 have h1:=cl_small xs h 15 (by omega)
 have h2:=h.at_ (getD_some (l:=xs) (i:=15) (by omega))
 have e:(cl xs 15).1.getD 15 0=xs.getD 15 0:=by simp only [List.getD,cl_above xs 15 15 (Nat.le_refl _)]
 have h3:Bd 65536 (cyA xs):=fun x hx=>by
  obtain ⟨i,hi⟩:=List.getElem?_of_mem hx
  by_cases e15:15=i
  ·subst e15
   rw [cyA,List.getElem?_set_self (by rw [cl_length];omega)] at hi
   injection hi with hi;omega
  ·rw [cyA,List.getElem?_set_ne e15] at hi
   have hi2:=(List.getElem?_eq_some_iff.1 hi).1
   rw [cl_length] at hi2
   have:=cl_below xs 15 i x (by omega) hi
   omega
 have h4:=h3.at_ (getD_some (l:=cyA xs) (i:=0) (by simp [cyA,cl_length];omega))
 refine Bd.set (fun y hy=>?_) 0 _ ?_
 ·have:=h3 y hy;omega
 ·unfold lastOf;rw [e];omega
section
open Go
section
variable {P:Program} {ops:Array Oper} {md:Region.Mode} {C:World→Prop}
def sinkF (md:Region.Mode) (ops:Array Oper) (s n:Nat):Bool :=
 (List.range n).all fun i=>decide (i<s)||(List.range (n+1)).any fun j=>decide (i<j)&&Region.waitsFor md ops j i
def closedF (md:Region.Mode) (ops:Array Oper) (listed:Array Bool):Bool :=
 (List.range ops.size).all fun j=>!listed.getD j false||(match ops[j]? with|some o=>o.after.all fun e=>!Region.binds md e||listed.getD e.on false|none=>true)
def startF (ops:Array Oper) (s:Nat) (listed:Array Bool):Bool :=
 decide (listed.size=ops.size)&&(List.range ops.size).all fun i=>listed.getD i false==decide (i<s)
structure HInv (md:Region.Mode) (ops:Array Oper) (s n:Nat) (listed:Array Bool):Prop where
 inv:HeadInv md ops n listed
 low:∀i,i<s→listed.getD i true=true
theorem HInv.set {s n i:Nat} {listed:Array Bool} (h:HInv md ops s n listed) (hi:i ∈ Region.ready md ops listed) (hin:i<n):HInv md ops s n (listed.setIfInBounds i true):=by
 refine ⟨h.inv.set hi hin,fun j hj=>?_⟩
 by_cases e:i=j
 ·subst e
  have:=(mem_ready.1 hi).1
  rw [h.low i hj] at this;cases this
 ·rw [getD_set_ne true e];exact h.low j hj
theorem tail_later {s n:Nat} {listed:Array Bool} (hs:sinkF md ops s n=true) (hc:Region.chainB md ops n=true) (h:HInv md ops s n listed) :
 ∀(d i:Nat),n - i=d→i<n→listed.getD i true=false→∀t,n≤t→t ∉ Region.ready md ops listed:=by
 intro d
 induction d using Nat.strongRecOn with
 | _ d ih =>
   intro i hd hin hun t ht hr
   obtain ⟨_,ot,hot,hall⟩:=mem_ready.1 hr
   have htl:t<ops.size:=(Array.getElem?_eq_some_iff.1 hot).1
   rcases Nat.eq_or_lt_of_le ht with e|hgt
   ·subst e
    have h1:=List.all_eq_true.1 hs i (List.mem_range.2 hin)
    simp only [Bool.or_eq_true,decide_eq_true_eq] at h1
    rcases h1 with h1|h1
    ·rw [h.low i h1] at hun;cases hun
    ·obtain ⟨j,hj,hj2⟩:=List.any_eq_true.1 h1
     simp only [Bool.and_eq_true,decide_eq_true_eq] at hj2
     obtain ⟨oj,hoj,e,he,hb,hon⟩:=Region.waitsFor_spec hj2.2
     have hjn:=List.mem_range.1 hj
     have hno:∀(lj:∀e,e ∈ oj.after→Region.binds md e=true→listed.getD e.on false=true),False:=fun lj=>by
      have h2:=lj e he hb
      rw [hon,getD_both hun] at h2;cases h2
     rcases Nat.eq_or_lt_of_le (Nat.le_of_lt_succ hjn) with e2|hlt
     ·subst e2
      obtain rfl:oj=ot:=Option.some.inj (hoj.symm.trans hot)
      exact hno hall
     ·cases hl:listed.getD j false with
      | true=>exact hno (h.inv.closed j oj hoj hl)
      | false=>exact ih (n - j) (by omega) j rfl hlt (getD_in (by rw [h.inv.size];omega) hl) n (Nat.le_refl _) hr
   ·have h1:=List.all_eq_true.1 hc t (List.mem_range.2 htl)
    simp only [Bool.or_eq_true,decide_eq_true_eq] at h1
    rcases h1 with h1|h1
    ·omega
    ·obtain ⟨o',ho',e,he,hb,hon⟩:=Region.waitsFor_spec h1
     obtain rfl:o'=ot:=Option.some.inj (ho'.symm.trans hot)
     have h2:=hall e he hb
     rw [hon,getD_both (h.inv.tail (t - 1) (by omega) (by omega))] at h2
     cases h2
def headQ (P:Program) (md:Region.Mode) (ops:Array Oper) (C:World→Prop) (n:Nat) (L:Array Bool→Act→Prop):Nat→Array Bool→Act→Prop
 | 0,listed,a=>L listed a
 | f+1,listed,a=>Region.ready md ops listed≠[]∧∀i,i ∈ Region.ready md ops listed→i<n∧qOp P ops C i (headQ P md ops C n L f (listed.setIfInBounds i true)) a
theorem headQ_any {n g:Nat} {L:Array Bool→Act→Prop} {Q':Exit→Act→World→Prop} (hL:∀listed a w,C w→L listed a→wpAny P md ops Q' g listed a w) (f:Nat) :
 ∀(listed:Array Bool) (a:Act) (w:World),C w→headQ P md ops C n L f listed a→wpAny P md ops Q' (f+g) listed a w:=by
 induction f with
 | zero=>intro listed a w hw h;rw [Nat.zero_add];exact hL _ _ _ hw h
 | succ f ih =>
   intro listed a w hw h
   have e:f+1+g=(f+g)+1:=by omega
   rw [e]
   exact ⟨fun h0=>absurd h0 h.1,fun i hi=>wpOp_of_qOp hw (fun a' w' hw' h'=>ih _ a' w' hw' h') (h.2 i hi).2⟩
theorem headQ_first {s n i:Nat} {oi:Oper} {v:Value} {L:Array Bool→Act→Prop} (hi:ops[i]? = some oi) (hsel:∀(j:Nat) (o:Oper) cs b,ops[j]? = some o→o.op≠.select cs b)
 (hs:sinkF md ops s n=true) (hc:Region.chainB md ops n=true) (hin:i<n) (hdone:∀listed a,L listed a→∀j,j ∈ Region.ready md ops listed→n≤j) (f:Nat) :
 ∀(listed:Array Bool) (a:Act),HInv md ops s n listed →
  (∀j oj,ops[j]? = some oj→j≠i→listed.getD j true=false→(∀e,e ∈ oj.after→Region.binds md e=true→e.on≠i)→oi.apart ops oj=true) →
  i ∈ Region.ready md ops listed→YieldsIn P ops C oi v a →
  headQ P md ops C n L f (listed.setIfInBounds i true) (a.put oi.dst v)→headQ P md ops C n L (f+1) listed a:=by
 induction f with
 | zero =>
   intro listed a inv _ hr hy H
   have hun:=(mem_ready.1 hr).1
   refine ⟨List.ne_nil_of_mem hr,fun j hj=>?_⟩
   have hjn:j<n:=Nat.lt_of_not_le fun h=>tail_later hs hc inv _ i rfl hin hun j h hj
   refine ⟨hjn,?_⟩
   by_cases hji:j=i
   ·subst hji;exact hy.qOp hi H
   ·exact absurd (hdone _ _ H j (ready_mono hj hji)) (by omega)
 | succ f ih =>
   intro listed a inv hfree hr hy H
   have hun:=(mem_ready.1 hr).1
   refine ⟨List.ne_nil_of_mem hr,fun j hj=>?_⟩
   have hjn:j<n:=Nat.lt_of_not_le fun h=>tail_later hs hc inv _ i rfl hin hun j h hj
   refine ⟨hjn,?_⟩
   by_cases hji:j=i
   ·subst hji;exact hy.qOp hi H
   ·obtain ⟨hjun,oj,hoj,hall⟩:=mem_ready.1 hj
    have hnot:∀e,e ∈ oj.after→Region.binds md e=true→e.on≠i:=by
     intro e he hb heq
     have h1:=hall e he hb
     rw [heq,getD_both hun] at h1
     cases h1
    have h2:=qOp_put hoj (hfree j oj hoj hji hjun hnot) (fun cs b=>hsel i oi cs b hi) (fun cs b=>hsel j oj cs b hoj) hy (H.2 j (ready_mono hj hji)).2
    refine qOp_mono (fun a' h3=>ih (listed.setIfInBounds j true) a' (inv.set hj hjn) ?_ (ready_mono hr (Ne.symm hji)) h3.1 ?_) h2
    ·intro k ok hk hki hunk hno
     refine hfree k ok hk hki ?_ hno
     by_cases hjk:j=k
     ·subst hjk;exact hjun
     ·rw [getD_set_ne true hjk] at hunk;exact hunk
    ·rw [Array.setIfInBounds_comm _ _ hji]
     exact h3.2
theorem headQ_lex {s n g:Nat} {Lq:Act→Prop} (hsel:Region.noSelect ops=true) (hs:sinkF md ops s n=true) (hc:Region.chainB md ops n=true) :
 ∀(l:List Oper) (k:Nat) (listed:Array Bool) (a:Act),(∀j,j<l.length→l[j]? = ops[k+j]?)→k+l.length=n→HInv md ops s n listed →
 Region.lexHead md ops g l.length k listed=true→wpQuiet P ops C Lq l a →
 headQ P md ops C n (fun listed' a'=>Region.seqB md ops g n listed'=true∧Lq a') l.length listed a:=by
 intro l
 induction l with
 | nil =>
   intro k listed a _ hk _ hB h
   obtain rfl:k=n:=by simpa using hk
   exact ⟨by simpa [Region.lexHead] using hB,h⟩
 | cons o l ih =>
   intro k listed a hl hk inv hB h
   have h0:ops[k]? = some o:=by simpa using (hl 0 (by simp)).symm
   simp only [List.length_cons] at hk hB
   simp only [Region.lexHead,Bool.and_eq_true] at hB
   have hr:k ∈ Region.ready md ops listed:=by simpa using hB.1.1
   have hq:qOp P ops C k (wpQuiet P ops C Lq l) a:=by unfold qOp;simp only [h0];exact h
   obtain ⟨v,hy,hK⟩:=yieldsIn_of_qOp h0 hq
   refine headQ_first h0 (Region.noSelect_spec hsel) hs hc (by omega) (fun listed' a' hL=>seqB_ready hL.1) l.length listed a inv (Region.free_spec h0 hB.1.2) hr hy ?_
   refine ih (k+1) _ _ (fun j hj=>?_) (by omega) (inv.set hr (by omega)) hB.2 hK
   have:=hl (j+1) (by simp;omega)
   simpa [Nat.add_assoc,Nat.add_comm 1 j] using this
def tailF (md:Region.Mode) (ops:Array Oper) (s n:Nat) (listed:Array Bool):Bool :=
 Region.noSelect ops&&decide (s≤n)&&decide (n<ops.size)&&sinkF md ops s n&&Region.chainB md ops n&&closedF md ops listed&&startF ops s listed&&Region.lexHead md ops (ops.size - n) (n - s) s listed
theorem start_inv {s n:Nat} {listed:Array Bool} (hsn:s≤n) (hn:n<ops.size) (hc:closedF md ops listed=true) (hst:startF ops s listed=true):HInv md ops s n listed:=by
 simp only [startF,Bool.and_eq_true,decide_eq_true_eq] at hst
 obtain ⟨hsz,hall⟩:=hst
 have at_:∀i,i<ops.size→listed.getD i false=decide (i<s):=fun i hi=>by
  have:=List.all_eq_true.1 hall i (List.mem_range.2 hi)
  simpa using this
 refine ⟨⟨hsz,fun j oj hj hl e he hb=>?_,fun t ht hts=>?_⟩,fun i hi=>?_⟩
 ·have hjl:j<ops.size:=(Array.getElem?_eq_some_iff.1 hj).1
  have h1:=List.all_eq_true.1 hc j (List.mem_range.2 hjl)
  rw [hl,hj] at h1
  simp only [Bool.not_true,Bool.false_or] at h1
  have h2:=Array.all_eq_true_iff_forall_mem.1 h1 e he
  rw [hb] at h2
  simpa using h2
 ·refine getD_in (by omega) ?_
  rw [at_ t hts]
  simp;omega
 ·have h1:=at_ i (by omega)
  have hi2:i<listed.size:=by omega
  simp [hi2,hi] at h1 ⊢
  exact h1
theorem any_quiet_tail {Q:Exit→Act→World→Prop} {a:Act} {w:World} {l:List Oper} {listed:Array Bool} {fuel:Nat} (s n:Nat) (C:World→Prop) (hfuel:fuel=l.length - s) (hB:tailF .any l.toArray s n listed=true) (hC:C w)
 (h:wpQuiet P l.toArray C (fun a'=>∀w',C w'→wpList P l.toArray Q (l.drop n) a' w') ((l.drop s).take (n - s)) a):wpAny P .any l.toArray Q fuel listed a w:=by
 simp only [tailF,Bool.and_eq_true,decide_eq_true_eq] at hB
 obtain ⟨⟨⟨⟨⟨⟨⟨hsel,hsn⟩,hn⟩,hs⟩,hc⟩,hcl⟩,hst⟩,hlex⟩:=hB
 have hn':n<l.length:=by simpa using hn
 have htl:((l.drop s).take (n - s)).length=n - s:=by simp;omega
 have hdl:(l.drop n).length=l.toArray.size - n:=by simp
 have H:=headQ_lex (md:=.any) (g:=l.toArray.size - n) hsel hs hc ((l.drop s).take (n - s)) s listed a (fun j hj=>by
  rw [htl] at hj
  simp [hj]) (by rw [htl];omega) (start_inv hsn hn hcl hst) (by rw [htl];exact hlex) h
 have H2:=headQ_any (Q':=Q) (g:=l.toArray.size - n) (fun listed a' w' hw' hL=>by
  have h3:=wpAny_of_seq (md:=.any) (Q':=Q) (l.drop n) n listed a' w' (fun j=>by simp [List.getElem?_drop]) (by rw [hdl];exact hL.1) (hL.2 w' hw')
  rwa [hdl] at h3) _ _ _ _ hC H
 have e:fuel=n - s+(l.toArray.size - n):=by rw [hfuel];simp;omega
 rw [htl] at H2
 rw [e]
 exact H2
theorem region_quiet_tail {id:Nat} {Q:Exit→Act→World→Prop} {a:Act} {w:World} {l:List Oper} (n:Nat) (C:World→Prop) (hm:P.follows .mixedOrders=true) (hB:tailF .any l.toArray 0 n (Array.replicate l.toArray.size false)=true) (hC:C w.drew)
 (h:wpQuiet P l.toArray C (fun a'=>∀w',C w'→wpList P l.toArray Q (l.drop n) a' w') (l.take n) a):(Code.region id l.toArray true).wp P Q a w :=
 wp_region_any hm (any_quiet_tail 0 n C (by simp) hB hC (by simpa using h))
theorem region_quiet_tail_one {id:Nat} {Q:Exit→Act→World→Prop} {a:Act} {w:World} {o:Oper} {l:List Oper} (n:Nat) (C:World→Prop) (v:Value) (hm:P.follows .mixedOrders=true) (hB:tailF .any (o::l).toArray 1 n ((Array.replicate (o::l).toArray.size false).setIfInBounds 0 true)=true)
 (hf:(Region.noSelect (o::l).toArray&&Region.free .any (o::l).toArray (Array.replicate (o::l).toArray.size false) 0&&(Region.ready .any (o::l).toArray (Array.replicate (o::l).toArray.size false)).contains 0)=true)
 (hQ:∀c a w,Q (.panic c) (a.put o.dst v) w→Q (.panic c) a w) (hy:Yields P (o::l).toArray o v a) (hC:C w.drew)
 (h:wpQuiet P (o::l).toArray C (fun a'=>∀w',C w'→wpList P (o::l).toArray Q ((o::l).drop n) a' w') (l.take (n - 1)) (a.put o.dst v)):(Code.region id (o::l).toArray true).wp P Q a w:=by
 simp only [Bool.and_eq_true] at hf
 refine wp_region_any hm ?_
 have e:(o::l).toArray.size=l.length+1:=by simp
 have H:=any_quiet_tail (P:=P) (Q:=Q) (a:=a.put o.dst v) (w:=w.drew) (fuel:=l.length) 1 n C (by simp) hB hC (by simpa using h)
 have H2:=wpAny_take (P:=P) (Q:=Q) (w:=w.drew) (i:=0) (oi:=o) (v:=v) (fuel:=l.length) (listed:=Array.replicate (o::l).toArray.size false) (a:=a) (by simp) hf.1.1 hf.1.2 hf.2 hQ hy H
 rw [←e] at H2
 exact H2
end
end
end Go.Proofs.YtkblmdakejmmhaaGreatDoor
