import Derived.Test.YtkblmdakejmmhaaGreatDoorG36
import Derived.Lib.LaidTab
import Derived.Deep.Matrix
namespace Go.Proofs.YtkblmdakejmmhaaGreatDoor
open Go Go.RowKit
section
set_option maxRecDepth 50000
set_option maxHeartbeats 4000000 in
theorem aseal_core (key nonce be t h r:List Int) (AB AT:Option Addr) (lb cb lt ct:Nat) (w:World) (hT:Tabs w) (hk:Hid (key.length=32)) (hn:Hid (nonce.length=12)) (hkb:HByt key) (hnb:HByt nonce) (HTB:HByt t) (PB:Hid (PLZ lb be)) (PT:Hid (t.length=lt)) (hlt:lt≤400) (hlb:lb≤1000) (hcb:lb≤cb) (HH:Hid (hideL t (strm key nonce 1 (4294967296 - 1))=h)) (PH:Hid (PLZ lt h)) (HR:Hid (atag key nonce be h=r)) (HRL:Hid (r.length=16)) (hB:Nums w .u8 AB be) (hA:Nums w .u8 AT t) :
 Calls Tryz.prog 14 #[.agg (ints .u8 key).toArray,.agg (ints .u8 nonce).toArray,.slice AB lb cb,.slice AT lt ct] w fun e w'=>∃A d,e=.returned (.tuple #[.slice A (lt+16) d,.int .i64 0])∧lt+16≤d∧Nums w' .u8 A (h++r)∧Below w.heap.size w w':=by
 obtain ⟨z33,s33⟩:=zero_of_info inf33
 have hK:=((Arr.made w .u8 key 22).alloc (.cells (ints .u8 nonce).toArray 40)).rw
 have hN:=(Arr.made (w.alloc (.cells (ints .u8 key).toArray 22)) .u8 nonce 40).rw
 have hW:=(below_new w (.cells (ints .u8 key).toArray 22)).alloc (by simp) (.cells (ints .u8 nonce).toArray 40)
 rw [World.size_alloc] at hN
 replace hT:=hT.next hW
 replace hB:=hB.below hW
 replace hA:=hA.below hW
 have i32:(Tryz.prog.info? 22).map (·.size)=some (ints .u8 key).length:=szV inf41 (il hk.out)
 have i12:(Tryz.prog.info? 40).map (·.size)=some (ints .u8 nonce).length:=szV infNo (il hn.out)
 have g1:(lt:Int)≤400:=by omega
 have g2:(lb:Int)≤1000:=by omega
 have r4:=hK.range
 have r5:=hN.range
 go_enter Tryz.func14,Tryz.ntmps14
 go_wp2_with (first
  | (with_reducible refine wpList_load_mid (op:=⟨some 22,.load 22 (.tmp 4),_,_,_,_⟩) rfl 22 (.tmp 4) rfl w.heap.size 0 rfl (ints .u8 key) _ r4 Tryz.underlying22 rfl i32 ?_)
  | (with_reducible refine wpList_load_mid (op:=⟨some 23,.load 40 (.tmp 5),_,_,_,_⟩) rfl 40 (.tmp 5) rfl (w.heap.size+1) 0 rfl (ints .u8 nonce) _ r5 Tryz.underlying40 rfl i12 ?_)
  | (go_at_call 28;clear r4 r5;generalize (w.alloc (.cells (ints .u8 key).toArray 22)).alloc (.cells (ints .u8 nonce).toArray 40)=w8 at *
     refine (hide_own key nonce t 1 lt ct AT _ hT hk hn hkb hnb HTB PT (by omega) (by decide) (by omega) hA).mono ?_;rintro e w1 ⟨AH,dh,rfl,hO,hb1,hdh⟩
     rw [HH.out] at hO
     replace hO:=hO.lower hW.size
     replace hK:=hK.next hb1;replace hN:=hN.next hb1;replace hB:=hB.below hb1;replace hT:=hT.next hb1;replace hW:=hW.trans (Below.mono hb1 hW.size)
     have q4:=hK.range
     have q5:=hN.range
     clear hb1 hA)
  | (with_reducible refine wpList_load_mid (op:=⟨some 28,.load 22 (.tmp 4),_,_,_,_⟩) rfl 22 (.tmp 4) rfl w.heap.size 0 rfl (ints .u8 key) _ q4 Tryz.underlying22 rfl i32 ?_)
  | (with_reducible refine wpList_load_mid (op:=⟨some 29,.load 40 (.tmp 5),_,_,_,_⟩) rfl 40 (.tmp 5) rfl (w.heap.size+1) 0 rfl (ints .u8 nonce) _ q5 Tryz.underlying40 rfl i12 ?_)
  | (go_at_call 29;clear q4 q5;refine (atag_any key nonce be h AB AH lb cb lt dh _ hT hk hn hkb hnb PB PH hcb hdh hB hO.nums).mono ?_;rintro e w2 ⟨rfl,hb2⟩
     rw [HR.out]
     replace hO:=hO.stay hb2
     have hb3:=below_new w2 (.cells (ints .u8 (zeros 16)).toArray 54)
     have h12:=Rw.new w2 (ints .u8 (zeros 16)) 54
     have R12:=h12.roomA (us:=ints .u8 r) ((il HRL.out).trans (il (zeros_len 16)).symm)
     have X12:=h12.storedA (us:=ints .u8 r) ((il HRL.out).trans (il (zeros_len 16)).symm)
     have hb4:=Below.setCells (below_new w2 (.cells (ints .u8 (zeros 16)).toArray 54)) (Nat.le_refl _) 0 (ints .u8 r).toArray.toList
     replace hO:=hO.stay hb4
     replace hW:=hW.trans (Below.mono (hb2.trans (Below.mono hb4 hb2.size)) hW.size)
     clear hb2 hb3 hb4 h12)
  | (with_reducible refine wpList_store_mid (op:=⟨none,.store 54 (.tmp 12) (.tmp 32),_,_,_,_⟩) rfl 54 (.tmp 12) (.tmp 32) rfl w2.heap.size 0 (ints .u8 r).toArray rfl rfl R12 (szA inf33 (il HRL.out)) (ints_all _ _) ?_
     generalize (w2.alloc (.cells (ints .u8 (zeros 16)).toArray 54)).setCells w2.heap.size 0 (ints .u8 r).toArray.toList=w3 at *
     generalize w2.heap.size=b12 at *
     clear R12)
  | (at_builtin;refine app_nums rfl (.tmp 33) (.tmp 34) 23 rfl w.heap.size 5 .u8 1 Tryz.underlying23 Tryz.info5 (by omega) AH lt dh h rfl hO (some ⟨b12,0,none⟩) 16 r (by rw [HRL.out];rfl) X12.nums (by rw [HRL.out,PH.out.1];omega) hW.size ?_;intro A2 n2 d2 w4 hO2 hG))
 have hW4:Below w.heap.size w w4:=hW.trans (hG.below hW.size fun g e=>(hO.lt g e).1)
 obtain ⟨A3,m3,d3,e3,hm3,hmd3⟩:=slice_of_row2 hO2
 injection e3 with e4 e5 e6
 subst e4 e5 e6
 rw [List.length_append,PH.out.1,HRL.out] at hm3
 subst hm3
 clear hO hG hW
 go_ret2
 exact ⟨A2,d2,rfl,hmd3,hO2.nums,hW4⟩
theorem aseal_any (key nonce be t:List Int) (AB AT:Option Addr) (lb cb lt ct:Nat) (w:World) (hT:Tabs w) (hk:Hid (key.length=32)) (hn:Hid (nonce.length=12)) (hkb:HByt key) (hnb:HByt nonce) (HTB:HByt t) (PB:Hid (PLZ lb be)) (PT:Hid (t.length=lt)) (hlt:lt≤400) (hcb:lb≤cb) (hB:Nums w .u8 AB be) (hA:Nums w .u8 AT t) :
 Calls Tryz.prog 14 #[.agg (ints .u8 key).toArray,.agg (ints .u8 nonce).toArray,.slice AB lb cb,.slice AT lt ct] w fun e w'=>∃A d,e=.returned (.tuple #[.slice A (lt+16) d,.int .i64 0])∧lt+16≤d∧Nums w' .u8 A (sealL key nonce be t)∧Below w.heap.size w w' :=
 aseal_core key nonce be t (hidT key nonce t) (atag key nonce be (hidT key nonce t)) AB AT lb cb lt ct w hT hk hn hkb hnb HTB PB PT hlt PB.out.2.1 hcb (hid rfl) (hid ⟨by rw [hidT_len hk.out hn.out (by rw [PT.out];omega),PT.out],by omega,hidT_byt _ _ HTB⟩) (hid rfl) (hid (atag_len _ _ _ _)) hB hA
end
section
set_option maxRecDepth 50000
def frcB {α:Type} (a:Nat) (k:Nat→α):α:=Nat.rec (k 0) (fun m _=>k (m+1)) a
theorem frcB_eq {α:Type} (a:Nat) (k:Nat→α):frcB a k=k a:=by cases a <;> rfl
def stpB (p u:Nat) (st:Bool) (a b c d:Nat) (k:Nat→Nat→Nat→Nat→Bool):Bool :=
 frcB (cond st c a) fun x=>frcB (cond st d b) fun z =>
 frcB ((x+z)%p) fun s=>frcB ((x+p - z)%p) fun t =>
 frcB (s*s%p) fun ss=>frcB (t*t%p) fun tt =>
 frcB ((ss+p - tt)%p) fun e=>frcB (ss*tt%p) fun dx =>
 frcB (e*((ss+121665*e%p)%p)%p) fun dz =>
 frcB ((c+p - d)%p*((a+b)%p)%p) fun U=>frcB ((c+d)%p*((a+p - b)%p)%p) fun V =>
 frcB ((U+V)%p*((U+V)%p)%p) fun sx=>frcB (u*((U+p - V)%p*((U+p - V)%p)%p)%p) fun sz =>
 cond st (k sx sz dx dz) (k dx dz sx sz)
theorem stpB_eq (u:Nat) (st:Bool) (S:L4) (k:Nat→Nat→Nat→Nat→Bool):stpB NT.PN u st S.a S.b S.c S.d k=k (lstep u st S).a (lstep u st S).b (lstep u st S).c (lstep u st S).d:=by
 cases st <;> simp only [stpB,frcB_eq,cond_true,cond_false,lstep,dX,dZ,dE,sX,sZ,sU,sV,nM,nA,nS]
def ladB (p u:Nat):List Bool→Nat→Nat→Nat→Nat→(Nat→Nat→Nat→Nat→Bool)→Bool
 | [],a,b,c,d,K=>K a b c d
 | st::l,a,b,c,d,K=>stpB p u st a b c d fun a b c d=>ladB p u l a b c d K
theorem ladB_eq (u:Nat) (K:Nat→Nat→Nat→Nat→Bool):∀(l:List Bool) (S:L4),ladB NT.PN u l S.a S.b S.c S.d K=K (l.foldl (fun S st=>lstep u st S) S).a (l.foldl (fun S st=>lstep u st S) S).b (l.foldl (fun S st=>lstep u st S) S).c (l.foldl (fun S st=>lstep u st S) S).d
 | [],_=>rfl
 | st::l,S=>by
   show stpB NT.PN u st S.a S.b S.c S.d _=_
   rw [stpB_eq,ladB_eq u K l (lstep u st S)]
   rfl
theorem ladN_fold (u:Nat) (b:List Int):∀k,ladN u b k=((List.range k).map fun j=>bitB b (254 - j)).foldl (fun S st=>lstep u st S) ⟨1,0,u,1⟩
 | 0=>rfl
 | k+1=>by
   rw [List.range_succ,List.map_append,List.foldl_append,←ladN_fold u b k]
   rfl
def oneB:List Int:=1::zeros 31
def twoB:List Int:=2::zeros 31
def bitsB:List Bool:=true::List.replicate 254 false
theorem clampB:clampL twoB=clampL oneB:=by decide +kernel
theorem bits_one:((List.range 255).map fun j=>bitB (clampL oneB) (254 - j))=bitsB:=by decide +kernel
theorem mulB {u A B i v:Nat} (h:ladB NT.PN u bitsB 1 0 u 1 (fun a b _ _=>Nat.beq a A&&Nat.beq b B)=true) (hi:B^(NT.PN - 2)%NT.PN=i) (hv:A*i%NT.PN=v):mulN oneB u=v:=by
 have e:=ladB_eq u (fun a b _ _=>Nat.beq a A&&Nat.beq b B) bitsB ⟨1,0,u,1⟩
 have e2:=ladN_fold u (clampL oneB) 255
 rw [bits_one] at e2
 rw [←e2] at e
 have h2:=e.symm.trans h
 have h3:=Bool.and_eq_true_iff.1 h2
 have ha:(ladN u (clampL oneB) 255).a=A:=Nat.eq_of_beq_eq_true h3.1
 have hb:(ladN u (clampL oneB) 255).b=B:=Nat.eq_of_beq_eq_true h3.2
 show outN (ladN u (clampL oneB) 255)=v
 unfold outN
 rw [ha,hb,hi,hv]
def v1B:Nat:=52573937849532372069814888178136277301931757964231753054399601207743438775599
def v2B:Nat:=47371584340190434397458396784519032097355506450803964851670834165077996928659
theorem mul_one9:mulN oneB 9=v1B:=mulB (A:=53699084970092229620102095424564848774812783684786248634290088506478568078703) (B:=20097946894889007705884408490665082385984383478950821997587487100163618290637) (i:=4690349756041861591026396950088132225180594110443955054213429870794107548986) (by kernel_rfl) (NT.pow_is 255 (by decide) (by kernel_rfl)) (by decide +kernel)
theorem mul_two9:mulN twoB 9=v1B:=by
 rw [←mul_one9]
 unfold mulN
 rw [clampB]
theorem mul_one_v:mulN oneB v1B=v2B:=mulB (A:=56899195954510505000973056179290705472472639321317522430150156907013189015683) (B:=53650602727256211160930848678485570231621301272366559501404395209450684873940) (i:=6297311692082277206339866975785280257327913378960705927482330000066026313899) (by kernel_rfl) (NT.pow_is 255 (by decide) (by kernel_rfl)) (by decide +kernel)
def noughtB (s p:List Int):Bool:=decide (shL s p=rbytes 0)
def wrapL (sd pu t:List Int):List Int:=if noughtB sd pu then [] else pubL sd++sealL (boxK (shL sd pu) (pubL sd) pu) (zeros 12) [] t
theorem pub_len (s:List Int):(pubL s).length=32:=rbytes_length _
theorem sh_len (s p:List Int):(shL s p).length=32:=rbytes_length _
theorem boxK_len (x s r:List Int):(boxK x s r).length=32:=keyD_len _ _ _
theorem pub_byt (s:List Int):HByt (pubL s):=rbytes_byt _
theorem sh_byt (s p:List Int):HByt (shL s p):=rbytes_byt _
theorem boxK_byt (x s r:List Int):HByt (boxK x s r):=keyD_byt _ _ _
theorem z12_byt:HByt (zeros 12):=fun x hx=>by rw [List.eq_of_mem_replicate hx];omega
theorem pl_nil:PLZ 0 []:=⟨rfl,by decide,fun _ h=>by cases h⟩
theorem agree_zero {mi th:List Int} (se re:List Int) (h1:mi.length=32) (b1:HByt mi) (h2:th.length=32) (b2:HByt th) (h3:se.length=32) (h4:re.length=32) (h:noughtB mi th=true) (w:World) (hT:TabsH w) :
 Calls Tryz.prog 13 #[.agg (ints .u8 mi).toArray,.agg (ints .u8 th).toArray,.agg (ints .u8 se).toArray,.agg (ints .u8 re).toArray] w fun e w'=>e=.returned (.tuple #[.agg (ints .u8 (hzeros 32)).toArray,.int .i64 21])∧Below w.heap.size w w':=by
 have hs:=c_shared h1 b1 h2 b2 true h
 exact agree_no mi th se re (shL mi th) w hT (hid h1) (hid h2) (hid h3) (hid h4) (hid (sh_len _ _)) (hid hs)
theorem agree_key {mi th se re:List Int} (h1:mi.length=32) (b1:HByt mi) (h2:th.length=32) (b2:HByt th) (h3:se.length=32) (b3:HByt se) (h4:re.length=32) (b4:HByt re) (h:noughtB mi th=false) (w:World) (hT:TabsH w) :
 Calls Tryz.prog 13 #[.agg (ints .u8 mi).toArray,.agg (ints .u8 th).toArray,.agg (ints .u8 se).toArray,.agg (ints .u8 re).toArray] w fun e w'=>e=.returned (.tuple #[.agg (ints .u8 (boxK (shL mi th) se re)).toArray,.int .i64 0])∧Below w.heap.size w w':=by
 have hs:=c_shared h1 b1 h2 b2 false h
 exact agree_yes (boxK (shL mi th) se re) mi th se re (shL mi th) w hT (hid h1) (hid h2) (hid h3) (hid h4) (hid (sh_len _ _)) b3 b4 (sh_byt _ _) (hid rfl) (hid (boxK_len _ _ _)) (hid hs)
theorem wrap_some (sd pu t:List Int) (AT:Option Addr) (lt ct:Nat) (w:World) (hT:TabsH w) (hC:Tabs w) (h1:sd.length=32) (b1:HByt sd) (h2:pu.length=32) (b2:HByt pu) (hl:t.length=lt) (hlt:lt≤400) (bt:HByt t) (hA:Nums w .u8 AT t) (h:noughtB sd pu=false) :
 Calls Tryz.prog 6 #[.agg (ints .u8 sd).toArray,.agg (ints .u8 pu).toArray,.slice AT lt ct] w fun e w'=>∃v,e=.returned v∧IsTup (32+(lt+16)) (wrapL sd pu t) v w'∧Below w.heap.size w w':=by
 have hw:wrapL sd pu t=pubL sd++sealL (boxK (shL sd pu) (pubL sd) pu) (zeros 12) [] t:=by unfold wrapL;rw [h];rfl
 rw [hw]
 have hk:=boxK_len (shL sd pu) (pubL sd) pu
 have hkb:=boxK_byt (shL sd pu) (pubL sd) pu
 have hag:=fun w hT=>agree_key h1 b1 h2 b2 (pub_len sd) (pub_byt sd) h2 b2 h w hT
 clear hw
 generalize boxK (shL sd pu) (pubL sd) pu=K at *
 refine (wrap_yes (sealL K (zeros 12) [] t) sd pu (pubL sd) K AT lt ct t w hT hC (hid h1) (hid h2) (hid (pub_len sd)) (hid hk) hlt hA (hid (c_public h1 b1)) (pub_byt sd) (hid ?_) (sealL_byt bt) (hid hag) (hid fun w hC hA=>?_)).mono fun e w' ⟨A,d,he,hd,hN,hb⟩=>⟨_,he,⟨A,d,rfl,hd,hN⟩,hb⟩
 ·rw [sealL_len hk (zeros_len 12) (by omega),hl]
 ·exact (aseal_any K (zeros 12) [] t none AT 0 0 lt ct w hC (hid hk) (hid (zeros_len 12)) hkb z12_byt bt (hid pl_nil) (hid hl) hlt (Nat.le_refl _) Nums.nil hA).mono fun e w' ⟨A,d,he,hd,hN,hb⟩=>⟨_,he,⟨A,d,rfl,hd,hN⟩,hb⟩
def sizeB (n:Int):Int:=if 0≤n∧n≤1048528 then n+48 else 0
theorem size_any (n:Int) (w:World):Calls Tryz.prog 9 #[.int .i64 n] w fun e w'=>e=.returned (.int .i64 (sizeB n))∧Below w.heap.size w w':=by
 have hW:=Below.refl w.heap.size w
 unfold sizeB
 by_cases h0:n<0
 ·rw [if_neg (by omega)]
  have e0:decide (n<0)=true:=decide_eq_true h0
  clear h0
  go_enter Tryz.func9,Tryz.ntmps9
  go_wp2
  go_ret
  exact ⟨rfl,hW⟩
 ·have e0:decide (n<0)=false:=decide_eq_false h0
  by_cases h1:n≤1048528
  ·rw [if_pos ⟨by omega,h1⟩]
   have e1:decide (1048528<n)=false:=decide_eq_false (by omega)
   have ew:IntKind.i64.wrap (n+48)=n+48:=IntWalk.i64_in _ (by omega)
   clear h0 h1
   go_enter Tryz.func9,Tryz.ntmps9
   go_wp2
   go_ret
   exact ⟨rfl,hW⟩
  ·rw [if_neg (by omega)]
   have e1:decide (1048528<n)=true:=decide_eq_true (by omega)
   clear h0 h1
   go_enter Tryz.func9,Tryz.ntmps9
   go_wp2
   go_ret
   exact ⟨rfl,hW⟩
theorem base_nine:uOf baseL=9:=by decide +kernel
theorem v1_back:uOf (rbytes v1B)=v1B:=by decide +kernel
theorem v2_some:rbytes v2B≠rbytes 0:=by decide +kernel
theorem ex_some:noughtB oneB (pubL twoB)=false:=by
 refine decide_eq_false ?_
 unfold shL pubL
 rw [base_nine,mul_two9,v1_back,mul_one_v]
 exact v2_some
theorem oneB_len:oneB.length=32:=by decide
theorem twoB_len:twoB.length=32:=by decide
theorem oneB_byt:HByt oneB:=by unfold HByt;decide
theorem twoB_byt:HByt twoB:=by unfold HByt;decide
theorem builtB1:Tryz.prog.built 22 [(0,.int .u8 1)]=some (ints .u8 oneB).toArray:=by kernel_rfl
theorem builtB2:Tryz.prog.built 22 [(0,.int .u8 2)]=some (ints .u8 twoB).toArray:=by kernel_rfl
theorem makeB (w:World):(Instr.makeSlice 23 (.int .i64 5) (.int .i64 5)).run Tryz.prog w=.ok (.slice (some ⟨w.heap.size,0,none⟩) 5 5) (w.alloc (.cells (ints .u8 (zeros 5)).toArray 5)):=by
 have hi:=Tryz.info5
 cases hc:Tryz.prog.info? 5 with
 | none=>rw [hc] at hi;simp at hi
 | some i =>
   rw [hc] at hi
   simp only [Option.map_some,Option.some.injEq,Prod.mk.injEq] at hi
   have h2:=run_make (P:=Tryz.prog) w 23 5 i (.int .u8 0) (by kernel_rfl) hc hi.1 .i64 .i64 5 5 (by omega) (by omega) (by rw [hi.2.2];omega) (by omega)
   rw [h2,hi.2.1]
   simp only [Nat.mul_one]
   congr 3
   apply Array.toList_inj.1
   show (madeCells #[.int .u8 0] 5).toList=_
   rw [toList_madeCells_one]
   rfl
theorem cxWraB (vs:Array Value) (w:World):(callFunc 6 vs).run Tryz.prog w=.ok (.enter 6 vs) w:=by go_simp
theorem cxSizB (vs:Array Value) (w:World):(callFunc 9 vs).run Tryz.prog w=.ok (.enter 9 vs) w:=by go_simp
section
variable {ops:Array Oper} {md:Region.Mode} {W:World} {a0:Act} {n:Nat} {al:Nat→Bool} {S:Nat→Value→World→Prop} {Q:Exit→Act→World→Prop} {i:Nat} {o:Oper}
theorem step_makeB (hal:al i=false) (hg:GuardOn ops md n S i o) (ho:o.op=.makeSlice 23 (.const (.int .i64 5)) (.const (.int .i64 5))) (hS:S i=IsPart 5 (zeros 5)):StepOk Tryz.prog ops md W a0 n al S Q i o:=fun a w _ _ hd=>by
 rw [if_pos (hg.wanted hd)]
 have hm:=makeB w
 have hr:(execOp a.eval o).run Tryz.prog w=.ok (.value (.slice (some ⟨w.heap.size,0,none⟩) 5 5)) (w.alloc (.cells (ints .u8 (zeros 5)).toArray 5)):=by
  unfold execOp
  simp only [ho,Act.eval,Sem.run_bind,hm,Result.andThen_ok,Sem.run_pure]
 unfold Oper.wp
 rw [hr,Oper.upon_value]
 refine ⟨_,rfl,?_,below_new w _,fun e=>by rw [hal] at e;cases e⟩
 rw [hS]
 exact ⟨some ⟨w.heap.size,0,none⟩,5,rfl,Nat.le_refl _,(Arr.made w .u8 (zeros 5) 5).nums⟩
theorem step_wrapB (hal:al i=false) (hg:GuardOn ops md n S i o) {x y z:Operand} {ts:Array TypeId} {sd pu t r:List Int} {lt m:Nat} (ho:o.op=.call { callee:=.value (.func 6),args:=#[x,y,z],argTypes:=ts })
 (hW:∀(w:World) (A:Option Addr) (c:Nat),Cl W w→lt≤c→Nums w .u8 A t→Calls Tryz.prog 6 #[.agg (ints .u8 sd).toArray,.agg (ints .u8 pu).toArray,.slice A lt c] w fun e w'=>∃v,e=.returned v∧IsTup m r v w'∧Below w.heap.size w w') (hS:S i=IsTup m r)
 (hx:Knows ops md W a0 n S i x (.agg (ints .u8 sd).toArray)) (hy:Knows ops md W a0 n S i y (.agg (ints .u8 pu).toArray)) (hz:KnowsW ops md W a0 n S i z (IsPart lt t)):StepOk Tryz.prog ops md W a0 n al S Q i o :=
 step_callR hal hg ho cxWraB hS fun a w hw hf hd=>by
  obtain ⟨A,c,h1,h2,h3⟩:=hz a w hw hf hd
  refine ⟨_,?_,hW w A c hw h2 h3⟩
  have e:(#[x,y,z]:Array Operand).map a.eval = #[a.eval x,a.eval y,a.eval z]:=by simp
  rw [e,h1,hx a w hw hf hd,hy a w hw hf hd]
end
end
section
set_option maxRecDepth 50000
set_option maxHeartbeats 4000000 in
theorem awake_core (o t p z:List Int) (w:World) (hT:TabsH w) (hC:Tabs w) (HO:Hid (o.length=32)) (HT2:Hid (t.length=32)) (HPL:Hid (p.length=32)) (HB1:Hid (Tryz.prog.built 22 [(0,.int .u8 1)]=some (ints .u8 o).toArray)) (HB2:Hid (Tryz.prog.built 22 [(0,.int .u8 2)]=some (ints .u8 t).toArray))
 (HP:Hid (CallsTo 12 #[.agg (ints .u8 t).toArray] (.agg (ints .u8 p).toArray))) (HSZ:Hid (∀w,Calls Tryz.prog 9 #[.int .i64 5] w fun e w'=>e=.returned (.int .i64 53)∧Below w.heap.size w w'))
 (HW:Hid (∀(w:World) (A:Option Addr) (c:Nat),TabsH w→Tabs w→5≤c→Nums w .u8 A (zeros 5)→Calls Tryz.prog 6 #[.agg (ints .u8 o).toArray,.agg (ints .u8 p).toArray,.slice A 5 c] w fun e w'=>∃v,e=.returned v∧IsTup 53 z v w'∧Below w.heap.size w w')) :
 Calls Tryz.prog 5 #[] w fun e w'=>e=.returned (.bool true)∧Below w.heap.size w w':=by
 have hW:=Below.refl w.heap.size w
 go_enter Tryz.func5,Tryz.ntmps5
 go_upto_region 1 with (fail)
 have s0:=hW.size
 refine rSpec 9 22 (fun _=>false) [Is (.agg (ints .u8 o).toArray),Is (.agg (ints .u8 t).toArray),Is (.agg (ints .u8 p).toArray),IsPart 5 (zeros 5),IsTup 53 z,IsTup 53 z,IsPart 53 z,Is (.int .i64 0),IsPart 53 z] [4,5,6,7,8,3,9,10,1] (gC (gC (gC (grows_cons (IsPart.grows _ _) (grows_cons (IsTup.grows _ _) (grows_cons (IsTup.grows _ _) (grows_cons (IsPart.grows _ _) (gC (grows_cons (IsPart.grows _ _) grows_nil)))))))))
  ⟨step_buildP rfl (.inl rfl) rfl HB1.out rfl (parts1 (knows_const _)),
   step_buildP rfl (.inl rfl) rfl HB2.out rfl (parts1 (knows_const _)),
   step_to rfl (.inl rfl) rfl cxPubB HP.out rfl (one_arg (kI 1 5 rfl rfl)),
   step_makeB rfl (.inl rfl) rfl rfl,
   step_wrapB rfl (.inl rfl) rfl (fun ww A c hw h5 hN=>HW.out ww A c (hT.next hw) (hC.next hw) h5 hN) rfl (kI 0 4 rfl rfl) (kI 2 6 rfl rfl) (knowsW_in 3 7 (by decide) (by kernel_rfl) rfl rfl),
   step_copyW rfl (.inl rfl) 4 8 (.inl rfl) rfl (by decide) (by kernel_rfl) rfl rfl,
   tup_fst rfl (.inl rfl) rfl rfl (knowsW_in 5 3 (by decide) (by kernel_rfl) rfl rfl),
   tup_snd rfl (.inl rfl) rfl rfl (knowsW_in 5 3 (by decide) (by kernel_rfl) rfl rfl),
   step_copyW rfl (.inl rfl) 6 9 (.inr rfl) rfl (by decide) (by kernel_rfl) rfl rfl,trivial⟩ ?_
 intro val w1 hw hS hap hla
 have e4:=eVal hS 0 4 rfl rfl
 have e5:=eVal hS 1 5 rfl rfl
 have e6:=eVal hS 2 6 rfl rfl
 have e10:=eVal hS 7 10 rfl rfl
 obtain ⟨B1,c1,e1,h1,N1⟩:=hS 8 1 (by decide) rfl
 simp only [pA,pB,pC,pD,pE,Act.put,pG,pH,pI,e4,e5,e6,e10,e1]
 generalize val 7=g7
 generalize val 8=g8
 generalize val 3=g3
 generalize val 9=g9
 clear hS hap hla e4 e5 e6 e10 e1
 replace hT:=hT.next hw
 replace hC:=hC.next hw
 replace hW:=bT hW hw
 clear hw
 go_upto_region 2 with (fail)
 have s1:=hW.size
 refine rSeq 12 22 (fun _=>false) [Is (.int .i64 0),Is (.bool true),Is (.bool true),Is (.slice B1 53 c1),Is (.int .i64 53),Is (.bool true),Is (.bool true),Is (.bool true),Is (.int .i64 53),Is (.bool true),Is (.bool true),Is (.bool true)] [11,12,13,14,15,16,17,18,19,20,21,0] (gC (gC (gC (gC (gC (gC (gC (gC (gC (gC (gC (gC grows_nil))))))))))))
  ⟨step_mvP rfl (.inl rfl) rfl rfl (kO 2 rfl),
   step_eqC rfl (.inl rfl) rfl Tryz.underlying25 rfl (by decide) (kI 0 11 rfl rfl),
   step_mvP rfl (.inl rfl) rfl rfl (kI 1 12 rfl rfl),
   step_mvP rfl (gN 2 true 13 rfl rfl rfl) rfl rfl (kO 1 rfl),
   step_len rfl (gN 2 true 13 rfl rfl rfl) uaVs rfl rfl (kI 3 14 rfl rfl),
   step_eqC rfl (gN 2 true 13 rfl rfl rfl) rfl Tryz.underlying3 rfl (by decide) (kI 4 15 rfl rfl),
   step_pick rfl (.inl rfl) (b:=true) rfl rfl (kI 2 13 rfl rfl) (kI 5 16 rfl rfl),
   step_mvP rfl (.inl rfl) rfl rfl (kI 6 17 rfl rfl),
   step_cw rfl (gN 7 true 18 rfl rfl rfl) rfl cxSizB rfl (fun aa ww hw hf hd=>⟨_,(one_arg (knows_const _)) aa ww hw hf hd,HSZ.out ww⟩),
   step_eqC rfl (gN 7 true 18 rfl rfl rfl) rfl Tryz.underlying3 rfl (by decide) (kI 8 19 rfl rfl),
   step_pick rfl (.inl rfl) (b:=true) rfl rfl (kI 7 18 rfl rfl) (kI 9 20 rfl rfl),
   step_asgP rfl (.inl rfl) rfl rfl (kI 10 21 rfl rfl),trivial⟩ ?_
 intro val w2 hw hS hap hla
 simp only [pA,pB,pC,pD,pE,Act.put,pG,pH,pI,eVal hS 0 11 rfl rfl,eVal hS 1 12 rfl rfl,eVal hS 2 13 rfl rfl,eVal hS 3 14 rfl rfl,eVal hS 4 15 rfl rfl,eVal hS 5 16 rfl rfl,eVal hS 6 17 rfl rfl,eVal hS 7 18 rfl rfl,eVal hS 8 19 rfl rfl,eVal hS 9 20 rfl rfl,eVal hS 10 21 rfl rfl,eVal hS 11 0 rfl rfl]
 clear hS hap hla
 replace hT:=hT.next hw
 replace hC:=hC.next hw
 replace N1:=N1.below hw
 replace hW:=bT hW hw
 clear hw
 go_wp2_with (fail)
 go_ret
 exact ⟨rfl,hW⟩
theorem awake_any (w:World) (hT:TabsH w) (hC:Tabs w):Calls Tryz.prog 5 #[] w fun e w'=>e=.returned (.bool true)∧Below w.heap.size w w':=by
 have hs:=ex_some
 have hp:=c_public twoB_len twoB_byt
 have hl:=pub_len twoB
 have hb:=pub_byt twoB
 have hp2:CallsTo 12 #[.agg (ints .u8 twoB).toArray] (.agg (ints .u8 (pubL twoB)).toArray):=hp
 generalize pubL twoB=p at *
 exact awake_core oneB twoB p (wrapL oneB p (zeros 5)) w hT hC (hid oneB_len) (hid twoB_len) (hid hl) (hid builtB1) (hid builtB2) (hid hp2) (hid fun w=>size_any 5 w) (hid fun w A c hT hC _ hN=>wrap_some oneB p (zeros 5) A 5 c w hT hC oneB_len oneB_byt hl hb (zeros_len 5) (by decide) (fun x hx=>by rw [List.eq_of_mem_replicate hx];omega) hN hs)
end
section
set_option maxRecDepth 50000
open Go.RowKit Go.ChangeShapes Go.WideShapes
theorem fours {α:Type} (f:Nat→List α):∀(m:Nat) (l:List α),l.length=4*m→(∀i,i<m→(l.drop (i*4)).take 4=f i)→l=(List.range m).flatMap f
 | 0,l,h,_=>by simpa using h
 | m+1,l,h,hf=>by
   have h1:=fours (fun i=>f (i+1)) m (l.drop 4) (by rw [List.length_drop];omega) (fun i hi=>by
    have:=hf (i+1) (by omega)
    rw [List.drop_drop]
    rw [show 4+i*4=(i+1)*4 by omega]
    exact this)
   have h0:=hf 0 (by omega)
   rw [Nat.zero_mul,List.drop_zero] at h0
   rw [List.range_succ_eq_map,List.flatMap_cons,←h0,List.flatMap_map]
   have e:l=l.take 4++l.drop 4:=(List.take_append_drop 4 l).symm
   rw [h1] at e
   exact e
theorem cells_of_tab2 {H:Type} {enc:TypeId × Value→H} {P:Program} {w:World} {base:Nat} {sp:Nat→Bool} {held:Bool} {fuel:Nat} {t u e m:TypeId} {cs:List Value} {k:IntKind} {rows:List (List Int)} {p:List MemPlace}
 (ht:P.underlying t=some (.array m u)) (hu:P.underlying u=some (.array 4 e)) (he:P.underlying e=some (.int k)) (hce:P.cellsOf e=1) (hcu:P.cellsOf u=4) (hct:P.cellsOf t=4*m)
 (h:DataW.trod enc P w base sp held fuel t cs=some (.agg (rows.map (Lib.tabData k)),p)):cs=(List.range m).flatMap fun i=>(rows.getD i []).map (Value.int k):=by
 obtain ⟨xs,n,rfl,hx,hl,hn,hall⟩:=DataW.trod_array ht h
 rw [hct] at hl
 injection hx with hx1 hx2
 injection hx1 with hx1
 refine fours _ m cs hl fun i hi=>?_
 have h1:=hall i hi
 rw [hcu] at h1
 have h2:xs[i]? = some xs[i]:=by simp
 rw [h2] at h1
 have h3:(xs[i]).1=Lib.tabData k (rows.getD i []):=by
  have e3:=congrArg (·[i]?) hx1
  simp only [List.getElem?_map,h2,Option.map_some] at e3
  cases hr:rows[i]? with
  | none=>rw [hr] at e3;simp at e3
  | some r =>
    rw [hr] at e3
    simp only [Option.map_some,Option.some.injEq] at e3
    rw [List.getD_eq_getElem?_getD,hr]
    exact e3.symm
 have h4:xs[i]=(Lib.tabData k (rows.getD i []),(xs[i]).2):=by rw [←h3]
 rw [h4] at h1
 exact Lib.cells_of_tab hu he hce hcu h1
def QROWS:List (List Int):=[[0,4,8,12],[1,5,9,13],[2,6,10,14],[3,7,11,15],[0,5,10,15],[1,6,11,12],[2,7,8,13],[3,4,9,14]]
theorem gQ:Tryz.prog.globalNamed "bastille/chacha.quarters" = some 1:=by kernel_rfl
theorem gQType:(Tryz.prog.globals[1]?).map (·.type)=some 147:=by kernel_rfl
theorem underQ8:Tryz.prog.underlying 147=some (.array 8 146):=by kernel_rfl
theorem underQ4:Tryz.prog.underlying 146=some (.array 4 3):=by kernel_rfl
theorem underQi:Tryz.prog.underlying 3=some (.int .i64):=by kernel_rfl
theorem cellsQ8:Tryz.prog.cellsOf 147=4*8:=by kernel_rfl
theorem cellsQ4:Tryz.prog.cellsOf 146=4:=by kernel_rfl
theorem cellsQi:Tryz.prog.cellsOf 3=1:=by kernel_rfl
theorem gFirst:Tryz.prog.globalNamed "bastille/sha.first" = some 0:=by kernel_rfl
theorem gKinds:Tryz.prog.globalNamed "bastille/sha.kinds" = some 2:=by kernel_rfl
theorem gFirstType:(Tryz.prog.globals[0]?).map (·.type)=some 135:=by kernel_rfl
theorem gKindsType:(Tryz.prog.globals[2]?).map (·.type)=some 165:=by kernel_rfl
theorem cellsFirst:Tryz.prog.cellsOf 135=8:=by kernel_rfl
theorem cellsKinds:Tryz.prog.cellsOf 165=80:=by kernel_rfl
theorem cellsWord:Tryz.prog.cellsOf 134=1:=by kernel_rfl
def tablesB:List (String × DataW Unit):=[("bastille/sha.first",Lib.tabData .u64 FIRST),("bastille/sha.kinds",Lib.tabData .u64 KINDS),("bastille/chacha.quarters",.agg (QROWS.map (Lib.tabData .i64)))]
theorem tabs_of {W:World} (h:laidMet Tryz.prog tablesB W):TabsH W∧Tabs W:=by
 have hw:Lib.TabIs Tryz.prog W "bastille/sha.first" .u64 FIRST:=Lib.tabIs_of_head gFirst gFirstType Tryz.underlying135 Tryz.underlying134 cellsWord cellsFirst h
 have hm:Lib.TabIs Tryz.prog W "bastille/sha.kinds" .u64 KINDS:=by
  obtain ⟨ps,⟨_,_,_,_,_,_,_,_,_,_,⟨g',t',cs,fuel,p,q,hg',ht',hvar,hd,_,_⟩,_⟩,_⟩:=h
  obtain rfl:=Option.some.inj (gKinds.symm.trans hg')
  obtain rfl:=Option.some.inj (gKindsType.symm.trans ht')
  unfold Lib.TabIs
  rw [hvar,←Lib.cells_of_tab Tryz.underlying165 Tryz.underlying134 cellsWord cellsKinds hd]
 have hq:Lib.TabIs Tryz.prog W "bastille/chacha.quarters" .i64 QT:=by
  obtain ⟨ps,⟨_,_,_,_,_,_,_,_,_,_,⟨_,_,_,_,_,_,_,_,_,_,⟨g',t',cs,fuel,p,q,hg',ht',hvar,hd,_,_⟩,_⟩,_⟩,_⟩:=h
  obtain rfl:=Option.some.inj (gQ.symm.trans hg')
  obtain rfl:=Option.some.inj (gQType.symm.trans ht')
  unfold Lib.TabIs
  have e:=cells_of_tab2 underQ8 underQ4 underQi cellsQi cellsQ4 cellsQ8 hd
  rw [hvar]
  congr 1
  apply Array.toList_inj.1
  rw [e]
  kernel_rfl
 refine ⟨⟨⟨?_,?_⟩,fun i x hi=>?_,fun i x hi=>?_⟩,World.block_lt_of_cell? _ _ (hq.cell gQ 0 (by decide)),fun i x hi=>?_⟩
 ·exact World.block_lt_of_cell? _ _ (hm.cell gKinds 0 (by decide))
 ·exact World.block_lt_of_cell? _ _ (hw.cell gFirst 0 (by decide))
 ·have hl:=(List.getElem?_eq_some_iff.1 hi).1
  have:=hm.cell gKinds i hl
  rw [this]
  simp [List.getD,hi]
 ·have hl:=(List.getElem?_eq_some_iff.1 hi).1
  have:=hw.cell gFirst i hl
  rw [this]
  simp [List.getD,hi]
 ·have hl:=(List.getElem?_eq_some_iff.1 hi).1
  rw [ints_length] at hl
  have:=hq.cell gQ i hl
  rw [Nat.zero_add,this,←hi]
  simp [ints,List.getD,hl]
theorem tabs_unwraps {W:World} (h:laidMetH Tryz.prog Rows.boxUnwrapsRow.laid W):TabsH W∧Tabs W:=tabs_of h
end
section
set_option maxRecDepth 50000
def IsTupE (m:Nat) (E:Int) (l:List Int):Value→World→Prop:=fun v w=>∃B d,v=.tuple #[.slice B m d,.int .i64 E]∧Nums w .u8 B l
theorem IsTupE.grows (m:Nat) (E:Int) (l:List Int):Grows (IsTupE m E l):=fun _ _ _ ⟨B,d,h1,h3⟩ hb=>⟨B,d,h1,h3.below hb⟩
theorem cxOpeB (vs:Array Value) (w:World):(callFunc 22 vs).run Tryz.prog w=.ok (.enter 22 vs) w:=by go_simp
section
variable {ops:Array Oper} {md:Region.Mode} {W:World} {a0:Act} {n:Nat} {al:Nat→Bool} {S:Nat→Value→World→Prop} {Q:Exit→Act→World→Prop} {i:Nat} {o:Oper}
theorem tupE_fst (hal:al i=false) (hg:GuardOn ops md n S i o) {x:Operand} {m:Nat} {E:Int} {l:List Int} (ho:o.op=.extract x 0) (hS:S i=IsRw .u8 m l) (hx:KnowsW ops md W a0 n S i x (IsTupE m E l)):StepOk Tryz.prog ops md W a0 n al S Q i o :=
 step_run hal hg fun a w hw hf hd=>by
  obtain ⟨B,d,h1,h3⟩:=hx a w hw hf hd
  refine ⟨.slice B m d,?_,by rw [hS];exact ⟨B,d,rfl,h3⟩⟩
  generalize a.eval=ev at *
  unfold execOp
  simp only [ho,h1]
  go_simp
theorem tupE_snd (hal:al i=false) (hg:GuardOn ops md n S i o) {x:Operand} {m:Nat} {E:Int} {l:List Int} (ho:o.op=.extract x 1) (hS:S i=Is (.int .i64 E)) (hx:KnowsW ops md W a0 n S i x (IsTupE m E l)):StepOk Tryz.prog ops md W a0 n al S Q i o :=
 step_run hal hg fun a w hw hf hd=>by
  obtain ⟨B,d,h1,h3⟩:=hx a w hw hf hd
  refine ⟨.int .i64 E,?_,by rw [hS];exact rfl⟩
  generalize a.eval=ev at *
  unfold execOp
  simp only [ho,h1]
  go_simp
end
end
end Go.Proofs.YtkblmdakejmmhaaGreatDoor
