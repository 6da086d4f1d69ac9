import Derived.Test.YtkblmdakejmmhaaGreatDoorG23
namespace Go.Proofs.YtkblmdakejmmhaaGreatDoor
open Go Go.RowKit
section
set_option maxRecDepth 50000
set_option maxHeartbeats 400000 in
theorem turned_anyZ (A:Option Addr) (c:Nat) (b:List Int) (w:World) (hn:b.length≤4096) (hA:Nums w .u8 A b) :
 Calls Tryz.prog 94 #[.slice A b.length c] w fun e w'=>∃B d ys,e=.returned (.slice B ys.length d)∧Hid (ys=b.reverse)∧NumsF w.heap.size w' .u8 B ys∧Below w.heap.size w w':=by
 go_enter Tryz.func94,Tryz.ntmps94
 go_wp2
 go_loopw [3,4] (fun v i wr=>∃(k:Nat) (B:Option Addr) (m d:Nat),k≤b.length∧i=.int .i64 ((k:Int) - 1)∧v=.slice B m d∧Owns wr w.heap.size 5 .u8 (.slice B m d) (b.drop k).reverse∧Below w.heap.size w wr) (fun _ i _=>(intOf i+1).toNat)
 case atStart=>exact ⟨b.length,none,0,0,Nat.le_refl _,rfl,rfl,by rw [List.drop_length];exact Owns.none_ _ _ _ _,Below.refl _ _⟩
 case round =>
  obtain ⟨k,B,m,d,hk,rfl,rfl,hO,hb⟩:=hrel
  by_cases hlt:0<k
  ·have hsz:=hb.size
   obtain ⟨j,rfl⟩:∃j,k=j+1:=⟨k - 1,by omega⟩
   have hl:(b.drop (j+1)).reverse.length≤4096:=by simp;omega
   have HL:=hid hl
   clear hl
   obtain ⟨b1,o1,x,rfl,_,hc1,H1⟩:=(hA.below hb).get (i:=j) (by omega)
   have e1:((j+1:Nat):Int) - 1=(j:Int):=by omega
   have hj0:(0:Int)≤j:=by omega
   have hj1:(j:Int)<b.length:=by omega
   rw [e1]
   clear e1
   go_wp2_with (at_builtin;refine app_one _ rfl (.tmp 12) (.tmp 17) 23 rfl w.heap.size 5 .u8 1 Tryz.underlying23 Tryz.info5 B m d (b.drop (j+1)).reverse rfl hO _ 1 rfl (by have:=HL.out;omega) (by omega) hsz ?_;intro A' n' c' w2 hO2 hb2)
   go_roundw
   case rel =>
    have hd:b.drop j=x::b.drop (j+1):=by
     have h2:=H1.out
     obtain ⟨h3,h4⟩:=List.getElem?_eq_some_iff.1 h2
     rw [List.drop_eq_getElem_cons h3,h4]
    exact ⟨j,A',n',c',by omega,rfl,rfl,by rw [hd,List.reverse_cons];exact hO2,hb.trans hb2⟩
   case measure=>simp [intOf]
  ·have e:k=0:=by omega
   subst e
   have hm:=hO.len
   rw [List.drop_zero] at hO hm
   subst hm
   go_wp2
   go_ret
   exact ⟨B,d,b.reverse,rfl,hid rfl,hO.fresh,hb⟩
theorem wide4 (A:Option Addr) (d:Nat) (b:List Int) (w:World) (h4:b.length=4) (hby:HByt b) (hA:Nums w .u8 A b) :
 Calls Tryz.prog 118 #[.slice A 4 d] w fun e w'=>e=.returned (.int .u64 (hiv b))∧Below w.heap.size w w':=by
 have h:=wide_any A d b w (by omega) hby hA
 rw [h4] at h
 refine h.mono fun e w' ⟨v,he,hv,hb⟩=>⟨by rw [he,hv.out],hb⟩
theorem turned4 (A:Option Addr) (c:Nat) (b:List Int) (w:World) (h4:b.length=4) (hA:Nums w .u8 A b) :
 Calls Tryz.prog 94 #[.slice A 4 c] w fun e w'=>∃B d ys,e=.returned (.slice B 4 d)∧Hid (ys=b.reverse)∧Nums w' .u8 B ys∧Below w.heap.size w w':=by
 have h:=turned_anyZ A c b w (by omega) hA
 rw [h4] at h
 refine h.mono fun e w' ⟨B,d,ys,he,hY,hN,hb⟩=>⟨B,d,ys,?_,hY,hN.nums,hb⟩
 rw [he,hY.out,List.length_reverse,h4]
theorem word_any (A:Option Addr) (c:Nat) (b:List Int) (w:World) (h4:Hid (b.length=4)) (hby:HByt b) (hA:Nums w .u8 A b) :
 Calls Tryz.prog 98 #[.slice A 4 c] w fun e w'=>e=.returned (.int .u32 (hiv b.reverse))∧Below w.heap.size w w':=by
 have hv:=hiv_bd b.reverse hby.rev
 have hl:b.reverse.length=4:=by rw [List.length_reverse,h4.out]
 rw [hl] at hv
 have hv1:hiv b.reverse%4294967296=hiv b.reverse:=by have:=hv.1;have:=hv.2;simp at this;omega
 have HL:=hid hl
 have HB:=hid hby.rev
 obtain ⟨v,hve⟩:∃v,hiv b.reverse=v:=⟨_,rfl⟩
 have HV:=hid hve
 rw [hve] at hv1
 have hv2:IntKind.u32.wrap v=v:=by rw [IntKind.wrap_u32];exact hv1
 clear hl hv hve
 go_enter Tryz.func98,Tryz.ntmps98
 go_wp2_with (first
  | (go_at_call 94;refine (turned4 _ _ b _ h4.out hA).mono ?_;rintro e w2 ⟨B,d,ys,rfl,HY,hN,hb2⟩)
  | (go_at_call 118;refine (wide4 _ _ ys _ (by rw [HY.out];exact HL.out) (by rw [HY.out];exact HB.out) hN).mono ?_;rintro e w3 ⟨rfl,hb3⟩;rw [HY.out,HV.out]))
 go_ret
 exact ⟨ret_int HV.out.symm,hb2.trans (hb3.mono hb2.size)⟩
end
section
set_option maxRecDepth 50000 in
set_option maxHeartbeats 400000 in
theorem left_any (x:Int) (n m:Nat) (w:World) (hn:1≤n∧n≤31) (hm:Hid (m=32 - n)) (hx:Hid (WdZ x)) :
 Calls Tryz.prog 121 #[.int .u32 x,.int .i64 (n:Int)] w fun e w'=>e=.returned (.int .u32 (rotZ x m))∧w=w':=by
 go_enter Tryz.func121,Tryz.ntmps121
 go_wp2
 go_loop [5,6] (fun s i=>∃(k:Nat) (p:Int),k≤n∧s=.int .u32 p∧Hid (p=2^k)∧i=.int .i64 k) (fun _ i=>n - (intOf i).toNat)
 case atStart=>exact ⟨0,1,by omega,rfl,hid (by simp),rfl⟩
 case round =>
  obtain ⟨k,p,hk,rfl,HP,rfl⟩:=hrel
  by_cases hlt:k<n
  ·have hlt':(k:Int)<n:=by omega
   have h1:(p*2)%4294967296=p*2:=by
    have h2:=pow_mono2 (a:=k+1) (b:=31) (by omega)
    rw [Int.pow_succ,←HP.out] at h2
    have h3:=pow_pos8 k
    rw [←HP.out] at h3
    omega
   go_wp2
   go_round
   case rel=>exact ⟨k+1,p*2,by omega,rfl,hid (by rw [HP.out,Int.pow_succ]),by go_num⟩
   case measure=>simp [intOf];omega
  ·have e:k=n:=by omega
   subst e
   have hp0:0<p:=by rw [HP.out];exact pow_pos8 k
   have hpne:¬p=0:=by omega
   obtain ⟨D,hD⟩:∃D,D=(2:Int)^(32 - k):=⟨_,rfl⟩
   have hD0:0<D:=by rw [hD];exact pow_pos8 _
   have hDne:¬D=0:=by omega
   have hDl:D<4294967296:=by
    have:=pow_mono2 (a:=32 - k) (b:=31) (by omega)
    rw [←hD] at this
    omega
   have hq:2147483648 / p*2=D:=by
    have e1:(2147483648:Int)=p*2^(31 - k):=by rw [HP.out,←Int.pow_add,show k+(31 - k)=31 by omega];rfl
    rw [e1,Int.mul_ediv_cancel_left _ (by omega),hD,show 32 - k=(31 - k)+1 by omega,Int.pow_succ]
   have hqq:2147483648 / p*2%4294967296=D:=by rw [hq];omega
   have htd:x.tdiv D=x / D:=Int.tdiv_eq_ediv_of_nonneg hx.out.1
   have HD:=hid hD
   clear hD hq
   go_wp2
   go_ret
   refine ⟨ret_int ?_,rfl⟩
   have h:=rot_sum (x:=x) (n:=m) (by rw [hm.out];omega) hx.out
   have e1:32 - m=k:=by rw [hm.out];omega
   rw [e1,←HP.out,IntKind.wrap_u32,IntKind.wrap_u32] at h
   have e2:(2:Int)^m=D:=by rw [HD.out,hm.out]
   rw [e2] at h
   rw [←h]
   generalize x*p=X at *
   generalize x / D=Y at *
   omega
end
end Go.Proofs.YtkblmdakejmmhaaGreatDoor
