import Derived.Test.YtkblmdakejmmhaaGreatDoorDBlockM
import Derived.Test.YtkblmdakejmmhaaGreatDoorG34
import Derived.Test.YtkblmdakejmmhaaGreatDoorG27
namespace Go.Proofs.YtkblmdakejmmhaaGreatDoor
open Go Go.RowKit
section
set_option maxRecDepth 50000
theorem Nums.spot1 {w:World} {k:IntKind} {g o:Nat} {xs:List Int} (h:Nums w k (some ⟨g,o,none⟩) xs) {i:Nat} {x:Int} (hx:xs[i]? = some x):w.cell? ⟨g,o+i,none⟩=some (.int k x):=by
 have hi:=(List.getElem?_eq_some_iff.1 hx).1
 obtain ⟨b,off,e,_,hc⟩:=h (by omega)
 injection e with e;injection e with e1 e2
 subst e1 e2
 rw [hc i hi,List.getD_eq_getElem?_getD,hx];rfl
set_option maxHeartbeats 4000000 in
theorem rhide_own (key nonce b:List Int) (c0 n lb cb gb ob:Nat) (w:World) (hk:Hid (key.length=4*8)) (hn:Hid (nonce.length=4*3)) (hkb:HByt key) (hnb:HByt nonce) (hb:HByt b) (hl:Hid (b.length=lb)) (h5:lb≤500) (hp:0<lb)
 (hcn:c0+n≤4294967296) (hbn:lb≤64*n) (hA:Nums w .u8 (some ⟨gb,ob,none⟩) b) :
 Calls Tryz.prog 43 #[.agg (ints .u8 key).toArray,.agg (ints .u8 nonce).toArray,.int .u32 (c0:Int),.slice (some ⟨gb,ob,none⟩) lb cb] w fun e w'=>∃A d,e=.returned (.slice A lb d)∧Owns w' w.heap.size 5 .u8 (.slice A lb d) (hideL b (strm key nonce c0 n))∧Below w.heap.size w w':=by
 have hgb:gb<w.heap.size:=by
  obtain ⟨g,o,e,hlt,_⟩:=hA (by rw [hl.out];exact hp)
  injection e with e;injection e with e1 e2
  rw [e1];exact hlt
 have HLH:Hid ((hideL b (strm key nonce c0 n)).length=lb):=hid (by rw [hideL_length (by rw [hl.out,strm_length hk.out hn.out];exact hbn),hl.out])
 obtain ⟨hd,hhd⟩:∃h,hideL b (strm key nonce c0 n)=h:=⟨_,rfl⟩
 have HD:=hid hhd
 rw [hhd] at HLH ⊢
 clear hhd
 obtain ⟨W1,hW1⟩:∃W,(w.alloc (.cells (ints .u8 key).toArray 22)).alloc (.cells (ints .u8 nonce).toArray 40)=W:=⟨_,rfl⟩
 have hK:Arr W1 w.heap.size 0 .u8 key:=by rw [←hW1];exact (Arr.made w .u8 key 22).alloc _
 have hN:Arr W1 (w.heap.size+1) 0 .u8 nonce:=by rw [←hW1];have:=Arr.made (w.alloc (.cells (ints .u8 key).toArray 22)) .u8 nonce 40;rwa [World.size_alloc] at this
 have hB:Below w.heap.size w W1:=by rw [←hW1];exact ((Below.refl _ w).alloc (Nat.le_refl _) _).alloc (by simp) _
 have hz1:W1.heap.size=w.heap.size+2:=by rw [←hW1];simp
 have HW:=hid hW1
 have HZ:=hid hz1
 clear hW1 hz1
 go_enter Tryz.func43,Tryz.ntmps43
 go_wp2
 rw [HW.out]
 obtain ⟨bk,hbk⟩:∃b,w.heap.size=b:=⟨_,rfl⟩
 obtain ⟨bn,hbn2⟩:∃b,w.heap.size+1=b:=⟨_,rfl⟩
 rw [hbn2] at hN ⊢
 rw [hbk] at hK hB hgb ⊢
 have l1:bk<W1.heap.size:=by rw [HZ.out];omega
 have l2:bn<W1.heap.size:=by rw [HZ.out];omega
 have l3:gb<W1.heap.size:=by rw [HZ.out];omega
 have hA1:Nums W1 .u8 (some ⟨gb,ob,none⟩) b:=hA.below (by rw [hbk];exact hB)
 have HBK:=hid hbk
 clear hbk hbn2 HW hA
 have i22:(Tryz.prog.info? 22).map (·.size)=some (ints .u8 key).length:=by rw [ints_length,hk.out];exact info22
 have i23:(Tryz.prog.info? 40).map (·.size)=some (ints .u8 nonce).length:=by rw [ints_length,hn.out];exact info23
 have hlb0:(0:Int)<lb:=by omega
 have hbz:bk≤W1.heap.size:=by omega
 go_loopw [2,9,10] (fun v2 v9 v10 wr=>∃(k:Nat) (A:Option Addr) (m c:Nat),64*k≤lb+63∧v10=.int .i64 ((64*k:Nat):Int)∧v2=.int .u32 (((c0+k)%4294967296:Nat):Int)∧v9=.slice A m c∧Owns wr W1.heap.size 5 .u8 (.slice A m c) (hd.take (64*k))∧Below W1.heap.size W1 wr) (fun _ _ i _=>600 - (intOf i).toNat)
 case atStart=>exact ⟨0,none,0,0,by omega,rfl,by rw [Nat.add_zero,Nat.mod_eq_of_lt (by omega)],rfl,by rw [Nat.mul_zero,List.take_zero];exact Owns.none_ _ _ _ _,Below.refl _ _⟩
 case round =>
  obtain ⟨k,A,m,c,hk64,rfl,rfl,rfl,hO,hBr⟩:=hrel
  obtain ⟨p,hpk⟩:∃p,64*k=p:=⟨_,rfl⟩
  rw [hpk] at hO hk64 ⊢
  have HPK:=hid hpk
  clear hpk
  have hp0:(0:Int)≤p:=by omega
  by_cases hlt:p<lb
  ·have hlt':(p:Int)<lb:=by omega
   have hkn:k<n:=by have:=HPK.out;omega
   have hcc:(c0+k)%4294967296=c0+k:=Nat.mod_eq_of_lt (by omega)
   rw [hcc]
   have hK2:=(hK.below hBr l1).range
   have hN2:=(hN.below hBr l2).range
   have hzr:=hBr.size
   have hwc:Hid (WdZ ((c0+k:Nat):Int)):=hid ⟨by omega,by omega⟩
   go_wp2_with (first
    | (with_reducible refine wpList_load_mid (op:=⟨some 19,.load 22 (.tmp 4),_,_,_,_⟩) rfl 22 (.tmp 4) rfl bk 0 rfl (ints .u8 key) _ hK2 Tryz.underlying22 rfl i22 ?_)
    | (with_reducible refine wpList_load_mid (op:=⟨some 20,.load 40 (.tmp 5),_,_,_,_⟩) rfl 40 (.tmp 5) rfl bn 0 rfl (ints .u8 nonce) _ hN2 Tryz.underlying40 rfl i23 ?_)
    | (go_at_call 68;refine (rblock_any key nonce ((c0+k:Nat):Int) _ hk hn hkb hnb hwc).mono ?_;rintro e w2 ⟨AS,ds,rfl,hOS,hb2⟩))
   obtain ⟨bl,hbl⟩:∃l,blockL key nonce ((c0+k:Nat):Int)=l:=⟨_,rfl⟩
   have hbl64:Hid (bl.length=64):=hid (by rw [←hbl];exact blockL_length hk.out hn.out)
   have hblb:HByt bl:=by rw [←hbl];exact blockL_byt _ _ _
   have hat:∀j,j<64→(strm key nonce c0 n)[p+j]? = bl[j]? := fun j hj=>by rw [←hbl,←HPK.out];exact strm_at hk.out hn.out n hkn hj
   have HAT:=hid hat
   rw [hbl] at hOS
   obtain ⟨gs,rfl,hg1,hg2⟩:=hOS.at0 (by rw [hbl64.out];omega)
   have hO2:=hO.stay hb2
   have hne:(Value.slice A m c).ownBlock≠some gs:=fun e=>by have:=(hO.lt gs e).2;omega
   have hB2:Below W1.heap.size W1 w2:=hBr.trans (hb2.mono hzr)
   have hAS:=hOS.arr
   clear hO hOS hat hBr hb2 hg1 hK2 hN2
   generalize wr=wo at *
   go_loopw [9,12] (fun v9 v12 wr=>∃(j:Nat) (A:Option Addr) (m c:Nat),j≤64∧p+j≤lb∧v12=.int .i64 j∧v9=.slice A m c∧Owns wr W1.heap.size 5 .u8 (.slice A m c) (hd.take (p+j))∧(Value.slice A m c).ownBlock≠some gs∧Arr wr gs 0 .u8 bl∧Below W1.heap.size W1 wr) (fun _ i _=>64 - (intOf i).toNat)
   case atStart=>exact ⟨0,A,m,c,by omega,by omega,rfl,rfl,hO2,hne,hAS,hB2⟩
   case round =>
    clear hO2 hne hAS hB2
    obtain ⟨j,A,m,c,hj,hpj,rfl,rfl,hO,hne,hAS,hB⟩:=hrel
    by_cases hj64:j<64
    ·have hj1:(j:Int)<64:=by omega
     have hj0:(0:Int)≤j:=by omega
     by_cases hlj:p+j<lb
     ·have hlj1:(p:Int)+(j:Int)<lb:=by omega
      have hlj0:0≤(p:Int)+(j:Int):=by omega
      have hwj:IntKind.i64.wrap ((p:Int)+(j:Int))=(p:Int)+(j:Int):=IntWalk.i64_in _ (by omega)
      have htj:((p:Int)+(j:Int)).toNat=p+j:=by omega
      obtain ⟨x,hx⟩:∃x,b[p+j]? = some x:=⟨b[p+j]'(by rw [hl.out];exact hlj),by simp [hl.out,hlj]⟩
      obtain ⟨y,hy⟩:∃y,bl[j]? = some y:=⟨bl[j]'(by rw [hbl64.out];exact hj64),by simp [hbl64.out,hj64]⟩
      obtain ⟨z,hz⟩:∃z,bits .xor .u8 x y=z:=⟨_,rfl⟩
      have hdz:hd[p+j]? = some z:=by rw [←HD.out,←hz];exact hideL_at hx ((HAT.out j hj64).trans hy)
      have HMORE:=hid (take_more hdz)
      have c0:∀ww,Cl wr ww→ww.cell? ⟨gb,ob+(p+j),none⟩=some (.int .u8 x):=fun ww h=>(hA1.below (hB.trans (h.mono hB.size))).spot1 hx
      have c1:∀ww,Cl wr ww→ww.cell? ⟨gs,j,none⟩=some (.int .u8 y):=fun ww h=>by have:=(hAS.cl (hAS.lt (by rw [hbl64.out];omega)) h).at_ hy;rwa [Nat.zero_add] at this
      have HLT:Hid ((hd.take (p+j)).length≤600):=hid (by rw [List.length_take];omega)
      have hgsl:=hAS.lt (by rw [hbl64.out];omega)
      clear hx hy hdz
      go_wp2
      refine rSpec 13 52 (fun i=>i==12) [Is (.slice A m c),Is (.slice (some ⟨gb,ob,none⟩) lb cb),Is (.int .i64 (p:Int)),Is (.int .i64 (j:Int)),Is (.int .i64 ((p:Int)+(j:Int))),Is (.pointer (some ⟨gb,ob+(p+j),none⟩)),Is (.int .u8 x),Is (.slice (some ⟨gs,0,none⟩) 64 ds),Is (.int .i64 (j:Int)),Is (.pointer (some ⟨gs,j,none⟩)),Is (.int .u8 y),Is (.int .u8 z),IsRowV wr.heap.size 1 [.int .u8 z]] [35,36,37,38,39,40,41,42,43,44,45,46,47] (gC (gC (gC (gC (gC (gC (gC (gC (gC (gC (gC (gC (grows_cons (IsRowV.grows _ _ _) grows_nil)))))))))))))
       ⟨step_mvP rfl (.inl rfl) rfl rfl (kO 9 rfl),
        step_mvP rfl (.inl rfl) rfl rfl (kO 3 rfl),
        step_mvP rfl (.inl rfl) rfl rfl (kO 10 rfl),
        step_mvP rfl (.inl rfl) rfl rfl (kO 12 rfl),
        sxb rfl (.inl rfl) rfl (kI (v:=(.int .i64 (p:Int))) 2 37 rfl rfl) (kI (v:=(.int .i64 (j:Int))) 3 38 rfl rfl) (fun ev ww hw j0 j1=>by unfold execOp;simp only [j0,j1];go_simp),
        sxb rfl (.inl rfl) rfl (kI (v:=(.slice (some ⟨gb,ob,none⟩) lb cb)) 1 36 rfl rfl) (kI (v:=(.int .i64 ((p:Int)+(j:Int)))) 4 39 rfl rfl) (fun ev ww hw j0 j1=>by unfold execOp;simp only [j0,j1];go_simp),
        sxa rfl (.inl rfl) rfl (kI (v:=(.pointer (some ⟨gb,ob+(p+j),none⟩))) 5 40 rfl rfl) (fun ev ww hw j0=>by have hcc:=c0 ww hw;unfold execOp;simp only [j0];go_simp),
        step_mvP rfl (.inl rfl) rfl rfl (kO 11 rfl),
        step_mvP rfl (.inl rfl) rfl rfl (kO 12 rfl),
        sxb rfl (.inl rfl) rfl (kI (v:=(.slice (some ⟨gs,0,none⟩) 64 ds)) 7 42 rfl rfl) (kI (v:=(.int .i64 (j:Int))) 8 43 rfl rfl) (fun ev ww hw j0 j1=>by unfold execOp;simp only [j0,j1];go_simp),
        sxa rfl (.inl rfl) rfl (kI (v:=(.pointer (some ⟨gs,j,none⟩))) 9 44 rfl rfl) (fun ev ww hw j0=>by have hcc:=c1 ww hw;unfold execOp;simp only [j0];go_simp),
        sxb rfl (.inl rfl) rfl (kI (v:=(.int .u8 x)) 6 41 rfl rfl) (kI (v:=(.int .u8 y)) 10 45 rfl rfl) (fun ev ww hw j0 j1=>by unfold execOp;simp only [j0,j1];go_simp),
        (step_bsl (.inl rfl) rfl Tryz.underlying23 inf5 (by decide) (by decide) (by kernel_rfl) rfl (parts1 (knows_in (v:=(.int .u8 z)) 11 46 (by decide) (by kernel_rfl) rfl rfl))),trivial⟩ ?_
      intro val w9 hw hS hap hla
      have e35:=eVal hS 0 35 rfl rfl
      have e36:=eVal hS 1 36 rfl rfl
      have e37:=eVal hS 2 37 rfl rfl
      have e38:=eVal hS 3 38 rfl rfl
      have e39:=eVal hS 4 39 rfl rfl
      have e40:=eVal hS 5 40 rfl rfl
      have e41:=eVal hS 6 41 rfl rfl
      have e42:=eVal hS 7 42 rfl rfl
      have e43:=eVal hS 8 43 rfl rfl
      have e44:=eVal hS 9 44 rfl rfl
      have e45:=eVal hS 10 45 rfl rfl
      have e46:=eVal hS 11 46 rfl rfl
      simp only [pA,pB,pC,pD,pE,Act.put,pG,pH,pI,e35,e36,e37,e38,e39,e40,e41,e42,e43,e44,e45,e46]
      obtain ⟨g1,hg1,hg1b,hR1⟩:IsRowV wr.heap.size 1 [.int .u8 z] (val 47) w9:=hS 12 47 (by decide) rfl
      rw [hg1]
      clear hS hap hla e35 e36 e37 e38 e39 e40 e41 e42 e43 e44 e45 e46
      have hOw:=hO.stay hw
      have hASw:=hAS.cl hgsl hw
      have hBw:=hB.trans (hw.mono hB.size)
      have hgw:gs<w9.heap.size:=Nat.lt_of_lt_of_le hgsl hw.size
      have h63:((hd.take (p+j)).length+[z].length)*1≤140737488355328:=by have:=HLT.out;simp only [List.length_cons,List.length_nil];omega
      have hX:=one_row hR1
      refine app_nums rfl (.tmp 35) (.tmp 47) 23 rfl W1.heap.size 5 .u8 1 Tryz.underlying23 Tryz.info5 (by omega) A m c (hd.take (p+j)) rfl hOw (some ⟨g1,0,none⟩) 1 [z] rfl hX h63 hBw.size ?_
      intro A' n' c' w3 hO3 hG
      rw [←HMORE.out] at hO3
      have hAS3:=hASw.grew hG hne hgw
      have hne3:=hG.far hne hgw
      have hB3:Below W1.heap.size W1 w3:=hBw.trans (hG.below hBw.size fun g e=>(hOw.lt g e).1)
      clear hO hne hAS hB hOw hASw hBw h63 hX hG hR1 hw c0 c1
      go_wp2
      go_roundw
      case rel=>exact ⟨j+1,A',n',c',by omega,by omega,by go_num,rfl,hO3,hne3,hAS3,hB3⟩
      case measure=>simp [intOf];omega
     ·have hlj1:¬(p:Int)+(j:Int)<lb:=by omega
      have hwj:IntKind.i64.wrap ((p:Int)+(j:Int))=(p:Int)+(j:Int):=IntWalk.i64_in _ (by omega)
      have et:hd.take (p+j)=hd.take (64*(k+1)):=by
       rw [List.take_of_length_le (by rw [HLH.out];omega),List.take_of_length_le (by rw [HLH.out];have:=HPK.out;omega)]
      rw [et] at hO
      clear et
      go_wp2
      go_roundw
      case rel=>exact ⟨k+1,A,m,c,by have:=HPK.out;omega,congrArg (Value.int .i64) (by have:=HPK.out;omega),congrArg (Value.int .u32) (by omega),rfl,hO,hB⟩
      case measure=>simp [intOf];omega
    ·have hj1:¬(j:Int)<64:=by omega
     have e:j=64:=by omega
     rw [e] at hO
     have et:p+64=64*(k+1):=by have:=HPK.out;omega
     rw [et] at hO
     clear et e
     go_wp2
     go_roundw
     case rel=>exact ⟨k+1,A,m,c,by have:=HPK.out;omega,congrArg (Value.int .i64) (by have:=HPK.out;omega),congrArg (Value.int .u32) (by omega),rfl,hO,hB⟩
     case measure=>simp [intOf];omega
  ·have hge:¬(p:Int)<lb:=by omega
   have et:hd.take p=hd:=List.take_of_length_le (by rw [HLH.out];omega)
   rw [et] at hO
   have hm:=hO.len
   rw [HLH.out] at hm
   subst hm
   clear et
   have hBw:Below bk w wr:=hB.trans (hBr.mono hbz)
   go_wp2
   go_ret
   exact ⟨A,c,rfl,hO.lower (by rw [HBK.out];exact hbz),by rw [HBK.out];exact hBw⟩
end
section
set_option maxRecDepth 50000
set_option maxHeartbeats 4000000 in
theorem rhide_zero (key nonce:List Int) (c:Int) (A:Option Addr) (cb:Nat) (w:World) :
 Calls Tryz.prog 43 #[.agg (ints .u8 key).toArray,.agg (ints .u8 nonce).toArray,.int .u32 c,.slice A 0 cb] w fun e w'=>e=.returned (.slice none 0 0)∧Below w.heap.size w w':=by
 obtain ⟨W1,hW1⟩:∃W,(w.alloc (.cells (ints .u8 key).toArray 22)).alloc (.cells (ints .u8 nonce).toArray 40)=W:=⟨_,rfl⟩
 have hB:Below w.heap.size w W1:=by rw [←hW1];exact ((Below.refl _ w).alloc (Nat.le_refl _) _).alloc (by simp) _
 have HW:=hid hW1
 clear hW1
 go_enter Tryz.func43,Tryz.ntmps43
 go_wp2
 rw [HW.out]
 go_loopw [2,9,10] (fun v2 v9 v10 wr=>v10=.int .i64 0∧v9=.slice none 0 0∧wr=W1) (fun _ _ _ _=>0)
 case atStart=>exact ⟨rfl,rfl,rfl⟩
 case round =>
  obtain ⟨rfl,rfl,rfl⟩:=hrel
  go_wp2
  go_ret
  exact ⟨rfl,hB⟩
theorem rhide_allown (key nonce b:List Int) (c0 n lb cb:Nat) (A0:Option Addr) (w:World) (hk:Hid (key.length=32)) (hn:Hid (nonce.length=12)) (hkb:HByt key) (hnb:HByt nonce) (hb:HByt b) (hl:Hid (b.length=lb)) (h5:lb≤500)
 (hcn:c0+n≤4294967296) (hbn:lb≤64*n) (hA:Nums w .u8 A0 b) :
 Calls Tryz.prog 43 #[.agg (ints .u8 key).toArray,.agg (ints .u8 nonce).toArray,.int .u32 (c0:Int),.slice A0 lb cb] w fun e w'=>∃A d,e=.returned (.slice A lb d)∧Owns w' w.heap.size 5 .u8 (.slice A lb d) (hideL b (strm key nonce c0 n))∧Below w.heap.size w w':=by
 by_cases hp:0<lb
 ·obtain ⟨g,o,rfl,_⟩:=hA (by rw [hl.out];exact hp)
  exact rhide_own key nonce b c0 n lb cb g o w hk hn hkb hnb hb hl h5 hp hcn hbn hA
 ·obtain rfl:lb=0:=by omega
  have e:b=[]:=List.eq_nil_of_length_eq_zero hl.out
  subst e
  refine (rhide_zero key nonce c0 A0 cb w).mono ?_
  rintro e w' ⟨rfl,hB⟩
  exact ⟨none,0,rfl,Owns.none_ _ _ _ _,hB⟩
end
section
set_option maxRecDepth 50000
theorem PartOkZ.below {w w':World} {q:Option Addr × Nat × List Int} (h:PartOkZ w q) (hb:Below w.heap.size w w'):PartOkZ w' q:=⟨h.1.below hb,h.2⟩
def IsPsZ (m:Nat) (T:List Int):Value→World→Prop:=fun v w=>∃PA pc ps,v=.slice PA m pc∧ps.length=m∧Parts w PA ps∧(∀q ∈ ps,PartOkZ w q)∧flat ps=T
theorem IsPsZ.grows (m:Nat) (T:List Int):Grows (IsPsZ m T):=fun _ _ _ ⟨PA,pc,ps,h1,h2,h3,h4,h5⟩ hb=>⟨PA,pc,ps,h1,h2,h3.below hb,fun q hq=>(h4 q hq).below hb,h5⟩
def PLZ (n:Nat) (l:List Int):Prop:=l.length=n∧n≤1000∧Byt l
section
variable {ops:Array Oper} {md:Region.Mode} {W:World} {a0:Act} {n:Nat} {al:Nat→Bool} {S:Nat→Value→World→Prop} {Q:Exit→Act→World→Prop} {i:Nat} {o:Oper}
theorem uaBk:Tryz.prog.underlying 83=some (.array (Tryz.prog.arrayLen 83) (Tryz.prog.elem 83)):=by kernel_rfl
theorem zeBk:∀w,(sizeOf (Tryz.prog.elem 83)).run Tryz.prog w=.ok 1 w:=fun w=>by kernel_rfl
theorem infNo:(Tryz.prog.info? 40).map (fun i=>(i.zero,i.size))=some (some (.agg (ints .u8 (zeros 12)).toArray),12):=by kernel_rfl
theorem cxFil (vs:Array Value) (w:World):(callFunc 61 vs).run Tryz.prog w=.ok (.enter 61 vs) w:=by go_simp
theorem cxLen (vs:Array Value) (w:World):(callFunc 62 vs).run Tryz.prog w=.ok (.enter 62 vs) w:=by go_simp
theorem step_fil (hal:al i=false) (hg:GuardOn ops md n S i o) {x:Operand} {ts:Array TypeId} {A:Option Addr} {q c f:Nat} (ho:o.op=.call { callee:=.value (.func 61),args:=#[x],argTypes:=ts }) (hq:q≤4096) (hf:fillN q=f) (hS:S i=IsPart f (zeros f)) (hx:Knows ops md W a0 n S i x (.slice A q c)):StepOk Tryz.prog ops md W a0 n al S Q i o :=
 step_callR hal hg ho cxFil hS fun a w hw hfr hd=>⟨_,by rw [map1,hx a w hw hfr hd],(afill_any A q c f w hq hf).mono fun e w' ⟨B,he,hN,hb⟩=>⟨_,he,⟨B,f,rfl,Nat.le_refl _,hN⟩,hb⟩⟩
theorem step_ale (hal:al i=false) (hg:GuardOn ops md n S i o) {x:Operand} {ts:Array TypeId} {A:Option Addr} {q c:Nat} (ho:o.op=.call { callee:=.value (.func 62),args:=#[x],argTypes:=ts }) (hq:q≤4096) (hS:S i=IsPart 8 (le8 q)) (hx:Knows ops md W a0 n S i x (.slice A q c)):StepOk Tryz.prog ops md W a0 n al S Q i o :=
 step_callR hal hg ho cxLen hS fun a w hw hfr hd=>⟨_,by rw [map1,hx a w hw hfr hd],(alen_any A q c w hq).mono fun e w' ⟨B,d,he,h8,hN,hb⟩=>⟨_,he,⟨B,d,rfl,h8,hN⟩,hb⟩⟩
theorem part_atZ {w:World} {q:Nat} {l:List Int} {v:Value} (h:IsPart q l v w) (hp:PLZ q l):∃p:Option Addr × Nat × List Int,v=.slice p.1 p.2.2.length p.2.1∧PartOkZ w p∧p.2.2=l:=by
 obtain ⟨B,d,h1,h2,h3⟩:=h
 obtain ⟨h4,h5,h6⟩:=hp
 exact ⟨(B,d,l),by rw [h1,←h4],⟨h3,by rw [←h4] at h2;exact h2,by show l.length≤1000;omega,h6⟩,rfl⟩
theorem step_six (hal:al i=false) (hg:GuardOn ops md n S i o) {x1 x2 x3 x4 x5 x6:Operand} {q1 q2 q3 q4 q5 q6:Nat} {l1 l2 l3 l4 l5 l6 T:List Int} (ho:o.op=.buildSlice 56 6 #[(0,x1),(1,x2),(2,x3),(3,x4),(4,x5),(5,x6)])
 (p1:PLZ q1 l1) (p2:PLZ q2 l2) (p3:PLZ q3 l3) (p4:PLZ q4 l4) (p5:PLZ q5 l5) (p6:PLZ q6 l6) (hT:l1++(l2++(l3++(l4++(l5++l6))))=T) (hS:S i=IsPsZ 6 T)
 (h1:KnowsW ops md W a0 n S i x1 (IsPart q1 l1)) (h2:KnowsW ops md W a0 n S i x2 (IsPart q2 l2)) (h3:KnowsW ops md W a0 n S i x3 (IsPart q3 l3)) (h4:KnowsW ops md W a0 n S i x4 (IsPart q4 l4)) (h5:KnowsW ops md W a0 n S i x5 (IsPart q5 l5)) (h6:KnowsW ops md W a0 n S i x6 (IsPart q6 l6)):StepOk Tryz.prog ops md W a0 n al S Q i o:=fun a w hw hf' hd=>by
 rw [if_pos (hg.wanted hd)]
 obtain ⟨r1,e1,o1,t1⟩:=part_atZ (h1 a w hw hf' hd) p1
 obtain ⟨r2,e2,o2,t2⟩:=part_atZ (h2 a w hw hf' hd) p2
 obtain ⟨r3,e3,o3,t3⟩:=part_atZ (h3 a w hw hf' hd) p3
 obtain ⟨r4,e4,o4,t4⟩:=part_atZ (h4 a w hw hf' hd) p4
 obtain ⟨r5,e5,o5,t5⟩:=part_atZ (h5 a w hw hf' hd) p5
 obtain ⟨r6,e6,o6,t6⟩:=part_atZ (h6 a w hw hf' hd) p6
 have hI:=infSl
 cases hq:Tryz.prog.info? 23 with
 | none=>rw [hq] at hI;simp at hI
 | some ie =>
   rw [hq] at hI
   simp only [Option.map_some,Option.some.injEq,Prod.mk.injEq] at hI
   obtain ⟨hz,hs1⟩:=hI
   have hfill:∀(A1 A2 A3 A4 A5 A6:Option Addr) (n1 n2 n3 n4 n5 n6 c1 c2 c3 c4 c5 c6:Nat),Instr.fill (fun i=>some (i*1,1)) ((Array.range (6*1)).map (fun i=>(Value.slice none 0 0).cells[i%(Value.slice none 0 0).cells.size]!)) [(0,Value.slice A1 n1 c1),(1,Value.slice A2 n2 c2),(2,Value.slice A3 n3 c3),(3,Value.slice A4 n4 c4),(4,Value.slice A5 n5 c5),(5,Value.slice A6 n6 c6)]=some #[Value.slice A1 n1 c1,Value.slice A2 n2 c2,Value.slice A3 n3 c3,Value.slice A4 n4 c4,Value.slice A5 n5 c5,Value.slice A6 n6 c6]:=fun A1 A2 A3 A4 A5 A6 n1 n2 n3 n4 n5 n6 c1 c2 c3 c4 c5 c6=>by kernel_rfl
   have hv:(#[(0,x1),(1,x2),(2,x3),(3,x4),(4,x5),(5,x6)].map fun ((i:Nat),(x:Operand))=>(i,a.eval x)).toList=[(0,a.eval x1),(1,a.eval x2),(2,a.eval x3),(3,a.eval x4),(4,a.eval x5),(5,a.eval x6)]:=by simp
   rw [e1,e2,e3,e4,e5,e6] at hv
   refine wp_buildSlice 56 23 6 _ ho _ ie _ (by kernel_rfl) hq hz (by rw [hs1];decide) (by rw [hs1];decide) (by rw [hs1];rw [hv];exact hfill _ _ _ _ _ _ _ _ _ _ _ _ _ _ _ _ _ _) ?_
   refine ⟨_,rfl,?_,below_new w _,fun e=>by rw [hal] at e;cases e⟩
   rw [hS]
   have hb:=below_new w (.cells #[.slice r1.1 r1.2.2.length r1.2.1,.slice r2.1 r2.2.2.length r2.2.1,.slice r3.1 r3.2.2.length r3.2.1,.slice r4.1 r4.2.2.length r4.2.1,.slice r5.1 r5.2.2.length r5.2.1,.slice r6.1 r6.2.2.length r6.2.1] 23)
   refine ⟨_,6,[r1,r2,r3,r4,r5,r6],rfl,rfl,fun _=>⟨w.heap.size,0,rfl,by simp,fun j q hj=>?_⟩,fun q hq=>?_,?_⟩
   ·rw [Nat.zero_add,World.cell?_alloc_new]
    have hj6:=(List.getElem?_eq_some_iff.1 hj).1
    have:j=0∨j=1∨j=2∨j=3∨j=4∨j=5:=by simp at hj6;omega
    rcases this with rfl|rfl|rfl|rfl|rfl|rfl <;> (simp at hj;subst hj;rfl)
   ·simp only [List.mem_cons,List.not_mem_nil,or_false] at hq
    rcases hq with rfl|rfl|rfl|rfl|rfl|rfl
    ·exact o1.below hb
    ·exact o2.below hb
    ·exact o3.below hb
    ·exact o4.below hb
    ·exact o5.below hb
    ·exact o6.below hb
   ·simp only [flat,List.map_cons,List.map_nil,List.flatten_cons,List.flatten_nil,List.append_nil,t1,t2,t3,t4,t5,t6]
    exact hT
theorem step_tagP (hal:al i=false) (hg:GuardOn ops md n S i o) {x y:Operand} {ts:Array TypeId} {key r T:List Int} {q:Nat} (ho:o.op=.call { callee:=.value (.func 60),args:=#[x,y],argTypes:=ts }) (hl:key.length=32) (hb:Byt key) (hq2:q≤1000) (hr:tagL key T=r) (hS:S i=Is (.agg (ints .u8 r).toArray))
 (hx:Knows ops md W a0 n S i x (.agg (ints .u8 key).toArray)) (hy:KnowsW ops md W a0 n S i y (IsPsZ q T)):StepOk Tryz.prog ops md W a0 n al S Q i o :=
 step_call hal hg fun a w hw hf hd=>by
  obtain ⟨PA,pc,ps,h1,h2,h3,h4,h5⟩:=hy a w hw hf hd
  subst h2 hr h5
  refine ⟨60,#[.agg (ints .u8 key).toArray,.slice PA ps.length pc],ex_fn rfl cx20 ho _ (by rw [map2,h1,hx a w hw hf hd]) w,(tag_any key PA pc ps w hl hb h3 h4 hq2).mono fun e w' ⟨he,hbl⟩=>⟨_,he,by rw [hS];exact rfl,hbl⟩⟩
end
end
section
set_option maxRecDepth 50000
set_option maxHeartbeats 4000000 in
theorem atag_core (key nonce be hi k1 k2 r T:List Int) (AB AH:Option Addr) (lb cb lh ch f g:Nat) (w:World) (hT:Tabs w) (hk:Hid (key.length=32)) (hn:Hid (nonce.length=12)) (hkb:HByt key) (hnb:HByt nonce) (HBL:Hid (blockL key nonce 0=k1++k2)) (H1:Hid (k1.length=32)) (HB1:Hid (Byt k1)) (HKL:Hid ((k1++k2).length=64))
 (PB:Hid (PLZ lb be)) (PH:Hid (PLZ lh hi)) (hcb:lb≤cb) (hch:lh≤ch) (hlb4:lb≤4096) (hlh4:lh≤4096) (HF:Hid (fillN lb=f)) (HG:Hid (fillN lh=g)) (PF:Hid (PLZ f (zeros f))) (PG:Hid (PLZ g (zeros g))) (P8:Hid (PLZ 8 (le8 lb))) (P9:Hid (PLZ 8 (le8 lh)))
 (HTT:Hid (be++(zeros f++(hi++(zeros g++(le8 lb++le8 lh))))=T)) (HR:Hid (tagL k1 T=r)) (HRL:Hid (r.length=16)) (hB:Nums w .u8 AB be) (hH:Nums w .u8 AH hi) :
 Calls Tryz.prog 29 #[.agg (ints .u8 key).toArray,.agg (ints .u8 nonce).toArray,.slice AB lb cb,.slice AH lh ch] w fun e w'=>e=.returned (.agg (ints .u8 r).toArray)∧Below w.heap.size w w':=by
 obtain ⟨z33,s33⟩:=zero_of_info inf33
 obtain ⟨z44,s44⟩:=zero_of_info info33
 have hK:=((Arr.made w .u8 key 22).alloc (.cells (ints .u8 nonce).toArray 40)).alloc (.cells (ints .u8 (zeros 16)).toArray 54)
 have hN:=(Arr.made (w.alloc (.cells (ints .u8 key).toArray 22)) .u8 nonce 40).alloc (.cells (ints .u8 (zeros 16)).toArray 54)
 have h8:=Rw.new ((w.alloc (.cells (ints .u8 key).toArray 22)).alloc (.cells (ints .u8 nonce).toArray 40)) (ints .u8 (zeros 16)) 54
 have hW:=((below_new w (.cells (ints .u8 key).toArray 22)).alloc (by simp) (.cells (ints .u8 nonce).toArray 40)).alloc (by simp;omega) (.cells (ints .u8 (zeros 16)).toArray 54)
 rw [World.size_alloc] at hN
 rw [World.size_alloc,World.size_alloc] at h8
 replace hT:=hT.next hW
 replace hB:=hB.below hW
 replace hH:=hH.below hW
 have r4:=hK.range
 have r5:=hN.range
 clear hK hN
 have i32:(Tryz.prog.info? 22).map (·.size)=some (ints .u8 key).length:=szV inf41 (il hk.out)
 have i12:(Tryz.prog.info? 40).map (·.size)=some (ints .u8 nonce).length:=szV infNo (il hn.out)
 have hcw:Hid (WdZ 0):=hid ⟨by omega,by omega⟩
 go_enter Tryz.func29,Tryz.ntmps29
 go_wp2_with (first
  | (with_reducible refine wpList_load_mid (op:=⟨some 10,.load 22 (.tmp 4),_,_,_,_⟩) rfl 22 (.tmp 4) rfl w.heap.size 0 rfl (ints .u8 key) _ r4 Tryz.underlying22 rfl i32 ?_)
  | (with_reducible refine wpList_load_mid (op:=⟨some 11,.load 40 (.tmp 5),_,_,_,_⟩) rfl 40 (.tmp 5) rfl (w.heap.size+1) 0 rfl (ints .u8 nonce) _ r5 Tryz.underlying40 rfl i12 ?_)
  | (go_at_call 59;clear r4 r5;generalize ((w.alloc (.cells (ints .u8 key).toArray 22)).alloc (.cells (ints .u8 nonce).toArray 40)).alloc (.cells (ints .u8 (zeros 16)).toArray 54)=w8 at *;refine (block_any key nonce 0 _ hT hk hn hkb hnb hcw).mono ?_;rintro e w9 ⟨rfl,hb9⟩
     rw [HBL.out]
     replace h8:=h8.next hb9
     replace hB:=hB.below hb9
     replace hH:=hH.below hb9
     replace hW:=hW.trans (Below.mono hb9 hW.size)
     have h9a:=Rw.new w9 (ints .u8 z64) 83
     have hB9:=below_new w9 (.cells (ints .u8 z64).toArray 83)
     have R9:=h9a.roomA (us:=ints .u8 (k1++k2)) ((il HKL.out).trans (il (zeros_len 64)).symm)
     have h9:=h9a.storedA (us:=ints .u8 (k1++k2)) ((il HKL.out).trans (il (zeros_len 64)).symm)
     have hB9:=Below.setCells (below_new w9 (.cells (ints .u8 z64).toArray 83)) (Nat.le_refl _) 0 (ints .u8 (k1++k2)).toArray.toList
     replace h8:=h8.next hB9
     replace hB:=hB.below hB9
     replace hH:=hH.below hB9
     replace hW:=hW.trans (Below.mono hB9 hW.size)
     clear hb9 hB9 h9a)
  | (with_reducible refine wpList_store_mid (op:=⟨none,.store 83 (.tmp 9) (.tmp 12),_,_,_,_⟩) rfl 83 (.tmp 9) (.tmp 12) rfl w9.heap.size 0 (ints .u8 (k1++k2)).toArray rfl rfl R9 (szA info33 (il HKL.out)) (ints_all _ _) ?_
     generalize (w9.alloc (.cells (ints .u8 z64).toArray 83)).setCells w9.heap.size 0 (ints .u8 (k1++k2)).toArray.toList=w0 at *
     generalize w9.heap.size=b9 at *
     clear R9))
 have s0:=hW.size
 refine rSpec 15 28 (fun _=>false) [Is (.slice (some ⟨b9,0,none⟩) 32 64),Is (.pointer (some ⟨b9,0,none⟩)),Is (.agg (ints .u8 k1).toArray),Is (.slice AB lb cb),Is (.slice AB lb cb),IsPart f (zeros f),Is (.slice AH lh ch),Is (.slice AH lh ch),IsPart g (zeros g),Is (.slice AB lb cb),IsPart 8 (le8 lb),Is (.slice AH lh ch),IsPart 8 (le8 lh),IsPsZ 6 T,Is (.agg (ints .u8 r).toArray)] [13,14,15,16,17,18,19,20,21,22,23,24,25,26,27] (gC (gC (gC (gC (gC (grows_cons (IsPart.grows _ _) (gC (gC (grows_cons (IsPart.grows _ _) (gC (grows_cons (IsPart.grows _ _) (gC (grows_cons (IsPart.grows _ _) (grows_cons (IsPsZ.grows _ _) (gC grows_nil)))))))))))))))
  ⟨step_one rfl (.inl rfl) (fun ev w h hc=>ex_slAh (P:=Tryz.prog) uaBk zeBk (m:=64) (h:=32) rfl (by decide) rfl ev w h hc) rfl (kO 9 rfl),
   step_one rfl (.inl rfl) (fun ev w h hc=>ex_arrP (P:=Tryz.prog) Tryz.underlying22 (by decide) rfl ev w h hc) rfl (kI 0 13 rfl rfl),
   step_ldV rfl (.inl rfl) (fun _ hw=>(((h9.next hw)).lo).range) rfl Tryz.underlying22 rfl (szV inf41 (il H1.out)) rfl (kI 1 14 rfl rfl),
   step_mvP rfl (.inl rfl) rfl rfl (kO 2 rfl),
   step_mvP rfl (.inl rfl) rfl rfl (kO 2 rfl),
   step_fil rfl (.inl rfl) rfl hlb4 HF.out rfl (kI 4 17 rfl rfl),
   step_mvP rfl (.inl rfl) rfl rfl (kO 3 rfl),
   step_mvP rfl (.inl rfl) rfl rfl (kO 3 rfl),
   step_fil rfl (.inl rfl) rfl hlh4 HG.out rfl (kI 7 20 rfl rfl),
   step_mvP rfl (.inl rfl) rfl rfl (kO 2 rfl),
   step_ale rfl (.inl rfl) rfl hlb4 rfl (kI 9 22 rfl rfl),
   step_mvP rfl (.inl rfl) rfl rfl (kO 3 rfl),
   step_ale rfl (.inl rfl) rfl hlh4 rfl (kI 11 24 rfl rfl),
   step_six rfl (.inl rfl) rfl PB.out PF.out PH.out PG.out P8.out P9.out HTT.out rfl ((kI 3 16 rfl rfl).part hcb (fun w hw=>hB.below hw)) (knowsW_in 5 18 (by decide) (by kernel_rfl) rfl rfl) ((kI 6 19 rfl rfl).part hch (fun w hw=>hH.below hw)) (knowsW_in 8 21 (by decide) (by kernel_rfl) rfl rfl) (knowsW_in 10 23 (by decide) (by kernel_rfl) rfl rfl) (knowsW_in 12 25 (by decide) (by kernel_rfl) rfl rfl),
   step_tagP rfl (.inl rfl) rfl H1.out HB1.out (by decide) HR.out rfl (kI 2 15 rfl rfl) (knowsW_in 13 26 (by decide) (by kernel_rfl) rfl rfl),trivial⟩ ?_
 intro val w1 hw hS hap hla
 have e13:=eVal hS 0 13 rfl rfl
 have e14:=eVal hS 1 14 rfl rfl
 have e15:=eVal hS 2 15 rfl rfl
 have e16:=eVal hS 3 16 rfl rfl
 have e17:=eVal hS 4 17 rfl rfl
 have e19:=eVal hS 6 19 rfl rfl
 have e20:=eVal hS 7 20 rfl rfl
 have e22:=eVal hS 9 22 rfl rfl
 have e24:=eVal hS 11 24 rfl rfl
 have e27:=eVal hS 14 27 rfl rfl
 simp only [pA,pB,pC,pD,pE,Act.put,pG,pH,pI,e13,e14,e15,e16,e17,e19,e20,e22,e24,e27]
 generalize val 18=g18
 generalize val 21=g21
 generalize val 23=g23
 generalize val 25=g25
 generalize val 26=g26
 clear hS hap hla e13 e14 e15 e16 e17 e19 e20 e22 e24 e27
 replace h8:=h8.next hw
 replace hB:=hB.below hw
 replace hH:=hH.below hw
 replace hW:=bT hW hw
 clear hw
 have R8:=h8.roomA (us:=ints .u8 r) ((il HRL.out).trans (il (zeros_len 16)).symm)
 have X8:=h8.storedA (us:=ints .u8 r) ((il HRL.out).trans (il (zeros_len 16)).symm)
 have hW2:=Below.setCells hW (g:=w.heap.size+1+1) (by omega) 0 (ints .u8 r).toArray.toList
 with_reducible refine wpList_store_mid (op:=⟨none,.store 54 (.tmp 8) (.tmp 27),_,_,_,_⟩) rfl 54 (.tmp 8) (.tmp 27) rfl (w.heap.size+1+1) 0 (ints .u8 r).toArray rfl rfl R8 (szA inf33 (il HRL.out)) (ints_all _ _) ?_
 go_wp2_with (fail)
 exact ret_rows rfl (w.heap.size+1+1) 0 rfl (ints .u8 r) _ X8.range Tryz.underlying54 rfl (szV inf33 (il HRL.out)) rfl ⟨rfl,hW2⟩
theorem pl_zeros {f:Nat} (h:f≤1000):PLZ f (zeros f):=⟨zeros_len f,h,byt_zeros f⟩
theorem pl_le8 (n:Nat):PLZ 8 (le8 n):=⟨le8_length n,by decide,le8_byt n⟩
theorem atag_any (key nonce be hi:List Int) (AB AH:Option Addr) (lb cb lh ch:Nat) (w:World) (hT:Tabs w) (hk:Hid (key.length=32)) (hn:Hid (nonce.length=12)) (hkb:HByt key) (hnb:HByt nonce) (PB:Hid (PLZ lb be)) (PH:Hid (PLZ lh hi)) (hcb:lb≤cb) (hch:lh≤ch) (hB:Nums w .u8 AB be) (hH:Nums w .u8 AH hi) :
 Calls Tryz.prog 29 #[.agg (ints .u8 key).toArray,.agg (ints .u8 nonce).toArray,.slice AB lb cb,.slice AH lh ch] w fun e w'=>e=.returned (.agg (ints .u8 (atag key nonce be hi)).toArray)∧Below w.heap.size w w':=by
 have hl:=blockL_length (count:=0) hk.out hn.out
 have h1:=fillN_lt lb
 have h2:=fillN_lt lh
 exact atag_core key nonce be hi (onceL key nonce) ((blockL key nonce 0).drop 32) (atag key nonce be hi) (tagT be hi) AB AH lb cb lh ch (fillN lb) (fillN lh) w hT hk hn hkb hnb (hid (List.take_append_drop 32 _).symm) (hid (onceL_len hk.out hn.out)) (hid (onceL_byt _ _)) (hid (by unfold onceL;rw [List.take_append_drop];exact hl))
  PB PH hcb hch (by have:=PB.out.2.1;omega) (by have:=PH.out.2.1;omega) (hid rfl) (hid rfl) (hid (pl_zeros (by omega))) (hid (pl_zeros (by omega))) (hid (pl_le8 _)) (hid (pl_le8 _)) (hid (by unfold tagT;rw [PB.out.1,PH.out.1])) (hid rfl) (hid (atag_len _ _ _ _)) hB hH
end
section
set_option maxRecDepth 50000
def IsTup (m:Nat) (l:List Int):Value→World→Prop:=fun v w=>∃B d,v=.tuple #[.slice B m d,.int .i64 0]∧m≤d∧Nums w .u8 B l
theorem IsTup.grows (m:Nat) (l:List Int):Grows (IsTup m l):=fun _ _ _ ⟨B,d,h1,h2,h3⟩ hb=>⟨B,d,h1,h2,h3.below hb⟩
section
variable {ops:Array Oper} {md:Region.Mode} {W:World} {a0:Act} {n:Nat} {al:Nat→Bool} {S:Nat→Value→World→Prop} {Q:Exit→Act→World→Prop} {i:Nat} {o:Oper}
theorem four_args {x y z u:Operand} {v1 v2 v3 v4:Value} (h1:Knows ops md W a0 n S i x v1) (h2:Knows ops md W a0 n S i y v2) (h3:Knows ops md W a0 n S i z v3) (h4:Knows ops md W a0 n S i u v4):∀(a:Act) (w:World),Cl W w→Fr ops n a0 a→Dp ops md n S i a w→#[x,y,z,u].map a.eval = #[v1,v2,v3,v4]:=fun a w hw hf hd=>by
 have e1:=h1 a w hw hf hd
 have e2:=h2 a w hw hf hd
 have e3:=h3 a w hw hf hd
 have e4:=h4 a w hw hf hd
 simp [e1,e2,e3,e4]
theorem step_fstZ (hal:al i=false) (hg:GuardOn ops md n S i o) {x:Operand} {u v:Value} (ho:o.op=.extract x 0) (hS:S i=Is u) (hx:Knows ops md W a0 n S i x (.tuple #[u,v])):StepOk Tryz.prog ops md W a0 n al S Q i o :=
 step_one hal hg (fun ev w h _=>by
  unfold execOp
  simp only [ho,h]
  go_simp) hS hx
theorem step_sndZ (hal:al i=false) (hg:GuardOn ops md n S i o) {x:Operand} {u v:Value} (ho:o.op=.extract x 1) (hS:S i=Is v) (hx:Knows ops md W a0 n S i x (.tuple #[u,v])):StepOk Tryz.prog ops md W a0 n al S Q i o :=
 step_one hal hg (fun ev w h _=>by
  unfold execOp
  simp only [ho,h]
  go_simp) hS hx
theorem tup_fst (hal:al i=false) (hg:GuardOn ops md n S i o) {x:Operand} {m:Nat} {l:List Int} (ho:o.op=.extract x 0) (hS:S i=IsPart m l) (hx:KnowsW ops md W a0 n S i x (IsTup m l)):StepOk Tryz.prog ops md W a0 n al S Q i o :=
 step_run hal hg fun a w hw hf hd=>by
  obtain ⟨B,d,h1,h2,h3⟩:=hx a w hw hf hd
  refine ⟨.slice B m d,?_,by rw [hS];exact ⟨B,d,rfl,h2,h3⟩⟩
  generalize a.eval=ev at *
  unfold execOp
  simp only [ho,h1]
  go_simp
theorem tup_snd (hal:al i=false) (hg:GuardOn ops md n S i o) {x:Operand} {m:Nat} {l:List Int} (ho:o.op=.extract x 1) (hS:S i=Is (.int .i64 0)) (hx:KnowsW ops md W a0 n S i x (IsTup m l)):StepOk Tryz.prog ops md W a0 n al S Q i o :=
 step_run hal hg fun a w hw hf hd=>by
  obtain ⟨B,d,h1,h2,h3⟩:=hx a w hw hf hd
  refine ⟨.int .i64 0,?_,by rw [hS];exact rfl⟩
  generalize a.eval=ev at *
  unfold execOp
  simp only [ho,h1]
  go_simp
end
end
end Go.Proofs.YtkblmdakejmmhaaGreatDoor
