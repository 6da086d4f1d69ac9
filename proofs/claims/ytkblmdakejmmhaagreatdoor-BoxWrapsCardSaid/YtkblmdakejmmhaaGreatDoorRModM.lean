import Derived.Test.YtkblmdakejmmhaaGreatDoorG4
namespace Go.Proofs.YtkblmdakejmmhaaGreatDoor
open Go Go.RowKit
theorem app_oneG {P:Program} {w:World} {ops:Array Oper} {rest:List Oper} {o:Oper} {a:Act} {Q:Exit→Act→World→Prop} (hgd:o.guard=none) (s x:Operand) (t:TypeId)
 (ho:o.op=.call { callee:=.builtin .append,args:=#[s,x],argTypes:=#[t,t] }) (base:Nat) (e:TypeId) (k:IntKind) (bytes:Nat) (ht:P.underlying t=some (.slice e))
 (hinf:(P.info? e).map (fun i=>(i.zero,i.size,i.bytes))=some (some (.int k 0),1,bytes)) (hbt:0<bytes) (A:Option Addr) (n c:Nat) (xs:List Int) (hs:a.eval s=.slice A n c)
 (hown:Owns w base e k (.slice A n c) xs) (y:Int) (m:Nat) (hx:a.eval x=.slice (some ⟨w.heap.size,0,none⟩) 1 m) (h63:(xs.length+1)*bytes≤140737488355328) (hbase:base≤w.heap.size)
 (h:∀A' n' c' w',Owns w' base e k (.slice A' n' c') (xs++[y])→Grew w w' (.slice A n c) (.slice A' n' c')→wpList P ops Q rest (a.put o.dst (.slice A' n' c')) w') :
 wpList P ops Q (o::rest) a (w.alloc (.cells #[.int k y] e)) :=
 app_nums hgd s x t ho base e k bytes ht hinf hbt A n c xs hs (hown.alloc _) (some ⟨w.heap.size,0,none⟩) m [y] hx (nums_one w k y e) h63 (by simp;omega) fun A' n' c' w' h1 h2=>h A' n' c' w' h1 (Grew.after (below_new w _) h2)
theorem Nums.grew {w w':World} {k:IntKind} {g o:Nat} {xs:List Int} {v v':Value} (h:Nums w k (some ⟨g,o,none⟩) xs) (hG:Grew w w' v v') (hne:v.ownBlock≠some g):Nums w' k (some ⟨g,o,none⟩) xs:=fun hp=>by
 obtain ⟨b,off,e,hlt,hc⟩:=h hp
 injection e with e
 injection e with e1 e2
 subst e1 e2
 exact ⟨g,o,rfl,Nat.lt_of_lt_of_le hlt hG.1.size,fun i hi=>(hG.cell (p:=⟨g,o+i,none⟩) hlt hne).trans (hc i hi)⟩
theorem Grew.far {w w':World} {v v':Value} {g:Nat} (hG:Grew w w' v v') (hne:v.ownBlock≠some g) (hg:g<w.heap.size):v'.ownBlock≠some g:=fun e=>by
 rcases hG.2 with h|h
 ·exact hne (by rw [←h,e])
 ·have:=h g e;omega
theorem pd_digs:Digs PD:=fun v hv=>by
 have h:PD.all (fun v=>decide (v<65536))=true:=by decide
 exact of_decide_eq_true (List.all_eq_true.1 h v hv)
theorem Nums.setOff {w:World} {k:IntKind} {g o:Nat} {xs:List Int} (h:Nums w k (some ⟨g,o,none⟩) xs) {p:Addr} (v:Value) (hp:p.block≠g):Nums (w.setCell p v) k (some ⟨g,o,none⟩) xs:=fun hl=>by
 obtain ⟨b,off,e,hb,hc⟩:=h hl
 injection e with e
 injection e with e1 e2
 subst e1 e2
 refine ⟨g,o,rfl,by simpa using hb,fun i hi=>?_⟩
 rw [World.cell?_setCell_other _ _ _ _ (by intro q;rw [q] at hp;exact hp rfl)]
 exact hc i hi
def rowv (v:Value) (w:World):Nat:=match v with
 | .slice (some ⟨g,o,_⟩) n _=>dv ((List.range n).map fun i=>match w.cell? ⟨g,o+i,none⟩ with
   | some (.int _ x)=>x.toNat
   | _=>0)
 | _=>0
theorem rowv_of {w:World} {k:IntKind} {A:Option Addr} {n c:Nat} {l:List Nat} (h:Nums w k A (nl l)) (hn:l.length=n):rowv (.slice A n c) w=dv l:=by
 subst hn
 cases l with
 | nil =>
   cases A with
   | none=>rfl
   | some p=>obtain ⟨g,o,s⟩:=p;rfl
 | cons a r =>
   obtain ⟨g,o,rfl,_,hc⟩:=h.num (by simp [nl])
   unfold rowv
   dsimp only
   congr 1
   apply List.ext_getElem (by simp)
   intro i h1 h2
   have:=hc i _ (nl_at (l:=a::r) h2)
   have e:(a::r)[i]?.getD 0=(a::r)[i]:=by rw [List.getElem?_eq_getElem h2];rfl
   simp [this,List.getD,e]
theorem Nums.at0 {w:World} {k:IntKind} {g:Nat} {xs:List Int} (h:Nums w k (some ⟨g,0,none⟩) xs) {i:Nat} {x:Int} (hx:xs[i]? = some x):w.cell? ⟨g,i,none⟩=some (.int k x):=by
 obtain ⟨hi,_⟩:=List.getElem?_eq_some_iff.1 hx
 obtain ⟨g2,o2,e,_,hc⟩:=h.num (by omega)
 injection e with e
 injection e with e1 e2
 subst e1 e2
 have:=hc i x hx
 rwa [Nat.zero_add] at this
theorem Nums.lt0 {w:World} {k:IntKind} {g o:Nat} {xs:List Int} (h:Nums w k (some ⟨g,o,none⟩) xs) (hp:0<xs.length):g<w.heap.size:=by
 obtain ⟨g2,o2,e,hl,_⟩:=h.num hp
 injection e with e
 injection e with e1 e2
 subst e1;exact hl
set_option maxRecDepth 4000 in
set_option maxHeartbeats 4000000 in
theorem rmod_any (A:Option Addr) (cA L:Nat) (l:List Nat) (w:World) (hl:l.length=L) (hL1:16≤L) (hn:L≤50) (dl:Digs l) (hA:Nums w .i64 A (nl l)) :
 Calls Tryz.prog 66 #[.slice A L cA] w fun e w'=>∃A' c ys,e=.returned (.slice A' 16 c)∧Hid (ys.length=16∧Digs ys∧dv ys=dv l%NT.PN)∧NumsF w.heap.size w' .i64 A' (nl ys)∧Below w.heap.size w w':=by
 have HL:=hid hl
 have HN:Hid ((nl l).length=L):=hid (by rw [nl_length];exact hl)
 have DL:=hid dl
 clear dl hl
 go_enter Tryz.func66,Tryz.ntmps66
 go_wp2_with (at_builtin;refine app_nums rfl (.tmp 14) (.tmp 15) 60 rfl w.heap.size 3 .i64 8 Tryz.underlying60 Tryz.info3 (by omega) none 0 0 [] rfl (Owns.none_ _ _ _ _) A cA (nl l) (by rw [HN.out];rfl) hA (by rw [HN.out];simp;omega) (by omega) ?_;intro A1 n1 c1 w1 hO1 hG1)
 rw [List.nil_append] at hO1
 have hb1:Below w.heap.size w w1:=hG1.below (by omega) (fun g hg=>by cases hg)
 have hn1:=hO1.len
 rw [HN.out] at hn1
 subst hn1
 clear hG1 hA
 go_loopw [3] (fun v wr=>∃(xs:List Nat) (B:Option Addr) (n c:Nat),v=.slice B n c∧Hid (Digs xs∧xs.length=n∧dv xs%NT.PN=dv l%NT.PN)∧16≤n∧n≤50∧Owns wr w.heap.size 3 .i64 (.slice B n c) (nl xs)∧Below w.heap.size w wr) (fun v wr=>rowv v wr)
 case atStart=>exact ⟨l,A1,n1,c1,rfl,hid ⟨DL.out,HL.out,rfl⟩,by omega,by omega,hO1,hb1⟩
 case round =>
  clear hb1 hO1
  obtain ⟨xs,B,n,c,rfl,HX,hn16,hn100,hO,hb⟩:=hrel
  have HV:Hid (rowv (.slice B n c) wr=dv xs):=hid (rowv_of hO.nums HX.out.2.1)
  rename World=>W1
  go_wp2
  go_loopw [3] (fun v wr=>∃(zs:List Nat) (B:Option Addr) (n c:Nat),v=.slice B n c∧Hid (Digs zs∧zs.length=n∧dv zs=dv xs)∧16≤n∧n≤50∧Owns wr w.heap.size 3 .i64 (.slice B n c) (nl zs)∧Below w.heap.size w wr) (fun v _=>match v with | .slice _ n _=>17 - n|_=>0)
  case atStart=>exact ⟨xs,B,n,c,rfl,hid ⟨HX.out.1,HX.out.2.1,rfl⟩,hn16,hn100,hO,hb⟩
  case round =>
   clear hO hb hn16 hn100
   obtain ⟨zs,B,n,c,rfl,HZ,hn16,hn100,hO,hb⟩:=hrel
   have HZL:Hid ((nl zs).length=n):=hid (by rw [nl_length];exact HZ.out.2.1)
   by_cases hlt:n<17
   ·have hsz:=hb.size
    go_wp2_with (at_builtin;refine app_oneG rfl (.tmp 20) (.tmp 21) 60 rfl w.heap.size 3 .i64 8 Tryz.underlying60 Tryz.info3 (by omega) B n c (nl zs) rfl hO _ 1 rfl (by rw [HZL.out];omega) hsz ?_;intro A' n' c' w2 hO2 hG2)
    have hn':=hO2.len
    rw [List.length_append,HZL.out,List.length_singleton] at hn'
    subst hn'
    go_roundw
    case rel =>
     refine ⟨zs++[0],A',n+1,c',rfl,hid ⟨digs_snoc HZ.out.1 (by omega),by simp [HZ.out.2.1],?_⟩,by omega,by omega,?_,hb.trans (hG2.below hsz (fun g hg=>(hO.lt g hg).1))⟩
     ·rw [dv_snoc,HZ.out.2.2];omega
     ·rw [←nl_snoc];exact hO2
    case measure=>show 17 - (n+1)<17 - n;omega
   ·obtain ⟨gx,rfl,hgx⟩:=hO.block (by rw [HZL.out];omega)
    have hX:=hO.nums
    have hgl:=hX.lt0 (by rw [HZL.out];omega)
    clear hO
    rename World=>W2
    have HH:Hid ((nl (highs zs)).length=n - 15):=hid (by rw [nl_length,highs_length,HZ.out.2.1])
    go_wp2
    go_loopw [4,5] (fun v i wr=>∃(k:Nat) (ps:List Nat) (R:Option Addr) (m d:Nat),15≤k∧k≤n∧i=.int .i64 k∧v=.slice R m d∧Hid (ps=(highs zs).take (k - 15))∧Owns wr w.heap.size 3 .i64 (.slice R m d) (nl ps)∧Nums wr .i64 (some ⟨gx,0,none⟩) (nl zs)∧Hid ((Value.slice R m d).ownBlock≠some gx)∧gx<wr.heap.size∧Below w.heap.size w wr) (fun _ i _=>n - (intOf i).toNat)
    case atStart=>exact ⟨15,[],none,0,0,by omega,by omega,rfl,rfl,hid (by simp),Owns.none_ _ _ _ _,hX,hid (by intro e;cases e),hgl,hb⟩
    case round =>
     clear hX hgl hb
     obtain ⟨k,ps,R,m,d,hk15,hkn,rfl,rfl,HP,hO,hX,HF,hgl,hb⟩:=hrel
     have HPL:Hid ((nl ps).length≤50):=hid (by rw [nl_length,HP.out,List.length_take];omega)
     by_cases hlt2:k<n
     ·have hsz:=hb.size
      have hkz:k<zs.length:=by rw [HZ.out.2.1];exact hlt2
      have ck:=hX.at0 (nl_at hkz)
      have HE:Hid ((highs zs).take (k+1 - 15)=ps++[zs.getD k 0 / 32768+zs.getD (k+1) 0%32768*2]):=hid (by
       have h1:=highs_at (xs:=zs) (i:=k - 15) (by omega)
       have e1:15+(k - 15)=k:=by omega
       rw [e1] at h1
       rw [HP.out,show k+1 - 15=(k - 15)+1 by omega,List.take_add_one,h1];rfl)
      have hx:=getD_dig HZ.out.1 k
      have k0:(0:Int)≤k:=by omega
      have k1:(k:Int)<n:=by omega
      by_cases hlt3:k+1<n
      ·have hkz2:k+1<zs.length:=by rw [HZ.out.2.1];exact hlt3
       have ck2:=hX.at0 (nl_at hkz2)
       have hy:=getD_dig HZ.out.1 (k+1)
       have k2:(k:Int)+1<n:=by omega
       have k2n:((k:Int)+1).toNat=k+1:=by omega
       clear hkz hkz2
       generalize zs.getD k 0=x at *
       generalize zs.getD (k+1) 0=y at *
       have hv:((x / 32768+y%32768*2:Nat):Int)=(x:Int) / 32768+(y:Int)%32768*2:=by omega
       have HV2:=hid hv
       clear hv
       go_wp2_with (at_builtin;refine app_oneG rfl (.tmp 48) (.tmp 50) 60 rfl w.heap.size 3 .i64 8 Tryz.underlying60 Tryz.info3 (by omega) R m d (nl ps) rfl hO _ 1 rfl (by have:=HPL.out;omega) hsz ?_;intro A' n' c' w2 hO2 hG2)
       go_roundw
       case rel =>
        rw [←HV2.out,nl_snoc] at hO2
        exact ⟨k+1,_,A',n',c',by omega,by omega,by go_num,rfl,hid HE.out.symm,hO2,hX.grew hG2 HF.out,hid (hG2.far HF.out hgl),Nat.lt_of_lt_of_le hgl hG2.1.size,hb.trans (hG2.below hsz (fun g hg=>(hO.lt g hg).1))⟩
       case measure=>simp [intOf];omega
      ·have hz0:zs.getD (k+1) 0=0:=by rw [List.getD_eq_getElem?_getD,List.getElem?_eq_none (by rw [HZ.out.2.1];omega)];rfl
       have k2:¬(k:Int)+1<n:=by omega
       rw [hz0] at HE
       clear hkz hz0
       generalize zs.getD k 0=x at *
       have hv:((x / 32768+0%32768*2:Nat):Int)=(x:Int) / 32768:=by omega
       have HV2:=hid hv
       clear hv
       go_wp2_with (at_builtin;refine app_oneG rfl (.tmp 48) (.tmp 50) 60 rfl w.heap.size 3 .i64 8 Tryz.underlying60 Tryz.info3 (by omega) R m d (nl ps) rfl hO _ 1 rfl (by have:=HPL.out;omega) hsz ?_;intro A' n' c' w2 hO2 hG2)
       go_roundw
       case rel =>
        rw [←HV2.out,nl_snoc] at hO2
        exact ⟨k+1,_,A',n',c',by omega,by omega,by go_num,rfl,hid HE.out.symm,hO2,hX.grew hG2 HF.out,hid (hG2.far HF.out hgl),Nat.lt_of_lt_of_le hgl hG2.1.size,hb.trans (hG2.below hsz (fun g hg=>(hO.lt g hg).1))⟩
       case measure=>simp [intOf];omega
     ·have e:k=n:=by omega
      have HPH:Hid (ps=highs zs):=hid (by rw [HP.out,e,List.take_of_length_le (by rw [highs_length,HZ.out.2.1];omega)])
      obtain ⟨hs,hhs⟩:∃hs,hs=highs zs:=⟨_,rfl⟩
      obtain rfl:ps=hs:=by rw [hhs,HPH.out]
      have hm:=hO.len
      have hpl:(nl ps).length=n - 15:=by rw [hhs];exact HH.out
      rw [hpl] at hm
      obtain ⟨gh,rfl,hgh⟩:=hO.block (by rw [hpl];omega)
      have hH:=hO.nums
      have hgl2:=hH.lt0 (by rw [hpl];omega)
      subst hm
      have HS:Hid (ps=highs zs):=HPH
      have HHL:Hid (ps.length=n - 15):=hid (by rw [nl_length] at hpl;exact hpl)
      clear e HPH hhs hpl hO HP HF HPL hk15 hkn HH
      generalize hlhe:n - 15=lh at *
      have HLH:Hid (n - 15=lh):=hid hlhe
      have hlh2:lh≤35:=by omega
      have hlh1:2≤lh:=by omega
      clear hlhe
      rename World=>W3
      go_wp2
      go_loop [7,8] (fun b i=>∃(k:Nat) (bb:Bool),k≤lh∧i=.int .i64 k∧b=.bool bb∧Hid (bb=true↔∀v ∈ ps.take k,v=0)) (fun _ i=>lh - (intOf i).toNat)
      case atStart=>exact ⟨0,true,by omega,rfl,rfl,hid (by simp)⟩
      case round =>
       clear hlt2
       obtain ⟨k,bb,hk,rfl,rfl,HB⟩:=hrel
       by_cases hlt2:k<lh
       ·have hkp:k<ps.length:=by rw [HHL.out];exact hlt2
        have ck:=hH.at0 (nl_at hkp)
        have k0:(0:Int)≤k:=by omega
        have k1:(k:Int)<lh:=by omega
        have HT:Hid (ps.take (k+1)=ps.take k++[ps.getD k 0]):=hid (by rw [List.take_add_one,List.getElem?_eq_getElem hkp];simp [List.getD,hkp])
        generalize ps.getD k 0=x at *
        clear hkp
        cases x with
        | zero =>
          have HC:Hid (bb=true↔∀v ∈ ps.take (k+1),v=0):=hid (by
           rw [HT.out,HB.out]
           exact ⟨fun h v hv=>by
            rcases List.mem_append.1 hv with h1|h1
            ·exact h v h1
            ·simpa using h1,fun h v hv=>h v (List.mem_append_left _ hv)⟩)
          clear HT HB
          go_wp2
          go_round
          case rel=>exact ⟨k+1,bb,by omega,by go_num,rfl,HC⟩
          case measure=>simp [intOf];omega
        | succ x =>
          have HC:Hid (false=true↔∀v ∈ ps.take (k+1),v=0):=hid (by
           rw [HT.out]
           refine ⟨fun h=>(by cases h),fun h=>?_⟩
           have:=h (x+1) (by simp)
           omega)
          have dpos:(0:Int)<((x+1:Nat):Int):=by omega
          clear HT HB
          go_wp2
          go_round
          case rel=>exact ⟨k+1,false,by omega,by go_num,rfl,HC⟩
          case measure=>simp [intOf];omega
       ·have HB2:Hid (bb=true↔∀v ∈ ps,v=0):=hid (by have:=HB.out;rwa [List.take_of_length_le (by rw [HHL.out];omega)] at this)
        clear HB hk
        go_wp2
        go_loopw [9,10] (fun v i wr=>∃(k:Nat) (R:Option Addr) (m e:Nat),k≤15∧i=.int .i64 k∧v=.slice R m e∧Owns wr w.heap.size 3 .i64 (.slice R m e) (nl (zs.take k))∧Nums wr .i64 (some ⟨gx,0,none⟩) (nl zs)∧Hid ((Value.slice R m e).ownBlock≠some gx)∧gx<wr.heap.size∧Nums wr .i64 (some ⟨gh,0,none⟩) (nl ps)∧Hid ((Value.slice R m e).ownBlock≠some gh)∧gh<wr.heap.size∧Below w.heap.size w wr) (fun _ i _=>15 - (intOf i).toNat)
        case atStart=>exact ⟨0,none,0,0,by omega,rfl,rfl,Owns.none_ _ _ _ _,hX,hid (by intro e;cases e),hgl,hH,hid (by intro e;cases e),hgl2,hb⟩
        case round =>
         clear hX hgl hb hH hgl2 hlt2
         obtain ⟨k,R,m,e,hk,rfl,rfl,hO,hX,HF,hgl,hH,HF2,hgl2,hb⟩:=hrel
         have hsz:=hb.size
         by_cases hlt2:k<15
         ·have hkz:k<zs.length:=by rw [HZ.out.2.1];omega
          have ck:=hX.at0 (nl_at hkz)
          have HPL:Hid ((nl (zs.take k)).length≤50):=hid (by rw [nl_length,List.length_take];omega)
          have HT:Hid (nl (zs.take (k+1))=nl (zs.take k)++[((zs.getD k 0:Nat):Int)]):=hid (by rw [nl_snoc,List.take_add_one,List.getElem?_eq_getElem hkz];simp [List.getD,hkz])
          generalize zs.getD k 0=x at *
          have k0:(0:Int)≤k:=by omega
          have k1:(k:Int)<n:=by omega
          clear hkz
          go_wp2_with (at_builtin;refine app_oneG rfl (.tmp 67) (.tmp 72) 60 rfl w.heap.size 3 .i64 8 Tryz.underlying60 Tryz.info3 (by omega) R m e (nl (zs.take k)) rfl hO _ 1 rfl (by have:=HPL.out;omega) hsz ?_;intro A' n' c' w2 hO2 hG2)
          go_roundw
          case rel =>
           rw [←HT.out] at hO2
           exact ⟨k+1,A',n',c',by omega,by go_num,rfl,hO2,hX.grew hG2 HF.out,hid (hG2.far HF.out hgl),Nat.lt_of_lt_of_le hgl hG2.1.size,hH.grew hG2 HF2.out,hid (hG2.far HF2.out hgl2),Nat.lt_of_lt_of_le hgl2 hG2.1.size,hb.trans (hG2.below hsz (fun g hg=>(hO.lt g hg).1))⟩
          case measure=>simp [intOf];omega
         ·have e1:k=15:=by omega
          subst e1
          have hkz:15<zs.length:=by rw [HZ.out.2.1];omega
          have ck:=hX.at0 (nl_at hkz)
          have HPL:Hid ((nl (zs.take 15)).length≤50):=hid (by rw [nl_length,List.length_take];omega)
          have HT:Hid (nl (lows zs)=nl (zs.take 15)++[((zs.getD 15 0%32768:Nat):Int)]):=hid (by unfold lows;rw [nl_snoc])
          generalize zs.getD 15 0=x at *
          have hv:((x%32768:Nat):Int)=(x:Int)%32768:=by omega
          have k1:(15:Int)<n:=by omega
          have HV3:=hid hv
          clear hkz hv
          have hzl:16≤zs.length:=by rw [HZ.out.2.1];exact hn16
          have HD:Hid (Digs (lows zs)∧(lows zs).length=16∧dv (lows zs)<Q255∧dv zs=dv (lows zs)+Q255*dv ps):=hid ⟨lows_digs HZ.out.1,lows_length hzl,lows_lt HZ.out.1 hzl,by rw [HS.out];exact split255 hzl⟩
          clear hzl
          generalize lows zs=lo at *
          cases bb
          ·have HPOS:Hid (0<dv ps):=hid (by
            refine Nat.pos_of_ne_zero fun e0=>?_
            have h1:∀v ∈ ps,v=0:=fun v hv=>by
             rcases Nat.eq_zero_or_pos v with h|h
             ·exact h
             ·have:=dv_pos_of hv h;omega
            exact absurd (HB2.out.2 h1) (by decide))
           clear HB2
           have HPD2:Hid (Digs ps):=hid (by rw [HS.out];exact highs_digs HZ.out.1)
           go_wp2_with (at_builtin;refine app_oneG rfl (.tmp 74) (.tmp 79) 60 rfl w.heap.size 3 .i64 8 Tryz.underlying60 Tryz.info3 (by omega) R m e (nl (zs.take 15)) rfl hO _ 1 rfl (by have:=HPL.out;omega) hsz ?_;intro A' n' c' w2 hO2 hG2)
           rw [←HV3.out,←HT.out] at hO2
           have hm2:=hO2.len
           rw [nl_length,HD.out.2.1] at hm2
           subst hm2
           replace hb:=hb.trans (hG2.below hsz (fun g hg=>(hO.lt g hg).1))
           replace hH:=hH.grew hG2 HF2.out
           replace HF2:Hid ((Value.slice A' 16 c').ownBlock≠some gh):=hid (hG2.far HF2.out hgl2)
           replace hgl2:=Nat.lt_of_lt_of_le hgl2 hG2.1.size
           clear hX hgl HF hG2 hO HT HV3 HPL
           go_loopw [9] (fun v wr=>∃(qs:List Nat) (R:Option Addr) (m e:Nat),v=.slice R m e∧Hid (Digs qs∧qs.length=m∧dv qs=dv lo)∧16≤m∧m≤36∧Owns wr w.heap.size 3 .i64 (.slice R m e) (nl qs)∧Nums wr .i64 (some ⟨gh,0,none⟩) (nl ps)∧Hid ((Value.slice R m e).ownBlock≠some gh)∧gh<wr.heap.size∧Below w.heap.size w wr) (fun v _=>match v with | .slice _ m _=>lh+1 - m|_=>0)
           case atStart=>exact ⟨lo,A',16,c',rfl,hid ⟨HD.out.1,HD.out.2.1,rfl⟩,by omega,by omega,hO2,hH,HF2,hgl2,hb⟩
           case round =>
            clear hO2 hH HF2 hgl2 hb hlt2 hsz
            obtain ⟨qs,R,m,e,rfl,HQ,hm16,hm36,hO,hH,HF2,hgl2,hb⟩:=hrel
            have hsz:=hb.size
            have HQL:Hid ((nl qs).length=m):=hid (by rw [nl_length];exact HQ.out.2.1)
            by_cases hlt2:m<lh+1
            ·have hlt2i:(m:Int)<(lh:Int)+1:=by omega
             go_wp2_with (at_builtin;refine app_oneG rfl (.tmp 95) (.tmp 96) 60 rfl w.heap.size 3 .i64 8 Tryz.underlying60 Tryz.info3 (by omega) R m e (nl qs) rfl hO _ 1 rfl (by rw [HQL.out];omega) hsz ?_;intro A' n' c' w2 hO2 hG2)
             have hn':=hO2.len
             rw [List.length_append,HQL.out,List.length_singleton] at hn'
             subst hn'
             go_roundw
             case rel =>
              refine ⟨qs++[0],A',m+1,c',rfl,hid ⟨digs_snoc HQ.out.1 (by omega),by simp [HQ.out.2.1],?_⟩,by omega,by omega,?_,hH.grew hG2 HF2.out,hid (hG2.far HF2.out hgl2),Nat.lt_of_lt_of_le hgl2 hG2.1.size,hb.trans (hG2.below hsz (fun g hg=>(hO.lt g hg).1))⟩
              ·rw [dv_snoc,HQ.out.2.2];omega
              ·rw [←nl_snoc];exact hO2
             case measure=>show lh+1 - (m+1)<lh+1 - m;omega
            ·have hlt2i:¬(m:Int)<(lh:Int)+1:=by omega
             obtain ⟨gl,rfl,hgl⟩:=hO.block (by rw [HQL.out];omega)
             have hlm:lh+1≤m:=by omega
             have HNE:Hid (gl≠gh):=hid (fun e0=>HF2.out (by rw [e0];rfl))
             clear HF2
             go_wp2
             go_loopw [11,12] (fun v i wr=>∃(k cy:Nat) (ts:List Nat),k≤m∧i=.int .i64 k∧v=.int .i64 cy∧Hid (AddI qs ps ts cy k)∧cy≤20∧Owns wr w.heap.size 3 .i64 (.slice (some ⟨gl,0,none⟩) m e) (nl ts)∧Nums wr .i64 (some ⟨gh,0,none⟩) (nl ps)∧Below w.heap.size w wr) (fun _ i _=>m - (intOf i).toNat)
             case atStart=>exact ⟨0,0,qs,by omega,rfl,rfl,hid ⟨rfl,HQ.out.1,by omega,by simp [dv]⟩,by omega,hO,hH,hb⟩
             case round =>
              clear hO hH hb hgl2 hsz hlt2 hlt2i
              obtain ⟨k,cy,ts,hk,rfl,rfl,HI,hcy,hO,hH,hb⟩:=hrel
              by_cases hlt2:k<m
              ·have hkt:k<(nl ts).length:=by rw [nl_length,HI.out.1,HQ.out.2.1];exact hlt2
               obtain ⟨x',cx,fx,HXX⟩:=hO.spot hkt
               have hx':=(nl_at (l:=ts) (i:=k) (by simpa using hkt)).symm.trans HXX.out
               injection hx' with hx'
               rw [←hx'] at cx
               clear hx' HXX hkt x'
               have hx:=getD_dig HI.out.2.1 k
               have HST:Hid (∀n,n=ts.getD k 0+cy+(if k<ps.length then 19*ps.getD k 0 else 0)→AddI qs ps (ts.set k (n%65536)) (n / 65536) (k+1)):=hid fun n hn0=>HI.out.step HPD2.out (by rw [HQ.out.2.1];exact hlt2) hn0
               have hOS:∀v:Nat,Owns (World.setCell _ ⟨gl,k,none⟩ (.int .i64 (v:Int))) w.heap.size 3 .i64 (.slice (some ⟨gl,0,none⟩) m e) (nl (ts.set k v)):=fun v=>by rw [←nl_set];exact hO.store k (v:Int)
               have HOS:=hid hOS
               clear hOS
               generalize ts.getD k 0=x at *
               have k0:(0:Int)≤k:=by omega
               have k1:(k:Int)<m:=by omega
               by_cases hlt3:k<lh
               ·have hkp:k<ps.length:=by rw [HHL.out];exact hlt3
                have cy2:=hH.at0 (nl_at hkp)
                have hy:=getD_dig HPD2.out k
                have HST2:=hid (HST.out (x+cy+19*ps.getD k 0) (by rw [if_pos hkp]))
                clear HST hkp
                generalize ps.getD k 0=y at *
                have k2:(k:Int)<lh:=by omega
                have e1:(((x+cy+19*y)%65536:Nat):Int)=((x:Int)+cy+19*y)%65536:=by omega
                have e2:Value.int .i64 (((x:Int)+cy+19*y) / 65536)=Value.int .i64 (((x+cy+19*y) / 65536:Nat):Int):=by congr 1
                have E1:=hid e1
                have E2:=hid e2
                clear e1 e2
                go_wp2
                go_roundw
                case rel =>
                 have h:=HOS.out ((x+cy+19*y)%65536)
                 rw [E1.out] at h
                 exact ⟨k+1,(x+cy+19*y) / 65536,_,by omega,by go_num,E2.out,HST2,by omega,h,hH.setOff _ (by exact HNE.out),hb.setCell hgl _⟩
                case measure=>simp [intOf];omega
               ·have hkp:¬k<ps.length:=by rw [HHL.out];exact hlt3
                have HST2:=hid (HST.out (x+cy) (by rw [if_neg hkp];rfl))
                clear HST hkp
                have k2:¬(k:Int)<lh:=by omega
                have e1:(((x+cy)%65536:Nat):Int)=((x:Int)+cy)%65536:=by omega
                have e2:Value.int .i64 (((x:Int)+cy) / 65536)=Value.int .i64 (((x+cy) / 65536:Nat):Int):=by congr 1
                have E1:=hid e1
                have E2:=hid e2
                clear e1 e2
                go_wp2
                go_roundw
                case rel =>
                 have h:=HOS.out ((x+cy)%65536)
                 rw [E1.out] at h
                 exact ⟨k+1,(x+cy) / 65536,_,by omega,by go_num,E2.out,HST2,by omega,h,hH.setOff _ (by exact HNE.out),hb.setCell hgl _⟩
                case measure=>simp [intOf];omega
              ·have e0:k=m:=by omega
               have HI2:Hid (AddI qs ps ts cy qs.length):=hid (by rw [HQ.out.2.1,←e0];exact HI.out)
               have HE:=hid (HI2.out.end_ (by rw [HHL.out,HQ.out.2.1];omega))
               have HTL:Hid (Digs ts∧ts.length=m):=hid ⟨HI.out.2.1,by rw [HI.out.1,HQ.out.2.1]⟩
               clear e0 HI
               have hsz:=hb.size
               have HTN:Hid ((nl ts).length=m):=hid (by rw [nl_length];exact HTL.out.2)
               have HFIN:Hid (∀N:Nat,N=dv qs+19*dv ps→N%NT.PN=dv l%NT.PN∧N<dv xs):=hid fun N hN=>by
                have h1:=HD.out.2.2.2
                have h2:=HPOS.out
                rw [HZ.out.2.2] at h1
                rw [←HX.out.2.2,h1,hN,HQ.out.2.2]
                have e:dv lo+Q255*dv ps=dv lo+19*dv ps+NT.PN*dv ps:=by
                 generalize dv ps=t
                 unfold Q255 NT.PN
                 omega
                rw [e,Nat.add_mul_mod_self_left]
                refine ⟨rfl,?_⟩
                generalize dv ps=t at *
                unfold NT.PN
                omega
               cases cy with
               | zero =>
                 go_wp2
                 go_roundw
                 case rel =>
                  have h:=HE.out
                  rw [dv_snoc,Nat.zero_mul,Nat.add_zero] at h
                  exact ⟨ts,some ⟨gl,0,none⟩,m,e,rfl,hid ⟨HTL.out.1,HTL.out.2,(HFIN.out _ h).1⟩,by omega,by omega,hO,hb⟩
                 case measure =>
                  have h:=HE.out
                  rw [dv_snoc,Nat.zero_mul,Nat.add_zero] at h
                  rw [rowv_of hO.nums HTL.out.2,HV.out]
                  exact (HFIN.out _ h).2
               | succ cy =>
                 have dpos:(0:Int)<((cy+1:Nat):Int):=by omega
                 go_wp2_with (at_builtin;refine app_oneG rfl (.tmp 130) (.tmp 132) 60 rfl w.heap.size 3 .i64 8 Tryz.underlying60 Tryz.info3 (by omega) (some ⟨gl,0,none⟩) m e (nl ts) rfl hO _ 1 rfl (by rw [HTN.out];omega) hsz ?_;intro A' n' c' w2 hO2 hG2)
                 have hn':=hO2.len
                 rw [List.length_append,HTN.out,List.length_singleton] at hn'
                 subst hn'
                 have hO3:Owns w2 w.heap.size 3 .i64 (.slice A' (m+1) c') (nl (ts++[cy+1])):=by rw [←nl_snoc];exact hO2
                 go_roundw
                 case rel =>
                  exact ⟨ts++[cy+1],A',m+1,c',rfl,hid ⟨digs_snoc HTL.out.1 (by omega),by simp [HTL.out.2],(HFIN.out _ HE.out).1⟩,by omega,by omega,hO3,hb.trans (hG2.below hsz (fun g hg=>(hO.lt g hg).1))⟩
                 case measure =>
                  rw [rowv_of hO3.nums (by simp [HTL.out.2]),HV.out]
                  exact (HFIN.out _ HE.out).2
          ·have HE:Hid (dv zs=dv lo):=hid (by rw [HD.out.2.2.2,dv_zero_of (HB2.out.1 rfl)];omega)
           clear HB2
           go_wp2_with (at_builtin;refine app_oneG rfl (.tmp 74) (.tmp 79) 60 rfl w.heap.size 3 .i64 8 Tryz.underlying60 Tryz.info3 (by omega) R m e (nl (zs.take 15)) rfl hO _ 1 rfl (by have:=HPL.out;omega) hsz ?_;intro A' n' c' w2 hO2 hG2)
           rw [←HV3.out,←HT.out] at hO2
           have hm2:=hO2.len
           rw [nl_length,HD.out.2.1] at hm2
           subst hm2
           replace hb:=hb.trans (hG2.below hsz (fun g hg=>(hO.lt g hg).1))
           clear hX hgl hH hgl2 HF HF2 hG2 hO
           have hsz2:=hb.size
           refine (rp_any _).mono ?_
           rintro e3 w3 ⟨A3,c3,rfl,hN3,hb3⟩
           replace hO2:=hO2.stay hb3
           replace hb:=hb.trans (hb3.mono hsz2)
           have hsz3:=hb.size
           go_wp2_with (fail)
           refine (al_any _ _ _ _ 16 lo PD _ HD.out.2.1 (by decide) (by omega) HD.out.1 pd_digs hO2.nums hN3.nums).mono ?_
           rintro e4 w4 ⟨b,rfl,HBB,hw4⟩
           have hb4:=hw4.below
           replace hO2:=hO2.stay hb4
           replace hb:=hb.trans (hb4.mono hsz3)
           have hsz4:=hb.size
           clear hw4 hb4 hN3 hb3
           have HPD:Hid (dv PD=NT.PN):=hid (by decide)
           cases b
           ·have hlt4:Hid (dv lo<NT.PN):=hid (by have:=of_decide_eq_false HBB.out.symm;rw [HPD.out] at this;omega)
            go_wp2
            go_ret
            refine ⟨A',c',lo,rfl,hid ⟨HD.out.2.1,HD.out.1,?_⟩,hO2.fresh,hb⟩
            rw [←HX.out.2.2,←HZ.out.2.2,HE.out,Nat.mod_eq_of_lt hlt4.out]
           ·have hge4:Hid (dv PD≤dv lo):=hid (of_decide_eq_true HBB.out.symm)
            go_wp2_with (fail)
            refine (rp_any _).mono ?_
            rintro e5 w5 ⟨A5,c5,rfl,hN5,hb5⟩
            replace hO2:=hO2.stay hb5
            replace hb:=hb.trans (hb5.mono hsz4)
            have hsz5:=hb.size
            go_wp2_with (fail)
            refine (le_any _ _ _ _ 16 lo PD _ HD.out.2.1 (by decide) (by omega) HD.out.1 pd_digs hge4.out hO2.nums hN5.nums).mono ?_
            rintro e6 w6 ⟨A6,c6,ys,rfl,HYS,hN6,hb6⟩
            go_wp2
            go_ret
            refine ⟨A6,c6,ys,rfl,hid ⟨HYS.out.1,HYS.out.2.1,?_⟩,hN6.less hsz5,hb.trans (hb6.mono hsz5)⟩
            have h1:=HD.out.2.2.1
            have h2:=hge4.out
            rw [←HX.out.2.2,←HZ.out.2.2,HE.out,HYS.out.2.2,HPD.out]
            rw [HPD.out] at h2
            rw [Nat.mod_eq_sub_mod h2,Nat.mod_eq_of_lt]
            unfold NT.PN Q255 at *
            omega
end Go.Proofs.YtkblmdakejmmhaaGreatDoor
