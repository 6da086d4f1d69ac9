import Derived.Test.YtkblmdakejmmhaaGreatDoorG30
namespace Go.Proofs.YtkblmdakejmmhaaGreatDoor
open Go Go.RowKit
section
set_option maxRecDepth 50000
theorem afill_any (A:Option Addr) (n c f:Nat) (w:World) (hn:n≤4096) (hf:fillN n=f) :
 Calls Tryz.prog 61 #[.slice A n c] w fun e w'=>∃B,e=.returned (.slice B f f)∧Nums w' .u8 B (zeros f)∧Below w.heap.size w w':=by
 obtain ⟨i0,hi0,hz0,hz1,hz2⟩:=info_parts Tryz.info5
 have hf16:f<16:=by rw [←hf];exact fillN_lt n
 have e1:(n:Int).tmod 16=((n%16:Nat):Int):=by rw [Int.tmod_eq_emod_of_nonneg (by omega)];omega
 have e2:((16:Int) - ((n%16:Nat):Int)).tmod 16=(f:Int):=by
  rw [Int.tmod_eq_emod_of_nonneg (by omega),←hf]
  unfold fillN
  omega
 have b1:((n%16:Nat):Int)<16:=by omega
 have b0:(0:Int)≤((n%16:Nat):Int):=by omega
 clear hf
 generalize ((n%16:Nat):Int)=r at *
 have hn1:(n:Int)≤4096:=by omega
 go_enter Tryz.func61,Tryz.ntmps61
 go_wp2_with (at_make;refine wpList_make_full _ rfl _ _ 23 rfl w.heap.size 5 i0 _ 1 Tryz.underlying23 hi0 hz0 hz1 .i64 .i64 _ _ f rfl rfl ?_ ?_ ?_ ?_ ?_ ?_)
 ·rfl
 ·rfl
 ·rw [hz2];omega
 ·unfold maxLen;omega
 ·exact Nat.le_refl _
 intro w1 hown hgrow
 have hb1:Below w.heap.size w w1:=(Below.refl _ _).grown hgrow (Nat.le_refl _) (by simp)
 have hO:Owns w1 w.heap.size 5 .u8 (.slice (some ⟨w.heap.size,0,none⟩) f f) (zeros f):=by
  unfold Owns zeros
  rw [List.length_replicate,List.map_replicate,←toList_madeCells_one]
  exact hown
 clear hown hgrow
 go_wp2
 go_ret
 exact ⟨_,rfl,hO.nums,hb1⟩
theorem alen_any (A:Option Addr) (n c:Nat) (w:World) (hn:n≤4096) :
 Calls Tryz.prog 62 #[.slice A n c] w fun e w'=>∃B d,e=.returned (.slice B 8 d)∧8≤d∧Nums w' .u8 B (le8 n)∧Below w.heap.size w w':=by
 go_enter Tryz.func62,Tryz.ntmps62
 go_wp2_with (go_at_call 93;refine (wlow8 n _ hn).mono ?_;rintro e w' ⟨B,d,rfl,hd,hN,hb⟩)
 go_ret
 exact ⟨B,d,rfl,hd,hN,hb⟩
end
section
set_option maxHeartbeats 1000000
set_option maxRecDepth 50000
theorem al_anyZ (A B:Option Addr) (cA cB L:Nat) (l m:List Nat) (w:World) (hl:l.length=L) (hm:m.length=L) (hn:L≤1000) (dl:Digs l) (dm:Digs m) (hA:Nums w .i64 A (nl l)) (hB:Nums w .i64 B (nl m)) :
 Calls Tryz.prog 67 #[.slice A L cA,.slice B L cB] w fun e w'=>∃b,e=.returned (.bool b)∧Hid (b=decide (dv m≤dv l))∧Drawn w w':=by
 have HL:=hid hl
 have HM:=hid hm
 have DL:=hid dl
 have DM:=hid dm
 clear dl dm hl hm
 have hlw:IntKind.i64.wrap ((L:Int) - 1)=(L:Int) - 1:=IntWalk.i64_in _ (by omega)
 go_enter Tryz.func67,Tryz.ntmps67
 go_wp2
 go_loopw [5] (fun i wr=>∃j:Nat,j≤L∧i=.int .i64 ((j:Int) - 1)∧Hid (l.drop j=m.drop j)∧Drawn w wr) (fun i _=>(intOf i+1).toNat)
 case atStart=>exact ⟨L,by omega,rfl,hid (by rw [List.drop_of_length_le (by rw [HL.out];omega),List.drop_of_length_le (by rw [HM.out];omega)]),Drawn.refl _⟩
 case round =>
  obtain ⟨j,hj,rfl,HD,HW⟩:=hrel
  cases j with
  | zero =>
    have hz:((0:Nat):Int) - 1 = -1:=by omega
    rw [hz]
    have HE:Hid (l=m):=HD
    go_wp2
    go_ret
    exact ⟨true,rfl,hid (by rw [HE.out];simp),HW⟩
  | succ i =>
    have hz:((i+1:Nat):Int) - 1=(i:Int):=by omega
    rw [hz]
    have hil:i<l.length:=by rw [HL.out];omega
    have him:i<m.length:=by rw [HM.out];omega
    obtain ⟨g,o,rfl,_,cA0⟩:=hA.num (by rw [nl_length,HL.out];omega)
    obtain ⟨g2,o2,rfl,_,cB0⟩:=hB.num (by rw [nl_length,HM.out];omega)
    have clZ:=HW.cell (cA0 i _ (nl_at hil))
    have cm:=HW.cell (cB0 i _ (nl_at him))
    have HC:Hid (l.getD i 0≠m.getD i 0→(dv m≤dv l↔m.getD i 0<l.getD i 0)):=hid fun h=>cmp_at DL.out DM.out hil him HD.out h
    have HS:Hid (l.getD i 0=m.getD i 0→l.drop i=m.drop i):=hid fun h=>by rw [drop_step hil,drop_step him,h,HD.out]
    clear cA0 cB0 hil him
    generalize l.getD i 0=x at *
    generalize m.getD i 0=y at *
    have i0:(0:Int)≤i:=by omega
    have i1:(i:Int)<L:=by omega
    have iw:IntKind.i64.wrap ((i:Int) - 1)=(i:Int) - 1:=IntWalk.i64_in _ (by omega)
    by_cases hxy:x=y
    ·have hne:((x:Int) != (y:Int))=false:=by simp [hxy]
     have HT:=hid (HS.out hxy)
     clear HC HS hz hxy
     go_wp2
     go_quiet (fail)
     go_wp2
     go_roundw
     case rel=>exact ⟨i,by omega,rfl,HT,HW.more _⟩
     case measure=>simp [intOf]
    ·have hne:((x:Int) != (y:Int))=true:=by simp only [bne_iff_ne];omega
     have HT:=hid (HC.out hxy)
     clear HC HS hz hxy
     go_wp2
     go_quiet (fail)
     go_wp2
     go_quiet (fail)
     go_wp2
     go_ret
     exact ⟨decide (y<x),by simp,hid (decide_eq_decide.2 HT.out).symm,(HW.more _).more _⟩
theorem app_oneP {P:Program} {w:World} {ops:Array Oper} {rest:List Oper} {o:Oper} {a:Act} {Q:Exit→Act→World→Prop} (hgd:o.guard=none) (s x:Operand) (t:TypeId)
 (ho:o.op=.call { callee:=.builtin .append,args:=#[s,x],argTypes:=#[t,t] }) (base:Nat) (e:TypeId) (k:IntKind) (bytes:Nat) (ht:P.underlying t=some (.slice e))
 (hinf:(P.info? e).map (fun i=>(i.zero,i.size,i.bytes))=some (some (.int k 0),1,bytes)) (hbt:0<bytes) (A:Option Addr) (n c:Nat) (xs:List Int) (hs:a.eval s=.slice A n c)
 (hown:Owns w base e k (.slice A n c) xs) (y:Int) (m:Nat) (hx:a.eval x=.slice (some ⟨w.heap.size,0,none⟩) 1 m) (h63:(xs.length+1)*bytes≤140737488355328) (hbase:base≤w.heap.size)
 (h:∀A' n' c' w',Owns w' base e k (.slice A' n' c') (xs++[y])→Grew w w' (.slice A n c) (.slice A' n' c')→wpList P ops Q rest (a.put o.dst (.slice A' n' c')) w') :
 wpList P ops Q (o::rest) a (w.alloc (.cells #[.int k y] e)) :=
 app_nums hgd s x t ho base e k bytes ht hinf hbt A n c xs hs (hown.alloc _) (some ⟨w.heap.size,0,none⟩) m [y] hx (nums_one w k y e) h63 (by simp;omega) fun A' n' c' w' h1 h2=>h A' n' c' w' h1 (Grew.after (below_new w _) h2)
theorem Grew.farP {w w':World} {v v':Value} {g:Nat} (hG:Grew w w' v v') (hne:v.ownBlock≠some g) (hg:g<w.heap.size):v'.ownBlock≠some g:=fun e=>by
 rcases hG.2 with h|h
 ·exact hne (by rw [←h,e])
 ·have:=h g e;omega
def SumIZ (l m ys:List Nat) (cyZ k:Nat):Prop:=ys.length=k∧Digs ys∧cyZ≤1∧dv ys+cyZ*65536^k=dv (l.take k)+dv (m.take k)
theorem SumIZ.step {l m ys:List Nat} {cyZ k:Nat} (h:SumIZ l m ys cyZ k) (h1:k<l.length) (h2:k<m.length) (dl:Digs l) (dm:Digs m):SumIZ l m (ys++[(l.getD k 0+m.getD k 0+cyZ)%65536]) ((l.getD k 0+m.getD k 0+cyZ) / 65536) (k+1):=by
 obtain ⟨a,b,c,e⟩:=h
 have g1:l[k]? = some (l.getD k 0):=by rw [List.getD_eq_getElem?_getD,List.getElem?_eq_getElem h1];rfl
 have g2:m[k]? = some (m.getD k 0):=by rw [List.getD_eq_getElem?_getD,List.getElem?_eq_getElem h2];rfl
 have hx:=getD_dig dl k
 have hy:=getD_dig dm k
 refine ⟨by simp [a],digs_snoc b (Nat.mod_lt _ (by omega)),by omega,?_⟩
 rw [dv_snoc,a,dv_take_succ l k _ g1,dv_take_succ m k _ g2,Nat.pow_succ]
 generalize l.getD k 0=x at *
 generalize m.getD k 0=y at *
 have hdm:=Nat.div_add_mod (x+y+cyZ) 65536
 generalize (x+y+cyZ)%65536=r at *
 generalize (x+y+cyZ) / 65536=q at *
 generalize 65536^k=P at *
 have h3:(65536*q+r)*P=(x+y+cyZ)*P:=by rw [hdm]
 have h4:q*(P*65536)=65536*q*P:=by rw [Nat.mul_comm P,←Nat.mul_assoc,Nat.mul_comm q]
 rw [Nat.add_mul,Nat.add_mul,Nat.add_mul] at h3
 rw [h4]
 omega
def pr:List Int→List Int
 | []=>[]
 | [a]=>[a]
 | a::b::r=>(a+256*b)::pr r
theorem pr_ev:∀l,ev (pr l)=bv l
 | []=>rfl
 | [a]=>by simp [pr,ev,bv]
 | a::b::r=>by simp only [pr,ev,bv,pr_ev r];omega
theorem pr_length:∀l:List Int,(pr l).length=(l.length+1) / 2
 | []=>rfl
 | [a]=>by simp [pr]
 | a::b::r=>by simp only [pr,List.length_cons,pr_length r];omega
theorem pr_at:∀(l:List Int) (i:Nat),2*i<l.length→(pr l)[i]? = some (l.getD (2*i) 0+256*l.getD (2*i+1) 0)
 | [],i,h=>by simp at h
 | [a],i,h=>by
   have:i=0:=by simp at h;omega
   subst this
   simp [pr]
 | a::b::r,0,h=>by simp [pr]
 | a::b::r,i+1,h=>by
   have h1:=pr_at r i (by simp at h;omega)
   simp only [pr,List.getElem?_cons_succ,h1]
   have e:2*(i+1)=2*i+1+1:=by omega
   rw [e]
   simp
theorem pr_byt:∀l:List Int,Byt l→∀x ∈ pr l,0≤x∧x<65536
 | [],_,x,hx=>by simp [pr] at hx
 | [a],h,x,hx=>by
   have:=h a (by simp)
   simp [pr] at hx
   omega
 | a::b::r,h,x,hx=>by
   have h1:=h a (by simp)
   have h2:=h b (by simp)
   rcases List.mem_cons.1 hx with e|e
   ·omega
   ·exact pr_byt r (fun y hy=>h y (by simp [hy])) x e
theorem nl_of {l:List Int} (h:∀x ∈ l,0≤x∧x<65536):∃a:List Nat,nl a=l∧a.length=l.length∧Digs a∧dv a=(ev l).toNat:=by
 have h1:nl (l.map Int.toNat)=l:=by
  unfold nl
  rw [List.map_map]
  conv=>rhs;rw [←List.map_id l]
  refine List.map_congr_left fun x hx=>?_
  have:=h x hx
  simp;omega
 refine ⟨l.map Int.toNat,h1,by rw [List.length_map],fun v hv=>?_,?_⟩
 ·obtain ⟨x,hx,rfl⟩:=List.mem_map.1 hv
  have:=h x hx
  omega
 ·have h2:=ev_nl (l.map Int.toNat)
  rw [h1] at h2
  rw [h2];simp
theorem pr_nl {l:List Int} (h:Byt l):∃a:List Nat,nl a=pr l∧a.length=(l.length+1) / 2∧Digs a∧dv a=bn l:=by
 obtain ⟨a,h1,h2,h3,h4⟩:=nl_of (pr_byt l h)
 exact ⟨a,h1,by rw [h2,pr_length],h3,by rw [h4,pr_ev];rfl⟩
def DL:List Int:=[163,120,89,19,202,77,235,117,171,216,65,65,77,10,112,0,152,232,121,119,121,64,199,140,115,254,111,43,238,108,3,82]
theorem le_own (A B:Option Addr) (cA cB L:Nat) (l m:List Nat) (w:World) (hl:l.length=L) (hm:m.length=L) (hn:L≤1000) (dl:Digs l) (dm:Digs m) (hle:dv m≤dv l) (hA:Nums w .i64 A (nl l)) (hB:Nums w .i64 B (nl m)) :
 Calls Tryz.prog 41 #[.slice A L cA,.slice B L cB] w fun e w'=>∃A' c ys,e=.returned (.slice A' L c)∧Hid (ys.length=L∧Digs ys∧dv ys=dv l - dv m)∧Owns w' w.heap.size 3 .i64 (.slice A' L c) (nl ys)∧Below w.heap.size w w':=by
 have HL:=hid hl
 have HM:=hid hm
 have DL:=hid dl
 have DM:=hid dm
 have HLE:=hid hle
 clear dl dm hl hm hle
 go_enter Tryz.func41,Tryz.ntmps41
 go_wp2
 go_loopw [5,6,7] (fun v b i wr=>∃(k:Nat) (ys:List Nat) (bo:Nat) (R:Option Addr) (n c:Nat),k≤L∧v=.slice R n c∧b=.int .i64 bo∧i=.int .i64 k∧Hid (LessI l m ys bo k)∧Owns wr w.heap.size 3 .i64 (.slice R n c) (nl ys)∧Below w.heap.size w wr) (fun _ _ i _=>L - (intOf i).toNat)
 case atStart=>exact ⟨0,[],0,none,0,0,Nat.zero_le _,rfl,rfl,rfl,hid ⟨rfl,fun v hv=>by simp at hv,by omega,by simp [dv]⟩,Owns.none_ _ _ _ _,Below.refl _ _⟩
 case round =>
  obtain ⟨k,ys,bo,R,n,c,hk,rfl,rfl,rfl,HI,hO,hb⟩:=hrel
  by_cases hlt:k<L
  ·have hsz:=hb.size
   have hil:k<l.length:=by rw [HL.out];omega
   have him:k<m.length:=by rw [HM.out];omega
   obtain ⟨g,o,rfl,_,cA0⟩:=(hA.below hb).num (by rw [nl_length,HL.out];omega)
   obtain ⟨g2,o2,rfl,_,cB0⟩:=(hB.below hb).num (by rw [nl_length,HM.out];omega)
   have clZ:=cA0 k _ (nl_at hil)
   have cm:=cB0 k _ (nl_at him)
   have hx:=getD_dig DL.out k
   have hy:=getD_dig DM.out k
   have hbo:=HI.out.2.2.1
   have HS:Hid (∀d bo',d<65536→bo'≤1→d+m.getD k 0+bo=l.getD k 0+65536*bo'→LessI l m (ys++[d]) bo' (k+1)):=hid fun d bo' h1 h2 h3=>HI.out.step hil him h1 h2 h3
   have HY:Hid ((nl ys).length=k):=hid (by rw [nl_length];exact HI.out.1)
   clear cA0 cB0 hil him
   generalize l.getD k 0=x at *
   generalize m.getD k 0=y at *
   have k0:(0:Int)≤k:=by omega
   have k1:(k:Int)<L:=by omega
   have w1:IntKind.i64.wrap ((x:Int) - y)=(x:Int) - y:=IntWalk.i64_in _ (by omega)
   have w2:IntKind.i64.wrap ((x:Int) - y - bo)=(x:Int) - y - bo:=IntWalk.i64_in _ (by omega)
   by_cases hneg:x<y+bo
   ·obtain ⟨d,hd⟩:∃d:Nat,d=x+65536 - (y+bo):=⟨_,rfl⟩
    have hz:(x:Int) - y - bo=(d:Int) - 65536:=by omega
    have hdl:d<65536:=by omega
    have HT:=hid (HS.out d 1 hdl (by omega) (by omega))
    have hdn:(d:Int) - 65536<0:=by omega
    have hdw:IntKind.i64.wrap ((d:Int) - 65536+65536)=d:=by rw [IntWalk.i64_in _ (by omega)];omega
    rw [hz] at w2
    clear HS hneg hd hx hy hbo hdl
    go_wp2
    go_quiet (fail)
    clear w1 w2 hz
    go_wp2_with (at_builtin;refine app_one _ rfl (.tmp 30) (.tmp 32) 60 rfl w.heap.size 3 .i64 8 Tryz.underlying60 Tryz.info3 R n c (nl ys) rfl (hO.drewN _) _ 1 rfl (by rw [HY.out];omega) (by omega) (by simpa using hsz) ?_;intro A' n' c' w2 hO2 hb2)
    go_roundw
    case rel=>exact ⟨k+1,ys++[d],1,A',n',c',by omega,rfl,rfl,by go_num,HT,by rw [←nl_snoc];exact hO2,(below_drewN hb nq).trans hb2⟩
    case measure=>simp [intOf];omega
   ·obtain ⟨d,hd⟩:∃d:Nat,d=x - (y+bo):=⟨_,rfl⟩
    have hz:(x:Int) - y - bo=(d:Int):=by omega
    have hdl:d<65536:=by omega
    have HT:=hid (HS.out d 0 hdl (by omega) (by omega))
    have hdn:¬(d:Int)<0:=by omega
    rw [hz] at w2
    clear HS hneg hd hx hy hbo hdl
    go_wp2
    go_quiet (fail)
    clear w1 w2 hz
    go_wp2_with (at_builtin;refine app_one _ rfl (.tmp 30) (.tmp 32) 60 rfl w.heap.size 3 .i64 8 Tryz.underlying60 Tryz.info3 R n c (nl ys) rfl (hO.drewN _) _ 1 rfl (by rw [HY.out];omega) (by omega) (by simpa using hsz) ?_;intro A' n' c' w2 hO2 hb2)
    go_roundw
    case rel=>exact ⟨k+1,ys++[d],0,A',n',c',by omega,rfl,rfl,by go_num,HT,by rw [←nl_snoc];exact hO2,(below_drewN hb nq).trans hb2⟩
    case measure=>simp [intOf];omega
  ·have e:k=L:=by omega
   subst e
   have hm:=hO.len
   rw [nl_length,HI.out.1] at hm
   subst hm
   have HE:Hid (dv ys=dv l - dv m):=hid (HI.out.end_ HL.out HM.out HLE.out)
   go_wp2
   go_ret
   exact ⟨R,c,ys,rfl,hid ⟨HI.out.1,HI.out.2.1,HE.out⟩,hO,hb⟩
def MulI (m c:Nat) (xs zs:List Nat) (cyZ j:Nat):Prop:=zs.length=xs.length∧Digs zs∧cyZ<m∧dv zs+cyZ*65536^j+dv (xs.take j)=dv xs+m*dv (xs.take j)+c∧∀i,j≤i→zs[i]? = xs[i]?
theorem MulI.start {m c:Nat} {xs:List Nat} (hx:Digs xs) (hc:c<m):MulI m c xs xs c 0:=⟨rfl,hx,hc,by simp [dv],fun _ _=>rfl⟩
theorem MulI.step {m c:Nat} {xs zs:List Nat} {cyZ j n:Nat} (h:MulI m c xs zs cyZ j) (hx:Digs xs) (hj:j<xs.length) (hn:n=m*xs.getD j 0+cyZ):MulI m c xs (zs.set j (n%65536)) (n / 65536) (j+1):=by
 obtain ⟨h1,h2,h3,h4,h5⟩:=h
 have g:xs[j]? = some (xs.getD j 0):=by rw [List.getD_eq_getElem?_getD,List.getElem?_eq_getElem hj];rfl
 have hd:=getD_dig hx j
 refine ⟨by simp [h1],set_digs h2 _ _ (Nat.mod_lt _ (by omega)),?_,?_,fun i hi=>?_⟩
 ·have:m*xs.getD j 0≤m*65535:=Nat.mul_le_mul_left _ (by omega)
  rw [Nat.div_lt_iff_lt_mul (by omega)]
  omega
 ·have h6:=dv_set zs j (n%65536) _ ((h5 j (Nat.le_refl _)).trans g)
  rw [dv_take_succ xs j _ g]
  have h7:=Nat.div_add_mod n 65536
  generalize xs.getD j 0=x at *
  generalize n%65536=r at *
  generalize n / 65536=q at *
  rw [Nat.pow_succ]
  generalize 65536^j=P at *
  have h8:(65536*q+r)*P=(m*x+cyZ)*P:=by rw [h7,hn]
  have h9:q*(P*65536)=65536*q*P:=by rw [Nat.mul_comm P,←Nat.mul_assoc,Nat.mul_comm q]
  rw [Nat.add_mul,Nat.add_mul,Nat.mul_assoc m] at h8
  rw [h9,Nat.mul_add]
  omega
 ·rw [List.getElem?_set_ne (by omega)];exact h5 i (by omega)
theorem MulI.end_ {m c:Nat} {xs zs:List Nat} {cyZ L:Nat} (h:MulI m c xs zs cyZ L) (hL:xs.length=L) (hm:m*dv xs+c<65536^L):zs.length=L∧Digs zs∧dv zs=m*dv xs+c:=by
 obtain ⟨h1,h2,h3,h4,h5⟩:=h
 rw [List.take_of_length_le (by omega)] at h4
 refine ⟨by omega,h2,?_⟩
 have hc:cyZ=0:=by
  by_cases h0:cyZ=0
  ·exact h0
  ·exfalso
   have:1*65536^L≤cyZ*65536^L:=Nat.mul_le_mul_right _ (by omega)
   omega
 rw [hc] at h4
 omega
theorem half_step (N t:Nat):2*(N / 2^(t+1))+N / 2^t%2=N / 2^t:=by
 rw [Nat.pow_succ,←Nat.div_div_eq_div_mul]
 omega
theorem Owns.lessB {w:World} {base base':Nat} {e:TypeId} {k:IntKind} {v:Value} {xs:List Int} (h:Owns w base e k v xs) (hb:base'≤base):Owns w base' e k v xs:=by
 refine ⟨h.1,?_⟩
 rcases h.2 with h2|⟨g,cap,cur,hv,hg,r⟩
 ·exact .inl h2
 ·exact .inr ⟨g,cap,cur,hv,Nat.le_trans hb hg,r⟩
theorem cell_same_of {W w:World} {b o:Nat} {v:Option Value} (h:Below W.heap.size W w) (hb:b<W.heap.size) (hc:W.cell? ⟨b,o,none⟩=v):w.cell? ⟨b,o,none⟩=v:=(h.cell (p:=⟨b,o,none⟩) hb).trans hc
theorem dig_at {l:List Nat} (hd:Digs l) {i:Nat} (h:i<l.length):dv l / 65536^i%65536=l.getD i 0:=by
 have h1:=dv_split l i (by omega)
 have h2:=dv_lt (l.take i) (fun v hv=>hd v (List.mem_of_mem_take hv))
 rw [List.length_take,Nat.min_eq_left (by omega)] at h2
 have h3:=drop_step h
 have h4:=getD_dig hd i
 rw [h3,dv] at h1
 have hp:0<65536^i:=Nat.pow_pos (by omega)
 rw [h1,Nat.add_mul_div_left _ _ hp,Nat.div_eq_of_lt h2]
 omega
theorem bit_of (X t d:Nat) (ht:t<16) (hd:X%65536=d):X / 2^t%2=d / 2^t%2:=by
 rw [←hd]
 have:t=0∨t=1∨t=2∨t=3∨t=4∨t=5∨t=6∨t=7∨t=8∨t=9∨t=10∨t=11∨t=12∨t=13∨t=14∨t=15:=by omega
 rcases this with rfl|rfl|rfl|rfl|rfl|rfl|rfl|rfl|rfl|rfl|rfl|rfl|rfl|rfl|rfl|rfl <;> simp only [Nat.reducePow,Nat.div_one] <;> omega
def bt (t:Nat):Nat:=2^t / 2
theorem bt_succ (t:Nat):bt (t+1)=2^t:=by unfold bt;rw [Nat.pow_succ];omega
theorem bt_half (t:Nat):bt (t+1) / 2=bt t:=by rw [bt_succ];rfl
end
section
set_option maxRecDepth 50000
def PDZ:List Nat:=[65531,65535,65535,65535,65535,65535,65535,65535,3,0]
def R10 (l:List Nat) (m:Nat):Prop:=l.length=10∧Digs l∧dv l=m
theorem pd_r:R10 PDZ PNZ:=⟨rfl,fun v hv=>by
 have h:PDZ.all (fun v=>decide (v<65536))=true:=by decide
 exact of_decide_eq_true (List.all_eq_true.1 h v hv),by decide⟩
def ROutZ (n:Nat) (w:World) (e:Ending) (w':World):Prop:=∃A c ys,e=.returned (.slice A 10 c)∧Hid (R10 ys n)∧NumsF w.heap.size w' .i64 A (nl ys)∧Below w.heap.size w w'
theorem ROutZ.mk {n:Nat} {w w':World} {A:Option Addr} {c:Nat} {ys:List Nat} (h:R10 ys n) (hN:NumsF w.heap.size w' .i64 A (nl ys)) (hb:Below w.heap.size w w'):ROutZ n w (.returned (.slice A 10 c)) w':=⟨A,c,ys,rfl,h,hN,hb⟩
theorem p_any (w:World):Calls Tryz.prog 122 #[] w fun e w'=>∃g,e=.returned (.slice (some ⟨g,0,none⟩) 10 10)∧Owns w' w.heap.size 3 .i64 (.slice (some ⟨g,0,none⟩) 10 10) (nl PDZ)∧Below w.heap.size w w':=by
 have hO:=Owns.new w w.heap.size 3 .i64 (nl PDZ) (Nat.le_refl _) (by unfold maxLen;decide)
 have hW:=below_new w (.cells ((nl PDZ).map (Value.int .i64)).toArray 3)
 go_enter Tryz.func122,Tryz.ntmps122
 go_wp2
 go_ret
 exact ⟨w.heap.size,rfl,hO,hW⟩
theorem pmod_step (X b:Nat):(2*(X%PNZ)+b)%PNZ=(2*X+b)%PNZ:=by
 rw [Nat.add_mod,Nat.mul_mod,Nat.mod_mod,←Nat.mul_mod,←Nat.add_mod]
theorem prem_step (X b:Nat):(if PNZ≤2*(X%PNZ)+b then 2*(X%PNZ)+b - PNZ else 2*(X%PNZ)+b)=(2*X+b)%PNZ∨1<b:=by
 by_cases hb:1<b
 ·exact .inr hb
 ·left
  rw [←pmod_step]
  have h:=Nat.mod_lt X pn_posZ
  generalize X%PNZ=x at *
  by_cases hq:PNZ≤2*x+b
  ·rw [if_pos hq,Nat.mod_eq_sub_mod hq,Nat.mod_eq_of_lt (by unfold PNZ at *;omega)]
  ·rw [if_neg hq,Nat.mod_eq_of_lt (by omega)]
theorem lt10 {x b:Nat} (hx:x<PNZ) (hb:b<2):2*x+b<65536^10:=by
 have h2:65536^10=1461501637330902918203684832716283019655932542976:=by decide
 rw [h2]
 unfold PNZ at hx
 omega
set_option maxHeartbeats 2000000 in
theorem mod_walk (A:Option Addr) (c L:Nat) (w:World) (l:List Nat) (hl:l.length=L) (hn:L≤1000) (hd:Digs l) (hA:Nums w .i64 A (nl l)):Calls Tryz.prog 100 #[.slice A L c] w (ROutZ (dv l%PNZ) w):=by
 have HL:=hid hl
 have HD:=hid hd
 have HM0:Hid (dv l / 65536^L%PNZ=0):=hid (by
  have:=dv_lt l hd
  rw [hl] at this
  rw [Nat.div_eq_of_lt this];rfl)
 obtain ⟨z10,hz⟩:∃z,z=List.replicate 10 0:=⟨_,rfl⟩
 have hmk:∀w:World,(Instr.makeSlice 60 (.int .i64 10) (.int .i64 10)).run Tryz.prog w=.ok (.slice (some ⟨w.heap.size,0,none⟩) 10 10) (w.alloc (.cells (ints .i64 (nl z10)).toArray 3)):=by rw [hz];exact make28 10 (by omega)
 have HO0:Hid (∀w:World,Owns (w.alloc (.cells (ints .i64 (nl z10)).toArray 3)) w.heap.size 3 .i64 (.slice (some ⟨w.heap.size,0,none⟩) 10 10) (nl z10)):=by
  rw [hz];exact hid fun w=>Owns.new w w.heap.size 3 .i64 (nl (List.replicate 10 0)) (Nat.le_refl _) (by simp [maxLen])
 have HZ0:Hid (R10 z10 0):=by
  rw [hz];exact hid ⟨by simp,fun v hv=>by have:=List.eq_of_mem_replicate hv;omega,by have:=dv_zeros [] 10;rw [List.nil_append] at this;rw [this];rfl⟩
 have HQ:=hid pd_r
 clear hl hd hz
 have hlw:IntKind.i64.wrap ((L:Int) - 1)=(L:Int) - 1:=IntWalk.i64_in _ (by omega)
 have hO:=HO0.out w
 have hbD:=below_new w (.cells (ints .i64 (nl z10)).toArray 3)
 go_enter Tryz.func100,Tryz.ntmps100
 go_wp2
 clear hmk
 generalize w.alloc (.cells (ints .i64 (nl z10)).toArray 3)=W0 at *
 have hA2:=hA
 go_loopw [3,4] (fun v i wr=>∃(j g cr:Nat) (rs:List Nat),j≤L∧i=.int .i64 ((j:Int) - 1)∧v=.slice (some ⟨g,0,none⟩) 10 cr∧Hid (R10 rs (dv l / 65536^j%PNZ))∧Owns wr w.heap.size 3 .i64 (.slice (some ⟨g,0,none⟩) 10 cr) (nl rs)∧Below w.heap.size w wr) (fun _ i _=>(intOf i+1).toNat)
 case atStart=>exact ⟨L,w.heap.size,10,z10,Nat.le_refl _,rfl,rfl,(by rw [HM0.out];exact HZ0),hO,hbD⟩
 case round =>
  clear hO hbD HZ0 HO0 HM0
  obtain ⟨j,g,cr,rs,hj,rfl,rfl,HR,hO,hB⟩:=hrel
  rename World=>W1
  cases j with
  | zero =>
    have hz:((0:Nat):Int) - 1 = -1:=by omega
    rw [hz]
    have HR0:Hid (R10 rs (dv l%PNZ)):=hid (by have:=HR.out;rwa [Nat.pow_zero,Nat.div_one] at this)
    have hNF:=hO.fresh
    clear hO hA2 hA hz HR
    go_wp2
    go_ret
    exact ROutZ.mk HR0.out hNF hB
  | succ i =>
    have hz:((i+1:Nat):Int) - 1=(i:Int):=by omega
    rw [hz]
    have HRT:Hid (R10 rs (dv l / 65536^i / 2^16%PNZ)):=hid (by have:=HR.out;rw [Nat.pow_succ,←Nat.div_div_eq_div_mul] at this;exact this)
    have hil:i<l.length:=by rw [HL.out];omega
    have HDI:=hid (dig_at HD.out hil)
    have hdl:=getD_dig HD.out i
    obtain ⟨gA,oA,rfl,hgA,cA⟩:=hA2.num (by rw [nl_length,HL.out];omega)
    have cd:=cA i _ (nl_at hil)
    clear cA hil HR
    generalize l.getD i 0=d at *
    have i0:(0:Int)≤i:=by omega
    have iL:(i:Int)<L:=by omega
    have iw:IntKind.i64.wrap ((i:Int) - 1)=(i:Int) - 1:=IntWalk.i64_in _ (by omega)
    go_wp2
    go_loopw [3,5] (fun v b wr=>∃(t g cr:Nat) (rs:List Nat),t≤16∧b=.int .i64 (bt t:Int)∧v=.slice (some ⟨g,0,none⟩) 10 cr∧Hid (R10 rs (dv l / 65536^i / 2^t%PNZ))∧Owns wr w.heap.size 3 .i64 (.slice (some ⟨g,0,none⟩) 10 cr) (nl rs)∧Below w.heap.size w wr) (fun _ b _=>(intOf b).toNat)
    case atStart=>exact ⟨16,g,cr,rs,by omega,(by rw [show bt 16=32768 from rfl];rfl),rfl,HRT,hO,hB⟩
    case round =>
     clear hO hB HRT
     obtain ⟨t,g,cr,rs,ht,rfl,rfl,HR,hO,hB⟩:=hrel
     rename World=>W2
     cases t with
     | zero =>
       have hb0:((bt 0:Nat):Int)=0:=rfl
       rw [hb0]
       have HR0:Hid (R10 rs (dv l / 65536^i%PNZ)):=hid (by have:=HR.out;rwa [Nat.pow_zero,Nat.div_one] at this)
       clear HR
       go_wp2
       go_roundw
       case rel=>exact ⟨i,g,cr,rs,by omega,by go_num,rfl,HR0,hO,hB⟩
       case measure=>simp [intOf]
     | succ t =>
       obtain ⟨p,hp⟩:∃p,bt (t+1)=p:=⟨_,rfl⟩
       have HPT:=hid (show p=2^t by rw [←hp,bt_succ])
       have HPH:=hid (show p / 2=bt t by rw [←hp,bt_half])
       rw [hp]
       have hpp:0<p:=by rw [HPT.out];exact Nat.pow_pos (by omega)
       have hpl:p≤32768:=by
        rw [HPT.out]
        exact Nat.le_trans (Nat.pow_le_pow_right (by omega) (show t≤15 by omega)) (by decide)
       obtain ⟨e,he⟩:∃e,d / p=e:=⟨_,rfl⟩
       obtain ⟨b,hb⟩:∃b,e%2=b:=⟨_,rfl⟩
       have HST:Hid ((if PNZ≤2*(dv l / 65536^i / 2^(t+1)%PNZ)+b then 2*(dv l / 65536^i / 2^(t+1)%PNZ)+b - PNZ else 2*(dv l / 65536^i / 2^(t+1)%PNZ)+b)=dv l / 65536^i / 2^t%PNZ):=hid (by
        have h1:=bit_of (dv l / 65536^i) t d (by omega) HDI.out
        rw [←HPT.out,he,hb] at h1
        have h2:=half_step (dv l / 65536^i) t
        rw [←HPT.out,h1] at h2
        rcases prem_step (dv l / 65536^i / 2^(t+1)) b with h|h
        ·rw [h,h2,HPT.out]
        ·omega)
       have HXL:Hid (dv l / 65536^i / 2^(t+1)%PNZ<PNZ):=hid (Nat.mod_lt _ pn_posZ)
       have hel:e≤65535:=by rw [←he];exact Nat.le_trans (Nat.div_le_self _ _) (by omega)
       have hei:(d:Int) / (p:Int)=(e:Int):=by rw [←he];simp
       have het:Int.tdiv (d:Int) (p:Int)=(e:Int):=by rw [Int.tdiv_eq_ediv_of_nonneg (by omega)];exact hei
       have hew:IntKind.i64.wrap (e:Int)=(e:Int):=IntWalk.i64_in _ (by omega)
       have hbi:(e:Int)%2=(b:Int):=by omega
       have hbt:Int.tmod (e:Int) 2=(b:Int):=by rw [Int.tmod_eq_emod_of_nonneg (by omega)];omega
       have hp0:¬(p:Int)=0:=by omega
       have hp1:(0:Int)<(p:Int):=by omega
       have hph:(p:Int) / 2=((p / 2:Nat):Int):=by omega
       have hpht:Int.tdiv (p:Int) 2=((p / 2:Nat):Int):=by rw [Int.tdiv_eq_ediv_of_nonneg (by omega)];omega
       have hphw:IntKind.i64.wrap ((p / 2:Nat):Int)=((p / 2:Nat):Int):=IntWalk.i64_in _ (by omega)
       have HBL:Hid (b<2):=hid (by omega)
       rw [HPH.out] at hph hpht hphw
       have HBT:Hid (bt t<p):=hid (by rw [←HPH.out];omega)
       have hcd:=cell_same_of hB hgA cd
       have HEB:=hid (And.intro he hb)
       generalize dv l / 65536^i / 2^(t+1)%PNZ=x at *
       obtain ⟨btt,hbtt⟩:∃q,bt t=q:=⟨_,rfl⟩
       rw [hbtt] at hph hpht hphw HBT
       have HBTT:=hid hbtt
       have HMI:=hid (MulI.start (m:=2) (c:=b) HR.out.2.1 HBL.out)
       clear hp hpl he hb hel hpp HPH HPT hbtt
       go_wp2
       go_loopw [6,7] (fun cv kv wr=>∃(m cyZ:Nat) (zs:List Nat),m≤10∧kv=.int .i64 m∧cv=.int .i64 cyZ∧Hid (MulI 2 b rs zs cyZ m)∧Owns wr w.heap.size 3 .i64 (.slice (some ⟨g,0,none⟩) 10 cr) (nl zs)∧Below w.heap.size w wr) (fun _ kv _=>10 - (intOf kv).toNat)
       case atStart=>exact ⟨0,b,rs,by omega,rfl,rfl,HMI,hO,hB⟩
       case round =>
        clear hO hB HMI hcd
        obtain ⟨m,cyZ,zs,hm,rfl,rfl,HI,hO,hB⟩:=hrel
        rename World=>W3
        by_cases hlt2:m<10
        ·have hzl:(nl zs).length=10:=by rw [nl_length,HI.out.1];exact HR.out.1
         have hzm:zs[m]? = some (rs.getD m 0):=by rw [HI.out.2.2.2.2 m (Nat.le_refl _),List.getD_eq_getElem?_getD,List.getElem?_eq_getElem (by rw [HR.out.1];exact hlt2)];rfl
         obtain ⟨y,cy0,fy0,HY⟩:=hO.spot (j:=m) (by rw [hzl];exact hlt2)
         have hyx:y=((rs.getD m 0:Nat):Int):=by
          have h:=HY.out
          unfold nl at h
          rw [List.getElem?_map,hzm] at h
          exact (Option.some.inj h).symm
         subst hyx
         have hdx:=getD_dig HR.out.2.1 m
         have hcy:=HI.out.2.2.1
         obtain ⟨n,hn2⟩:∃n,n=2*rs.getD m 0+cyZ:=⟨_,rfl⟩
         have HN:=hid (HI.out.step HR.out.2.1 (by rw [HR.out.1];exact hlt2) hn2)
         generalize rs.getD m 0=x0 at *
         have w1:IntKind.i64.wrap (2*(x0:Int))=2*(x0:Int):=IntWalk.i64_in _ (by omega)
         have w2':IntKind.i64.wrap (2*(x0:Int)+cyZ)=(n:Int):=by rw [IntWalk.i64_in _ (by omega)];omega
         have hnm:(n:Int)%65536=((n%65536:Nat):Int):=by omega
         have hnd:(n:Int) / 65536=((n / 65536:Nat):Int):=by omega
         have hnt:Int.tmod (n:Int) 65536=((n%65536:Nat):Int):=by rw [Int.tmod_eq_emod_of_nonneg (by omega)];omega
         have hnq:Int.tdiv (n:Int) 65536=((n / 65536:Nat):Int):=by rw [Int.tdiv_eq_ediv_of_nonneg (by omega)];omega
         have HNB:Hid (n / 65536<2):=hid (by omega)
         have hO9:=hO.store m ((n%65536:Nat):Int)
         have hgD:=(hO.lt g rfl).1
         rw [nl_set] at hO9
         generalize n%65536=r at *
         generalize n / 65536=q at *
         have hqw:IntKind.i64.wrap (q:Int)=(q:Int):=IntWalk.i64_in _ (by have:=HNB.out;omega)
         have hB9:=hB.setCell (p:=⟨g,m,none⟩) hgD (.int .i64 (r:Int))
         have m0:(0:Int)≤m:=by omega
         have m16:(m:Int)<10:=by omega
         clear hn2 HY hdx hcy hzl hzm HI hO hB hgD
         go_wp2
         go_roundw
         case rel=>exact ⟨m+1,q,zs.set m r,by omega,by go_num,rfl,HN,hO9,hB9⟩
         case measure=>simp [intOf];omega
        ·have e:m=10:=by omega
         subst e
         have HZ:Hid (R10 zs (2*x+b)):=hid (by
          have h:=HI.out.end_ HR.out.1 (by rw [HR.out.2.2];exact lt10 HXL.out HBL.out)
          rw [HR.out.2.2] at h
          exact h)
         clear HI
         go_wp2_with (fail)
         refine (p_any _).mono ?_
         rintro e2 w4 ⟨g4,rfl,hQ4,hb4⟩
         have hO4:=hO.stay hb4
         have hB4:=hB.trans (Below.mono hb4 hB.size)
         clear hO hB hb4
         go_wp2_with (fail)
         refine (al_anyZ (some ⟨g,0,none⟩) (some ⟨g4,0,none⟩) cr 10 10 zs PDZ w4 HZ.out.1 HQ.out.1 (by omega) HZ.out.2.1 HQ.out.2.1 hO4.nums hQ4.nums).mono ?_
         rintro e2 w5 ⟨bb,rfl,HBB,nd,rfl⟩
         rw [HZ.out.2.2,HQ.out.2.2] at HBB
         have hO5:=hO4.drewN nd
         have hB5:=below_drewN hB4 nd
         clear hO4 hB4 hQ4
         generalize w4.drewN nd=W4 at *
         by_cases hge:PNZ≤2*x+b
         ·have hbb:bb=true:=by rw [HBB.out];exact decide_eq_true hge
          subst hbb
          have HS2:=HST.out
          rw [if_pos hge] at HS2
          replace HS2:=hid HS2
          have HGE:=hid hge
          clear hge HST
          go_wp2_with (fail)
          refine (p_any _).mono ?_
          rintro e2 w6 ⟨g6,rfl,hQ6,hb6⟩
          have hO6:=hO5.stay hb6
          have hB6:=hB5.trans (Below.mono hb6 hB5.size)
          clear hO5 hB5 hb6
          go_wp2_with (fail)
          refine (le_own (some ⟨g,0,none⟩) (some ⟨g6,0,none⟩) cr 10 10 zs PDZ w6 HZ.out.1 HQ.out.1 (by omega) HZ.out.2.1 HQ.out.2.1 (by rw [HZ.out.2.2,HQ.out.2.2];exact HGE.out) hO6.nums hQ6.nums).mono ?_
          rintro e3 w7 ⟨A7,c7,ys,rfl,HY,hO7,hb7⟩
          obtain ⟨g7,rfl,_⟩:=hO7.block (by rw [nl_length,HY.out.1];omega)
          have hO8:=hO7.lessB hB6.size
          have hB8:=hB6.trans (Below.mono hb7 hB6.size)
          have HR8:Hid (R10 ys (dv l / 65536^i / 2^t%PNZ)):=hid ⟨HY.out.1,HY.out.2.1,by rw [HY.out.2.2,HZ.out.2.2,HQ.out.2.2,HS2.out]⟩
          clear hO6 hB6 hQ6 hO7 hb7
          go_wp2
          go_roundw
          case rel=>exact ⟨t,g7,c7,ys,by omega,by rw [HBTT.out],rfl,HR8,hO8,hB8⟩
          case measure=>have:=HBT.out;simp [intOf];omega
         ·have hbb:bb=false:=by rw [HBB.out];exact decide_eq_false hge
          subst hbb
          have HS2:=HST.out
          rw [if_neg hge] at HS2
          rw [HS2] at HZ
          clear hge HST HS2
          go_wp2
          go_roundw
          case rel=>exact ⟨t,g,cr,zs,by omega,by rw [HBTT.out],rfl,HZ,hO5,hB5⟩
          case measure=>have:=HBT.out;simp [intOf];omega
end
end Go.Proofs.YtkblmdakejmmhaaGreatDoor
