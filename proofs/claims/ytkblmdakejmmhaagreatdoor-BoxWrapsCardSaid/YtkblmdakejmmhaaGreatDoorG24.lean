import Derived.Test.YtkblmdakejmmhaaGreatDoorG23
namespace Go.Proofs.YtkblmdakejmmhaaGreatDoor
open Go Go.RowKit
section
set_option maxRecDepth 50000
def z16:List Int:=[0,0,0,0,0,0,0,0,0,0,0,0,0,0,0,0]
def s0 (count:Int):List Int:=[1634760805,857760878,2036477234,1797285236,0,0,0,0,0,0,0,0,count,0,0,0]
theorem info51:(Tryz.prog.info? 115).map (fun i=>(i.zero,i.size))=some (some (.agg (ints .u32 z16).toArray),16):=by kernel_rfl
theorem ones51 (count:Int):((#[.int .u32 1634760805,.int .u32 857760878,.int .u32 2036477234,.int .u32 1797285236,.int .u32 0,.int .u32 0,.int .u32 0,.int .u32 0,.int .u32 0,.int .u32 0,.int .u32 0,.int .u32 0,.int .u32 count,.int .u32 0,.int .u32 0,.int .u32 0]:Array Value)).all (·.oneCell')=true:=ints_all .u32 (s0 count)
theorem NumsF.past {lo:Nat} {w:World} {k:IntKind} {A:Option Addr} {xs:List Int} (h:NumsF lo w k A xs) {b:Nat} (o:Nat) (vs:List Value) (hb:b<lo):NumsF lo (w.setCells b o vs) k A xs:=fun hp=>by
 obtain ⟨g,off,e,hlo,hlt,hc⟩:=h hp
 have hs:=setCells_frame b vs o w
 refine ⟨g,off,e,hlo,by rw [setCells_size];exact hlt,fun i hi=>?_⟩
 rw [World.cell?_of_block (a:=⟨g,off+i,none⟩) (hs.2.2.2.2 g (by omega))]
 exact hc i hi
theorem start_over (count:Int) (ys zs:List Int) (h:ys.length=8) (k:zs.length=3):over (over (s0 count) 4 ys) 13 zs=C4++ys++[count]++zs:=by
 match ys,h with
 | [a,b,c,d,e,f,g,i],_ =>
   match zs,k with
   | [x,y,z],_=>rfl
theorem start_cut (count:Int) (ys:List Int) (h:ys.length=8):((over (s0 count) 4 ys).drop 13).take 3=[0,0,0]:=by
 match ys,h with
 | [a,b,c,d,e,f,g,i],_=>rfl
theorem info24s:(Tryz.prog.info? 53).map (·.size)=some 1:=by kernel_rfl
theorem start_world (key nonce:List Int) (count:Int) (w:World):∃W,W=(((((w.alloc (.cells (ints .u8 key).toArray 22)).alloc (.cells (ints .u8 nonce).toArray 40)).alloc (.cells #[.int .u32 0,.int .u32 0,.int .u32 0,.int .u32 0,.int .u32 0,.int .u32 0,.int .u32 0,.int .u32 0,.int .u32 0,.int .u32 0,.int .u32 0,.int .u32 0,.int .u32 0,.int .u32 0,.int .u32 0,.int .u32 0] 115)).alloc (.cells #[.int .u32 0,.int .u32 0,.int .u32 0,.int .u32 0,.int .u32 0,.int .u32 0,.int .u32 0,.int .u32 0,.int .u32 0,.int .u32 0,.int .u32 0,.int .u32 0,.int .u32 0,.int .u32 0,.int .u32 0,.int .u32 0] 115)).setCells (w.heap.size+1+1+1) 0 (#[.int .u32 1634760805,.int .u32 857760878,.int .u32 2036477234,.int .u32 1797285236,.int .u32 0,.int .u32 0,.int .u32 0,.int .u32 0,.int .u32 0,.int .u32 0,.int .u32 0,.int .u32 0,.int .u32 count,.int .u32 0,.int .u32 0,.int .u32 0]:Array Value).toList)∧Arr W w.heap.size 0 .u8 key∧Arr W (w.heap.size+1) 0 .u8 nonce∧Arr W (w.heap.size+1+1) 0 .u32 z16∧Arr W (w.heap.size+1+1+1) 0 .u32 (s0 count)∧Below w.heap.size w W∧W.heap.size=w.heap.size+4:=by
 have a1:=Arr.made w .u8 key 22
 have a2:=Arr.made (w.alloc (.cells (ints .u8 key).toArray 22)) .u8 nonce 40
 have a3:=Arr.made ((w.alloc (.cells (ints .u8 key).toArray 22)).alloc (.cells (ints .u8 nonce).toArray 40)) .u32 z16 115
 have a4:=Arr.made (((w.alloc (.cells (ints .u8 key).toArray 22)).alloc (.cells (ints .u8 nonce).toArray 40)).alloc (.cells #[.int .u32 0,.int .u32 0,.int .u32 0,.int .u32 0,.int .u32 0,.int .u32 0,.int .u32 0,.int .u32 0,.int .u32 0,.int .u32 0,.int .u32 0,.int .u32 0,.int .u32 0,.int .u32 0,.int .u32 0,.int .u32 0] 115)) .u32 z16 115
 simp only [World.size_alloc] at a2 a3 a4
 refine ⟨_,rfl,?_,?_,?_,?_,?_,?_⟩
 ·exact (((a1.alloc _).alloc _).alloc _).past _ (.inl (by omega))
 ·exact ((a2.alloc _).alloc _).past _ (.inl (by omega))
 ·exact (a3.alloc _).past _ (.inl (by omega))
 ·exact a4.all (ys:=s0 count) rfl
 ·exact Below.setCells (((((Below.refl _ w).alloc (Nat.le_refl _) _).alloc (by simp) _).alloc (by simp;omega) _).alloc (by simp;omega) _) (by omega) _ _
 ·rw [setCells_size];simp
set_option maxHeartbeats 2000000 in
theorem start_any (key nonce:List Int) (count:Int) (w:World) (hk:Hid (key.length=32)) (hn:Hid (nonce.length=12)) (hkb:HByt key) (hnb:HByt nonce) :
 Calls Tryz.prog 86 #[.agg (ints .u8 key).toArray,.agg (ints .u8 nonce).toArray,.int .u32 count] w fun e w'=>e=.returned (.agg (ints .u32 (startL key nonce count)).toArray)∧Below w.heap.size w w':=by
 go_enter Tryz.func86,Tryz.ntmps86
 go_wp2_with (with_reducible refine wpList_store_mid (op:=⟨none,.store 115 (.tmp 7) (.tmp 13),_,_,_,_⟩) rfl 115 (.tmp 7) (.tmp 13) rfl (w.heap.size+1+1+1) 0 #[.int .u32 1634760805,.int .u32 857760878,.int .u32 2036477234,.int .u32 1797285236,.int .u32 0,.int .u32 0,.int .u32 0,.int .u32 0,.int .u32 0,.int .u32 0,.int .u32 0,.int .u32 0,.int .u32 count,.int .u32 0,.int .u32 0,.int .u32 0] rfl rfl ?_ ?_ (ones51 count) ?_)
 ·have:=(Arr.made (((w.alloc (.cells (ints .u8 key).toArray 22)).alloc (.cells (ints .u8 nonce).toArray 40)).alloc (.cells #[.int .u32 0,.int .u32 0,.int .u32 0,.int .u32 0,.int .u32 0,.int .u32 0,.int .u32 0,.int .u32 0,.int .u32 0,.int .u32 0,.int .u32 0,.int .u32 0,.int .u32 0,.int .u32 0,.int .u32 0,.int .u32 0] 115)) .u32 z16 115).there
  simp only [World.size_alloc] at this
  exact this
 ·exact szA info51 (vs:=ints .u32 (s0 count)) rfl
 obtain ⟨W1,hW1,hK,hN,hZ,hS,hB,hsz⟩:=start_world key nonce count w
 rw [←hW1]
 clear hW1
 generalize hbs:w.heap.size+1+1+1=bs at *
 generalize hbz:w.heap.size+1+1=bz at *
 generalize hbn:w.heap.size+1=bn at *
 have l1:w.heap.size<W1.heap.size:=by omega
 have l2:bn<W1.heap.size:=by omega
 have l3:bz<W1.heap.size:=by omega
 have l4:bs<W1.heap.size:=by omega
 have n1:bz≠bs:=by omega
 have n2:w.heap.size≤bz:=by omega
 have n3:w.heap.size≤bs:=by omega
 clear hbs hbz hbn hsz
 refine (wWords32 _ _ 8 32 key _ hk.out (by omega) (by omega) hkb hK.nums).mono ?_
 rintro e w2 ⟨B1,d1,ys1,rfl,HY1,HL1,hY1,hb2⟩
 have hN2:=hN.below hb2 l2
 have hZ2:=hZ.below hb2 l3
 have hS2:=hS.below hb2 l4
 have hB2:=hB.trans (hb2.mono hB.size)
 have s2:=hb2.size
 clear hK hN hZ hS hB
 go_wp2_with (first
  | (go_at_call 110;refine (wWords32 _ _ 3 12 nonce _ hn.out (by omega) (by omega) hnb hN2.nums).mono ?_;rintro e w3 ⟨B2,d2,ys2,rfl,HY2,HL2,hY2,hb3⟩
     have hZ3:=hZ2.below hb3 (Nat.lt_of_lt_of_le l3 s2)
     have hS3:=hS2.below hb3 (Nat.lt_of_lt_of_le l4 s2)
     have hB3:=hB2.trans (hb3.mono hB2.size)
     have hY13:=hY1.stay hb3
     have R1:Rw w3 bs 4 (ints .u32 [0,0,0,0,0,0,0,0]):=(show Arr w3 bs 4 .u32 [0,0,0,0,0,0,0,0] from by have:=hS3.cut (lo:=4) (m:=8) (by show 12≤16;omega);rw [Nat.zero_add] at this;exact this).rw
     have X1:=hY13.nums)
  | (with_reducible refine wpList_copyR (o:=⟨some 26,.call _,_,_,_,_⟩) rfl (.tmp 24) (.tmp 25) 118 118 rfl Tryz.underlying118 info24s (b:=bs) (f:=4) (m:=8) (c:=12) (c':=d1) rfl rfl R1 (il rfl) HL1.out (by decide) X1 ?_
     have s3:=hb3.size
     have hS4:Arr (w3.setCells bs 4 (ints .u32 ys1)) bs 0 .u32 (over (s0 count) 4 ys1):=by have:=hS3.over (j:=4) (ys:=ys1) (by rw [HL1.out];show 12≤16;omega);rw [Nat.zero_add] at this;exact this
     have hZ4:=hZ3.past (b':=bs) (o':=4) (ints .u32 ys1) (.inl (Ne.symm n1))
     have hY4:=hY2.past 4 (ints .u32 ys1) (Nat.lt_of_lt_of_le l4 s2)
     have hB4:=Below.setCells hB3 n3 4 (ints .u32 ys1)
     have e4:(ints .u32 ys1).toArray.toList=ints .u32 ys1:=rfl
     rw [e4]
     clear hS3 hZ3 hY2 hB3 R1 X1 e4
     generalize w3.setCells bs 4 (ints .u32 ys1)=w4 at *
     have R2:Rw w4 bs 13 (ints .u32 [0,0,0]):=(show Arr w4 bs 13 .u32 [0,0,0] from by have:=hS4.cut (lo:=13) (m:=3) (by rw [over_length (by rw [HL1.out];show 12≤16;omega)];show 16≤16;omega);rw [Nat.zero_add,start_cut count ys1 HL1.out] at this;exact this).rw
     have X2:=hY4.nums)
  | (with_reducible refine wpList_copyR (o:=⟨some 29,.call _,_,_,_,_⟩) rfl (.tmp 27) (.tmp 28) 118 118 rfl Tryz.underlying118 info24s (b:=bs) (f:=13) (m:=3) (c:=3) (c':=d2) rfl rfl R2 (il rfl) HL2.out (by decide) X2 ?_
     have hS5:Arr (w4.setCells bs 13 (ints .u32 ys2)) bs 0 .u32 (startL key nonce count):=by
      have:=hS4.over (j:=13) (ys:=ys2) (by rw [HL2.out,over_length (by rw [HL1.out];show 12≤16;omega)];show 16≤16;omega)
      have hs:startL key nonce count=over (over (s0 count) 4 ys1) 13 ys2:=by rw [start_over count ys1 ys2 HL1.out HL2.out,HY1.out,HY2.out];rfl
      rw [Nat.zero_add] at this
      rw [hs]
      exact this
     have hZ5:=hZ4.past (b':=bs) (o':=13) (ints .u32 ys2) (.inl (Ne.symm n1))
     have hB5:=Below.setCells hB4 n3 13 (ints .u32 ys2)
     have e5:(ints .u32 ys2).toArray.toList=ints .u32 ys2:=rfl
     rw [e5]
     have hln:(startL key nonce count).length=16:=startL_length hk.out hn.out
     have HLN:=hid hln
     generalize hsl:startL key nonce count=sl at *
     have HSL:=hid hsl
     clear hS4 hZ4 hY4 hB4 R2 X2 e5 hln hsl
     generalize w4.setCells bs 13 (ints .u32 ys2)=w5 at *
     have G5:=hS5.range
     have T5:=hZ5.there)
  | (with_reducible refine wpList_load_mid (op:=⟨some 30,.load 115 (.tmp 7),_,_,_,_⟩) rfl 115 (.tmp 7) rfl bs 0 rfl (ints .u32 sl) _ G5 Tryz.underlying115 rfl (szV info51 (il HLN.out)) ?_)
  | (with_reducible refine wpList_store_mid (op:=⟨none,.store 115 (.tmp 6) (.tmp 30),_,_,_,_⟩) rfl 115 (.tmp 6) (.tmp 30) rfl bz 0 (ints .u32 sl).toArray rfl rfl ?_ (szA info51 (il HLN.out)) (ints_all _ _) ?_))
 ·have:(ints IntKind.u32 sl).toArray.size=z16.length:=by simp [HLN.out,z16]
  rw [this];exact T5
 have hZ6:=hZ5.all (ys:=sl) (by rw [HLN.out];rfl)
 (try simp only [Exit.inBlock,Exit.then])
 refine ret_rows rfl bz 0 rfl (ints .u32 sl) _ hZ6.range Tryz.underlying115 rfl (szV info51 (il HLN.out)) rfl ?_
 exact ⟨by rw [HSL.out],Below.setCells hB5 n2 0 _⟩
end
section
set_option maxRecDepth 4000 in
set_option maxHeartbeats 2000000 in
theorem mix_anyZ (b:Nat) (l0:List Int) (w:World) (hT:Tabs w) (hb0:1<b) (hl:Hid (l0.length=16)) (hw0:Hid (Wds l0)) (hA0:Arr w b 0 .u32 l0) :
 Calls Tryz.prog 87 #[.pointer (some ⟨b,0,none⟩)] w fun e w'=>e=.returned (.tuple #[])∧Arr w' b 0 .u32 (qk l0 8)∧Only b w w':=by
 have hTr:=hT.2
 have hblt:b<w.heap.size:=hA0.lt (by have:=hl.out;omega)
 have hrl:=@index61
 have hq61:=info61
 obtain ⟨qt,hqt⟩:∃q,QT=q:=⟨_,rfl⟩
 rw [hqt] at hTr hrl hq61
 clear hqt
 go_enter Tryz.func87,Tryz.ntmps87
 go_wp2_with (with_reducible refine wpList_load_mid (op:=⟨some 8,.load 147 (.global 1),_,_,_,_⟩) rfl 147 (.global 1) rfl 1 0 rfl (ints .i64 qt) _ hTr Tryz.underlying147 rfl hq61 ?_)
 go_loopw [9] (fun i wr=>∃k:Nat,k≤8∧i=.int .i64 k∧Arr wr b 0 .u32 (qk l0 k)∧Only b w wr) (fun i _=>8 - (intOf i).toNat)
 case atStart=>exact ⟨0,by omega,rfl,hA0,Only.refl _ _⟩
 case round =>
  obtain ⟨k,hk,rfl,hA1,hOn⟩:=hrel
  by_cases hlt:k<8
  ·obtain ⟨l1,hl1⟩:∃l,qk l0 k=l:=⟨_,rfl⟩
   obtain ⟨ia,hia⟩:∃n,(QI k).1=n:=⟨_,rfl⟩
   obtain ⟨ib,hib⟩:∃n,(QI k).2.1=n:=⟨_,rfl⟩
   obtain ⟨ic,hic⟩:∃n,(QI k).2.2.1=n:=⟨_,rfl⟩
   obtain ⟨ie,hie⟩:∃n,(QI k).2.2.2=n:=⟨_,rfl⟩
   have hix:=fun W=>hrl k hlt W
   obtain ⟨q1,q2,q3,q4⟩:=QI_lt k
   rw [hia,hib,hic,hie] at hix
   rw [hia] at q1
   rw [hib] at q2
   rw [hic] at q3
   rw [hie] at q4
   have hlen:l1.length=16:=by rw [←hl1,qk_length];exact hl.out
   have hws:Wds l1:=by rw [←hl1];exact qk_wds hw0.out k
   have ha0:(0:Int)≤ia:=by omega
   have hb0':(0:Int)≤ib:=by omega
   have hc0:(0:Int)≤ic:=by omega
   have he0:(0:Int)≤ie:=by omega
   have ha1:(ia:Int)<16:=by omega
   have hb1:(ib:Int)<16:=by omega
   have hc1:(ic:Int)<16:=by omega
   have he1:(ie:Int)<16:=by omega
   obtain ⟨xa,hxa⟩:∃x,l1[ia]? = some x:=⟨l1[ia],by simp [hlen,q1]⟩
   obtain ⟨xb,hxb⟩:∃x,l1[ib]? = some x:=⟨l1[ib],by simp [hlen,q2]⟩
   obtain ⟨xc,hxc⟩:∃x,l1[ic]? = some x:=⟨l1[ic],by simp [hlen,q3]⟩
   obtain ⟨xd,hxd⟩:∃x,l1[ie]? = some x:=⟨l1[ie],by simp [hlen,q4]⟩
   obtain ⟨ya,hya⟩:∃y,qa xa xb xc xd=y:=⟨_,rfl⟩
   obtain ⟨yb,hyb⟩:∃y,qb xa xb xc xd=y:=⟨_,rfl⟩
   obtain ⟨yc,hyc⟩:∃y,qc xa xb xc xd=y:=⟨_,rfl⟩
   obtain ⟨yd,hyd⟩:∃y,qd xa xb xc xd=y:=⟨_,rfl⟩
   have hnext:qk l0 (k+1)=(((l1.set ia ya).set ib yb).set ic yc).set ie yd:=by
    show qAt (qk l0 k) (QI k)=_
    unfold qAt
    rw [hl1,hia,hib,hic,hie]
    simp only [List.getD_eq_getElem?_getD,hxa,hxb,hxc,hxd,Option.getD_some,hya,hyb,hyc,hyd]
   have HN:=hid hnext
   have Ga:=hid hxa
   have Gb:=hid hxb
   have Gc:=hid hxc
   have Gd:=hid hxd
   have Ya:=hid hya
   have Yb:=hid hyb
   have Yc:=hid hyc
   have Yd:=hid hyd
   have Wb:=hid (hws.at_ hxb)
   have Wd_:=hid (hws.at_ hxd)
   have HL:=hid hlen
   rw [hl1] at hA1
   have hblr:b<wr.heap.size:=Nat.lt_of_lt_of_le hblt hOn.size
   clear hnext hxa hxb hxc hxd hya hyb hyc hyd hws hlen hl1 hia hib hic hie hrl hTr hA0
   go_wp2_with (with_reducible refine wpList_store_mid (op:=⟨none,.store 146 (.tmp 3) (.tmp 11),_,_,_,_⟩) rfl 146 (.tmp 3) (.tmp 11) rfl wr.heap.size 0 (ints .i64 [(ia:Int),(ib:Int),(ic:Int),(ie:Int)]).toArray rfl rfl ?_ ?_ (ints_all _ _) ?_)
   ·exact (Arr.made wr .i64 [0,0,0,0] 146).there
   ·exact szA info60 rfl
   have hB:Below wr.heap.size wr ((wr.alloc (.cells #[.int .i64 0,.int .i64 0,.int .i64 0,.int .i64 0] 146)).setCells wr.heap.size 0 (ints .i64 [(ia:Int),(ib:Int),(ic:Int),(ie:Int)]).toArray.toList):=Below.setCells ((Below.refl _ _).alloc (Nat.le_refl _) _) (Nat.le_refl _) _ _
   have hC:Arr ((wr.alloc (.cells #[.int .i64 0,.int .i64 0,.int .i64 0,.int .i64 0] 146)).setCells wr.heap.size 0 (ints .i64 [(ia:Int),(ib:Int),(ic:Int),(ie:Int)]).toArray.toList) wr.heap.size 0 .i64 [(ia:Int),(ib:Int),(ic:Int),(ie:Int)]:=(Arr.made wr .i64 [0,0,0,0] 146).all rfl
   have hA2:=hA1.below hB hblr
   have hO2:=hOn.trans (Only.of hB b)
   clear hB hA1 hOn hix
   generalize ((wr.alloc (.cells #[.int .i64 0,.int .i64 0,.int .i64 0,.int .i64 0] 146)).setCells wr.heap.size 0 (ints .i64 [(ia:Int),(ib:Int),(ic:Int),(ie:Int)]).toArray.toList)=w1 at *
   obtain ⟨B,hBe⟩:∃B,wr.heap.size=B:=⟨_,rfl⟩
   rw [hBe] at hC ⊢
   clear hBe
   have d0:w1.cell? ⟨B,0,none⟩=some (.int .i64 (ia:Int)):=by have:=hC.at_ (i:=0) (x:=(ia:Int)) rfl;simpa using this
   have d1:w1.cell? ⟨B,1,none⟩=some (.int .i64 (ib:Int)):=by have:=hC.at_ (i:=1) (x:=(ib:Int)) rfl;simpa using this
   have d2:w1.cell? ⟨B,2,none⟩=some (.int .i64 (ic:Int)):=by have:=hC.at_ (i:=2) (x:=(ic:Int)) rfl;simpa using this
   have d3:w1.cell? ⟨B,3,none⟩=some (.int .i64 (ie:Int)):=by have:=hC.at_ (i:=3) (x:=(ie:Int)) rfl;simpa using this
   go_wp2
   go_quiet (fail)
   have hA3:=hA2.drewN nq
   have hO3:=hO2.drewN nq
   generalize w1.drewN nq=w2 at *
   clear d0 d1 d2 d3 hA2 hO2 hC
   obtain ⟨up,hup⟩:∃up:Nat→World→World,up=fun m ww=>if m=0 then ww.setCell ⟨b,ia,none⟩ (.int .u32 ya) else if m=1 then ww.setCell ⟨b,ib,none⟩ (.int .u32 yb) else if m=2 then ww.setCell ⟨b,ic,none⟩ (.int .u32 yc) else ww.setCell ⟨b,ie,none⟩ (.int .u32 yd):=⟨_,rfl⟩
   have hu0:∀ww,up 0 ww=ww.setCell ⟨b,ia,none⟩ (.int .u32 ya):=fun ww=>by rw [hup];rfl
   have hu1:∀ww,up 1 ww=ww.setCell ⟨b,ib,none⟩ (.int .u32 yb):=fun ww=>by rw [hup];rfl
   have hu2:∀ww,up 2 ww=ww.setCell ⟨b,ic,none⟩ (.int .u32 yc):=fun ww=>by rw [hup];rfl
   have hu3:∀ww,up 3 ww=ww.setCell ⟨b,ie,none⟩ (.int .u32 yd):=fun ww=>by rw [hup];rfl
   clear hup
   have hbl2:b<w2.heap.size:=Nat.lt_of_lt_of_le hblt hO3.size
   have hS0:∀ww,Cl w2 ww→Arr (behind up 0 ww) b 0 .u32 l1:=fun ww h=>hA3.below h hbl2
   have hT0:∀ww,Cl w2 ww→Only b w (behind up 0 ww):=fun ww h=>hO3.trans (Only.of h b)
   have hS1:∀ww,Cl w2 ww→Arr (behind up 1 ww) b 0 .u32 (l1.set ia ya):=fun ww h=>by show Arr (up 0 (behind up 0 ww)) _ _ _ _;rw [hu0];have:=(hS0 ww h).set ia ya;rwa [Nat.zero_add] at this
   have hT1:∀ww,Cl w2 ww→Only b w (behind up 1 ww):=fun ww h=>by show Only b w (up 0 (behind up 0 ww));rw [hu0];exact (hT0 ww h).setCell (.inl rfl) _
   have hS2:∀ww,Cl w2 ww→Arr (behind up 2 ww) b 0 .u32 ((l1.set ia ya).set ib yb):=fun ww h=>by show Arr (up 1 (behind up 1 ww)) _ _ _ _;rw [hu1];have:=(hS1 ww h).set ib yb;rwa [Nat.zero_add] at this
   have hT2:∀ww,Cl w2 ww→Only b w (behind up 2 ww):=fun ww h=>by show Only b w (up 1 (behind up 1 ww));rw [hu1];exact (hT1 ww h).setCell (.inl rfl) _
   have hS3:∀ww,Cl w2 ww→Arr (behind up 3 ww) b 0 .u32 (((l1.set ia ya).set ib yb).set ic yc):=fun ww h=>by show Arr (up 2 (behind up 2 ww)) _ _ _ _;rw [hu2];have:=(hS2 ww h).set ic yc;rwa [Nat.zero_add] at this
   have hT3:∀ww,Cl w2 ww→Only b w (behind up 3 ww):=fun ww h=>by show Only b w (up 2 (behind up 2 ww));rw [hu2];exact (hT2 ww h).setCell (.inl rfl) _
   have hS4:∀ww,Cl w2 ww→Arr (behind up 4 ww) b 0 .u32 ((((l1.set ia ya).set ib yb).set ic yc).set ie yd):=fun ww h=>by show Arr (up 3 (behind up 3 ww)) _ _ _ _;rw [hu3];have:=(hS3 ww h).set ie yd;rwa [Nat.zero_add] at this
   have hT4:∀ww,Cl w2 ww→Only b w (behind up 4 ww):=fun ww h=>by show Only b w (up 3 (behind up 3 ww));rw [hu3];exact (hT3 ww h).setCell (.inl rfl) _
   go_wp2
   refine region_many 63 (tvOf [(21,(.pointer (some ⟨b,0,none⟩))),(22,(.int .i64 (ia:Int))),(23,(.pointer (some ⟨b,0,none⟩))),(24,(.int .i64 (ib:Int))),(25,(.pointer (some ⟨b,0,none⟩))),(26,(.int .i64 (ic:Int))),(27,(.pointer (some ⟨b,0,none⟩))),(28,(.int .i64 (ie:Int))),(29,(.pointer (some ⟨b,0,none⟩))),(30,(.int .i64 (ia:Int))),(31,(.pointer (some ⟨b,0,none⟩))),(32,(.pointer (some ⟨b,ia,none⟩))),(33,(.int .u32 xa)),(34,(.pointer (some ⟨b,0,none⟩))),(35,(.int .i64 (ib:Int))),(36,(.pointer (some ⟨b,0,none⟩))),(37,(.pointer (some ⟨b,ib,none⟩))),(38,(.int .u32 xb)),(39,(.pointer (some ⟨b,0,none⟩))),(40,(.int .i64 (ic:Int))),(41,(.pointer (some ⟨b,0,none⟩))),(42,(.pointer (some ⟨b,ic,none⟩))),(43,(.int .u32 xc)),(44,(.pointer (some ⟨b,0,none⟩))),(45,(.int .i64 (ie:Int))),(46,(.pointer (some ⟨b,0,none⟩))),(47,(.pointer (some ⟨b,ie,none⟩))),(48,(.int .u32 xd)),(49,(.tuple #[.int .u32 ya,.int .u32 yb,.int .u32 yc,.int .u32 yd])),(20,(.tuple #[.int .u32 ya,.int .u32 yb,.int .u32 yc,.int .u32 yd])),(50,(.int .u32 ya)),(51,(.int .u32 yb)),(52,(.int .u32 yc)),(53,(.int .u32 yd)),(54,(.pointer (some ⟨b,0,none⟩))),(55,(.pointer (some ⟨b,ia,none⟩))),(56,(.pointer (some ⟨b,0,none⟩))),(57,(.pointer (some ⟨b,ib,none⟩))),(58,(.pointer (some ⟨b,0,none⟩))),(59,(.pointer (some ⟨b,ic,none⟩))),(60,(.pointer (some ⟨b,0,none⟩))),(61,(.pointer (some ⟨b,ie,none⟩)))]) (kdOf [0,0,0,0,0,0,0,0,0,0,0,0,1,0,0,0,0,1,0,0,0,0,1,0,0,0,0,1,1,0,0,0,0,0,0,0,2,0,0,3,0,0,4,0,0,5]) [36,39,42,45] up [21,22,23,24,25,26,27,28,29,30,31,32,33,34,35,36,37,38,39,40,41,42,43,44,45,46,47,48,49,20,50,51,52,53,54,55,56,57,58,59,60,61] (by kernel_rfl) (by kernel_rfl) (by kernel_rfl) (Nat.le_of_eq rfl)
    ⟨pxm 21 (kxo (.pointer (some ⟨b,0,none⟩)) 0 rfl) rfl rfl rfl rfl rfl,
     pxm 22 (kxo (.int .i64 (ia:Int)) 4 rfl) rfl rfl rfl rfl rfl,
     pxm 23 (kxo (.pointer (some ⟨b,0,none⟩)) 0 rfl) rfl rfl rfl rfl rfl,
     pxm 24 (kxo (.int .i64 (ib:Int)) 5 rfl) rfl rfl rfl rfl rfl,
     pxm 25 (kxo (.pointer (some ⟨b,0,none⟩)) 0 rfl) rfl rfl rfl rfl rfl,
     pxm 26 (kxo (.int .i64 (ic:Int)) 6 rfl) rfl rfl rfl rfl rfl,
     pxm 27 (kxo (.pointer (some ⟨b,0,none⟩)) 0 rfl) rfl rfl rfl rfl rfl,
     pxm 28 (kxo (.int .i64 (ie:Int)) 7 rfl) rfl rfl rfl rfl rfl,
     pxm 29 (kxo (.pointer (some ⟨b,0,none⟩)) 0 rfl) rfl rfl rfl rfl rfl,
     pxm 30 (kxo (.int .i64 (ia:Int)) 4 rfl) rfl rfl rfl rfl rfl,
     pxa 31 (.pointer (some ⟨b,0,none⟩)) (kxi (.pointer (some ⟨b,0,none⟩)) 8 29 rfl rfl) rfl rfl rfl rfl (fun ev ww j0=>by unfold execOp;simp only [j0];try go_simp),
     pxb 32 (.pointer (some ⟨b,ia,none⟩)) (kxi (.pointer (some ⟨b,0,none⟩)) 10 31 rfl rfl) (kxi (.int .i64 (ia:Int)) 9 30 rfl rfl) rfl rfl rfl rfl (fun ev ww j0 j1=>by unfold execOp;simp only [j0,j1];try go_simp),
     qxa 33 (.int .u32 xa) (kxi (.pointer (some ⟨b,ia,none⟩)) 11 32 rfl rfl) rfl rfl rfl rfl (fun ev ww hw j0=>by have hcc:=(hS0 ww hw).at_ Ga.out;rw [Nat.zero_add] at hcc;change ww.cell? _=_ at hcc;unfold execOp;simp only [j0];try go_simp),
     pxm 34 (kxo (.pointer (some ⟨b,0,none⟩)) 0 rfl) rfl rfl rfl rfl rfl,
     pxm 35 (kxo (.int .i64 (ib:Int)) 5 rfl) rfl rfl rfl rfl rfl,
     pxa 36 (.pointer (some ⟨b,0,none⟩)) (kxi (.pointer (some ⟨b,0,none⟩)) 13 34 rfl rfl) rfl rfl rfl rfl (fun ev ww j0=>by unfold execOp;simp only [j0];try go_simp),
     pxb 37 (.pointer (some ⟨b,ib,none⟩)) (kxi (.pointer (some ⟨b,0,none⟩)) 15 36 rfl rfl) (kxi (.int .i64 (ib:Int)) 14 35 rfl rfl) rfl rfl rfl rfl (fun ev ww j0 j1=>by unfold execOp;simp only [j0,j1];try go_simp),
     qxa 38 (.int .u32 xb) (kxi (.pointer (some ⟨b,ib,none⟩)) 16 37 rfl rfl) rfl rfl rfl rfl (fun ev ww hw j0=>by have hcc:=(hS0 ww hw).at_ Gb.out;rw [Nat.zero_add] at hcc;change ww.cell? _=_ at hcc;unfold execOp;simp only [j0];try go_simp),
     pxm 39 (kxo (.pointer (some ⟨b,0,none⟩)) 0 rfl) rfl rfl rfl rfl rfl,
     pxm 40 (kxo (.int .i64 (ic:Int)) 6 rfl) rfl rfl rfl rfl rfl,
     pxa 41 (.pointer (some ⟨b,0,none⟩)) (kxi (.pointer (some ⟨b,0,none⟩)) 18 39 rfl rfl) rfl rfl rfl rfl (fun ev ww j0=>by unfold execOp;simp only [j0];try go_simp),
     pxb 42 (.pointer (some ⟨b,ic,none⟩)) (kxi (.pointer (some ⟨b,0,none⟩)) 20 41 rfl rfl) (kxi (.int .i64 (ic:Int)) 19 40 rfl rfl) rfl rfl rfl rfl (fun ev ww j0 j1=>by unfold execOp;simp only [j0,j1];try go_simp),
     qxa 43 (.int .u32 xc) (kxi (.pointer (some ⟨b,ic,none⟩)) 21 42 rfl rfl) rfl rfl rfl rfl (fun ev ww hw j0=>by have hcc:=(hS0 ww hw).at_ Gc.out;rw [Nat.zero_add] at hcc;change ww.cell? _=_ at hcc;unfold execOp;simp only [j0];try go_simp),
     pxm 44 (kxo (.pointer (some ⟨b,0,none⟩)) 0 rfl) rfl rfl rfl rfl rfl,
     pxm 45 (kxo (.int .i64 (ie:Int)) 7 rfl) rfl rfl rfl rfl rfl,
     pxa 46 (.pointer (some ⟨b,0,none⟩)) (kxi (.pointer (some ⟨b,0,none⟩)) 23 44 rfl rfl) rfl rfl rfl rfl (fun ev ww j0=>by unfold execOp;simp only [j0];try go_simp),
     pxb 47 (.pointer (some ⟨b,ie,none⟩)) (kxi (.pointer (some ⟨b,0,none⟩)) 25 46 rfl rfl) (kxi (.int .i64 (ie:Int)) 24 45 rfl rfl) rfl rfl rfl rfl (fun ev ww j0 j1=>by unfold execOp;simp only [j0,j1];try go_simp),
     qxa 48 (.int .u32 xd) (kxi (.pointer (some ⟨b,ie,none⟩)) 26 47 rfl rfl) rfl rfl rfl rfl (fun ev ww hw j0=>by have hcc:=(hS0 ww hw).at_ Gd.out;rw [Nat.zero_add] at hcc;change ww.cell? _=_ at hcc;unfold execOp;simp only [j0];try go_simp),
     .call rfl rfl 49 rfl fun a ww hw hf hd=>by
      have h33:a.eval (.tmp 33)=(.int .u32 xa):=hd 12 33 (by kernel_rfl) rfl
      have h38:a.eval (.tmp 38)=(.int .u32 xb):=hd 17 38 (by kernel_rfl) rfl
      have h43:a.eval (.tmp 43)=(.int .u32 xc):=hd 22 43 (by kernel_rfl) rfl
      have h48:a.eval (.tmp 48)=(.int .u32 xd):=hd 27 48 (by kernel_rfl) rfl
      have f7:a.eval (.func 111)=.func (.func 111) #[] #[]:=rfl
      refine ⟨111,#[(.int .u32 xa),(.int .u32 xb),(.int .u32 xc),(.int .u32 xd)],?_,(quarter_any xa xb xc xd ww Wb Wd_).mono fun e w2 ⟨he,hw2⟩=>⟨by rw [he,Ya,Yb,Yc,Yd];rfl,by rw [←hw2];exact Below.refl _ _⟩⟩
      revert h33 h38 h43 h48 f7
      generalize a.eval=ev
      intro h33 h38 h43 h48 f7
      unfold execOp
      simp only [h33,h38,h43,h48,f7]
      (try go_simp),
     pxm 20 (kxi (.tuple #[.int .u32 ya,.int .u32 yb,.int .u32 yc,.int .u32 yd]) 28 49 rfl rfl) rfl rfl rfl rfl rfl,
     pxa 50 (.int .u32 ya) (kxi (.tuple #[.int .u32 ya,.int .u32 yb,.int .u32 yc,.int .u32 yd]) 29 20 rfl rfl) rfl rfl rfl rfl (fun ev ww j0=>by unfold execOp;simp only [j0];try go_simp),
     pxa 51 (.int .u32 yb) (kxi (.tuple #[.int .u32 ya,.int .u32 yb,.int .u32 yc,.int .u32 yd]) 29 20 rfl rfl) rfl rfl rfl rfl (fun ev ww j0=>by unfold execOp;simp only [j0];try go_simp),
     pxa 52 (.int .u32 yc) (kxi (.tuple #[.int .u32 ya,.int .u32 yb,.int .u32 yc,.int .u32 yd]) 29 20 rfl rfl) rfl rfl rfl rfl (fun ev ww j0=>by unfold execOp;simp only [j0];try go_simp),
     pxa 53 (.int .u32 yd) (kxi (.tuple #[.int .u32 ya,.int .u32 yb,.int .u32 yc,.int .u32 yd]) 29 20 rfl rfl) rfl rfl rfl rfl (fun ev ww j0=>by unfold execOp;simp only [j0];try go_simp),
     pxa 54 (.pointer (some ⟨b,0,none⟩)) (kxi (.pointer (some ⟨b,0,none⟩)) 0 21 rfl rfl) rfl rfl rfl rfl (fun ev ww j0=>by unfold execOp;simp only [j0];try go_simp),
     pxb 55 (.pointer (some ⟨b,ia,none⟩)) (kxi (.pointer (some ⟨b,0,none⟩)) 34 54 rfl rfl) (kxi (.int .i64 (ia:Int)) 1 22 rfl rfl) rfl rfl rfl rfl (fun ev ww j0 j1=>by unfold execOp;simp only [j0,j1];try go_simp),
     .put 0 rfl rfl rfl ⟨b,ia,none⟩ (.int .u32 ya) hu0 fun a ww hw hf hd=>by
      have h55:a.eval (.tmp 55)=(.pointer (some ⟨b,ia,none⟩)):=hd 35 55 (by kernel_rfl) rfl
      have h50:a.eval (.tmp 50)=(.int .u32 ya):=hd 30 50 (by kernel_rfl) rfl
      obtain ⟨z,hcc,hff,_⟩:=(hS0 ww hw).spot (i:=ia) (by have:=HL.out;simp [this];omega)
      rw [Nat.zero_add] at hcc hff
      generalize behind up 0 ww=wb at *
      revert h55 h50
      generalize a.eval=ev
      intro h55 h50
      unfold execOp
      simp only [h55,h50]
      (try go_simp),
     pxa 56 (.pointer (some ⟨b,0,none⟩)) (kxi (.pointer (some ⟨b,0,none⟩)) 2 23 rfl rfl) rfl rfl rfl rfl (fun ev ww j0=>by unfold execOp;simp only [j0];try go_simp),
     pxb 57 (.pointer (some ⟨b,ib,none⟩)) (kxi (.pointer (some ⟨b,0,none⟩)) 37 56 rfl rfl) (kxi (.int .i64 (ib:Int)) 3 24 rfl rfl) rfl rfl rfl rfl (fun ev ww j0 j1=>by unfold execOp;simp only [j0,j1];try go_simp),
     .put 1 rfl rfl rfl ⟨b,ib,none⟩ (.int .u32 yb) hu1 fun a ww hw hf hd=>by
      have h57:a.eval (.tmp 57)=(.pointer (some ⟨b,ib,none⟩)):=hd 38 57 (by kernel_rfl) rfl
      have h51:a.eval (.tmp 51)=(.int .u32 yb):=hd 31 51 (by kernel_rfl) rfl
      obtain ⟨z,hcc,hff,_⟩:=(hS1 ww hw).spot (i:=ib) (by have:=HL.out;simp [this];omega)
      rw [Nat.zero_add] at hcc hff
      generalize behind up 1 ww=wb at *
      revert h57 h51
      generalize a.eval=ev
      intro h57 h51
      unfold execOp
      simp only [h57,h51]
      (try go_simp),
     pxa 58 (.pointer (some ⟨b,0,none⟩)) (kxi (.pointer (some ⟨b,0,none⟩)) 4 25 rfl rfl) rfl rfl rfl rfl (fun ev ww j0=>by unfold execOp;simp only [j0];try go_simp),
     pxb 59 (.pointer (some ⟨b,ic,none⟩)) (kxi (.pointer (some ⟨b,0,none⟩)) 40 58 rfl rfl) (kxi (.int .i64 (ic:Int)) 5 26 rfl rfl) rfl rfl rfl rfl (fun ev ww j0 j1=>by unfold execOp;simp only [j0,j1];try go_simp),
     .put 2 rfl rfl rfl ⟨b,ic,none⟩ (.int .u32 yc) hu2 fun a ww hw hf hd=>by
      have h59:a.eval (.tmp 59)=(.pointer (some ⟨b,ic,none⟩)):=hd 41 59 (by kernel_rfl) rfl
      have h52:a.eval (.tmp 52)=(.int .u32 yc):=hd 32 52 (by kernel_rfl) rfl
      obtain ⟨z,hcc,hff,_⟩:=(hS2 ww hw).spot (i:=ic) (by have:=HL.out;simp [this];omega)
      rw [Nat.zero_add] at hcc hff
      generalize behind up 2 ww=wb at *
      revert h59 h52
      generalize a.eval=ev
      intro h59 h52
      unfold execOp
      simp only [h59,h52]
      (try go_simp),
     pxa 60 (.pointer (some ⟨b,0,none⟩)) (kxi (.pointer (some ⟨b,0,none⟩)) 6 27 rfl rfl) rfl rfl rfl rfl (fun ev ww j0=>by unfold execOp;simp only [j0];try go_simp),
     pxb 61 (.pointer (some ⟨b,ie,none⟩)) (kxi (.pointer (some ⟨b,0,none⟩)) 43 60 rfl rfl) (kxi (.int .i64 (ie:Int)) 7 28 rfl rfl) rfl rfl rfl rfl (fun ev ww j0 j1=>by unfold execOp;simp only [j0,j1];try go_simp),
     .put 3 rfl rfl rfl ⟨b,ie,none⟩ (.int .u32 yd) hu3 fun a ww hw hf hd=>by
      have h61:a.eval (.tmp 61)=(.pointer (some ⟨b,ie,none⟩)):=hd 44 61 (by kernel_rfl) rfl
      have h53:a.eval (.tmp 53)=(.int .u32 yd):=hd 33 53 (by kernel_rfl) rfl
      obtain ⟨z,hcc,hff,_⟩:=(hS3 ww hw).spot (i:=ie) (by have:=HL.out;simp [this];omega)
      rw [Nat.zero_add] at hcc hff
      generalize behind up 3 ww=wb at *
      revert h61 h53
      generalize a.eval=ev
      intro h61 h53
      unfold execOp
      simp only [h61,h53]
      (try go_simp),trivial⟩ ?_
   intro val w9 hv hw
   have e21:val 21=(.pointer (some ⟨b,0,none⟩)):=hv 21
   have e22:val 22=(.int .i64 (ia:Int)):=hv 22
   have e23:val 23=(.pointer (some ⟨b,0,none⟩)):=hv 23
   have e24:val 24=(.int .i64 (ib:Int)):=hv 24
   have e25:val 25=(.pointer (some ⟨b,0,none⟩)):=hv 25
   have e26:val 26=(.int .i64 (ic:Int)):=hv 26
   have e27:val 27=(.pointer (some ⟨b,0,none⟩)):=hv 27
   have e28:val 28=(.int .i64 (ie:Int)):=hv 28
   have e29:val 29=(.pointer (some ⟨b,0,none⟩)):=hv 29
   have e30:val 30=(.int .i64 (ia:Int)):=hv 30
   have e31:val 31=(.pointer (some ⟨b,0,none⟩)):=hv 31
   have e32:val 32=(.pointer (some ⟨b,ia,none⟩)):=hv 32
   have e33:val 33=(.int .u32 xa):=hv 33
   have e34:val 34=(.pointer (some ⟨b,0,none⟩)):=hv 34
   have e35:val 35=(.int .i64 (ib:Int)):=hv 35
   have e36:val 36=(.pointer (some ⟨b,0,none⟩)):=hv 36
   have e37:val 37=(.pointer (some ⟨b,ib,none⟩)):=hv 37
   have e38:val 38=(.int .u32 xb):=hv 38
   have e39:val 39=(.pointer (some ⟨b,0,none⟩)):=hv 39
   have e40:val 40=(.int .i64 (ic:Int)):=hv 40
   have e41:val 41=(.pointer (some ⟨b,0,none⟩)):=hv 41
   have e42:val 42=(.pointer (some ⟨b,ic,none⟩)):=hv 42
   have e43:val 43=(.int .u32 xc):=hv 43
   have e44:val 44=(.pointer (some ⟨b,0,none⟩)):=hv 44
   have e45:val 45=(.int .i64 (ie:Int)):=hv 45
   have e46:val 46=(.pointer (some ⟨b,0,none⟩)):=hv 46
   have e47:val 47=(.pointer (some ⟨b,ie,none⟩)):=hv 47
   have e48:val 48=(.int .u32 xd):=hv 48
   have e49:val 49=(.tuple #[.int .u32 ya,.int .u32 yb,.int .u32 yc,.int .u32 yd]):=hv 49
   have e20:val 20=(.tuple #[.int .u32 ya,.int .u32 yb,.int .u32 yc,.int .u32 yd]):=hv 20
   have e50:val 50=(.int .u32 ya):=hv 50
   have e51:val 51=(.int .u32 yb):=hv 51
   have e52:val 52=(.int .u32 yc):=hv 52
   have e53:val 53=(.int .u32 yd):=hv 53
   have e54:val 54=(.pointer (some ⟨b,0,none⟩)):=hv 54
   have e55:val 55=(.pointer (some ⟨b,ia,none⟩)):=hv 55
   have e56:val 56=(.pointer (some ⟨b,0,none⟩)):=hv 56
   have e57:val 57=(.pointer (some ⟨b,ib,none⟩)):=hv 57
   have e58:val 58=(.pointer (some ⟨b,0,none⟩)):=hv 58
   have e59:val 59=(.pointer (some ⟨b,ic,none⟩)):=hv 59
   have e60:val 60=(.pointer (some ⟨b,0,none⟩)):=hv 60
   have e61:val 61=(.pointer (some ⟨b,ie,none⟩)):=hv 61
   simp only [putVals,List.foldl_cons,List.foldl_nil,Act.put,List.setIfInBounds_toArray,List.set_cons_succ,List.set_cons_zero,e21,e22,e23,e24,e25,e26,e27,e28,e29,e30,e31,e32,e33,e34,e35,e36,e37,e38,e39,e40,e41,e42,e43,e44,e45,e46,e47,e48,e49,e20,e50,e51,e52,e53,e54,e55,e56,e57,e58,e59,e60,e61]
   clear hv e21 e22 e23 e24 e25 e26 e27 e28 e29 e30 e31 e32 e33 e34 e35 e36 e37 e38 e39 e40 e41 e42 e43 e44 e45 e46 e47 e48 e49 e20 e50 e51 e52 e53 e54 e55 e56 e57 e58 e59 e60 e61
   have hS:=hS4 w9 hw
   have hT:=hT4 w9 hw
   clear hS0 hS1 hS2 hS3 hS4 hT0 hT1 hT2 hT3 hT4 hu0 hu1 hu2 hu3
   change Arr (behind up [36,39,42,45].length w9) _ _ _ _ at hS
   change Only b w (behind up [36,39,42,45].length w9) at hT
   generalize behind up _ w9=w10 at *
   go_wp2
   go_roundw
   case rel=>exact ⟨k+1,by omega,by go_num,by rw [HN.out];exact hS,hT⟩
   case measure=>simp [intOf];omega
  ·go_wp2
   go_end0
   have e:k=8:=by omega
   subst e
   exact ⟨rfl,hA1,hOn⟩
end
end Go.Proofs.YtkblmdakejmmhaaGreatDoor
