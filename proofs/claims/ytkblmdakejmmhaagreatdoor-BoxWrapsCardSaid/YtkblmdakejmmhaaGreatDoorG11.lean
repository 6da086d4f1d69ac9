import Derived.Test.YtkblmdakejmmhaaGreatDoorRatM
namespace Go.Proofs.YtkblmdakejmmhaaGreatDoor
open Go Go.RowKit
section
set_option maxRecDepth 50000
set_option maxHeartbeats 4000000 in
theorem swapR_core {px pz qx qz S T U V:List Int} {sw:Bool} (hpx:px.length=16) (hpz:pz.length=16) (hqx:qx.length=16) (hqz:qz.length=16) (hS:S.length=16) (hT:T.length=16) (hU:U.length=16) (hV:V.length=16)
 (kx:CallsTo 71 #[.agg (ints .i64 px).toArray,.agg (ints .i64 qx).toArray,.bool sw] (.tuple #[.agg (ints .i64 S).toArray,.agg (ints .i64 T).toArray]))
 (kz:CallsTo 71 #[.agg (ints .i64 pz).toArray,.agg (ints .i64 qz).toArray,.bool sw] (.tuple #[.agg (ints .i64 U).toArray,.agg (ints .i64 V).toArray])) :
 CallsTo 49 #[.agg (ints .i64 (px++pz)).toArray,.agg (ints .i64 (qx++qz)).toArray,.bool sw] (.tuple #[.agg (ints .i64 (S++U)).toArray,.agg (ints .i64 (T++V)).toArray]):=fun W=>by
 obtain ⟨z45,s45⟩:=zero_of_info inf45
 have HL:=hid (And.intro hpx (And.intro hpz (And.intro hqx (And.intro hqz (And.intro hS (And.intro hT (And.intro hU hV)))))))
 have hP:=(((B2.new W (px++pz) (len32 hpx hpz)).next (below_new _ (.cells (ints .i64 (qx++qz)).toArray 74))).next (below_new _ (.cells (ints .i64 (zeros 32)).toArray 74))).next (below_new _ (.cells (ints .i64 (zeros 32)).toArray 74))
 have hQ:=((B2.new (W.alloc (.cells (ints .i64 (px++pz)).toArray 74)) (qx++qz) (len32 hqx hqz)).next (below_new _ (.cells (ints .i64 (zeros 32)).toArray 74))).next (below_new _ (.cells (ints .i64 (zeros 32)).toArray 74))
 have h6:=(B2.new ((W.alloc (.cells (ints .i64 (px++pz)).toArray 74)).alloc (.cells (ints .i64 (qx++qz)).toArray 74)) (zeros 32) (zeros_len 32)).next (below_new _ (.cells (ints .i64 (zeros 32)).toArray 74))
 have h7:=B2.new (((W.alloc (.cells (ints .i64 (px++pz)).toArray 74)).alloc (.cells (ints .i64 (qx++qz)).toArray 74)).alloc (.cells (ints .i64 (zeros 32)).toArray 74)) (zeros 32) (zeros_len 32)
 have hW:=(((below_new W (.cells (ints .i64 (px++pz)).toArray 74)).alloc (by simp) (.cells (ints .i64 (qx++qz)).toArray 74)).alloc (by simp;omega) (.cells (ints .i64 (zeros 32)).toArray 74)).alloc (by simp;omega) (.cells (ints .i64 (zeros 32)).toArray 74)
 simp only [World.size_alloc] at hQ h6 h7
 clear hpx hpz hqx hqz hS hT hU hV
 go_enter Tryz.func49,Tryz.ntmps49
 go_upto_region 1 with (fail)
 generalize (((W.alloc (.cells (ints .i64 (px++pz)).toArray 74)).alloc (.cells (ints .i64 (qx++qz)).toArray 74)).alloc (.cells (ints .i64 (zeros 32)).toArray 74)).alloc (.cells (ints .i64 (zeros 32)).toArray 74)=w0 at *
 obtain ⟨hpx,hpz,hqx,hqz,hS,hT,hU,hV⟩:=HL.out
 have s0:=hW.size
 refine rSeq 9 32 (fun _=>false) [Is (.pointer (some ⟨W.heap.size,0,none⟩)),IsL px,Is (.pointer (some ⟨(W.heap.size+1),0,none⟩)),IsL qx,Is (.bool sw),Is (.tuple #[(.agg (ints .i64 S).toArray),(.agg (ints .i64 T).toArray)]),Is (.tuple #[(.agg (ints .i64 S).toArray),(.agg (ints .i64 T).toArray)]),IsL S,IsL T] [9,10,11,12,13,14,8,15,16] (gC (gC (gC (gC (gC (gC (gC (gC (gC grows_nil)))))))))
  ⟨step_fa0 rfl (.inl rfl) rfl rfl (kO 3 rfl),
   step_part rfl (.inl rfl) (hP.fst hpx) hpx rfl rfl (kI 0 9 rfl rfl),
   step_fa0 rfl (.inl rfl) rfl rfl (kO 4 rfl),
   step_part rfl (.inl rfl) (hQ.fst hqx) hqx rfl rfl (kI 2 11 rfl rfl),
   step_mv rfl (.inl rfl) rfl rfl (kO 2 rfl),
   step_to rfl (.inl rfl) rfl cf29 kx rfl (three_args (kI 1 10 rfl rfl) (kI 3 12 rfl rfl) (kI 4 13 rfl rfl)),
   step_mv rfl (.inl rfl) rfl rfl (kI 5 14 rfl rfl),
   step_fst rfl (.inl rfl) rfl rfl (kI 6 8 rfl rfl),
   step_snd rfl (.inl rfl) rfl rfl (kI 6 8 rfl rfl),trivial⟩ ?_
 intro val w1 hw hS hap hla
 simp only [pA,pB,pC,pD,pE,Act.put,pG,pH,pI,eVal hS 0 9 rfl rfl,eVal hS 1 10 rfl rfl,eVal hS 2 11 rfl rfl,eVal hS 3 12 rfl rfl,eVal hS 4 13 rfl rfl,eVal hS 5 14 rfl rfl,eVal hS 6 8 rfl rfl,eVal hS 7 15 rfl rfl,eVal hS 8 16 rfl rfl]
 clear hS hap hla
 replace hP:=hP.next hw
 replace hQ:=hQ.next hw
 replace h6:=h6.next hw
 replace h7:=h7.next hw
 replace hW:=bT hW hw
 clear hw
 have r1:=(hP.fst hpx).room (k':=.i64) (l':=S) (by rw [hS,hpx])
 have hQ1:=hQ.pastAt (b':=W.heap.size) 0 (ints .i64 S).toArray.toList (by omega)
 have r2:=(hQ1.fst hqx).room (k':=.i64) (l':=T) (by rw [hT,hqx])
 replace hP:=(hP.put1 hpx hS).pastAt (b':=W.heap.size+1) 0 (ints .i64 T).toArray.toList (by omega)
 replace hQ:=hQ1.put1 hqx hT
 clear hQ1
 replace h6:=(h6.pastAt (b':=W.heap.size) 0 (ints .i64 S).toArray.toList (by omega)).pastAt (b':=W.heap.size+1) 0 (ints .i64 T).toArray.toList (by omega)
 replace h7:=(h7.pastAt (b':=W.heap.size) 0 (ints .i64 S).toArray.toList (by omega)).pastAt (b':=W.heap.size+1) 0 (ints .i64 T).toArray.toList (by omega)
 replace hW:=Below.setCells (Below.setCells hW (g:=W.heap.size) (by omega) 0 (ints .i64 S).toArray.toList) (g:=W.heap.size+1) (by omega) 0 (ints .i64 T).toArray.toList
 have l1:=hid hS
 have l2:=hid hT
 clear hpx hpz hqx hqz hS hT hU hV
 go_upto_region 2 with (first
  | (with_reducible refine wpList_store_mid (op:=⟨none,.store 70 (.tmp 17) (.tmp 15),_,_,_,_⟩) rfl 70 (.tmp 17) (.tmp 15) rfl W.heap.size 0 (ints .i64 S).toArray rfl rfl r1 (a26 l1.out) (ints_all _ _) ?_)
  | (with_reducible refine wpList_store_mid (op:=⟨none,.store 70 (.tmp 18) (.tmp 16),_,_,_,_⟩) rfl 70 (.tmp 18) (.tmp 16) rfl (W.heap.size+1) 0 (ints .i64 T).toArray rfl rfl r2 (a26 l2.out) (ints_all _ _) ?_))
 obtain ⟨hpx,hpz,hqx,hqz,hS,hT,hU,hV⟩:=HL.out
 clear r1 r2 l1 l2
 generalize (w1.setCells W.heap.size 0 (ints .i64 S).toArray.toList).setCells (W.heap.size+1) 0 (ints .i64 T).toArray.toList=w2 at *
 have s2:=hW.size
 refine rSeq 9 32 (fun _=>false) [Is (.pointer (some ⟨W.heap.size,16,none⟩)),IsL pz,Is (.pointer (some ⟨(W.heap.size+1),16,none⟩)),IsL qz,Is (.bool sw),Is (.tuple #[(.agg (ints .i64 U).toArray),(.agg (ints .i64 V).toArray)]),Is (.tuple #[(.agg (ints .i64 U).toArray),(.agg (ints .i64 V).toArray)]),IsL U,IsL V] [20,21,22,23,24,25,19,26,27] (gC (gC (gC (gC (gC (gC (gC (gC (gC grows_nil)))))))))
  ⟨step_fa1 rfl (.inl rfl) rfl rfl (kO 3 rfl),
   step_part rfl (.inl rfl) (hP.snd hS) hpz rfl rfl (kI 0 20 rfl rfl),
   step_fa1 rfl (.inl rfl) rfl rfl (kO 4 rfl),
   step_part rfl (.inl rfl) (hQ.snd hT) hqz rfl rfl (kI 2 22 rfl rfl),
   step_mv rfl (.inl rfl) rfl rfl (kO 2 rfl),
   step_to rfl (.inl rfl) rfl cf29 kz rfl (three_args (kI 1 21 rfl rfl) (kI 3 23 rfl rfl) (kI 4 24 rfl rfl)),
   step_mv rfl (.inl rfl) rfl rfl (kI 5 25 rfl rfl),
   step_fst rfl (.inl rfl) rfl rfl (kI 6 19 rfl rfl),
   step_snd rfl (.inl rfl) rfl rfl (kI 6 19 rfl rfl),trivial⟩ ?_
 intro val w3 hw hS hap hla
 simp only [pA,pB,pC,pD,pE,Act.put,pG,pH,pI,eVal hS 0 20 rfl rfl,eVal hS 1 21 rfl rfl,eVal hS 2 22 rfl rfl,eVal hS 3 23 rfl rfl,eVal hS 4 24 rfl rfl,eVal hS 5 25 rfl rfl,eVal hS 6 19 rfl rfl,eVal hS 7 26 rfl rfl,eVal hS 8 27 rfl rfl]
 clear hS hap hla
 replace hP:=hP.next hw
 replace hQ:=hQ.next hw
 replace h6:=h6.next hw
 replace h7:=h7.next hw
 replace hW:=bT hW hw
 clear hw
 have r1:=(hP.snd hS).room (k':=.i64) (l':=U) (by rw [hU,hpz])
 have hQ1:=hQ.pastAt (b':=W.heap.size) 16 (ints .i64 U).toArray.toList (by omega)
 have r2:=(hQ1.snd hT).room (k':=.i64) (l':=V) (by rw [hV,hqz])
 replace hP:=(hP.put2 hS hU).pastAt (b':=W.heap.size+1) 16 (ints .i64 V).toArray.toList (by omega)
 replace hQ:=hQ1.put2 hT hV
 clear hQ1
 replace h6:=(h6.pastAt (b':=W.heap.size) 16 (ints .i64 U).toArray.toList (by omega)).pastAt (b':=W.heap.size+1) 16 (ints .i64 V).toArray.toList (by omega)
 replace h7:=(h7.pastAt (b':=W.heap.size) 16 (ints .i64 U).toArray.toList (by omega)).pastAt (b':=W.heap.size+1) 16 (ints .i64 V).toArray.toList (by omega)
 replace hW:=Below.setCells (Below.setCells hW (g:=W.heap.size) (by omega) 16 (ints .i64 U).toArray.toList) (g:=W.heap.size+1) (by omega) 16 (ints .i64 V).toArray.toList
 have l1:=hid hU
 have l2:=hid hV
 clear hpx hpz hqx hqz hS hT hU hV
 go_wp2_with (first
  | (with_reducible refine wpList_store_mid (op:=⟨none,.store 70 (.tmp 28) (.tmp 26),_,_,_,_⟩) rfl 70 (.tmp 28) (.tmp 26) rfl W.heap.size 16 (ints .i64 U).toArray rfl rfl r1 (a26 l1.out) (ints_all _ _) ?_)
  | (with_reducible refine wpList_store_mid (op:=⟨none,.store 70 (.tmp 29) (.tmp 27),_,_,_,_⟩) rfl 70 (.tmp 29) (.tmp 27) rfl (W.heap.size+1) 16 (ints .i64 V).toArray rfl rfl r2 (a26 l2.out) (ints_all _ _) ?_))
 obtain ⟨hpx,hpz,hqx,hqz,hS,hT,hU,hV⟩:=HL.out
 clear r1 r2 l1 l2
 generalize (w3.setCells W.heap.size 16 (ints .i64 U).toArray.toList).setCells (W.heap.size+1) 16 (ints .i64 V).toArray.toList=w4 at *
 clear hpx hpz hqx hqz hS hT hU hV
 go_wp2_with (fail)
 refine wp_region_any (by kernel_rfl) ?_
 change wpAny _ _ _ _ 4 _ _ w4.drew
 have XP:B2 w4.drew W.heap.size _:=hP
 have XQ:B2 w4.drew (W.heap.size+1) _:=hQ
 have X6:B2 w4.drew _ _:=h6
 have X7:B2 w4.drew _ _:=h7
 have XW:Below W.heap.size W w4.drew:=hW.drew
 generalize w4.drew=wz at *
 refine two_out _ _ _ _ rfl rfl rfl rfl rfl rfl rfl rfl (by kernel_rfl) (by kernel_rfl) (by kernel_rfl) (by kernel_rfl) (by kernel_rfl) (by kernel_rfl) (by kernel_rfl) 6 7 3 4 30 31 74 rfl rfl rfl rfl rfl rfl rfl rfl (W.heap.size+1+1) (W.heap.size+1+1+1) W.heap.size (W.heap.size+1) .i64 (S++U) (T++V) (zeros 32) (zeros 32) XP.1 XQ.1 X6.1 X7.1 (XP.2.trans (zeros_len 32).symm) (XQ.2.trans (zeros_len 32).symm) (by omega) (by omega) _ Tryz.underlying74 rfl (l45r XP.2) (l45r XQ.2) rfl rfl rfl rfl (by show (30:Nat)<32;decide) (by show (31:Nat)<32;decide) (by decide) (by decide) (by decide) (by decide) (by decide) (by decide) (by decide) ?_
 intro w9 y6 y7 ew
 have hW9:Below W.heap.size W w9:=by
  rw [ew]
  exact Below.setCells (Below.setCells XW (g:=W.heap.size+1+1) (by omega) 0 _) (g:=W.heap.size+1+1+1) (by omega) 0 _
 have q1:=XP.2
 have q2:=XQ.2
 clear ew X6 X7 XP XQ XW hW h6 h7 hP hQ
 simp only [Act.put,List.setIfInBounds_toArray,List.set_cons_succ,List.set_cons_zero]
 go_wp2_with (fail)
 exact bodyPost_ret (results_rows rfl _ _ (W.heap.size+1+1) (W.heap.size+1+1+1) rfl rfl (ints .i64 (S++U)) (ints .i64 (T++V)) _ y6.range y7.range Tryz.underlying74 rfl (l45r q1) (l45r q2)) rfl ⟨rfl,hW9⟩
theorem c_swapR {px pz qx qz:List Int} (h1:El px) (h2:El pz) (h3:El qx) (h4:El qz) (sw:Bool):CallsTo 49 #[.agg (ints .i64 (px++pz)).toArray,.agg (ints .i64 (qx++qz)).toArray,.bool sw] (.tuple #[.agg (ints .i64 ((if sw then qx else px)++(if sw then qz else pz))).toArray,.agg (ints .i64 ((if sw then px else qx)++(if sw then pz else qz))).toArray]) :=
 swapR_core h1.len h2.len h3.len h4.len (by cases sw;exact h1.len;exact h3.len) (by cases sw;exact h3.len;exact h1.len) (by cases sw;exact h2.len;exact h4.len) (by cases sw;exact h4.len;exact h2.len) (c_swap h1 h3 sw) (c_swap h2 h4 sw)
end
section
set_option maxHeartbeats 1000000
set_option maxRecDepth 50000
def clampL (b:List Int):List Int:=(b.set 0 (b.getD 0 0 / 8*8)).set 31 (b.getD 31 0%64+64)
theorem clampL_length (b:List Int):(clampL b).length=b.length:=by simp [clampL]
theorem u8_cases {Q:Int→Prop} (h:∀v:Fin 256,Q (v.val:Int)) (v:Int) (hv:0≤v∧v≤255):Q v:=by
 have:=h ⟨v.toNat,by omega⟩
 rwa [show ((v.toNat:Nat):Int)=v by omega] at this
theorem and248 (v:Int) (hv:0≤v∧v≤255):bits .and .u8 v 248=v / 8*8:=u8_cases (Q:=fun v=>bits .and .u8 v 248=v / 8*8) (by decide +kernel) v hv
theorem or64 (v:Int) (hv:0≤v∧v≤255):bits .or .u8 (bits .and .u8 v 127) 64=v%64+64:=u8_cases (Q:=fun v=>bits .or .u8 (bits .and .u8 v 127) 64=v%64+64) (by decide +kernel) v hv
theorem byt_at {b:List Int} (hb:Byt b) (hl:b.length=32) {i:Nat} (hi:i<32):0≤b.getD i 0∧b.getD i 0≤255:=by
 have:=hb (b.getD i 0) (List.mem_of_getElem? (getD_some (l:=b) (i:=i) (by omega)))
 omega
theorem clampL_byt {b:List Int} (hb:Byt b) (hl:b.length=32):Byt (clampL b):=by
 have h0:=byt_at hb hl (i:=0) (by omega)
 have h31:=byt_at hb hl (i:=31) (by omega)
 intro x hx
 rcases List.mem_or_eq_of_mem_set hx with h|h
 ·rcases List.mem_or_eq_of_mem_set h with h|h
  ·exact hb x h
  ·omega
 ·omega
theorem c_clamp {b:List Int} (hl:b.length=32) (hb:Byt b):CallsTo 46 #[.agg (ints .u8 b).toArray] (.agg (ints .u8 (clampL b)).toArray):=fun W=>by
 obtain ⟨z22,s22⟩:=zero_of_info inf22
 have hL:=hid hl
 have hC:=hid ((clampL_length b).trans hl)
 have h0:=byt_at hb hl (i:=0) (by omega)
 have h31:=byt_at hb hl (i:=31) (by omega)
 have e1:=and248 _ h0
 have e2:=or64 _ h31
 have g0:b[0]? = some (b.getD 0 0):=getD_some (by omega)
 have g31:b[31]? = some (b.getD 31 0):=getD_some (by omega)
 have hE:Hid (clampL b=(b.set 0 (b.getD 0 0 / 8*8)).set 31 (b.getD 31 0%64+64)):=hid rfl
 generalize b.getD 0 0=v0 at *
 generalize b.getD 31 0=v31 at *
 obtain ⟨u0,k0⟩:∃u,v0 / 8*8=u:=⟨_,rfl⟩
 obtain ⟨u31,k31⟩:∃u,v31%64+64=u:=⟨_,rfl⟩
 rw [k0] at e1 hE
 rw [k31] at e2 hE
 have hB:=(Arr.made W .u8 b 22).alloc (.cells (ints .u8 (zeros 32)).toArray 22)
 have hR:=Arr.made (W.alloc (.cells (ints .u8 b).toArray 22)) .u8 (zeros 32) 22
 have hW:=(below_new W (.cells (ints .u8 b).toArray 22)).alloc (by simp) (.cells (ints .u8 (zeros 32)).toArray 22)
 rw [World.size_alloc] at hR
 clear hb h0 h31 k0 k31
 generalize clampL b=cb at *
 go_enter Tryz.func46,Tryz.ntmps46
 go_upto_region 1 with (fail)
 generalize (W.alloc (.cells (ints .u8 b).toArray 22)).alloc (.cells (ints .u8 (zeros 32)).toArray 22)=w0 at *
 have c0:=hB.at_ g0
 have f0:=hB.free (i:=0) (by omega)
 have hB1:=hB.set 0 u0
 have c31:=hB1.at_ (i:=31) (x:=v31) (by rw [List.getElem?_set_ne (by omega)];exact g31)
 have f31:=hB1.free (i:=31) (by simp;omega)
 have hB2:=hB1.set 31 u31
 rw [←hE.out] at hB2
 have hR1:=(hR.apart (p:=⟨W.heap.size,0,none⟩) (.int .u8 u0) (.inl (by show W.heap.size≠W.heap.size+1;omega))).apart (p:=⟨W.heap.size,31,none⟩) (.int .u8 u31) (.inl (by show W.heap.size≠W.heap.size+1;omega))
 have r1:=hR1.room (k':=.u8) (l':=cb) (by rw [zeros_len];exact hC.out)
 have hR2:=hR1.stored (l':=cb) (by rw [zeros_len];exact hC.out)
 have hW1:=Below.setCells ((hW.setCell (p:=⟨W.heap.size,0,none⟩) (by show W.heap.size≤W.heap.size;omega) (.int .u8 u0)).setCell (p:=⟨W.heap.size,31,none⟩) (by show W.heap.size≤W.heap.size;omega) (.int .u8 u31)) (g:=W.heap.size+1) (by omega) 0 (ints .u8 cb).toArray.toList
 simp only [Nat.zero_add] at c0 f0 c31 f31 hB2 hR1 r1 hR2 hW1
 clear hl g0 g31
 go_wp2_with (first
  | (with_reducible refine wpList_load_mid (op:=⟨some 12,.load 22 (.tmp 1),_,_,_,_⟩) rfl 22 (.tmp 1) rfl W.heap.size 0 rfl (ints .u8 cb) _ hB2.range Tryz.underlying22 rfl (l22 hC.out) ?_)
  | (with_reducible refine wpList_store_mid (op:=⟨none,.store 22 (.tmp 2) (.tmp 12),_,_,_,_⟩) rfl 22 (.tmp 2) (.tmp 12) rfl (W.heap.size+1) 0 (ints .u8 cb).toArray rfl rfl r1 (a22 hC.out) (ints_all _ _) ?_))
 exact ret_rows rfl (W.heap.size+1) 0 rfl (ints .u8 cb) _ hR2.range Tryz.underlying22 rfl (l22 hC.out) rfl ⟨rfl,hW1⟩
theorem c_rclamp {b:List Int} (hl:b.length=32) (hb:Byt b):CallsTo 33 #[.agg (ints .u8 b).toArray] (.agg (ints .u8 (clampL b)).toArray):=fun W=>by
 obtain ⟨z22,s22⟩:=zero_of_info inf22
 have hL:=hid hl
 have hC:=hid ((clampL_length b).trans hl)
 have h0:=byt_at hb hl (i:=0) (by omega)
 have h31:=byt_at hb hl (i:=31) (by omega)
 have q1:(b.getD 0 0).tdiv 8=b.getD 0 0 / 8:=Int.tdiv_eq_ediv_of_nonneg h0.1
 have q2:(b.getD 31 0).tmod 64=b.getD 31 0%64:=Int.tmod_eq_emod_of_nonneg h31.1
 have m1:IntKind.u8.wrap (b.getD 0 0 / 8)=b.getD 0 0 / 8:=IntWalk.u8_in _ (by omega)
 have m2:IntKind.u8.wrap (b.getD 0 0 / 8*8)=b.getD 0 0 / 8*8:=IntWalk.u8_in _ (by omega)
 have m3:IntKind.u8.wrap (b.getD 31 0%64)=b.getD 31 0%64:=IntWalk.u8_in _ (by omega)
 have m4:IntKind.u8.wrap (b.getD 31 0%64+64)=b.getD 31 0%64+64:=IntWalk.u8_in _ (by omega)
 have g0:b[0]? = some (b.getD 0 0):=getD_some (by omega)
 have g31:b[31]? = some (b.getD 31 0):=getD_some (by omega)
 have hE:Hid (clampL b=(b.set 0 (b.getD 0 0 / 8*8)).set 31 (b.getD 31 0%64+64)):=hid rfl
 generalize b.getD 0 0=v0 at *
 generalize b.getD 31 0=v31 at *
 obtain ⟨u0,k0⟩:∃u,v0 / 8*8=u:=⟨_,rfl⟩
 obtain ⟨u31,k31⟩:∃u,v31%64+64=u:=⟨_,rfl⟩
 rw [k0] at m2 hE
 rw [k31] at m4 hE
 have hB:=(Arr.made W .u8 b 22).alloc (.cells (ints .u8 (zeros 32)).toArray 22)
 have hR:=Arr.made (W.alloc (.cells (ints .u8 b).toArray 22)) .u8 (zeros 32) 22
 have hW:=(below_new W (.cells (ints .u8 b).toArray 22)).alloc (by simp) (.cells (ints .u8 (zeros 32)).toArray 22)
 rw [World.size_alloc] at hR
 clear hb
 generalize clampL b=cb at *
 go_enter Tryz.func33,Tryz.ntmps33
 go_upto_region 1 with (fail)
 generalize (W.alloc (.cells (ints .u8 b).toArray 22)).alloc (.cells (ints .u8 (zeros 32)).toArray 22)=w0 at *
 have c0:=hB.at_ g0
 have f0:=hB.free (i:=0) (by omega)
 have hB1:=hB.set 0 u0
 have c31:=hB1.at_ (i:=31) (x:=v31) (by rw [List.getElem?_set_ne (by omega)];exact g31)
 have f31:=hB1.free (i:=31) (by simp;omega)
 have hB2:=hB1.set 31 u31
 rw [←hE.out] at hB2
 have hR1:=(hR.apart (p:=⟨W.heap.size,0,none⟩) (.int .u8 u0) (.inl (by show W.heap.size≠W.heap.size+1;omega))).apart (p:=⟨W.heap.size,31,none⟩) (.int .u8 u31) (.inl (by show W.heap.size≠W.heap.size+1;omega))
 have r1:=hR1.room (k':=.u8) (l':=cb) (by rw [zeros_len];exact hC.out)
 have hR2:=hR1.stored (l':=cb) (by rw [zeros_len];exact hC.out)
 have hW1:=Below.setCells ((hW.setCell (p:=⟨W.heap.size,0,none⟩) (by show W.heap.size≤W.heap.size;omega) (.int .u8 u0)).setCell (p:=⟨W.heap.size,31,none⟩) (by show W.heap.size≤W.heap.size;omega) (.int .u8 u31)) (g:=W.heap.size+1) (by omega) 0 (ints .u8 cb).toArray.toList
 simp only [Nat.zero_add] at c0 f0 c31 f31 hB2 hR1 r1 hR2 hW1
 clear hl g0 g31
 go_wp2_with (first
  | (with_reducible refine wpList_load_mid (op:=⟨some 13,.load 22 (.tmp 1),_,_,_,_⟩) rfl 22 (.tmp 1) rfl W.heap.size 0 rfl (ints .u8 cb) _ hB2.range Tryz.underlying22 rfl (l22 hC.out) ?_)
  | (with_reducible refine wpList_store_mid (op:=⟨none,.store 22 (.tmp 2) (.tmp 13),_,_,_,_⟩) rfl 22 (.tmp 2) (.tmp 13) rfl (W.heap.size+1) 0 (ints .u8 cb).toArray rfl rfl r1 (a22 hC.out) (ints_all _ _) ?_))
 exact ret_rows rfl (W.heap.size+1) 0 rfl (ints .u8 cb) _ hR2.range Tryz.underlying22 rfl (l22 hC.out) rfl ⟨rfl,hW1⟩
end
end Go.Proofs.YtkblmdakejmmhaaGreatDoor
