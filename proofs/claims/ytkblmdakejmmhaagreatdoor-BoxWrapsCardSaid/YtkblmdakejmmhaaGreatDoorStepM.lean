import Derived.Test.YtkblmdakejmmhaaGreatDoorRatM
namespace Go.Proofs.YtkblmdakejmmhaaGreatDoor
open Go Go.RowKit
set_option maxHeartbeats 4000000
set_option maxRecDepth 50000
def nA (a b:Nat):Nat:=(a+b)%NT.PN
def nS (a b:Nat):Nat:=(a+NT.PN - b)%NT.PN
def nM (a b:Nat):Nat:=a*b%NT.PN
def dE (x z:Nat):Nat:=nS (nM (nA x z) (nA x z)) (nM (nS x z) (nS x z))
def dX (x z:Nat):Nat:=nM (nM (nA x z) (nA x z)) (nM (nS x z) (nS x z))
def dZ (x z:Nat):Nat:=nM (dE x z) (nA (nM (nA x z) (nA x z)) (nM 121665 (dE x z)))
def sU (a b c d:Nat):Nat:=nM (nS c d) (nA a b)
def sV (a b c d:Nat):Nat:=nM (nA c d) (nS a b)
def sX (a b c d:Nat):Nat:=nM (nA (sU a b c d) (sV a b c d)) (nA (sU a b c d) (sV a b c d))
def sZ (u a b c d:Nat):Nat:=nM u (nM (nS (sU a b c d) (sV a b c d)) (nS (sU a b c d) (sV a b c d)))
theorem fac_byt:Byt ([65,219,1]++zeros 29):=by
 have h:([65,219,1]++zeros 29).all (fun x=>decide (0≤x∧x≤255))=true:=by decide +kernel
 intro x hx
 have:=List.all_eq_true.1 h x hx
 simp only [decide_eq_true_eq] at this
 omega
theorem factor_walk (f:List Int) (hB:Hid (CallsTo 47 #[.agg #[.int .u8 65,.int .u8 219,.int .u8 1,.int .u8 0,.int .u8 0,.int .u8 0,.int .u8 0,.int .u8 0,.int .u8 0,.int .u8 0,.int .u8 0,.int .u8 0,.int .u8 0,.int .u8 0,.int .u8 0,.int .u8 0,.int .u8 0,.int .u8 0,.int .u8 0,.int .u8 0,.int .u8 0,.int .u8 0,.int .u8 0,.int .u8 0,.int .u8 0,.int .u8 0,.int .u8 0,.int .u8 0,.int .u8 0,.int .u8 0,.int .u8 0,.int .u8 0]] (.agg (ints .i64 f).toArray))) (HL:Hid (f.length=16)):CallsTo 74 #[] (.agg (ints .i64 f).toArray):=fun W=>by
 obtain ⟨z26,s26⟩:=zero_of_info inf26
 have hR:=Arr.made W .i64 (zeros 16) 70
 have hW:=below_new W (.cells (ints .i64 (zeros 16)).toArray 70)
 go_enter Tryz.func74,Tryz.ntmps74
 go_wp2_with (fail)
 refine (hB.out _).mono ?_
 rintro e w1 ⟨rfl,hb⟩
 replace hW:=hW.trans (hb.mono hW.size)
 replace hR:=hR.below hb (by simp)
 have hs:=hR.room (k':=.i64) (l':=f) (by rw [zeros_len];exact HL.out)
 have hR2:=hR.stored (l':=f) (by rw [zeros_len];exact HL.out)
 replace hW:=Below.setCells hW (g:=W.heap.size) (by omega) 0 (ints .i64 f).toArray.toList
 go_wp2_with (first
  | (with_reducible refine wpList_store_mid (op:=⟨none,.store 70 (.tmp 0) (.tmp 2),_,_,_,_⟩) rfl 70 (.tmp 0) (.tmp 2) rfl W.heap.size 0 (ints .i64 f).toArray rfl rfl hs (a26 HL.out) (ints_all _ _) ?_))
 exact ret_rows rfl W.heap.size 0 rfl (ints .i64 f) _ hR2.range Tryz.underlying70 rfl (l26 HL.out) rfl ⟨rfl,hW⟩
theorem c_factor:∃f,CallsTo 74 #[] (.agg (ints .i64 f).toArray)∧Nm f 121665:=by
 have hf:El (ofL ([65,219,1]++zeros 29)):=ofL_el fac_byt
 have hn:Nm (ofL ([65,219,1]++zeros 29)) 121665:=⟨hf,by decide +kernel⟩
 have hc:=c_of (bs:=[65,219,1]++zeros 29) (by rw [List.length_append,zeros_len];rfl) fac_byt
 refine ⟨ofL ([65,219,1]++zeros 29),?_,hn⟩
 have hl:=hf.len
 clear hn hf
 generalize ofL ([65,219,1]++zeros 29)=f at *
 exact factor_walk f (hid hc) (hid hl)
theorem c_step {px pz qx qz uu:List Int} {a b c d m:Nat} (hpx:Nm px a) (hpz:Nm pz b) (hqx:Nm qx c) (hqz:Nm qz d) (huu:Nm uu m):∃dx dz sx sz,CallsTo 50 #[.agg (ints .i64 (px++pz)).toArray,.agg (ints .i64 (qx++qz)).toArray,.agg (ints .i64 uu).toArray] (.tuple #[.agg (ints .i64 (dx++dz)).toArray,.agg (ints .i64 (sx++sz)).toArray])∧Nm dx (dX a b)∧Nm dz (dZ a b)∧Nm sx (sX a b c d)∧Nm sz (sZ m a b c d):=by
 obtain ⟨fac,kfac,hfac⟩:=c_factor
 obtain ⟨v0,kv0,hv0⟩:∃v,CallsTo 72 #[.agg (ints .i64 px).toArray,.agg (ints .i64 pz).toArray] (.agg (ints .i64 v).toArray)∧Nm v ((a+b)%NT.PN):=⟨_,c_add hpx.1 hpz.1,hpx.add hpz⟩
 obtain ⟨v1,kv1,hv1⟩:∃v,CallsTo 73 #[.agg (ints .i64 px).toArray,.agg (ints .i64 pz).toArray] (.agg (ints .i64 v).toArray)∧Nm v ((a+NT.PN - b)%NT.PN):=⟨_,c_sub hpx.1 hpz.1,hpx.sub hpz⟩
 obtain ⟨v2,kv2,hv2⟩:∃v,CallsTo 72 #[.agg (ints .i64 qx).toArray,.agg (ints .i64 qz).toArray] (.agg (ints .i64 v).toArray)∧Nm v ((c+d)%NT.PN):=⟨_,c_add hqx.1 hqz.1,hqx.add hqz⟩
 obtain ⟨v3,kv3,hv3⟩:∃v,CallsTo 73 #[.agg (ints .i64 qx).toArray,.agg (ints .i64 qz).toArray] (.agg (ints .i64 v).toArray)∧Nm v ((c+NT.PN - d)%NT.PN):=⟨_,c_sub hqx.1 hqz.1,hqx.sub hqz⟩
 obtain ⟨v4,kv4,hv4⟩:∃v,CallsTo 51 #[.agg (ints .i64 v0).toArray,.agg (ints .i64 v0).toArray] (.agg (ints .i64 v).toArray)∧Nm v (((a+b)%NT.PN)*((a+b)%NT.PN)%NT.PN):=⟨_,c_mul hv0.1 hv0.1,hv0.mul hv0⟩
 obtain ⟨v5,kv5,hv5⟩:∃v,CallsTo 51 #[.agg (ints .i64 v1).toArray,.agg (ints .i64 v1).toArray] (.agg (ints .i64 v).toArray)∧Nm v (((a+NT.PN - b)%NT.PN)*((a+NT.PN - b)%NT.PN)%NT.PN):=⟨_,c_mul hv1.1 hv1.1,hv1.mul hv1⟩
 obtain ⟨v6,kv6,hv6⟩:∃v,CallsTo 51 #[.agg (ints .i64 v3).toArray,.agg (ints .i64 v0).toArray] (.agg (ints .i64 v).toArray)∧Nm v (((c+NT.PN - d)%NT.PN)*((a+b)%NT.PN)%NT.PN):=⟨_,c_mul hv3.1 hv0.1,hv3.mul hv0⟩
 obtain ⟨v7,kv7,hv7⟩:∃v,CallsTo 51 #[.agg (ints .i64 v2).toArray,.agg (ints .i64 v1).toArray] (.agg (ints .i64 v).toArray)∧Nm v (((c+d)%NT.PN)*((a+NT.PN - b)%NT.PN)%NT.PN):=⟨_,c_mul hv2.1 hv1.1,hv2.mul hv1⟩
 obtain ⟨v8,kv8,hv8⟩:∃v,CallsTo 73 #[.agg (ints .i64 v4).toArray,.agg (ints .i64 v5).toArray] (.agg (ints .i64 v).toArray)∧Nm v (((((a+b)%NT.PN)*((a+b)%NT.PN)%NT.PN)+NT.PN - (((a+NT.PN - b)%NT.PN)*((a+NT.PN - b)%NT.PN)%NT.PN))%NT.PN):=⟨_,c_sub hv4.1 hv5.1,hv4.sub hv5⟩
 obtain ⟨v9,kv9,hv9⟩:∃v,CallsTo 72 #[.agg (ints .i64 v6).toArray,.agg (ints .i64 v7).toArray] (.agg (ints .i64 v).toArray)∧Nm v (((((c+NT.PN - d)%NT.PN)*((a+b)%NT.PN)%NT.PN)+(((c+d)%NT.PN)*((a+NT.PN - b)%NT.PN)%NT.PN))%NT.PN):=⟨_,c_add hv6.1 hv7.1,hv6.add hv7⟩
 obtain ⟨v10,kv10,hv10⟩:∃v,CallsTo 73 #[.agg (ints .i64 v6).toArray,.agg (ints .i64 v7).toArray] (.agg (ints .i64 v).toArray)∧Nm v (((((c+NT.PN - d)%NT.PN)*((a+b)%NT.PN)%NT.PN)+NT.PN - (((c+d)%NT.PN)*((a+NT.PN - b)%NT.PN)%NT.PN))%NT.PN):=⟨_,c_sub hv6.1 hv7.1,hv6.sub hv7⟩
 obtain ⟨v11,kv11,hv11⟩:∃v,CallsTo 51 #[.agg (ints .i64 v4).toArray,.agg (ints .i64 v5).toArray] (.agg (ints .i64 v).toArray)∧Nm v ((((a+b)%NT.PN)*((a+b)%NT.PN)%NT.PN)*(((a+NT.PN - b)%NT.PN)*((a+NT.PN - b)%NT.PN)%NT.PN)%NT.PN):=⟨_,c_mul hv4.1 hv5.1,hv4.mul hv5⟩
 obtain ⟨v12,kv12,hv12⟩:∃v,CallsTo 51 #[.agg (ints .i64 fac).toArray,.agg (ints .i64 v8).toArray] (.agg (ints .i64 v).toArray)∧Nm v (121665*(((((a+b)%NT.PN)*((a+b)%NT.PN)%NT.PN)+NT.PN - (((a+NT.PN - b)%NT.PN)*((a+NT.PN - b)%NT.PN)%NT.PN))%NT.PN)%NT.PN):=⟨_,c_mul hfac.1 hv8.1,hfac.mul hv8⟩
 obtain ⟨v13,kv13,hv13⟩:∃v,CallsTo 72 #[.agg (ints .i64 v4).toArray,.agg (ints .i64 v12).toArray] (.agg (ints .i64 v).toArray)∧Nm v (((((a+b)%NT.PN)*((a+b)%NT.PN)%NT.PN)+(121665*(((((a+b)%NT.PN)*((a+b)%NT.PN)%NT.PN)+NT.PN - (((a+NT.PN - b)%NT.PN)*((a+NT.PN - b)%NT.PN)%NT.PN))%NT.PN)%NT.PN))%NT.PN):=⟨_,c_add hv4.1 hv12.1,hv4.add hv12⟩
 obtain ⟨v14,kv14,hv14⟩:∃v,CallsTo 51 #[.agg (ints .i64 v8).toArray,.agg (ints .i64 v13).toArray] (.agg (ints .i64 v).toArray)∧Nm v ((((((a+b)%NT.PN)*((a+b)%NT.PN)%NT.PN)+NT.PN - (((a+NT.PN - b)%NT.PN)*((a+NT.PN - b)%NT.PN)%NT.PN))%NT.PN)*(((((a+b)%NT.PN)*((a+b)%NT.PN)%NT.PN)+(121665*(((((a+b)%NT.PN)*((a+b)%NT.PN)%NT.PN)+NT.PN - (((a+NT.PN - b)%NT.PN)*((a+NT.PN - b)%NT.PN)%NT.PN))%NT.PN)%NT.PN))%NT.PN)%NT.PN):=⟨_,c_mul hv8.1 hv13.1,hv8.mul hv13⟩
 obtain ⟨v15,kv15,hv15⟩:∃v,CallsTo 51 #[.agg (ints .i64 v9).toArray,.agg (ints .i64 v9).toArray] (.agg (ints .i64 v).toArray)∧Nm v ((((((c+NT.PN - d)%NT.PN)*((a+b)%NT.PN)%NT.PN)+(((c+d)%NT.PN)*((a+NT.PN - b)%NT.PN)%NT.PN))%NT.PN)*(((((c+NT.PN - d)%NT.PN)*((a+b)%NT.PN)%NT.PN)+(((c+d)%NT.PN)*((a+NT.PN - b)%NT.PN)%NT.PN))%NT.PN)%NT.PN):=⟨_,c_mul hv9.1 hv9.1,hv9.mul hv9⟩
 obtain ⟨v16,kv16,hv16⟩:∃v,CallsTo 51 #[.agg (ints .i64 v10).toArray,.agg (ints .i64 v10).toArray] (.agg (ints .i64 v).toArray)∧Nm v ((((((c+NT.PN - d)%NT.PN)*((a+b)%NT.PN)%NT.PN)+NT.PN - (((c+d)%NT.PN)*((a+NT.PN - b)%NT.PN)%NT.PN))%NT.PN)*(((((c+NT.PN - d)%NT.PN)*((a+b)%NT.PN)%NT.PN)+NT.PN - (((c+d)%NT.PN)*((a+NT.PN - b)%NT.PN)%NT.PN))%NT.PN)%NT.PN):=⟨_,c_mul hv10.1 hv10.1,hv10.mul hv10⟩
 obtain ⟨v17,kv17,hv17⟩:∃v,CallsTo 51 #[.agg (ints .i64 uu).toArray,.agg (ints .i64 v16).toArray] (.agg (ints .i64 v).toArray)∧Nm v (m*((((((c+NT.PN - d)%NT.PN)*((a+b)%NT.PN)%NT.PN)+NT.PN - (((c+d)%NT.PN)*((a+NT.PN - b)%NT.PN)%NT.PN))%NT.PN)*(((((c+NT.PN - d)%NT.PN)*((a+b)%NT.PN)%NT.PN)+NT.PN - (((c+d)%NT.PN)*((a+NT.PN - b)%NT.PN)%NT.PN))%NT.PN)%NT.PN)%NT.PN):=⟨_,c_mul huu.1 hv16.1,huu.mul hv16⟩
 refine ⟨v11,v14,v15,v17,fun W=>?_,hv11,hv14,hv15,hv17⟩
 obtain ⟨z45,s45⟩:=zero_of_info inf45
 have hP:=((((B2.new W (px++pz) (len32 hpx.1.len hpz.1.len)).next (below_new _ (.cells (ints .i64 (qx++qz)).toArray 74))).next (below_new _ (.cells (ints .i64 uu).toArray 70))).next (below_new _ (.cells (ints .i64 (zeros 32)).toArray 74))).next (below_new _ (.cells (ints .i64 (zeros 32)).toArray 74))
 have hQ:=(((B2.new (W.alloc (.cells (ints .i64 (px++pz)).toArray 74)) (qx++qz) (len32 hqx.1.len hqz.1.len)).next (below_new _ (.cells (ints .i64 uu).toArray 70))).next (below_new _ (.cells (ints .i64 (zeros 32)).toArray 74))).next (below_new _ (.cells (ints .i64 (zeros 32)).toArray 74))
 have hU:=((Bx.next ⟨Arr.made ((W.alloc (.cells (ints .i64 (px++pz)).toArray 74)).alloc (.cells (ints .i64 (qx++qz)).toArray 74)) .i64 uu 70,huu.1.len⟩ (below_new _ (.cells (ints .i64 (zeros 32)).toArray 74))).next (below_new _ (.cells (ints .i64 (zeros 32)).toArray 74)))
 have h6:=(B2.new (((W.alloc (.cells (ints .i64 (px++pz)).toArray 74)).alloc (.cells (ints .i64 (qx++qz)).toArray 74)).alloc (.cells (ints .i64 uu).toArray 70)) (zeros 32) (zeros_len 32)).next (below_new _ (.cells (ints .i64 (zeros 32)).toArray 74))
 have h7:=B2.new ((((W.alloc (.cells (ints .i64 (px++pz)).toArray 74)).alloc (.cells (ints .i64 (qx++qz)).toArray 74)).alloc (.cells (ints .i64 uu).toArray 70)).alloc (.cells (ints .i64 (zeros 32)).toArray 74)) (zeros 32) (zeros_len 32)
 have hW:=((((below_new W (.cells (ints .i64 (px++pz)).toArray 74)).alloc (by simp) (.cells (ints .i64 (qx++qz)).toArray 74)).alloc (by simp;omega) (.cells (ints .i64 uu).toArray 70)).alloc (by simp;omega) (.cells (ints .i64 (zeros 32)).toArray 74)).alloc (by simp;omega) (.cells (ints .i64 (zeros 32)).toArray 74)
 simp only [World.size_alloc] at hQ hU h6 h7
 go_enter Tryz.func50,Tryz.ntmps50
 go_wp2_with (fail)
 generalize ((((W.alloc (.cells (ints .i64 (px++pz)).toArray 74)).alloc (.cells (ints .i64 (qx++qz)).toArray 74)).alloc (.cells (ints .i64 uu).toArray 70)).alloc (.cells (ints .i64 (zeros 32)).toArray 74)).alloc (.cells (ints .i64 (zeros 32)).toArray 74)=w0 at *
 have s0:=hW.size
 refine rSpec 12 84 (fun i=>i==10||i==11) [Is (.pointer (some ⟨W.heap.size,0,none⟩)),IsL px,Is (.pointer (some ⟨W.heap.size,16,none⟩)),IsL pz,IsL v0,Is (.pointer (some ⟨W.heap.size,0,none⟩)),IsL px,Is (.pointer (some ⟨W.heap.size,16,none⟩)),IsL pz,IsL v1,IsZ w0.heap.size,IsZ w0.heap.size] [21,22,23,24,25,26,27,28,29,30,8,9] (gC (gC (gC (gC (gC (gC (gC (gC (gC (gC (grows_cons (IsZ.grows _) (grows_cons (IsZ.grows _) grows_nil))))))))))))
  ⟨step_fa0 rfl (.inl rfl) rfl rfl (kO 3 rfl),
   step_part rfl (.inl rfl) (hP.fst hpx.1.len) hpx.1.len rfl rfl (kI 0 21 rfl rfl),
   step_fa1 rfl (.inl rfl) rfl rfl (kO 3 rfl),
   step_part rfl (.inl rfl) (hP.snd hpx.1.len) hpz.1.len rfl rfl (kI 2 23 rfl rfl),
   step_to rfl (.inl rfl) rfl cf18 kv0 rfl (two_args (kI 1 22 rfl rfl) (kI 3 24 rfl rfl)),
   step_fa0 rfl (.inl rfl) rfl rfl (kO 3 rfl),
   step_part rfl (.inl rfl) (hP.fst hpx.1.len) hpx.1.len rfl rfl (kI 5 26 rfl rfl),
   step_fa1 rfl (.inl rfl) rfl rfl (kO 3 rfl),
   step_part rfl (.inl rfl) (hP.snd hpx.1.len) hpz.1.len rfl rfl (kI 7 28 rfl rfl),
   step_to rfl (.inl rfl) rfl cf20 kv1 rfl (two_args (kI 6 27 rfl rfl) (kI 8 29 rfl rfl)),
   step_alloc26 (.inl rfl) rfl rfl,
   step_alloc26 (.inl rfl) rfl rfl,trivial⟩ ?_
 intro val w1 hw hS hap hla
 obtain ⟨b8,e8,L8,Z8⟩:=hS 10 8 (by decide) rfl
 obtain ⟨b9,e9,L9,Z9⟩:=hS 11 9 (by decide) rfl
 have ne8_9:b8≠b9:=fun e=>hap 10 11 8 9 (by decide) (by decide) rfl rfl (by decide) rfl rfl (by rw [e8,e9,e])
 simp only [pA,pB,pC,pD,pE,Act.put,pG,pH,pI,eVal hS 0 21 rfl rfl,eVal hS 1 22 rfl rfl,eVal hS 2 23 rfl rfl,eVal hS 3 24 rfl rfl,eVal hS 4 25 rfl rfl,eVal hS 5 26 rfl rfl,eVal hS 6 27 rfl rfl,eVal hS 7 28 rfl rfl,eVal hS 8 29 rfl rfl,eVal hS 9 30 rfl rfl,e8,e9]
 clear hS hap hla e8 e9
 have LL8:=hid hv0.1.len
 have LL9:=hid hv1.1.len
 have R8:=Z8.room (l':=v0) hv0.1.len
 have hB8:=Z8.stored (l':=v0) hv0.1.len
 replace Z9:=Z9.past (b':=b8) (ints .i64 v0).toArray.toList ne8_9
 have R9:=Z9.room (l':=v1) hv1.1.len
 have hB9:=Z9.stored (l':=v1) hv1.1.len
 replace hB8:=hB8.past (b':=b9) (ints .i64 v1).toArray.toList (Ne.symm ne8_9)
 have hu:=Below.setCells (Below.setCells hw L8 0 (ints .i64 v0).toArray.toList) L9 0 (ints .i64 v1).toArray.toList
 replace hP:=hP.next hu
 replace hQ:=hQ.next hu
 replace hU:=hU.next hu
 replace h6:=h6.next hu
 replace h7:=h7.next hu
 replace hW:=bT hW hu
 clear hu
 with_reducible refine wpList_store_mid (op:=⟨none,.store 70 (.tmp 8) (.tmp 25),_,_,_,_⟩) rfl 70 (.tmp 8) (.tmp 25) rfl b8 0 (ints .i64 v0).toArray rfl rfl R8 (a26 LL8.out) (ints_all _ _) ?_
 with_reducible refine wpList_store_mid (op:=⟨none,.store 70 (.tmp 9) (.tmp 30),_,_,_,_⟩) rfl 70 (.tmp 9) (.tmp 30) rfl b9 0 (ints .i64 v1).toArray rfl rfl R9 (a26 LL9.out) (ints_all _ _) ?_
 generalize ((w1.setCells b8 0 (ints .i64 v0).toArray.toList).setCells b9 0 (ints .i64 v1).toArray.toList)=w2 at *
 clear hw R8 LL8 Z8 L8 R9 LL9 Z9 L9 ne8_9
 go_wp2_with (fail)
 have s2:=hW.size
 refine rSpec 12 84 (fun i=>i==10||i==11) [Is (.pointer (some ⟨(W.heap.size+1),0,none⟩)),IsL qx,Is (.pointer (some ⟨(W.heap.size+1),16,none⟩)),IsL qz,IsL v2,Is (.pointer (some ⟨(W.heap.size+1),0,none⟩)),IsL qx,Is (.pointer (some ⟨(W.heap.size+1),16,none⟩)),IsL qz,IsL v3,IsZ w2.heap.size,IsZ w2.heap.size] [31,32,33,34,35,36,37,38,39,40,10,11] (gC (gC (gC (gC (gC (gC (gC (gC (gC (gC (grows_cons (IsZ.grows _) (grows_cons (IsZ.grows _) grows_nil))))))))))))
  ⟨step_fa0 rfl (.inl rfl) rfl rfl (kO 4 rfl),
   step_part rfl (.inl rfl) (hQ.fst hqx.1.len) hqx.1.len rfl rfl (kI 0 31 rfl rfl),
   step_fa1 rfl (.inl rfl) rfl rfl (kO 4 rfl),
   step_part rfl (.inl rfl) (hQ.snd hqx.1.len) hqz.1.len rfl rfl (kI 2 33 rfl rfl),
   step_to rfl (.inl rfl) rfl cf18 kv2 rfl (two_args (kI 1 32 rfl rfl) (kI 3 34 rfl rfl)),
   step_fa0 rfl (.inl rfl) rfl rfl (kO 4 rfl),
   step_part rfl (.inl rfl) (hQ.fst hqx.1.len) hqx.1.len rfl rfl (kI 5 36 rfl rfl),
   step_fa1 rfl (.inl rfl) rfl rfl (kO 4 rfl),
   step_part rfl (.inl rfl) (hQ.snd hqx.1.len) hqz.1.len rfl rfl (kI 7 38 rfl rfl),
   step_to rfl (.inl rfl) rfl cf20 kv3 rfl (two_args (kI 6 37 rfl rfl) (kI 8 39 rfl rfl)),
   step_alloc26 (.inl rfl) rfl rfl,
   step_alloc26 (.inl rfl) rfl rfl,trivial⟩ ?_
 intro val w3 hw hS hap hla
 obtain ⟨b10,e10,L10,Z10⟩:=hS 10 10 (by decide) rfl
 obtain ⟨b11,e11,L11,Z11⟩:=hS 11 11 (by decide) rfl
 have ne10_11:b10≠b11:=fun e=>hap 10 11 10 11 (by decide) (by decide) rfl rfl (by decide) rfl rfl (by rw [e10,e11,e])
 simp only [pA,pB,pC,pD,pE,Act.put,pG,pH,pI,eVal hS 0 31 rfl rfl,eVal hS 1 32 rfl rfl,eVal hS 2 33 rfl rfl,eVal hS 3 34 rfl rfl,eVal hS 4 35 rfl rfl,eVal hS 5 36 rfl rfl,eVal hS 6 37 rfl rfl,eVal hS 7 38 rfl rfl,eVal hS 8 39 rfl rfl,eVal hS 9 40 rfl rfl,e10,e11]
 clear hS hap hla e10 e11
 have LL10:=hid hv2.1.len
 have LL11:=hid hv3.1.len
 have R10:=Z10.room (l':=v2) hv2.1.len
 have hB10:=Z10.stored (l':=v2) hv2.1.len
 replace Z11:=Z11.past (b':=b10) (ints .i64 v2).toArray.toList ne10_11
 have R11:=Z11.room (l':=v3) hv3.1.len
 have hB11:=Z11.stored (l':=v3) hv3.1.len
 replace hB10:=hB10.past (b':=b11) (ints .i64 v3).toArray.toList (Ne.symm ne10_11)
 have hu:=Below.setCells (Below.setCells hw L10 0 (ints .i64 v2).toArray.toList) L11 0 (ints .i64 v3).toArray.toList
 replace hP:=hP.next hu
 replace hQ:=hQ.next hu
 replace hU:=hU.next hu
 replace h6:=h6.next hu
 replace h7:=h7.next hu
 replace hB8:=hB8.next hu
 replace hB9:=hB9.next hu
 replace hW:=bT hW hu
 clear hu
 with_reducible refine wpList_store_mid (op:=⟨none,.store 70 (.tmp 10) (.tmp 35),_,_,_,_⟩) rfl 70 (.tmp 10) (.tmp 35) rfl b10 0 (ints .i64 v2).toArray rfl rfl R10 (a26 LL10.out) (ints_all _ _) ?_
 with_reducible refine wpList_store_mid (op:=⟨none,.store 70 (.tmp 11) (.tmp 40),_,_,_,_⟩) rfl 70 (.tmp 11) (.tmp 40) rfl b11 0 (ints .i64 v3).toArray rfl rfl R11 (a26 LL11.out) (ints_all _ _) ?_
 generalize ((w3.setCells b10 0 (ints .i64 v2).toArray.toList).setCells b11 0 (ints .i64 v3).toArray.toList)=w4 at *
 clear hw R10 LL10 Z10 L10 R11 LL11 Z11 L11 ne10_11
 go_wp2_with (fail)
 have s4:=hW.size
 refine rSpec 16 84 (fun i=>i==12||i==13||i==14||i==15) [IsL v0,IsL v0,IsL v4,IsL v1,IsL v1,IsL v5,IsL v3,IsL v0,IsL v6,IsL v2,IsL v1,IsL v7,IsZ w4.heap.size,IsZ w4.heap.size,IsZ w4.heap.size,IsZ w4.heap.size] [41,42,43,44,45,46,47,48,49,50,51,52,12,13,14,15] (gC (gC (gC (gC (gC (gC (gC (gC (gC (gC (gC (gC (grows_cons (IsZ.grows _) (grows_cons (IsZ.grows _) (grows_cons (IsZ.grows _) (grows_cons (IsZ.grows _) grows_nil))))))))))))))))
  ⟨step_el rfl (.inl rfl) hB8 8 rfl (by kernel_rfl) rfl rfl,
   step_el rfl (.inl rfl) hB8 8 rfl (by kernel_rfl) rfl rfl,
   step_to rfl (.inl rfl) rfl cf22 kv4 rfl (two_args (kI 0 41 rfl rfl) (kI 1 42 rfl rfl)),
   step_el rfl (.inl rfl) hB9 9 rfl (by kernel_rfl) rfl rfl,
   step_el rfl (.inl rfl) hB9 9 rfl (by kernel_rfl) rfl rfl,
   step_to rfl (.inl rfl) rfl cf22 kv5 rfl (two_args (kI 3 44 rfl rfl) (kI 4 45 rfl rfl)),
   step_el rfl (.inl rfl) hB11 11 rfl (by kernel_rfl) rfl rfl,
   step_el rfl (.inl rfl) hB8 8 rfl (by kernel_rfl) rfl rfl,
   step_to rfl (.inl rfl) rfl cf22 kv6 rfl (two_args (kI 6 47 rfl rfl) (kI 7 48 rfl rfl)),
   step_el rfl (.inl rfl) hB10 10 rfl (by kernel_rfl) rfl rfl,
   step_el rfl (.inl rfl) hB9 9 rfl (by kernel_rfl) rfl rfl,
   step_to rfl (.inl rfl) rfl cf22 kv7 rfl (two_args (kI 9 50 rfl rfl) (kI 10 51 rfl rfl)),
   step_alloc26 (.inl rfl) rfl rfl,
   step_alloc26 (.inl rfl) rfl rfl,
   step_alloc26 (.inl rfl) rfl rfl,
   step_alloc26 (.inl rfl) rfl rfl,trivial⟩ ?_
 intro val w5 hw hS hap hla
 obtain ⟨b12,e12,L12,Z12⟩:=hS 12 12 (by decide) rfl
 obtain ⟨b13,e13,L13,Z13⟩:=hS 13 13 (by decide) rfl
 obtain ⟨b14,e14,L14,Z14⟩:=hS 14 14 (by decide) rfl
 obtain ⟨b15,e15,L15,Z15⟩:=hS 15 15 (by decide) rfl
 have ne12_13:b12≠b13:=fun e=>hap 12 13 12 13 (by decide) (by decide) rfl rfl (by decide) rfl rfl (by rw [e12,e13,e])
 have ne12_14:b12≠b14:=fun e=>hap 12 14 12 14 (by decide) (by decide) rfl rfl (by decide) rfl rfl (by rw [e12,e14,e])
 have ne12_15:b12≠b15:=fun e=>hap 12 15 12 15 (by decide) (by decide) rfl rfl (by decide) rfl rfl (by rw [e12,e15,e])
 have ne13_14:b13≠b14:=fun e=>hap 13 14 13 14 (by decide) (by decide) rfl rfl (by decide) rfl rfl (by rw [e13,e14,e])
 have ne13_15:b13≠b15:=fun e=>hap 13 15 13 15 (by decide) (by decide) rfl rfl (by decide) rfl rfl (by rw [e13,e15,e])
 have ne14_15:b14≠b15:=fun e=>hap 14 15 14 15 (by decide) (by decide) rfl rfl (by decide) rfl rfl (by rw [e14,e15,e])
 simp only [pA,pB,pC,pD,pE,Act.put,pG,pH,pI,eVal hS 0 41 rfl rfl,eVal hS 1 42 rfl rfl,eVal hS 2 43 rfl rfl,eVal hS 3 44 rfl rfl,eVal hS 4 45 rfl rfl,eVal hS 5 46 rfl rfl,eVal hS 6 47 rfl rfl,eVal hS 7 48 rfl rfl,eVal hS 8 49 rfl rfl,eVal hS 9 50 rfl rfl,eVal hS 10 51 rfl rfl,eVal hS 11 52 rfl rfl,e12,e13,e14,e15]
 clear hS hap hla e12 e13 e14 e15
 have LL12:=hid hv4.1.len
 have LL13:=hid hv5.1.len
 have LL14:=hid hv6.1.len
 have LL15:=hid hv7.1.len
 have R12:=Z12.room (l':=v4) hv4.1.len
 have hB12:=Z12.stored (l':=v4) hv4.1.len
 replace Z13:=Z13.past (b':=b12) (ints .i64 v4).toArray.toList ne12_13
 replace Z14:=Z14.past (b':=b12) (ints .i64 v4).toArray.toList ne12_14
 replace Z15:=Z15.past (b':=b12) (ints .i64 v4).toArray.toList ne12_15
 have R13:=Z13.room (l':=v5) hv5.1.len
 have hB13:=Z13.stored (l':=v5) hv5.1.len
 replace Z14:=Z14.past (b':=b13) (ints .i64 v5).toArray.toList ne13_14
 replace Z15:=Z15.past (b':=b13) (ints .i64 v5).toArray.toList ne13_15
 replace hB12:=hB12.past (b':=b13) (ints .i64 v5).toArray.toList (Ne.symm ne12_13)
 have R14:=Z14.room (l':=v6) hv6.1.len
 have hB14:=Z14.stored (l':=v6) hv6.1.len
 replace Z15:=Z15.past (b':=b14) (ints .i64 v6).toArray.toList ne14_15
 replace hB12:=hB12.past (b':=b14) (ints .i64 v6).toArray.toList (Ne.symm ne12_14)
 replace hB13:=hB13.past (b':=b14) (ints .i64 v6).toArray.toList (Ne.symm ne13_14)
 have R15:=Z15.room (l':=v7) hv7.1.len
 have hB15:=Z15.stored (l':=v7) hv7.1.len
 replace hB12:=hB12.past (b':=b15) (ints .i64 v7).toArray.toList (Ne.symm ne12_15)
 replace hB13:=hB13.past (b':=b15) (ints .i64 v7).toArray.toList (Ne.symm ne13_15)
 replace hB14:=hB14.past (b':=b15) (ints .i64 v7).toArray.toList (Ne.symm ne14_15)
 have hu:=Below.setCells (Below.setCells (Below.setCells (Below.setCells hw L12 0 (ints .i64 v4).toArray.toList) L13 0 (ints .i64 v5).toArray.toList) L14 0 (ints .i64 v6).toArray.toList) L15 0 (ints .i64 v7).toArray.toList
 replace hP:=hP.next hu
 replace hQ:=hQ.next hu
 replace hU:=hU.next hu
 replace h6:=h6.next hu
 replace h7:=h7.next hu
 replace hB8:=hB8.next hu
 replace hB9:=hB9.next hu
 replace hB10:=hB10.next hu
 replace hB11:=hB11.next hu
 replace hW:=bT hW hu
 clear hu
 with_reducible refine wpList_store_mid (op:=⟨none,.store 70 (.tmp 12) (.tmp 43),_,_,_,_⟩) rfl 70 (.tmp 12) (.tmp 43) rfl b12 0 (ints .i64 v4).toArray rfl rfl R12 (a26 LL12.out) (ints_all _ _) ?_
 with_reducible refine wpList_store_mid (op:=⟨none,.store 70 (.tmp 13) (.tmp 46),_,_,_,_⟩) rfl 70 (.tmp 13) (.tmp 46) rfl b13 0 (ints .i64 v5).toArray rfl rfl R13 (a26 LL13.out) (ints_all _ _) ?_
 with_reducible refine wpList_store_mid (op:=⟨none,.store 70 (.tmp 14) (.tmp 49),_,_,_,_⟩) rfl 70 (.tmp 14) (.tmp 49) rfl b14 0 (ints .i64 v6).toArray rfl rfl R14 (a26 LL14.out) (ints_all _ _) ?_
 with_reducible refine wpList_store_mid (op:=⟨none,.store 70 (.tmp 15) (.tmp 52),_,_,_,_⟩) rfl 70 (.tmp 15) (.tmp 52) rfl b15 0 (ints .i64 v7).toArray rfl rfl R15 (a26 LL15.out) (ints_all _ _) ?_
 generalize ((((w5.setCells b12 0 (ints .i64 v4).toArray.toList).setCells b13 0 (ints .i64 v5).toArray.toList).setCells b14 0 (ints .i64 v6).toArray.toList).setCells b15 0 (ints .i64 v7).toArray.toList)=w6 at *
 clear hw R12 LL12 Z12 L12 R13 LL13 Z13 L13 R14 LL14 Z14 L14 R15 LL15 Z15 L15 ne12_13 ne12_14 ne12_15 ne13_14 ne13_15 ne14_15
 go_upto_region 4 with (fail)
 have s6:=hW.size
 refine rSeq 4 84 (fun i=>i==3) [IsL v4,IsL v5,IsL v8,IsZ w6.heap.size] [53,54,55,16] (gC (gC (gC (grows_cons (IsZ.grows _) grows_nil))))
  ⟨step_el rfl (.inl rfl) hB12 12 rfl (by kernel_rfl) rfl rfl,
   step_el rfl (.inl rfl) hB13 13 rfl (by kernel_rfl) rfl rfl,
   step_to rfl (.inl rfl) rfl cf20 kv8 rfl (two_args (kI 0 53 rfl rfl) (kI 1 54 rfl rfl)),
   step_alloc26 (.inl rfl) rfl rfl,trivial⟩ ?_
 intro val w7 hw hS hap hla
 obtain ⟨b16,e16,L16,Z16⟩:=hS 3 16 (by decide) rfl
 simp only [pA,pB,pC,pD,pE,Act.put,pG,pH,pI,eVal hS 0 53 rfl rfl,eVal hS 1 54 rfl rfl,eVal hS 2 55 rfl rfl,e16]
 clear hS hap hla e16
 have LL16:=hid hv8.1.len
 have R16:=Z16.room (l':=v8) hv8.1.len
 have hB16:=Z16.stored (l':=v8) hv8.1.len
 have hu:=Below.setCells hw L16 0 (ints .i64 v8).toArray.toList
 replace hP:=hP.next hu
 replace hQ:=hQ.next hu
 replace hU:=hU.next hu
 replace h6:=h6.next hu
 replace h7:=h7.next hu
 replace hB8:=hB8.next hu
 replace hB9:=hB9.next hu
 replace hB10:=hB10.next hu
 replace hB11:=hB11.next hu
 replace hB12:=hB12.next hu
 replace hB13:=hB13.next hu
 replace hB14:=hB14.next hu
 replace hB15:=hB15.next hu
 replace hW:=bT hW hu
 clear hu
 with_reducible refine wpList_store_mid (op:=⟨none,.store 70 (.tmp 16) (.tmp 55),_,_,_,_⟩) rfl 70 (.tmp 16) (.tmp 55) rfl b16 0 (ints .i64 v8).toArray rfl rfl R16 (a26 LL16.out) (ints_all _ _) ?_
 generalize (w7.setCells b16 0 (ints .i64 v8).toArray.toList)=w8 at *
 clear hw R16 LL16 Z16 L16
 go_wp2_with (fail)
 have s8:=hW.size
 refine rSpec 8 84 (fun i=>i==6||i==7) [IsL v6,IsL v7,IsL v9,IsL v6,IsL v7,IsL v10,IsZ w8.heap.size,IsZ w8.heap.size] [56,57,58,59,60,61,17,18] (gC (gC (gC (gC (gC (gC (grows_cons (IsZ.grows _) (grows_cons (IsZ.grows _) grows_nil))))))))
  ⟨step_el rfl (.inl rfl) hB14 14 rfl (by kernel_rfl) rfl rfl,
   step_el rfl (.inl rfl) hB15 15 rfl (by kernel_rfl) rfl rfl,
   step_to rfl (.inl rfl) rfl cf18 kv9 rfl (two_args (kI 0 56 rfl rfl) (kI 1 57 rfl rfl)),
   step_el rfl (.inl rfl) hB14 14 rfl (by kernel_rfl) rfl rfl,
   step_el rfl (.inl rfl) hB15 15 rfl (by kernel_rfl) rfl rfl,
   step_to rfl (.inl rfl) rfl cf20 kv10 rfl (two_args (kI 3 59 rfl rfl) (kI 4 60 rfl rfl)),
   step_alloc26 (.inl rfl) rfl rfl,
   step_alloc26 (.inl rfl) rfl rfl,trivial⟩ ?_
 intro val w9 hw hS hap hla
 obtain ⟨b17,e17,L17,Z17⟩:=hS 6 17 (by decide) rfl
 obtain ⟨b18,e18,L18,Z18⟩:=hS 7 18 (by decide) rfl
 have ne17_18:b17≠b18:=fun e=>hap 6 7 17 18 (by decide) (by decide) rfl rfl (by decide) rfl rfl (by rw [e17,e18,e])
 simp only [pA,pB,pC,pD,pE,Act.put,pG,pH,pI,eVal hS 0 56 rfl rfl,eVal hS 1 57 rfl rfl,eVal hS 2 58 rfl rfl,eVal hS 3 59 rfl rfl,eVal hS 4 60 rfl rfl,eVal hS 5 61 rfl rfl,e17,e18]
 clear hS hap hla e17 e18
 have LL17:=hid hv9.1.len
 have LL18:=hid hv10.1.len
 have R17:=Z17.room (l':=v9) hv9.1.len
 have hB17:=Z17.stored (l':=v9) hv9.1.len
 replace Z18:=Z18.past (b':=b17) (ints .i64 v9).toArray.toList ne17_18
 have R18:=Z18.room (l':=v10) hv10.1.len
 have hB18:=Z18.stored (l':=v10) hv10.1.len
 replace hB17:=hB17.past (b':=b18) (ints .i64 v10).toArray.toList (Ne.symm ne17_18)
 have hu:=Below.setCells (Below.setCells hw L17 0 (ints .i64 v9).toArray.toList) L18 0 (ints .i64 v10).toArray.toList
 replace hP:=hP.next hu
 replace hQ:=hQ.next hu
 replace hU:=hU.next hu
 replace h6:=h6.next hu
 replace h7:=h7.next hu
 replace hB8:=hB8.next hu
 replace hB9:=hB9.next hu
 replace hB10:=hB10.next hu
 replace hB11:=hB11.next hu
 replace hB12:=hB12.next hu
 replace hB13:=hB13.next hu
 replace hB14:=hB14.next hu
 replace hB15:=hB15.next hu
 replace hB16:=hB16.next hu
 replace hW:=bT hW hu
 clear hu
 with_reducible refine wpList_store_mid (op:=⟨none,.store 70 (.tmp 17) (.tmp 58),_,_,_,_⟩) rfl 70 (.tmp 17) (.tmp 58) rfl b17 0 (ints .i64 v9).toArray rfl rfl R17 (a26 LL17.out) (ints_all _ _) ?_
 with_reducible refine wpList_store_mid (op:=⟨none,.store 70 (.tmp 18) (.tmp 61),_,_,_,_⟩) rfl 70 (.tmp 18) (.tmp 61) rfl b18 0 (ints .i64 v10).toArray rfl rfl R18 (a26 LL18.out) (ints_all _ _) ?_
 generalize ((w9.setCells b17 0 (ints .i64 v9).toArray.toList).setCells b18 0 (ints .i64 v10).toArray.toList)=w10 at *
 clear hw R17 LL17 Z17 L17 R18 LL18 Z18 L18 ne17_18
 go_wp2_with (fail)
 have s10:=hW.size
 refine rSpec 12 84 (fun i=>i==11) [IsL v4,IsL v5,IsL v11,IsL v8,IsL v4,IsL fac,IsL v8,IsL v12,IsL v13,IsL v14,IsL (v11++v14),IsZ2 w10.heap.size] [62,63,64,65,66,67,68,69,70,71,72,19] (gC (gC (gC (gC (gC (gC (gC (gC (gC (gC (gC (grows_cons (IsZ2.grows _) grows_nil))))))))))))
  ⟨step_el rfl (.inl rfl) hB12 12 rfl (by kernel_rfl) rfl rfl,
   step_el rfl (.inl rfl) hB13 13 rfl (by kernel_rfl) rfl rfl,
   step_to rfl (.inl rfl) rfl cf22 kv11 rfl (two_args (kI 0 62 rfl rfl) (kI 1 63 rfl rfl)),
   step_el rfl (.inl rfl) hB16 16 rfl (by kernel_rfl) rfl rfl,
   step_el rfl (.inl rfl) hB12 12 rfl (by kernel_rfl) rfl rfl,
   step_to0 rfl (.inl rfl) rfl cf35 kfac rfl,
   step_el rfl (.inl rfl) hB16 16 rfl (by kernel_rfl) rfl rfl,
   step_to rfl (.inl rfl) rfl cf22 kv12 rfl (two_args (kI 5 67 rfl rfl) (kI 6 68 rfl rfl)),
   step_to rfl (.inl rfl) rfl cf18 kv13 rfl (two_args (kI 4 66 rfl rfl) (kI 7 69 rfl rfl)),
   step_to rfl (.inl rfl) rfl cf22 kv14 rfl (two_args (kI 3 65 rfl rfl) (kI 8 70 rfl rfl)),
   step_make rfl (.inl rfl) rfl hv11.1.len hv14.1.len rfl (kI 2 64 rfl rfl) (kI 9 71 rfl rfl),
   step_alloc45 (.inl rfl) rfl rfl,trivial⟩ ?_
 intro val w11 hw hS hap hla
 obtain ⟨b19,e19,L19,Z19⟩:=hS 11 19 (by decide) rfl
 simp only [pA,pB,pC,pD,pE,Act.put,pG,pH,pI,eVal hS 0 62 rfl rfl,eVal hS 1 63 rfl rfl,eVal hS 2 64 rfl rfl,eVal hS 3 65 rfl rfl,eVal hS 4 66 rfl rfl,eVal hS 5 67 rfl rfl,eVal hS 6 68 rfl rfl,eVal hS 7 69 rfl rfl,eVal hS 8 70 rfl rfl,eVal hS 9 71 rfl rfl,eVal hS 10 72 rfl rfl,e19]
 clear hS hap hla e19
 have LL19:=hid (len32 hv11.1.len hv14.1.len)
 have R19:=Z19.room (l':=(v11++v14)) (len32 hv11.1.len hv14.1.len)
 have hB19:=Z19.stored (l':=(v11++v14)) (len32 hv11.1.len hv14.1.len)
 have hu:=Below.setCells hw L19 0 (ints .i64 (v11++v14)).toArray.toList
 replace hP:=hP.next hu
 replace hQ:=hQ.next hu
 replace hU:=hU.next hu
 replace h6:=h6.next hu
 replace h7:=h7.next hu
 replace hB8:=hB8.next hu
 replace hB9:=hB9.next hu
 replace hB10:=hB10.next hu
 replace hB11:=hB11.next hu
 replace hB12:=hB12.next hu
 replace hB13:=hB13.next hu
 replace hB14:=hB14.next hu
 replace hB15:=hB15.next hu
 replace hB16:=hB16.next hu
 replace hB17:=hB17.next hu
 replace hB18:=hB18.next hu
 replace hW:=bT hW hu
 clear hu
 with_reducible refine wpList_store_mid (op:=⟨none,.store 74 (.tmp 19) (.tmp 72),_,_,_,_⟩) rfl 74 (.tmp 19) (.tmp 72) rfl b19 0 (ints .i64 (v11++v14)).toArray rfl rfl R19 (a45r LL19.out) (ints_all _ _) ?_
 generalize (w11.setCells b19 0 (ints .i64 (v11++v14)).toArray.toList)=w12 at *
 clear hw R19 LL19 Z19 L19
 go_wp2_with (fail)
 have lt6:=h6.lt
 have lt7:=h7.lt
 have s12:=hW.size
 refine rSpec 10 84 (fun i=>i==9) [IsL v9,IsL v9,IsL v15,IsL uu,IsL v10,IsL v10,IsL v16,IsL v17,IsL (v15++v17),IsZ2 w12.heap.size] [73,74,75,76,77,78,79,80,81,20] (gC (gC (gC (gC (gC (gC (gC (gC (gC (grows_cons (IsZ2.grows _) grows_nil))))))))))
  ⟨step_el rfl (.inl rfl) hB17 17 rfl (by kernel_rfl) rfl rfl,
   step_el rfl (.inl rfl) hB17 17 rfl (by kernel_rfl) rfl rfl,
   step_to rfl (.inl rfl) rfl cf22 kv15 rfl (two_args (kI 0 73 rfl rfl) (kI 1 74 rfl rfl)),
   step_el rfl (.inl rfl) hU 5 rfl (by kernel_rfl) rfl rfl,
   step_el rfl (.inl rfl) hB18 18 rfl (by kernel_rfl) rfl rfl,
   step_el rfl (.inl rfl) hB18 18 rfl (by kernel_rfl) rfl rfl,
   step_to rfl (.inl rfl) rfl cf22 kv16 rfl (two_args (kI 4 77 rfl rfl) (kI 5 78 rfl rfl)),
   step_to rfl (.inl rfl) rfl cf22 kv17 rfl (two_args (kI 3 76 rfl rfl) (kI 6 79 rfl rfl)),
   step_make rfl (.inl rfl) rfl hv15.1.len hv17.1.len rfl (kI 2 75 rfl rfl) (kI 7 80 rfl rfl),
   step_alloc45 (.inl rfl) rfl rfl,trivial⟩ ?_
 intro val w13 hw hS hap hla
 obtain ⟨b20,e20,L20,Z20⟩:=hS 9 20 (by decide) rfl
 simp only [pA,pB,pC,pD,pE,Act.put,pG,pH,pI,eVal hS 0 73 rfl rfl,eVal hS 1 74 rfl rfl,eVal hS 2 75 rfl rfl,eVal hS 3 76 rfl rfl,eVal hS 4 77 rfl rfl,eVal hS 5 78 rfl rfl,eVal hS 6 79 rfl rfl,eVal hS 7 80 rfl rfl,eVal hS 8 81 rfl rfl,e20]
 clear hS hap hla e20
 have LL20:=hid (len32 hv15.1.len hv17.1.len)
 have R20:=Z20.room (l':=(v15++v17)) (len32 hv15.1.len hv17.1.len)
 have hB20:=Z20.stored (l':=(v15++v17)) (len32 hv15.1.len hv17.1.len)
 have hu:=Below.setCells hw L20 0 (ints .i64 (v15++v17)).toArray.toList
 replace hP:=hP.next hu
 replace hQ:=hQ.next hu
 replace hU:=hU.next hu
 replace h6:=h6.next hu
 replace h7:=h7.next hu
 replace hB8:=hB8.next hu
 replace hB9:=hB9.next hu
 replace hB10:=hB10.next hu
 replace hB11:=hB11.next hu
 replace hB12:=hB12.next hu
 replace hB13:=hB13.next hu
 replace hB14:=hB14.next hu
 replace hB15:=hB15.next hu
 replace hB16:=hB16.next hu
 replace hB17:=hB17.next hu
 replace hB18:=hB18.next hu
 replace hB19:=hB19.next hu
 replace hW:=bT hW hu
 clear hu
 with_reducible refine wpList_store_mid (op:=⟨none,.store 74 (.tmp 20) (.tmp 81),_,_,_,_⟩) rfl 74 (.tmp 20) (.tmp 81) rfl b20 0 (ints .i64 (v15++v17)).toArray rfl rfl R20 (a45r LL20.out) (ints_all _ _) ?_
 generalize (w13.setCells b20 0 (ints .i64 (v15++v17)).toArray.toList)=w14 at *
 clear hw R20 LL20 Z20
 go_wp2_with (fail)
 refine wp_region_any (by kernel_rfl) ?_
 change wpAny _ _ _ _ 4 _ _ w14.drew
 have X19:B2 w14.drew b19 _:=hB19
 have X20:B2 w14.drew b20 _:=hB20
 have X6:B2 w14.drew _ _:=h6
 have X7:B2 w14.drew _ _:=h7
 have XW:Below W.heap.size W w14.drew:=hW.drew
 generalize w14.drew=wz at *
 have n1:W.heap.size+1+1+1≠b20:=by omega
 refine two_out _ _ _ _ rfl rfl rfl rfl rfl rfl rfl rfl (by kernel_rfl) (by kernel_rfl) (by kernel_rfl) (by kernel_rfl) (by kernel_rfl) (by kernel_rfl) (by kernel_rfl) 6 7 19 20 82 83 74 rfl rfl rfl rfl rfl rfl rfl rfl (W.heap.size+1+1+1) (W.heap.size+1+1+1+1) b19 b20 .i64 (v11++v14) (v15++v17) (zeros 32) (zeros 32) X19.1 X20.1 X6.1 X7.1 (X19.2.trans (zeros_len 32).symm) (X20.2.trans (zeros_len 32).symm) n1 (by omega) _ Tryz.underlying74 rfl (l45r X19.2) (l45r X20.2) rfl rfl rfl rfl (by show (82:Nat)<84;decide) (by show (83:Nat)<84;decide) (by decide) (by decide) (by decide) (by decide) (by decide) (by decide) (by decide) ?_
 intro w9 y6 y7 ew
 have hW9:Below W.heap.size W w9:=by
  rw [ew]
  exact Below.setCells (Below.setCells XW (g:=W.heap.size+1+1+1) (by omega) 0 _) (g:=W.heap.size+1+1+1+1) (by omega) 0 _
 have q1:=X19.2
 have q2:=X20.2
 clear ew X6 X7 X19 X20 XW hW h6 h7 hB19 hB20 hP hQ hU
 simp only [Act.put,List.setIfInBounds_toArray,List.set_cons_succ,List.set_cons_zero]
 go_wp2_with (fail)
 exact bodyPost_ret (results_rows rfl _ _ (W.heap.size+1+1+1) (W.heap.size+1+1+1+1) rfl rfl (ints .i64 (v11++v14)) (ints .i64 (v15++v17)) _ y6.range y7.range Tryz.underlying74 rfl (l45r q1) (l45r q2)) rfl ⟨rfl,hW9⟩
end Go.Proofs.YtkblmdakejmmhaaGreatDoor
