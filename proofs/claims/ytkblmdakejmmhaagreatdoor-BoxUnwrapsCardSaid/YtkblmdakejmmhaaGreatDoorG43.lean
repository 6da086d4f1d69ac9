import Derived.Test.YtkblmdakejmmhaaGreatDoorG42
namespace Go.Proofs.YtkblmdakejmmhaaGreatDoor
open Go Go.RowKit
section
set_option maxRecDepth 50000 in
theorem runwrap_any (sk b:List Int) (A:Option Addr) (ls cs:Nat) (w:World) (h1:sk.length=32) (b1:HByt sk) (hl:b.length=ls) (hls:ls≤400) (hcs:ls≤cs) (bb:HByt b) (hA:Nums w .u8 A b) :
 Calls Tryz.prog 11 #[.agg (ints .u8 sk).toArray,.slice A ls cs] w fun e w'=>∃v,e=.returned v∧IsTupE (unwrapL sk b).length (unwrapE sk b) (unwrapL sk b) v w'∧Below w.heap.size w w':=by
 unfold unwrapE unwrapL
 rw [hl]
 by_cases h48:ls<48
 ·rw [if_pos h48,if_pos h48]
  exact (runwrap_few sk A ls cs w h48).mono fun e w' ⟨he,hb⟩=>⟨_,he,⟨none,0,rfl,Nums.nil⟩,hb⟩
 ·rw [if_neg h48,if_neg h48]
  obtain ⟨g,o,rfl,_,_⟩:=hA (by omega)
  have h2:=take32_len hl (by omega)
  have hF:=hA.upto2 32
  have hX:Nums w .u8 (some ⟨g,o+32,none⟩) (b.drop 32):=by
   have h:=hA.cut (lo:=32) (m:=b.length - 32) (by omega)
   rwa [List.take_of_length_le (by rw [List.length_drop];omega)] at h
  have bf:HByt (b.take 32):=bb.take 32
  have bx:HByt (b.drop 32):=bb.drop 32
  have hd:(b.drop 32).length=ls - 32:=by rw [List.length_drop,hl]
  have hm:=c_rladder h1 b1 h2 bf
  cases hn:noughtB sk (b.take 32) with
  | true=>exact (runwrap_no sk (b.take 32) (b.drop 32) (pubL sk) (shL sk (b.take 32)) (hzeros 32) g o ls cs w (hid h1) (hid h2) (hid (pub_len sk)) (hid (sh_len _ _)) (hid (hz_len 32)) (hid (by omega)) hls (hid (by omega)) hF hX (hid (c_rpub h1 b1)) (hid hm) (hid fun w=>rkey_zero h2 bf (pub_len sk) (pub_byt sk) hn w)).mono fun e w' ⟨he,hb⟩=>⟨_,he,⟨none,0,rfl,Nums.nil⟩,hb⟩
  | false =>
    have hk:(unkB sk b).length=32:=boxK_len _ _ _
    have hkb:HByt (unkB sk b):=boxK_byt _ _ _
    have hag2:∀w,Calls Tryz.prog 18 #[.agg (ints .u8 (shL sk (b.take 32))).toArray,.agg (ints .u8 (b.take 32)).toArray,.agg (ints .u8 (pubL sk)).toArray] w fun e w'=>e=.returned (.tuple #[.agg (ints .u8 (unkB sk b)).toArray,.bool true])∧Below w.heap.size w w':=fun w=>rkey_some h2 bf (pub_len sk) (pub_byt sk) hn w
    generalize unkB sk b=K at *
    exact runwrap_yes (openL K (zeros 12) [] (b.drop 32)) (openL K (zeros 12) [] (b.drop 32)).length (openE K (zeros 12) [] (b.drop 32)) sk (b.take 32) (b.drop 32) (pubL sk) (shL sk (b.take 32)) K g o ls cs w (hid h1) (hid h2) (hid (pub_len sk)) (hid (sh_len _ _)) (hid hk) (hid (by omega)) hls (hid (by omega)) hF hX (hid (c_rpub h1 b1)) (hid hm) (hid hag2) (hid fun w hX=>(ropen_any K (zeros 12) [] (b.drop 32) none (some ⟨g,o+32,none⟩) 0 0 (ls - 32) (cs - 32) w (hid hk) (hid (zeros_len 12)) hkb z12_byt bx (hid pl_nil) (hid hd) (by omega) (by decide) (by omega) Nums.nil hX).mono fun e w' ⟨A,m,d,he,hm,hN,hb⟩=>⟨_,he,⟨A,d,by rw [hm],hN⟩,hb⟩)
end
section
set_option maxRecDepth 50000
theorem cxUnwB (vs:Array Value) (w:World):(callFunc 10 vs).run Tryz.prog w=.ok (.enter 10 vs) w:=by go_simp
theorem cxRUnw (vs:Array Value) (w:World):(callFunc 11 vs).run Tryz.prog w=.ok (.enter 11 vs) w:=by go_simp
theorem unwraps_long (sk t:List Int) (n:Int) (AT:Option Addr) (lt ct:Nat) (w:World) (hT:TabsH w) (hC:Tabs w) (_H1:Hid (sk.length=32)) (hlt:400<lt) (hA:Nums w .u8 AT t) (HAW:Hid (∀w,TabsH w→Tabs w→Calls Tryz.prog 5 #[] w fun e w'=>e=.returned (.bool true)∧Below w.heap.size w w')):Calls Tryz.prog 4 #[.agg (ints .u8 sk).toArray,.slice AT lt ct,.int .i64 n] w fun e w'=>e=.returned (.bool true)∧Below w.heap.size w w':=by
 have e0:decide ((400:Int)<lt)=true:=decide_eq_true (by omega)
 clear hlt
 have h3:=(Arr.made w .u8 sk 22).rw
 have hW:=(below_new w (.cells (ints .u8 sk).toArray 22))
 replace hT:=hT.next hW;replace hC:=hC.next hW;replace hA:=hA.below hW
 go_enter Tryz.func4,Tryz.ntmps4
 go_upto_region 3 with (first
  | (go_at_call 5;generalize (w.alloc (.cells (ints .u8 sk).toArray 22))=w9 at *;refine (HAW.out _ hT hC).mono ?_;rintro e w0 ⟨rfl,hb1⟩
     replace hT:=hT.next hb1;replace hC:=hC.next hb1;replace hA:=hA.below hb1;replace hW:=hW.trans (Below.mono hb1 hW.size);replace h3:=h3.next hb1
     clear hb1))
 go_wp2_with (fail)
 go_ret
 exact ⟨rfl,hW⟩
set_option maxHeartbeats 4000000 in
theorem unwraps_core (z:List Int) (m:Nat) (E:Int) (sk t:List Int) (n:Int) (AT:Option Addr) (lt ct:Nat) (w:World) (hT:TabsH w) (hC:Tabs w) (H1:Hid (sk.length=32)) (hlt:lt≤400) (hA:Nums w .u8 AT t) (HAW:Hid (∀w,TabsH w→Tabs w→Calls Tryz.prog 5 #[] w fun e w'=>e=.returned (.bool true)∧Below w.heap.size w w')) (HU:Hid (∀w,TabsH w→Tabs w→Nums w .u8 AT t→Calls Tryz.prog 10 #[.agg (ints .u8 sk).toArray,.slice AT lt ct] w fun e w'=>∃v,e=.returned v∧IsTupE m E z v w'∧Below w.heap.size w w')) (HRU:Hid (∀w,Nums w .u8 AT t→Calls Tryz.prog 11 #[.agg (ints .u8 sk).toArray,.slice AT lt ct] w fun e w'=>∃v,e=.returned v∧IsTupE m E z v w'∧Below w.heap.size w w'))
 (HSAME:Hid (∀(w:World) (A B:Option Addr) (c d:Nat),Nums w .u8 A z→Nums w .u8 B z→Calls Tryz.prog 8 #[.slice A m c,.slice B m d] w fun e w'=>e=.returned (.bool true)∧Below w.heap.size w w')) (HSZ:Hid (∀w,Calls Tryz.prog 9 #[.int .i64 n] w fun e w'=>e=.returned (.int .i64 (sizeB n))∧Below w.heap.size w w')):Calls Tryz.prog 4 #[.agg (ints .u8 sk).toArray,.slice AT lt ct,.int .i64 n] w fun e w'=>e=.returned (.bool true)∧Below w.heap.size w w':=by
 have e0:decide ((400:Int)<lt)=false:=decide_eq_false (by omega)
 clear hlt
 have h3:=(Arr.made w .u8 sk 22).rw
 have hW:=(below_new w (.cells (ints .u8 sk).toArray 22))
 replace hT:=hT.next hW;replace hC:=hC.next hW;replace hA:=hA.below hW
 go_enter Tryz.func4,Tryz.ntmps4
 go_upto_region 5 with (first
  | (go_at_call 5;generalize (w.alloc (.cells (ints .u8 sk).toArray 22))=w9 at *;refine (HAW.out _ hT hC).mono ?_;rintro e w0 ⟨rfl,hb1⟩
     replace hT:=hT.next hb1;replace hC:=hC.next hb1;replace hA:=hA.below hb1;replace hW:=hW.trans (Below.mono hb1 hW.size);replace h3:=h3.next hb1
     clear hb1))
 have s0:=hW.size
 refine rSeq 8 51 (fun _=>false) [Is (.agg (ints .u8 sk).toArray),Is (.slice AT lt ct),IsTupE m E z,IsTupE m E z,IsRw .u8 m z,Is (.int .i64 E),IsRw .u8 m z,Is (.int .i64 E)] [18,19,20,17,21,22,7,8] (gC (gC (grows_cons (IsTupE.grows _ _ _) (grows_cons (IsTupE.grows _ _ _) (grows_cons (IsRw.grows _ _ _) (gC (grows_cons (IsRw.grows _ _ _) (gC grows_nil))))))))
  ⟨step_ldV rfl (.inl rfl) (fun _ hw=>(h3.next hw).range) rfl Tryz.underlying22 rfl (szV infS32 (il H1.out)) rfl (kO 3 rfl),
   step_mvP rfl (.inl rfl) rfl rfl (kO 1 rfl),
   step_callR rfl (.inl rfl) rfl cxUnwB rfl (fun aa ww hw hf hd=>⟨_,(two_args (kI 0 18 rfl rfl) (kI 1 19 rfl rfl)) aa ww hw hf hd,HU.out ww (hT.next hw) (hC.next hw) (hA.below hw)⟩),
   step_copyW rfl (.inl rfl) 2 20 (.inl rfl) rfl (by decide) (by kernel_rfl) rfl rfl,
   tupE_fst rfl (.inl rfl) rfl rfl (knowsW_in 3 17 (by decide) (by kernel_rfl) rfl rfl),
   tupE_snd rfl (.inl rfl) rfl rfl (knowsW_in 3 17 (by decide) (by kernel_rfl) rfl rfl),
   step_copyW rfl (.inl rfl) 4 21 (.inr rfl) rfl (by decide) (by kernel_rfl) rfl rfl,
   step_asgP rfl (.inl rfl) rfl rfl (kI 5 22 rfl rfl),trivial⟩ ?_
 intro val w1 hw hS hap hla
 have e18:=eVal hS 0 18 rfl rfl
 have e19:=eVal hS 1 19 rfl rfl
 have e22:=eVal hS 5 22 rfl rfl
 obtain ⟨B7,c7,e7,N7⟩:=hS 6 7 (by decide) rfl
 have e8:=eVal hS 7 8 rfl rfl
 simp only [pA,pB,pC,pD,pE,Act.put,pG,pH,pI,e18,e19,e22,e7,e8]
 generalize val 20=g20
 generalize val 17=g17
 generalize val 21=g21
 clear hS hap hla e18 e19 e22 e7 e8
 replace h3:=h3.next hw
 replace hT:=hT.next hw
 replace hC:=hC.next hw
 replace hA:=hA.below hw
 replace hW:=bT hW hw
 clear hw
 go_upto_region 6 with (fail)
 have s1:=hW.size
 refine rSeq 8 51 (fun _=>false) [Is (.agg (ints .u8 sk).toArray),Is (.slice AT lt ct),IsTupE m E z,IsTupE m E z,IsRw .u8 m z,Is (.int .i64 E),IsRw .u8 m z,Is (.int .i64 E)] [24,25,26,23,27,28,9,10] (gC (gC (grows_cons (IsTupE.grows _ _ _) (grows_cons (IsTupE.grows _ _ _) (grows_cons (IsRw.grows _ _ _) (gC (grows_cons (IsRw.grows _ _ _) (gC grows_nil))))))))
  ⟨step_ldV rfl (.inl rfl) (fun _ hw=>(h3.next hw).range) rfl Tryz.underlying22 rfl (szV infS32 (il H1.out)) rfl (kO 3 rfl),
   step_mvP rfl (.inl rfl) rfl rfl (kO 1 rfl),
   step_callR rfl (.inl rfl) rfl cxRUnw rfl (fun aa ww hw hf hd=>⟨_,(two_args (kI 0 24 rfl rfl) (kI 1 25 rfl rfl)) aa ww hw hf hd,HRU.out ww (hA.below hw)⟩),
   step_copyW rfl (.inl rfl) 2 26 (.inl rfl) rfl (by decide) (by kernel_rfl) rfl rfl,
   tupE_fst rfl (.inl rfl) rfl rfl (knowsW_in 3 23 (by decide) (by kernel_rfl) rfl rfl),
   tupE_snd rfl (.inl rfl) rfl rfl (knowsW_in 3 23 (by decide) (by kernel_rfl) rfl rfl),
   step_copyW rfl (.inl rfl) 4 27 (.inr rfl) rfl (by decide) (by kernel_rfl) rfl rfl,
   step_asgP rfl (.inl rfl) rfl rfl (kI 5 28 rfl rfl),trivial⟩ ?_
 intro val w2 hw hS hap hla
 have e24:=eVal hS 0 24 rfl rfl
 have e25:=eVal hS 1 25 rfl rfl
 have e28:=eVal hS 5 28 rfl rfl
 obtain ⟨B9,c9,e9,N9⟩:=hS 6 9 (by decide) rfl
 have e10:=eVal hS 7 10 rfl rfl
 simp only [pA,pB,pC,pD,pE,Act.put,pG,pH,pI,e24,e25,e28,e9,e10]
 generalize val 26=g26
 generalize val 23=g23
 generalize val 27=g27
 clear hS hap hla e24 e25 e28 e9 e10
 replace h3:=h3.next hw
 replace hT:=hT.next hw
 replace hC:=hC.next hw
 replace hA:=hA.below hw
 replace N7:=N7.below hw
 replace hW:=bT hW hw
 clear hw
 by_cases q0:0≤n
 ·have e1:decide (0≤n)=true:=decide_eq_true q0
  by_cases q1:n≤1048528
  ·have e2:decide (n≤1048528)=true:=decide_eq_true q1
   have ew:IntKind.i64.wrap (n+48)=n+48:=IntWalk.i64_in _ (by omega)
   have hz:sizeB n=n+48:=if_pos ⟨q0,q1⟩
   rw [hz] at HSZ
   clear q0 q1 hz
   go_upto_region 10 with (fail)
   have s2:=hW.size
   refine rSeq 15 51 (fun _=>false) [Is (.slice B7 m c7),Is (.slice B9 m c9),Is (.bool true),Is (.bool true),Is (.int .i64 E),Is (.int .i64 E),Is (.bool true),Is (.bool true),Is (.bool true),Is (.int .i64 n),Is (.int .i64 (n+48)),Is (.int .i64 (n+48)),Is (.bool true),Is (.bool true),Is (.bool true)] [37,38,39,40,41,42,43,44,45,46,47,48,49,50,6] (gC (gC (gC (gC (gC (gC (gC (gC (gC (gC (gC (gC (gC (gC (gC grows_nil)))))))))))))))
    ⟨step_mvP rfl (.inl rfl) rfl rfl (kO 7 rfl),
     step_mvP rfl (.inl rfl) rfl rfl (kO 9 rfl),
     step_cw rfl (.inl rfl) rfl cxSamB rfl (fun aa ww hw hf hd=>⟨_,(two_args (kI 0 37 rfl rfl) (kI 1 38 rfl rfl)) aa ww hw hf hd,HSAME.out ww _ _ _ _ (N7.below hw) (N9.below hw)⟩),
     step_mvP rfl (.inl rfl) rfl rfl (kI 2 39 rfl rfl),
     step_mvP rfl (gN 3 true 40 rfl rfl rfl) rfl rfl (kO 8 rfl),
     step_mvP rfl (gN 3 true 40 rfl rfl rfl) rfl rfl (kO 10 rfl),
     step_eqI rfl (gN 3 true 40 rfl rfl rfl) rfl Tryz.underlying3 rfl (kI 4 41 rfl rfl) (kI 5 42 rfl rfl),
     step_pick rfl (.inl rfl) (b:=true) rfl rfl (kI 3 40 rfl rfl) (kI 6 43 rfl rfl),
     step_mvP rfl (.inl rfl) rfl rfl (kI 7 44 rfl rfl),
     step_mvP rfl (gN 8 true 45 rfl rfl rfl) rfl rfl (kO 2 rfl),
     step_cw rfl (gN 8 true 45 rfl rfl rfl) rfl cxSizB rfl (fun aa ww hw hf hd=>⟨_,(one_arg (kI 9 46 rfl rfl)) aa ww hw hf hd,HSZ.out ww⟩),
     step_mvP rfl (gN 8 true 45 rfl rfl rfl) rfl rfl (kO 11 rfl),
     step_eqI rfl (gN 8 true 45 rfl rfl rfl) rfl Tryz.underlying3 rfl (kI 10 47 rfl rfl) (kI 11 48 rfl rfl),
     step_pick rfl (.inl rfl) (b:=true) rfl rfl (kI 8 45 rfl rfl) (kI 12 49 rfl rfl),
     step_asgP rfl (.inl rfl) rfl rfl (kI 13 50 rfl rfl),trivial⟩ ?_
   intro val w3 hw hS hap hla
   simp only [pA,pB,pC,pD,pE,Act.put,pG,pH,pI,eVal hS 0 37 rfl rfl,eVal hS 1 38 rfl rfl,eVal hS 2 39 rfl rfl,eVal hS 3 40 rfl rfl,eVal hS 4 41 rfl rfl,eVal hS 5 42 rfl rfl,eVal hS 6 43 rfl rfl,eVal hS 7 44 rfl rfl,eVal hS 8 45 rfl rfl,eVal hS 9 46 rfl rfl,eVal hS 10 47 rfl rfl,eVal hS 11 48 rfl rfl,eVal hS 12 49 rfl rfl,eVal hS 13 50 rfl rfl,eVal hS 14 6 rfl rfl]
   clear hS hap hla
   replace h3:=h3.next hw
   replace hT:=hT.next hw
   replace hC:=hC.next hw
   replace hA:=hA.below hw
   replace N7:=N7.below hw
   replace N9:=N9.below hw
   replace hW:=bT hW hw
   clear hw
   go_wp2_with (fail)
   go_ret
   exact ⟨rfl,hW⟩
  ·have e2:decide (n≤1048528)=false:=decide_eq_false q1
   have hz:sizeB n=0:=if_neg fun h=>q1 h.2
   rw [hz] at HSZ
   clear q0 q1 hz
   go_upto_region 10 with (fail)
   have s2:=hW.size
   refine rSeq 15 51 (fun _=>false) [Is (.slice B7 m c7),Is (.slice B9 m c9),Is (.bool true),Is (.bool true),Is (.int .i64 E),Is (.int .i64 E),Is (.bool true),Is (.bool true),Is (.bool true),Is (.int .i64 n),Is (.int .i64 0),Is (.int .i64 0),Is (.bool true),Is (.bool true),Is (.bool true)] [37,38,39,40,41,42,43,44,45,46,47,48,49,50,6] (gC (gC (gC (gC (gC (gC (gC (gC (gC (gC (gC (gC (gC (gC (gC grows_nil)))))))))))))))
    ⟨step_mvP rfl (.inl rfl) rfl rfl (kO 7 rfl),
     step_mvP rfl (.inl rfl) rfl rfl (kO 9 rfl),
     step_cw rfl (.inl rfl) rfl cxSamB rfl (fun aa ww hw hf hd=>⟨_,(two_args (kI 0 37 rfl rfl) (kI 1 38 rfl rfl)) aa ww hw hf hd,HSAME.out ww _ _ _ _ (N7.below hw) (N9.below hw)⟩),
     step_mvP rfl (.inl rfl) rfl rfl (kI 2 39 rfl rfl),
     step_mvP rfl (gN 3 true 40 rfl rfl rfl) rfl rfl (kO 8 rfl),
     step_mvP rfl (gN 3 true 40 rfl rfl rfl) rfl rfl (kO 10 rfl),
     step_eqI rfl (gN 3 true 40 rfl rfl rfl) rfl Tryz.underlying3 rfl (kI 4 41 rfl rfl) (kI 5 42 rfl rfl),
     step_pick rfl (.inl rfl) (b:=true) rfl rfl (kI 3 40 rfl rfl) (kI 6 43 rfl rfl),
     step_mvP rfl (.inl rfl) rfl rfl (kI 7 44 rfl rfl),
     step_mvP rfl (gN 8 true 45 rfl rfl rfl) rfl rfl (kO 2 rfl),
     step_cw rfl (gN 8 true 45 rfl rfl rfl) rfl cxSizB rfl (fun aa ww hw hf hd=>⟨_,(one_arg (kI 9 46 rfl rfl)) aa ww hw hf hd,HSZ.out ww⟩),
     step_mvP rfl (gN 8 true 45 rfl rfl rfl) rfl rfl (kO 11 rfl),
     step_eqI rfl (gN 8 true 45 rfl rfl rfl) rfl Tryz.underlying3 rfl (kI 10 47 rfl rfl) (kI 11 48 rfl rfl),
     step_pick rfl (.inl rfl) (b:=true) rfl rfl (kI 8 45 rfl rfl) (kI 12 49 rfl rfl),
     step_asgP rfl (.inl rfl) rfl rfl (kI 13 50 rfl rfl),trivial⟩ ?_
   intro val w3 hw hS hap hla
   simp only [pA,pB,pC,pD,pE,Act.put,pG,pH,pI,eVal hS 0 37 rfl rfl,eVal hS 1 38 rfl rfl,eVal hS 2 39 rfl rfl,eVal hS 3 40 rfl rfl,eVal hS 4 41 rfl rfl,eVal hS 5 42 rfl rfl,eVal hS 6 43 rfl rfl,eVal hS 7 44 rfl rfl,eVal hS 8 45 rfl rfl,eVal hS 9 46 rfl rfl,eVal hS 10 47 rfl rfl,eVal hS 11 48 rfl rfl,eVal hS 12 49 rfl rfl,eVal hS 13 50 rfl rfl,eVal hS 14 6 rfl rfl]
   clear hS hap hla
   replace h3:=h3.next hw
   replace hT:=hT.next hw
   replace hC:=hC.next hw
   replace hA:=hA.below hw
   replace N7:=N7.below hw
   replace N9:=N9.below hw
   replace hW:=bT hW hw
   clear hw
   go_wp2_with (fail)
   go_ret
   exact ⟨rfl,hW⟩
 ·have e1:decide (0≤n)=false:=decide_eq_false q0
  have hz:sizeB n=0:=if_neg fun h=>q0 h.1
  rw [hz] at HSZ
  clear q0 hz
  go_upto_region 10 with (fail)
  have s2:=hW.size
  refine rSeq 15 51 (fun _=>false) [Is (.slice B7 m c7),Is (.slice B9 m c9),Is (.bool true),Is (.bool true),Is (.int .i64 E),Is (.int .i64 E),Is (.bool true),Is (.bool true),Is (.bool true),Is (.int .i64 n),Is (.int .i64 0),Is (.int .i64 0),Is (.bool true),Is (.bool true),Is (.bool true)] [37,38,39,40,41,42,43,44,45,46,47,48,49,50,6] (gC (gC (gC (gC (gC (gC (gC (gC (gC (gC (gC (gC (gC (gC (gC grows_nil)))))))))))))))
   ⟨step_mvP rfl (.inl rfl) rfl rfl (kO 7 rfl),
    step_mvP rfl (.inl rfl) rfl rfl (kO 9 rfl),
    step_cw rfl (.inl rfl) rfl cxSamB rfl (fun aa ww hw hf hd=>⟨_,(two_args (kI 0 37 rfl rfl) (kI 1 38 rfl rfl)) aa ww hw hf hd,HSAME.out ww _ _ _ _ (N7.below hw) (N9.below hw)⟩),
    step_mvP rfl (.inl rfl) rfl rfl (kI 2 39 rfl rfl),
    step_mvP rfl (gN 3 true 40 rfl rfl rfl) rfl rfl (kO 8 rfl),
    step_mvP rfl (gN 3 true 40 rfl rfl rfl) rfl rfl (kO 10 rfl),
    step_eqI rfl (gN 3 true 40 rfl rfl rfl) rfl Tryz.underlying3 rfl (kI 4 41 rfl rfl) (kI 5 42 rfl rfl),
    step_pick rfl (.inl rfl) (b:=true) rfl rfl (kI 3 40 rfl rfl) (kI 6 43 rfl rfl),
    step_mvP rfl (.inl rfl) rfl rfl (kI 7 44 rfl rfl),
    step_mvP rfl (gN 8 true 45 rfl rfl rfl) rfl rfl (kO 2 rfl),
    step_cw rfl (gN 8 true 45 rfl rfl rfl) rfl cxSizB rfl (fun aa ww hw hf hd=>⟨_,(one_arg (kI 9 46 rfl rfl)) aa ww hw hf hd,HSZ.out ww⟩),
    step_mvP rfl (gN 8 true 45 rfl rfl rfl) rfl rfl (kO 11 rfl),
    step_eqI rfl (gN 8 true 45 rfl rfl rfl) rfl Tryz.underlying3 rfl (kI 10 47 rfl rfl) (kI 11 48 rfl rfl),
    step_pick rfl (.inl rfl) (b:=true) rfl rfl (kI 8 45 rfl rfl) (kI 12 49 rfl rfl),
    step_asgP rfl (.inl rfl) rfl rfl (kI 13 50 rfl rfl),trivial⟩ ?_
  intro val w3 hw hS hap hla
  simp only [pA,pB,pC,pD,pE,Act.put,pG,pH,pI,eVal hS 0 37 rfl rfl,eVal hS 1 38 rfl rfl,eVal hS 2 39 rfl rfl,eVal hS 3 40 rfl rfl,eVal hS 4 41 rfl rfl,eVal hS 5 42 rfl rfl,eVal hS 6 43 rfl rfl,eVal hS 7 44 rfl rfl,eVal hS 8 45 rfl rfl,eVal hS 9 46 rfl rfl,eVal hS 10 47 rfl rfl,eVal hS 11 48 rfl rfl,eVal hS 12 49 rfl rfl,eVal hS 13 50 rfl rfl,eVal hS 14 6 rfl rfl]
  clear hS hap hla
  replace h3:=h3.next hw
  replace hT:=hT.next hw
  replace hC:=hC.next hw
  replace hA:=hA.below hw
  replace N7:=N7.below hw
  replace N9:=N9.below hw
  replace hW:=bT hW hw
  clear hw
  go_wp2_with (fail)
  go_ret
  exact ⟨rfl,hW⟩
theorem boxUnwraps_walk (w:World) (ht:TabsH w∧Tabs w) (sk:List Int) (l0:sk.length=32) (x0:∀x ∈ sk,(Lit.int .u8 x).wf=true) (AT:Option Addr) (ct:Nat) (t:List Int) (hc:t.length≤ct) (_:ct≤maxLen) (x2:∀x ∈ t,(Lit.int .u8 x).wf=true) (hA:Nums w .u8 AT t) (n:Int) (_:(Lit.int .i64 n).wf=true) :
 Calls Tryz.prog 4 #[.agg (ints .u8 sk).toArray,.slice AT t.length ct,.int .i64 n] w fun e w'=>e=.returned (.bool true)∧Below w.heap.size w w':=by
 obtain ⟨hT,hC⟩:=ht
 have b0:HByt sk:=byt_of_wfZ x0
 have b2:HByt t:=byt_of_wfZ x2
 obtain ⟨lt,hl⟩:∃n,t.length=n:=⟨_,rfl⟩
 rw [hl] at hc ⊢
 by_cases h:lt≤400
 ·have hu:=fun w hT hC hA=>unwrap_any sk t AT lt ct w hT hC l0 b0 hl h hc b2 hA
  have hr:=fun w hA=>runwrap_any sk t AT lt ct w l0 b0 hl h hc b2 hA
  have hmb:(unwrapL sk t).length≤1000:=by
   unfold unwrapL
   split
   ·decide
   ·split
    ·decide
    ·unfold openL
     split
     ·decide
     ·split
      ·have hd:(((t.drop 32).take ((t.drop 32).length - 16)).length≤1000):=by rw [List.length_take,List.length_drop];omega
       have hh:=hidT_len (key:=unkB sk t) (nonce:=zeros 12) (boxK_len _ _ _) (zeros_len 12) hd
       omega
      ·decide
  have hsm:=fun (w:World) (A B:Option Addr) (c d:Nat) hN1 hN2=>same_eq A B c d (unwrapL sk t) (unwrapL sk t) w rfl (by unfold maxLen;omega) hN1 hN2
  clear hmb
  generalize unwrapE sk t=E at *
  generalize unwrapL sk t=z at *
  generalize z.length=m at *
  exact unwraps_core z m E sk t n AT lt ct w hT hC (hid l0) h hA (hid awake_any) (hid hu) (hid hr) (hid hsm) (hid fun w=>size_any n w)
 ·exact unwraps_long sk t n AT lt ct w hT hC (hid l0) (by omega) hA (hid awake_any)
end
end Go.Proofs.YtkblmdakejmmhaaGreatDoor
