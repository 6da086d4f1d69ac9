import Derived.Test.YtkblmdakejmmhaaGreatDoorDBlk0M
namespace Go.Proofs.YtkblmdakejmmhaaGreatDoor
open Go Go.RowKit
set_option maxRecDepth 4000 in
set_option maxHeartbeats 4000000 in
theorem rblock_any (key nonce:List Int) (count:Int) (w:World) (hk:Hid (key.length=4*8)) (hn:Hid (nonce.length=4*3)) (hkb:HByt key) (hnb:HByt nonce) (hc:Hid (WdZ count)) :
 Calls Tryz.prog 68 #[.agg (ints .u8 key).toArray,.agg (ints .u8 nonce).toArray,.int .u32 count] w fun e w'=>∃A d,e=.returned (.slice A 64 d)∧Owns w' w.heap.size 5 .u8 (.slice A 64 d) (blockL key nonce count)∧Below w.heap.size w w':=by
 obtain ⟨W1,hW1,hK,hN,hC,hB,hsz⟩:=rblock_world key nonce w
 have HW:=hid hW1
 have HZ:=hid hsz
 have HJ8:Hid ((joinB false 4 key).length=8):=hid (by rw [joinB_length,hk.out])
 have HJ3:Hid ((joinB false 4 nonce).length=3):=hid (by rw [joinB_length,hn.out])
 clear hW1 hsz
 go_enter Tryz.func68,Tryz.ntmps68
 go_wp2
 rw [←HW.out]
 obtain ⟨bk,hbk⟩:∃b,w.heap.size=b:=⟨_,rfl⟩
 obtain ⟨bn,hbn⟩:∃b,w.heap.size+1=b:=⟨_,rfl⟩
 obtain ⟨bc,hbc⟩:∃b,w.heap.size+1+1=b:=⟨_,rfl⟩
 rw [hbc] at hC ⊢
 rw [hbn] at hN ⊢
 rw [hbk] at hK hB ⊢
 have l1:bk<bc:=by omega
 have l2:bn<bc:=by omega
 have l3:bk≤bc:=by omega
 have l4:bc≤W1.heap.size:=by rw [HZ.out];omega
 have HBK:=hid hbk
 clear hbk hbn hbc HW HZ
 go_loopw [7,8] (fun v i wr=>∃(k:Nat) (A:Option Addr) (m c:Nat),k≤8∧i=.int .i64 ((4*k:Nat):Int)∧v=.slice A m c∧Owns wr bc 53 .u32 (.slice A m c) (C4++(joinB false 4 key).take k)∧Arr wr bk 0 .u8 key∧Arr wr bn 0 .u8 nonce∧Below bk w wr∧bc≤wr.heap.size) (fun _ i _=>32 - (intOf i).toNat)
 case atStart=>exact ⟨0,_,_,_,by omega,rfl,rfl,by rw [List.take_zero,List.append_nil];exact hC,hK,hN,hB,l4⟩
 case round =>
  clear hK hN hC hB l4
  obtain ⟨k,A,m,c,hk8,rfl,rfl,hO,hK,hN,hB,hcz⟩:=hrel
  by_cases hlt:k<8
  ·have hlt':((4*k:Nat):Int)<32:=by omega
   obtain ⟨x0,x1,x2,x3,hx0,hx1,hx2,hx3,hj⟩:=join_at (n:=8) hk.out hlt
   obtain ⟨v,hv⟩:∃v,hiv [x3,x2,x1,x0]=v:=⟨_,rfl⟩
   obtain ⟨i,hi⟩:∃i,4*k=i:=⟨_,rfl⟩
   rw [hi] at hx0 hx1 hx2 hx3
   rw [hv] at hj
   have HV:Hid (hiv [x0,x1,x2,x3].reverse=v):=hid hv
   have HJ:=hid hj
   have hby4:HByt [x0,x1,x2,x3]:=by
    intro y hy
    simp only [List.mem_cons,List.not_mem_nil,or_false] at hy
    rcases hy with rfl|rfl|rfl|rfl
    ·exact hkb.at_ hx0
    ·exact hkb.at_ hx1
    ·exact hkb.at_ hx2
    ·exact hkb.at_ hx3
   have HI:=hid hi
   have hi0:(0:Int)≤i:=by omega
   have hi1:(i:Int)+3<32:=by omega
   have b0:(i:Int)<32:=by omega
   have b1:(i:Int)+1<32:=by omega
   have b2:(i:Int)+2<32:=by omega
   have p1:0≤(i:Int)+1:=by omega
   have p2:0≤(i:Int)+2:=by omega
   have p3:0≤(i:Int)+3:=by omega
   have w1:IntKind.i64.wrap ((i:Int)+1)=(i:Int)+1:=IntWalk.i64_in _ (by omega)
   have w2:IntKind.i64.wrap ((i:Int)+2)=(i:Int)+2:=IntWalk.i64_in _ (by omega)
   have w3:IntKind.i64.wrap ((i:Int)+3)=(i:Int)+3:=IntWalk.i64_in _ (by omega)
   have t1:((i:Int)+1).toNat=i+1:=by omega
   have t2:((i:Int)+2).toNat=i+2:=by omega
   have t3:((i:Int)+3).toNat=i+3:=by omega
   have c0:∀ww,Cl wr ww→ww.cell? ⟨bk,i,none⟩=some (.int .u8 x0):=fun ww h=>by have:=(hK.cl (hK.lt (by rw [hk.out];omega)) h).at_ hx0;rwa [Nat.zero_add] at this
   have c1:∀ww,Cl wr ww→ww.cell? ⟨bk,i+1,none⟩=some (.int .u8 x1):=fun ww h=>by have:=(hK.cl (hK.lt (by rw [hk.out];omega)) h).at_ hx1;rwa [Nat.zero_add] at this
   have c2:∀ww,Cl wr ww→ww.cell? ⟨bk,i+2,none⟩=some (.int .u8 x2):=fun ww h=>by have:=(hK.cl (hK.lt (by rw [hk.out];omega)) h).at_ hx2;rwa [Nat.zero_add] at this
   have c3:∀ww,Cl wr ww→ww.cell? ⟨bk,i+3,none⟩=some (.int .u8 x3):=fun ww h=>by have:=(hK.cl (hK.lt (by rw [hk.out];omega)) h).at_ hx3;rwa [Nat.zero_add] at this
   rw [hi]
   rw [hi] at hlt'
   clear hx0 hx1 hx2 hx3 hv hj hi
   go_wp2
   refine rSpec 19 122 (fun i=>i==16||i==18) [Is (.slice A m c),Is (.int .i64 (i:Int)),Is (.pointer (some ⟨bk,i,none⟩)),Is (.int .u8 x0),Is (.int .i64 (i:Int)),Is (.int .i64 ((i:Int)+1)),Is (.pointer (some ⟨bk,i+1,none⟩)),Is (.int .u8 x1),Is (.int .i64 (i:Int)),Is (.int .i64 ((i:Int)+2)),Is (.pointer (some ⟨bk,i+2,none⟩)),Is (.int .u8 x2),Is (.int .i64 (i:Int)),Is (.int .i64 ((i:Int)+3)),Is (.pointer (some ⟨bk,i+3,none⟩)),Is (.int .u8 x3),IsRowV wr.heap.size 4 (ints .u8 [x0,x1,x2,x3]),Is (.int .u32 v),IsRowV wr.heap.size 1 [.int .u32 v]] [20,21,22,23,24,25,26,27,28,29,30,31,32,33,34,35,36,37,38] (gC (gC (gC (gC (gC (gC (gC (gC (gC (gC (gC (gC (gC (gC (gC (gC (grows_cons (IsRowV.grows _ _ _) (gC (grows_cons (IsRowV.grows _ _ _) grows_nil)))))))))))))))))))
    ⟨step_mvP rfl (.inl rfl) rfl rfl (kO 7 rfl),
     step_mvP rfl (.inl rfl) rfl rfl (kO 8 rfl),
     sxb rfl (.inl rfl) rfl (kO (v:=(.pointer (some ⟨bk,0,none⟩))) 3 rfl) (kI (v:=(.int .i64 (i:Int))) 1 21 rfl rfl) (fun ev ww hw j0 j1=>by unfold execOp;simp only [j0,j1];go_simp),
     sxa rfl (.inl rfl) rfl (kI (v:=(.pointer (some ⟨bk,i,none⟩))) 2 22 rfl rfl) (fun ev ww hw j0=>by have hcc:=c0 ww hw;unfold execOp;simp only [j0];go_simp),
     step_mvP rfl (.inl rfl) rfl rfl (kO 8 rfl),
     (step_ex (.int .i64 ((i:Int)+1)) rfl (.inl rfl) rfl fun a ww hw hf hd=>by
       have h24:a.eval (.tmp 24)=(.int .i64 (i:Int)):=((knows_in (v:=(.int .i64 (i:Int))) 4 24 (by decide) (by kernel_rfl) rfl rfl):Knows _ _ wr _ 19 _ 5 _ _) a ww hw hf hd
       have c0:a.eval (.const (.int .i64 (1)))=.int .i64 (1):=rfl
       revert h24 c0
       generalize a.eval=ev
       intro h24 c0
       unfold execOp
       simp only [h24,c0]
       go_simp),
     sxb rfl (.inl rfl) rfl (kO (v:=(.pointer (some ⟨bk,0,none⟩))) 3 rfl) (kI (v:=(.int .i64 ((i:Int)+1))) 5 25 rfl rfl) (fun ev ww hw j0 j1=>by unfold execOp;simp only [j0,j1];go_simp),
     sxa rfl (.inl rfl) rfl (kI (v:=(.pointer (some ⟨bk,i+1,none⟩))) 6 26 rfl rfl) (fun ev ww hw j0=>by have hcc:=c1 ww hw;unfold execOp;simp only [j0];go_simp),
     step_mvP rfl (.inl rfl) rfl rfl (kO 8 rfl),
     (step_ex (.int .i64 ((i:Int)+2)) rfl (.inl rfl) rfl fun a ww hw hf hd=>by
       have h28:a.eval (.tmp 28)=(.int .i64 (i:Int)):=((knows_in (v:=(.int .i64 (i:Int))) 8 28 (by decide) (by kernel_rfl) rfl rfl):Knows _ _ wr _ 19 _ 9 _ _) a ww hw hf hd
       have c0:a.eval (.const (.int .i64 (2)))=.int .i64 (2):=rfl
       revert h28 c0
       generalize a.eval=ev
       intro h28 c0
       unfold execOp
       simp only [h28,c0]
       go_simp),
     sxb rfl (.inl rfl) rfl (kO (v:=(.pointer (some ⟨bk,0,none⟩))) 3 rfl) (kI (v:=(.int .i64 ((i:Int)+2))) 9 29 rfl rfl) (fun ev ww hw j0 j1=>by unfold execOp;simp only [j0,j1];go_simp),
     sxa rfl (.inl rfl) rfl (kI (v:=(.pointer (some ⟨bk,i+2,none⟩))) 10 30 rfl rfl) (fun ev ww hw j0=>by have hcc:=c2 ww hw;unfold execOp;simp only [j0];go_simp),
     step_mvP rfl (.inl rfl) rfl rfl (kO 8 rfl),
     (step_ex (.int .i64 ((i:Int)+3)) rfl (.inl rfl) rfl fun a ww hw hf hd=>by
       have h32:a.eval (.tmp 32)=(.int .i64 (i:Int)):=((knows_in (v:=(.int .i64 (i:Int))) 12 32 (by decide) (by kernel_rfl) rfl rfl):Knows _ _ wr _ 19 _ 13 _ _) a ww hw hf hd
       have c0:a.eval (.const (.int .i64 (3)))=.int .i64 (3):=rfl
       revert h32 c0
       generalize a.eval=ev
       intro h32 c0
       unfold execOp
       simp only [h32,c0]
       go_simp),
     sxb rfl (.inl rfl) rfl (kO (v:=(.pointer (some ⟨bk,0,none⟩))) 3 rfl) (kI (v:=(.int .i64 ((i:Int)+3))) 13 33 rfl rfl) (fun ev ww hw j0 j1=>by unfold execOp;simp only [j0,j1];go_simp),
     sxa rfl (.inl rfl) rfl (kI (v:=(.pointer (some ⟨bk,i+3,none⟩))) 14 34 rfl rfl) (fun ev ww hw j0=>by have hcc:=c3 ww hw;unfold execOp;simp only [j0];go_simp),
     (step_bsl (.inl rfl) rfl Tryz.underlying23 inf5 (by decide) (by decide) (by kernel_rfl) rfl (parts4 (knows_in (v:=(.int .u8 x0)) 3 23 (by decide) (by kernel_rfl) rfl rfl) (knows_in (v:=(.int .u8 x1)) 7 27 (by decide) (by kernel_rfl) rfl rfl) (knows_in (v:=(.int .u8 x2)) 11 31 (by decide) (by kernel_rfl) rfl rfl) (knows_in (v:=(.int .u8 x3)) 15 35 (by decide) (by kernel_rfl) rfl rfl))),
     (word_step rfl (.inl rfl) rfl rfl (bs:=[x0,x1,x2,x3]) (hid rfl) HV hby4 (knowsW_in 16 36 (by decide) (by kernel_rfl) rfl rfl)),
     (step_bsl (.inl rfl) rfl Tryz.underlying118 inf24Z (by decide) (by decide) (by kernel_rfl) rfl (parts1 (knows_in (v:=(.int .u32 v)) 17 37 (by decide) (by kernel_rfl) rfl rfl))),trivial⟩ ?_
   intro val w9 hw hS hap hla
   have e20:=eVal hS 0 20 rfl rfl
   have e21:=eVal hS 1 21 rfl rfl
   have e22:=eVal hS 2 22 rfl rfl
   have e23:=eVal hS 3 23 rfl rfl
   have e24:=eVal hS 4 24 rfl rfl
   have e25:=eVal hS 5 25 rfl rfl
   have e26:=eVal hS 6 26 rfl rfl
   have e27:=eVal hS 7 27 rfl rfl
   have e28:=eVal hS 8 28 rfl rfl
   have e29:=eVal hS 9 29 rfl rfl
   have e30:=eVal hS 10 30 rfl rfl
   have e31:=eVal hS 11 31 rfl rfl
   have e32:=eVal hS 12 32 rfl rfl
   have e33:=eVal hS 13 33 rfl rfl
   have e34:=eVal hS 14 34 rfl rfl
   have e35:=eVal hS 15 35 rfl rfl
   have e37:=eVal hS 17 37 rfl rfl
   simp only [pA,pB,pC,pD,pE,Act.put,pG,pH,pI,e20,e21,e22,e23,e24,e25,e26,e27,e28,e29,e30,e31,e32,e33,e34,e35,e37]
   obtain ⟨g1,hg1,hg1b,hR1⟩:IsRowV wr.heap.size 1 [.int .u32 v] (val 38) w9:=hS 18 38 (by decide) rfl
   rw [hg1]
   clear hS hap hla e20 e21 e22 e23 e24 e25 e26 e27 e28 e29 e30 e31 e32 e33 e34 e35 e37
   have hOw:=hO.stay hw
   have hKw:=hK.cl (hK.lt (by rw [hk.out];omega)) hw
   have hNw:=hN.cl (hN.lt (by rw [hn.out];omega)) hw
   have hBw:=hB.trans (hw.mono (Nat.le_trans l3 hcz))
   have hcw:bc≤w9.heap.size:=Nat.le_trans hcz hw.size
   have hm:=hO.len
   have HM:Hid ((C4++(joinB false 4 key).take k).length≤20):=hid (by simp [C4,HJ8.out];omega)
   have hkl:=hKw.lt (by rw [hk.out];omega)
   have hnl:=hNw.lt (by rw [hn.out];omega)
   have hbkw:bk≤w9.heap.size:=Nat.le_trans l3 hcw
   clear c0 c1 c2 c3 hO hK hN hB hcz hw
   refine app_nums rfl (.tmp 20) (.tmp 38) 118 rfl bc 53 .u32 4 Tryz.underlying118 info24 (by omega) A m c _ rfl hOw (some ⟨g1,0,none⟩) 1 [v] rfl (one_row hR1) (by have:=HM.out;simp only [List.length_cons,List.length_nil];omega) hcw ?_
   intro A' n' c' w2' hO2 hG
   have hK2:=hKw.grew hG (hOw.far l1) hkl
   have hN2:=hNw.grew hG (hOw.far l2) hnl
   have hB2:Below bk w w2':=hBw.trans (hG.below hbkw fun g e=>Nat.le_trans l3 (hOw.lt g e).1)
   have hc2:bc≤w2'.heap.size:=Nat.le_trans hcw hG.1.size
   rw [List.append_assoc,←take_more HJ.out] at hO2
   clear hOw hKw hNw hBw hcw hG hR1 hkl hnl
   go_wp2
   go_roundw
   case rel=>exact ⟨k+1,A',n',c',by omega,by rw [show 4*(k+1)=4*k+4 by omega,HI.out];go_num,rfl,hO2,hK2,hN2,hB2,hc2⟩
   case measure=>simp [intOf];omega
  ·have e:k=8:=by omega
   subst e
   have hlt':¬((4*8:Nat):Int)<32:=by omega
   have e8:(joinB false 4 key).take 8=joinB false 4 key:=List.take_of_length_le (by rw [HJ8.out];omega)
   rw [e8] at hO
   have HM:Hid ((C4++joinB false 4 key).length=12):=hid (by simp [C4,HJ8.out])
   have hkl:=hK.lt (by rw [hk.out];omega)
   have hnl:=hN.lt (by rw [hn.out];omega)
   have hbkw:bk≤wr.heap.size:=Nat.le_trans l3 hcz
   clear e8
   go_wp2_with (at_builtin;refine app_oneG rfl (.tmp 40) (.tmp 42) 118 rfl bc 53 .u32 4 Tryz.underlying118 info24 (by omega) A m c _ rfl hO _ 1 rfl (by rw [HM.out];omega) hcz ?_;intro A' n' c' w2 hO2 hG)
   have hN2:=hN.grew hG (hO.far l2) hnl
   have hB2:Below bk w w2:=hB.trans (hG.below hbkw fun g e=>Nat.le_trans l3 (hO.lt g e).1)
   have hc2:bc≤w2.heap.size:=Nat.le_trans hcz hG.1.size
   clear hO hK hN hB hG hkl hnl hbkw hcz
   generalize wr=wa at *
   go_loopw [7,9] (fun v i wr=>∃(k:Nat) (A:Option Addr) (m c:Nat),k≤3∧i=.int .i64 ((4*k:Nat):Int)∧v=.slice A m c∧Owns wr bc 53 .u32 (.slice A m c) ((C4++joinB false 4 key++[count])++(joinB false 4 nonce).take k)∧Arr wr bn 0 .u8 nonce∧Below bk w wr∧bc≤wr.heap.size) (fun _ i _=>12 - (intOf i).toNat)
   case atStart=>exact ⟨0,_,_,_,by omega,rfl,rfl,by rw [List.take_zero,List.append_nil];exact hO2,hN2,hB2,hc2⟩
   case round =>
    clear hN2 hB2 hc2 hO2
    obtain ⟨k,A,m,c,hk3,rfl,rfl,hO,hN,hB,hcz⟩:=hrel
    by_cases hlt:k<3
    ·have hlt':((4*k:Nat):Int)<12:=by omega
     obtain ⟨x0,x1,x2,x3,hx0,hx1,hx2,hx3,hj⟩:=join_at (n:=3) hn.out hlt
     obtain ⟨v,hv⟩:∃v,hiv [x3,x2,x1,x0]=v:=⟨_,rfl⟩
     obtain ⟨i,hi⟩:∃i,4*k=i:=⟨_,rfl⟩
     rw [hi] at hx0 hx1 hx2 hx3
     rw [hv] at hj
     have HV:Hid (hiv [x0,x1,x2,x3].reverse=v):=hid hv
     have HJ:=hid hj
     have hby4:HByt [x0,x1,x2,x3]:=by
      intro y hy
      simp only [List.mem_cons,List.not_mem_nil,or_false] at hy
      rcases hy with rfl|rfl|rfl|rfl
      ·exact hnb.at_ hx0
      ·exact hnb.at_ hx1
      ·exact hnb.at_ hx2
      ·exact hnb.at_ hx3
     have HI:=hid hi
     have hi0:(0:Int)≤i:=by omega
     have hi1:(i:Int)+3<12:=by omega
     have b0:(i:Int)<12:=by omega
     have b1:(i:Int)+1<12:=by omega
     have b2:(i:Int)+2<12:=by omega
     have p1:0≤(i:Int)+1:=by omega
     have p2:0≤(i:Int)+2:=by omega
     have p3:0≤(i:Int)+3:=by omega
     have w1:IntKind.i64.wrap ((i:Int)+1)=(i:Int)+1:=IntWalk.i64_in _ (by omega)
     have w2:IntKind.i64.wrap ((i:Int)+2)=(i:Int)+2:=IntWalk.i64_in _ (by omega)
     have w3:IntKind.i64.wrap ((i:Int)+3)=(i:Int)+3:=IntWalk.i64_in _ (by omega)
     have t1:((i:Int)+1).toNat=i+1:=by omega
     have t2:((i:Int)+2).toNat=i+2:=by omega
     have t3:((i:Int)+3).toNat=i+3:=by omega
     have c0:∀ww,Cl wr ww→ww.cell? ⟨bn,i,none⟩=some (.int .u8 x0):=fun ww h=>by have:=(hN.cl (hN.lt (by rw [hn.out];omega)) h).at_ hx0;rwa [Nat.zero_add] at this
     have c1:∀ww,Cl wr ww→ww.cell? ⟨bn,i+1,none⟩=some (.int .u8 x1):=fun ww h=>by have:=(hN.cl (hN.lt (by rw [hn.out];omega)) h).at_ hx1;rwa [Nat.zero_add] at this
     have c2:∀ww,Cl wr ww→ww.cell? ⟨bn,i+2,none⟩=some (.int .u8 x2):=fun ww h=>by have:=(hN.cl (hN.lt (by rw [hn.out];omega)) h).at_ hx2;rwa [Nat.zero_add] at this
     have c3:∀ww,Cl wr ww→ww.cell? ⟨bn,i+3,none⟩=some (.int .u8 x3):=fun ww h=>by have:=(hN.cl (hN.lt (by rw [hn.out];omega)) h).at_ hx3;rwa [Nat.zero_add] at this
     rw [hi]
     rw [hi] at hlt'
     clear hx0 hx1 hx2 hx3 hv hj hi
     go_wp2
     refine rSpec 19 122 (fun i=>i==16||i==18) [Is (.slice A m c),Is (.int .i64 (i:Int)),Is (.pointer (some ⟨bn,i,none⟩)),Is (.int .u8 x0),Is (.int .i64 (i:Int)),Is (.int .i64 ((i:Int)+1)),Is (.pointer (some ⟨bn,i+1,none⟩)),Is (.int .u8 x1),Is (.int .i64 (i:Int)),Is (.int .i64 ((i:Int)+2)),Is (.pointer (some ⟨bn,i+2,none⟩)),Is (.int .u8 x2),Is (.int .i64 (i:Int)),Is (.int .i64 ((i:Int)+3)),Is (.pointer (some ⟨bn,i+3,none⟩)),Is (.int .u8 x3),IsRowV wr.heap.size 4 (ints .u8 [x0,x1,x2,x3]),Is (.int .u32 v),IsRowV wr.heap.size 1 [.int .u32 v]] [48,49,50,51,52,53,54,55,56,57,58,59,60,61,62,63,64,65,66] (gC (gC (gC (gC (gC (gC (gC (gC (gC (gC (gC (gC (gC (gC (gC (gC (grows_cons (IsRowV.grows _ _ _) (gC (grows_cons (IsRowV.grows _ _ _) grows_nil)))))))))))))))))))
      ⟨step_mvP rfl (.inl rfl) rfl rfl (kO 7 rfl),
       step_mvP rfl (.inl rfl) rfl rfl (kO 9 rfl),
       sxb rfl (.inl rfl) rfl (kO (v:=(.pointer (some ⟨bn,0,none⟩))) 4 rfl) (kI (v:=(.int .i64 (i:Int))) 1 49 rfl rfl) (fun ev ww hw j0 j1=>by unfold execOp;simp only [j0,j1];go_simp),
       sxa rfl (.inl rfl) rfl (kI (v:=(.pointer (some ⟨bn,i,none⟩))) 2 50 rfl rfl) (fun ev ww hw j0=>by have hcc:=c0 ww hw;unfold execOp;simp only [j0];go_simp),
       step_mvP rfl (.inl rfl) rfl rfl (kO 9 rfl),
       (step_ex (.int .i64 ((i:Int)+1)) rfl (.inl rfl) rfl fun a ww hw hf hd=>by
         have h52:a.eval (.tmp 52)=(.int .i64 (i:Int)):=((knows_in (v:=(.int .i64 (i:Int))) 4 52 (by decide) (by kernel_rfl) rfl rfl):Knows _ _ wr _ 19 _ 5 _ _) a ww hw hf hd
         have c0:a.eval (.const (.int .i64 (1)))=.int .i64 (1):=rfl
         revert h52 c0
         generalize a.eval=ev
         intro h52 c0
         unfold execOp
         simp only [h52,c0]
         go_simp),
       sxb rfl (.inl rfl) rfl (kO (v:=(.pointer (some ⟨bn,0,none⟩))) 4 rfl) (kI (v:=(.int .i64 ((i:Int)+1))) 5 53 rfl rfl) (fun ev ww hw j0 j1=>by unfold execOp;simp only [j0,j1];go_simp),
       sxa rfl (.inl rfl) rfl (kI (v:=(.pointer (some ⟨bn,i+1,none⟩))) 6 54 rfl rfl) (fun ev ww hw j0=>by have hcc:=c1 ww hw;unfold execOp;simp only [j0];go_simp),
       step_mvP rfl (.inl rfl) rfl rfl (kO 9 rfl),
       (step_ex (.int .i64 ((i:Int)+2)) rfl (.inl rfl) rfl fun a ww hw hf hd=>by
         have h56:a.eval (.tmp 56)=(.int .i64 (i:Int)):=((knows_in (v:=(.int .i64 (i:Int))) 8 56 (by decide) (by kernel_rfl) rfl rfl):Knows _ _ wr _ 19 _ 9 _ _) a ww hw hf hd
         have c0:a.eval (.const (.int .i64 (2)))=.int .i64 (2):=rfl
         revert h56 c0
         generalize a.eval=ev
         intro h56 c0
         unfold execOp
         simp only [h56,c0]
         go_simp),
       sxb rfl (.inl rfl) rfl (kO (v:=(.pointer (some ⟨bn,0,none⟩))) 4 rfl) (kI (v:=(.int .i64 ((i:Int)+2))) 9 57 rfl rfl) (fun ev ww hw j0 j1=>by unfold execOp;simp only [j0,j1];go_simp),
       sxa rfl (.inl rfl) rfl (kI (v:=(.pointer (some ⟨bn,i+2,none⟩))) 10 58 rfl rfl) (fun ev ww hw j0=>by have hcc:=c2 ww hw;unfold execOp;simp only [j0];go_simp),
       step_mvP rfl (.inl rfl) rfl rfl (kO 9 rfl),
       (step_ex (.int .i64 ((i:Int)+3)) rfl (.inl rfl) rfl fun a ww hw hf hd=>by
         have h60:a.eval (.tmp 60)=(.int .i64 (i:Int)):=((knows_in (v:=(.int .i64 (i:Int))) 12 60 (by decide) (by kernel_rfl) rfl rfl):Knows _ _ wr _ 19 _ 13 _ _) a ww hw hf hd
         have c0:a.eval (.const (.int .i64 (3)))=.int .i64 (3):=rfl
         revert h60 c0
         generalize a.eval=ev
         intro h60 c0
         unfold execOp
         simp only [h60,c0]
         go_simp),
       sxb rfl (.inl rfl) rfl (kO (v:=(.pointer (some ⟨bn,0,none⟩))) 4 rfl) (kI (v:=(.int .i64 ((i:Int)+3))) 13 61 rfl rfl) (fun ev ww hw j0 j1=>by unfold execOp;simp only [j0,j1];go_simp),
       sxa rfl (.inl rfl) rfl (kI (v:=(.pointer (some ⟨bn,i+3,none⟩))) 14 62 rfl rfl) (fun ev ww hw j0=>by have hcc:=c3 ww hw;unfold execOp;simp only [j0];go_simp),
       (step_bsl (.inl rfl) rfl Tryz.underlying23 inf5 (by decide) (by decide) (by kernel_rfl) rfl (parts4 (knows_in (v:=(.int .u8 x0)) 3 51 (by decide) (by kernel_rfl) rfl rfl) (knows_in (v:=(.int .u8 x1)) 7 55 (by decide) (by kernel_rfl) rfl rfl) (knows_in (v:=(.int .u8 x2)) 11 59 (by decide) (by kernel_rfl) rfl rfl) (knows_in (v:=(.int .u8 x3)) 15 63 (by decide) (by kernel_rfl) rfl rfl))),
       (word_step rfl (.inl rfl) rfl rfl (bs:=[x0,x1,x2,x3]) (hid rfl) HV hby4 (knowsW_in 16 64 (by decide) (by kernel_rfl) rfl rfl)),
       (step_bsl (.inl rfl) rfl Tryz.underlying118 inf24Z (by decide) (by decide) (by kernel_rfl) rfl (parts1 (knows_in (v:=(.int .u32 v)) 17 65 (by decide) (by kernel_rfl) rfl rfl))),trivial⟩ ?_
     intro val w9 hw hS hap hla
     have e48:=eVal hS 0 48 rfl rfl
     have e49:=eVal hS 1 49 rfl rfl
     have e50:=eVal hS 2 50 rfl rfl
     have e51:=eVal hS 3 51 rfl rfl
     have e52:=eVal hS 4 52 rfl rfl
     have e53:=eVal hS 5 53 rfl rfl
     have e54:=eVal hS 6 54 rfl rfl
     have e55:=eVal hS 7 55 rfl rfl
     have e56:=eVal hS 8 56 rfl rfl
     have e57:=eVal hS 9 57 rfl rfl
     have e58:=eVal hS 10 58 rfl rfl
     have e59:=eVal hS 11 59 rfl rfl
     have e60:=eVal hS 12 60 rfl rfl
     have e61:=eVal hS 13 61 rfl rfl
     have e62:=eVal hS 14 62 rfl rfl
     have e63:=eVal hS 15 63 rfl rfl
     have e65:=eVal hS 17 65 rfl rfl
     simp only [pA,pB,pC,pD,pE,Act.put,pG,pH,pI,e48,e49,e50,e51,e52,e53,e54,e55,e56,e57,e58,e59,e60,e61,e62,e63,e65]
     obtain ⟨g1,hg1,hg1b,hR1⟩:IsRowV wr.heap.size 1 [.int .u32 v] (val 66) w9:=hS 18 66 (by decide) rfl
     rw [hg1]
     clear hS hap hla e48 e49 e50 e51 e52 e53 e54 e55 e56 e57 e58 e59 e60 e61 e62 e63 e65
     have hOw:=hO.stay hw
     have hNw:=hN.cl (hN.lt (by rw [hn.out];omega)) hw
     have hBw:=hB.trans (hw.mono (Nat.le_trans l3 hcz))
     have hcw:bc≤w9.heap.size:=Nat.le_trans hcz hw.size
     have hm:=hO.len
     have HM:Hid (((C4++joinB false 4 key++[count])++(joinB false 4 nonce).take k).length≤20):=hid (by simp [C4,HJ8.out,HJ3.out];omega)
     have hnl:=hNw.lt (by rw [hn.out];omega)
     have hbkw:bk≤w9.heap.size:=Nat.le_trans l3 hcw
     clear c0 c1 c2 c3 hO hN hB hcz hw
     refine app_nums rfl (.tmp 48) (.tmp 66) 118 rfl bc 53 .u32 4 Tryz.underlying118 info24 (by omega) A m c _ rfl hOw (some ⟨g1,0,none⟩) 1 [v] rfl (one_row hR1) (by have:=HM.out;simp only [List.length_cons,List.length_nil];omega) hcw ?_
     intro A' n' c' w2' hO2 hG
     have hN2:=hNw.grew hG (hOw.far l2) hnl
     have hB2:Below bk w w2':=hBw.trans (hG.below hbkw fun g e=>Nat.le_trans l3 (hOw.lt g e).1)
     have hc2:bc≤w2'.heap.size:=Nat.le_trans hcw hG.1.size
     rw [List.append_assoc,←take_more HJ.out] at hO2
     clear hOw hNw hBw hcw hG hR1 hnl
     go_wp2
     go_roundw
     case rel=>exact ⟨k+1,A',n',c',by omega,by rw [show 4*(k+1)=4*k+4 by omega,HI.out];go_num,rfl,hO2,hN2,hB2,hc2⟩
     case measure=>simp [intOf];omega
    ·have e:k=3:=by omega
     subst e
     have hlt':¬((4*3:Nat):Int)<12:=by omega
     have e3:(joinB false 4 nonce).take 3=joinB false 4 nonce:=List.take_of_length_le (by rw [HJ3.out];omega)
     rw [e3] at hO
     have hO:Owns wr bc 53 .u32 (.slice A m c) (startL key nonce count):=hO
     have HSL:Hid ((startL key nonce count).length=16):=hid (startL_length hk.out hn.out)
     have HSW:Hid (Wds (startL key nonce count)):=hid (startL_wds hkb hnb hc.out)
     have HBE:Hid (blockL key nonce count=splitB false 4 (sumK (rk (startL key nonce count) 10) (startL key nonce count) 16)):=hid rfl
     generalize startL key nonce count=sl at *
     have hm:=hO.len
     rw [HSL.out] at hm
     subst hm
     obtain ⟨g,rfl,hg1,hg2⟩:=hO.at0 (by rw [HSL.out];omega)
     clear e3 hN
     have hsz16:(([]:List Int).length+sl.length)*4≤140737488355328:=by rw [HSL.out];decide
     have hX:Nums wr .u32 (some ⟨g,0,none⟩) sl:=hO.nums
     have hbkw:bk≤wr.heap.size:=Nat.le_trans l3 hcz
     have hO0:=Owns.none_ wr wr.heap.size 53 .u32
     go_wp2_with (at_builtin;refine app_nums rfl (.tmp 68) (.tmp 69) 118 rfl wr.heap.size 53 .u32 4 Tryz.underlying118 info24 (by omega) none 0 0 [] rfl hO0 (some ⟨g,0,none⟩) c sl (by rw [HSL.out];rfl) hX hsz16 (Nat.le_refl _) ?_;intro A2 n2 c2 w2 hO2 hG2)
     have hA:Arr w2 g 0 .u32 sl:=hO.arr.grew hG2 (by simp [Value.ownBlock]) hg2
     have hO2:Owns w2 wr.heap.size 53 .u32 (.slice A2 n2 c2) sl:=hO2
     have hm2:=hO2.len
     rw [HSL.out] at hm2
     subst hm2
     obtain ⟨g2,rfl,hg3,hg4⟩:=hO2.at0 (by rw [HSL.out];omega)
     have hng:g≠g2:=by omega
     have hA2:=hO2.arr
     have hB2:Below bk w w2:=hB.trans (hG2.below hbkw fun g e=>by cases e)
     have hbg:bk≤g:=Nat.le_trans l3 hg1
     have hc2:bk≤w2.heap.size:=Nat.le_trans hbkw hG2.1.size
     clear hO hX hO0 hO2 hG2 hB hsz16 hbkw hcz
     generalize wr=wb at *
     go_loopw [11] (fun i wr=>∃k:Nat,k≤10∧i=.int .i64 k∧Arr wr g 0 .u32 (rk sl k)∧Only g w2 wr) (fun i _=>10 - (intOf i).toNat)
     case atStart=>exact ⟨0,by omega,rfl,hA,Only.refl _ _⟩
     case round =>
      clear hA
      obtain ⟨k,hk10,rfl,hA,hOn⟩:=hrel
      by_cases hlt:k<10
      ·have hlt':(k:Int)<10:=by omega
       have hl16:Hid ((rk sl k).length=16):=hid (by rw [rk_length];exact HSL.out)
       have hwk:Hid (Wds (rk sl k)):=hid (rk_wds HSW.out k)
       go_wp2_with (first
       | (go_at_call 99;with_reducible refine (rq_0 g c (rk sl k) _ hl16 hwk hA).mono ?_;rintro e w1 ⟨rfl,hA1,hO1⟩;clear hA)
       | (go_at_call 99;with_reducible refine (rq_1 g c (rk sl k) _ hl16 hwk hA1).mono ?_;rintro e w2 ⟨rfl,hA2,hO2⟩;clear hA1)
       | (go_at_call 99;with_reducible refine (rq_2 g c (rk sl k) _ hl16 hwk hA2).mono ?_;rintro e w3 ⟨rfl,hA3,hO3⟩;clear hA2)
       | (go_at_call 99;with_reducible refine (rq_3 g c (rk sl k) _ hl16 hwk hA3).mono ?_;rintro e w4 ⟨rfl,hA4,hO4⟩;clear hA3)
       | (go_at_call 99;with_reducible refine (rq_4 g c (rk sl k) _ hl16 hwk hA4).mono ?_;rintro e w5 ⟨rfl,hA5,hO5⟩;clear hA4)
       | (go_at_call 99;with_reducible refine (rq_5 g c (rk sl k) _ hl16 hwk hA5).mono ?_;rintro e w6 ⟨rfl,hA6,hO6⟩;clear hA5)
       | (go_at_call 99;with_reducible refine (rq_6 g c (rk sl k) _ hl16 hwk hA6).mono ?_;rintro e w7 ⟨rfl,hA7,hO7⟩;clear hA6)
       | (go_at_call 99;with_reducible refine (rq_7 g c (rk sl k) _ hl16 hwk hA7).mono ?_;rintro e w8 ⟨rfl,hA8,hO8⟩;clear hA7))
       go_roundw
       case rel=>exact ⟨k+1,by omega,by go_num,hA8,(((((((hOn.trans hO1).trans hO2).trans hO3).trans hO4).trans hO5).trans hO6).trans hO7).trans hO8⟩
       case measure=>simp [intOf];omega
      ·have e:k=10:=by omega
       have hge:¬(k:Int)<10:=by omega
       rw [e] at hA
       clear e
       have hA2r:=hA2.only hOn (Ne.symm hng)
       have hBr:Below bk w wr:=hB2.trans (hOn.below hbg hc2)
       have hcr:bk≤wr.heap.size:=Nat.le_trans hc2 hOn.size
       have hgr:g<wr.heap.size:=Nat.lt_of_lt_of_le (Nat.lt_trans hg2 (by omega)) hOn.size
       have hg2r:g2<wr.heap.size:=Nat.lt_of_lt_of_le hg4 hOn.size
       obtain ⟨rl,hrl⟩:∃r,rk sl 10=r:=⟨_,rfl⟩
       have hrlen:Hid (rl.length=16):=hid (by rw [←hrl,rk_length];exact HSL.out)
       rw [hrl] at hA HBE
       clear hA2 hB2 hc2 hrl hOn
       obtain ⟨bl,hbl⟩:∃b,splitB false 4 (sumK rl sl 16)=b:=⟨_,rfl⟩
       have HBL:=hid hbl
       rw [hbl] at HBE
       clear hbl
       go_wp2
       generalize wr=wl at *
       go_loopw [12,13] (fun v i wr=>∃(k:Nat) (A:Option Addr) (m c:Nat),k≤16∧i=.int .i64 k∧v=.slice A m c∧Owns wr wl.heap.size 5 .u8 (.slice A m c) (bl.take (4*k))∧Arr wr g 0 .u32 rl∧Arr wr g2 0 .u32 sl∧Below bk w wr∧wl.heap.size≤wr.heap.size) (fun _ i _=>16 - (intOf i).toNat)
       case atStart=>exact ⟨0,none,0,0,by omega,rfl,rfl,by rw [Nat.mul_zero,List.take_zero];exact Owns.none_ _ _ _ _,hA,hA2r,hBr,Nat.le_refl _⟩
       case round =>
        clear hA hA2r hBr
        obtain ⟨k,A3,m3,c3,hk16,rfl,rfl,hO,hA,hA2,hB,hlz⟩:=hrel
        by_cases hlt:k<16
        ·have hlt':(k:Int)<16:=by omega
         have hpos:(0:Int)≤k:=by omega
         obtain ⟨x,hx⟩:∃x,rl[k]? = some x:=⟨rl[k]'(by have:=hrlen.out;omega),by simp [hrlen.out,hlt]⟩
         obtain ⟨y,hy⟩:∃y,sl[k]? = some y:=⟨sl[k]'(by have:=HSL.out;omega),by simp [HSL.out,hlt]⟩
         have hc1:=hA.at_ hx
         have hc2:=hA2.at_ hy
         rw [Nat.zero_add] at hc1 hc2
         obtain ⟨z,hz⟩:∃z,(x+y)%4294967296=z:=⟨_,rfl⟩
         have hz0:0≤z:=by omega
         have hz1:z<4294967296:=by omega
         have hs:(sumK rl sl 16)[k]? = some z:=by
          rw [sumK_at _ _ _ (by rw [hrlen.out];exact hlt),if_pos hlt]
          simp only [List.getD_eq_getElem?_getD,hx,hy,Option.getD_some]
          rw [←hz]
         have hmore:=split_more _ hs
         have e256:z / 16777216%256=z / 16777216:=by omega
         rw [e256] at hmore
         rw [HBL.out] at hmore
         have HMORE:=hid hmore
         have HLB:Hid ((bl.take (4*k)).length≤64):=hid (by rw [List.length_take];omega)
         clear hx hy hs hmore e256
         go_wp2
         go_quiet (fail)
         have h63:((bl.take (4*k)).length+[z%256,z / 256%256,z / 65536%256,z / 16777216].length)*1≤140737488355328:=by have:=HLB.out;simp only [List.length_cons,List.length_nil];omega
         have hX:=(Arr.made (wr.drewN nq) .u8 [z%256,z / 256%256,z / 65536%256,z / 16777216] 5).nums
         have hOA:=(hO.drewN nq).alloc (.cells #[.int .u8 (z%256),.int .u8 (z / 256%256),.int .u8 (z / 65536%256),.int .u8 (z / 16777216)] 5)
         have hbs:wl.heap.size≤((wr.drewN nq).alloc (.cells #[.int .u8 (z%256),.int .u8 (z / 256%256),.int .u8 (z / 65536%256),.int .u8 (z / 16777216)] 5)).heap.size:=by simp;omega
         go_wp2_with (at_builtin;refine app_nums rfl (.tmp 104) (.tmp 119) 23 rfl wl.heap.size 5 .u8 1 Tryz.underlying23 Tryz.info5 (by omega) A3 m3 c3 (bl.take (4*k)) rfl hOA (some ⟨wr.heap.size,0,none⟩) 4 [z%256,z / 256%256,z / 65536%256,z / 16777216] rfl hX h63 hbs ?_;clear h63 hX hOA hbs;intro A4 n4 c4 w4 hO4 hG4)
         rw [←HMORE.out] at hO4
         have hGr:Below wr.heap.size wr ((wr.drewN nq).alloc (.cells #[.int .u8 (z%256),.int .u8 (z / 256%256),.int .u8 (z / 65536%256),.int .u8 (z / 16777216)] 5)):=(below_drewN (Below.refl _ _) nq).alloc (Nat.le_refl _) _
         have hG:=Grew.after hGr hG4
         have hgl:=hA.lt (by rw [hrlen.out];omega)
         have hgl2:=hA2.lt (by rw [HSL.out];omega)
         go_roundw
         case rel=>exact ⟨k+1,A4,n4,c4,by omega,by go_num,rfl,hO4,hA.grew hG (hO.far hgr) hgl,hA2.grew hG (hO.far hg2r) hgl2,hB.trans (hG.below (Nat.le_trans hcr hlz) fun q e=>Nat.le_trans hcr (hO.lt q e).1),Nat.le_trans hlz hG.1.size⟩
         case measure=>simp [intOf];omega
        ·have e:k=16:=by omega
         subst e
         have hbl64:bl.length=64:=by rw [←HBL.out,splitB_length,sumK_length,hrlen.out]
         have et:bl.take (4*16)=bl:=List.take_of_length_le (by omega)
         rw [et] at hO
         have hm:=hO.len
         rw [hbl64] at hm
         subst hm
         go_wp2
         go_ret
         refine ⟨A3,c3,rfl,?_,by rw [HBK.out];exact hB⟩
         rw [HBE.out,HBK.out]
         exact hO.lower hcr
end Go.Proofs.YtkblmdakejmmhaaGreatDoor
