/- TermOnce: the law's walk. -/
import Derived.Test.YtechhbljjnffaaaTOnceA
namespace Go.Proofs.Ytechhbljjnffaaa
open Go Go.RowKit Go.Maps
attribute [local go_sem] Oper.semAt_some
set_option maxRecDepth 50000 in
set_option maxHeartbeats 2000000 in
theorem once_any (n c:Nat) (A:Option Addr) (ds:List DoV) (w:World) (hn:ds.length=n) (hn47:n≤9223372036854775807) (hA:DoRow w.heap.size w A ds) :
 Calls Try.prog 4 #[.slice A n c] w fun e w'=>e=.returned (.bool true)∧Below w.heap.size w w':=by
 obtain ⟨W1,hW1⟩:∃W,w.alloc (.cells #[.bool false] 4)=W:=⟨_,rfl⟩
 have hb1:Below w.heap.size w W1:=by rw [←hW1];exact below_new w _
 have hB1:Blk W1 w.heap.size 4 [.bool false]:=by rw [←hW1];exact Blk.new w 4 [.bool false]
 obtain ⟨fb,hfb⟩:∃b,decide ((∀d ∈ ds,d.x.length≤100)∧n≤30)=b:=⟨_,rfl⟩
 have HF:Hid (fb=decide ((∀d ∈ ds,d.x.length≤100)∧n≤30)):=hid hfb.symm
 clear hfb
 refine (callsIn_wide (n:=5)).1 (callsIn_of_wp_marks Try.func4 rfl trivial ?_)
 simp only [Try.ntmps4,List.size_toArray,List.length_cons,List.length_nil,Nat.reduceAdd,Nat.reduceSub,Array.replicate_succ,Array.replicate_zero,List.push_toArray,List.append_toArray,List.nil_append,List.cons_append]
 refine wpIn_wide.2 ?_
 go_upto_region 13 with (first
  | (go_at_call 5;refine (awake_any _).mono ?_;rintro e w2 ⟨rfl,hb2⟩)
  | (go_at_call 16;refine (put_nil (0,0,0) _).mono ?_;rintro e w3 ⟨rfl,hb3⟩)
  | (go_at_call 17;refine (draw_nil 1 _).mono ?_;rintro e w4 ⟨rfl,rfl⟩)
  | (go_at_call 18;refine (text_nil _).mono ?_;rintro e w5 ⟨rfl,rfl⟩)
  | (go_at_call 9;refine (len_nil _).mono ?_;rintro e w6 ⟨rfl,rfl⟩)
  | (go_at_call 14;refine (sizeN_nil 0 _).mono ?_;rintro e w7 ⟨rfl,rfl⟩))
 refine (wpIn_wide (n:=5)).1 ?_
 gi_wp2_with (refine ⟨trivial,?_⟩;gi_at_call 10;refine (callsIn_wide.2 (all_nil _)).mono ?_;rintro e wc ⟨rfl,rfl⟩)
 obtain ⟨bx,hbx⟩:∃t,w3.heap.size=t:=⟨_,rfl⟩
 obtain ⟨wc,hwc⟩:∃W,w3.alloc (.cells #[.slice none 0 0] 28)=W:=⟨_,rfl⟩
 have hbc:Below w3.heap.size w3 wc:=by rw [←hwc];exact below_new w3 _
 have hBx:Blk wc w3.heap.size 28 [.slice none 0 0]:=by rw [←hwc];exact Blk.new w3 28 [.slice none 0 0]
 have hbxc:=hBx.cell (i:=0) rfl
 have h1c:Below W1.heap.size W1 wc:=(hb2.trans (Below.mono hb3 hb2.size)).trans (Below.mono hbc (Nat.le_trans hb2.size hb3.size))
 have hBc:=hB1.next h1c
 have hwcw:Below w.heap.size w wc:=hb1.trans (Below.mono h1c hb1.size)
 rw [hwc]
 rw [hbx] at hbxc ⊢
 clear hb2 hb3 hbc hBx hwc h1c hbx
 refine (wpIn_wide (n:=5)).1 ?_
 gi_step
 refine withAct fun aa haa=>?_
 refine wpIn_rangeFunc_ownH (F:=Fence.wide) rfl (by omega) (gf:=23) (lb:=#[.pointer (some ⟨bx,0,none⟩)]) (by rw [haa];rfl) trivial (enters_of Try.func23 (by kernel_rfl) rfl)
  (encs:=encT []) (Kp:=KpG none) (S:=fun xs=>xs.length=0∧upTo xs) (Sp:=upTo) (N:=0) (w0:=wc)
  (fun l J Jx W hW hJ _ hY h0=>callsIn_wide.2 (all1_in 4 (by omega) l bx 0 none [] J Jx W (Nat.zero_le _) hJ hY (cellB hbxc hW) (fun i t hi=>by simp at hi) h0))
  (fun h k=>KpG.t h k) (fun W l o o' hl _ _ _=>KpG.b (n:=wc.heap.size) (fun b e=>by cases e) W l o o' hl) (Below.refl _ _) (fun _=>rfl)
  (fun _ W=>Chg (fun _=>False) wc W) (fun _ pre _=>¬upTo pre)
  (fun s X Y row h hg hr=>h.grown hg (fun g e=>.inr (hr g e).1)) (fun _=>ownFrom_pure _ _) (Chg.refl _ _)
  (fun _ _ _=>False) (fun x=>x.elim0) (fun _ _ x=>x.elim0) (fun _ _ x=>x.elim0) ?_ ?_
 ·rintro D1 xs W hD1 _ hCh hK1
  subst haa
  dsimp only
  have hcW:Below wc.heap.size wc W:=hCh.below (Nat.le_refl _) (fun _ e=>e.elim)
  have hBW:=hBc.next hcW
  have hwW:Below w.heap.size w W:=hwcw.trans (Below.mono hcW hwcw.size)
  have hwc1:=hwcw.size
  clear hCh hcW hBc hwcw hB1 hb1
  cases fb with
  | false =>
    have c2:∀ww,Below W.heap.size W ww→ww.cell? ⟨w.heap.size,0,none⟩=some (.bool false):=fun ww h=>(hBW.next h).cell (i:=0) rfl
    have f2:∀ww,Below W.heap.size W ww→ww.frozen? ⟨w.heap.size,0,none⟩=false:=fun ww h=>(hBW.next h).free 0
    go_wp2_with (go_at_call 6;refine (few_any w.heap.size n c A ds false _ hn hn47 (hA.next hwW) hwW.size HF).mono ?_;rintro e w3 ⟨rfl,hb3⟩;have c3:=c2 _ hb3;have f3:=f2 _ hb3)
    have hK3:(w3.setCell ⟨w.heap.size,0,none⟩ (.bool true)).heap[D1]? = some (.deferred (some [])):=(Below.heap_setCell _ _ _ _ (fun e=>by
     have e:D1=w.heap.size:=e
     rw [e,show W.heap[w.heap.size]? = _ from hBW] at hK1;cases hK1)).trans ((hb3.block D1 (Array.getElem?_eq_some_iff.1 hK1).1).trans hK1)
    exact once_few (w:=w) (w1:=w) hK3 rfl rfl ((hBW.next hb3).set 0 (.bool true)) ((hwW.trans (Below.mono hb3 hwW.size)).setCell (Nat.le_refl _) _) (Nat.le_refl _) (Nat.le_trans hwc1 hD1) (fun W' h=>⟨rfl,h⟩)
  | true =>
    obtain ⟨hx100,hn30⟩:=of_decide_eq_true HF.out.symm
    have hn2:(n:Int)≤30:=by omega
    go_upto_region 19 with (first
     | (go_at_call 6;refine (few_any w.heap.size n c A ds true _ hn hn47 (hA.next hwW) hwW.size HF).mono ?_;rintro e w3 ⟨rfl,hb3⟩;have hmm:=@run_makeMap Try.prog)
     | (go_at_call 7;refine (new_cs _).mono ?_;rintro e w4 ⟨rfl,hb4,hC4⟩))
    clear hmm
    obtain ⟨W5,hW5⟩:∃W,w4.alloc (.cells #[.pointer (some ⟨w3.heap.size+2,0,none⟩)] 25)=W:=⟨_,rfl⟩
    obtain ⟨W5m,hW5m⟩:∃W,W5.alloc (.map #[] 0)=W:=⟨_,rfl⟩
    obtain ⟨W6,hW6⟩:∃W,W5m.alloc (.cells #[.map (some W5.heap.size)] 53)=W:=⟨_,rfl⟩
    have z5:W5.heap.size=w4.heap.size+1:=by rw [←hW5];simp
    have z5m:W5m.heap.size=w4.heap.size+2:=by rw [←hW5m];simp [z5]
    have z6:W6.heap.size=w4.heap.size+3:=by rw [←hW6];simp [z5m]
    rw [z5] at hW6
    rw [hW5,hW5m,hW6]
    obtain ⟨p,s0,s4,hp,hs0,hs4,hO6,hB10,hB11,hM6,hB2,h6w,hD6,hK6,hs04,hs6⟩:∃p s0 s4,w3.heap.size+2=p∧w3.heap.size=s0∧w4.heap.size=s4∧OS (fun b=>s0≤b∧b≠s4∧b≠s4+1∧b≠s4+2) p 0 [] [] W6 W6∧Blk W6 s4 25 [.pointer (some ⟨p,0,none⟩)]∧Blk W6 (s4+1+1) 53 [.map (some (s4+1))] ∧
     W6.ownsMap Try.prog 33 (plainElem (H:=Unit) Try.prog 4) (s4+1) 0 (.map [])∧Blk W6 w.heap.size 4 [.bool false]∧Below w.heap.size w W6∧w.heap.size<s0∧(D1<s0∧w.heap.size≤D1∧W6.heap[D1]? = some (.deferred (some [])))∧s0≤s4∧W6.heap.size=s4+3:=by
     have hb5:Below w4.heap.size w4 W5:=by rw [←hW5];exact below_new w4 _
     have hb5m:Below W5.heap.size W5 W5m:=by rw [←hW5m];exact below_new W5 _
     have hb6:Below W5m.heap.size W5m W6:=by rw [←hW6];exact below_new W5m _
     have hB5:Blk W5 w4.heap.size 25 [.pointer (some ⟨w3.heap.size+2,0,none⟩)]:=by rw [←hW5];exact Blk.new w4 25 [.pointer (some ⟨w3.heap.size+2,0,none⟩)]
     have hM5:=World.ownsMap_made W5 Try.prog 33 (plainElem (H:=Unit) Try.prog 4)
     rw [hW5m,z5] at hM5
     have hB6:Blk W6 (w4.heap.size+2) 53 [.map (some (w4.heap.size+1))]:=by rw [←z5m,←hW6];exact Blk.new W5m 53 [.map (some (w4.heap.size+1))]
     have h46:Below w4.heap.size w4 W6:=hb5.trans ((Below.mono hb5m hb5.size).trans (Below.mono hb6 (Nat.le_trans hb5.size hb5m.size)))
     have h5m6:Below W5.heap.size W5 W6:=hb5m.trans (Below.mono hb6 hb5m.size)
     have hW6':Below W.heap.size W W6:=hb3.trans ((Below.mono hb4 hb3.size).trans (Below.mono h46 (Nat.le_trans hb3.size hb4.size)))
     have hDl:=(Array.getElem?_eq_some_iff.1 hK1).1
     have s3:=hb3.size
     have s4:=hb4.size
     have sB:=hBW.lt
     refine ⟨_,_,_,rfl,rfl,rfl,⟨Nat.le_refl _,Nat.le_refl _,⟨_,hC4.next h46,fun b hb=>?_⟩,Chg.refl _ _⟩,hB5.next h5m6,hB6,map_next hM5 hb6,hBW.next hW6',hwW.trans (Below.mono hW6' hwW.size),by omega,⟨by omega,Nat.le_trans hwc1 hD1,(hW6'.block D1 hDl).trans hK1⟩,by omega,z6⟩
     have e1:=hb.1
     have e2:=hb.2
     refine ⟨by omega,?_,?_,?_,?_⟩ <;> omega
    rw [hp,hs4]
    have HN:=hid hn
    have hA6:=hA.next h6w
    clear hW5 hW5m hW6 z5 z5m z6 hp hs0 hs4 hb3 hb4 hC4 hn hA hBW hwW hK1
    go_wp2
    go_loopw [70] (fun v wr=>∃(k:Nat) (L:List T3) (X:List (List Int)),k≤n∧v=.int .i64 k∧OS (fun b=>s0≤b∧b≠s4∧b≠s4+1∧b≠s4+2) p k L X W6 wr) (fun v _=>n - (intOf v).toNat)
    case atStart=>exact ⟨0,[],[],Nat.zero_le _,rfl,hO6⟩
    case round =>
     clear hO6
     obtain ⟨k,L,X,hk,rfl,hO⟩:=hrel
     have h6r:Below s0 W6 wr:=hO.chg.below (by omega) (fun b e=>e.1)
     have h6b:Below w.heap.size W6 wr:=h6r.mono (by omega)
     by_cases hlt:k<n
     ·obtain ⟨d,hd⟩:∃d,ds[k]? = some d:=⟨ds[k]'(by rw [HN.out];exact hlt),by simp [HN.out,hlt]⟩
      obtain ⟨⟨g,o,rfl,hg,hr⟩,hdt,hdn,hdx,hdA⟩:=(hA6.next h6b) k d hd
      have hx2:=hx100 d (List.mem_of_getElem? hd)
      have r0:=hr 0 _ rfl
      have r1:=hr 1 _ rfl
      have r2:=hr 2 _ rfl
      have r3:=hr 3 _ rfl
      have r4:=hr 4 _ rfl
      have r5:=hr 5 _ rfl
      simp only [Nat.add_zero] at r0
      obtain ⟨W7,hW7,hB7,hb7⟩:=do_world d wr
      have hkn:(k:Int)<n:=by omega
      have hk0:(0:Int)≤k:=by omega
      have hk1:k+1≤n:=by omega
      have hk30:k+1≤30:=by omega
      have hO7:=hO.next hb7
      have b10:=((hB10.chg hO.chg (by omega)).next hb7).cell (i:=0) rfl
      have hB10w:=(hB10.chg hO.chg (by omega)).next hb7
      have hw7:W6.heap.size≤W7.heap.size:=hO7.chg.size
      obtain ⟨F,hC7,hF⟩:∃F,CS F W7 p L X∧∀b,F b→b<wr.heap.size∧s0≤b∧b≠s4∧b≠s4+1∧b≠s4+2:=by
       obtain ⟨F,h1,h2⟩:=hO.code
       exact ⟨F,h1.next hb7,h2⟩
      have hF7:∀b,F b→b<W7.heap.size∧(fun b=>s0≤b∧b≠s4∧b≠s4+1∧b≠s4+2) b:=fun b hf=>⟨Nat.lt_of_lt_of_le (hF b hf).1 hb7.size,(hF b hf).2⟩
      have hok7:∀b,W7.heap.size≤b→s0≤b∧b≠s4∧b≠s4+1∧b≠s4+2:=fun b hb=>by omega
      obtain ⟨A7,c7,AX7,cX7,d70,d71,_⟩:=hC7.cells
      have y0:=hB7.cell (i:=0) rfl
      have y1:=hB7.cell (i:=1) rfl
      have y2:=hB7.cell (i:=2) rfl
      have y3:=hB7.cell (i:=3) rfl
      have y4:=hB7.cell (i:=4) rfl
      have y5:=hB7.cell (i:=5) rfl
      have hL0:=hO.nL
      have hX0:=hO.nX
      have hL39:L.length≤39:=by omega
      have hX39:X.length≤39:=by omega
      have hNA:Nums W7 .u8 d.A d.x:=(hdA.stay (Below.mono hb7 (by have:=h6w.size;have:=h6r.size;omega))).nums (by have:=h6w.size;omega)
      have hNF:0<d.x.length→∀g o sp,d.A=some ⟨g,o,sp⟩→¬F g:=hdA.apart (fun b hf=>by have:=(hF b hf).2.1;omega)
      have hnbF:¬F wr.heap.size:=fun h=>Nat.lt_irrefl _ (hF _ h).1
      have hn4F:¬F s4:=fun h=>(hF _ h).2.2.1 rfl
      have hch7:=hO7.chg
      have HW7:=hid hW7
      clear hr hlt hk hW7 hd hO
      go_upto_region 22 with (fail)
      rw [HW7.out]
      clear r0 r1 r2 r3 r4 r5 HW7
      by_cases hk1':d.kind=1
      ·rw [hk1'] at y0
       clear hk1'
       go_upto_region 31 with (first
        | (go_at_call 9;refine (len_any p L.length c7 A7 _ d70 d71).mono ?_;rintro e w8 ⟨rfl,rfl⟩)
        | (go_at_call 16;refine (put_any F p L X d.t W7 hC7 hdt hL39).mono ?_;rintro e w8 ⟨n1,q1,L1,rfl,hR1,hC8,hG8⟩;have b108:=(hB10w.chg hG8 hn4F).cell (i:=0) rfl)
        | (go_at_call 11;refine (get_gen _ p L1 X n1 w8 hC8).mono ?_;rintro e w9 ⟨u,bg,rfl,hb9,hu,hgu⟩))
       obtain ⟨W9,hW9,_,_,_,hb10,hB9⟩:=term_world u w9
       rw [hW9]
       have hb89:Below w8.heap.size w8 W9:=hb9.trans (Below.mono hb10 hb9.size)
       have hO9:OS (fun b=>s0≤b∧b≠s4∧b≠s4+1∧b≠s4+2) p (k+1) L1 X W6 W9:=(OS.step hch7 (by have:=putR_len hR1;omega) (by omega) hF7 hC8 hG8 hok7).next hb89
       obtain ⟨A9,c9,AX9,cX9,d90,d91,_⟩:=(hC8.next hb89).cells
       have b109:=((hB10w.chg hG8 hn4F).next hb89).cell (i:=0) rfl
       have hBd:=(hB7.chg hG8 hnbF).next hb89
       have hRg:W9.rangeAt wr.heap.size 2 (tc d.t):=fun j v hj=>by
        match j,hj with
        | 0,hj=>simp [tc] at hj;subst hj;exact hBd.cell (i:=2) rfl
        | 1,hj=>simp [tc] at hj;subst hj;exact hBd.cell (i:=3) rfl
        | 2,hj=>simp [tc] at hj;subst hj;exact hBd.cell (i:=4) rfl
        | n+3,hj=>simp [tc] at hj
       have hcs:=putR_cases hR1
       clear hW9 hb9 hb10 hR1 hC8 hG8 b108 hB7 hb7 hC7 hF hF7 hok7 y0 y1 y2 y3 y4 y5 d70 d71 hNA hNF hBd hb89 b10 hB10w hch7
       rcases hcs with ⟨rfl,rfl⟩|⟨rfl,i1,rfl,hi1⟩
       ·refine region_seq2 22 225 (fun _=>false) [Is (Value.int .i64 2),Is (Value.bool false),Is (Value.bool false),Is (undef),Is (undef),Is (undef),Is (undef),Is (undef),Is (undef),Is (undef),Is (undef),Is (Value.bool false),Is (Value.bool false),Is (Value.int .i64 2),Is (Value.bool true),Is (Value.bool true),Is (Value.pointer (some ⟨p,0,none⟩)),Is (Value.int .i64 (L1.length:Nat)),Is (Value.int .i64 (L1.length:Nat)),Is (Value.bool false),Is (Value.bool false),Is (Value.bool false)] [119,120,121,122,123,124,125,126,127,128,129,130,131,132,133,134,135,136,137,138,139,140] (by kernel_rfl) (by kernel_rfl) (Nat.le_of_eq rfl) (grows_cons (Is.grows _) (grows_cons (Is.grows _) (grows_cons (Is.grows _) (grows_cons (Is.grows _) (grows_cons (Is.grows _) (grows_cons (Is.grows _) (grows_cons (Is.grows _) (grows_cons (Is.grows _) (grows_cons (Is.grows _) (grows_cons (Is.grows _) (grows_cons (Is.grows _) (grows_cons (Is.grows _) (grows_cons (Is.grows _) (grows_cons (Is.grows _) (grows_cons (Is.grows _) (grows_cons (Is.grows _) (grows_cons (Is.grows _) (grows_cons (Is.grows _) (grows_cons (Is.grows _) (grows_cons (Is.grows _) (grows_cons (Is.grows _) (grows_cons (Is.grows _) grows_nil))))))))))))))))))))))
         ⟨(step_ex _ rfl (.inl rfl) rfl (fun a ww hw hf hd=>by
         have h16:a.eval (.tmp 16)=Value.int .i64 2:=((knows_out 16 (by kernel_rfl) rfl):Knows _ _ _ _ _ _ 0 _ _) a ww hw hf hd
         revert h16
         generalize a.eval=ev
         intro h16
         unfold execOp
         simp only [h16]
         go_simp)),
          (step_ex _ rfl (.inl rfl) rfl (fun a ww hw hf hd=>by
         have h119:a.eval (.tmp 119)=Value.int .i64 2:=((knows_in 0 119 (by decide) (by kernel_rfl) rfl rfl):Knows _ _ _ _ _ _ 1 _ _) a ww hw hf hd
         have hc:=ec a
         revert hc h119
         generalize a.eval=ev
         intro hc h119
         unfold execOp
         simp only [hc,h119]
         go_simp)),
          (step_ex _ rfl (.inl rfl) rfl (fun a ww hw hf hd=>by
         have h120:a.eval (.tmp 120)=Value.bool false:=((knows_in 1 120 (by decide) (by kernel_rfl) rfl rfl):Knows _ _ _ _ _ _ 2 _ _) a ww hw hf hd
         revert h120
         generalize a.eval=ev
         intro h120
         unfold execOp
         simp only [h120]
         go_simp)),
          (step_off rfl ⟨2,true,121,rfl,by decide,by kernel_rfl,rfl,fun _ _ h=>.inl h⟩ (fun _=>rfl)),
          (step_off rfl ⟨2,true,121,rfl,by decide,by kernel_rfl,rfl,fun _ _ h=>.inl h⟩ (fun _=>rfl)),
          (step_off rfl ⟨2,true,121,rfl,by decide,by kernel_rfl,rfl,fun _ _ h=>.inl h⟩ (fun _=>rfl)),
          (step_off rfl ⟨5,false,124,rfl,by decide,by kernel_rfl,rfl,fun _ _ h=>.inr h⟩ (fun _=>rfl)),
          (step_off rfl ⟨5,false,124,rfl,by decide,by kernel_rfl,rfl,fun _ _ h=>.inr h⟩ (fun _=>rfl)),
          (step_off rfl ⟨5,false,124,rfl,by decide,by kernel_rfl,rfl,fun _ _ h=>.inr h⟩ (fun _=>rfl)),
          (step_off rfl ⟨5,false,124,rfl,by decide,by kernel_rfl,rfl,fun _ _ h=>.inr h⟩ (fun _=>rfl)),
          (step_off rfl ⟨2,true,121,rfl,by decide,by kernel_rfl,rfl,fun _ _ h=>.inl h⟩ (fun _=>rfl)),
          (step_ex _ rfl (.inl rfl) rfl (fun a ww hw hf hd=>by
         have h121:a.eval (.tmp 121)=Value.bool false:=((knows_in 2 121 (by decide) (by kernel_rfl) rfl rfl):Knows _ _ _ _ _ _ 11 _ _) a ww hw hf hd
         have hc:=ec a
         revert hc h121
         generalize a.eval=ev
         intro hc h121
         unfold execOp
         simp only [hc,h121]
         go_simp)),
          (step_ex _ rfl (.inl rfl) rfl (fun a ww hw hf hd=>by
         have h130:a.eval (.tmp 130)=Value.bool false:=((knows_in 11 130 (by decide) (by kernel_rfl) rfl rfl):Knows _ _ _ _ _ _ 12 _ _) a ww hw hf hd
         revert h130
         generalize a.eval=ev
         intro h130
         unfold execOp
         simp only [h130]
         go_simp)),
          (step_ex _ rfl (.inr ⟨12,false,131,rfl,by decide,by kernel_rfl,rfl,fun _ _ h=>h⟩) rfl (fun a ww hw hf hd=>by
         have h16:a.eval (.tmp 16)=Value.int .i64 2:=((knows_out 16 (by kernel_rfl) rfl):Knows _ _ _ _ _ _ 13 _ _) a ww hw hf hd
         revert h16
         generalize a.eval=ev
         intro h16
         unfold execOp
         simp only [h16]
         go_simp)),
          (step_ex _ rfl (.inr ⟨12,false,131,rfl,by decide,by kernel_rfl,rfl,fun _ _ h=>h⟩) rfl (fun a ww hw hf hd=>by
         have h132:a.eval (.tmp 132)=Value.int .i64 2:=((knows_in 13 132 (by decide) (by kernel_rfl) rfl rfl):Knows _ _ _ _ _ _ 14 _ _) a ww hw hf hd
         have hc:=ec a
         revert hc h132
         generalize a.eval=ev
         intro hc h132
         unfold execOp
         simp only [hc,h132]
         go_simp)),
          (step_ex _ rfl (.inr ⟨12,false,131,rfl,by decide,by kernel_rfl,rfl,fun _ _ h=>h⟩) rfl (fun a ww hw hf hd=>by
         have h133:a.eval (.tmp 133)=Value.bool true:=((knows_in 14 133 (by decide) (by kernel_rfl) rfl rfl):Knows _ _ _ _ _ _ 15 _ _) a ww hw hf hd
         revert h133
         generalize a.eval=ev
         intro h133
         unfold execOp
         simp only [h133]
         go_simp)),
          (step_ex _ rfl (.inr ⟨15,true,134,rfl,by decide,by kernel_rfl,rfl,fun _ _ h=>h⟩) rfl (fun a ww hw hf hd=>by
         have h10:a.eval (.tmp 10)=Value.pointer (some ⟨s4,0,none⟩):=((knows_out 10 (by kernel_rfl) rfl):Knows _ _ _ _ _ _ 16 _ _) a ww hw hf hd
         have f0:=cellB b109 hw
         revert h10
         generalize a.eval=ev
         intro h10
         unfold execOp
         simp only [h10]
         go_simp)),
          (step_cw rfl (.inr ⟨15,true,134,rfl,by decide,by kernel_rfl,rfl,fun _ _ h=>h⟩) rfl cxT9 rfl (fun aa ww hw hf hd=>⟨_,(one_arg (knows_in 16 135 (by decide) (by kernel_rfl) rfl rfl)) aa ww hw hf hd,calls_q (len_any p _ _ _ ww (cellB d90 hw) (cellB d91 hw))⟩)),
          (step_ex _ rfl (.inr ⟨15,true,134,rfl,by decide,by kernel_rfl,rfl,fun _ _ h=>h⟩) rfl (fun a ww hw hf hd=>by
         have h14:a.eval (.tmp 14)=Value.int .i64 (L1.length:Nat):=((knows_out 14 (by kernel_rfl) rfl):Knows _ _ _ _ _ _ 18 _ _) a ww hw hf hd
         revert h14
         generalize a.eval=ev
         intro h14
         unfold execOp
         simp only [h14]
         go_simp)),
          (step_ex _ rfl (.inr ⟨15,true,134,rfl,by decide,by kernel_rfl,rfl,fun _ _ h=>h⟩) rfl (fun a ww hw hf hd=>by
         have h136:a.eval (.tmp 136)=Value.int .i64 (L1.length:Nat):=((knows_in 17 136 (by decide) (by kernel_rfl) rfl rfl):Knows _ _ _ _ _ _ 19 _ _) a ww hw hf hd
         have h137:a.eval (.tmp 137)=Value.int .i64 (L1.length:Nat):=((knows_in 18 137 (by decide) (by kernel_rfl) rfl rfl):Knows _ _ _ _ _ _ 19 _ _) a ww hw hf hd
         revert h136 h137
         generalize a.eval=ev
         intro h136 h137
         unfold execOp
         simp only [h136,h137]
         go_simp)),
          (step_ex _ rfl (.inr ⟨12,false,131,rfl,by decide,by kernel_rfl,rfl,fun _ _ h=>h⟩) rfl (fun a ww hw hf hd=>by
         have h134:a.eval (.tmp 134)=Value.bool true:=((knows_in 15 134 (by decide) (by kernel_rfl) rfl rfl):Knows _ _ _ _ _ _ 20 _ _) a ww hw hf hd
         have h138:a.eval (.tmp 138)=Value.bool false:=((knows_in 19 138 (by decide) (by kernel_rfl) rfl rfl):Knows _ _ _ _ _ _ 20 _ _) a ww hw hf hd
         have hc:=ec a
         revert hc h134 h138
         generalize a.eval=ev
         intro hc h134 h138
         unfold execOp
         simp only [hc,h134,h138]
         go_simp)),
          (step_ex _ rfl (.inl rfl) rfl (fun a ww hw hf hd=>by
         have h131:a.eval (.tmp 131)=Value.bool false:=((knows_in 12 131 (by decide) (by kernel_rfl) rfl rfl):Knows _ _ _ _ _ _ 21 _ _) a ww hw hf hd
         have h139:a.eval (.tmp 139)=Value.bool false:=((knows_in 20 139 (by decide) (by kernel_rfl) rfl rfl):Knows _ _ _ _ _ _ 21 _ _) a ww hw hf hd
         have hc:=ec a
         revert hc h131 h139
         generalize a.eval=ev
         intro hc h131 h139
         unfold execOp
         simp only [hc,h131,h139]
         go_simp)),trivial⟩ ?_
        intro val W12 hw hS _ _
        have e119:val 119=Value.int .i64 2:=hS 0 119 (by decide) rfl
        have e120:val 120=Value.bool false:=hS 1 120 (by decide) rfl
        have e121:val 121=Value.bool false:=hS 2 121 (by decide) rfl
        have e122:val 122=undef:=hS 3 122 (by decide) rfl
        have e123:val 123=undef:=hS 4 123 (by decide) rfl
        have e124:val 124=undef:=hS 5 124 (by decide) rfl
        have e125:val 125=undef:=hS 6 125 (by decide) rfl
        have e126:val 126=undef:=hS 7 126 (by decide) rfl
        have e127:val 127=undef:=hS 8 127 (by decide) rfl
        have e128:val 128=undef:=hS 9 128 (by decide) rfl
        have e129:val 129=undef:=hS 10 129 (by decide) rfl
        have e130:val 130=Value.bool false:=hS 11 130 (by decide) rfl
        have e131:val 131=Value.bool false:=hS 12 131 (by decide) rfl
        have e132:val 132=Value.int .i64 2:=hS 13 132 (by decide) rfl
        have e133:val 133=Value.bool true:=hS 14 133 (by decide) rfl
        have e134:val 134=Value.bool true:=hS 15 134 (by decide) rfl
        have e135:val 135=Value.pointer (some ⟨p,0,none⟩):=hS 16 135 (by decide) rfl
        have e136:val 136=Value.int .i64 (L1.length:Nat):=hS 17 136 (by decide) rfl
        have e137:val 137=Value.int .i64 (L1.length:Nat):=hS 18 137 (by decide) rfl
        have e138:val 138=Value.bool false:=hS 19 138 (by decide) rfl
        have e139:val 139=Value.bool false:=hS 20 139 (by decide) rfl
        have e140:val 140=Value.bool false:=hS 21 140 (by decide) rfl
        simp only [putVals,List.foldl_cons,List.foldl_nil,List.drop_succ_cons,List.drop_zero,Act.put,List.setIfInBounds_toArray,List.set_cons_succ,List.set_cons_zero,e119,e120,e121,e122,e123,e124,e125,e126,e127,e128,e129,e130,e131,e132,e133,e134,e135,e136,e137,e138,e139,e140]
        clear e119 e120 e121 e122 e123 e124 e125 e126 e127 e128 e129 e130 e131 e132 e133 e134 e135 e136 e137 e138 e139 e140 hS
        have hOx:=hO9.next hw
        clear hO9 hw
        go_wp2
        go_roundw
        case rel=>exact ⟨k+1,L1,X,hk1,by go_num,hOx⟩
        case measure=>simp [intOf];omega
       ·obtain ⟨rfl,rfl⟩:=hgu i1 d.t rfl hi1
        have hTT:decide (d.t=d.t)=true:=decide_eq_true rfl
        refine region_seq2 22 225 (fun _=>false) [Is (Value.int .i64 0),Is (Value.bool true),Is (Value.bool true),Is (Value.bool true),Is (Value.bool false),Is (Value.bool false),Is (Value.agg (tc d.t).toArray),Is (Value.pointer (some ⟨wr.heap.size,2,none⟩)),Is (Value.agg (tc d.t).toArray),Is (Value.bool false),Is (Value.bool false),Is (Value.bool false),Is (Value.bool false),Is (Value.int .i64 0),Is (Value.bool false),Is (Value.bool false),Is (undef),Is (undef),Is (undef),Is (undef),Is (Value.bool false),Is (Value.bool false)] [119,120,121,122,123,124,125,126,127,128,129,130,131,132,133,134,135,136,137,138,139,140] (by kernel_rfl) (by kernel_rfl) (Nat.le_of_eq rfl) (grows_cons (Is.grows _) (grows_cons (Is.grows _) (grows_cons (Is.grows _) (grows_cons (Is.grows _) (grows_cons (Is.grows _) (grows_cons (Is.grows _) (grows_cons (Is.grows _) (grows_cons (Is.grows _) (grows_cons (Is.grows _) (grows_cons (Is.grows _) (grows_cons (Is.grows _) (grows_cons (Is.grows _) (grows_cons (Is.grows _) (grows_cons (Is.grows _) (grows_cons (Is.grows _) (grows_cons (Is.grows _) (grows_cons (Is.grows _) (grows_cons (Is.grows _) (grows_cons (Is.grows _) (grows_cons (Is.grows _) (grows_cons (Is.grows _) (grows_cons (Is.grows _) grows_nil))))))))))))))))))))))
         ⟨(step_ex _ rfl (.inl rfl) rfl (fun a ww hw hf hd=>by
         have h16:a.eval (.tmp 16)=Value.int .i64 0:=((knows_out 16 (by kernel_rfl) rfl):Knows _ _ _ _ _ _ 0 _ _) a ww hw hf hd
         revert h16
         generalize a.eval=ev
         intro h16
         unfold execOp
         simp only [h16]
         go_simp)),
          (step_ex _ rfl (.inl rfl) rfl (fun a ww hw hf hd=>by
         have h119:a.eval (.tmp 119)=Value.int .i64 0:=((knows_in 0 119 (by decide) (by kernel_rfl) rfl rfl):Knows _ _ _ _ _ _ 1 _ _) a ww hw hf hd
         have hc:=ec a
         revert hc h119
         generalize a.eval=ev
         intro hc h119
         unfold execOp
         simp only [hc,h119]
         go_simp)),
          (step_ex _ rfl (.inl rfl) rfl (fun a ww hw hf hd=>by
         have h120:a.eval (.tmp 120)=Value.bool true:=((knows_in 1 120 (by decide) (by kernel_rfl) rfl rfl):Knows _ _ _ _ _ _ 2 _ _) a ww hw hf hd
         revert h120
         generalize a.eval=ev
         intro h120
         unfold execOp
         simp only [h120]
         go_simp)),
          (step_ex _ rfl (.inr ⟨2,true,121,rfl,by decide,by kernel_rfl,rfl,fun _ _ h=>h⟩) rfl (fun a ww hw hf hd=>by
         have h18:a.eval (.tmp 18)=Value.bool true:=((knows_out 18 (by kernel_rfl) rfl):Knows _ _ _ _ _ _ 3 _ _) a ww hw hf hd
         revert h18
         generalize a.eval=ev
         intro h18
         unfold execOp
         simp only [h18]
         go_simp)),
          (step_ex _ rfl (.inr ⟨2,true,121,rfl,by decide,by kernel_rfl,rfl,fun _ _ h=>h⟩) rfl (fun a ww hw hf hd=>by
         have h122:a.eval (.tmp 122)=Value.bool true:=((knows_in 3 122 (by decide) (by kernel_rfl) rfl rfl):Knows _ _ _ _ _ _ 4 _ _) a ww hw hf hd
         revert h122
         generalize a.eval=ev
         intro h122
         unfold execOp
         simp only [h122]
         go_simp)),
          (step_ex _ rfl (.inr ⟨2,true,121,rfl,by decide,by kernel_rfl,rfl,fun _ _ h=>h⟩) rfl (fun a ww hw hf hd=>by
         have h123:a.eval (.tmp 123)=Value.bool false:=((knows_in 4 123 (by decide) (by kernel_rfl) rfl rfl):Knows _ _ _ _ _ _ 5 _ _) a ww hw hf hd
         revert h123
         generalize a.eval=ev
         intro h123
         unfold execOp
         simp only [h123]
         go_simp)),
          (step_ldV rfl (.inr ⟨5,false,124,rfl,by decide,by kernel_rfl,rfl,fun _ _ h=>h⟩) (fun _ hw=>(hB9.next hw).rw.range) rfl Try.underlying33 rfl (szV infT (tc_len _)) rfl (knows_out 17 (by kernel_rfl) rfl)),
          (step_ex _ rfl (.inr ⟨5,false,124,rfl,by decide,by kernel_rfl,rfl,fun _ _ h=>h⟩) rfl (fun a ww hw hf hd=>by
         have h13:a.eval (.tmp 13)=Value.pointer (some ⟨wr.heap.size,0,none⟩):=((knows_out 13 (by kernel_rfl) rfl):Knows _ _ _ _ _ _ 7 _ _) a ww hw hf hd
         revert h13
         generalize a.eval=ev
         intro h13
         unfold execOp
         simp only [h13]
         go_simp)),
          (step_ldV rfl (.inr ⟨5,false,124,rfl,by decide,by kernel_rfl,rfl,fun _ _ h=>h⟩) (fun _ hw=>rng_next hRg hw) rfl Try.underlying33 rfl (szV infT (tc_len _)) rfl (knows_in 7 126 (by decide) (by kernel_rfl) rfl rfl)),
          (step_ex (Value.bool false) rfl (.inr ⟨5,false,124,rfl,by decide,by kernel_rfl,rfl,fun _ _ h=>h⟩) rfl (fun a ww hw hf hd=>exec_neT rfl (((knows_in 6 125 (by decide) (by kernel_rfl) rfl rfl):Knows _ _ _ _ _ _ 9 _ (Value.agg (tc d.t).toArray)) a ww hw hf hd) (((knows_in 8 127 (by decide) (by kernel_rfl) rfl rfl):Knows _ _ _ _ _ _ 9 _ (Value.agg (tc d.t).toArray)) a ww hw hf hd) hdt hdt hTT ww)),
          (step_ex _ rfl (.inr ⟨2,true,121,rfl,by decide,by kernel_rfl,rfl,fun _ _ h=>h⟩) rfl (fun a ww hw hf hd=>by
         have h124:a.eval (.tmp 124)=Value.bool false:=((knows_in 5 124 (by decide) (by kernel_rfl) rfl rfl):Knows _ _ _ _ _ _ 10 _ _) a ww hw hf hd
         have h128:a.eval (.tmp 128)=Value.bool false:=((knows_in 9 128 (by decide) (by kernel_rfl) rfl rfl):Knows _ _ _ _ _ _ 10 _ _) a ww hw hf hd
         have hc:=ec a
         revert hc h124 h128
         generalize a.eval=ev
         intro hc h124 h128
         unfold execOp
         simp only [hc,h124,h128]
         go_simp)),
          (step_ex _ rfl (.inl rfl) rfl (fun a ww hw hf hd=>by
         have h121:a.eval (.tmp 121)=Value.bool true:=((knows_in 2 121 (by decide) (by kernel_rfl) rfl rfl):Knows _ _ _ _ _ _ 11 _ _) a ww hw hf hd
         have h129:a.eval (.tmp 129)=Value.bool false:=((knows_in 10 129 (by decide) (by kernel_rfl) rfl rfl):Knows _ _ _ _ _ _ 11 _ _) a ww hw hf hd
         have hc:=ec a
         revert hc h121 h129
         generalize a.eval=ev
         intro hc h121 h129
         unfold execOp
         simp only [hc,h121,h129]
         go_simp)),
          (step_ex _ rfl (.inl rfl) rfl (fun a ww hw hf hd=>by
         have h130:a.eval (.tmp 130)=Value.bool false:=((knows_in 11 130 (by decide) (by kernel_rfl) rfl rfl):Knows _ _ _ _ _ _ 12 _ _) a ww hw hf hd
         revert h130
         generalize a.eval=ev
         intro h130
         unfold execOp
         simp only [h130]
         go_simp)),
          (step_ex _ rfl (.inr ⟨12,false,131,rfl,by decide,by kernel_rfl,rfl,fun _ _ h=>h⟩) rfl (fun a ww hw hf hd=>by
         have h16:a.eval (.tmp 16)=Value.int .i64 0:=((knows_out 16 (by kernel_rfl) rfl):Knows _ _ _ _ _ _ 13 _ _) a ww hw hf hd
         revert h16
         generalize a.eval=ev
         intro h16
         unfold execOp
         simp only [h16]
         go_simp)),
          (step_ex _ rfl (.inr ⟨12,false,131,rfl,by decide,by kernel_rfl,rfl,fun _ _ h=>h⟩) rfl (fun a ww hw hf hd=>by
         have h132:a.eval (.tmp 132)=Value.int .i64 0:=((knows_in 13 132 (by decide) (by kernel_rfl) rfl rfl):Knows _ _ _ _ _ _ 14 _ _) a ww hw hf hd
         have hc:=ec a
         revert hc h132
         generalize a.eval=ev
         intro hc h132
         unfold execOp
         simp only [hc,h132]
         go_simp)),
          (step_ex _ rfl (.inr ⟨12,false,131,rfl,by decide,by kernel_rfl,rfl,fun _ _ h=>h⟩) rfl (fun a ww hw hf hd=>by
         have h133:a.eval (.tmp 133)=Value.bool false:=((knows_in 14 133 (by decide) (by kernel_rfl) rfl rfl):Knows _ _ _ _ _ _ 15 _ _) a ww hw hf hd
         revert h133
         generalize a.eval=ev
         intro h133
         unfold execOp
         simp only [h133]
         go_simp)),
          (step_off rfl ⟨15,true,134,rfl,by decide,by kernel_rfl,rfl,fun _ _ h=>.inl h⟩ (fun _=>rfl)),
          (step_off rfl ⟨15,true,134,rfl,by decide,by kernel_rfl,rfl,fun _ _ h=>.inl h⟩ (fun _=>rfl)),
          (step_off rfl ⟨15,true,134,rfl,by decide,by kernel_rfl,rfl,fun _ _ h=>.inl h⟩ (fun _=>rfl)),
          (step_off rfl ⟨15,true,134,rfl,by decide,by kernel_rfl,rfl,fun _ _ h=>.inl h⟩ (fun _=>rfl)),
          (step_ex _ rfl (.inr ⟨12,false,131,rfl,by decide,by kernel_rfl,rfl,fun _ _ h=>h⟩) rfl (fun a ww hw hf hd=>by
         have h134:a.eval (.tmp 134)=Value.bool false:=((knows_in 15 134 (by decide) (by kernel_rfl) rfl rfl):Knows _ _ _ _ _ _ 20 _ _) a ww hw hf hd
         have hc:=ec a
         revert hc h134
         generalize a.eval=ev
         intro hc h134
         unfold execOp
         simp only [hc,h134]
         go_simp)),
          (step_ex _ rfl (.inl rfl) rfl (fun a ww hw hf hd=>by
         have h131:a.eval (.tmp 131)=Value.bool false:=((knows_in 12 131 (by decide) (by kernel_rfl) rfl rfl):Knows _ _ _ _ _ _ 21 _ _) a ww hw hf hd
         have h139:a.eval (.tmp 139)=Value.bool false:=((knows_in 20 139 (by decide) (by kernel_rfl) rfl rfl):Knows _ _ _ _ _ _ 21 _ _) a ww hw hf hd
         have hc:=ec a
         revert hc h131 h139
         generalize a.eval=ev
         intro hc h131 h139
         unfold execOp
         simp only [hc,h131,h139]
         go_simp)),trivial⟩ ?_
        intro val W12 hw hS _ _
        have e119:val 119=Value.int .i64 0:=hS 0 119 (by decide) rfl
        have e120:val 120=Value.bool true:=hS 1 120 (by decide) rfl
        have e121:val 121=Value.bool true:=hS 2 121 (by decide) rfl
        have e122:val 122=Value.bool true:=hS 3 122 (by decide) rfl
        have e123:val 123=Value.bool false:=hS 4 123 (by decide) rfl
        have e124:val 124=Value.bool false:=hS 5 124 (by decide) rfl
        have e125:val 125=Value.agg (tc d.t).toArray:=hS 6 125 (by decide) rfl
        have e126:val 126=Value.pointer (some ⟨wr.heap.size,2,none⟩):=hS 7 126 (by decide) rfl
        have e127:val 127=Value.agg (tc d.t).toArray:=hS 8 127 (by decide) rfl
        have e128:val 128=Value.bool false:=hS 9 128 (by decide) rfl
        have e129:val 129=Value.bool false:=hS 10 129 (by decide) rfl
        have e130:val 130=Value.bool false:=hS 11 130 (by decide) rfl
        have e131:val 131=Value.bool false:=hS 12 131 (by decide) rfl
        have e132:val 132=Value.int .i64 0:=hS 13 132 (by decide) rfl
        have e133:val 133=Value.bool false:=hS 14 133 (by decide) rfl
        have e134:val 134=Value.bool false:=hS 15 134 (by decide) rfl
        have e135:val 135=undef:=hS 16 135 (by decide) rfl
        have e136:val 136=undef:=hS 17 136 (by decide) rfl
        have e137:val 137=undef:=hS 18 137 (by decide) rfl
        have e138:val 138=undef:=hS 19 138 (by decide) rfl
        have e139:val 139=Value.bool false:=hS 20 139 (by decide) rfl
        have e140:val 140=Value.bool false:=hS 21 140 (by decide) rfl
        simp only [putVals,List.foldl_cons,List.foldl_nil,List.drop_succ_cons,List.drop_zero,Act.put,List.setIfInBounds_toArray,List.set_cons_succ,List.set_cons_zero,e119,e120,e121,e122,e123,e124,e125,e126,e127,e128,e129,e130,e131,e132,e133,e134,e135,e136,e137,e138,e139,e140]
        clear e119 e120 e121 e122 e123 e124 e125 e126 e127 e128 e129 e130 e131 e132 e133 e134 e135 e136 e137 e138 e139 e140 hS
        have hOx:=hO9.next hw
        clear hO9 hw
        go_wp2
        go_roundw
        case rel=>exact ⟨k+1,L1,X,hk1,by go_num,hOx⟩
        case measure=>simp [intOf];omega
      by_cases hk2':d.kind=2
      ·rw [hk2'] at y0
       clear hk1' hk2'
       go_upto_region 35 with (first
        | (go_at_call 9;refine (len_any p L.length c7 A7 _ d70 d71).mono ?_;rintro e w8 ⟨rfl,rfl⟩)
        | (go_at_call 17;refine (draw_any F p L X d.num W7 hC7 hL39 (by omega)).mono ?_;rintro e w8 ⟨n1,q1,L1,rfl,hR1,hC8,hG8⟩))
       have b108:=(hB10w.chg hG8 hn4F).cell (i:=0) rfl
       have hO8:OS (fun b=>s0≤b∧b≠s4∧b≠s4+1∧b≠s4+2) p (k+1) L1 X W6 w8:=OS.step hch7 (by have:=drawR_len hR1;omega) (by omega) hF7 hC8 hG8 hok7
       obtain ⟨A9,c9,AX9,cX9,d90,d91,_⟩:=hC8.cells
       have hcs:=drawR_cases hR1
       clear hR1 hC8 hG8 hB7 hb7 hC7 hF hF7 hok7 y0 y1 y2 y3 y4 y5 d70 d71 hNA hNF b10 hB10w hch7
       rcases hcs with rfl|rfl|⟨rfl,rfl,hl1⟩
       ·go_wp2
        go_roundw
        case rel=>exact ⟨k+1,L1,X,hk1,by go_num,hO8⟩
        case measure=>simp [intOf];omega
       ·go_wp2
        go_roundw
        case rel=>exact ⟨k+1,L1,X,hk1,by go_num,hO8⟩
        case measure=>simp [intOf];omega
       ·have hw1:IntKind.i64.wrap ((L.length:Int)+1)=(L.length:Int)+1:=IntWalk.i64_in _ ⟨by omega,by omega⟩
        go_wp2_with (go_at_call 9;refine (len_any p L1.length c9 A9 _ d90 d91).mono ?_;rintro e w9 ⟨rfl,rfl⟩;rw [hl1])
        go_roundw
        case rel=>exact ⟨k+1,L1,X,hk1,by go_num,hO8⟩
        case measure=>simp [intOf];omega
      ·have e1:(d.kind==(1:Int))=false:=beq_false_of_ne hk1'
       have e2:(d.kind==(2:Int))=false:=beq_false_of_ne hk2'
       have e1':decide (d.kind=1)=false:=decide_eq_false hk1'
       have e2':decide (d.kind=2)=false:=decide_eq_false hk2'
       clear hk1' hk2'
       go_upto_region 26 with (first
        | (go_at_call 9;refine (len_any p L.length c7 A7 _ d70 d71).mono ?_;rintro e w8 ⟨rfl,rfl⟩)
        | (go_at_call 18;refine (text_any F p L X d.A d.c d.x W7 hC7 hdx hx2 hNA hNF hL39 (by omega)).mono ?_;rintro e w8 ⟨n1,L1,X1,rfl,hR1,hC8,hG8⟩;obtain ⟨j1,i1,hj1,hi1,rfl⟩:=textR_at hR1;have b108:=(hB10w.chg hG8 hn4F).cell (i:=0) rfl)
        | (go_at_call 12;refine (bytes_yes _ p L1 X1 i1 j1 d.x w8 hC8 hi1 hj1).mono ?_;rintro e w9 ⟨A1,c1x,rfl,hb9,hN1⟩))
       have hO9:OS (fun b=>s0≤b∧b≠s4∧b≠s4+1∧b≠s4+2) p (k+1) L1 X1 W6 w9:=(OS.step hch7 (by have:=(textR_len hR1).1;omega) (by have:=(textR_len hR1).2;omega) hF7 hC8 hG8 hok7).next hb9
       have y59:=((hB7.chg hG8 hnbF).next hb9).cell (i:=5) rfl
       have hNA8:Nums w8 .u8 d.A d.x:=fun hp=>nums_chg hNA hG8 (fun g o sp e hb=>hNF hp g o sp e hb) hp
       have hNA9:=hNA8.below hb9
       have hx4:d.x.length≤4096:=by omega
       clear hR1 hC8 hG8 b108 hB7 hb7 hC7 hF hF7 hok7 y0 y1 y2 y3 y4 y5 d70 d71 hNA hNF b10 hB10w hch7 hb9
       go_wp2_with (go_at_call 13;refine (rsame_any A1 d.A d.x.length d.x.length c1x d.c d.x d.x true _ hx4 rfl rfl (decide_eq_true rfl) hN1 hNA9).mono ?_;rintro e w10 ⟨rfl,hb10⟩)
       go_roundw
       case rel=>exact ⟨k+1,L1,X1,hk1,by go_num,hO9.next hb10⟩
       case measure=>simp [intOf];omega
     ·have hge:¬(k:Int)<n:=by omega
      have e:k=n:=by omega
      subst e
      have h30:L.length≤30:=Nat.le_trans hO.nL hn30
      obtain ⟨F,hCr,hFr⟩:=hO.code
      obtain ⟨AT,cT,c0,c1,hAT,hATb⟩:=hCr.box
      have hF1:∀b,F b→b≠s4+1:=fun b hf=>(hFr b hf).2.2.2.1
      have b10:=(hB10.chg hO.chg (by omega)).cell (i:=0) rfl
      have hB11r:=hB11.chg hO.chg (by omega)
      have hMr:=map_chg hM6 hO.chg (fun h=>h.2.2.1 rfl)
      have hB2r:=hB2.chg hO.chg (by omega)
      have hK1r:wr.heap[D1]? = some (.deferred (some [])):=(hO.chg.block D1 (Array.getElem?_eq_some_iff.1 hK6.2.2).1 (fun e=>by have:=hK6.1;have:=e.1;omega)).trans hK6.2.2
      have hwr:Below w.heap.size w wr:=h6w.trans h6b
      have hB10r:=hB10.chg hO.chg (by omega)
      have hs6r:=hO.chg.size
      clear hk hlt hx100 HF HN hA6 hB10 hB11 hM6 hB2 h6w hO h6r h6b
      go_upto_region 38 with (fail)
      refine (wpIn_wide (n:=5)).1 ?_
      gi_wp2_with (refine ⟨trivial,?_⟩;gi_at_call 10;refine (callsIn_wide.2 (all_any p L.length cT AT _ c0 c1)).mono ?_;rintro e wc ⟨rfl,hBx,hbc⟩)
      refine (wpIn_wide (n:=5)).1 ?_
      gi_step
      refine withAct fun aa haa=>?_
      obtain ⟨bx,hbx⟩:∃t,wr.heap.size=t:=⟨_,rfl⟩
      have hL40:L.length≤40:=by omega
      have hCc:=hCr.next hbc
      have hMc:=map_next hMr hbc
      have hAc:=tcells_of (hAT.below hbc)
      have hbxc:=hBx.cell (i:=0) rfl
      have b10c:=hB10r.next hbc
      have hB11c:=hB11r.next hbc
      have hB2c:=hB2r.next hbc
      have hK1c:wc.heap[D1]? = some (.deferred (some [])):=(hbc.block D1 (Array.getElem?_eq_some_iff.1 hK1r).1).trans hK1r
      have hwc2:Below w.heap.size w wc:=hwr.trans (Below.mono hbc hwr.size)
      rw [hbx] at haa hbxc
      have hATc:∀b,AT.map (·.block)=some b→b<wc.heap.size∧b≠s4+1:=fun b e=>⟨Nat.lt_of_lt_of_le (hATb b e).1 hbc.size,hF1 b (hATb b e).2⟩
      have hmpl:s4+1<wc.heap.size:=hMc.lt
      obtain ⟨nx,DN,DI,hP⟩:=hCr.pure
      clear hbx c0 c1 hAT hATb hBx hbc hMr hB11r hB2r hK1r b10 hCr hFr
      refine wpIn_rangeFunc_ownH (F:=Fence.wide) rfl (by omega) (gf:=23) (lb:=#[.pointer (some ⟨bx,0,none⟩)]) (by rw [haa];rfl) trivial (enters_of Try.func23 (by kernel_rfl) rfl)
       (encs:=encT L) (Kp:=KpG (AT.map (·.block))) (S:=fun xs=>xs.length=L.length∧upTo xs) (Sp:=upTo) (N:=L.length) (w0:=wc)
       (fun l J Jx W hW hJ _ hY h0=>callsIn_wide.2 (all1_in 4 (by omega) l bx cT AT L J Jx W hL40 hJ hY (cellB hbxc hW) (hAc.next hW) h0))
       (fun h k=>KpG.t h k) (fun W l o o' hl _ _ _=>KpG.b (n:=wc.heap.size) (fun b e=>(hATc b e).1) W l o o' hl) (Below.refl _ _) (fun _=>rfl)
       (OnceR (s4+1) L wc) (fun _ pre _=>¬upTo pre)
       (OnceR.own (Nat.le_refl _)) (fun _=>ownFrom_pure _ _) ⟨Chg.refl _ _,⟨_,hMc,fun t _ hh=>by cases hh⟩,hmpl⟩
       (AxP aa wc L 167 168 25 26) (fun x a'=>AxP.own x a') ?_ ?_ ?_ ?_
      ·intro l pre x W K hI hK
       obtain ⟨W7,hW7,y0,y1,y2,hb7,hB7⟩:=term_world (L[x.val]'x.2) W
       have HW7:=hid hW7
       have HB7:=hid hB7
       clear hW7 hB7
       subst haa
       unfold encT tv
       gi_upto_region 40 with (fail)
       gi_wp2
       rw [HW7.out]
       exact hK _ _ (keeps_chg (Chg.of hb7 (fun _=>False)) (fun _ e=>e.elim)) (fun b e=>hb7.block b (by have:=(hATc b e).1;have:=hI.chg.size;omega)) (hI.next hb7) ⟨_,hI.chg.size,HB7.out,rfl⟩
      ·rintro l pre ⟨i,hil⟩ a' W hl hrec hR ⟨b,hb,hBk,rfl⟩ hN
       subst haa
       obtain ⟨t,htt⟩:∃t,L[i]'hil=t:=⟨_,rfl⟩
       dsimp only at hBk ⊢
       rw [htt] at hBk ⊢
       simp only [List.setIfInBounds_toArray,List.set_cons_succ,List.set_cons_zero]
       have hLi:L[i]? = some t:=by rw [←htt];simp [hil]
       obtain ⟨hT,hWF⟩:=hP.wf i t hLi
       obtain ⟨DM,hM,hDM⟩:=hR.map
       obtain ⟨v,hlk,hvt⟩:=look_bool hM hT
       have hnd:v=true→¬upTo (pre++[(⟨i,hil⟩:Fin L.length)]):=fun e hu=>by
        obtain ⟨x,hx,hxx⟩:=hDM t hT (hvt e)
        refine upTo_mem hu hx (hP.nd x.val i t ?_ hLi)
        rw [←hxx];simp
       have b11:=(hB11c.chg hR.chg (by omega)).cell (i:=0) rfl
       have hb2W:=hB2c.chg hR.chg (by have:=hK6.1;omega)
       have x0:=hBk.cell (i:=0) rfl
       have x1:=hBk.cell (i:=1) rfl
       have x2:=hBk.cell (i:=2) rfl
       have c2:=hb2W.cell (i:=0) rfl
       have f2:=hb2W.free 0
       have hwl:w.heap.size<wc.heap.size:=hB2c.lt
       gi_upto_region 41 with (fail)
       refine region_roundL rfl (fun h=>by obtain ⟨_,_,h⟩:=h;exact h) ?_
       go_wp2
       cases v with
       | true =>
         have hno:=hnd rfl
         clear hlk hvt hnd
         gi_wp2
         exact ⟨keeps_chg (G:=fun b=>b=w.heap.size) ((Chg.of (Below.refl W.heap.size W) (fun b=>b=w.heap.size)).setCell (p:=⟨w.heap.size,0,none⟩) (.inl rfl) _) (fun b e=>by omega),hno⟩
       | false =>
         clear hlk hvt hnd c2 f2
         have hnlt:pre.length<maxLen:=by unfold maxLen;omega
         have hpe:=plainElem_bool (H:=Unit) Try.underlying4 true
         gi_upto_region 43 with (fail)
         refine region_roundL rfl (fun h=>by obtain ⟨_,_,h⟩:=h;exact h) ?_
         go_wp2_with (at_mapUpdate;refine wpList_mapUpdate_own _ rfl _ _ _ 53 rfl 33 4 lawT Try.underlying53 _ (s4+1) pre.length DM rfl hM hnlt _ _ (tk t) rfl rfl (key_of t hT) (.lit (.bool true)) [] hpe ?_;intro W9 hM9 hg9)
         have hR9:OnceR (s4+1) L wc (pre++[(⟨i,hil⟩:Fin L.length)]) W9:=OnceR.step hR.chg hR.lt hil htt hT hDM hM9 hg9
         have hbb:b≠s4+1:=by omega
         have hBk9:Blk W9 b 33 (tc t):=hBk.same (hg9.block b hBk.lt (fun e=>hbb (by injection e)))
         have b109:=(b10c.chg hR9.chg (by omega)).cell (i:=0) rfl
         have y0:=hBk9.cell (i:=0) rfl
         have y1:=hBk9.cell (i:=1) rfl
         have y2:=hBk9.cell (i:=2) rfl
         have hi0:(0:Int)≤i:=by omega
         have hC9:CS F W9 p L X:=hCc.chg hR9.chg (fun b hf e=>hF1 b hf e)
         have hz:=hP.zv i t hLi
         have hs1:∀z ∈ szsOf L,1≤z:=fun z h=>(szsOf_bd L z h).1
         have hgrow:=fun h1 h2 h3=>sz_grows (L:=L) (t:=t) h1 h2 hWF hs1 (Nat.le_of_lt hil) h3
         obtain ⟨r,hr⟩:∃r,szOf (szsOf L) t=r:=⟨_,rfl⟩
         obtain ⟨ra,hra⟩:∃r,(szsOf L).getD t.2.1.toNat 0=r:=⟨_,rfl⟩
         rw [hr] at hz hgrow
         rw [hra] at hgrow
         have hsi:∀ww,Below W9.heap.size W9 ww→Calls Try.prog 14 #[.pointer (some ⟨p,0,none⟩),.int .i64 i] ww fun e w'=>e=.returned (.int .i64 r)∧Below ww.heap.size ww w':=fun ww h=>calls_q (sizeN_yes _ p L X i r ww (hC9.next h) hz)
         have hsa:0≤t.2.1→t.2.1<i→∀ww,Below W9.heap.size W9 ww→Calls Try.prog 14 #[.pointer (some ⟨p,0,none⟩),.int .i64 t.2.1] ww fun e w'=>e=.returned (.int .i64 ra)∧Below ww.heap.size ww w':=fun h0 h1 ww h=>by
          have h2:t.2.1.toNat<(szsOf L).length:=by rw [szsOf_length];omega
          have h3:(szsOf L)[t.2.1.toNat]? = some ra:=by rw [←hra,List.getD_eq_getElem?_getD,List.getElem?_eq_getElem h2];rfl
          have h4:=calls_q (sizeN_yes _ p L X t.2.1.toNat ra ww (hC9.next h) h3)
          rw [Int.toNat_of_nonneg h0] at h4
          exact h4
         have hpost:∀W12,Below W9.heap.size W9 W12→KeepsFrom wc.heap.size W W12∧KpG (AT.map (·.block)) W W12∧OnceR (s4+1) L wc (pre++[(⟨i,hil⟩:Fin L.length)]) W12:=fun W12 h=>by
          have hc:Chg (fun b=>b=s4+1) W W12:=((Chg.refl _ W).grown hg9 (fun g e=>.inl (by cases e;rfl))).next h
          refine ⟨keeps_chg hc (fun b e=>by have:=hR.lt;omega),fun b e=>hc.block b ?_ (hATc b e).2,hR9.next h⟩
          have:=(hATc b e).1
          have:=hR.chg.size
          omega
         clear hM9 hg9 hR9 hBk9 hC9 hz hr hra hs1 hpe hnlt hM hDM b11 x0 x1 x2 hBk hb2W hLi htt hrec hl
         gi_upto_region 44 with (fail)
         rcases hWF with ⟨hk,_⟩|⟨hk,ha0,ha1,_⟩|⟨hk,ha0,ha1,hb0,hb1⟩|⟨hk,_⟩
         ·refine region_round 50 225 (fun _=>false) [Is (Value.pointer (some ⟨b,0,none⟩)),Is (Value.int .i64 t.1),Is (Value.bool false),Is (Value.bool false),Is (undef),Is (undef),Is (undef),Is (Value.bool false),Is (Value.bool false),Is (undef),Is (undef),Is (undef),Is (undef),Is (undef),Is (undef),Is (undef),Is (undef),Is (undef),Is (undef),Is (undef),Is (undef),Is (undef),Is (undef),Is (undef),Is (undef),Is (undef),Is (undef),Is (undef),Is (undef),Is (Value.bool false),Is (Value.bool false),Is (Value.pointer (some ⟨b,0,none⟩)),Is (Value.int .i64 t.1),Is (Value.bool false),Is (Value.bool false),Is (Value.pointer (some ⟨b,0,none⟩)),Is (Value.int .i64 t.1),Is (Value.bool false),Is (Value.bool false),Is (Value.bool false),Is (Value.pointer (some ⟨b,0,none⟩)),Is (Value.int .i64 t.1),Is (Value.bool false),Is (Value.bool false),Is (Value.bool false),Is (undef),Is (undef),Is (undef),Is (undef),Is (Value.bool false)] [174,175,176,177,178,179,180,181,182,183,184,185,186,187,188,189,190,191,192,193,194,195,196,197,198,199,200,201,202,203,204,205,206,207,208,209,210,211,212,213,214,215,216,217,218,219,220,221,222,223] (by kernel_rfl) (by kernel_rfl) (by kernel_rfl) (Nat.le_of_eq rfl) rfl (fun h=>by obtain ⟨_,_,h⟩:=h;exact h) (grows_cons (Is.grows _) (grows_cons (Is.grows _) (grows_cons (Is.grows _) (grows_cons (Is.grows _) (grows_cons (Is.grows _) (grows_cons (Is.grows _) (grows_cons (Is.grows _) (grows_cons (Is.grows _) (grows_cons (Is.grows _) (grows_cons (Is.grows _) (grows_cons (Is.grows _) (grows_cons (Is.grows _) (grows_cons (Is.grows _) (grows_cons (Is.grows _) (grows_cons (Is.grows _) (grows_cons (Is.grows _) (grows_cons (Is.grows _) (grows_cons (Is.grows _) (grows_cons (Is.grows _) (grows_cons (Is.grows _) (grows_cons (Is.grows _) (grows_cons (Is.grows _) (grows_cons (Is.grows _) (grows_cons (Is.grows _) (grows_cons (Is.grows _) (grows_cons (Is.grows _) (grows_cons (Is.grows _) (grows_cons (Is.grows _) (grows_cons (Is.grows _) (grows_cons (Is.grows _) (grows_cons (Is.grows _) (grows_cons (Is.grows _) (grows_cons (Is.grows _) (grows_cons (Is.grows _) (grows_cons (Is.grows _) (grows_cons (Is.grows _) (grows_cons (Is.grows _) (grows_cons (Is.grows _) (grows_cons (Is.grows _) (grows_cons (Is.grows _) (grows_cons (Is.grows _) (grows_cons (Is.grows _) (grows_cons (Is.grows _) (grows_cons (Is.grows _) (grows_cons (Is.grows _) (grows_cons (Is.grows _) (grows_cons (Is.grows _) (grows_cons (Is.grows _) (grows_cons (Is.grows _) (grows_cons (Is.grows _) grows_nil))))))))))))))))))))))))))))))))))))))))))))))))))
           ⟨(step_ex _ rfl (.inl rfl) rfl (fun a ww hw hf hd=>by
           have h26:a.eval (.tmp 26)=Value.pointer (some ⟨b,0,none⟩):=((knows_out 26 (by kernel_rfl) rfl):Knows _ _ _ _ _ _ 0 _ _) a ww hw hf hd
           revert h26
           generalize a.eval=ev
           intro h26
           unfold execOp
           simp only [h26]
           go_simp)),
            (step_ex _ rfl (.inl rfl) rfl (fun a ww hw hf hd=>by
           have h174:a.eval (.tmp 174)=Value.pointer (some ⟨b,0,none⟩):=((knows_in 0 174 (by decide) (by kernel_rfl) rfl rfl):Knows _ _ _ _ _ _ 1 _ _) a ww hw hf hd
           have f0:=cellB y0 hw
           revert h174
           generalize a.eval=ev
           intro h174
           unfold execOp
           simp only [h174]
           go_simp)),
            (step_ex _ rfl (.inl rfl) rfl (fun a ww hw hf hd=>by
           have h175:a.eval (.tmp 175)=Value.int .i64 t.1:=((knows_in 1 175 (by decide) (by kernel_rfl) rfl rfl):Knows _ _ _ _ _ _ 2 _ _) a ww hw hf hd
           have f0:=(show t.1=1 by omega)
           have hc:=ec a
           revert hc h175
           generalize a.eval=ev
           intro hc h175
           unfold execOp
           simp only [hc,h175]
           go_simp)),
            (step_ex _ rfl (.inl rfl) rfl (fun a ww hw hf hd=>by
           have h176:a.eval (.tmp 176)=Value.bool false:=((knows_in 2 176 (by decide) (by kernel_rfl) rfl rfl):Knows _ _ _ _ _ _ 3 _ _) a ww hw hf hd
           revert h176
           generalize a.eval=ev
           intro h176
           unfold execOp
           simp only [h176]
           go_simp)),
            (step_off rfl ⟨3,true,177,rfl,by decide,by kernel_rfl,rfl,fun _ _ h=>.inl h⟩ (fun _=>rfl)),
            (step_off rfl ⟨3,true,177,rfl,by decide,by kernel_rfl,rfl,fun _ _ h=>.inl h⟩ (fun _=>rfl)),
            (step_off rfl ⟨3,true,177,rfl,by decide,by kernel_rfl,rfl,fun _ _ h=>.inl h⟩ (fun _=>rfl)),
            (step_ex _ rfl (.inl rfl) rfl (fun a ww hw hf hd=>by
           have h177:a.eval (.tmp 177)=Value.bool false:=((knows_in 3 177 (by decide) (by kernel_rfl) rfl rfl):Knows _ _ _ _ _ _ 7 _ _) a ww hw hf hd
           have hc:=ec a
           revert hc h177
           generalize a.eval=ev
           intro hc h177
           unfold execOp
           simp only [hc,h177]
           go_simp)),
            (step_ex _ rfl (.inl rfl) rfl (fun a ww hw hf hd=>by
           have h181:a.eval (.tmp 181)=Value.bool false:=((knows_in 7 181 (by decide) (by kernel_rfl) rfl rfl):Knows _ _ _ _ _ _ 8 _ _) a ww hw hf hd
           revert h181
           generalize a.eval=ev
           intro h181
           unfold execOp
           simp only [h181]
           go_simp)),
            (step_off rfl ⟨8,true,182,rfl,by decide,by kernel_rfl,rfl,fun _ _ h=>.inl h⟩ (fun _=>rfl)),
            (step_off rfl ⟨8,true,182,rfl,by decide,by kernel_rfl,rfl,fun _ _ h=>.inl h⟩ (fun _=>rfl)),
            (step_off rfl ⟨8,true,182,rfl,by decide,by kernel_rfl,rfl,fun _ _ h=>.inl h⟩ (fun _=>rfl)),
            (step_off rfl ⟨8,true,182,rfl,by decide,by kernel_rfl,rfl,fun _ _ h=>.inl h⟩ (fun _=>rfl)),
            (step_off rfl ⟨8,true,182,rfl,by decide,by kernel_rfl,rfl,fun _ _ h=>.inl h⟩ (fun _=>rfl)),
            (step_off rfl ⟨13,false,187,rfl,by decide,by kernel_rfl,rfl,fun _ _ h=>.inr h⟩ (fun _=>rfl)),
            (step_off rfl ⟨13,false,187,rfl,by decide,by kernel_rfl,rfl,fun _ _ h=>.inr h⟩ (fun _=>rfl)),
            (step_off rfl ⟨13,false,187,rfl,by decide,by kernel_rfl,rfl,fun _ _ h=>.inr h⟩ (fun _=>rfl)),
            (step_off rfl ⟨13,false,187,rfl,by decide,by kernel_rfl,rfl,fun _ _ h=>.inr h⟩ (fun _=>rfl)),
            (step_off rfl ⟨13,false,187,rfl,by decide,by kernel_rfl,rfl,fun _ _ h=>.inr h⟩ (fun _=>rfl)),
            (step_off rfl ⟨18,true,192,rfl,by decide,by kernel_rfl,rfl,fun _ _ h=>.inr h⟩ (fun _=>rfl)),
            (step_off rfl ⟨18,true,192,rfl,by decide,by kernel_rfl,rfl,fun _ _ h=>.inr h⟩ (fun _=>rfl)),
            (step_off rfl ⟨18,true,192,rfl,by decide,by kernel_rfl,rfl,fun _ _ h=>.inr h⟩ (fun _=>rfl)),
            (step_off rfl ⟨18,true,192,rfl,by decide,by kernel_rfl,rfl,fun _ _ h=>.inr h⟩ (fun _=>rfl)),
            (step_off rfl ⟨18,true,192,rfl,by decide,by kernel_rfl,rfl,fun _ _ h=>.inr h⟩ (fun _=>rfl)),
            (step_off rfl ⟨18,true,192,rfl,by decide,by kernel_rfl,rfl,fun _ _ h=>.inr h⟩ (fun _=>rfl)),
            (step_off rfl ⟨18,true,192,rfl,by decide,by kernel_rfl,rfl,fun _ _ h=>.inr h⟩ (fun _=>rfl)),
            (step_off rfl ⟨18,true,192,rfl,by decide,by kernel_rfl,rfl,fun _ _ h=>.inr h⟩ (fun _=>rfl)),
            (step_off rfl ⟨13,false,187,rfl,by decide,by kernel_rfl,rfl,fun _ _ h=>.inr h⟩ (fun _=>rfl)),
            (step_off rfl ⟨8,true,182,rfl,by decide,by kernel_rfl,rfl,fun _ _ h=>.inl h⟩ (fun _=>rfl)),
            (step_ex _ rfl (.inl rfl) rfl (fun a ww hw hf hd=>by
           have h182:a.eval (.tmp 182)=Value.bool false:=((knows_in 8 182 (by decide) (by kernel_rfl) rfl rfl):Knows _ _ _ _ _ _ 29 _ _) a ww hw hf hd
           have hc:=ec a
           revert hc h182
           generalize a.eval=ev
           intro hc h182
           unfold execOp
           simp only [hc,h182]
           go_simp)),
            (step_ex _ rfl (.inl rfl) rfl (fun a ww hw hf hd=>by
           have h203:a.eval (.tmp 203)=Value.bool false:=((knows_in 29 203 (by decide) (by kernel_rfl) rfl rfl):Knows _ _ _ _ _ _ 30 _ _) a ww hw hf hd
           revert h203
           generalize a.eval=ev
           intro h203
           unfold execOp
           simp only [h203]
           go_simp)),
            (step_ex _ rfl (.inr ⟨30,false,204,rfl,by decide,by kernel_rfl,rfl,fun _ _ h=>h⟩) rfl (fun a ww hw hf hd=>by
           have h26:a.eval (.tmp 26)=Value.pointer (some ⟨b,0,none⟩):=((knows_out 26 (by kernel_rfl) rfl):Knows _ _ _ _ _ _ 31 _ _) a ww hw hf hd
           revert h26
           generalize a.eval=ev
           intro h26
           unfold execOp
           simp only [h26]
           go_simp)),
            (step_ex _ rfl (.inr ⟨30,false,204,rfl,by decide,by kernel_rfl,rfl,fun _ _ h=>h⟩) rfl (fun a ww hw hf hd=>by
           have h205:a.eval (.tmp 205)=Value.pointer (some ⟨b,0,none⟩):=((knows_in 31 205 (by decide) (by kernel_rfl) rfl rfl):Knows _ _ _ _ _ _ 32 _ _) a ww hw hf hd
           have f0:=cellB y0 hw
           revert h205
           generalize a.eval=ev
           intro h205
           unfold execOp
           simp only [h205]
           go_simp)),
            (step_ex _ rfl (.inr ⟨30,false,204,rfl,by decide,by kernel_rfl,rfl,fun _ _ h=>h⟩) rfl (fun a ww hw hf hd=>by
           have h206:a.eval (.tmp 206)=Value.int .i64 t.1:=((knows_in 32 206 (by decide) (by kernel_rfl) rfl rfl):Knows _ _ _ _ _ _ 33 _ _) a ww hw hf hd
           have f0:=(show ¬t.1=4 by omega)
           have hc:=ec a
           revert hc h206
           generalize a.eval=ev
           intro hc h206
           unfold execOp
           simp only [hc,h206]
           go_simp)),
            (step_ex _ rfl (.inr ⟨30,false,204,rfl,by decide,by kernel_rfl,rfl,fun _ _ h=>h⟩) rfl (fun a ww hw hf hd=>by
           have h207:a.eval (.tmp 207)=Value.bool false:=((knows_in 33 207 (by decide) (by kernel_rfl) rfl rfl):Knows _ _ _ _ _ _ 34 _ _) a ww hw hf hd
           revert h207
           generalize a.eval=ev
           intro h207
           unfold execOp
           simp only [h207]
           go_simp)),
            (step_ex _ rfl (.inr ⟨34,false,208,rfl,by decide,by kernel_rfl,rfl,fun _ _ h=>h⟩) rfl (fun a ww hw hf hd=>by
           have h26:a.eval (.tmp 26)=Value.pointer (some ⟨b,0,none⟩):=((knows_out 26 (by kernel_rfl) rfl):Knows _ _ _ _ _ _ 35 _ _) a ww hw hf hd
           revert h26
           generalize a.eval=ev
           intro h26
           unfold execOp
           simp only [h26]
           go_simp)),
            (step_ex _ rfl (.inr ⟨34,false,208,rfl,by decide,by kernel_rfl,rfl,fun _ _ h=>h⟩) rfl (fun a ww hw hf hd=>by
           have h209:a.eval (.tmp 209)=Value.pointer (some ⟨b,0,none⟩):=((knows_in 35 209 (by decide) (by kernel_rfl) rfl rfl):Knows _ _ _ _ _ _ 36 _ _) a ww hw hf hd
           have f0:=cellB y0 hw
           revert h209
           generalize a.eval=ev
           intro h209
           unfold execOp
           simp only [h209]
           go_simp)),
            (step_ex _ rfl (.inr ⟨34,false,208,rfl,by decide,by kernel_rfl,rfl,fun _ _ h=>h⟩) rfl (fun a ww hw hf hd=>by
           have h210:a.eval (.tmp 210)=Value.int .i64 t.1:=((knows_in 36 210 (by decide) (by kernel_rfl) rfl rfl):Knows _ _ _ _ _ _ 37 _ _) a ww hw hf hd
           have f0:=(show ¬t.1=5 by omega)
           have hc:=ec a
           revert hc h210
           generalize a.eval=ev
           intro hc h210
           unfold execOp
           simp only [hc,h210]
           go_simp)),
            (step_ex _ rfl (.inr ⟨30,false,204,rfl,by decide,by kernel_rfl,rfl,fun _ _ h=>h⟩) rfl (fun a ww hw hf hd=>by
           have h208:a.eval (.tmp 208)=Value.bool false:=((knows_in 34 208 (by decide) (by kernel_rfl) rfl rfl):Knows _ _ _ _ _ _ 38 _ _) a ww hw hf hd
           have h211:a.eval (.tmp 211)=Value.bool false:=((knows_in 37 211 (by decide) (by kernel_rfl) rfl rfl):Knows _ _ _ _ _ _ 38 _ _) a ww hw hf hd
           have hc:=ec a
           revert hc h208 h211
           generalize a.eval=ev
           intro hc h208 h211
           unfold execOp
           simp only [hc,h208,h211]
           go_simp)),
            (step_ex _ rfl (.inr ⟨30,false,204,rfl,by decide,by kernel_rfl,rfl,fun _ _ h=>h⟩) rfl (fun a ww hw hf hd=>by
           have h212:a.eval (.tmp 212)=Value.bool false:=((knows_in 38 212 (by decide) (by kernel_rfl) rfl rfl):Knows _ _ _ _ _ _ 39 _ _) a ww hw hf hd
           revert h212
           generalize a.eval=ev
           intro h212
           unfold execOp
           simp only [h212]
           go_simp)),
            (step_ex _ rfl (.inr ⟨39,false,213,rfl,by decide,by kernel_rfl,rfl,fun _ _ h=>h⟩) rfl (fun a ww hw hf hd=>by
           have h26:a.eval (.tmp 26)=Value.pointer (some ⟨b,0,none⟩):=((knows_out 26 (by kernel_rfl) rfl):Knows _ _ _ _ _ _ 40 _ _) a ww hw hf hd
           revert h26
           generalize a.eval=ev
           intro h26
           unfold execOp
           simp only [h26]
           go_simp)),
            (step_ex _ rfl (.inr ⟨39,false,213,rfl,by decide,by kernel_rfl,rfl,fun _ _ h=>h⟩) rfl (fun a ww hw hf hd=>by
           have h214:a.eval (.tmp 214)=Value.pointer (some ⟨b,0,none⟩):=((knows_in 40 214 (by decide) (by kernel_rfl) rfl rfl):Knows _ _ _ _ _ _ 41 _ _) a ww hw hf hd
           have f0:=cellB y0 hw
           revert h214
           generalize a.eval=ev
           intro h214
           unfold execOp
           simp only [h214]
           go_simp)),
            (step_ex _ rfl (.inr ⟨39,false,213,rfl,by decide,by kernel_rfl,rfl,fun _ _ h=>h⟩) rfl (fun a ww hw hf hd=>by
           have h215:a.eval (.tmp 215)=Value.int .i64 t.1:=((knows_in 41 215 (by decide) (by kernel_rfl) rfl rfl):Knows _ _ _ _ _ _ 42 _ _) a ww hw hf hd
           have f0:=(show ¬t.1=8 by omega)
           have hc:=ec a
           revert hc h215
           generalize a.eval=ev
           intro hc h215
           unfold execOp
           simp only [hc,h215]
           go_simp)),
            (step_ex _ rfl (.inr ⟨30,false,204,rfl,by decide,by kernel_rfl,rfl,fun _ _ h=>h⟩) rfl (fun a ww hw hf hd=>by
           have h213:a.eval (.tmp 213)=Value.bool false:=((knows_in 39 213 (by decide) (by kernel_rfl) rfl rfl):Knows _ _ _ _ _ _ 43 _ _) a ww hw hf hd
           have h216:a.eval (.tmp 216)=Value.bool false:=((knows_in 42 216 (by decide) (by kernel_rfl) rfl rfl):Knows _ _ _ _ _ _ 43 _ _) a ww hw hf hd
           have hc:=ec a
           revert hc h213 h216
           generalize a.eval=ev
           intro hc h213 h216
           unfold execOp
           simp only [hc,h213,h216]
           go_simp)),
            (step_ex _ rfl (.inr ⟨30,false,204,rfl,by decide,by kernel_rfl,rfl,fun _ _ h=>h⟩) rfl (fun a ww hw hf hd=>by
           have h217:a.eval (.tmp 217)=Value.bool false:=((knows_in 43 217 (by decide) (by kernel_rfl) rfl rfl):Knows _ _ _ _ _ _ 44 _ _) a ww hw hf hd
           revert h217
           generalize a.eval=ev
           intro h217
           unfold execOp
           simp only [h217]
           go_simp)),
            (step_off rfl ⟨44,true,218,rfl,by decide,by kernel_rfl,rfl,fun _ _ h=>.inl h⟩ (fun _=>rfl)),
            (step_off rfl ⟨44,true,218,rfl,by decide,by kernel_rfl,rfl,fun _ _ h=>.inl h⟩ (fun _=>rfl)),
            (step_off rfl ⟨44,true,218,rfl,by decide,by kernel_rfl,rfl,fun _ _ h=>.inl h⟩ (fun _=>rfl)),
            (step_off rfl ⟨44,true,218,rfl,by decide,by kernel_rfl,rfl,fun _ _ h=>.inl h⟩ (fun _=>rfl)),
            (step_ex _ rfl (.inr ⟨30,false,204,rfl,by decide,by kernel_rfl,rfl,fun _ _ h=>h⟩) rfl (fun a ww hw hf hd=>by
           have h218:a.eval (.tmp 218)=Value.bool false:=((knows_in 44 218 (by decide) (by kernel_rfl) rfl rfl):Knows _ _ _ _ _ _ 49 _ _) a ww hw hf hd
           have hc:=ec a
           revert hc h218
           generalize a.eval=ev
           intro hc h218
           unfold execOp
           simp only [hc,h218]
           go_simp)),trivial⟩ ?_
          intro val W12 hw hS _ _
          have e204:val 204=Value.bool false:=hS 30 204 (by decide) rfl
          have e223:val 223=Value.bool false:=hS 49 223 (by decide) rfl
          simp only [putVals,List.foldl_cons,List.foldl_nil,List.drop_succ_cons,List.drop_zero,Act.put,List.setIfInBounds_toArray,List.set_cons_succ,List.set_cons_zero,e204,e223]
          clear e204 e223 hS
          go_wp2
          gi_wp2
          exact hpost _ hw
         ·have hsA:=hsa ha0 ha1
          by_cases hsm:r<1048576
          ·have hgr:=hgrow (by omega) (by omega) hsm
           refine region_round 50 225 (fun _=>false) [Is (Value.pointer (some ⟨b,0,none⟩)),Is (Value.int .i64 t.1),Is (Value.bool true),Is (Value.bool true),Is (Value.pointer (some ⟨b,0,none⟩)),Is (Value.int .i64 t.1),Is (Value.bool true),Is (Value.bool true),Is (Value.bool true),Is (Value.pointer (some ⟨b,1,none⟩)),Is (Value.int .i64 t.2.1),Is (Value.int .i64 i),Is (Value.bool false),Is (Value.bool false),Is (Value.pointer (some ⟨p,0,none⟩)),Is (Value.int .i64 i),Is (Value.int .i64 r),Is (Value.bool true),Is (Value.bool true),Is (Value.pointer (some ⟨p,0,none⟩)),Is (Value.pointer (some ⟨b,1,none⟩)),Is (Value.int .i64 t.2.1),Is (Value.int .i64 ra),Is (Value.pointer (some ⟨p,0,none⟩)),Is (Value.int .i64 i),Is (Value.int .i64 r),Is (Value.bool false),Is (Value.bool false),Is (Value.bool false),Is (Value.bool false),Is (Value.bool false),Is (Value.pointer (some ⟨b,0,none⟩)),Is (Value.int .i64 t.1),Is (Value.bool false),Is (Value.bool false),Is (Value.pointer (some ⟨b,0,none⟩)),Is (Value.int .i64 t.1),Is (Value.bool false),Is (Value.bool false),Is (Value.bool false),Is (Value.pointer (some ⟨b,0,none⟩)),Is (Value.int .i64 t.1),Is (Value.bool false),Is (Value.bool false),Is (Value.bool false),Is (undef),Is (undef),Is (undef),Is (undef),Is (Value.bool false)] [174,175,176,177,178,179,180,181,182,183,184,185,186,187,188,189,190,191,192,193,194,195,196,197,198,199,200,201,202,203,204,205,206,207,208,209,210,211,212,213,214,215,216,217,218,219,220,221,222,223] (by kernel_rfl) (by kernel_rfl) (by kernel_rfl) (Nat.le_of_eq rfl) rfl (fun h=>by obtain ⟨_,_,h⟩:=h;exact h) (grows_cons (Is.grows _) (grows_cons (Is.grows _) (grows_cons (Is.grows _) (grows_cons (Is.grows _) (grows_cons (Is.grows _) (grows_cons (Is.grows _) (grows_cons (Is.grows _) (grows_cons (Is.grows _) (grows_cons (Is.grows _) (grows_cons (Is.grows _) (grows_cons (Is.grows _) (grows_cons (Is.grows _) (grows_cons (Is.grows _) (grows_cons (Is.grows _) (grows_cons (Is.grows _) (grows_cons (Is.grows _) (grows_cons (Is.grows _) (grows_cons (Is.grows _) (grows_cons (Is.grows _) (grows_cons (Is.grows _) (grows_cons (Is.grows _) (grows_cons (Is.grows _) (grows_cons (Is.grows _) (grows_cons (Is.grows _) (grows_cons (Is.grows _) (grows_cons (Is.grows _) (grows_cons (Is.grows _) (grows_cons (Is.grows _) (grows_cons (Is.grows _) (grows_cons (Is.grows _) (grows_cons (Is.grows _) (grows_cons (Is.grows _) (grows_cons (Is.grows _) (grows_cons (Is.grows _) (grows_cons (Is.grows _) (grows_cons (Is.grows _) (grows_cons (Is.grows _) (grows_cons (Is.grows _) (grows_cons (Is.grows _) (grows_cons (Is.grows _) (grows_cons (Is.grows _) (grows_cons (Is.grows _) (grows_cons (Is.grows _) (grows_cons (Is.grows _) (grows_cons (Is.grows _) (grows_cons (Is.grows _) (grows_cons (Is.grows _) (grows_cons (Is.grows _) (grows_cons (Is.grows _) (grows_cons (Is.grows _) grows_nil))))))))))))))))))))))))))))))))))))))))))))))))))
            ⟨(step_ex _ rfl (.inl rfl) rfl (fun a ww hw hf hd=>by
            have h26:a.eval (.tmp 26)=Value.pointer (some ⟨b,0,none⟩):=((knows_out 26 (by kernel_rfl) rfl):Knows _ _ _ _ _ _ 0 _ _) a ww hw hf hd
            revert h26
            generalize a.eval=ev
            intro h26
            unfold execOp
            simp only [h26]
            go_simp)),
             (step_ex _ rfl (.inl rfl) rfl (fun a ww hw hf hd=>by
            have h174:a.eval (.tmp 174)=Value.pointer (some ⟨b,0,none⟩):=((knows_in 0 174 (by decide) (by kernel_rfl) rfl rfl):Knows _ _ _ _ _ _ 1 _ _) a ww hw hf hd
            have f0:=cellB y0 hw
            revert h174
            generalize a.eval=ev
            intro h174
            unfold execOp
            simp only [h174]
            go_simp)),
             (step_ex _ rfl (.inl rfl) rfl (fun a ww hw hf hd=>by
            have h175:a.eval (.tmp 175)=Value.int .i64 t.1:=((knows_in 1 175 (by decide) (by kernel_rfl) rfl rfl):Knows _ _ _ _ _ _ 2 _ _) a ww hw hf hd
            have f0:=(show ¬t.1=1 by omega)
            have hc:=ec a
            revert hc h175
            generalize a.eval=ev
            intro hc h175
            unfold execOp
            simp only [hc,h175]
            go_simp)),
             (step_ex _ rfl (.inl rfl) rfl (fun a ww hw hf hd=>by
            have h176:a.eval (.tmp 176)=Value.bool true:=((knows_in 2 176 (by decide) (by kernel_rfl) rfl rfl):Knows _ _ _ _ _ _ 3 _ _) a ww hw hf hd
            revert h176
            generalize a.eval=ev
            intro h176
            unfold execOp
            simp only [h176]
            go_simp)),
             (step_ex _ rfl (.inr ⟨3,true,177,rfl,by decide,by kernel_rfl,rfl,fun _ _ h=>h⟩) rfl (fun a ww hw hf hd=>by
            have h26:a.eval (.tmp 26)=Value.pointer (some ⟨b,0,none⟩):=((knows_out 26 (by kernel_rfl) rfl):Knows _ _ _ _ _ _ 4 _ _) a ww hw hf hd
            revert h26
            generalize a.eval=ev
            intro h26
            unfold execOp
            simp only [h26]
            go_simp)),
             (step_ex _ rfl (.inr ⟨3,true,177,rfl,by decide,by kernel_rfl,rfl,fun _ _ h=>h⟩) rfl (fun a ww hw hf hd=>by
            have h178:a.eval (.tmp 178)=Value.pointer (some ⟨b,0,none⟩):=((knows_in 4 178 (by decide) (by kernel_rfl) rfl rfl):Knows _ _ _ _ _ _ 5 _ _) a ww hw hf hd
            have f0:=cellB y0 hw
            revert h178
            generalize a.eval=ev
            intro h178
            unfold execOp
            simp only [h178]
            go_simp)),
             (step_ex _ rfl (.inr ⟨3,true,177,rfl,by decide,by kernel_rfl,rfl,fun _ _ h=>h⟩) rfl (fun a ww hw hf hd=>by
            have h179:a.eval (.tmp 179)=Value.int .i64 t.1:=((knows_in 5 179 (by decide) (by kernel_rfl) rfl rfl):Knows _ _ _ _ _ _ 6 _ _) a ww hw hf hd
            have f0:=(show ¬t.1=9 by omega)
            have hc:=ec a
            revert hc h179
            generalize a.eval=ev
            intro hc h179
            unfold execOp
            simp only [hc,h179]
            go_simp)),
             (step_ex _ rfl (.inl rfl) rfl (fun a ww hw hf hd=>by
            have h177:a.eval (.tmp 177)=Value.bool true:=((knows_in 3 177 (by decide) (by kernel_rfl) rfl rfl):Knows _ _ _ _ _ _ 7 _ _) a ww hw hf hd
            have h180:a.eval (.tmp 180)=Value.bool true:=((knows_in 6 180 (by decide) (by kernel_rfl) rfl rfl):Knows _ _ _ _ _ _ 7 _ _) a ww hw hf hd
            have hc:=ec a
            revert hc h177 h180
            generalize a.eval=ev
            intro hc h177 h180
            unfold execOp
            simp only [hc,h177,h180]
            go_simp)),
             (step_ex _ rfl (.inl rfl) rfl (fun a ww hw hf hd=>by
            have h181:a.eval (.tmp 181)=Value.bool true:=((knows_in 7 181 (by decide) (by kernel_rfl) rfl rfl):Knows _ _ _ _ _ _ 8 _ _) a ww hw hf hd
            revert h181
            generalize a.eval=ev
            intro h181
            unfold execOp
            simp only [h181]
            go_simp)),
             (step_ex _ rfl (.inr ⟨8,true,182,rfl,by decide,by kernel_rfl,rfl,fun _ _ h=>h⟩) rfl (fun a ww hw hf hd=>by
            have h26:a.eval (.tmp 26)=Value.pointer (some ⟨b,0,none⟩):=((knows_out 26 (by kernel_rfl) rfl):Knows _ _ _ _ _ _ 9 _ _) a ww hw hf hd
            revert h26
            generalize a.eval=ev
            intro h26
            unfold execOp
            simp only [h26]
            go_simp)),
             (step_ex _ rfl (.inr ⟨8,true,182,rfl,by decide,by kernel_rfl,rfl,fun _ _ h=>h⟩) rfl (fun a ww hw hf hd=>by
            have h183:a.eval (.tmp 183)=Value.pointer (some ⟨b,1,none⟩):=((knows_in 9 183 (by decide) (by kernel_rfl) rfl rfl):Knows _ _ _ _ _ _ 10 _ _) a ww hw hf hd
            have f0:=cellB y1 hw
            revert h183
            generalize a.eval=ev
            intro h183
            unfold execOp
            simp only [h183]
            go_simp)),
             (step_ex _ rfl (.inr ⟨8,true,182,rfl,by decide,by kernel_rfl,rfl,fun _ _ h=>h⟩) rfl (fun a ww hw hf hd=>by
            have h25:a.eval (.tmp 25)=Value.int .i64 i:=((knows_out 25 (by kernel_rfl) rfl):Knows _ _ _ _ _ _ 11 _ _) a ww hw hf hd
            revert h25
            generalize a.eval=ev
            intro h25
            unfold execOp
            simp only [h25]
            go_simp)),
             (step_ex _ rfl (.inr ⟨8,true,182,rfl,by decide,by kernel_rfl,rfl,fun _ _ h=>h⟩) rfl (fun a ww hw hf hd=>by
            have h184:a.eval (.tmp 184)=Value.int .i64 t.2.1:=((knows_in 10 184 (by decide) (by kernel_rfl) rfl rfl):Knows _ _ _ _ _ _ 12 _ _) a ww hw hf hd
            have h185:a.eval (.tmp 185)=Value.int .i64 i:=((knows_in 11 185 (by decide) (by kernel_rfl) rfl rfl):Knows _ _ _ _ _ _ 12 _ _) a ww hw hf hd
            have f0:=(show ¬(i:Int)≤t.2.1 by omega)
            have f1:=(show t.2.1<(i:Int) by omega)
            revert h184 h185
            generalize a.eval=ev
            intro h184 h185
            unfold execOp
            simp only [h184,h185]
            go_simp)),
             (step_ex _ rfl (.inr ⟨8,true,182,rfl,by decide,by kernel_rfl,rfl,fun _ _ h=>h⟩) rfl (fun a ww hw hf hd=>by
            have h186:a.eval (.tmp 186)=Value.bool false:=((knows_in 12 186 (by decide) (by kernel_rfl) rfl rfl):Knows _ _ _ _ _ _ 13 _ _) a ww hw hf hd
            revert h186
            generalize a.eval=ev
            intro h186
            unfold execOp
            simp only [h186]
            go_simp)),
             (step_ex _ rfl (.inr ⟨13,false,187,rfl,by decide,by kernel_rfl,rfl,fun _ _ h=>h⟩) rfl (fun a ww hw hf hd=>by
            have h10:a.eval (.tmp 10)=Value.pointer (some ⟨s4,0,none⟩):=((knows_out 10 (by kernel_rfl) rfl):Knows _ _ _ _ _ _ 14 _ _) a ww hw hf hd
            have f0:=cellB b109 hw
            revert h10
            generalize a.eval=ev
            intro h10
            unfold execOp
            simp only [h10]
            go_simp)),
             (step_ex _ rfl (.inr ⟨13,false,187,rfl,by decide,by kernel_rfl,rfl,fun _ _ h=>h⟩) rfl (fun a ww hw hf hd=>by
            have h25:a.eval (.tmp 25)=Value.int .i64 i:=((knows_out 25 (by kernel_rfl) rfl):Knows _ _ _ _ _ _ 15 _ _) a ww hw hf hd
            revert h25
            generalize a.eval=ev
            intro h25
            unfold execOp
            simp only [h25]
            go_simp)),
             (step_cw rfl (.inr ⟨13,false,187,rfl,by decide,by kernel_rfl,rfl,fun _ _ h=>h⟩) rfl cxT14 rfl (fun aa ww hw hf hd=>⟨_,(two_args (knows_in 14 188 (by decide) (by kernel_rfl) rfl rfl) (knows_in 15 189 (by decide) (by kernel_rfl) rfl rfl)) aa ww hw hf hd,hsi ww hw⟩)),
             (step_ex _ rfl (.inr ⟨13,false,187,rfl,by decide,by kernel_rfl,rfl,fun _ _ h=>h⟩) rfl (fun a ww hw hf hd=>by
            have h190:a.eval (.tmp 190)=Value.int .i64 r:=((knows_in 16 190 (by decide) (by kernel_rfl) rfl rfl):Knows _ _ _ _ _ _ 17 _ _) a ww hw hf hd
            have f0:=hsm
            have hc:=ec a
            revert hc h190
            generalize a.eval=ev
            intro hc h190
            unfold execOp
            simp only [hc,h190]
            go_simp)),
             (step_ex _ rfl (.inr ⟨13,false,187,rfl,by decide,by kernel_rfl,rfl,fun _ _ h=>h⟩) rfl (fun a ww hw hf hd=>by
            have h191:a.eval (.tmp 191)=Value.bool true:=((knows_in 17 191 (by decide) (by kernel_rfl) rfl rfl):Knows _ _ _ _ _ _ 18 _ _) a ww hw hf hd
            revert h191
            generalize a.eval=ev
            intro h191
            unfold execOp
            simp only [h191]
            go_simp)),
             (step_ex _ rfl (.inr ⟨18,true,192,rfl,by decide,by kernel_rfl,rfl,fun _ _ h=>h⟩) rfl (fun a ww hw hf hd=>by
            have h10:a.eval (.tmp 10)=Value.pointer (some ⟨s4,0,none⟩):=((knows_out 10 (by kernel_rfl) rfl):Knows _ _ _ _ _ _ 19 _ _) a ww hw hf hd
            have f0:=cellB b109 hw
            revert h10
            generalize a.eval=ev
            intro h10
            unfold execOp
            simp only [h10]
            go_simp)),
             (step_ex _ rfl (.inr ⟨18,true,192,rfl,by decide,by kernel_rfl,rfl,fun _ _ h=>h⟩) rfl (fun a ww hw hf hd=>by
            have h26:a.eval (.tmp 26)=Value.pointer (some ⟨b,0,none⟩):=((knows_out 26 (by kernel_rfl) rfl):Knows _ _ _ _ _ _ 20 _ _) a ww hw hf hd
            revert h26
            generalize a.eval=ev
            intro h26
            unfold execOp
            simp only [h26]
            go_simp)),
             (step_ex _ rfl (.inr ⟨18,true,192,rfl,by decide,by kernel_rfl,rfl,fun _ _ h=>h⟩) rfl (fun a ww hw hf hd=>by
            have h194:a.eval (.tmp 194)=Value.pointer (some ⟨b,1,none⟩):=((knows_in 20 194 (by decide) (by kernel_rfl) rfl rfl):Knows _ _ _ _ _ _ 21 _ _) a ww hw hf hd
            have f0:=cellB y1 hw
            revert h194
            generalize a.eval=ev
            intro h194
            unfold execOp
            simp only [h194]
            go_simp)),
             (step_cw rfl (.inr ⟨18,true,192,rfl,by decide,by kernel_rfl,rfl,fun _ _ h=>h⟩) rfl cxT14 rfl (fun aa ww hw hf hd=>⟨_,(two_args (knows_in 19 193 (by decide) (by kernel_rfl) rfl rfl) (knows_in 21 195 (by decide) (by kernel_rfl) rfl rfl)) aa ww hw hf hd,hsA ww hw⟩)),
             (step_ex _ rfl (.inr ⟨18,true,192,rfl,by decide,by kernel_rfl,rfl,fun _ _ h=>h⟩) rfl (fun a ww hw hf hd=>by
            have h10:a.eval (.tmp 10)=Value.pointer (some ⟨s4,0,none⟩):=((knows_out 10 (by kernel_rfl) rfl):Knows _ _ _ _ _ _ 23 _ _) a ww hw hf hd
            have f0:=cellB b109 hw
            revert h10
            generalize a.eval=ev
            intro h10
            unfold execOp
            simp only [h10]
            go_simp)),
             (step_ex _ rfl (.inr ⟨18,true,192,rfl,by decide,by kernel_rfl,rfl,fun _ _ h=>h⟩) rfl (fun a ww hw hf hd=>by
            have h25:a.eval (.tmp 25)=Value.int .i64 i:=((knows_out 25 (by kernel_rfl) rfl):Knows _ _ _ _ _ _ 24 _ _) a ww hw hf hd
            revert h25
            generalize a.eval=ev
            intro h25
            unfold execOp
            simp only [h25]
            go_simp)),
             (step_cw rfl (.inr ⟨18,true,192,rfl,by decide,by kernel_rfl,rfl,fun _ _ h=>h⟩) rfl cxT14 rfl (fun aa ww hw hf hd=>⟨_,(two_args (knows_in 23 197 (by decide) (by kernel_rfl) rfl rfl) (knows_in 24 198 (by decide) (by kernel_rfl) rfl rfl)) aa ww hw hf hd,hsi ww hw⟩)),
             (step_ex _ rfl (.inr ⟨18,true,192,rfl,by decide,by kernel_rfl,rfl,fun _ _ h=>h⟩) rfl (fun a ww hw hf hd=>by
            have h196:a.eval (.tmp 196)=Value.int .i64 ra:=((knows_in 22 196 (by decide) (by kernel_rfl) rfl rfl):Knows _ _ _ _ _ _ 26 _ _) a ww hw hf hd
            have h199:a.eval (.tmp 199)=Value.int .i64 r:=((knows_in 25 199 (by decide) (by kernel_rfl) rfl rfl):Knows _ _ _ _ _ _ 26 _ _) a ww hw hf hd
            have f0:=hgr
            have f1:=Int.not_le.1 hgr
            revert h196 h199
            generalize a.eval=ev
            intro h196 h199
            unfold execOp
            simp only [h196,h199]
            go_simp)),
             (step_ex _ rfl (.inr ⟨13,false,187,rfl,by decide,by kernel_rfl,rfl,fun _ _ h=>h⟩) rfl (fun a ww hw hf hd=>by
            have h192:a.eval (.tmp 192)=Value.bool true:=((knows_in 18 192 (by decide) (by kernel_rfl) rfl rfl):Knows _ _ _ _ _ _ 27 _ _) a ww hw hf hd
            have h200:a.eval (.tmp 200)=Value.bool false:=((knows_in 26 200 (by decide) (by kernel_rfl) rfl rfl):Knows _ _ _ _ _ _ 27 _ _) a ww hw hf hd
            have hc:=ec a
            revert hc h192 h200
            generalize a.eval=ev
            intro hc h192 h200
            unfold execOp
            simp only [hc,h192,h200]
            go_simp)),
             (step_ex _ rfl (.inr ⟨8,true,182,rfl,by decide,by kernel_rfl,rfl,fun _ _ h=>h⟩) rfl (fun a ww hw hf hd=>by
            have h187:a.eval (.tmp 187)=Value.bool false:=((knows_in 13 187 (by decide) (by kernel_rfl) rfl rfl):Knows _ _ _ _ _ _ 28 _ _) a ww hw hf hd
            have h201:a.eval (.tmp 201)=Value.bool false:=((knows_in 27 201 (by decide) (by kernel_rfl) rfl rfl):Knows _ _ _ _ _ _ 28 _ _) a ww hw hf hd
            have hc:=ec a
            revert hc h187 h201
            generalize a.eval=ev
            intro hc h187 h201
            unfold execOp
            simp only [hc,h187,h201]
            go_simp)),
             (step_ex _ rfl (.inl rfl) rfl (fun a ww hw hf hd=>by
            have h182:a.eval (.tmp 182)=Value.bool true:=((knows_in 8 182 (by decide) (by kernel_rfl) rfl rfl):Knows _ _ _ _ _ _ 29 _ _) a ww hw hf hd
            have h202:a.eval (.tmp 202)=Value.bool false:=((knows_in 28 202 (by decide) (by kernel_rfl) rfl rfl):Knows _ _ _ _ _ _ 29 _ _) a ww hw hf hd
            have hc:=ec a
            revert hc h182 h202
            generalize a.eval=ev
            intro hc h182 h202
            unfold execOp
            simp only [hc,h182,h202]
            go_simp)),
             (step_ex _ rfl (.inl rfl) rfl (fun a ww hw hf hd=>by
            have h203:a.eval (.tmp 203)=Value.bool false:=((knows_in 29 203 (by decide) (by kernel_rfl) rfl rfl):Knows _ _ _ _ _ _ 30 _ _) a ww hw hf hd
            revert h203
            generalize a.eval=ev
            intro h203
            unfold execOp
            simp only [h203]
            go_simp)),
             (step_ex _ rfl (.inr ⟨30,false,204,rfl,by decide,by kernel_rfl,rfl,fun _ _ h=>h⟩) rfl (fun a ww hw hf hd=>by
            have h26:a.eval (.tmp 26)=Value.pointer (some ⟨b,0,none⟩):=((knows_out 26 (by kernel_rfl) rfl):Knows _ _ _ _ _ _ 31 _ _) a ww hw hf hd
            revert h26
            generalize a.eval=ev
            intro h26
            unfold execOp
            simp only [h26]
            go_simp)),
             (step_ex _ rfl (.inr ⟨30,false,204,rfl,by decide,by kernel_rfl,rfl,fun _ _ h=>h⟩) rfl (fun a ww hw hf hd=>by
            have h205:a.eval (.tmp 205)=Value.pointer (some ⟨b,0,none⟩):=((knows_in 31 205 (by decide) (by kernel_rfl) rfl rfl):Knows _ _ _ _ _ _ 32 _ _) a ww hw hf hd
            have f0:=cellB y0 hw
            revert h205
            generalize a.eval=ev
            intro h205
            unfold execOp
            simp only [h205]
            go_simp)),
             (step_ex _ rfl (.inr ⟨30,false,204,rfl,by decide,by kernel_rfl,rfl,fun _ _ h=>h⟩) rfl (fun a ww hw hf hd=>by
            have h206:a.eval (.tmp 206)=Value.int .i64 t.1:=((knows_in 32 206 (by decide) (by kernel_rfl) rfl rfl):Knows _ _ _ _ _ _ 33 _ _) a ww hw hf hd
            have f0:=(show ¬t.1=4 by omega)
            have hc:=ec a
            revert hc h206
            generalize a.eval=ev
            intro hc h206
            unfold execOp
            simp only [hc,h206]
            go_simp)),
             (step_ex _ rfl (.inr ⟨30,false,204,rfl,by decide,by kernel_rfl,rfl,fun _ _ h=>h⟩) rfl (fun a ww hw hf hd=>by
            have h207:a.eval (.tmp 207)=Value.bool false:=((knows_in 33 207 (by decide) (by kernel_rfl) rfl rfl):Knows _ _ _ _ _ _ 34 _ _) a ww hw hf hd
            revert h207
            generalize a.eval=ev
            intro h207
            unfold execOp
            simp only [h207]
            go_simp)),
             (step_ex _ rfl (.inr ⟨34,false,208,rfl,by decide,by kernel_rfl,rfl,fun _ _ h=>h⟩) rfl (fun a ww hw hf hd=>by
            have h26:a.eval (.tmp 26)=Value.pointer (some ⟨b,0,none⟩):=((knows_out 26 (by kernel_rfl) rfl):Knows _ _ _ _ _ _ 35 _ _) a ww hw hf hd
            revert h26
            generalize a.eval=ev
            intro h26
            unfold execOp
            simp only [h26]
            go_simp)),
             (step_ex _ rfl (.inr ⟨34,false,208,rfl,by decide,by kernel_rfl,rfl,fun _ _ h=>h⟩) rfl (fun a ww hw hf hd=>by
            have h209:a.eval (.tmp 209)=Value.pointer (some ⟨b,0,none⟩):=((knows_in 35 209 (by decide) (by kernel_rfl) rfl rfl):Knows _ _ _ _ _ _ 36 _ _) a ww hw hf hd
            have f0:=cellB y0 hw
            revert h209
            generalize a.eval=ev
            intro h209
            unfold execOp
            simp only [h209]
            go_simp)),
             (step_ex _ rfl (.inr ⟨34,false,208,rfl,by decide,by kernel_rfl,rfl,fun _ _ h=>h⟩) rfl (fun a ww hw hf hd=>by
            have h210:a.eval (.tmp 210)=Value.int .i64 t.1:=((knows_in 36 210 (by decide) (by kernel_rfl) rfl rfl):Knows _ _ _ _ _ _ 37 _ _) a ww hw hf hd
            have f0:=(show ¬t.1=5 by omega)
            have hc:=ec a
            revert hc h210
            generalize a.eval=ev
            intro hc h210
            unfold execOp
            simp only [hc,h210]
            go_simp)),
             (step_ex _ rfl (.inr ⟨30,false,204,rfl,by decide,by kernel_rfl,rfl,fun _ _ h=>h⟩) rfl (fun a ww hw hf hd=>by
            have h208:a.eval (.tmp 208)=Value.bool false:=((knows_in 34 208 (by decide) (by kernel_rfl) rfl rfl):Knows _ _ _ _ _ _ 38 _ _) a ww hw hf hd
            have h211:a.eval (.tmp 211)=Value.bool false:=((knows_in 37 211 (by decide) (by kernel_rfl) rfl rfl):Knows _ _ _ _ _ _ 38 _ _) a ww hw hf hd
            have hc:=ec a
            revert hc h208 h211
            generalize a.eval=ev
            intro hc h208 h211
            unfold execOp
            simp only [hc,h208,h211]
            go_simp)),
             (step_ex _ rfl (.inr ⟨30,false,204,rfl,by decide,by kernel_rfl,rfl,fun _ _ h=>h⟩) rfl (fun a ww hw hf hd=>by
            have h212:a.eval (.tmp 212)=Value.bool false:=((knows_in 38 212 (by decide) (by kernel_rfl) rfl rfl):Knows _ _ _ _ _ _ 39 _ _) a ww hw hf hd
            revert h212
            generalize a.eval=ev
            intro h212
            unfold execOp
            simp only [h212]
            go_simp)),
             (step_ex _ rfl (.inr ⟨39,false,213,rfl,by decide,by kernel_rfl,rfl,fun _ _ h=>h⟩) rfl (fun a ww hw hf hd=>by
            have h26:a.eval (.tmp 26)=Value.pointer (some ⟨b,0,none⟩):=((knows_out 26 (by kernel_rfl) rfl):Knows _ _ _ _ _ _ 40 _ _) a ww hw hf hd
            revert h26
            generalize a.eval=ev
            intro h26
            unfold execOp
            simp only [h26]
            go_simp)),
             (step_ex _ rfl (.inr ⟨39,false,213,rfl,by decide,by kernel_rfl,rfl,fun _ _ h=>h⟩) rfl (fun a ww hw hf hd=>by
            have h214:a.eval (.tmp 214)=Value.pointer (some ⟨b,0,none⟩):=((knows_in 40 214 (by decide) (by kernel_rfl) rfl rfl):Knows _ _ _ _ _ _ 41 _ _) a ww hw hf hd
            have f0:=cellB y0 hw
            revert h214
            generalize a.eval=ev
            intro h214
            unfold execOp
            simp only [h214]
            go_simp)),
             (step_ex _ rfl (.inr ⟨39,false,213,rfl,by decide,by kernel_rfl,rfl,fun _ _ h=>h⟩) rfl (fun a ww hw hf hd=>by
            have h215:a.eval (.tmp 215)=Value.int .i64 t.1:=((knows_in 41 215 (by decide) (by kernel_rfl) rfl rfl):Knows _ _ _ _ _ _ 42 _ _) a ww hw hf hd
            have f0:=(show ¬t.1=8 by omega)
            have hc:=ec a
            revert hc h215
            generalize a.eval=ev
            intro hc h215
            unfold execOp
            simp only [hc,h215]
            go_simp)),
             (step_ex _ rfl (.inr ⟨30,false,204,rfl,by decide,by kernel_rfl,rfl,fun _ _ h=>h⟩) rfl (fun a ww hw hf hd=>by
            have h213:a.eval (.tmp 213)=Value.bool false:=((knows_in 39 213 (by decide) (by kernel_rfl) rfl rfl):Knows _ _ _ _ _ _ 43 _ _) a ww hw hf hd
            have h216:a.eval (.tmp 216)=Value.bool false:=((knows_in 42 216 (by decide) (by kernel_rfl) rfl rfl):Knows _ _ _ _ _ _ 43 _ _) a ww hw hf hd
            have hc:=ec a
            revert hc h213 h216
            generalize a.eval=ev
            intro hc h213 h216
            unfold execOp
            simp only [hc,h213,h216]
            go_simp)),
             (step_ex _ rfl (.inr ⟨30,false,204,rfl,by decide,by kernel_rfl,rfl,fun _ _ h=>h⟩) rfl (fun a ww hw hf hd=>by
            have h217:a.eval (.tmp 217)=Value.bool false:=((knows_in 43 217 (by decide) (by kernel_rfl) rfl rfl):Knows _ _ _ _ _ _ 44 _ _) a ww hw hf hd
            revert h217
            generalize a.eval=ev
            intro h217
            unfold execOp
            simp only [h217]
            go_simp)),
             (step_off rfl ⟨44,true,218,rfl,by decide,by kernel_rfl,rfl,fun _ _ h=>.inl h⟩ (fun _=>rfl)),
             (step_off rfl ⟨44,true,218,rfl,by decide,by kernel_rfl,rfl,fun _ _ h=>.inl h⟩ (fun _=>rfl)),
             (step_off rfl ⟨44,true,218,rfl,by decide,by kernel_rfl,rfl,fun _ _ h=>.inl h⟩ (fun _=>rfl)),
             (step_off rfl ⟨44,true,218,rfl,by decide,by kernel_rfl,rfl,fun _ _ h=>.inl h⟩ (fun _=>rfl)),
             (step_ex _ rfl (.inr ⟨30,false,204,rfl,by decide,by kernel_rfl,rfl,fun _ _ h=>h⟩) rfl (fun a ww hw hf hd=>by
            have h218:a.eval (.tmp 218)=Value.bool false:=((knows_in 44 218 (by decide) (by kernel_rfl) rfl rfl):Knows _ _ _ _ _ _ 49 _ _) a ww hw hf hd
            have hc:=ec a
            revert hc h218
            generalize a.eval=ev
            intro hc h218
            unfold execOp
            simp only [hc,h218]
            go_simp)),trivial⟩ ?_
           intro val W12 hw hS _ _
           have e204:val 204=Value.bool false:=hS 30 204 (by decide) rfl
           have e223:val 223=Value.bool false:=hS 49 223 (by decide) rfl
           simp only [putVals,List.foldl_cons,List.foldl_nil,List.drop_succ_cons,List.drop_zero,Act.put,List.setIfInBounds_toArray,List.set_cons_succ,List.set_cons_zero,e204,e223]
           clear e204 e223 hS
           go_wp2
           gi_wp2
           exact hpost _ hw
          ·skip
           refine region_round 50 225 (fun _=>false) [Is (Value.pointer (some ⟨b,0,none⟩)),Is (Value.int .i64 t.1),Is (Value.bool true),Is (Value.bool true),Is (Value.pointer (some ⟨b,0,none⟩)),Is (Value.int .i64 t.1),Is (Value.bool true),Is (Value.bool true),Is (Value.bool true),Is (Value.pointer (some ⟨b,1,none⟩)),Is (Value.int .i64 t.2.1),Is (Value.int .i64 i),Is (Value.bool false),Is (Value.bool false),Is (Value.pointer (some ⟨p,0,none⟩)),Is (Value.int .i64 i),Is (Value.int .i64 r),Is (Value.bool false),Is (Value.bool false),Is (undef),Is (undef),Is (undef),Is (undef),Is (undef),Is (undef),Is (undef),Is (undef),Is (Value.bool false),Is (Value.bool false),Is (Value.bool false),Is (Value.bool false),Is (Value.pointer (some ⟨b,0,none⟩)),Is (Value.int .i64 t.1),Is (Value.bool false),Is (Value.bool false),Is (Value.pointer (some ⟨b,0,none⟩)),Is (Value.int .i64 t.1),Is (Value.bool false),Is (Value.bool false),Is (Value.bool false),Is (Value.pointer (some ⟨b,0,none⟩)),Is (Value.int .i64 t.1),Is (Value.bool false),Is (Value.bool false),Is (Value.bool false),Is (undef),Is (undef),Is (undef),Is (undef),Is (Value.bool false)] [174,175,176,177,178,179,180,181,182,183,184,185,186,187,188,189,190,191,192,193,194,195,196,197,198,199,200,201,202,203,204,205,206,207,208,209,210,211,212,213,214,215,216,217,218,219,220,221,222,223] (by kernel_rfl) (by kernel_rfl) (by kernel_rfl) (Nat.le_of_eq rfl) rfl (fun h=>by obtain ⟨_,_,h⟩:=h;exact h) (grows_cons (Is.grows _) (grows_cons (Is.grows _) (grows_cons (Is.grows _) (grows_cons (Is.grows _) (grows_cons (Is.grows _) (grows_cons (Is.grows _) (grows_cons (Is.grows _) (grows_cons (Is.grows _) (grows_cons (Is.grows _) (grows_cons (Is.grows _) (grows_cons (Is.grows _) (grows_cons (Is.grows _) (grows_cons (Is.grows _) (grows_cons (Is.grows _) (grows_cons (Is.grows _) (grows_cons (Is.grows _) (grows_cons (Is.grows _) (grows_cons (Is.grows _) (grows_cons (Is.grows _) (grows_cons (Is.grows _) (grows_cons (Is.grows _) (grows_cons (Is.grows _) (grows_cons (Is.grows _) (grows_cons (Is.grows _) (grows_cons (Is.grows _) (grows_cons (Is.grows _) (grows_cons (Is.grows _) (grows_cons (Is.grows _) (grows_cons (Is.grows _) (grows_cons (Is.grows _) (grows_cons (Is.grows _) (grows_cons (Is.grows _) (grows_cons (Is.grows _) (grows_cons (Is.grows _) (grows_cons (Is.grows _) (grows_cons (Is.grows _) (grows_cons (Is.grows _) (grows_cons (Is.grows _) (grows_cons (Is.grows _) (grows_cons (Is.grows _) (grows_cons (Is.grows _) (grows_cons (Is.grows _) (grows_cons (Is.grows _) (grows_cons (Is.grows _) (grows_cons (Is.grows _) (grows_cons (Is.grows _) (grows_cons (Is.grows _) (grows_cons (Is.grows _) (grows_cons (Is.grows _) (grows_cons (Is.grows _) grows_nil))))))))))))))))))))))))))))))))))))))))))))))))))
            ⟨(step_ex _ rfl (.inl rfl) rfl (fun a ww hw hf hd=>by
            have h26:a.eval (.tmp 26)=Value.pointer (some ⟨b,0,none⟩):=((knows_out 26 (by kernel_rfl) rfl):Knows _ _ _ _ _ _ 0 _ _) a ww hw hf hd
            revert h26
            generalize a.eval=ev
            intro h26
            unfold execOp
            simp only [h26]
            go_simp)),
             (step_ex _ rfl (.inl rfl) rfl (fun a ww hw hf hd=>by
            have h174:a.eval (.tmp 174)=Value.pointer (some ⟨b,0,none⟩):=((knows_in 0 174 (by decide) (by kernel_rfl) rfl rfl):Knows _ _ _ _ _ _ 1 _ _) a ww hw hf hd
            have f0:=cellB y0 hw
            revert h174
            generalize a.eval=ev
            intro h174
            unfold execOp
            simp only [h174]
            go_simp)),
             (step_ex _ rfl (.inl rfl) rfl (fun a ww hw hf hd=>by
            have h175:a.eval (.tmp 175)=Value.int .i64 t.1:=((knows_in 1 175 (by decide) (by kernel_rfl) rfl rfl):Knows _ _ _ _ _ _ 2 _ _) a ww hw hf hd
            have f0:=(show ¬t.1=1 by omega)
            have hc:=ec a
            revert hc h175
            generalize a.eval=ev
            intro hc h175
            unfold execOp
            simp only [hc,h175]
            go_simp)),
             (step_ex _ rfl (.inl rfl) rfl (fun a ww hw hf hd=>by
            have h176:a.eval (.tmp 176)=Value.bool true:=((knows_in 2 176 (by decide) (by kernel_rfl) rfl rfl):Knows _ _ _ _ _ _ 3 _ _) a ww hw hf hd
            revert h176
            generalize a.eval=ev
            intro h176
            unfold execOp
            simp only [h176]
            go_simp)),
             (step_ex _ rfl (.inr ⟨3,true,177,rfl,by decide,by kernel_rfl,rfl,fun _ _ h=>h⟩) rfl (fun a ww hw hf hd=>by
            have h26:a.eval (.tmp 26)=Value.pointer (some ⟨b,0,none⟩):=((knows_out 26 (by kernel_rfl) rfl):Knows _ _ _ _ _ _ 4 _ _) a ww hw hf hd
            revert h26
            generalize a.eval=ev
            intro h26
            unfold execOp
            simp only [h26]
            go_simp)),
             (step_ex _ rfl (.inr ⟨3,true,177,rfl,by decide,by kernel_rfl,rfl,fun _ _ h=>h⟩) rfl (fun a ww hw hf hd=>by
            have h178:a.eval (.tmp 178)=Value.pointer (some ⟨b,0,none⟩):=((knows_in 4 178 (by decide) (by kernel_rfl) rfl rfl):Knows _ _ _ _ _ _ 5 _ _) a ww hw hf hd
            have f0:=cellB y0 hw
            revert h178
            generalize a.eval=ev
            intro h178
            unfold execOp
            simp only [h178]
            go_simp)),
             (step_ex _ rfl (.inr ⟨3,true,177,rfl,by decide,by kernel_rfl,rfl,fun _ _ h=>h⟩) rfl (fun a ww hw hf hd=>by
            have h179:a.eval (.tmp 179)=Value.int .i64 t.1:=((knows_in 5 179 (by decide) (by kernel_rfl) rfl rfl):Knows _ _ _ _ _ _ 6 _ _) a ww hw hf hd
            have f0:=(show ¬t.1=9 by omega)
            have hc:=ec a
            revert hc h179
            generalize a.eval=ev
            intro hc h179
            unfold execOp
            simp only [hc,h179]
            go_simp)),
             (step_ex _ rfl (.inl rfl) rfl (fun a ww hw hf hd=>by
            have h177:a.eval (.tmp 177)=Value.bool true:=((knows_in 3 177 (by decide) (by kernel_rfl) rfl rfl):Knows _ _ _ _ _ _ 7 _ _) a ww hw hf hd
            have h180:a.eval (.tmp 180)=Value.bool true:=((knows_in 6 180 (by decide) (by kernel_rfl) rfl rfl):Knows _ _ _ _ _ _ 7 _ _) a ww hw hf hd
            have hc:=ec a
            revert hc h177 h180
            generalize a.eval=ev
            intro hc h177 h180
            unfold execOp
            simp only [hc,h177,h180]
            go_simp)),
             (step_ex _ rfl (.inl rfl) rfl (fun a ww hw hf hd=>by
            have h181:a.eval (.tmp 181)=Value.bool true:=((knows_in 7 181 (by decide) (by kernel_rfl) rfl rfl):Knows _ _ _ _ _ _ 8 _ _) a ww hw hf hd
            revert h181
            generalize a.eval=ev
            intro h181
            unfold execOp
            simp only [h181]
            go_simp)),
             (step_ex _ rfl (.inr ⟨8,true,182,rfl,by decide,by kernel_rfl,rfl,fun _ _ h=>h⟩) rfl (fun a ww hw hf hd=>by
            have h26:a.eval (.tmp 26)=Value.pointer (some ⟨b,0,none⟩):=((knows_out 26 (by kernel_rfl) rfl):Knows _ _ _ _ _ _ 9 _ _) a ww hw hf hd
            revert h26
            generalize a.eval=ev
            intro h26
            unfold execOp
            simp only [h26]
            go_simp)),
             (step_ex _ rfl (.inr ⟨8,true,182,rfl,by decide,by kernel_rfl,rfl,fun _ _ h=>h⟩) rfl (fun a ww hw hf hd=>by
            have h183:a.eval (.tmp 183)=Value.pointer (some ⟨b,1,none⟩):=((knows_in 9 183 (by decide) (by kernel_rfl) rfl rfl):Knows _ _ _ _ _ _ 10 _ _) a ww hw hf hd
            have f0:=cellB y1 hw
            revert h183
            generalize a.eval=ev
            intro h183
            unfold execOp
            simp only [h183]
            go_simp)),
             (step_ex _ rfl (.inr ⟨8,true,182,rfl,by decide,by kernel_rfl,rfl,fun _ _ h=>h⟩) rfl (fun a ww hw hf hd=>by
            have h25:a.eval (.tmp 25)=Value.int .i64 i:=((knows_out 25 (by kernel_rfl) rfl):Knows _ _ _ _ _ _ 11 _ _) a ww hw hf hd
            revert h25
            generalize a.eval=ev
            intro h25
            unfold execOp
            simp only [h25]
            go_simp)),
             (step_ex _ rfl (.inr ⟨8,true,182,rfl,by decide,by kernel_rfl,rfl,fun _ _ h=>h⟩) rfl (fun a ww hw hf hd=>by
            have h184:a.eval (.tmp 184)=Value.int .i64 t.2.1:=((knows_in 10 184 (by decide) (by kernel_rfl) rfl rfl):Knows _ _ _ _ _ _ 12 _ _) a ww hw hf hd
            have h185:a.eval (.tmp 185)=Value.int .i64 i:=((knows_in 11 185 (by decide) (by kernel_rfl) rfl rfl):Knows _ _ _ _ _ _ 12 _ _) a ww hw hf hd
            have f0:=(show ¬(i:Int)≤t.2.1 by omega)
            have f1:=(show t.2.1<(i:Int) by omega)
            revert h184 h185
            generalize a.eval=ev
            intro h184 h185
            unfold execOp
            simp only [h184,h185]
            go_simp)),
             (step_ex _ rfl (.inr ⟨8,true,182,rfl,by decide,by kernel_rfl,rfl,fun _ _ h=>h⟩) rfl (fun a ww hw hf hd=>by
            have h186:a.eval (.tmp 186)=Value.bool false:=((knows_in 12 186 (by decide) (by kernel_rfl) rfl rfl):Knows _ _ _ _ _ _ 13 _ _) a ww hw hf hd
            revert h186
            generalize a.eval=ev
            intro h186
            unfold execOp
            simp only [h186]
            go_simp)),
             (step_ex _ rfl (.inr ⟨13,false,187,rfl,by decide,by kernel_rfl,rfl,fun _ _ h=>h⟩) rfl (fun a ww hw hf hd=>by
            have h10:a.eval (.tmp 10)=Value.pointer (some ⟨s4,0,none⟩):=((knows_out 10 (by kernel_rfl) rfl):Knows _ _ _ _ _ _ 14 _ _) a ww hw hf hd
            have f0:=cellB b109 hw
            revert h10
            generalize a.eval=ev
            intro h10
            unfold execOp
            simp only [h10]
            go_simp)),
             (step_ex _ rfl (.inr ⟨13,false,187,rfl,by decide,by kernel_rfl,rfl,fun _ _ h=>h⟩) rfl (fun a ww hw hf hd=>by
            have h25:a.eval (.tmp 25)=Value.int .i64 i:=((knows_out 25 (by kernel_rfl) rfl):Knows _ _ _ _ _ _ 15 _ _) a ww hw hf hd
            revert h25
            generalize a.eval=ev
            intro h25
            unfold execOp
            simp only [h25]
            go_simp)),
             (step_cw rfl (.inr ⟨13,false,187,rfl,by decide,by kernel_rfl,rfl,fun _ _ h=>h⟩) rfl cxT14 rfl (fun aa ww hw hf hd=>⟨_,(two_args (knows_in 14 188 (by decide) (by kernel_rfl) rfl rfl) (knows_in 15 189 (by decide) (by kernel_rfl) rfl rfl)) aa ww hw hf hd,hsi ww hw⟩)),
             (step_ex _ rfl (.inr ⟨13,false,187,rfl,by decide,by kernel_rfl,rfl,fun _ _ h=>h⟩) rfl (fun a ww hw hf hd=>by
            have h190:a.eval (.tmp 190)=Value.int .i64 r:=((knows_in 16 190 (by decide) (by kernel_rfl) rfl rfl):Knows _ _ _ _ _ _ 17 _ _) a ww hw hf hd
            have f0:=hsm
            have hc:=ec a
            revert hc h190
            generalize a.eval=ev
            intro hc h190
            unfold execOp
            simp only [hc,h190]
            go_simp)),
             (step_ex _ rfl (.inr ⟨13,false,187,rfl,by decide,by kernel_rfl,rfl,fun _ _ h=>h⟩) rfl (fun a ww hw hf hd=>by
            have h191:a.eval (.tmp 191)=Value.bool false:=((knows_in 17 191 (by decide) (by kernel_rfl) rfl rfl):Knows _ _ _ _ _ _ 18 _ _) a ww hw hf hd
            revert h191
            generalize a.eval=ev
            intro h191
            unfold execOp
            simp only [h191]
            go_simp)),
             (step_off rfl ⟨18,true,192,rfl,by decide,by kernel_rfl,rfl,fun _ _ h=>.inl h⟩ (fun _=>rfl)),
             (step_off rfl ⟨18,true,192,rfl,by decide,by kernel_rfl,rfl,fun _ _ h=>.inl h⟩ (fun _=>rfl)),
             (step_off rfl ⟨18,true,192,rfl,by decide,by kernel_rfl,rfl,fun _ _ h=>.inl h⟩ (fun _=>rfl)),
             (step_off rfl ⟨18,true,192,rfl,by decide,by kernel_rfl,rfl,fun _ _ h=>.inl h⟩ (fun _=>rfl)),
             (step_off rfl ⟨18,true,192,rfl,by decide,by kernel_rfl,rfl,fun _ _ h=>.inl h⟩ (fun _=>rfl)),
             (step_off rfl ⟨18,true,192,rfl,by decide,by kernel_rfl,rfl,fun _ _ h=>.inl h⟩ (fun _=>rfl)),
             (step_off rfl ⟨18,true,192,rfl,by decide,by kernel_rfl,rfl,fun _ _ h=>.inl h⟩ (fun _=>rfl)),
             (step_off rfl ⟨18,true,192,rfl,by decide,by kernel_rfl,rfl,fun _ _ h=>.inl h⟩ (fun _=>rfl)),
             (step_ex _ rfl (.inr ⟨13,false,187,rfl,by decide,by kernel_rfl,rfl,fun _ _ h=>h⟩) rfl (fun a ww hw hf hd=>by
            have h192:a.eval (.tmp 192)=Value.bool false:=((knows_in 18 192 (by decide) (by kernel_rfl) rfl rfl):Knows _ _ _ _ _ _ 27 _ _) a ww hw hf hd
            have hc:=ec a
            revert hc h192
            generalize a.eval=ev
            intro hc h192
            unfold execOp
            simp only [hc,h192]
            go_simp)),
             (step_ex _ rfl (.inr ⟨8,true,182,rfl,by decide,by kernel_rfl,rfl,fun _ _ h=>h⟩) rfl (fun a ww hw hf hd=>by
            have h187:a.eval (.tmp 187)=Value.bool false:=((knows_in 13 187 (by decide) (by kernel_rfl) rfl rfl):Knows _ _ _ _ _ _ 28 _ _) a ww hw hf hd
            have h201:a.eval (.tmp 201)=Value.bool false:=((knows_in 27 201 (by decide) (by kernel_rfl) rfl rfl):Knows _ _ _ _ _ _ 28 _ _) a ww hw hf hd
            have hc:=ec a
            revert hc h187 h201
            generalize a.eval=ev
            intro hc h187 h201
            unfold execOp
            simp only [hc,h187,h201]
            go_simp)),
             (step_ex _ rfl (.inl rfl) rfl (fun a ww hw hf hd=>by
            have h182:a.eval (.tmp 182)=Value.bool true:=((knows_in 8 182 (by decide) (by kernel_rfl) rfl rfl):Knows _ _ _ _ _ _ 29 _ _) a ww hw hf hd
            have h202:a.eval (.tmp 202)=Value.bool false:=((knows_in 28 202 (by decide) (by kernel_rfl) rfl rfl):Knows _ _ _ _ _ _ 29 _ _) a ww hw hf hd
            have hc:=ec a
            revert hc h182 h202
            generalize a.eval=ev
            intro hc h182 h202
            unfold execOp
            simp only [hc,h182,h202]
            go_simp)),
             (step_ex _ rfl (.inl rfl) rfl (fun a ww hw hf hd=>by
            have h203:a.eval (.tmp 203)=Value.bool false:=((knows_in 29 203 (by decide) (by kernel_rfl) rfl rfl):Knows _ _ _ _ _ _ 30 _ _) a ww hw hf hd
            revert h203
            generalize a.eval=ev
            intro h203
            unfold execOp
            simp only [h203]
            go_simp)),
             (step_ex _ rfl (.inr ⟨30,false,204,rfl,by decide,by kernel_rfl,rfl,fun _ _ h=>h⟩) rfl (fun a ww hw hf hd=>by
            have h26:a.eval (.tmp 26)=Value.pointer (some ⟨b,0,none⟩):=((knows_out 26 (by kernel_rfl) rfl):Knows _ _ _ _ _ _ 31 _ _) a ww hw hf hd
            revert h26
            generalize a.eval=ev
            intro h26
            unfold execOp
            simp only [h26]
            go_simp)),
             (step_ex _ rfl (.inr ⟨30,false,204,rfl,by decide,by kernel_rfl,rfl,fun _ _ h=>h⟩) rfl (fun a ww hw hf hd=>by
            have h205:a.eval (.tmp 205)=Value.pointer (some ⟨b,0,none⟩):=((knows_in 31 205 (by decide) (by kernel_rfl) rfl rfl):Knows _ _ _ _ _ _ 32 _ _) a ww hw hf hd
            have f0:=cellB y0 hw
            revert h205
            generalize a.eval=ev
            intro h205
            unfold execOp
            simp only [h205]
            go_simp)),
             (step_ex _ rfl (.inr ⟨30,false,204,rfl,by decide,by kernel_rfl,rfl,fun _ _ h=>h⟩) rfl (fun a ww hw hf hd=>by
            have h206:a.eval (.tmp 206)=Value.int .i64 t.1:=((knows_in 32 206 (by decide) (by kernel_rfl) rfl rfl):Knows _ _ _ _ _ _ 33 _ _) a ww hw hf hd
            have f0:=(show ¬t.1=4 by omega)
            have hc:=ec a
            revert hc h206
            generalize a.eval=ev
            intro hc h206
            unfold execOp
            simp only [hc,h206]
            go_simp)),
             (step_ex _ rfl (.inr ⟨30,false,204,rfl,by decide,by kernel_rfl,rfl,fun _ _ h=>h⟩) rfl (fun a ww hw hf hd=>by
            have h207:a.eval (.tmp 207)=Value.bool false:=((knows_in 33 207 (by decide) (by kernel_rfl) rfl rfl):Knows _ _ _ _ _ _ 34 _ _) a ww hw hf hd
            revert h207
            generalize a.eval=ev
            intro h207
            unfold execOp
            simp only [h207]
            go_simp)),
             (step_ex _ rfl (.inr ⟨34,false,208,rfl,by decide,by kernel_rfl,rfl,fun _ _ h=>h⟩) rfl (fun a ww hw hf hd=>by
            have h26:a.eval (.tmp 26)=Value.pointer (some ⟨b,0,none⟩):=((knows_out 26 (by kernel_rfl) rfl):Knows _ _ _ _ _ _ 35 _ _) a ww hw hf hd
            revert h26
            generalize a.eval=ev
            intro h26
            unfold execOp
            simp only [h26]
            go_simp)),
             (step_ex _ rfl (.inr ⟨34,false,208,rfl,by decide,by kernel_rfl,rfl,fun _ _ h=>h⟩) rfl (fun a ww hw hf hd=>by
            have h209:a.eval (.tmp 209)=Value.pointer (some ⟨b,0,none⟩):=((knows_in 35 209 (by decide) (by kernel_rfl) rfl rfl):Knows _ _ _ _ _ _ 36 _ _) a ww hw hf hd
            have f0:=cellB y0 hw
            revert h209
            generalize a.eval=ev
            intro h209
            unfold execOp
            simp only [h209]
            go_simp)),
             (step_ex _ rfl (.inr ⟨34,false,208,rfl,by decide,by kernel_rfl,rfl,fun _ _ h=>h⟩) rfl (fun a ww hw hf hd=>by
            have h210:a.eval (.tmp 210)=Value.int .i64 t.1:=((knows_in 36 210 (by decide) (by kernel_rfl) rfl rfl):Knows _ _ _ _ _ _ 37 _ _) a ww hw hf hd
            have f0:=(show ¬t.1=5 by omega)
            have hc:=ec a
            revert hc h210
            generalize a.eval=ev
            intro hc h210
            unfold execOp
            simp only [hc,h210]
            go_simp)),
             (step_ex _ rfl (.inr ⟨30,false,204,rfl,by decide,by kernel_rfl,rfl,fun _ _ h=>h⟩) rfl (fun a ww hw hf hd=>by
            have h208:a.eval (.tmp 208)=Value.bool false:=((knows_in 34 208 (by decide) (by kernel_rfl) rfl rfl):Knows _ _ _ _ _ _ 38 _ _) a ww hw hf hd
            have h211:a.eval (.tmp 211)=Value.bool false:=((knows_in 37 211 (by decide) (by kernel_rfl) rfl rfl):Knows _ _ _ _ _ _ 38 _ _) a ww hw hf hd
            have hc:=ec a
            revert hc h208 h211
            generalize a.eval=ev
            intro hc h208 h211
            unfold execOp
            simp only [hc,h208,h211]
            go_simp)),
             (step_ex _ rfl (.inr ⟨30,false,204,rfl,by decide,by kernel_rfl,rfl,fun _ _ h=>h⟩) rfl (fun a ww hw hf hd=>by
            have h212:a.eval (.tmp 212)=Value.bool false:=((knows_in 38 212 (by decide) (by kernel_rfl) rfl rfl):Knows _ _ _ _ _ _ 39 _ _) a ww hw hf hd
            revert h212
            generalize a.eval=ev
            intro h212
            unfold execOp
            simp only [h212]
            go_simp)),
             (step_ex _ rfl (.inr ⟨39,false,213,rfl,by decide,by kernel_rfl,rfl,fun _ _ h=>h⟩) rfl (fun a ww hw hf hd=>by
            have h26:a.eval (.tmp 26)=Value.pointer (some ⟨b,0,none⟩):=((knows_out 26 (by kernel_rfl) rfl):Knows _ _ _ _ _ _ 40 _ _) a ww hw hf hd
            revert h26
            generalize a.eval=ev
            intro h26
            unfold execOp
            simp only [h26]
            go_simp)),
             (step_ex _ rfl (.inr ⟨39,false,213,rfl,by decide,by kernel_rfl,rfl,fun _ _ h=>h⟩) rfl (fun a ww hw hf hd=>by
            have h214:a.eval (.tmp 214)=Value.pointer (some ⟨b,0,none⟩):=((knows_in 40 214 (by decide) (by kernel_rfl) rfl rfl):Knows _ _ _ _ _ _ 41 _ _) a ww hw hf hd
            have f0:=cellB y0 hw
            revert h214
            generalize a.eval=ev
            intro h214
            unfold execOp
            simp only [h214]
            go_simp)),
             (step_ex _ rfl (.inr ⟨39,false,213,rfl,by decide,by kernel_rfl,rfl,fun _ _ h=>h⟩) rfl (fun a ww hw hf hd=>by
            have h215:a.eval (.tmp 215)=Value.int .i64 t.1:=((knows_in 41 215 (by decide) (by kernel_rfl) rfl rfl):Knows _ _ _ _ _ _ 42 _ _) a ww hw hf hd
            have f0:=(show ¬t.1=8 by omega)
            have hc:=ec a
            revert hc h215
            generalize a.eval=ev
            intro hc h215
            unfold execOp
            simp only [hc,h215]
            go_simp)),
             (step_ex _ rfl (.inr ⟨30,false,204,rfl,by decide,by kernel_rfl,rfl,fun _ _ h=>h⟩) rfl (fun a ww hw hf hd=>by
            have h213:a.eval (.tmp 213)=Value.bool false:=((knows_in 39 213 (by decide) (by kernel_rfl) rfl rfl):Knows _ _ _ _ _ _ 43 _ _) a ww hw hf hd
            have h216:a.eval (.tmp 216)=Value.bool false:=((knows_in 42 216 (by decide) (by kernel_rfl) rfl rfl):Knows _ _ _ _ _ _ 43 _ _) a ww hw hf hd
            have hc:=ec a
            revert hc h213 h216
            generalize a.eval=ev
            intro hc h213 h216
            unfold execOp
            simp only [hc,h213,h216]
            go_simp)),
             (step_ex _ rfl (.inr ⟨30,false,204,rfl,by decide,by kernel_rfl,rfl,fun _ _ h=>h⟩) rfl (fun a ww hw hf hd=>by
            have h217:a.eval (.tmp 217)=Value.bool false:=((knows_in 43 217 (by decide) (by kernel_rfl) rfl rfl):Knows _ _ _ _ _ _ 44 _ _) a ww hw hf hd
            revert h217
            generalize a.eval=ev
            intro h217
            unfold execOp
            simp only [h217]
            go_simp)),
             (step_off rfl ⟨44,true,218,rfl,by decide,by kernel_rfl,rfl,fun _ _ h=>.inl h⟩ (fun _=>rfl)),
             (step_off rfl ⟨44,true,218,rfl,by decide,by kernel_rfl,rfl,fun _ _ h=>.inl h⟩ (fun _=>rfl)),
             (step_off rfl ⟨44,true,218,rfl,by decide,by kernel_rfl,rfl,fun _ _ h=>.inl h⟩ (fun _=>rfl)),
             (step_off rfl ⟨44,true,218,rfl,by decide,by kernel_rfl,rfl,fun _ _ h=>.inl h⟩ (fun _=>rfl)),
             (step_ex _ rfl (.inr ⟨30,false,204,rfl,by decide,by kernel_rfl,rfl,fun _ _ h=>h⟩) rfl (fun a ww hw hf hd=>by
            have h218:a.eval (.tmp 218)=Value.bool false:=((knows_in 44 218 (by decide) (by kernel_rfl) rfl rfl):Knows _ _ _ _ _ _ 49 _ _) a ww hw hf hd
            have hc:=ec a
            revert hc h218
            generalize a.eval=ev
            intro hc h218
            unfold execOp
            simp only [hc,h218]
            go_simp)),trivial⟩ ?_
           intro val W12 hw hS _ _
           have e204:val 204=Value.bool false:=hS 30 204 (by decide) rfl
           have e223:val 223=Value.bool false:=hS 49 223 (by decide) rfl
           simp only [putVals,List.foldl_cons,List.foldl_nil,List.drop_succ_cons,List.drop_zero,Act.put,List.setIfInBounds_toArray,List.set_cons_succ,List.set_cons_zero,e204,e223]
           clear e204 e223 hS
           go_wp2
           gi_wp2
           exact hpost _ hw
         ·rcases hk with hk|hk|hk
          ·have hsA:=hsa ha0 ha1
           by_cases hsm:r<1048576
           ·have hgr:=hgrow (by omega) (by omega) hsm
            refine region_round 50 225 (fun _=>false) [Is (Value.pointer (some ⟨b,0,none⟩)),Is (Value.int .i64 t.1),Is (Value.bool true),Is (Value.bool true),Is (Value.pointer (some ⟨b,0,none⟩)),Is (Value.int .i64 t.1),Is (Value.bool true),Is (Value.bool true),Is (Value.bool true),Is (Value.pointer (some ⟨b,1,none⟩)),Is (Value.int .i64 t.2.1),Is (Value.int .i64 i),Is (Value.bool false),Is (Value.bool false),Is (Value.pointer (some ⟨p,0,none⟩)),Is (Value.int .i64 i),Is (Value.int .i64 r),Is (Value.bool true),Is (Value.bool true),Is (Value.pointer (some ⟨p,0,none⟩)),Is (Value.pointer (some ⟨b,1,none⟩)),Is (Value.int .i64 t.2.1),Is (Value.int .i64 ra),Is (Value.pointer (some ⟨p,0,none⟩)),Is (Value.int .i64 i),Is (Value.int .i64 r),Is (Value.bool false),Is (Value.bool false),Is (Value.bool false),Is (Value.bool false),Is (Value.bool false),Is (Value.pointer (some ⟨b,0,none⟩)),Is (Value.int .i64 t.1),Is (Value.bool true),Is (Value.bool true),Is (undef),Is (undef),Is (undef),Is (Value.bool true),Is (Value.bool true),Is (undef),Is (undef),Is (undef),Is (Value.bool true),Is (Value.bool true),Is (Value.pointer (some ⟨b,2,none⟩)),Is (Value.int .i64 t.2.2),Is (Value.int .i64 i),Is (Value.bool false),Is (Value.bool false)] [174,175,176,177,178,179,180,181,182,183,184,185,186,187,188,189,190,191,192,193,194,195,196,197,198,199,200,201,202,203,204,205,206,207,208,209,210,211,212,213,214,215,216,217,218,219,220,221,222,223] (by kernel_rfl) (by kernel_rfl) (by kernel_rfl) (Nat.le_of_eq rfl) rfl (fun h=>by obtain ⟨_,_,h⟩:=h;exact h) (grows_cons (Is.grows _) (grows_cons (Is.grows _) (grows_cons (Is.grows _) (grows_cons (Is.grows _) (grows_cons (Is.grows _) (grows_cons (Is.grows _) (grows_cons (Is.grows _) (grows_cons (Is.grows _) (grows_cons (Is.grows _) (grows_cons (Is.grows _) (grows_cons (Is.grows _) (grows_cons (Is.grows _) (grows_cons (Is.grows _) (grows_cons (Is.grows _) (grows_cons (Is.grows _) (grows_cons (Is.grows _) (grows_cons (Is.grows _) (grows_cons (Is.grows _) (grows_cons (Is.grows _) (grows_cons (Is.grows _) (grows_cons (Is.grows _) (grows_cons (Is.grows _) (grows_cons (Is.grows _) (grows_cons (Is.grows _) (grows_cons (Is.grows _) (grows_cons (Is.grows _) (grows_cons (Is.grows _) (grows_cons (Is.grows _) (grows_cons (Is.grows _) (grows_cons (Is.grows _) (grows_cons (Is.grows _) (grows_cons (Is.grows _) (grows_cons (Is.grows _) (grows_cons (Is.grows _) (grows_cons (Is.grows _) (grows_cons (Is.grows _) (grows_cons (Is.grows _) (grows_cons (Is.grows _) (grows_cons (Is.grows _) (grows_cons (Is.grows _) (grows_cons (Is.grows _) (grows_cons (Is.grows _) (grows_cons (Is.grows _) (grows_cons (Is.grows _) (grows_cons (Is.grows _) (grows_cons (Is.grows _) (grows_cons (Is.grows _) (grows_cons (Is.grows _) (grows_cons (Is.grows _) (grows_cons (Is.grows _) grows_nil))))))))))))))))))))))))))))))))))))))))))))))))))
             ⟨(step_ex _ rfl (.inl rfl) rfl (fun a ww hw hf hd=>by
             have h26:a.eval (.tmp 26)=Value.pointer (some ⟨b,0,none⟩):=((knows_out 26 (by kernel_rfl) rfl):Knows _ _ _ _ _ _ 0 _ _) a ww hw hf hd
             revert h26
             generalize a.eval=ev
             intro h26
             unfold execOp
             simp only [h26]
             go_simp)),
              (step_ex _ rfl (.inl rfl) rfl (fun a ww hw hf hd=>by
             have h174:a.eval (.tmp 174)=Value.pointer (some ⟨b,0,none⟩):=((knows_in 0 174 (by decide) (by kernel_rfl) rfl rfl):Knows _ _ _ _ _ _ 1 _ _) a ww hw hf hd
             have f0:=cellB y0 hw
             revert h174
             generalize a.eval=ev
             intro h174
             unfold execOp
             simp only [h174]
             go_simp)),
              (step_ex _ rfl (.inl rfl) rfl (fun a ww hw hf hd=>by
             have h175:a.eval (.tmp 175)=Value.int .i64 t.1:=((knows_in 1 175 (by decide) (by kernel_rfl) rfl rfl):Knows _ _ _ _ _ _ 2 _ _) a ww hw hf hd
             have f0:=(show ¬t.1=1 by omega)
             have hc:=ec a
             revert hc h175
             generalize a.eval=ev
             intro hc h175
             unfold execOp
             simp only [hc,h175]
             go_simp)),
              (step_ex _ rfl (.inl rfl) rfl (fun a ww hw hf hd=>by
             have h176:a.eval (.tmp 176)=Value.bool true:=((knows_in 2 176 (by decide) (by kernel_rfl) rfl rfl):Knows _ _ _ _ _ _ 3 _ _) a ww hw hf hd
             revert h176
             generalize a.eval=ev
             intro h176
             unfold execOp
             simp only [h176]
             go_simp)),
              (step_ex _ rfl (.inr ⟨3,true,177,rfl,by decide,by kernel_rfl,rfl,fun _ _ h=>h⟩) rfl (fun a ww hw hf hd=>by
             have h26:a.eval (.tmp 26)=Value.pointer (some ⟨b,0,none⟩):=((knows_out 26 (by kernel_rfl) rfl):Knows _ _ _ _ _ _ 4 _ _) a ww hw hf hd
             revert h26
             generalize a.eval=ev
             intro h26
             unfold execOp
             simp only [h26]
             go_simp)),
              (step_ex _ rfl (.inr ⟨3,true,177,rfl,by decide,by kernel_rfl,rfl,fun _ _ h=>h⟩) rfl (fun a ww hw hf hd=>by
             have h178:a.eval (.tmp 178)=Value.pointer (some ⟨b,0,none⟩):=((knows_in 4 178 (by decide) (by kernel_rfl) rfl rfl):Knows _ _ _ _ _ _ 5 _ _) a ww hw hf hd
             have f0:=cellB y0 hw
             revert h178
             generalize a.eval=ev
             intro h178
             unfold execOp
             simp only [h178]
             go_simp)),
              (step_ex _ rfl (.inr ⟨3,true,177,rfl,by decide,by kernel_rfl,rfl,fun _ _ h=>h⟩) rfl (fun a ww hw hf hd=>by
             have h179:a.eval (.tmp 179)=Value.int .i64 t.1:=((knows_in 5 179 (by decide) (by kernel_rfl) rfl rfl):Knows _ _ _ _ _ _ 6 _ _) a ww hw hf hd
             have f0:=(show ¬t.1=9 by omega)
             have hc:=ec a
             revert hc h179
             generalize a.eval=ev
             intro hc h179
             unfold execOp
             simp only [hc,h179]
             go_simp)),
              (step_ex _ rfl (.inl rfl) rfl (fun a ww hw hf hd=>by
             have h177:a.eval (.tmp 177)=Value.bool true:=((knows_in 3 177 (by decide) (by kernel_rfl) rfl rfl):Knows _ _ _ _ _ _ 7 _ _) a ww hw hf hd
             have h180:a.eval (.tmp 180)=Value.bool true:=((knows_in 6 180 (by decide) (by kernel_rfl) rfl rfl):Knows _ _ _ _ _ _ 7 _ _) a ww hw hf hd
             have hc:=ec a
             revert hc h177 h180
             generalize a.eval=ev
             intro hc h177 h180
             unfold execOp
             simp only [hc,h177,h180]
             go_simp)),
              (step_ex _ rfl (.inl rfl) rfl (fun a ww hw hf hd=>by
             have h181:a.eval (.tmp 181)=Value.bool true:=((knows_in 7 181 (by decide) (by kernel_rfl) rfl rfl):Knows _ _ _ _ _ _ 8 _ _) a ww hw hf hd
             revert h181
             generalize a.eval=ev
             intro h181
             unfold execOp
             simp only [h181]
             go_simp)),
              (step_ex _ rfl (.inr ⟨8,true,182,rfl,by decide,by kernel_rfl,rfl,fun _ _ h=>h⟩) rfl (fun a ww hw hf hd=>by
             have h26:a.eval (.tmp 26)=Value.pointer (some ⟨b,0,none⟩):=((knows_out 26 (by kernel_rfl) rfl):Knows _ _ _ _ _ _ 9 _ _) a ww hw hf hd
             revert h26
             generalize a.eval=ev
             intro h26
             unfold execOp
             simp only [h26]
             go_simp)),
              (step_ex _ rfl (.inr ⟨8,true,182,rfl,by decide,by kernel_rfl,rfl,fun _ _ h=>h⟩) rfl (fun a ww hw hf hd=>by
             have h183:a.eval (.tmp 183)=Value.pointer (some ⟨b,1,none⟩):=((knows_in 9 183 (by decide) (by kernel_rfl) rfl rfl):Knows _ _ _ _ _ _ 10 _ _) a ww hw hf hd
             have f0:=cellB y1 hw
             revert h183
             generalize a.eval=ev
             intro h183
             unfold execOp
             simp only [h183]
             go_simp)),
              (step_ex _ rfl (.inr ⟨8,true,182,rfl,by decide,by kernel_rfl,rfl,fun _ _ h=>h⟩) rfl (fun a ww hw hf hd=>by
             have h25:a.eval (.tmp 25)=Value.int .i64 i:=((knows_out 25 (by kernel_rfl) rfl):Knows _ _ _ _ _ _ 11 _ _) a ww hw hf hd
             revert h25
             generalize a.eval=ev
             intro h25
             unfold execOp
             simp only [h25]
             go_simp)),
              (step_ex _ rfl (.inr ⟨8,true,182,rfl,by decide,by kernel_rfl,rfl,fun _ _ h=>h⟩) rfl (fun a ww hw hf hd=>by
             have h184:a.eval (.tmp 184)=Value.int .i64 t.2.1:=((knows_in 10 184 (by decide) (by kernel_rfl) rfl rfl):Knows _ _ _ _ _ _ 12 _ _) a ww hw hf hd
             have h185:a.eval (.tmp 185)=Value.int .i64 i:=((knows_in 11 185 (by decide) (by kernel_rfl) rfl rfl):Knows _ _ _ _ _ _ 12 _ _) a ww hw hf hd
             have f0:=(show ¬(i:Int)≤t.2.1 by omega)
             have f1:=(show t.2.1<(i:Int) by omega)
             revert h184 h185
             generalize a.eval=ev
             intro h184 h185
             unfold execOp
             simp only [h184,h185]
             go_simp)),
              (step_ex _ rfl (.inr ⟨8,true,182,rfl,by decide,by kernel_rfl,rfl,fun _ _ h=>h⟩) rfl (fun a ww hw hf hd=>by
             have h186:a.eval (.tmp 186)=Value.bool false:=((knows_in 12 186 (by decide) (by kernel_rfl) rfl rfl):Knows _ _ _ _ _ _ 13 _ _) a ww hw hf hd
             revert h186
             generalize a.eval=ev
             intro h186
             unfold execOp
             simp only [h186]
             go_simp)),
              (step_ex _ rfl (.inr ⟨13,false,187,rfl,by decide,by kernel_rfl,rfl,fun _ _ h=>h⟩) rfl (fun a ww hw hf hd=>by
             have h10:a.eval (.tmp 10)=Value.pointer (some ⟨s4,0,none⟩):=((knows_out 10 (by kernel_rfl) rfl):Knows _ _ _ _ _ _ 14 _ _) a ww hw hf hd
             have f0:=cellB b109 hw
             revert h10
             generalize a.eval=ev
             intro h10
             unfold execOp
             simp only [h10]
             go_simp)),
              (step_ex _ rfl (.inr ⟨13,false,187,rfl,by decide,by kernel_rfl,rfl,fun _ _ h=>h⟩) rfl (fun a ww hw hf hd=>by
             have h25:a.eval (.tmp 25)=Value.int .i64 i:=((knows_out 25 (by kernel_rfl) rfl):Knows _ _ _ _ _ _ 15 _ _) a ww hw hf hd
             revert h25
             generalize a.eval=ev
             intro h25
             unfold execOp
             simp only [h25]
             go_simp)),
              (step_cw rfl (.inr ⟨13,false,187,rfl,by decide,by kernel_rfl,rfl,fun _ _ h=>h⟩) rfl cxT14 rfl (fun aa ww hw hf hd=>⟨_,(two_args (knows_in 14 188 (by decide) (by kernel_rfl) rfl rfl) (knows_in 15 189 (by decide) (by kernel_rfl) rfl rfl)) aa ww hw hf hd,hsi ww hw⟩)),
              (step_ex _ rfl (.inr ⟨13,false,187,rfl,by decide,by kernel_rfl,rfl,fun _ _ h=>h⟩) rfl (fun a ww hw hf hd=>by
             have h190:a.eval (.tmp 190)=Value.int .i64 r:=((knows_in 16 190 (by decide) (by kernel_rfl) rfl rfl):Knows _ _ _ _ _ _ 17 _ _) a ww hw hf hd
             have f0:=hsm
             have hc:=ec a
             revert hc h190
             generalize a.eval=ev
             intro hc h190
             unfold execOp
             simp only [hc,h190]
             go_simp)),
              (step_ex _ rfl (.inr ⟨13,false,187,rfl,by decide,by kernel_rfl,rfl,fun _ _ h=>h⟩) rfl (fun a ww hw hf hd=>by
             have h191:a.eval (.tmp 191)=Value.bool true:=((knows_in 17 191 (by decide) (by kernel_rfl) rfl rfl):Knows _ _ _ _ _ _ 18 _ _) a ww hw hf hd
             revert h191
             generalize a.eval=ev
             intro h191
             unfold execOp
             simp only [h191]
             go_simp)),
              (step_ex _ rfl (.inr ⟨18,true,192,rfl,by decide,by kernel_rfl,rfl,fun _ _ h=>h⟩) rfl (fun a ww hw hf hd=>by
             have h10:a.eval (.tmp 10)=Value.pointer (some ⟨s4,0,none⟩):=((knows_out 10 (by kernel_rfl) rfl):Knows _ _ _ _ _ _ 19 _ _) a ww hw hf hd
             have f0:=cellB b109 hw
             revert h10
             generalize a.eval=ev
             intro h10
             unfold execOp
             simp only [h10]
             go_simp)),
              (step_ex _ rfl (.inr ⟨18,true,192,rfl,by decide,by kernel_rfl,rfl,fun _ _ h=>h⟩) rfl (fun a ww hw hf hd=>by
             have h26:a.eval (.tmp 26)=Value.pointer (some ⟨b,0,none⟩):=((knows_out 26 (by kernel_rfl) rfl):Knows _ _ _ _ _ _ 20 _ _) a ww hw hf hd
             revert h26
             generalize a.eval=ev
             intro h26
             unfold execOp
             simp only [h26]
             go_simp)),
              (step_ex _ rfl (.inr ⟨18,true,192,rfl,by decide,by kernel_rfl,rfl,fun _ _ h=>h⟩) rfl (fun a ww hw hf hd=>by
             have h194:a.eval (.tmp 194)=Value.pointer (some ⟨b,1,none⟩):=((knows_in 20 194 (by decide) (by kernel_rfl) rfl rfl):Knows _ _ _ _ _ _ 21 _ _) a ww hw hf hd
             have f0:=cellB y1 hw
             revert h194
             generalize a.eval=ev
             intro h194
             unfold execOp
             simp only [h194]
             go_simp)),
              (step_cw rfl (.inr ⟨18,true,192,rfl,by decide,by kernel_rfl,rfl,fun _ _ h=>h⟩) rfl cxT14 rfl (fun aa ww hw hf hd=>⟨_,(two_args (knows_in 19 193 (by decide) (by kernel_rfl) rfl rfl) (knows_in 21 195 (by decide) (by kernel_rfl) rfl rfl)) aa ww hw hf hd,hsA ww hw⟩)),
              (step_ex _ rfl (.inr ⟨18,true,192,rfl,by decide,by kernel_rfl,rfl,fun _ _ h=>h⟩) rfl (fun a ww hw hf hd=>by
             have h10:a.eval (.tmp 10)=Value.pointer (some ⟨s4,0,none⟩):=((knows_out 10 (by kernel_rfl) rfl):Knows _ _ _ _ _ _ 23 _ _) a ww hw hf hd
             have f0:=cellB b109 hw
             revert h10
             generalize a.eval=ev
             intro h10
             unfold execOp
             simp only [h10]
             go_simp)),
              (step_ex _ rfl (.inr ⟨18,true,192,rfl,by decide,by kernel_rfl,rfl,fun _ _ h=>h⟩) rfl (fun a ww hw hf hd=>by
             have h25:a.eval (.tmp 25)=Value.int .i64 i:=((knows_out 25 (by kernel_rfl) rfl):Knows _ _ _ _ _ _ 24 _ _) a ww hw hf hd
             revert h25
             generalize a.eval=ev
             intro h25
             unfold execOp
             simp only [h25]
             go_simp)),
              (step_cw rfl (.inr ⟨18,true,192,rfl,by decide,by kernel_rfl,rfl,fun _ _ h=>h⟩) rfl cxT14 rfl (fun aa ww hw hf hd=>⟨_,(two_args (knows_in 23 197 (by decide) (by kernel_rfl) rfl rfl) (knows_in 24 198 (by decide) (by kernel_rfl) rfl rfl)) aa ww hw hf hd,hsi ww hw⟩)),
              (step_ex _ rfl (.inr ⟨18,true,192,rfl,by decide,by kernel_rfl,rfl,fun _ _ h=>h⟩) rfl (fun a ww hw hf hd=>by
             have h196:a.eval (.tmp 196)=Value.int .i64 ra:=((knows_in 22 196 (by decide) (by kernel_rfl) rfl rfl):Knows _ _ _ _ _ _ 26 _ _) a ww hw hf hd
             have h199:a.eval (.tmp 199)=Value.int .i64 r:=((knows_in 25 199 (by decide) (by kernel_rfl) rfl rfl):Knows _ _ _ _ _ _ 26 _ _) a ww hw hf hd
             have f0:=hgr
             have f1:=Int.not_le.1 hgr
             revert h196 h199
             generalize a.eval=ev
             intro h196 h199
             unfold execOp
             simp only [h196,h199]
             go_simp)),
              (step_ex _ rfl (.inr ⟨13,false,187,rfl,by decide,by kernel_rfl,rfl,fun _ _ h=>h⟩) rfl (fun a ww hw hf hd=>by
             have h192:a.eval (.tmp 192)=Value.bool true:=((knows_in 18 192 (by decide) (by kernel_rfl) rfl rfl):Knows _ _ _ _ _ _ 27 _ _) a ww hw hf hd
             have h200:a.eval (.tmp 200)=Value.bool false:=((knows_in 26 200 (by decide) (by kernel_rfl) rfl rfl):Knows _ _ _ _ _ _ 27 _ _) a ww hw hf hd
             have hc:=ec a
             revert hc h192 h200
             generalize a.eval=ev
             intro hc h192 h200
             unfold execOp
             simp only [hc,h192,h200]
             go_simp)),
              (step_ex _ rfl (.inr ⟨8,true,182,rfl,by decide,by kernel_rfl,rfl,fun _ _ h=>h⟩) rfl (fun a ww hw hf hd=>by
             have h187:a.eval (.tmp 187)=Value.bool false:=((knows_in 13 187 (by decide) (by kernel_rfl) rfl rfl):Knows _ _ _ _ _ _ 28 _ _) a ww hw hf hd
             have h201:a.eval (.tmp 201)=Value.bool false:=((knows_in 27 201 (by decide) (by kernel_rfl) rfl rfl):Knows _ _ _ _ _ _ 28 _ _) a ww hw hf hd
             have hc:=ec a
             revert hc h187 h201
             generalize a.eval=ev
             intro hc h187 h201
             unfold execOp
             simp only [hc,h187,h201]
             go_simp)),
              (step_ex _ rfl (.inl rfl) rfl (fun a ww hw hf hd=>by
             have h182:a.eval (.tmp 182)=Value.bool true:=((knows_in 8 182 (by decide) (by kernel_rfl) rfl rfl):Knows _ _ _ _ _ _ 29 _ _) a ww hw hf hd
             have h202:a.eval (.tmp 202)=Value.bool false:=((knows_in 28 202 (by decide) (by kernel_rfl) rfl rfl):Knows _ _ _ _ _ _ 29 _ _) a ww hw hf hd
             have hc:=ec a
             revert hc h182 h202
             generalize a.eval=ev
             intro hc h182 h202
             unfold execOp
             simp only [hc,h182,h202]
             go_simp)),
              (step_ex _ rfl (.inl rfl) rfl (fun a ww hw hf hd=>by
             have h203:a.eval (.tmp 203)=Value.bool false:=((knows_in 29 203 (by decide) (by kernel_rfl) rfl rfl):Knows _ _ _ _ _ _ 30 _ _) a ww hw hf hd
             revert h203
             generalize a.eval=ev
             intro h203
             unfold execOp
             simp only [h203]
             go_simp)),
              (step_ex _ rfl (.inr ⟨30,false,204,rfl,by decide,by kernel_rfl,rfl,fun _ _ h=>h⟩) rfl (fun a ww hw hf hd=>by
             have h26:a.eval (.tmp 26)=Value.pointer (some ⟨b,0,none⟩):=((knows_out 26 (by kernel_rfl) rfl):Knows _ _ _ _ _ _ 31 _ _) a ww hw hf hd
             revert h26
             generalize a.eval=ev
             intro h26
             unfold execOp
             simp only [h26]
             go_simp)),
              (step_ex _ rfl (.inr ⟨30,false,204,rfl,by decide,by kernel_rfl,rfl,fun _ _ h=>h⟩) rfl (fun a ww hw hf hd=>by
             have h205:a.eval (.tmp 205)=Value.pointer (some ⟨b,0,none⟩):=((knows_in 31 205 (by decide) (by kernel_rfl) rfl rfl):Knows _ _ _ _ _ _ 32 _ _) a ww hw hf hd
             have f0:=cellB y0 hw
             revert h205
             generalize a.eval=ev
             intro h205
             unfold execOp
             simp only [h205]
             go_simp)),
              (step_ex _ rfl (.inr ⟨30,false,204,rfl,by decide,by kernel_rfl,rfl,fun _ _ h=>h⟩) rfl (fun a ww hw hf hd=>by
             have h206:a.eval (.tmp 206)=Value.int .i64 t.1:=((knows_in 32 206 (by decide) (by kernel_rfl) rfl rfl):Knows _ _ _ _ _ _ 33 _ _) a ww hw hf hd
             have f0:=(show t.1=4 by omega)
             have hc:=ec a
             revert hc h206
             generalize a.eval=ev
             intro hc h206
             unfold execOp
             simp only [hc,h206]
             go_simp)),
              (step_ex _ rfl (.inr ⟨30,false,204,rfl,by decide,by kernel_rfl,rfl,fun _ _ h=>h⟩) rfl (fun a ww hw hf hd=>by
             have h207:a.eval (.tmp 207)=Value.bool true:=((knows_in 33 207 (by decide) (by kernel_rfl) rfl rfl):Knows _ _ _ _ _ _ 34 _ _) a ww hw hf hd
             revert h207
             generalize a.eval=ev
             intro h207
             unfold execOp
             simp only [h207]
             go_simp)),
              (step_off rfl ⟨34,false,208,rfl,by decide,by kernel_rfl,rfl,fun _ _ h=>.inl h⟩ (fun _=>rfl)),
              (step_off rfl ⟨34,false,208,rfl,by decide,by kernel_rfl,rfl,fun _ _ h=>.inl h⟩ (fun _=>rfl)),
              (step_off rfl ⟨34,false,208,rfl,by decide,by kernel_rfl,rfl,fun _ _ h=>.inl h⟩ (fun _=>rfl)),
              (step_ex _ rfl (.inr ⟨30,false,204,rfl,by decide,by kernel_rfl,rfl,fun _ _ h=>h⟩) rfl (fun a ww hw hf hd=>by
             have h208:a.eval (.tmp 208)=Value.bool true:=((knows_in 34 208 (by decide) (by kernel_rfl) rfl rfl):Knows _ _ _ _ _ _ 38 _ _) a ww hw hf hd
             have hc:=ec a
             revert hc h208
             generalize a.eval=ev
             intro hc h208
             unfold execOp
             simp only [hc,h208]
             go_simp)),
              (step_ex _ rfl (.inr ⟨30,false,204,rfl,by decide,by kernel_rfl,rfl,fun _ _ h=>h⟩) rfl (fun a ww hw hf hd=>by
             have h212:a.eval (.tmp 212)=Value.bool true:=((knows_in 38 212 (by decide) (by kernel_rfl) rfl rfl):Knows _ _ _ _ _ _ 39 _ _) a ww hw hf hd
             revert h212
             generalize a.eval=ev
             intro h212
             unfold execOp
             simp only [h212]
             go_simp)),
              (step_off rfl ⟨39,false,213,rfl,by decide,by kernel_rfl,rfl,fun _ _ h=>.inl h⟩ (fun _=>rfl)),
              (step_off rfl ⟨39,false,213,rfl,by decide,by kernel_rfl,rfl,fun _ _ h=>.inl h⟩ (fun _=>rfl)),
              (step_off rfl ⟨39,false,213,rfl,by decide,by kernel_rfl,rfl,fun _ _ h=>.inl h⟩ (fun _=>rfl)),
              (step_ex _ rfl (.inr ⟨30,false,204,rfl,by decide,by kernel_rfl,rfl,fun _ _ h=>h⟩) rfl (fun a ww hw hf hd=>by
             have h213:a.eval (.tmp 213)=Value.bool true:=((knows_in 39 213 (by decide) (by kernel_rfl) rfl rfl):Knows _ _ _ _ _ _ 43 _ _) a ww hw hf hd
             have hc:=ec a
             revert hc h213
             generalize a.eval=ev
             intro hc h213
             unfold execOp
             simp only [hc,h213]
             go_simp)),
              (step_ex _ rfl (.inr ⟨30,false,204,rfl,by decide,by kernel_rfl,rfl,fun _ _ h=>h⟩) rfl (fun a ww hw hf hd=>by
             have h217:a.eval (.tmp 217)=Value.bool true:=((knows_in 43 217 (by decide) (by kernel_rfl) rfl rfl):Knows _ _ _ _ _ _ 44 _ _) a ww hw hf hd
             revert h217
             generalize a.eval=ev
             intro h217
             unfold execOp
             simp only [h217]
             go_simp)),
              (step_ex _ rfl (.inr ⟨44,true,218,rfl,by decide,by kernel_rfl,rfl,fun _ _ h=>h⟩) rfl (fun a ww hw hf hd=>by
             have h26:a.eval (.tmp 26)=Value.pointer (some ⟨b,0,none⟩):=((knows_out 26 (by kernel_rfl) rfl):Knows _ _ _ _ _ _ 45 _ _) a ww hw hf hd
             revert h26
             generalize a.eval=ev
             intro h26
             unfold execOp
             simp only [h26]
             go_simp)),
              (step_ex _ rfl (.inr ⟨44,true,218,rfl,by decide,by kernel_rfl,rfl,fun _ _ h=>h⟩) rfl (fun a ww hw hf hd=>by
             have h219:a.eval (.tmp 219)=Value.pointer (some ⟨b,2,none⟩):=((knows_in 45 219 (by decide) (by kernel_rfl) rfl rfl):Knows _ _ _ _ _ _ 46 _ _) a ww hw hf hd
             have f0:=cellB y2 hw
             revert h219
             generalize a.eval=ev
             intro h219
             unfold execOp
             simp only [h219]
             go_simp)),
              (step_ex _ rfl (.inr ⟨44,true,218,rfl,by decide,by kernel_rfl,rfl,fun _ _ h=>h⟩) rfl (fun a ww hw hf hd=>by
             have h25:a.eval (.tmp 25)=Value.int .i64 i:=((knows_out 25 (by kernel_rfl) rfl):Knows _ _ _ _ _ _ 47 _ _) a ww hw hf hd
             revert h25
             generalize a.eval=ev
             intro h25
             unfold execOp
             simp only [h25]
             go_simp)),
              (step_ex _ rfl (.inr ⟨44,true,218,rfl,by decide,by kernel_rfl,rfl,fun _ _ h=>h⟩) rfl (fun a ww hw hf hd=>by
             have h220:a.eval (.tmp 220)=Value.int .i64 t.2.2:=((knows_in 46 220 (by decide) (by kernel_rfl) rfl rfl):Knows _ _ _ _ _ _ 48 _ _) a ww hw hf hd
             have h221:a.eval (.tmp 221)=Value.int .i64 i:=((knows_in 47 221 (by decide) (by kernel_rfl) rfl rfl):Knows _ _ _ _ _ _ 48 _ _) a ww hw hf hd
             have f0:=(show ¬(i:Int)≤t.2.2 by omega)
             have f1:=(show t.2.2<(i:Int) by omega)
             revert h220 h221
             generalize a.eval=ev
             intro h220 h221
             unfold execOp
             simp only [h220,h221]
             go_simp)),
              (step_ex _ rfl (.inr ⟨30,false,204,rfl,by decide,by kernel_rfl,rfl,fun _ _ h=>h⟩) rfl (fun a ww hw hf hd=>by
             have h218:a.eval (.tmp 218)=Value.bool true:=((knows_in 44 218 (by decide) (by kernel_rfl) rfl rfl):Knows _ _ _ _ _ _ 49 _ _) a ww hw hf hd
             have h222:a.eval (.tmp 222)=Value.bool false:=((knows_in 48 222 (by decide) (by kernel_rfl) rfl rfl):Knows _ _ _ _ _ _ 49 _ _) a ww hw hf hd
             have hc:=ec a
             revert hc h218 h222
             generalize a.eval=ev
             intro hc h218 h222
             unfold execOp
             simp only [hc,h218,h222]
             go_simp)),trivial⟩ ?_
            intro val W12 hw hS _ _
            have e204:val 204=Value.bool false:=hS 30 204 (by decide) rfl
            have e223:val 223=Value.bool false:=hS 49 223 (by decide) rfl
            simp only [putVals,List.foldl_cons,List.foldl_nil,List.drop_succ_cons,List.drop_zero,Act.put,List.setIfInBounds_toArray,List.set_cons_succ,List.set_cons_zero,e204,e223]
            clear e204 e223 hS
            go_wp2
            gi_wp2
            exact hpost _ hw
           ·skip
            refine region_round 50 225 (fun _=>false) [Is (Value.pointer (some ⟨b,0,none⟩)),Is (Value.int .i64 t.1),Is (Value.bool true),Is (Value.bool true),Is (Value.pointer (some ⟨b,0,none⟩)),Is (Value.int .i64 t.1),Is (Value.bool true),Is (Value.bool true),Is (Value.bool true),Is (Value.pointer (some ⟨b,1,none⟩)),Is (Value.int .i64 t.2.1),Is (Value.int .i64 i),Is (Value.bool false),Is (Value.bool false),Is (Value.pointer (some ⟨p,0,none⟩)),Is (Value.int .i64 i),Is (Value.int .i64 r),Is (Value.bool false),Is (Value.bool false),Is (undef),Is (undef),Is (undef),Is (undef),Is (undef),Is (undef),Is (undef),Is (undef),Is (Value.bool false),Is (Value.bool false),Is (Value.bool false),Is (Value.bool false),Is (Value.pointer (some ⟨b,0,none⟩)),Is (Value.int .i64 t.1),Is (Value.bool true),Is (Value.bool true),Is (undef),Is (undef),Is (undef),Is (Value.bool true),Is (Value.bool true),Is (undef),Is (undef),Is (undef),Is (Value.bool true),Is (Value.bool true),Is (Value.pointer (some ⟨b,2,none⟩)),Is (Value.int .i64 t.2.2),Is (Value.int .i64 i),Is (Value.bool false),Is (Value.bool false)] [174,175,176,177,178,179,180,181,182,183,184,185,186,187,188,189,190,191,192,193,194,195,196,197,198,199,200,201,202,203,204,205,206,207,208,209,210,211,212,213,214,215,216,217,218,219,220,221,222,223] (by kernel_rfl) (by kernel_rfl) (by kernel_rfl) (Nat.le_of_eq rfl) rfl (fun h=>by obtain ⟨_,_,h⟩:=h;exact h) (grows_cons (Is.grows _) (grows_cons (Is.grows _) (grows_cons (Is.grows _) (grows_cons (Is.grows _) (grows_cons (Is.grows _) (grows_cons (Is.grows _) (grows_cons (Is.grows _) (grows_cons (Is.grows _) (grows_cons (Is.grows _) (grows_cons (Is.grows _) (grows_cons (Is.grows _) (grows_cons (Is.grows _) (grows_cons (Is.grows _) (grows_cons (Is.grows _) (grows_cons (Is.grows _) (grows_cons (Is.grows _) (grows_cons (Is.grows _) (grows_cons (Is.grows _) (grows_cons (Is.grows _) (grows_cons (Is.grows _) (grows_cons (Is.grows _) (grows_cons (Is.grows _) (grows_cons (Is.grows _) (grows_cons (Is.grows _) (grows_cons (Is.grows _) (grows_cons (Is.grows _) (grows_cons (Is.grows _) (grows_cons (Is.grows _) (grows_cons (Is.grows _) (grows_cons (Is.grows _) (grows_cons (Is.grows _) (grows_cons (Is.grows _) (grows_cons (Is.grows _) (grows_cons (Is.grows _) (grows_cons (Is.grows _) (grows_cons (Is.grows _) (grows_cons (Is.grows _) (grows_cons (Is.grows _) (grows_cons (Is.grows _) (grows_cons (Is.grows _) (grows_cons (Is.grows _) (grows_cons (Is.grows _) (grows_cons (Is.grows _) (grows_cons (Is.grows _) (grows_cons (Is.grows _) (grows_cons (Is.grows _) (grows_cons (Is.grows _) (grows_cons (Is.grows _) (grows_cons (Is.grows _) (grows_cons (Is.grows _) grows_nil))))))))))))))))))))))))))))))))))))))))))))))))))
             ⟨(step_ex _ rfl (.inl rfl) rfl (fun a ww hw hf hd=>by
             have h26:a.eval (.tmp 26)=Value.pointer (some ⟨b,0,none⟩):=((knows_out 26 (by kernel_rfl) rfl):Knows _ _ _ _ _ _ 0 _ _) a ww hw hf hd
             revert h26
             generalize a.eval=ev
             intro h26
             unfold execOp
             simp only [h26]
             go_simp)),
              (step_ex _ rfl (.inl rfl) rfl (fun a ww hw hf hd=>by
             have h174:a.eval (.tmp 174)=Value.pointer (some ⟨b,0,none⟩):=((knows_in 0 174 (by decide) (by kernel_rfl) rfl rfl):Knows _ _ _ _ _ _ 1 _ _) a ww hw hf hd
             have f0:=cellB y0 hw
             revert h174
             generalize a.eval=ev
             intro h174
             unfold execOp
             simp only [h174]
             go_simp)),
              (step_ex _ rfl (.inl rfl) rfl (fun a ww hw hf hd=>by
             have h175:a.eval (.tmp 175)=Value.int .i64 t.1:=((knows_in 1 175 (by decide) (by kernel_rfl) rfl rfl):Knows _ _ _ _ _ _ 2 _ _) a ww hw hf hd
             have f0:=(show ¬t.1=1 by omega)
             have hc:=ec a
             revert hc h175
             generalize a.eval=ev
             intro hc h175
             unfold execOp
             simp only [hc,h175]
             go_simp)),
              (step_ex _ rfl (.inl rfl) rfl (fun a ww hw hf hd=>by
             have h176:a.eval (.tmp 176)=Value.bool true:=((knows_in 2 176 (by decide) (by kernel_rfl) rfl rfl):Knows _ _ _ _ _ _ 3 _ _) a ww hw hf hd
             revert h176
             generalize a.eval=ev
             intro h176
             unfold execOp
             simp only [h176]
             go_simp)),
              (step_ex _ rfl (.inr ⟨3,true,177,rfl,by decide,by kernel_rfl,rfl,fun _ _ h=>h⟩) rfl (fun a ww hw hf hd=>by
             have h26:a.eval (.tmp 26)=Value.pointer (some ⟨b,0,none⟩):=((knows_out 26 (by kernel_rfl) rfl):Knows _ _ _ _ _ _ 4 _ _) a ww hw hf hd
             revert h26
             generalize a.eval=ev
             intro h26
             unfold execOp
             simp only [h26]
             go_simp)),
              (step_ex _ rfl (.inr ⟨3,true,177,rfl,by decide,by kernel_rfl,rfl,fun _ _ h=>h⟩) rfl (fun a ww hw hf hd=>by
             have h178:a.eval (.tmp 178)=Value.pointer (some ⟨b,0,none⟩):=((knows_in 4 178 (by decide) (by kernel_rfl) rfl rfl):Knows _ _ _ _ _ _ 5 _ _) a ww hw hf hd
             have f0:=cellB y0 hw
             revert h178
             generalize a.eval=ev
             intro h178
             unfold execOp
             simp only [h178]
             go_simp)),
              (step_ex _ rfl (.inr ⟨3,true,177,rfl,by decide,by kernel_rfl,rfl,fun _ _ h=>h⟩) rfl (fun a ww hw hf hd=>by
             have h179:a.eval (.tmp 179)=Value.int .i64 t.1:=((knows_in 5 179 (by decide) (by kernel_rfl) rfl rfl):Knows _ _ _ _ _ _ 6 _ _) a ww hw hf hd
             have f0:=(show ¬t.1=9 by omega)
             have hc:=ec a
             revert hc h179
             generalize a.eval=ev
             intro hc h179
             unfold execOp
             simp only [hc,h179]
             go_simp)),
              (step_ex _ rfl (.inl rfl) rfl (fun a ww hw hf hd=>by
             have h177:a.eval (.tmp 177)=Value.bool true:=((knows_in 3 177 (by decide) (by kernel_rfl) rfl rfl):Knows _ _ _ _ _ _ 7 _ _) a ww hw hf hd
             have h180:a.eval (.tmp 180)=Value.bool true:=((knows_in 6 180 (by decide) (by kernel_rfl) rfl rfl):Knows _ _ _ _ _ _ 7 _ _) a ww hw hf hd
             have hc:=ec a
             revert hc h177 h180
             generalize a.eval=ev
             intro hc h177 h180
             unfold execOp
             simp only [hc,h177,h180]
             go_simp)),
              (step_ex _ rfl (.inl rfl) rfl (fun a ww hw hf hd=>by
             have h181:a.eval (.tmp 181)=Value.bool true:=((knows_in 7 181 (by decide) (by kernel_rfl) rfl rfl):Knows _ _ _ _ _ _ 8 _ _) a ww hw hf hd
             revert h181
             generalize a.eval=ev
             intro h181
             unfold execOp
             simp only [h181]
             go_simp)),
              (step_ex _ rfl (.inr ⟨8,true,182,rfl,by decide,by kernel_rfl,rfl,fun _ _ h=>h⟩) rfl (fun a ww hw hf hd=>by
             have h26:a.eval (.tmp 26)=Value.pointer (some ⟨b,0,none⟩):=((knows_out 26 (by kernel_rfl) rfl):Knows _ _ _ _ _ _ 9 _ _) a ww hw hf hd
             revert h26
             generalize a.eval=ev
             intro h26
             unfold execOp
             simp only [h26]
             go_simp)),
              (step_ex _ rfl (.inr ⟨8,true,182,rfl,by decide,by kernel_rfl,rfl,fun _ _ h=>h⟩) rfl (fun a ww hw hf hd=>by
             have h183:a.eval (.tmp 183)=Value.pointer (some ⟨b,1,none⟩):=((knows_in 9 183 (by decide) (by kernel_rfl) rfl rfl):Knows _ _ _ _ _ _ 10 _ _) a ww hw hf hd
             have f0:=cellB y1 hw
             revert h183
             generalize a.eval=ev
             intro h183
             unfold execOp
             simp only [h183]
             go_simp)),
              (step_ex _ rfl (.inr ⟨8,true,182,rfl,by decide,by kernel_rfl,rfl,fun _ _ h=>h⟩) rfl (fun a ww hw hf hd=>by
             have h25:a.eval (.tmp 25)=Value.int .i64 i:=((knows_out 25 (by kernel_rfl) rfl):Knows _ _ _ _ _ _ 11 _ _) a ww hw hf hd
             revert h25
             generalize a.eval=ev
             intro h25
             unfold execOp
             simp only [h25]
             go_simp)),
              (step_ex _ rfl (.inr ⟨8,true,182,rfl,by decide,by kernel_rfl,rfl,fun _ _ h=>h⟩) rfl (fun a ww hw hf hd=>by
             have h184:a.eval (.tmp 184)=Value.int .i64 t.2.1:=((knows_in 10 184 (by decide) (by kernel_rfl) rfl rfl):Knows _ _ _ _ _ _ 12 _ _) a ww hw hf hd
             have h185:a.eval (.tmp 185)=Value.int .i64 i:=((knows_in 11 185 (by decide) (by kernel_rfl) rfl rfl):Knows _ _ _ _ _ _ 12 _ _) a ww hw hf hd
             have f0:=(show ¬(i:Int)≤t.2.1 by omega)
             have f1:=(show t.2.1<(i:Int) by omega)
             revert h184 h185
             generalize a.eval=ev
             intro h184 h185
             unfold execOp
             simp only [h184,h185]
             go_simp)),
              (step_ex _ rfl (.inr ⟨8,true,182,rfl,by decide,by kernel_rfl,rfl,fun _ _ h=>h⟩) rfl (fun a ww hw hf hd=>by
             have h186:a.eval (.tmp 186)=Value.bool false:=((knows_in 12 186 (by decide) (by kernel_rfl) rfl rfl):Knows _ _ _ _ _ _ 13 _ _) a ww hw hf hd
             revert h186
             generalize a.eval=ev
             intro h186
             unfold execOp
             simp only [h186]
             go_simp)),
              (step_ex _ rfl (.inr ⟨13,false,187,rfl,by decide,by kernel_rfl,rfl,fun _ _ h=>h⟩) rfl (fun a ww hw hf hd=>by
             have h10:a.eval (.tmp 10)=Value.pointer (some ⟨s4,0,none⟩):=((knows_out 10 (by kernel_rfl) rfl):Knows _ _ _ _ _ _ 14 _ _) a ww hw hf hd
             have f0:=cellB b109 hw
             revert h10
             generalize a.eval=ev
             intro h10
             unfold execOp
             simp only [h10]
             go_simp)),
              (step_ex _ rfl (.inr ⟨13,false,187,rfl,by decide,by kernel_rfl,rfl,fun _ _ h=>h⟩) rfl (fun a ww hw hf hd=>by
             have h25:a.eval (.tmp 25)=Value.int .i64 i:=((knows_out 25 (by kernel_rfl) rfl):Knows _ _ _ _ _ _ 15 _ _) a ww hw hf hd
             revert h25
             generalize a.eval=ev
             intro h25
             unfold execOp
             simp only [h25]
             go_simp)),
              (step_cw rfl (.inr ⟨13,false,187,rfl,by decide,by kernel_rfl,rfl,fun _ _ h=>h⟩) rfl cxT14 rfl (fun aa ww hw hf hd=>⟨_,(two_args (knows_in 14 188 (by decide) (by kernel_rfl) rfl rfl) (knows_in 15 189 (by decide) (by kernel_rfl) rfl rfl)) aa ww hw hf hd,hsi ww hw⟩)),
              (step_ex _ rfl (.inr ⟨13,false,187,rfl,by decide,by kernel_rfl,rfl,fun _ _ h=>h⟩) rfl (fun a ww hw hf hd=>by
             have h190:a.eval (.tmp 190)=Value.int .i64 r:=((knows_in 16 190 (by decide) (by kernel_rfl) rfl rfl):Knows _ _ _ _ _ _ 17 _ _) a ww hw hf hd
             have f0:=hsm
             have hc:=ec a
             revert hc h190
             generalize a.eval=ev
             intro hc h190
             unfold execOp
             simp only [hc,h190]
             go_simp)),
              (step_ex _ rfl (.inr ⟨13,false,187,rfl,by decide,by kernel_rfl,rfl,fun _ _ h=>h⟩) rfl (fun a ww hw hf hd=>by
             have h191:a.eval (.tmp 191)=Value.bool false:=((knows_in 17 191 (by decide) (by kernel_rfl) rfl rfl):Knows _ _ _ _ _ _ 18 _ _) a ww hw hf hd
             revert h191
             generalize a.eval=ev
             intro h191
             unfold execOp
             simp only [h191]
             go_simp)),
              (step_off rfl ⟨18,true,192,rfl,by decide,by kernel_rfl,rfl,fun _ _ h=>.inl h⟩ (fun _=>rfl)),
              (step_off rfl ⟨18,true,192,rfl,by decide,by kernel_rfl,rfl,fun _ _ h=>.inl h⟩ (fun _=>rfl)),
              (step_off rfl ⟨18,true,192,rfl,by decide,by kernel_rfl,rfl,fun _ _ h=>.inl h⟩ (fun _=>rfl)),
              (step_off rfl ⟨18,true,192,rfl,by decide,by kernel_rfl,rfl,fun _ _ h=>.inl h⟩ (fun _=>rfl)),
              (step_off rfl ⟨18,true,192,rfl,by decide,by kernel_rfl,rfl,fun _ _ h=>.inl h⟩ (fun _=>rfl)),
              (step_off rfl ⟨18,true,192,rfl,by decide,by kernel_rfl,rfl,fun _ _ h=>.inl h⟩ (fun _=>rfl)),
              (step_off rfl ⟨18,true,192,rfl,by decide,by kernel_rfl,rfl,fun _ _ h=>.inl h⟩ (fun _=>rfl)),
              (step_off rfl ⟨18,true,192,rfl,by decide,by kernel_rfl,rfl,fun _ _ h=>.inl h⟩ (fun _=>rfl)),
              (step_ex _ rfl (.inr ⟨13,false,187,rfl,by decide,by kernel_rfl,rfl,fun _ _ h=>h⟩) rfl (fun a ww hw hf hd=>by
             have h192:a.eval (.tmp 192)=Value.bool false:=((knows_in 18 192 (by decide) (by kernel_rfl) rfl rfl):Knows _ _ _ _ _ _ 27 _ _) a ww hw hf hd
             have hc:=ec a
             revert hc h192
             generalize a.eval=ev
             intro hc h192
             unfold execOp
             simp only [hc,h192]
             go_simp)),
              (step_ex _ rfl (.inr ⟨8,true,182,rfl,by decide,by kernel_rfl,rfl,fun _ _ h=>h⟩) rfl (fun a ww hw hf hd=>by
             have h187:a.eval (.tmp 187)=Value.bool false:=((knows_in 13 187 (by decide) (by kernel_rfl) rfl rfl):Knows _ _ _ _ _ _ 28 _ _) a ww hw hf hd
             have h201:a.eval (.tmp 201)=Value.bool false:=((knows_in 27 201 (by decide) (by kernel_rfl) rfl rfl):Knows _ _ _ _ _ _ 28 _ _) a ww hw hf hd
             have hc:=ec a
             revert hc h187 h201
             generalize a.eval=ev
             intro hc h187 h201
             unfold execOp
             simp only [hc,h187,h201]
             go_simp)),
              (step_ex _ rfl (.inl rfl) rfl (fun a ww hw hf hd=>by
             have h182:a.eval (.tmp 182)=Value.bool true:=((knows_in 8 182 (by decide) (by kernel_rfl) rfl rfl):Knows _ _ _ _ _ _ 29 _ _) a ww hw hf hd
             have h202:a.eval (.tmp 202)=Value.bool false:=((knows_in 28 202 (by decide) (by kernel_rfl) rfl rfl):Knows _ _ _ _ _ _ 29 _ _) a ww hw hf hd
             have hc:=ec a
             revert hc h182 h202
             generalize a.eval=ev
             intro hc h182 h202
             unfold execOp
             simp only [hc,h182,h202]
             go_simp)),
              (step_ex _ rfl (.inl rfl) rfl (fun a ww hw hf hd=>by
             have h203:a.eval (.tmp 203)=Value.bool false:=((knows_in 29 203 (by decide) (by kernel_rfl) rfl rfl):Knows _ _ _ _ _ _ 30 _ _) a ww hw hf hd
             revert h203
             generalize a.eval=ev
             intro h203
             unfold execOp
             simp only [h203]
             go_simp)),
              (step_ex _ rfl (.inr ⟨30,false,204,rfl,by decide,by kernel_rfl,rfl,fun _ _ h=>h⟩) rfl (fun a ww hw hf hd=>by
             have h26:a.eval (.tmp 26)=Value.pointer (some ⟨b,0,none⟩):=((knows_out 26 (by kernel_rfl) rfl):Knows _ _ _ _ _ _ 31 _ _) a ww hw hf hd
             revert h26
             generalize a.eval=ev
             intro h26
             unfold execOp
             simp only [h26]
             go_simp)),
              (step_ex _ rfl (.inr ⟨30,false,204,rfl,by decide,by kernel_rfl,rfl,fun _ _ h=>h⟩) rfl (fun a ww hw hf hd=>by
             have h205:a.eval (.tmp 205)=Value.pointer (some ⟨b,0,none⟩):=((knows_in 31 205 (by decide) (by kernel_rfl) rfl rfl):Knows _ _ _ _ _ _ 32 _ _) a ww hw hf hd
             have f0:=cellB y0 hw
             revert h205
             generalize a.eval=ev
             intro h205
             unfold execOp
             simp only [h205]
             go_simp)),
              (step_ex _ rfl (.inr ⟨30,false,204,rfl,by decide,by kernel_rfl,rfl,fun _ _ h=>h⟩) rfl (fun a ww hw hf hd=>by
             have h206:a.eval (.tmp 206)=Value.int .i64 t.1:=((knows_in 32 206 (by decide) (by kernel_rfl) rfl rfl):Knows _ _ _ _ _ _ 33 _ _) a ww hw hf hd
             have f0:=(show t.1=4 by omega)
             have hc:=ec a
             revert hc h206
             generalize a.eval=ev
             intro hc h206
             unfold execOp
             simp only [hc,h206]
             go_simp)),
              (step_ex _ rfl (.inr ⟨30,false,204,rfl,by decide,by kernel_rfl,rfl,fun _ _ h=>h⟩) rfl (fun a ww hw hf hd=>by
             have h207:a.eval (.tmp 207)=Value.bool true:=((knows_in 33 207 (by decide) (by kernel_rfl) rfl rfl):Knows _ _ _ _ _ _ 34 _ _) a ww hw hf hd
             revert h207
             generalize a.eval=ev
             intro h207
             unfold execOp
             simp only [h207]
             go_simp)),
              (step_off rfl ⟨34,false,208,rfl,by decide,by kernel_rfl,rfl,fun _ _ h=>.inl h⟩ (fun _=>rfl)),
              (step_off rfl ⟨34,false,208,rfl,by decide,by kernel_rfl,rfl,fun _ _ h=>.inl h⟩ (fun _=>rfl)),
              (step_off rfl ⟨34,false,208,rfl,by decide,by kernel_rfl,rfl,fun _ _ h=>.inl h⟩ (fun _=>rfl)),
              (step_ex _ rfl (.inr ⟨30,false,204,rfl,by decide,by kernel_rfl,rfl,fun _ _ h=>h⟩) rfl (fun a ww hw hf hd=>by
             have h208:a.eval (.tmp 208)=Value.bool true:=((knows_in 34 208 (by decide) (by kernel_rfl) rfl rfl):Knows _ _ _ _ _ _ 38 _ _) a ww hw hf hd
             have hc:=ec a
             revert hc h208
             generalize a.eval=ev
             intro hc h208
             unfold execOp
             simp only [hc,h208]
             go_simp)),
              (step_ex _ rfl (.inr ⟨30,false,204,rfl,by decide,by kernel_rfl,rfl,fun _ _ h=>h⟩) rfl (fun a ww hw hf hd=>by
             have h212:a.eval (.tmp 212)=Value.bool true:=((knows_in 38 212 (by decide) (by kernel_rfl) rfl rfl):Knows _ _ _ _ _ _ 39 _ _) a ww hw hf hd
             revert h212
             generalize a.eval=ev
             intro h212
             unfold execOp
             simp only [h212]
             go_simp)),
              (step_off rfl ⟨39,false,213,rfl,by decide,by kernel_rfl,rfl,fun _ _ h=>.inl h⟩ (fun _=>rfl)),
              (step_off rfl ⟨39,false,213,rfl,by decide,by kernel_rfl,rfl,fun _ _ h=>.inl h⟩ (fun _=>rfl)),
              (step_off rfl ⟨39,false,213,rfl,by decide,by kernel_rfl,rfl,fun _ _ h=>.inl h⟩ (fun _=>rfl)),
              (step_ex _ rfl (.inr ⟨30,false,204,rfl,by decide,by kernel_rfl,rfl,fun _ _ h=>h⟩) rfl (fun a ww hw hf hd=>by
             have h213:a.eval (.tmp 213)=Value.bool true:=((knows_in 39 213 (by decide) (by kernel_rfl) rfl rfl):Knows _ _ _ _ _ _ 43 _ _) a ww hw hf hd
             have hc:=ec a
             revert hc h213
             generalize a.eval=ev
             intro hc h213
             unfold execOp
             simp only [hc,h213]
             go_simp)),
              (step_ex _ rfl (.inr ⟨30,false,204,rfl,by decide,by kernel_rfl,rfl,fun _ _ h=>h⟩) rfl (fun a ww hw hf hd=>by
             have h217:a.eval (.tmp 217)=Value.bool true:=((knows_in 43 217 (by decide) (by kernel_rfl) rfl rfl):Knows _ _ _ _ _ _ 44 _ _) a ww hw hf hd
             revert h217
             generalize a.eval=ev
             intro h217
             unfold execOp
             simp only [h217]
             go_simp)),
              (step_ex _ rfl (.inr ⟨44,true,218,rfl,by decide,by kernel_rfl,rfl,fun _ _ h=>h⟩) rfl (fun a ww hw hf hd=>by
             have h26:a.eval (.tmp 26)=Value.pointer (some ⟨b,0,none⟩):=((knows_out 26 (by kernel_rfl) rfl):Knows _ _ _ _ _ _ 45 _ _) a ww hw hf hd
             revert h26
             generalize a.eval=ev
             intro h26
             unfold execOp
             simp only [h26]
             go_simp)),
              (step_ex _ rfl (.inr ⟨44,true,218,rfl,by decide,by kernel_rfl,rfl,fun _ _ h=>h⟩) rfl (fun a ww hw hf hd=>by
             have h219:a.eval (.tmp 219)=Value.pointer (some ⟨b,2,none⟩):=((knows_in 45 219 (by decide) (by kernel_rfl) rfl rfl):Knows _ _ _ _ _ _ 46 _ _) a ww hw hf hd
             have f0:=cellB y2 hw
             revert h219
             generalize a.eval=ev
             intro h219
             unfold execOp
             simp only [h219]
             go_simp)),
              (step_ex _ rfl (.inr ⟨44,true,218,rfl,by decide,by kernel_rfl,rfl,fun _ _ h=>h⟩) rfl (fun a ww hw hf hd=>by
             have h25:a.eval (.tmp 25)=Value.int .i64 i:=((knows_out 25 (by kernel_rfl) rfl):Knows _ _ _ _ _ _ 47 _ _) a ww hw hf hd
             revert h25
             generalize a.eval=ev
             intro h25
             unfold execOp
             simp only [h25]
             go_simp)),
              (step_ex _ rfl (.inr ⟨44,true,218,rfl,by decide,by kernel_rfl,rfl,fun _ _ h=>h⟩) rfl (fun a ww hw hf hd=>by
             have h220:a.eval (.tmp 220)=Value.int .i64 t.2.2:=((knows_in 46 220 (by decide) (by kernel_rfl) rfl rfl):Knows _ _ _ _ _ _ 48 _ _) a ww hw hf hd
             have h221:a.eval (.tmp 221)=Value.int .i64 i:=((knows_in 47 221 (by decide) (by kernel_rfl) rfl rfl):Knows _ _ _ _ _ _ 48 _ _) a ww hw hf hd
             have f0:=(show ¬(i:Int)≤t.2.2 by omega)
             have f1:=(show t.2.2<(i:Int) by omega)
             revert h220 h221
             generalize a.eval=ev
             intro h220 h221
             unfold execOp
             simp only [h220,h221]
             go_simp)),
              (step_ex _ rfl (.inr ⟨30,false,204,rfl,by decide,by kernel_rfl,rfl,fun _ _ h=>h⟩) rfl (fun a ww hw hf hd=>by
             have h218:a.eval (.tmp 218)=Value.bool true:=((knows_in 44 218 (by decide) (by kernel_rfl) rfl rfl):Knows _ _ _ _ _ _ 49 _ _) a ww hw hf hd
             have h222:a.eval (.tmp 222)=Value.bool false:=((knows_in 48 222 (by decide) (by kernel_rfl) rfl rfl):Knows _ _ _ _ _ _ 49 _ _) a ww hw hf hd
             have hc:=ec a
             revert hc h218 h222
             generalize a.eval=ev
             intro hc h218 h222
             unfold execOp
             simp only [hc,h218,h222]
             go_simp)),trivial⟩ ?_
            intro val W12 hw hS _ _
            have e204:val 204=Value.bool false:=hS 30 204 (by decide) rfl
            have e223:val 223=Value.bool false:=hS 49 223 (by decide) rfl
            simp only [putVals,List.foldl_cons,List.foldl_nil,List.drop_succ_cons,List.drop_zero,Act.put,List.setIfInBounds_toArray,List.set_cons_succ,List.set_cons_zero,e204,e223]
            clear e204 e223 hS
            go_wp2
            gi_wp2
            exact hpost _ hw
          ·have hsA:=hsa ha0 ha1
           by_cases hsm:r<1048576
           ·have hgr:=hgrow (by omega) (by omega) hsm
            refine region_round 50 225 (fun _=>false) [Is (Value.pointer (some ⟨b,0,none⟩)),Is (Value.int .i64 t.1),Is (Value.bool true),Is (Value.bool true),Is (Value.pointer (some ⟨b,0,none⟩)),Is (Value.int .i64 t.1),Is (Value.bool true),Is (Value.bool true),Is (Value.bool true),Is (Value.pointer (some ⟨b,1,none⟩)),Is (Value.int .i64 t.2.1),Is (Value.int .i64 i),Is (Value.bool false),Is (Value.bool false),Is (Value.pointer (some ⟨p,0,none⟩)),Is (Value.int .i64 i),Is (Value.int .i64 r),Is (Value.bool true),Is (Value.bool true),Is (Value.pointer (some ⟨p,0,none⟩)),Is (Value.pointer (some ⟨b,1,none⟩)),Is (Value.int .i64 t.2.1),Is (Value.int .i64 ra),Is (Value.pointer (some ⟨p,0,none⟩)),Is (Value.int .i64 i),Is (Value.int .i64 r),Is (Value.bool false),Is (Value.bool false),Is (Value.bool false),Is (Value.bool false),Is (Value.bool false),Is (Value.pointer (some ⟨b,0,none⟩)),Is (Value.int .i64 t.1),Is (Value.bool false),Is (Value.bool false),Is (Value.pointer (some ⟨b,0,none⟩)),Is (Value.int .i64 t.1),Is (Value.bool true),Is (Value.bool true),Is (Value.bool true),Is (undef),Is (undef),Is (undef),Is (Value.bool true),Is (Value.bool true),Is (Value.pointer (some ⟨b,2,none⟩)),Is (Value.int .i64 t.2.2),Is (Value.int .i64 i),Is (Value.bool false),Is (Value.bool false)] [174,175,176,177,178,179,180,181,182,183,184,185,186,187,188,189,190,191,192,193,194,195,196,197,198,199,200,201,202,203,204,205,206,207,208,209,210,211,212,213,214,215,216,217,218,219,220,221,222,223] (by kernel_rfl) (by kernel_rfl) (by kernel_rfl) (Nat.le_of_eq rfl) rfl (fun h=>by obtain ⟨_,_,h⟩:=h;exact h) (grows_cons (Is.grows _) (grows_cons (Is.grows _) (grows_cons (Is.grows _) (grows_cons (Is.grows _) (grows_cons (Is.grows _) (grows_cons (Is.grows _) (grows_cons (Is.grows _) (grows_cons (Is.grows _) (grows_cons (Is.grows _) (grows_cons (Is.grows _) (grows_cons (Is.grows _) (grows_cons (Is.grows _) (grows_cons (Is.grows _) (grows_cons (Is.grows _) (grows_cons (Is.grows _) (grows_cons (Is.grows _) (grows_cons (Is.grows _) (grows_cons (Is.grows _) (grows_cons (Is.grows _) (grows_cons (Is.grows _) (grows_cons (Is.grows _) (grows_cons (Is.grows _) (grows_cons (Is.grows _) (grows_cons (Is.grows _) (grows_cons (Is.grows _) (grows_cons (Is.grows _) (grows_cons (Is.grows _) (grows_cons (Is.grows _) (grows_cons (Is.grows _) (grows_cons (Is.grows _) (grows_cons (Is.grows _) (grows_cons (Is.grows _) (grows_cons (Is.grows _) (grows_cons (Is.grows _) (grows_cons (Is.grows _) (grows_cons (Is.grows _) (grows_cons (Is.grows _) (grows_cons (Is.grows _) (grows_cons (Is.grows _) (grows_cons (Is.grows _) (grows_cons (Is.grows _) (grows_cons (Is.grows _) (grows_cons (Is.grows _) (grows_cons (Is.grows _) (grows_cons (Is.grows _) (grows_cons (Is.grows _) (grows_cons (Is.grows _) (grows_cons (Is.grows _) (grows_cons (Is.grows _) (grows_cons (Is.grows _) grows_nil))))))))))))))))))))))))))))))))))))))))))))))))))
             ⟨(step_ex _ rfl (.inl rfl) rfl (fun a ww hw hf hd=>by
             have h26:a.eval (.tmp 26)=Value.pointer (some ⟨b,0,none⟩):=((knows_out 26 (by kernel_rfl) rfl):Knows _ _ _ _ _ _ 0 _ _) a ww hw hf hd
             revert h26
             generalize a.eval=ev
             intro h26
             unfold execOp
             simp only [h26]
             go_simp)),
              (step_ex _ rfl (.inl rfl) rfl (fun a ww hw hf hd=>by
             have h174:a.eval (.tmp 174)=Value.pointer (some ⟨b,0,none⟩):=((knows_in 0 174 (by decide) (by kernel_rfl) rfl rfl):Knows _ _ _ _ _ _ 1 _ _) a ww hw hf hd
             have f0:=cellB y0 hw
             revert h174
             generalize a.eval=ev
             intro h174
             unfold execOp
             simp only [h174]
             go_simp)),
              (step_ex _ rfl (.inl rfl) rfl (fun a ww hw hf hd=>by
             have h175:a.eval (.tmp 175)=Value.int .i64 t.1:=((knows_in 1 175 (by decide) (by kernel_rfl) rfl rfl):Knows _ _ _ _ _ _ 2 _ _) a ww hw hf hd
             have f0:=(show ¬t.1=1 by omega)
             have hc:=ec a
             revert hc h175
             generalize a.eval=ev
             intro hc h175
             unfold execOp
             simp only [hc,h175]
             go_simp)),
              (step_ex _ rfl (.inl rfl) rfl (fun a ww hw hf hd=>by
             have h176:a.eval (.tmp 176)=Value.bool true:=((knows_in 2 176 (by decide) (by kernel_rfl) rfl rfl):Knows _ _ _ _ _ _ 3 _ _) a ww hw hf hd
             revert h176
             generalize a.eval=ev
             intro h176
             unfold execOp
             simp only [h176]
             go_simp)),
              (step_ex _ rfl (.inr ⟨3,true,177,rfl,by decide,by kernel_rfl,rfl,fun _ _ h=>h⟩) rfl (fun a ww hw hf hd=>by
             have h26:a.eval (.tmp 26)=Value.pointer (some ⟨b,0,none⟩):=((knows_out 26 (by kernel_rfl) rfl):Knows _ _ _ _ _ _ 4 _ _) a ww hw hf hd
             revert h26
             generalize a.eval=ev
             intro h26
             unfold execOp
             simp only [h26]
             go_simp)),
              (step_ex _ rfl (.inr ⟨3,true,177,rfl,by decide,by kernel_rfl,rfl,fun _ _ h=>h⟩) rfl (fun a ww hw hf hd=>by
             have h178:a.eval (.tmp 178)=Value.pointer (some ⟨b,0,none⟩):=((knows_in 4 178 (by decide) (by kernel_rfl) rfl rfl):Knows _ _ _ _ _ _ 5 _ _) a ww hw hf hd
             have f0:=cellB y0 hw
             revert h178
             generalize a.eval=ev
             intro h178
             unfold execOp
             simp only [h178]
             go_simp)),
              (step_ex _ rfl (.inr ⟨3,true,177,rfl,by decide,by kernel_rfl,rfl,fun _ _ h=>h⟩) rfl (fun a ww hw hf hd=>by
             have h179:a.eval (.tmp 179)=Value.int .i64 t.1:=((knows_in 5 179 (by decide) (by kernel_rfl) rfl rfl):Knows _ _ _ _ _ _ 6 _ _) a ww hw hf hd
             have f0:=(show ¬t.1=9 by omega)
             have hc:=ec a
             revert hc h179
             generalize a.eval=ev
             intro hc h179
             unfold execOp
             simp only [hc,h179]
             go_simp)),
              (step_ex _ rfl (.inl rfl) rfl (fun a ww hw hf hd=>by
             have h177:a.eval (.tmp 177)=Value.bool true:=((knows_in 3 177 (by decide) (by kernel_rfl) rfl rfl):Knows _ _ _ _ _ _ 7 _ _) a ww hw hf hd
             have h180:a.eval (.tmp 180)=Value.bool true:=((knows_in 6 180 (by decide) (by kernel_rfl) rfl rfl):Knows _ _ _ _ _ _ 7 _ _) a ww hw hf hd
             have hc:=ec a
             revert hc h177 h180
             generalize a.eval=ev
             intro hc h177 h180
             unfold execOp
             simp only [hc,h177,h180]
             go_simp)),
              (step_ex _ rfl (.inl rfl) rfl (fun a ww hw hf hd=>by
             have h181:a.eval (.tmp 181)=Value.bool true:=((knows_in 7 181 (by decide) (by kernel_rfl) rfl rfl):Knows _ _ _ _ _ _ 8 _ _) a ww hw hf hd
             revert h181
             generalize a.eval=ev
             intro h181
             unfold execOp
             simp only [h181]
             go_simp)),
              (step_ex _ rfl (.inr ⟨8,true,182,rfl,by decide,by kernel_rfl,rfl,fun _ _ h=>h⟩) rfl (fun a ww hw hf hd=>by
             have h26:a.eval (.tmp 26)=Value.pointer (some ⟨b,0,none⟩):=((knows_out 26 (by kernel_rfl) rfl):Knows _ _ _ _ _ _ 9 _ _) a ww hw hf hd
             revert h26
             generalize a.eval=ev
             intro h26
             unfold execOp
             simp only [h26]
             go_simp)),
              (step_ex _ rfl (.inr ⟨8,true,182,rfl,by decide,by kernel_rfl,rfl,fun _ _ h=>h⟩) rfl (fun a ww hw hf hd=>by
             have h183:a.eval (.tmp 183)=Value.pointer (some ⟨b,1,none⟩):=((knows_in 9 183 (by decide) (by kernel_rfl) rfl rfl):Knows _ _ _ _ _ _ 10 _ _) a ww hw hf hd
             have f0:=cellB y1 hw
             revert h183
             generalize a.eval=ev
             intro h183
             unfold execOp
             simp only [h183]
             go_simp)),
              (step_ex _ rfl (.inr ⟨8,true,182,rfl,by decide,by kernel_rfl,rfl,fun _ _ h=>h⟩) rfl (fun a ww hw hf hd=>by
             have h25:a.eval (.tmp 25)=Value.int .i64 i:=((knows_out 25 (by kernel_rfl) rfl):Knows _ _ _ _ _ _ 11 _ _) a ww hw hf hd
             revert h25
             generalize a.eval=ev
             intro h25
             unfold execOp
             simp only [h25]
             go_simp)),
              (step_ex _ rfl (.inr ⟨8,true,182,rfl,by decide,by kernel_rfl,rfl,fun _ _ h=>h⟩) rfl (fun a ww hw hf hd=>by
             have h184:a.eval (.tmp 184)=Value.int .i64 t.2.1:=((knows_in 10 184 (by decide) (by kernel_rfl) rfl rfl):Knows _ _ _ _ _ _ 12 _ _) a ww hw hf hd
             have h185:a.eval (.tmp 185)=Value.int .i64 i:=((knows_in 11 185 (by decide) (by kernel_rfl) rfl rfl):Knows _ _ _ _ _ _ 12 _ _) a ww hw hf hd
             have f0:=(show ¬(i:Int)≤t.2.1 by omega)
             have f1:=(show t.2.1<(i:Int) by omega)
             revert h184 h185
             generalize a.eval=ev
             intro h184 h185
             unfold execOp
             simp only [h184,h185]
             go_simp)),
              (step_ex _ rfl (.inr ⟨8,true,182,rfl,by decide,by kernel_rfl,rfl,fun _ _ h=>h⟩) rfl (fun a ww hw hf hd=>by
             have h186:a.eval (.tmp 186)=Value.bool false:=((knows_in 12 186 (by decide) (by kernel_rfl) rfl rfl):Knows _ _ _ _ _ _ 13 _ _) a ww hw hf hd
             revert h186
             generalize a.eval=ev
             intro h186
             unfold execOp
             simp only [h186]
             go_simp)),
              (step_ex _ rfl (.inr ⟨13,false,187,rfl,by decide,by kernel_rfl,rfl,fun _ _ h=>h⟩) rfl (fun a ww hw hf hd=>by
             have h10:a.eval (.tmp 10)=Value.pointer (some ⟨s4,0,none⟩):=((knows_out 10 (by kernel_rfl) rfl):Knows _ _ _ _ _ _ 14 _ _) a ww hw hf hd
             have f0:=cellB b109 hw
             revert h10
             generalize a.eval=ev
             intro h10
             unfold execOp
             simp only [h10]
             go_simp)),
              (step_ex _ rfl (.inr ⟨13,false,187,rfl,by decide,by kernel_rfl,rfl,fun _ _ h=>h⟩) rfl (fun a ww hw hf hd=>by
             have h25:a.eval (.tmp 25)=Value.int .i64 i:=((knows_out 25 (by kernel_rfl) rfl):Knows _ _ _ _ _ _ 15 _ _) a ww hw hf hd
             revert h25
             generalize a.eval=ev
             intro h25
             unfold execOp
             simp only [h25]
             go_simp)),
              (step_cw rfl (.inr ⟨13,false,187,rfl,by decide,by kernel_rfl,rfl,fun _ _ h=>h⟩) rfl cxT14 rfl (fun aa ww hw hf hd=>⟨_,(two_args (knows_in 14 188 (by decide) (by kernel_rfl) rfl rfl) (knows_in 15 189 (by decide) (by kernel_rfl) rfl rfl)) aa ww hw hf hd,hsi ww hw⟩)),
              (step_ex _ rfl (.inr ⟨13,false,187,rfl,by decide,by kernel_rfl,rfl,fun _ _ h=>h⟩) rfl (fun a ww hw hf hd=>by
             have h190:a.eval (.tmp 190)=Value.int .i64 r:=((knows_in 16 190 (by decide) (by kernel_rfl) rfl rfl):Knows _ _ _ _ _ _ 17 _ _) a ww hw hf hd
             have f0:=hsm
             have hc:=ec a
             revert hc h190
             generalize a.eval=ev
             intro hc h190
             unfold execOp
             simp only [hc,h190]
             go_simp)),
              (step_ex _ rfl (.inr ⟨13,false,187,rfl,by decide,by kernel_rfl,rfl,fun _ _ h=>h⟩) rfl (fun a ww hw hf hd=>by
             have h191:a.eval (.tmp 191)=Value.bool true:=((knows_in 17 191 (by decide) (by kernel_rfl) rfl rfl):Knows _ _ _ _ _ _ 18 _ _) a ww hw hf hd
             revert h191
             generalize a.eval=ev
             intro h191
             unfold execOp
             simp only [h191]
             go_simp)),
              (step_ex _ rfl (.inr ⟨18,true,192,rfl,by decide,by kernel_rfl,rfl,fun _ _ h=>h⟩) rfl (fun a ww hw hf hd=>by
             have h10:a.eval (.tmp 10)=Value.pointer (some ⟨s4,0,none⟩):=((knows_out 10 (by kernel_rfl) rfl):Knows _ _ _ _ _ _ 19 _ _) a ww hw hf hd
             have f0:=cellB b109 hw
             revert h10
             generalize a.eval=ev
             intro h10
             unfold execOp
             simp only [h10]
             go_simp)),
              (step_ex _ rfl (.inr ⟨18,true,192,rfl,by decide,by kernel_rfl,rfl,fun _ _ h=>h⟩) rfl (fun a ww hw hf hd=>by
             have h26:a.eval (.tmp 26)=Value.pointer (some ⟨b,0,none⟩):=((knows_out 26 (by kernel_rfl) rfl):Knows _ _ _ _ _ _ 20 _ _) a ww hw hf hd
             revert h26
             generalize a.eval=ev
             intro h26
             unfold execOp
             simp only [h26]
             go_simp)),
              (step_ex _ rfl (.inr ⟨18,true,192,rfl,by decide,by kernel_rfl,rfl,fun _ _ h=>h⟩) rfl (fun a ww hw hf hd=>by
             have h194:a.eval (.tmp 194)=Value.pointer (some ⟨b,1,none⟩):=((knows_in 20 194 (by decide) (by kernel_rfl) rfl rfl):Knows _ _ _ _ _ _ 21 _ _) a ww hw hf hd
             have f0:=cellB y1 hw
             revert h194
             generalize a.eval=ev
             intro h194
             unfold execOp
             simp only [h194]
             go_simp)),
              (step_cw rfl (.inr ⟨18,true,192,rfl,by decide,by kernel_rfl,rfl,fun _ _ h=>h⟩) rfl cxT14 rfl (fun aa ww hw hf hd=>⟨_,(two_args (knows_in 19 193 (by decide) (by kernel_rfl) rfl rfl) (knows_in 21 195 (by decide) (by kernel_rfl) rfl rfl)) aa ww hw hf hd,hsA ww hw⟩)),
              (step_ex _ rfl (.inr ⟨18,true,192,rfl,by decide,by kernel_rfl,rfl,fun _ _ h=>h⟩) rfl (fun a ww hw hf hd=>by
             have h10:a.eval (.tmp 10)=Value.pointer (some ⟨s4,0,none⟩):=((knows_out 10 (by kernel_rfl) rfl):Knows _ _ _ _ _ _ 23 _ _) a ww hw hf hd
             have f0:=cellB b109 hw
             revert h10
             generalize a.eval=ev
             intro h10
             unfold execOp
             simp only [h10]
             go_simp)),
              (step_ex _ rfl (.inr ⟨18,true,192,rfl,by decide,by kernel_rfl,rfl,fun _ _ h=>h⟩) rfl (fun a ww hw hf hd=>by
             have h25:a.eval (.tmp 25)=Value.int .i64 i:=((knows_out 25 (by kernel_rfl) rfl):Knows _ _ _ _ _ _ 24 _ _) a ww hw hf hd
             revert h25
             generalize a.eval=ev
             intro h25
             unfold execOp
             simp only [h25]
             go_simp)),
              (step_cw rfl (.inr ⟨18,true,192,rfl,by decide,by kernel_rfl,rfl,fun _ _ h=>h⟩) rfl cxT14 rfl (fun aa ww hw hf hd=>⟨_,(two_args (knows_in 23 197 (by decide) (by kernel_rfl) rfl rfl) (knows_in 24 198 (by decide) (by kernel_rfl) rfl rfl)) aa ww hw hf hd,hsi ww hw⟩)),
              (step_ex _ rfl (.inr ⟨18,true,192,rfl,by decide,by kernel_rfl,rfl,fun _ _ h=>h⟩) rfl (fun a ww hw hf hd=>by
             have h196:a.eval (.tmp 196)=Value.int .i64 ra:=((knows_in 22 196 (by decide) (by kernel_rfl) rfl rfl):Knows _ _ _ _ _ _ 26 _ _) a ww hw hf hd
             have h199:a.eval (.tmp 199)=Value.int .i64 r:=((knows_in 25 199 (by decide) (by kernel_rfl) rfl rfl):Knows _ _ _ _ _ _ 26 _ _) a ww hw hf hd
             have f0:=hgr
             have f1:=Int.not_le.1 hgr
             revert h196 h199
             generalize a.eval=ev
             intro h196 h199
             unfold execOp
             simp only [h196,h199]
             go_simp)),
              (step_ex _ rfl (.inr ⟨13,false,187,rfl,by decide,by kernel_rfl,rfl,fun _ _ h=>h⟩) rfl (fun a ww hw hf hd=>by
             have h192:a.eval (.tmp 192)=Value.bool true:=((knows_in 18 192 (by decide) (by kernel_rfl) rfl rfl):Knows _ _ _ _ _ _ 27 _ _) a ww hw hf hd
             have h200:a.eval (.tmp 200)=Value.bool false:=((knows_in 26 200 (by decide) (by kernel_rfl) rfl rfl):Knows _ _ _ _ _ _ 27 _ _) a ww hw hf hd
             have hc:=ec a
             revert hc h192 h200
             generalize a.eval=ev
             intro hc h192 h200
             unfold execOp
             simp only [hc,h192,h200]
             go_simp)),
              (step_ex _ rfl (.inr ⟨8,true,182,rfl,by decide,by kernel_rfl,rfl,fun _ _ h=>h⟩) rfl (fun a ww hw hf hd=>by
             have h187:a.eval (.tmp 187)=Value.bool false:=((knows_in 13 187 (by decide) (by kernel_rfl) rfl rfl):Knows _ _ _ _ _ _ 28 _ _) a ww hw hf hd
             have h201:a.eval (.tmp 201)=Value.bool false:=((knows_in 27 201 (by decide) (by kernel_rfl) rfl rfl):Knows _ _ _ _ _ _ 28 _ _) a ww hw hf hd
             have hc:=ec a
             revert hc h187 h201
             generalize a.eval=ev
             intro hc h187 h201
             unfold execOp
             simp only [hc,h187,h201]
             go_simp)),
              (step_ex _ rfl (.inl rfl) rfl (fun a ww hw hf hd=>by
             have h182:a.eval (.tmp 182)=Value.bool true:=((knows_in 8 182 (by decide) (by kernel_rfl) rfl rfl):Knows _ _ _ _ _ _ 29 _ _) a ww hw hf hd
             have h202:a.eval (.tmp 202)=Value.bool false:=((knows_in 28 202 (by decide) (by kernel_rfl) rfl rfl):Knows _ _ _ _ _ _ 29 _ _) a ww hw hf hd
             have hc:=ec a
             revert hc h182 h202
             generalize a.eval=ev
             intro hc h182 h202
             unfold execOp
             simp only [hc,h182,h202]
             go_simp)),
              (step_ex _ rfl (.inl rfl) rfl (fun a ww hw hf hd=>by
             have h203:a.eval (.tmp 203)=Value.bool false:=((knows_in 29 203 (by decide) (by kernel_rfl) rfl rfl):Knows _ _ _ _ _ _ 30 _ _) a ww hw hf hd
             revert h203
             generalize a.eval=ev
             intro h203
             unfold execOp
             simp only [h203]
             go_simp)),
              (step_ex _ rfl (.inr ⟨30,false,204,rfl,by decide,by kernel_rfl,rfl,fun _ _ h=>h⟩) rfl (fun a ww hw hf hd=>by
             have h26:a.eval (.tmp 26)=Value.pointer (some ⟨b,0,none⟩):=((knows_out 26 (by kernel_rfl) rfl):Knows _ _ _ _ _ _ 31 _ _) a ww hw hf hd
             revert h26
             generalize a.eval=ev
             intro h26
             unfold execOp
             simp only [h26]
             go_simp)),
              (step_ex _ rfl (.inr ⟨30,false,204,rfl,by decide,by kernel_rfl,rfl,fun _ _ h=>h⟩) rfl (fun a ww hw hf hd=>by
             have h205:a.eval (.tmp 205)=Value.pointer (some ⟨b,0,none⟩):=((knows_in 31 205 (by decide) (by kernel_rfl) rfl rfl):Knows _ _ _ _ _ _ 32 _ _) a ww hw hf hd
             have f0:=cellB y0 hw
             revert h205
             generalize a.eval=ev
             intro h205
             unfold execOp
             simp only [h205]
             go_simp)),
              (step_ex _ rfl (.inr ⟨30,false,204,rfl,by decide,by kernel_rfl,rfl,fun _ _ h=>h⟩) rfl (fun a ww hw hf hd=>by
             have h206:a.eval (.tmp 206)=Value.int .i64 t.1:=((knows_in 32 206 (by decide) (by kernel_rfl) rfl rfl):Knows _ _ _ _ _ _ 33 _ _) a ww hw hf hd
             have f0:=(show ¬t.1=4 by omega)
             have hc:=ec a
             revert hc h206
             generalize a.eval=ev
             intro hc h206
             unfold execOp
             simp only [hc,h206]
             go_simp)),
              (step_ex _ rfl (.inr ⟨30,false,204,rfl,by decide,by kernel_rfl,rfl,fun _ _ h=>h⟩) rfl (fun a ww hw hf hd=>by
             have h207:a.eval (.tmp 207)=Value.bool false:=((knows_in 33 207 (by decide) (by kernel_rfl) rfl rfl):Knows _ _ _ _ _ _ 34 _ _) a ww hw hf hd
             revert h207
             generalize a.eval=ev
             intro h207
             unfold execOp
             simp only [h207]
             go_simp)),
              (step_ex _ rfl (.inr ⟨34,false,208,rfl,by decide,by kernel_rfl,rfl,fun _ _ h=>h⟩) rfl (fun a ww hw hf hd=>by
             have h26:a.eval (.tmp 26)=Value.pointer (some ⟨b,0,none⟩):=((knows_out 26 (by kernel_rfl) rfl):Knows _ _ _ _ _ _ 35 _ _) a ww hw hf hd
             revert h26
             generalize a.eval=ev
             intro h26
             unfold execOp
             simp only [h26]
             go_simp)),
              (step_ex _ rfl (.inr ⟨34,false,208,rfl,by decide,by kernel_rfl,rfl,fun _ _ h=>h⟩) rfl (fun a ww hw hf hd=>by
             have h209:a.eval (.tmp 209)=Value.pointer (some ⟨b,0,none⟩):=((knows_in 35 209 (by decide) (by kernel_rfl) rfl rfl):Knows _ _ _ _ _ _ 36 _ _) a ww hw hf hd
             have f0:=cellB y0 hw
             revert h209
             generalize a.eval=ev
             intro h209
             unfold execOp
             simp only [h209]
             go_simp)),
              (step_ex _ rfl (.inr ⟨34,false,208,rfl,by decide,by kernel_rfl,rfl,fun _ _ h=>h⟩) rfl (fun a ww hw hf hd=>by
             have h210:a.eval (.tmp 210)=Value.int .i64 t.1:=((knows_in 36 210 (by decide) (by kernel_rfl) rfl rfl):Knows _ _ _ _ _ _ 37 _ _) a ww hw hf hd
             have f0:=(show t.1=5 by omega)
             have hc:=ec a
             revert hc h210
             generalize a.eval=ev
             intro hc h210
             unfold execOp
             simp only [hc,h210]
             go_simp)),
              (step_ex _ rfl (.inr ⟨30,false,204,rfl,by decide,by kernel_rfl,rfl,fun _ _ h=>h⟩) rfl (fun a ww hw hf hd=>by
             have h208:a.eval (.tmp 208)=Value.bool false:=((knows_in 34 208 (by decide) (by kernel_rfl) rfl rfl):Knows _ _ _ _ _ _ 38 _ _) a ww hw hf hd
             have h211:a.eval (.tmp 211)=Value.bool true:=((knows_in 37 211 (by decide) (by kernel_rfl) rfl rfl):Knows _ _ _ _ _ _ 38 _ _) a ww hw hf hd
             have hc:=ec a
             revert hc h208 h211
             generalize a.eval=ev
             intro hc h208 h211
             unfold execOp
             simp only [hc,h208,h211]
             go_simp)),
              (step_ex _ rfl (.inr ⟨30,false,204,rfl,by decide,by kernel_rfl,rfl,fun _ _ h=>h⟩) rfl (fun a ww hw hf hd=>by
             have h212:a.eval (.tmp 212)=Value.bool true:=((knows_in 38 212 (by decide) (by kernel_rfl) rfl rfl):Knows _ _ _ _ _ _ 39 _ _) a ww hw hf hd
             revert h212
             generalize a.eval=ev
             intro h212
             unfold execOp
             simp only [h212]
             go_simp)),
              (step_off rfl ⟨39,false,213,rfl,by decide,by kernel_rfl,rfl,fun _ _ h=>.inl h⟩ (fun _=>rfl)),
              (step_off rfl ⟨39,false,213,rfl,by decide,by kernel_rfl,rfl,fun _ _ h=>.inl h⟩ (fun _=>rfl)),
              (step_off rfl ⟨39,false,213,rfl,by decide,by kernel_rfl,rfl,fun _ _ h=>.inl h⟩ (fun _=>rfl)),
              (step_ex _ rfl (.inr ⟨30,false,204,rfl,by decide,by kernel_rfl,rfl,fun _ _ h=>h⟩) rfl (fun a ww hw hf hd=>by
             have h213:a.eval (.tmp 213)=Value.bool true:=((knows_in 39 213 (by decide) (by kernel_rfl) rfl rfl):Knows _ _ _ _ _ _ 43 _ _) a ww hw hf hd
             have hc:=ec a
             revert hc h213
             generalize a.eval=ev
             intro hc h213
             unfold execOp
             simp only [hc,h213]
             go_simp)),
              (step_ex _ rfl (.inr ⟨30,false,204,rfl,by decide,by kernel_rfl,rfl,fun _ _ h=>h⟩) rfl (fun a ww hw hf hd=>by
             have h217:a.eval (.tmp 217)=Value.bool true:=((knows_in 43 217 (by decide) (by kernel_rfl) rfl rfl):Knows _ _ _ _ _ _ 44 _ _) a ww hw hf hd
             revert h217
             generalize a.eval=ev
             intro h217
             unfold execOp
             simp only [h217]
             go_simp)),
              (step_ex _ rfl (.inr ⟨44,true,218,rfl,by decide,by kernel_rfl,rfl,fun _ _ h=>h⟩) rfl (fun a ww hw hf hd=>by
             have h26:a.eval (.tmp 26)=Value.pointer (some ⟨b,0,none⟩):=((knows_out 26 (by kernel_rfl) rfl):Knows _ _ _ _ _ _ 45 _ _) a ww hw hf hd
             revert h26
             generalize a.eval=ev
             intro h26
             unfold execOp
             simp only [h26]
             go_simp)),
              (step_ex _ rfl (.inr ⟨44,true,218,rfl,by decide,by kernel_rfl,rfl,fun _ _ h=>h⟩) rfl (fun a ww hw hf hd=>by
             have h219:a.eval (.tmp 219)=Value.pointer (some ⟨b,2,none⟩):=((knows_in 45 219 (by decide) (by kernel_rfl) rfl rfl):Knows _ _ _ _ _ _ 46 _ _) a ww hw hf hd
             have f0:=cellB y2 hw
             revert h219
             generalize a.eval=ev
             intro h219
             unfold execOp
             simp only [h219]
             go_simp)),
              (step_ex _ rfl (.inr ⟨44,true,218,rfl,by decide,by kernel_rfl,rfl,fun _ _ h=>h⟩) rfl (fun a ww hw hf hd=>by
             have h25:a.eval (.tmp 25)=Value.int .i64 i:=((knows_out 25 (by kernel_rfl) rfl):Knows _ _ _ _ _ _ 47 _ _) a ww hw hf hd
             revert h25
             generalize a.eval=ev
             intro h25
             unfold execOp
             simp only [h25]
             go_simp)),
              (step_ex _ rfl (.inr ⟨44,true,218,rfl,by decide,by kernel_rfl,rfl,fun _ _ h=>h⟩) rfl (fun a ww hw hf hd=>by
             have h220:a.eval (.tmp 220)=Value.int .i64 t.2.2:=((knows_in 46 220 (by decide) (by kernel_rfl) rfl rfl):Knows _ _ _ _ _ _ 48 _ _) a ww hw hf hd
             have h221:a.eval (.tmp 221)=Value.int .i64 i:=((knows_in 47 221 (by decide) (by kernel_rfl) rfl rfl):Knows _ _ _ _ _ _ 48 _ _) a ww hw hf hd
             have f0:=(show ¬(i:Int)≤t.2.2 by omega)
             have f1:=(show t.2.2<(i:Int) by omega)
             revert h220 h221
             generalize a.eval=ev
             intro h220 h221
             unfold execOp
             simp only [h220,h221]
             go_simp)),
              (step_ex _ rfl (.inr ⟨30,false,204,rfl,by decide,by kernel_rfl,rfl,fun _ _ h=>h⟩) rfl (fun a ww hw hf hd=>by
             have h218:a.eval (.tmp 218)=Value.bool true:=((knows_in 44 218 (by decide) (by kernel_rfl) rfl rfl):Knows _ _ _ _ _ _ 49 _ _) a ww hw hf hd
             have h222:a.eval (.tmp 222)=Value.bool false:=((knows_in 48 222 (by decide) (by kernel_rfl) rfl rfl):Knows _ _ _ _ _ _ 49 _ _) a ww hw hf hd
             have hc:=ec a
             revert hc h218 h222
             generalize a.eval=ev
             intro hc h218 h222
             unfold execOp
             simp only [hc,h218,h222]
             go_simp)),trivial⟩ ?_
            intro val W12 hw hS _ _
            have e204:val 204=Value.bool false:=hS 30 204 (by decide) rfl
            have e223:val 223=Value.bool false:=hS 49 223 (by decide) rfl
            simp only [putVals,List.foldl_cons,List.foldl_nil,List.drop_succ_cons,List.drop_zero,Act.put,List.setIfInBounds_toArray,List.set_cons_succ,List.set_cons_zero,e204,e223]
            clear e204 e223 hS
            go_wp2
            gi_wp2
            exact hpost _ hw
           ·skip
            refine region_round 50 225 (fun _=>false) [Is (Value.pointer (some ⟨b,0,none⟩)),Is (Value.int .i64 t.1),Is (Value.bool true),Is (Value.bool true),Is (Value.pointer (some ⟨b,0,none⟩)),Is (Value.int .i64 t.1),Is (Value.bool true),Is (Value.bool true),Is (Value.bool true),Is (Value.pointer (some ⟨b,1,none⟩)),Is (Value.int .i64 t.2.1),Is (Value.int .i64 i),Is (Value.bool false),Is (Value.bool false),Is (Value.pointer (some ⟨p,0,none⟩)),Is (Value.int .i64 i),Is (Value.int .i64 r),Is (Value.bool false),Is (Value.bool false),Is (undef),Is (undef),Is (undef),Is (undef),Is (undef),Is (undef),Is (undef),Is (undef),Is (Value.bool false),Is (Value.bool false),Is (Value.bool false),Is (Value.bool false),Is (Value.pointer (some ⟨b,0,none⟩)),Is (Value.int .i64 t.1),Is (Value.bool false),Is (Value.bool false),Is (Value.pointer (some ⟨b,0,none⟩)),Is (Value.int .i64 t.1),Is (Value.bool true),Is (Value.bool true),Is (Value.bool true),Is (undef),Is (undef),Is (undef),Is (Value.bool true),Is (Value.bool true),Is (Value.pointer (some ⟨b,2,none⟩)),Is (Value.int .i64 t.2.2),Is (Value.int .i64 i),Is (Value.bool false),Is (Value.bool false)] [174,175,176,177,178,179,180,181,182,183,184,185,186,187,188,189,190,191,192,193,194,195,196,197,198,199,200,201,202,203,204,205,206,207,208,209,210,211,212,213,214,215,216,217,218,219,220,221,222,223] (by kernel_rfl) (by kernel_rfl) (by kernel_rfl) (Nat.le_of_eq rfl) rfl (fun h=>by obtain ⟨_,_,h⟩:=h;exact h) (grows_cons (Is.grows _) (grows_cons (Is.grows _) (grows_cons (Is.grows _) (grows_cons (Is.grows _) (grows_cons (Is.grows _) (grows_cons (Is.grows _) (grows_cons (Is.grows _) (grows_cons (Is.grows _) (grows_cons (Is.grows _) (grows_cons (Is.grows _) (grows_cons (Is.grows _) (grows_cons (Is.grows _) (grows_cons (Is.grows _) (grows_cons (Is.grows _) (grows_cons (Is.grows _) (grows_cons (Is.grows _) (grows_cons (Is.grows _) (grows_cons (Is.grows _) (grows_cons (Is.grows _) (grows_cons (Is.grows _) (grows_cons (Is.grows _) (grows_cons (Is.grows _) (grows_cons (Is.grows _) (grows_cons (Is.grows _) (grows_cons (Is.grows _) (grows_cons (Is.grows _) (grows_cons (Is.grows _) (grows_cons (Is.grows _) (grows_cons (Is.grows _) (grows_cons (Is.grows _) (grows_cons (Is.grows _) (grows_cons (Is.grows _) (grows_cons (Is.grows _) (grows_cons (Is.grows _) (grows_cons (Is.grows _) (grows_cons (Is.grows _) (grows_cons (Is.grows _) (grows_cons (Is.grows _) (grows_cons (Is.grows _) (grows_cons (Is.grows _) (grows_cons (Is.grows _) (grows_cons (Is.grows _) (grows_cons (Is.grows _) (grows_cons (Is.grows _) (grows_cons (Is.grows _) (grows_cons (Is.grows _) (grows_cons (Is.grows _) (grows_cons (Is.grows _) (grows_cons (Is.grows _) (grows_cons (Is.grows _) grows_nil))))))))))))))))))))))))))))))))))))))))))))))))))
             ⟨(step_ex _ rfl (.inl rfl) rfl (fun a ww hw hf hd=>by
             have h26:a.eval (.tmp 26)=Value.pointer (some ⟨b,0,none⟩):=((knows_out 26 (by kernel_rfl) rfl):Knows _ _ _ _ _ _ 0 _ _) a ww hw hf hd
             revert h26
             generalize a.eval=ev
             intro h26
             unfold execOp
             simp only [h26]
             go_simp)),
              (step_ex _ rfl (.inl rfl) rfl (fun a ww hw hf hd=>by
             have h174:a.eval (.tmp 174)=Value.pointer (some ⟨b,0,none⟩):=((knows_in 0 174 (by decide) (by kernel_rfl) rfl rfl):Knows _ _ _ _ _ _ 1 _ _) a ww hw hf hd
             have f0:=cellB y0 hw
             revert h174
             generalize a.eval=ev
             intro h174
             unfold execOp
             simp only [h174]
             go_simp)),
              (step_ex _ rfl (.inl rfl) rfl (fun a ww hw hf hd=>by
             have h175:a.eval (.tmp 175)=Value.int .i64 t.1:=((knows_in 1 175 (by decide) (by kernel_rfl) rfl rfl):Knows _ _ _ _ _ _ 2 _ _) a ww hw hf hd
             have f0:=(show ¬t.1=1 by omega)
             have hc:=ec a
             revert hc h175
             generalize a.eval=ev
             intro hc h175
             unfold execOp
             simp only [hc,h175]
             go_simp)),
              (step_ex _ rfl (.inl rfl) rfl (fun a ww hw hf hd=>by
             have h176:a.eval (.tmp 176)=Value.bool true:=((knows_in 2 176 (by decide) (by kernel_rfl) rfl rfl):Knows _ _ _ _ _ _ 3 _ _) a ww hw hf hd
             revert h176
             generalize a.eval=ev
             intro h176
             unfold execOp
             simp only [h176]
             go_simp)),
              (step_ex _ rfl (.inr ⟨3,true,177,rfl,by decide,by kernel_rfl,rfl,fun _ _ h=>h⟩) rfl (fun a ww hw hf hd=>by
             have h26:a.eval (.tmp 26)=Value.pointer (some ⟨b,0,none⟩):=((knows_out 26 (by kernel_rfl) rfl):Knows _ _ _ _ _ _ 4 _ _) a ww hw hf hd
             revert h26
             generalize a.eval=ev
             intro h26
             unfold execOp
             simp only [h26]
             go_simp)),
              (step_ex _ rfl (.inr ⟨3,true,177,rfl,by decide,by kernel_rfl,rfl,fun _ _ h=>h⟩) rfl (fun a ww hw hf hd=>by
             have h178:a.eval (.tmp 178)=Value.pointer (some ⟨b,0,none⟩):=((knows_in 4 178 (by decide) (by kernel_rfl) rfl rfl):Knows _ _ _ _ _ _ 5 _ _) a ww hw hf hd
             have f0:=cellB y0 hw
             revert h178
             generalize a.eval=ev
             intro h178
             unfold execOp
             simp only [h178]
             go_simp)),
              (step_ex _ rfl (.inr ⟨3,true,177,rfl,by decide,by kernel_rfl,rfl,fun _ _ h=>h⟩) rfl (fun a ww hw hf hd=>by
             have h179:a.eval (.tmp 179)=Value.int .i64 t.1:=((knows_in 5 179 (by decide) (by kernel_rfl) rfl rfl):Knows _ _ _ _ _ _ 6 _ _) a ww hw hf hd
             have f0:=(show ¬t.1=9 by omega)
             have hc:=ec a
             revert hc h179
             generalize a.eval=ev
             intro hc h179
             unfold execOp
             simp only [hc,h179]
             go_simp)),
              (step_ex _ rfl (.inl rfl) rfl (fun a ww hw hf hd=>by
             have h177:a.eval (.tmp 177)=Value.bool true:=((knows_in 3 177 (by decide) (by kernel_rfl) rfl rfl):Knows _ _ _ _ _ _ 7 _ _) a ww hw hf hd
             have h180:a.eval (.tmp 180)=Value.bool true:=((knows_in 6 180 (by decide) (by kernel_rfl) rfl rfl):Knows _ _ _ _ _ _ 7 _ _) a ww hw hf hd
             have hc:=ec a
             revert hc h177 h180
             generalize a.eval=ev
             intro hc h177 h180
             unfold execOp
             simp only [hc,h177,h180]
             go_simp)),
              (step_ex _ rfl (.inl rfl) rfl (fun a ww hw hf hd=>by
             have h181:a.eval (.tmp 181)=Value.bool true:=((knows_in 7 181 (by decide) (by kernel_rfl) rfl rfl):Knows _ _ _ _ _ _ 8 _ _) a ww hw hf hd
             revert h181
             generalize a.eval=ev
             intro h181
             unfold execOp
             simp only [h181]
             go_simp)),
              (step_ex _ rfl (.inr ⟨8,true,182,rfl,by decide,by kernel_rfl,rfl,fun _ _ h=>h⟩) rfl (fun a ww hw hf hd=>by
             have h26:a.eval (.tmp 26)=Value.pointer (some ⟨b,0,none⟩):=((knows_out 26 (by kernel_rfl) rfl):Knows _ _ _ _ _ _ 9 _ _) a ww hw hf hd
             revert h26
             generalize a.eval=ev
             intro h26
             unfold execOp
             simp only [h26]
             go_simp)),
              (step_ex _ rfl (.inr ⟨8,true,182,rfl,by decide,by kernel_rfl,rfl,fun _ _ h=>h⟩) rfl (fun a ww hw hf hd=>by
             have h183:a.eval (.tmp 183)=Value.pointer (some ⟨b,1,none⟩):=((knows_in 9 183 (by decide) (by kernel_rfl) rfl rfl):Knows _ _ _ _ _ _ 10 _ _) a ww hw hf hd
             have f0:=cellB y1 hw
             revert h183
             generalize a.eval=ev
             intro h183
             unfold execOp
             simp only [h183]
             go_simp)),
              (step_ex _ rfl (.inr ⟨8,true,182,rfl,by decide,by kernel_rfl,rfl,fun _ _ h=>h⟩) rfl (fun a ww hw hf hd=>by
             have h25:a.eval (.tmp 25)=Value.int .i64 i:=((knows_out 25 (by kernel_rfl) rfl):Knows _ _ _ _ _ _ 11 _ _) a ww hw hf hd
             revert h25
             generalize a.eval=ev
             intro h25
             unfold execOp
             simp only [h25]
             go_simp)),
              (step_ex _ rfl (.inr ⟨8,true,182,rfl,by decide,by kernel_rfl,rfl,fun _ _ h=>h⟩) rfl (fun a ww hw hf hd=>by
             have h184:a.eval (.tmp 184)=Value.int .i64 t.2.1:=((knows_in 10 184 (by decide) (by kernel_rfl) rfl rfl):Knows _ _ _ _ _ _ 12 _ _) a ww hw hf hd
             have h185:a.eval (.tmp 185)=Value.int .i64 i:=((knows_in 11 185 (by decide) (by kernel_rfl) rfl rfl):Knows _ _ _ _ _ _ 12 _ _) a ww hw hf hd
             have f0:=(show ¬(i:Int)≤t.2.1 by omega)
             have f1:=(show t.2.1<(i:Int) by omega)
             revert h184 h185
             generalize a.eval=ev
             intro h184 h185
             unfold execOp
             simp only [h184,h185]
             go_simp)),
              (step_ex _ rfl (.inr ⟨8,true,182,rfl,by decide,by kernel_rfl,rfl,fun _ _ h=>h⟩) rfl (fun a ww hw hf hd=>by
             have h186:a.eval (.tmp 186)=Value.bool false:=((knows_in 12 186 (by decide) (by kernel_rfl) rfl rfl):Knows _ _ _ _ _ _ 13 _ _) a ww hw hf hd
             revert h186
             generalize a.eval=ev
             intro h186
             unfold execOp
             simp only [h186]
             go_simp)),
              (step_ex _ rfl (.inr ⟨13,false,187,rfl,by decide,by kernel_rfl,rfl,fun _ _ h=>h⟩) rfl (fun a ww hw hf hd=>by
             have h10:a.eval (.tmp 10)=Value.pointer (some ⟨s4,0,none⟩):=((knows_out 10 (by kernel_rfl) rfl):Knows _ _ _ _ _ _ 14 _ _) a ww hw hf hd
             have f0:=cellB b109 hw
             revert h10
             generalize a.eval=ev
             intro h10
             unfold execOp
             simp only [h10]
             go_simp)),
              (step_ex _ rfl (.inr ⟨13,false,187,rfl,by decide,by kernel_rfl,rfl,fun _ _ h=>h⟩) rfl (fun a ww hw hf hd=>by
             have h25:a.eval (.tmp 25)=Value.int .i64 i:=((knows_out 25 (by kernel_rfl) rfl):Knows _ _ _ _ _ _ 15 _ _) a ww hw hf hd
             revert h25
             generalize a.eval=ev
             intro h25
             unfold execOp
             simp only [h25]
             go_simp)),
              (step_cw rfl (.inr ⟨13,false,187,rfl,by decide,by kernel_rfl,rfl,fun _ _ h=>h⟩) rfl cxT14 rfl (fun aa ww hw hf hd=>⟨_,(two_args (knows_in 14 188 (by decide) (by kernel_rfl) rfl rfl) (knows_in 15 189 (by decide) (by kernel_rfl) rfl rfl)) aa ww hw hf hd,hsi ww hw⟩)),
              (step_ex _ rfl (.inr ⟨13,false,187,rfl,by decide,by kernel_rfl,rfl,fun _ _ h=>h⟩) rfl (fun a ww hw hf hd=>by
             have h190:a.eval (.tmp 190)=Value.int .i64 r:=((knows_in 16 190 (by decide) (by kernel_rfl) rfl rfl):Knows _ _ _ _ _ _ 17 _ _) a ww hw hf hd
             have f0:=hsm
             have hc:=ec a
             revert hc h190
             generalize a.eval=ev
             intro hc h190
             unfold execOp
             simp only [hc,h190]
             go_simp)),
              (step_ex _ rfl (.inr ⟨13,false,187,rfl,by decide,by kernel_rfl,rfl,fun _ _ h=>h⟩) rfl (fun a ww hw hf hd=>by
             have h191:a.eval (.tmp 191)=Value.bool false:=((knows_in 17 191 (by decide) (by kernel_rfl) rfl rfl):Knows _ _ _ _ _ _ 18 _ _) a ww hw hf hd
             revert h191
             generalize a.eval=ev
             intro h191
             unfold execOp
             simp only [h191]
             go_simp)),
              (step_off rfl ⟨18,true,192,rfl,by decide,by kernel_rfl,rfl,fun _ _ h=>.inl h⟩ (fun _=>rfl)),
              (step_off rfl ⟨18,true,192,rfl,by decide,by kernel_rfl,rfl,fun _ _ h=>.inl h⟩ (fun _=>rfl)),
              (step_off rfl ⟨18,true,192,rfl,by decide,by kernel_rfl,rfl,fun _ _ h=>.inl h⟩ (fun _=>rfl)),
              (step_off rfl ⟨18,true,192,rfl,by decide,by kernel_rfl,rfl,fun _ _ h=>.inl h⟩ (fun _=>rfl)),
              (step_off rfl ⟨18,true,192,rfl,by decide,by kernel_rfl,rfl,fun _ _ h=>.inl h⟩ (fun _=>rfl)),
              (step_off rfl ⟨18,true,192,rfl,by decide,by kernel_rfl,rfl,fun _ _ h=>.inl h⟩ (fun _=>rfl)),
              (step_off rfl ⟨18,true,192,rfl,by decide,by kernel_rfl,rfl,fun _ _ h=>.inl h⟩ (fun _=>rfl)),
              (step_off rfl ⟨18,true,192,rfl,by decide,by kernel_rfl,rfl,fun _ _ h=>.inl h⟩ (fun _=>rfl)),
              (step_ex _ rfl (.inr ⟨13,false,187,rfl,by decide,by kernel_rfl,rfl,fun _ _ h=>h⟩) rfl (fun a ww hw hf hd=>by
             have h192:a.eval (.tmp 192)=Value.bool false:=((knows_in 18 192 (by decide) (by kernel_rfl) rfl rfl):Knows _ _ _ _ _ _ 27 _ _) a ww hw hf hd
             have hc:=ec a
             revert hc h192
             generalize a.eval=ev
             intro hc h192
             unfold execOp
             simp only [hc,h192]
             go_simp)),
              (step_ex _ rfl (.inr ⟨8,true,182,rfl,by decide,by kernel_rfl,rfl,fun _ _ h=>h⟩) rfl (fun a ww hw hf hd=>by
             have h187:a.eval (.tmp 187)=Value.bool false:=((knows_in 13 187 (by decide) (by kernel_rfl) rfl rfl):Knows _ _ _ _ _ _ 28 _ _) a ww hw hf hd
             have h201:a.eval (.tmp 201)=Value.bool false:=((knows_in 27 201 (by decide) (by kernel_rfl) rfl rfl):Knows _ _ _ _ _ _ 28 _ _) a ww hw hf hd
             have hc:=ec a
             revert hc h187 h201
             generalize a.eval=ev
             intro hc h187 h201
             unfold execOp
             simp only [hc,h187,h201]
             go_simp)),
              (step_ex _ rfl (.inl rfl) rfl (fun a ww hw hf hd=>by
             have h182:a.eval (.tmp 182)=Value.bool true:=((knows_in 8 182 (by decide) (by kernel_rfl) rfl rfl):Knows _ _ _ _ _ _ 29 _ _) a ww hw hf hd
             have h202:a.eval (.tmp 202)=Value.bool false:=((knows_in 28 202 (by decide) (by kernel_rfl) rfl rfl):Knows _ _ _ _ _ _ 29 _ _) a ww hw hf hd
             have hc:=ec a
             revert hc h182 h202
             generalize a.eval=ev
             intro hc h182 h202
             unfold execOp
             simp only [hc,h182,h202]
             go_simp)),
              (step_ex _ rfl (.inl rfl) rfl (fun a ww hw hf hd=>by
             have h203:a.eval (.tmp 203)=Value.bool false:=((knows_in 29 203 (by decide) (by kernel_rfl) rfl rfl):Knows _ _ _ _ _ _ 30 _ _) a ww hw hf hd
             revert h203
             generalize a.eval=ev
             intro h203
             unfold execOp
             simp only [h203]
             go_simp)),
              (step_ex _ rfl (.inr ⟨30,false,204,rfl,by decide,by kernel_rfl,rfl,fun _ _ h=>h⟩) rfl (fun a ww hw hf hd=>by
             have h26:a.eval (.tmp 26)=Value.pointer (some ⟨b,0,none⟩):=((knows_out 26 (by kernel_rfl) rfl):Knows _ _ _ _ _ _ 31 _ _) a ww hw hf hd
             revert h26
             generalize a.eval=ev
             intro h26
             unfold execOp
             simp only [h26]
             go_simp)),
              (step_ex _ rfl (.inr ⟨30,false,204,rfl,by decide,by kernel_rfl,rfl,fun _ _ h=>h⟩) rfl (fun a ww hw hf hd=>by
             have h205:a.eval (.tmp 205)=Value.pointer (some ⟨b,0,none⟩):=((knows_in 31 205 (by decide) (by kernel_rfl) rfl rfl):Knows _ _ _ _ _ _ 32 _ _) a ww hw hf hd
             have f0:=cellB y0 hw
             revert h205
             generalize a.eval=ev
             intro h205
             unfold execOp
             simp only [h205]
             go_simp)),
              (step_ex _ rfl (.inr ⟨30,false,204,rfl,by decide,by kernel_rfl,rfl,fun _ _ h=>h⟩) rfl (fun a ww hw hf hd=>by
             have h206:a.eval (.tmp 206)=Value.int .i64 t.1:=((knows_in 32 206 (by decide) (by kernel_rfl) rfl rfl):Knows _ _ _ _ _ _ 33 _ _) a ww hw hf hd
             have f0:=(show ¬t.1=4 by omega)
             have hc:=ec a
             revert hc h206
             generalize a.eval=ev
             intro hc h206
             unfold execOp
             simp only [hc,h206]
             go_simp)),
              (step_ex _ rfl (.inr ⟨30,false,204,rfl,by decide,by kernel_rfl,rfl,fun _ _ h=>h⟩) rfl (fun a ww hw hf hd=>by
             have h207:a.eval (.tmp 207)=Value.bool false:=((knows_in 33 207 (by decide) (by kernel_rfl) rfl rfl):Knows _ _ _ _ _ _ 34 _ _) a ww hw hf hd
             revert h207
             generalize a.eval=ev
             intro h207
             unfold execOp
             simp only [h207]
             go_simp)),
              (step_ex _ rfl (.inr ⟨34,false,208,rfl,by decide,by kernel_rfl,rfl,fun _ _ h=>h⟩) rfl (fun a ww hw hf hd=>by
             have h26:a.eval (.tmp 26)=Value.pointer (some ⟨b,0,none⟩):=((knows_out 26 (by kernel_rfl) rfl):Knows _ _ _ _ _ _ 35 _ _) a ww hw hf hd
             revert h26
             generalize a.eval=ev
             intro h26
             unfold execOp
             simp only [h26]
             go_simp)),
              (step_ex _ rfl (.inr ⟨34,false,208,rfl,by decide,by kernel_rfl,rfl,fun _ _ h=>h⟩) rfl (fun a ww hw hf hd=>by
             have h209:a.eval (.tmp 209)=Value.pointer (some ⟨b,0,none⟩):=((knows_in 35 209 (by decide) (by kernel_rfl) rfl rfl):Knows _ _ _ _ _ _ 36 _ _) a ww hw hf hd
             have f0:=cellB y0 hw
             revert h209
             generalize a.eval=ev
             intro h209
             unfold execOp
             simp only [h209]
             go_simp)),
              (step_ex _ rfl (.inr ⟨34,false,208,rfl,by decide,by kernel_rfl,rfl,fun _ _ h=>h⟩) rfl (fun a ww hw hf hd=>by
             have h210:a.eval (.tmp 210)=Value.int .i64 t.1:=((knows_in 36 210 (by decide) (by kernel_rfl) rfl rfl):Knows _ _ _ _ _ _ 37 _ _) a ww hw hf hd
             have f0:=(show t.1=5 by omega)
             have hc:=ec a
             revert hc h210
             generalize a.eval=ev
             intro hc h210
             unfold execOp
             simp only [hc,h210]
             go_simp)),
              (step_ex _ rfl (.inr ⟨30,false,204,rfl,by decide,by kernel_rfl,rfl,fun _ _ h=>h⟩) rfl (fun a ww hw hf hd=>by
             have h208:a.eval (.tmp 208)=Value.bool false:=((knows_in 34 208 (by decide) (by kernel_rfl) rfl rfl):Knows _ _ _ _ _ _ 38 _ _) a ww hw hf hd
             have h211:a.eval (.tmp 211)=Value.bool true:=((knows_in 37 211 (by decide) (by kernel_rfl) rfl rfl):Knows _ _ _ _ _ _ 38 _ _) a ww hw hf hd
             have hc:=ec a
             revert hc h208 h211
             generalize a.eval=ev
             intro hc h208 h211
             unfold execOp
             simp only [hc,h208,h211]
             go_simp)),
              (step_ex _ rfl (.inr ⟨30,false,204,rfl,by decide,by kernel_rfl,rfl,fun _ _ h=>h⟩) rfl (fun a ww hw hf hd=>by
             have h212:a.eval (.tmp 212)=Value.bool true:=((knows_in 38 212 (by decide) (by kernel_rfl) rfl rfl):Knows _ _ _ _ _ _ 39 _ _) a ww hw hf hd
             revert h212
             generalize a.eval=ev
             intro h212
             unfold execOp
             simp only [h212]
             go_simp)),
              (step_off rfl ⟨39,false,213,rfl,by decide,by kernel_rfl,rfl,fun _ _ h=>.inl h⟩ (fun _=>rfl)),
              (step_off rfl ⟨39,false,213,rfl,by decide,by kernel_rfl,rfl,fun _ _ h=>.inl h⟩ (fun _=>rfl)),
              (step_off rfl ⟨39,false,213,rfl,by decide,by kernel_rfl,rfl,fun _ _ h=>.inl h⟩ (fun _=>rfl)),
              (step_ex _ rfl (.inr ⟨30,false,204,rfl,by decide,by kernel_rfl,rfl,fun _ _ h=>h⟩) rfl (fun a ww hw hf hd=>by
             have h213:a.eval (.tmp 213)=Value.bool true:=((knows_in 39 213 (by decide) (by kernel_rfl) rfl rfl):Knows _ _ _ _ _ _ 43 _ _) a ww hw hf hd
             have hc:=ec a
             revert hc h213
             generalize a.eval=ev
             intro hc h213
             unfold execOp
             simp only [hc,h213]
             go_simp)),
              (step_ex _ rfl (.inr ⟨30,false,204,rfl,by decide,by kernel_rfl,rfl,fun _ _ h=>h⟩) rfl (fun a ww hw hf hd=>by
             have h217:a.eval (.tmp 217)=Value.bool true:=((knows_in 43 217 (by decide) (by kernel_rfl) rfl rfl):Knows _ _ _ _ _ _ 44 _ _) a ww hw hf hd
             revert h217
             generalize a.eval=ev
             intro h217
             unfold execOp
             simp only [h217]
             go_simp)),
              (step_ex _ rfl (.inr ⟨44,true,218,rfl,by decide,by kernel_rfl,rfl,fun _ _ h=>h⟩) rfl (fun a ww hw hf hd=>by
             have h26:a.eval (.tmp 26)=Value.pointer (some ⟨b,0,none⟩):=((knows_out 26 (by kernel_rfl) rfl):Knows _ _ _ _ _ _ 45 _ _) a ww hw hf hd
             revert h26
             generalize a.eval=ev
             intro h26
             unfold execOp
             simp only [h26]
             go_simp)),
              (step_ex _ rfl (.inr ⟨44,true,218,rfl,by decide,by kernel_rfl,rfl,fun _ _ h=>h⟩) rfl (fun a ww hw hf hd=>by
             have h219:a.eval (.tmp 219)=Value.pointer (some ⟨b,2,none⟩):=((knows_in 45 219 (by decide) (by kernel_rfl) rfl rfl):Knows _ _ _ _ _ _ 46 _ _) a ww hw hf hd
             have f0:=cellB y2 hw
             revert h219
             generalize a.eval=ev
             intro h219
             unfold execOp
             simp only [h219]
             go_simp)),
              (step_ex _ rfl (.inr ⟨44,true,218,rfl,by decide,by kernel_rfl,rfl,fun _ _ h=>h⟩) rfl (fun a ww hw hf hd=>by
             have h25:a.eval (.tmp 25)=Value.int .i64 i:=((knows_out 25 (by kernel_rfl) rfl):Knows _ _ _ _ _ _ 47 _ _) a ww hw hf hd
             revert h25
             generalize a.eval=ev
             intro h25
             unfold execOp
             simp only [h25]
             go_simp)),
              (step_ex _ rfl (.inr ⟨44,true,218,rfl,by decide,by kernel_rfl,rfl,fun _ _ h=>h⟩) rfl (fun a ww hw hf hd=>by
             have h220:a.eval (.tmp 220)=Value.int .i64 t.2.2:=((knows_in 46 220 (by decide) (by kernel_rfl) rfl rfl):Knows _ _ _ _ _ _ 48 _ _) a ww hw hf hd
             have h221:a.eval (.tmp 221)=Value.int .i64 i:=((knows_in 47 221 (by decide) (by kernel_rfl) rfl rfl):Knows _ _ _ _ _ _ 48 _ _) a ww hw hf hd
             have f0:=(show ¬(i:Int)≤t.2.2 by omega)
             have f1:=(show t.2.2<(i:Int) by omega)
             revert h220 h221
             generalize a.eval=ev
             intro h220 h221
             unfold execOp
             simp only [h220,h221]
             go_simp)),
              (step_ex _ rfl (.inr ⟨30,false,204,rfl,by decide,by kernel_rfl,rfl,fun _ _ h=>h⟩) rfl (fun a ww hw hf hd=>by
             have h218:a.eval (.tmp 218)=Value.bool true:=((knows_in 44 218 (by decide) (by kernel_rfl) rfl rfl):Knows _ _ _ _ _ _ 49 _ _) a ww hw hf hd
             have h222:a.eval (.tmp 222)=Value.bool false:=((knows_in 48 222 (by decide) (by kernel_rfl) rfl rfl):Knows _ _ _ _ _ _ 49 _ _) a ww hw hf hd
             have hc:=ec a
             revert hc h218 h222
             generalize a.eval=ev
             intro hc h218 h222
             unfold execOp
             simp only [hc,h218,h222]
             go_simp)),trivial⟩ ?_
            intro val W12 hw hS _ _
            have e204:val 204=Value.bool false:=hS 30 204 (by decide) rfl
            have e223:val 223=Value.bool false:=hS 49 223 (by decide) rfl
            simp only [putVals,List.foldl_cons,List.foldl_nil,List.drop_succ_cons,List.drop_zero,Act.put,List.setIfInBounds_toArray,List.set_cons_succ,List.set_cons_zero,e204,e223]
            clear e204 e223 hS
            go_wp2
            gi_wp2
            exact hpost _ hw
          ·have hsA:=hsa ha0 ha1
           by_cases hsm:r<1048576
           ·have hgr:=hgrow (by omega) (by omega) hsm
            refine region_round 50 225 (fun _=>false) [Is (Value.pointer (some ⟨b,0,none⟩)),Is (Value.int .i64 t.1),Is (Value.bool true),Is (Value.bool true),Is (Value.pointer (some ⟨b,0,none⟩)),Is (Value.int .i64 t.1),Is (Value.bool true),Is (Value.bool true),Is (Value.bool true),Is (Value.pointer (some ⟨b,1,none⟩)),Is (Value.int .i64 t.2.1),Is (Value.int .i64 i),Is (Value.bool false),Is (Value.bool false),Is (Value.pointer (some ⟨p,0,none⟩)),Is (Value.int .i64 i),Is (Value.int .i64 r),Is (Value.bool true),Is (Value.bool true),Is (Value.pointer (some ⟨p,0,none⟩)),Is (Value.pointer (some ⟨b,1,none⟩)),Is (Value.int .i64 t.2.1),Is (Value.int .i64 ra),Is (Value.pointer (some ⟨p,0,none⟩)),Is (Value.int .i64 i),Is (Value.int .i64 r),Is (Value.bool false),Is (Value.bool false),Is (Value.bool false),Is (Value.bool false),Is (Value.bool false),Is (Value.pointer (some ⟨b,0,none⟩)),Is (Value.int .i64 t.1),Is (Value.bool false),Is (Value.bool false),Is (Value.pointer (some ⟨b,0,none⟩)),Is (Value.int .i64 t.1),Is (Value.bool false),Is (Value.bool false),Is (Value.bool false),Is (Value.pointer (some ⟨b,0,none⟩)),Is (Value.int .i64 t.1),Is (Value.bool true),Is (Value.bool true),Is (Value.bool true),Is (Value.pointer (some ⟨b,2,none⟩)),Is (Value.int .i64 t.2.2),Is (Value.int .i64 i),Is (Value.bool false),Is (Value.bool false)] [174,175,176,177,178,179,180,181,182,183,184,185,186,187,188,189,190,191,192,193,194,195,196,197,198,199,200,201,202,203,204,205,206,207,208,209,210,211,212,213,214,215,216,217,218,219,220,221,222,223] (by kernel_rfl) (by kernel_rfl) (by kernel_rfl) (Nat.le_of_eq rfl) rfl (fun h=>by obtain ⟨_,_,h⟩:=h;exact h) (grows_cons (Is.grows _) (grows_cons (Is.grows _) (grows_cons (Is.grows _) (grows_cons (Is.grows _) (grows_cons (Is.grows _) (grows_cons (Is.grows _) (grows_cons (Is.grows _) (grows_cons (Is.grows _) (grows_cons (Is.grows _) (grows_cons (Is.grows _) (grows_cons (Is.grows _) (grows_cons (Is.grows _) (grows_cons (Is.grows _) (grows_cons (Is.grows _) (grows_cons (Is.grows _) (grows_cons (Is.grows _) (grows_cons (Is.grows _) (grows_cons (Is.grows _) (grows_cons (Is.grows _) (grows_cons (Is.grows _) (grows_cons (Is.grows _) (grows_cons (Is.grows _) (grows_cons (Is.grows _) (grows_cons (Is.grows _) (grows_cons (Is.grows _) (grows_cons (Is.grows _) (grows_cons (Is.grows _) (grows_cons (Is.grows _) (grows_cons (Is.grows _) (grows_cons (Is.grows _) (grows_cons (Is.grows _) (grows_cons (Is.grows _) (grows_cons (Is.grows _) (grows_cons (Is.grows _) (grows_cons (Is.grows _) (grows_cons (Is.grows _) (grows_cons (Is.grows _) (grows_cons (Is.grows _) (grows_cons (Is.grows _) (grows_cons (Is.grows _) (grows_cons (Is.grows _) (grows_cons (Is.grows _) (grows_cons (Is.grows _) (grows_cons (Is.grows _) (grows_cons (Is.grows _) (grows_cons (Is.grows _) (grows_cons (Is.grows _) (grows_cons (Is.grows _) (grows_cons (Is.grows _) (grows_cons (Is.grows _) grows_nil))))))))))))))))))))))))))))))))))))))))))))))))))
             ⟨(step_ex _ rfl (.inl rfl) rfl (fun a ww hw hf hd=>by
             have h26:a.eval (.tmp 26)=Value.pointer (some ⟨b,0,none⟩):=((knows_out 26 (by kernel_rfl) rfl):Knows _ _ _ _ _ _ 0 _ _) a ww hw hf hd
             revert h26
             generalize a.eval=ev
             intro h26
             unfold execOp
             simp only [h26]
             go_simp)),
              (step_ex _ rfl (.inl rfl) rfl (fun a ww hw hf hd=>by
             have h174:a.eval (.tmp 174)=Value.pointer (some ⟨b,0,none⟩):=((knows_in 0 174 (by decide) (by kernel_rfl) rfl rfl):Knows _ _ _ _ _ _ 1 _ _) a ww hw hf hd
             have f0:=cellB y0 hw
             revert h174
             generalize a.eval=ev
             intro h174
             unfold execOp
             simp only [h174]
             go_simp)),
              (step_ex _ rfl (.inl rfl) rfl (fun a ww hw hf hd=>by
             have h175:a.eval (.tmp 175)=Value.int .i64 t.1:=((knows_in 1 175 (by decide) (by kernel_rfl) rfl rfl):Knows _ _ _ _ _ _ 2 _ _) a ww hw hf hd
             have f0:=(show ¬t.1=1 by omega)
             have hc:=ec a
             revert hc h175
             generalize a.eval=ev
             intro hc h175
             unfold execOp
             simp only [hc,h175]
             go_simp)),
              (step_ex _ rfl (.inl rfl) rfl (fun a ww hw hf hd=>by
             have h176:a.eval (.tmp 176)=Value.bool true:=((knows_in 2 176 (by decide) (by kernel_rfl) rfl rfl):Knows _ _ _ _ _ _ 3 _ _) a ww hw hf hd
             revert h176
             generalize a.eval=ev
             intro h176
             unfold execOp
             simp only [h176]
             go_simp)),
              (step_ex _ rfl (.inr ⟨3,true,177,rfl,by decide,by kernel_rfl,rfl,fun _ _ h=>h⟩) rfl (fun a ww hw hf hd=>by
             have h26:a.eval (.tmp 26)=Value.pointer (some ⟨b,0,none⟩):=((knows_out 26 (by kernel_rfl) rfl):Knows _ _ _ _ _ _ 4 _ _) a ww hw hf hd
             revert h26
             generalize a.eval=ev
             intro h26
             unfold execOp
             simp only [h26]
             go_simp)),
              (step_ex _ rfl (.inr ⟨3,true,177,rfl,by decide,by kernel_rfl,rfl,fun _ _ h=>h⟩) rfl (fun a ww hw hf hd=>by
             have h178:a.eval (.tmp 178)=Value.pointer (some ⟨b,0,none⟩):=((knows_in 4 178 (by decide) (by kernel_rfl) rfl rfl):Knows _ _ _ _ _ _ 5 _ _) a ww hw hf hd
             have f0:=cellB y0 hw
             revert h178
             generalize a.eval=ev
             intro h178
             unfold execOp
             simp only [h178]
             go_simp)),
              (step_ex _ rfl (.inr ⟨3,true,177,rfl,by decide,by kernel_rfl,rfl,fun _ _ h=>h⟩) rfl (fun a ww hw hf hd=>by
             have h179:a.eval (.tmp 179)=Value.int .i64 t.1:=((knows_in 5 179 (by decide) (by kernel_rfl) rfl rfl):Knows _ _ _ _ _ _ 6 _ _) a ww hw hf hd
             have f0:=(show ¬t.1=9 by omega)
             have hc:=ec a
             revert hc h179
             generalize a.eval=ev
             intro hc h179
             unfold execOp
             simp only [hc,h179]
             go_simp)),
              (step_ex _ rfl (.inl rfl) rfl (fun a ww hw hf hd=>by
             have h177:a.eval (.tmp 177)=Value.bool true:=((knows_in 3 177 (by decide) (by kernel_rfl) rfl rfl):Knows _ _ _ _ _ _ 7 _ _) a ww hw hf hd
             have h180:a.eval (.tmp 180)=Value.bool true:=((knows_in 6 180 (by decide) (by kernel_rfl) rfl rfl):Knows _ _ _ _ _ _ 7 _ _) a ww hw hf hd
             have hc:=ec a
             revert hc h177 h180
             generalize a.eval=ev
             intro hc h177 h180
             unfold execOp
             simp only [hc,h177,h180]
             go_simp)),
              (step_ex _ rfl (.inl rfl) rfl (fun a ww hw hf hd=>by
             have h181:a.eval (.tmp 181)=Value.bool true:=((knows_in 7 181 (by decide) (by kernel_rfl) rfl rfl):Knows _ _ _ _ _ _ 8 _ _) a ww hw hf hd
             revert h181
             generalize a.eval=ev
             intro h181
             unfold execOp
             simp only [h181]
             go_simp)),
              (step_ex _ rfl (.inr ⟨8,true,182,rfl,by decide,by kernel_rfl,rfl,fun _ _ h=>h⟩) rfl (fun a ww hw hf hd=>by
             have h26:a.eval (.tmp 26)=Value.pointer (some ⟨b,0,none⟩):=((knows_out 26 (by kernel_rfl) rfl):Knows _ _ _ _ _ _ 9 _ _) a ww hw hf hd
             revert h26
             generalize a.eval=ev
             intro h26
             unfold execOp
             simp only [h26]
             go_simp)),
              (step_ex _ rfl (.inr ⟨8,true,182,rfl,by decide,by kernel_rfl,rfl,fun _ _ h=>h⟩) rfl (fun a ww hw hf hd=>by
             have h183:a.eval (.tmp 183)=Value.pointer (some ⟨b,1,none⟩):=((knows_in 9 183 (by decide) (by kernel_rfl) rfl rfl):Knows _ _ _ _ _ _ 10 _ _) a ww hw hf hd
             have f0:=cellB y1 hw
             revert h183
             generalize a.eval=ev
             intro h183
             unfold execOp
             simp only [h183]
             go_simp)),
              (step_ex _ rfl (.inr ⟨8,true,182,rfl,by decide,by kernel_rfl,rfl,fun _ _ h=>h⟩) rfl (fun a ww hw hf hd=>by
             have h25:a.eval (.tmp 25)=Value.int .i64 i:=((knows_out 25 (by kernel_rfl) rfl):Knows _ _ _ _ _ _ 11 _ _) a ww hw hf hd
             revert h25
             generalize a.eval=ev
             intro h25
             unfold execOp
             simp only [h25]
             go_simp)),
              (step_ex _ rfl (.inr ⟨8,true,182,rfl,by decide,by kernel_rfl,rfl,fun _ _ h=>h⟩) rfl (fun a ww hw hf hd=>by
             have h184:a.eval (.tmp 184)=Value.int .i64 t.2.1:=((knows_in 10 184 (by decide) (by kernel_rfl) rfl rfl):Knows _ _ _ _ _ _ 12 _ _) a ww hw hf hd
             have h185:a.eval (.tmp 185)=Value.int .i64 i:=((knows_in 11 185 (by decide) (by kernel_rfl) rfl rfl):Knows _ _ _ _ _ _ 12 _ _) a ww hw hf hd
             have f0:=(show ¬(i:Int)≤t.2.1 by omega)
             have f1:=(show t.2.1<(i:Int) by omega)
             revert h184 h185
             generalize a.eval=ev
             intro h184 h185
             unfold execOp
             simp only [h184,h185]
             go_simp)),
              (step_ex _ rfl (.inr ⟨8,true,182,rfl,by decide,by kernel_rfl,rfl,fun _ _ h=>h⟩) rfl (fun a ww hw hf hd=>by
             have h186:a.eval (.tmp 186)=Value.bool false:=((knows_in 12 186 (by decide) (by kernel_rfl) rfl rfl):Knows _ _ _ _ _ _ 13 _ _) a ww hw hf hd
             revert h186
             generalize a.eval=ev
             intro h186
             unfold execOp
             simp only [h186]
             go_simp)),
              (step_ex _ rfl (.inr ⟨13,false,187,rfl,by decide,by kernel_rfl,rfl,fun _ _ h=>h⟩) rfl (fun a ww hw hf hd=>by
             have h10:a.eval (.tmp 10)=Value.pointer (some ⟨s4,0,none⟩):=((knows_out 10 (by kernel_rfl) rfl):Knows _ _ _ _ _ _ 14 _ _) a ww hw hf hd
             have f0:=cellB b109 hw
             revert h10
             generalize a.eval=ev
             intro h10
             unfold execOp
             simp only [h10]
             go_simp)),
              (step_ex _ rfl (.inr ⟨13,false,187,rfl,by decide,by kernel_rfl,rfl,fun _ _ h=>h⟩) rfl (fun a ww hw hf hd=>by
             have h25:a.eval (.tmp 25)=Value.int .i64 i:=((knows_out 25 (by kernel_rfl) rfl):Knows _ _ _ _ _ _ 15 _ _) a ww hw hf hd
             revert h25
             generalize a.eval=ev
             intro h25
             unfold execOp
             simp only [h25]
             go_simp)),
              (step_cw rfl (.inr ⟨13,false,187,rfl,by decide,by kernel_rfl,rfl,fun _ _ h=>h⟩) rfl cxT14 rfl (fun aa ww hw hf hd=>⟨_,(two_args (knows_in 14 188 (by decide) (by kernel_rfl) rfl rfl) (knows_in 15 189 (by decide) (by kernel_rfl) rfl rfl)) aa ww hw hf hd,hsi ww hw⟩)),
              (step_ex _ rfl (.inr ⟨13,false,187,rfl,by decide,by kernel_rfl,rfl,fun _ _ h=>h⟩) rfl (fun a ww hw hf hd=>by
             have h190:a.eval (.tmp 190)=Value.int .i64 r:=((knows_in 16 190 (by decide) (by kernel_rfl) rfl rfl):Knows _ _ _ _ _ _ 17 _ _) a ww hw hf hd
             have f0:=hsm
             have hc:=ec a
             revert hc h190
             generalize a.eval=ev
             intro hc h190
             unfold execOp
             simp only [hc,h190]
             go_simp)),
              (step_ex _ rfl (.inr ⟨13,false,187,rfl,by decide,by kernel_rfl,rfl,fun _ _ h=>h⟩) rfl (fun a ww hw hf hd=>by
             have h191:a.eval (.tmp 191)=Value.bool true:=((knows_in 17 191 (by decide) (by kernel_rfl) rfl rfl):Knows _ _ _ _ _ _ 18 _ _) a ww hw hf hd
             revert h191
             generalize a.eval=ev
             intro h191
             unfold execOp
             simp only [h191]
             go_simp)),
              (step_ex _ rfl (.inr ⟨18,true,192,rfl,by decide,by kernel_rfl,rfl,fun _ _ h=>h⟩) rfl (fun a ww hw hf hd=>by
             have h10:a.eval (.tmp 10)=Value.pointer (some ⟨s4,0,none⟩):=((knows_out 10 (by kernel_rfl) rfl):Knows _ _ _ _ _ _ 19 _ _) a ww hw hf hd
             have f0:=cellB b109 hw
             revert h10
             generalize a.eval=ev
             intro h10
             unfold execOp
             simp only [h10]
             go_simp)),
              (step_ex _ rfl (.inr ⟨18,true,192,rfl,by decide,by kernel_rfl,rfl,fun _ _ h=>h⟩) rfl (fun a ww hw hf hd=>by
             have h26:a.eval (.tmp 26)=Value.pointer (some ⟨b,0,none⟩):=((knows_out 26 (by kernel_rfl) rfl):Knows _ _ _ _ _ _ 20 _ _) a ww hw hf hd
             revert h26
             generalize a.eval=ev
             intro h26
             unfold execOp
             simp only [h26]
             go_simp)),
              (step_ex _ rfl (.inr ⟨18,true,192,rfl,by decide,by kernel_rfl,rfl,fun _ _ h=>h⟩) rfl (fun a ww hw hf hd=>by
             have h194:a.eval (.tmp 194)=Value.pointer (some ⟨b,1,none⟩):=((knows_in 20 194 (by decide) (by kernel_rfl) rfl rfl):Knows _ _ _ _ _ _ 21 _ _) a ww hw hf hd
             have f0:=cellB y1 hw
             revert h194
             generalize a.eval=ev
             intro h194
             unfold execOp
             simp only [h194]
             go_simp)),
              (step_cw rfl (.inr ⟨18,true,192,rfl,by decide,by kernel_rfl,rfl,fun _ _ h=>h⟩) rfl cxT14 rfl (fun aa ww hw hf hd=>⟨_,(two_args (knows_in 19 193 (by decide) (by kernel_rfl) rfl rfl) (knows_in 21 195 (by decide) (by kernel_rfl) rfl rfl)) aa ww hw hf hd,hsA ww hw⟩)),
              (step_ex _ rfl (.inr ⟨18,true,192,rfl,by decide,by kernel_rfl,rfl,fun _ _ h=>h⟩) rfl (fun a ww hw hf hd=>by
             have h10:a.eval (.tmp 10)=Value.pointer (some ⟨s4,0,none⟩):=((knows_out 10 (by kernel_rfl) rfl):Knows _ _ _ _ _ _ 23 _ _) a ww hw hf hd
             have f0:=cellB b109 hw
             revert h10
             generalize a.eval=ev
             intro h10
             unfold execOp
             simp only [h10]
             go_simp)),
              (step_ex _ rfl (.inr ⟨18,true,192,rfl,by decide,by kernel_rfl,rfl,fun _ _ h=>h⟩) rfl (fun a ww hw hf hd=>by
             have h25:a.eval (.tmp 25)=Value.int .i64 i:=((knows_out 25 (by kernel_rfl) rfl):Knows _ _ _ _ _ _ 24 _ _) a ww hw hf hd
             revert h25
             generalize a.eval=ev
             intro h25
             unfold execOp
             simp only [h25]
             go_simp)),
              (step_cw rfl (.inr ⟨18,true,192,rfl,by decide,by kernel_rfl,rfl,fun _ _ h=>h⟩) rfl cxT14 rfl (fun aa ww hw hf hd=>⟨_,(two_args (knows_in 23 197 (by decide) (by kernel_rfl) rfl rfl) (knows_in 24 198 (by decide) (by kernel_rfl) rfl rfl)) aa ww hw hf hd,hsi ww hw⟩)),
              (step_ex _ rfl (.inr ⟨18,true,192,rfl,by decide,by kernel_rfl,rfl,fun _ _ h=>h⟩) rfl (fun a ww hw hf hd=>by
             have h196:a.eval (.tmp 196)=Value.int .i64 ra:=((knows_in 22 196 (by decide) (by kernel_rfl) rfl rfl):Knows _ _ _ _ _ _ 26 _ _) a ww hw hf hd
             have h199:a.eval (.tmp 199)=Value.int .i64 r:=((knows_in 25 199 (by decide) (by kernel_rfl) rfl rfl):Knows _ _ _ _ _ _ 26 _ _) a ww hw hf hd
             have f0:=hgr
             have f1:=Int.not_le.1 hgr
             revert h196 h199
             generalize a.eval=ev
             intro h196 h199
             unfold execOp
             simp only [h196,h199]
             go_simp)),
              (step_ex _ rfl (.inr ⟨13,false,187,rfl,by decide,by kernel_rfl,rfl,fun _ _ h=>h⟩) rfl (fun a ww hw hf hd=>by
             have h192:a.eval (.tmp 192)=Value.bool true:=((knows_in 18 192 (by decide) (by kernel_rfl) rfl rfl):Knows _ _ _ _ _ _ 27 _ _) a ww hw hf hd
             have h200:a.eval (.tmp 200)=Value.bool false:=((knows_in 26 200 (by decide) (by kernel_rfl) rfl rfl):Knows _ _ _ _ _ _ 27 _ _) a ww hw hf hd
             have hc:=ec a
             revert hc h192 h200
             generalize a.eval=ev
             intro hc h192 h200
             unfold execOp
             simp only [hc,h192,h200]
             go_simp)),
              (step_ex _ rfl (.inr ⟨8,true,182,rfl,by decide,by kernel_rfl,rfl,fun _ _ h=>h⟩) rfl (fun a ww hw hf hd=>by
             have h187:a.eval (.tmp 187)=Value.bool false:=((knows_in 13 187 (by decide) (by kernel_rfl) rfl rfl):Knows _ _ _ _ _ _ 28 _ _) a ww hw hf hd
             have h201:a.eval (.tmp 201)=Value.bool false:=((knows_in 27 201 (by decide) (by kernel_rfl) rfl rfl):Knows _ _ _ _ _ _ 28 _ _) a ww hw hf hd
             have hc:=ec a
             revert hc h187 h201
             generalize a.eval=ev
             intro hc h187 h201
             unfold execOp
             simp only [hc,h187,h201]
             go_simp)),
              (step_ex _ rfl (.inl rfl) rfl (fun a ww hw hf hd=>by
             have h182:a.eval (.tmp 182)=Value.bool true:=((knows_in 8 182 (by decide) (by kernel_rfl) rfl rfl):Knows _ _ _ _ _ _ 29 _ _) a ww hw hf hd
             have h202:a.eval (.tmp 202)=Value.bool false:=((knows_in 28 202 (by decide) (by kernel_rfl) rfl rfl):Knows _ _ _ _ _ _ 29 _ _) a ww hw hf hd
             have hc:=ec a
             revert hc h182 h202
             generalize a.eval=ev
             intro hc h182 h202
             unfold execOp
             simp only [hc,h182,h202]
             go_simp)),
              (step_ex _ rfl (.inl rfl) rfl (fun a ww hw hf hd=>by
             have h203:a.eval (.tmp 203)=Value.bool false:=((knows_in 29 203 (by decide) (by kernel_rfl) rfl rfl):Knows _ _ _ _ _ _ 30 _ _) a ww hw hf hd
             revert h203
             generalize a.eval=ev
             intro h203
             unfold execOp
             simp only [h203]
             go_simp)),
              (step_ex _ rfl (.inr ⟨30,false,204,rfl,by decide,by kernel_rfl,rfl,fun _ _ h=>h⟩) rfl (fun a ww hw hf hd=>by
             have h26:a.eval (.tmp 26)=Value.pointer (some ⟨b,0,none⟩):=((knows_out 26 (by kernel_rfl) rfl):Knows _ _ _ _ _ _ 31 _ _) a ww hw hf hd
             revert h26
             generalize a.eval=ev
             intro h26
             unfold execOp
             simp only [h26]
             go_simp)),
              (step_ex _ rfl (.inr ⟨30,false,204,rfl,by decide,by kernel_rfl,rfl,fun _ _ h=>h⟩) rfl (fun a ww hw hf hd=>by
             have h205:a.eval (.tmp 205)=Value.pointer (some ⟨b,0,none⟩):=((knows_in 31 205 (by decide) (by kernel_rfl) rfl rfl):Knows _ _ _ _ _ _ 32 _ _) a ww hw hf hd
             have f0:=cellB y0 hw
             revert h205
             generalize a.eval=ev
             intro h205
             unfold execOp
             simp only [h205]
             go_simp)),
              (step_ex _ rfl (.inr ⟨30,false,204,rfl,by decide,by kernel_rfl,rfl,fun _ _ h=>h⟩) rfl (fun a ww hw hf hd=>by
             have h206:a.eval (.tmp 206)=Value.int .i64 t.1:=((knows_in 32 206 (by decide) (by kernel_rfl) rfl rfl):Knows _ _ _ _ _ _ 33 _ _) a ww hw hf hd
             have f0:=(show ¬t.1=4 by omega)
             have hc:=ec a
             revert hc h206
             generalize a.eval=ev
             intro hc h206
             unfold execOp
             simp only [hc,h206]
             go_simp)),
              (step_ex _ rfl (.inr ⟨30,false,204,rfl,by decide,by kernel_rfl,rfl,fun _ _ h=>h⟩) rfl (fun a ww hw hf hd=>by
             have h207:a.eval (.tmp 207)=Value.bool false:=((knows_in 33 207 (by decide) (by kernel_rfl) rfl rfl):Knows _ _ _ _ _ _ 34 _ _) a ww hw hf hd
             revert h207
             generalize a.eval=ev
             intro h207
             unfold execOp
             simp only [h207]
             go_simp)),
              (step_ex _ rfl (.inr ⟨34,false,208,rfl,by decide,by kernel_rfl,rfl,fun _ _ h=>h⟩) rfl (fun a ww hw hf hd=>by
             have h26:a.eval (.tmp 26)=Value.pointer (some ⟨b,0,none⟩):=((knows_out 26 (by kernel_rfl) rfl):Knows _ _ _ _ _ _ 35 _ _) a ww hw hf hd
             revert h26
             generalize a.eval=ev
             intro h26
             unfold execOp
             simp only [h26]
             go_simp)),
              (step_ex _ rfl (.inr ⟨34,false,208,rfl,by decide,by kernel_rfl,rfl,fun _ _ h=>h⟩) rfl (fun a ww hw hf hd=>by
             have h209:a.eval (.tmp 209)=Value.pointer (some ⟨b,0,none⟩):=((knows_in 35 209 (by decide) (by kernel_rfl) rfl rfl):Knows _ _ _ _ _ _ 36 _ _) a ww hw hf hd
             have f0:=cellB y0 hw
             revert h209
             generalize a.eval=ev
             intro h209
             unfold execOp
             simp only [h209]
             go_simp)),
              (step_ex _ rfl (.inr ⟨34,false,208,rfl,by decide,by kernel_rfl,rfl,fun _ _ h=>h⟩) rfl (fun a ww hw hf hd=>by
             have h210:a.eval (.tmp 210)=Value.int .i64 t.1:=((knows_in 36 210 (by decide) (by kernel_rfl) rfl rfl):Knows _ _ _ _ _ _ 37 _ _) a ww hw hf hd
             have f0:=(show ¬t.1=5 by omega)
             have hc:=ec a
             revert hc h210
             generalize a.eval=ev
             intro hc h210
             unfold execOp
             simp only [hc,h210]
             go_simp)),
              (step_ex _ rfl (.inr ⟨30,false,204,rfl,by decide,by kernel_rfl,rfl,fun _ _ h=>h⟩) rfl (fun a ww hw hf hd=>by
             have h208:a.eval (.tmp 208)=Value.bool false:=((knows_in 34 208 (by decide) (by kernel_rfl) rfl rfl):Knows _ _ _ _ _ _ 38 _ _) a ww hw hf hd
             have h211:a.eval (.tmp 211)=Value.bool false:=((knows_in 37 211 (by decide) (by kernel_rfl) rfl rfl):Knows _ _ _ _ _ _ 38 _ _) a ww hw hf hd
             have hc:=ec a
             revert hc h208 h211
             generalize a.eval=ev
             intro hc h208 h211
             unfold execOp
             simp only [hc,h208,h211]
             go_simp)),
              (step_ex _ rfl (.inr ⟨30,false,204,rfl,by decide,by kernel_rfl,rfl,fun _ _ h=>h⟩) rfl (fun a ww hw hf hd=>by
             have h212:a.eval (.tmp 212)=Value.bool false:=((knows_in 38 212 (by decide) (by kernel_rfl) rfl rfl):Knows _ _ _ _ _ _ 39 _ _) a ww hw hf hd
             revert h212
             generalize a.eval=ev
             intro h212
             unfold execOp
             simp only [h212]
             go_simp)),
              (step_ex _ rfl (.inr ⟨39,false,213,rfl,by decide,by kernel_rfl,rfl,fun _ _ h=>h⟩) rfl (fun a ww hw hf hd=>by
             have h26:a.eval (.tmp 26)=Value.pointer (some ⟨b,0,none⟩):=((knows_out 26 (by kernel_rfl) rfl):Knows _ _ _ _ _ _ 40 _ _) a ww hw hf hd
             revert h26
             generalize a.eval=ev
             intro h26
             unfold execOp
             simp only [h26]
             go_simp)),
              (step_ex _ rfl (.inr ⟨39,false,213,rfl,by decide,by kernel_rfl,rfl,fun _ _ h=>h⟩) rfl (fun a ww hw hf hd=>by
             have h214:a.eval (.tmp 214)=Value.pointer (some ⟨b,0,none⟩):=((knows_in 40 214 (by decide) (by kernel_rfl) rfl rfl):Knows _ _ _ _ _ _ 41 _ _) a ww hw hf hd
             have f0:=cellB y0 hw
             revert h214
             generalize a.eval=ev
             intro h214
             unfold execOp
             simp only [h214]
             go_simp)),
              (step_ex _ rfl (.inr ⟨39,false,213,rfl,by decide,by kernel_rfl,rfl,fun _ _ h=>h⟩) rfl (fun a ww hw hf hd=>by
             have h215:a.eval (.tmp 215)=Value.int .i64 t.1:=((knows_in 41 215 (by decide) (by kernel_rfl) rfl rfl):Knows _ _ _ _ _ _ 42 _ _) a ww hw hf hd
             have f0:=(show t.1=8 by omega)
             have hc:=ec a
             revert hc h215
             generalize a.eval=ev
             intro hc h215
             unfold execOp
             simp only [hc,h215]
             go_simp)),
              (step_ex _ rfl (.inr ⟨30,false,204,rfl,by decide,by kernel_rfl,rfl,fun _ _ h=>h⟩) rfl (fun a ww hw hf hd=>by
             have h213:a.eval (.tmp 213)=Value.bool false:=((knows_in 39 213 (by decide) (by kernel_rfl) rfl rfl):Knows _ _ _ _ _ _ 43 _ _) a ww hw hf hd
             have h216:a.eval (.tmp 216)=Value.bool true:=((knows_in 42 216 (by decide) (by kernel_rfl) rfl rfl):Knows _ _ _ _ _ _ 43 _ _) a ww hw hf hd
             have hc:=ec a
             revert hc h213 h216
             generalize a.eval=ev
             intro hc h213 h216
             unfold execOp
             simp only [hc,h213,h216]
             go_simp)),
              (step_ex _ rfl (.inr ⟨30,false,204,rfl,by decide,by kernel_rfl,rfl,fun _ _ h=>h⟩) rfl (fun a ww hw hf hd=>by
             have h217:a.eval (.tmp 217)=Value.bool true:=((knows_in 43 217 (by decide) (by kernel_rfl) rfl rfl):Knows _ _ _ _ _ _ 44 _ _) a ww hw hf hd
             revert h217
             generalize a.eval=ev
             intro h217
             unfold execOp
             simp only [h217]
             go_simp)),
              (step_ex _ rfl (.inr ⟨44,true,218,rfl,by decide,by kernel_rfl,rfl,fun _ _ h=>h⟩) rfl (fun a ww hw hf hd=>by
             have h26:a.eval (.tmp 26)=Value.pointer (some ⟨b,0,none⟩):=((knows_out 26 (by kernel_rfl) rfl):Knows _ _ _ _ _ _ 45 _ _) a ww hw hf hd
             revert h26
             generalize a.eval=ev
             intro h26
             unfold execOp
             simp only [h26]
             go_simp)),
              (step_ex _ rfl (.inr ⟨44,true,218,rfl,by decide,by kernel_rfl,rfl,fun _ _ h=>h⟩) rfl (fun a ww hw hf hd=>by
             have h219:a.eval (.tmp 219)=Value.pointer (some ⟨b,2,none⟩):=((knows_in 45 219 (by decide) (by kernel_rfl) rfl rfl):Knows _ _ _ _ _ _ 46 _ _) a ww hw hf hd
             have f0:=cellB y2 hw
             revert h219
             generalize a.eval=ev
             intro h219
             unfold execOp
             simp only [h219]
             go_simp)),
              (step_ex _ rfl (.inr ⟨44,true,218,rfl,by decide,by kernel_rfl,rfl,fun _ _ h=>h⟩) rfl (fun a ww hw hf hd=>by
             have h25:a.eval (.tmp 25)=Value.int .i64 i:=((knows_out 25 (by kernel_rfl) rfl):Knows _ _ _ _ _ _ 47 _ _) a ww hw hf hd
             revert h25
             generalize a.eval=ev
             intro h25
             unfold execOp
             simp only [h25]
             go_simp)),
              (step_ex _ rfl (.inr ⟨44,true,218,rfl,by decide,by kernel_rfl,rfl,fun _ _ h=>h⟩) rfl (fun a ww hw hf hd=>by
             have h220:a.eval (.tmp 220)=Value.int .i64 t.2.2:=((knows_in 46 220 (by decide) (by kernel_rfl) rfl rfl):Knows _ _ _ _ _ _ 48 _ _) a ww hw hf hd
             have h221:a.eval (.tmp 221)=Value.int .i64 i:=((knows_in 47 221 (by decide) (by kernel_rfl) rfl rfl):Knows _ _ _ _ _ _ 48 _ _) a ww hw hf hd
             have f0:=(show ¬(i:Int)≤t.2.2 by omega)
             have f1:=(show t.2.2<(i:Int) by omega)
             revert h220 h221
             generalize a.eval=ev
             intro h220 h221
             unfold execOp
             simp only [h220,h221]
             go_simp)),
              (step_ex _ rfl (.inr ⟨30,false,204,rfl,by decide,by kernel_rfl,rfl,fun _ _ h=>h⟩) rfl (fun a ww hw hf hd=>by
             have h218:a.eval (.tmp 218)=Value.bool true:=((knows_in 44 218 (by decide) (by kernel_rfl) rfl rfl):Knows _ _ _ _ _ _ 49 _ _) a ww hw hf hd
             have h222:a.eval (.tmp 222)=Value.bool false:=((knows_in 48 222 (by decide) (by kernel_rfl) rfl rfl):Knows _ _ _ _ _ _ 49 _ _) a ww hw hf hd
             have hc:=ec a
             revert hc h218 h222
             generalize a.eval=ev
             intro hc h218 h222
             unfold execOp
             simp only [hc,h218,h222]
             go_simp)),trivial⟩ ?_
            intro val W12 hw hS _ _
            have e204:val 204=Value.bool false:=hS 30 204 (by decide) rfl
            have e223:val 223=Value.bool false:=hS 49 223 (by decide) rfl
            simp only [putVals,List.foldl_cons,List.foldl_nil,List.drop_succ_cons,List.drop_zero,Act.put,List.setIfInBounds_toArray,List.set_cons_succ,List.set_cons_zero,e204,e223]
            clear e204 e223 hS
            go_wp2
            gi_wp2
            exact hpost _ hw
           ·skip
            refine region_round 50 225 (fun _=>false) [Is (Value.pointer (some ⟨b,0,none⟩)),Is (Value.int .i64 t.1),Is (Value.bool true),Is (Value.bool true),Is (Value.pointer (some ⟨b,0,none⟩)),Is (Value.int .i64 t.1),Is (Value.bool true),Is (Value.bool true),Is (Value.bool true),Is (Value.pointer (some ⟨b,1,none⟩)),Is (Value.int .i64 t.2.1),Is (Value.int .i64 i),Is (Value.bool false),Is (Value.bool false),Is (Value.pointer (some ⟨p,0,none⟩)),Is (Value.int .i64 i),Is (Value.int .i64 r),Is (Value.bool false),Is (Value.bool false),Is (undef),Is (undef),Is (undef),Is (undef),Is (undef),Is (undef),Is (undef),Is (undef),Is (Value.bool false),Is (Value.bool false),Is (Value.bool false),Is (Value.bool false),Is (Value.pointer (some ⟨b,0,none⟩)),Is (Value.int .i64 t.1),Is (Value.bool false),Is (Value.bool false),Is (Value.pointer (some ⟨b,0,none⟩)),Is (Value.int .i64 t.1),Is (Value.bool false),Is (Value.bool false),Is (Value.bool false),Is (Value.pointer (some ⟨b,0,none⟩)),Is (Value.int .i64 t.1),Is (Value.bool true),Is (Value.bool true),Is (Value.bool true),Is (Value.pointer (some ⟨b,2,none⟩)),Is (Value.int .i64 t.2.2),Is (Value.int .i64 i),Is (Value.bool false),Is (Value.bool false)] [174,175,176,177,178,179,180,181,182,183,184,185,186,187,188,189,190,191,192,193,194,195,196,197,198,199,200,201,202,203,204,205,206,207,208,209,210,211,212,213,214,215,216,217,218,219,220,221,222,223] (by kernel_rfl) (by kernel_rfl) (by kernel_rfl) (Nat.le_of_eq rfl) rfl (fun h=>by obtain ⟨_,_,h⟩:=h;exact h) (grows_cons (Is.grows _) (grows_cons (Is.grows _) (grows_cons (Is.grows _) (grows_cons (Is.grows _) (grows_cons (Is.grows _) (grows_cons (Is.grows _) (grows_cons (Is.grows _) (grows_cons (Is.grows _) (grows_cons (Is.grows _) (grows_cons (Is.grows _) (grows_cons (Is.grows _) (grows_cons (Is.grows _) (grows_cons (Is.grows _) (grows_cons (Is.grows _) (grows_cons (Is.grows _) (grows_cons (Is.grows _) (grows_cons (Is.grows _) (grows_cons (Is.grows _) (grows_cons (Is.grows _) (grows_cons (Is.grows _) (grows_cons (Is.grows _) (grows_cons (Is.grows _) (grows_cons (Is.grows _) (grows_cons (Is.grows _) (grows_cons (Is.grows _) (grows_cons (Is.grows _) (grows_cons (Is.grows _) (grows_cons (Is.grows _) (grows_cons (Is.grows _) (grows_cons (Is.grows _) (grows_cons (Is.grows _) (grows_cons (Is.grows _) (grows_cons (Is.grows _) (grows_cons (Is.grows _) (grows_cons (Is.grows _) (grows_cons (Is.grows _) (grows_cons (Is.grows _) (grows_cons (Is.grows _) (grows_cons (Is.grows _) (grows_cons (Is.grows _) (grows_cons (Is.grows _) (grows_cons (Is.grows _) (grows_cons (Is.grows _) (grows_cons (Is.grows _) (grows_cons (Is.grows _) (grows_cons (Is.grows _) (grows_cons (Is.grows _) (grows_cons (Is.grows _) (grows_cons (Is.grows _) (grows_cons (Is.grows _) grows_nil))))))))))))))))))))))))))))))))))))))))))))))))))
             ⟨(step_ex _ rfl (.inl rfl) rfl (fun a ww hw hf hd=>by
             have h26:a.eval (.tmp 26)=Value.pointer (some ⟨b,0,none⟩):=((knows_out 26 (by kernel_rfl) rfl):Knows _ _ _ _ _ _ 0 _ _) a ww hw hf hd
             revert h26
             generalize a.eval=ev
             intro h26
             unfold execOp
             simp only [h26]
             go_simp)),
              (step_ex _ rfl (.inl rfl) rfl (fun a ww hw hf hd=>by
             have h174:a.eval (.tmp 174)=Value.pointer (some ⟨b,0,none⟩):=((knows_in 0 174 (by decide) (by kernel_rfl) rfl rfl):Knows _ _ _ _ _ _ 1 _ _) a ww hw hf hd
             have f0:=cellB y0 hw
             revert h174
             generalize a.eval=ev
             intro h174
             unfold execOp
             simp only [h174]
             go_simp)),
              (step_ex _ rfl (.inl rfl) rfl (fun a ww hw hf hd=>by
             have h175:a.eval (.tmp 175)=Value.int .i64 t.1:=((knows_in 1 175 (by decide) (by kernel_rfl) rfl rfl):Knows _ _ _ _ _ _ 2 _ _) a ww hw hf hd
             have f0:=(show ¬t.1=1 by omega)
             have hc:=ec a
             revert hc h175
             generalize a.eval=ev
             intro hc h175
             unfold execOp
             simp only [hc,h175]
             go_simp)),
              (step_ex _ rfl (.inl rfl) rfl (fun a ww hw hf hd=>by
             have h176:a.eval (.tmp 176)=Value.bool true:=((knows_in 2 176 (by decide) (by kernel_rfl) rfl rfl):Knows _ _ _ _ _ _ 3 _ _) a ww hw hf hd
             revert h176
             generalize a.eval=ev
             intro h176
             unfold execOp
             simp only [h176]
             go_simp)),
              (step_ex _ rfl (.inr ⟨3,true,177,rfl,by decide,by kernel_rfl,rfl,fun _ _ h=>h⟩) rfl (fun a ww hw hf hd=>by
             have h26:a.eval (.tmp 26)=Value.pointer (some ⟨b,0,none⟩):=((knows_out 26 (by kernel_rfl) rfl):Knows _ _ _ _ _ _ 4 _ _) a ww hw hf hd
             revert h26
             generalize a.eval=ev
             intro h26
             unfold execOp
             simp only [h26]
             go_simp)),
              (step_ex _ rfl (.inr ⟨3,true,177,rfl,by decide,by kernel_rfl,rfl,fun _ _ h=>h⟩) rfl (fun a ww hw hf hd=>by
             have h178:a.eval (.tmp 178)=Value.pointer (some ⟨b,0,none⟩):=((knows_in 4 178 (by decide) (by kernel_rfl) rfl rfl):Knows _ _ _ _ _ _ 5 _ _) a ww hw hf hd
             have f0:=cellB y0 hw
             revert h178
             generalize a.eval=ev
             intro h178
             unfold execOp
             simp only [h178]
             go_simp)),
              (step_ex _ rfl (.inr ⟨3,true,177,rfl,by decide,by kernel_rfl,rfl,fun _ _ h=>h⟩) rfl (fun a ww hw hf hd=>by
             have h179:a.eval (.tmp 179)=Value.int .i64 t.1:=((knows_in 5 179 (by decide) (by kernel_rfl) rfl rfl):Knows _ _ _ _ _ _ 6 _ _) a ww hw hf hd
             have f0:=(show ¬t.1=9 by omega)
             have hc:=ec a
             revert hc h179
             generalize a.eval=ev
             intro hc h179
             unfold execOp
             simp only [hc,h179]
             go_simp)),
              (step_ex _ rfl (.inl rfl) rfl (fun a ww hw hf hd=>by
             have h177:a.eval (.tmp 177)=Value.bool true:=((knows_in 3 177 (by decide) (by kernel_rfl) rfl rfl):Knows _ _ _ _ _ _ 7 _ _) a ww hw hf hd
             have h180:a.eval (.tmp 180)=Value.bool true:=((knows_in 6 180 (by decide) (by kernel_rfl) rfl rfl):Knows _ _ _ _ _ _ 7 _ _) a ww hw hf hd
             have hc:=ec a
             revert hc h177 h180
             generalize a.eval=ev
             intro hc h177 h180
             unfold execOp
             simp only [hc,h177,h180]
             go_simp)),
              (step_ex _ rfl (.inl rfl) rfl (fun a ww hw hf hd=>by
             have h181:a.eval (.tmp 181)=Value.bool true:=((knows_in 7 181 (by decide) (by kernel_rfl) rfl rfl):Knows _ _ _ _ _ _ 8 _ _) a ww hw hf hd
             revert h181
             generalize a.eval=ev
             intro h181
             unfold execOp
             simp only [h181]
             go_simp)),
              (step_ex _ rfl (.inr ⟨8,true,182,rfl,by decide,by kernel_rfl,rfl,fun _ _ h=>h⟩) rfl (fun a ww hw hf hd=>by
             have h26:a.eval (.tmp 26)=Value.pointer (some ⟨b,0,none⟩):=((knows_out 26 (by kernel_rfl) rfl):Knows _ _ _ _ _ _ 9 _ _) a ww hw hf hd
             revert h26
             generalize a.eval=ev
             intro h26
             unfold execOp
             simp only [h26]
             go_simp)),
              (step_ex _ rfl (.inr ⟨8,true,182,rfl,by decide,by kernel_rfl,rfl,fun _ _ h=>h⟩) rfl (fun a ww hw hf hd=>by
             have h183:a.eval (.tmp 183)=Value.pointer (some ⟨b,1,none⟩):=((knows_in 9 183 (by decide) (by kernel_rfl) rfl rfl):Knows _ _ _ _ _ _ 10 _ _) a ww hw hf hd
             have f0:=cellB y1 hw
             revert h183
             generalize a.eval=ev
             intro h183
             unfold execOp
             simp only [h183]
             go_simp)),
              (step_ex _ rfl (.inr ⟨8,true,182,rfl,by decide,by kernel_rfl,rfl,fun _ _ h=>h⟩) rfl (fun a ww hw hf hd=>by
             have h25:a.eval (.tmp 25)=Value.int .i64 i:=((knows_out 25 (by kernel_rfl) rfl):Knows _ _ _ _ _ _ 11 _ _) a ww hw hf hd
             revert h25
             generalize a.eval=ev
             intro h25
             unfold execOp
             simp only [h25]
             go_simp)),
              (step_ex _ rfl (.inr ⟨8,true,182,rfl,by decide,by kernel_rfl,rfl,fun _ _ h=>h⟩) rfl (fun a ww hw hf hd=>by
             have h184:a.eval (.tmp 184)=Value.int .i64 t.2.1:=((knows_in 10 184 (by decide) (by kernel_rfl) rfl rfl):Knows _ _ _ _ _ _ 12 _ _) a ww hw hf hd
             have h185:a.eval (.tmp 185)=Value.int .i64 i:=((knows_in 11 185 (by decide) (by kernel_rfl) rfl rfl):Knows _ _ _ _ _ _ 12 _ _) a ww hw hf hd
             have f0:=(show ¬(i:Int)≤t.2.1 by omega)
             have f1:=(show t.2.1<(i:Int) by omega)
             revert h184 h185
             generalize a.eval=ev
             intro h184 h185
             unfold execOp
             simp only [h184,h185]
             go_simp)),
              (step_ex _ rfl (.inr ⟨8,true,182,rfl,by decide,by kernel_rfl,rfl,fun _ _ h=>h⟩) rfl (fun a ww hw hf hd=>by
             have h186:a.eval (.tmp 186)=Value.bool false:=((knows_in 12 186 (by decide) (by kernel_rfl) rfl rfl):Knows _ _ _ _ _ _ 13 _ _) a ww hw hf hd
             revert h186
             generalize a.eval=ev
             intro h186
             unfold execOp
             simp only [h186]
             go_simp)),
              (step_ex _ rfl (.inr ⟨13,false,187,rfl,by decide,by kernel_rfl,rfl,fun _ _ h=>h⟩) rfl (fun a ww hw hf hd=>by
             have h10:a.eval (.tmp 10)=Value.pointer (some ⟨s4,0,none⟩):=((knows_out 10 (by kernel_rfl) rfl):Knows _ _ _ _ _ _ 14 _ _) a ww hw hf hd
             have f0:=cellB b109 hw
             revert h10
             generalize a.eval=ev
             intro h10
             unfold execOp
             simp only [h10]
             go_simp)),
              (step_ex _ rfl (.inr ⟨13,false,187,rfl,by decide,by kernel_rfl,rfl,fun _ _ h=>h⟩) rfl (fun a ww hw hf hd=>by
             have h25:a.eval (.tmp 25)=Value.int .i64 i:=((knows_out 25 (by kernel_rfl) rfl):Knows _ _ _ _ _ _ 15 _ _) a ww hw hf hd
             revert h25
             generalize a.eval=ev
             intro h25
             unfold execOp
             simp only [h25]
             go_simp)),
              (step_cw rfl (.inr ⟨13,false,187,rfl,by decide,by kernel_rfl,rfl,fun _ _ h=>h⟩) rfl cxT14 rfl (fun aa ww hw hf hd=>⟨_,(two_args (knows_in 14 188 (by decide) (by kernel_rfl) rfl rfl) (knows_in 15 189 (by decide) (by kernel_rfl) rfl rfl)) aa ww hw hf hd,hsi ww hw⟩)),
              (step_ex _ rfl (.inr ⟨13,false,187,rfl,by decide,by kernel_rfl,rfl,fun _ _ h=>h⟩) rfl (fun a ww hw hf hd=>by
             have h190:a.eval (.tmp 190)=Value.int .i64 r:=((knows_in 16 190 (by decide) (by kernel_rfl) rfl rfl):Knows _ _ _ _ _ _ 17 _ _) a ww hw hf hd
             have f0:=hsm
             have hc:=ec a
             revert hc h190
             generalize a.eval=ev
             intro hc h190
             unfold execOp
             simp only [hc,h190]
             go_simp)),
              (step_ex _ rfl (.inr ⟨13,false,187,rfl,by decide,by kernel_rfl,rfl,fun _ _ h=>h⟩) rfl (fun a ww hw hf hd=>by
             have h191:a.eval (.tmp 191)=Value.bool false:=((knows_in 17 191 (by decide) (by kernel_rfl) rfl rfl):Knows _ _ _ _ _ _ 18 _ _) a ww hw hf hd
             revert h191
             generalize a.eval=ev
             intro h191
             unfold execOp
             simp only [h191]
             go_simp)),
              (step_off rfl ⟨18,true,192,rfl,by decide,by kernel_rfl,rfl,fun _ _ h=>.inl h⟩ (fun _=>rfl)),
              (step_off rfl ⟨18,true,192,rfl,by decide,by kernel_rfl,rfl,fun _ _ h=>.inl h⟩ (fun _=>rfl)),
              (step_off rfl ⟨18,true,192,rfl,by decide,by kernel_rfl,rfl,fun _ _ h=>.inl h⟩ (fun _=>rfl)),
              (step_off rfl ⟨18,true,192,rfl,by decide,by kernel_rfl,rfl,fun _ _ h=>.inl h⟩ (fun _=>rfl)),
              (step_off rfl ⟨18,true,192,rfl,by decide,by kernel_rfl,rfl,fun _ _ h=>.inl h⟩ (fun _=>rfl)),
              (step_off rfl ⟨18,true,192,rfl,by decide,by kernel_rfl,rfl,fun _ _ h=>.inl h⟩ (fun _=>rfl)),
              (step_off rfl ⟨18,true,192,rfl,by decide,by kernel_rfl,rfl,fun _ _ h=>.inl h⟩ (fun _=>rfl)),
              (step_off rfl ⟨18,true,192,rfl,by decide,by kernel_rfl,rfl,fun _ _ h=>.inl h⟩ (fun _=>rfl)),
              (step_ex _ rfl (.inr ⟨13,false,187,rfl,by decide,by kernel_rfl,rfl,fun _ _ h=>h⟩) rfl (fun a ww hw hf hd=>by
             have h192:a.eval (.tmp 192)=Value.bool false:=((knows_in 18 192 (by decide) (by kernel_rfl) rfl rfl):Knows _ _ _ _ _ _ 27 _ _) a ww hw hf hd
             have hc:=ec a
             revert hc h192
             generalize a.eval=ev
             intro hc h192
             unfold execOp
             simp only [hc,h192]
             go_simp)),
              (step_ex _ rfl (.inr ⟨8,true,182,rfl,by decide,by kernel_rfl,rfl,fun _ _ h=>h⟩) rfl (fun a ww hw hf hd=>by
             have h187:a.eval (.tmp 187)=Value.bool false:=((knows_in 13 187 (by decide) (by kernel_rfl) rfl rfl):Knows _ _ _ _ _ _ 28 _ _) a ww hw hf hd
             have h201:a.eval (.tmp 201)=Value.bool false:=((knows_in 27 201 (by decide) (by kernel_rfl) rfl rfl):Knows _ _ _ _ _ _ 28 _ _) a ww hw hf hd
             have hc:=ec a
             revert hc h187 h201
             generalize a.eval=ev
             intro hc h187 h201
             unfold execOp
             simp only [hc,h187,h201]
             go_simp)),
              (step_ex _ rfl (.inl rfl) rfl (fun a ww hw hf hd=>by
             have h182:a.eval (.tmp 182)=Value.bool true:=((knows_in 8 182 (by decide) (by kernel_rfl) rfl rfl):Knows _ _ _ _ _ _ 29 _ _) a ww hw hf hd
             have h202:a.eval (.tmp 202)=Value.bool false:=((knows_in 28 202 (by decide) (by kernel_rfl) rfl rfl):Knows _ _ _ _ _ _ 29 _ _) a ww hw hf hd
             have hc:=ec a
             revert hc h182 h202
             generalize a.eval=ev
             intro hc h182 h202
             unfold execOp
             simp only [hc,h182,h202]
             go_simp)),
              (step_ex _ rfl (.inl rfl) rfl (fun a ww hw hf hd=>by
             have h203:a.eval (.tmp 203)=Value.bool false:=((knows_in 29 203 (by decide) (by kernel_rfl) rfl rfl):Knows _ _ _ _ _ _ 30 _ _) a ww hw hf hd
             revert h203
             generalize a.eval=ev
             intro h203
             unfold execOp
             simp only [h203]
             go_simp)),
              (step_ex _ rfl (.inr ⟨30,false,204,rfl,by decide,by kernel_rfl,rfl,fun _ _ h=>h⟩) rfl (fun a ww hw hf hd=>by
             have h26:a.eval (.tmp 26)=Value.pointer (some ⟨b,0,none⟩):=((knows_out 26 (by kernel_rfl) rfl):Knows _ _ _ _ _ _ 31 _ _) a ww hw hf hd
             revert h26
             generalize a.eval=ev
             intro h26
             unfold execOp
             simp only [h26]
             go_simp)),
              (step_ex _ rfl (.inr ⟨30,false,204,rfl,by decide,by kernel_rfl,rfl,fun _ _ h=>h⟩) rfl (fun a ww hw hf hd=>by
             have h205:a.eval (.tmp 205)=Value.pointer (some ⟨b,0,none⟩):=((knows_in 31 205 (by decide) (by kernel_rfl) rfl rfl):Knows _ _ _ _ _ _ 32 _ _) a ww hw hf hd
             have f0:=cellB y0 hw
             revert h205
             generalize a.eval=ev
             intro h205
             unfold execOp
             simp only [h205]
             go_simp)),
              (step_ex _ rfl (.inr ⟨30,false,204,rfl,by decide,by kernel_rfl,rfl,fun _ _ h=>h⟩) rfl (fun a ww hw hf hd=>by
             have h206:a.eval (.tmp 206)=Value.int .i64 t.1:=((knows_in 32 206 (by decide) (by kernel_rfl) rfl rfl):Knows _ _ _ _ _ _ 33 _ _) a ww hw hf hd
             have f0:=(show ¬t.1=4 by omega)
             have hc:=ec a
             revert hc h206
             generalize a.eval=ev
             intro hc h206
             unfold execOp
             simp only [hc,h206]
             go_simp)),
              (step_ex _ rfl (.inr ⟨30,false,204,rfl,by decide,by kernel_rfl,rfl,fun _ _ h=>h⟩) rfl (fun a ww hw hf hd=>by
             have h207:a.eval (.tmp 207)=Value.bool false:=((knows_in 33 207 (by decide) (by kernel_rfl) rfl rfl):Knows _ _ _ _ _ _ 34 _ _) a ww hw hf hd
             revert h207
             generalize a.eval=ev
             intro h207
             unfold execOp
             simp only [h207]
             go_simp)),
              (step_ex _ rfl (.inr ⟨34,false,208,rfl,by decide,by kernel_rfl,rfl,fun _ _ h=>h⟩) rfl (fun a ww hw hf hd=>by
             have h26:a.eval (.tmp 26)=Value.pointer (some ⟨b,0,none⟩):=((knows_out 26 (by kernel_rfl) rfl):Knows _ _ _ _ _ _ 35 _ _) a ww hw hf hd
             revert h26
             generalize a.eval=ev
             intro h26
             unfold execOp
             simp only [h26]
             go_simp)),
              (step_ex _ rfl (.inr ⟨34,false,208,rfl,by decide,by kernel_rfl,rfl,fun _ _ h=>h⟩) rfl (fun a ww hw hf hd=>by
             have h209:a.eval (.tmp 209)=Value.pointer (some ⟨b,0,none⟩):=((knows_in 35 209 (by decide) (by kernel_rfl) rfl rfl):Knows _ _ _ _ _ _ 36 _ _) a ww hw hf hd
             have f0:=cellB y0 hw
             revert h209
             generalize a.eval=ev
             intro h209
             unfold execOp
             simp only [h209]
             go_simp)),
              (step_ex _ rfl (.inr ⟨34,false,208,rfl,by decide,by kernel_rfl,rfl,fun _ _ h=>h⟩) rfl (fun a ww hw hf hd=>by
             have h210:a.eval (.tmp 210)=Value.int .i64 t.1:=((knows_in 36 210 (by decide) (by kernel_rfl) rfl rfl):Knows _ _ _ _ _ _ 37 _ _) a ww hw hf hd
             have f0:=(show ¬t.1=5 by omega)
             have hc:=ec a
             revert hc h210
             generalize a.eval=ev
             intro hc h210
             unfold execOp
             simp only [hc,h210]
             go_simp)),
              (step_ex _ rfl (.inr ⟨30,false,204,rfl,by decide,by kernel_rfl,rfl,fun _ _ h=>h⟩) rfl (fun a ww hw hf hd=>by
             have h208:a.eval (.tmp 208)=Value.bool false:=((knows_in 34 208 (by decide) (by kernel_rfl) rfl rfl):Knows _ _ _ _ _ _ 38 _ _) a ww hw hf hd
             have h211:a.eval (.tmp 211)=Value.bool false:=((knows_in 37 211 (by decide) (by kernel_rfl) rfl rfl):Knows _ _ _ _ _ _ 38 _ _) a ww hw hf hd
             have hc:=ec a
             revert hc h208 h211
             generalize a.eval=ev
             intro hc h208 h211
             unfold execOp
             simp only [hc,h208,h211]
             go_simp)),
              (step_ex _ rfl (.inr ⟨30,false,204,rfl,by decide,by kernel_rfl,rfl,fun _ _ h=>h⟩) rfl (fun a ww hw hf hd=>by
             have h212:a.eval (.tmp 212)=Value.bool false:=((knows_in 38 212 (by decide) (by kernel_rfl) rfl rfl):Knows _ _ _ _ _ _ 39 _ _) a ww hw hf hd
             revert h212
             generalize a.eval=ev
             intro h212
             unfold execOp
             simp only [h212]
             go_simp)),
              (step_ex _ rfl (.inr ⟨39,false,213,rfl,by decide,by kernel_rfl,rfl,fun _ _ h=>h⟩) rfl (fun a ww hw hf hd=>by
             have h26:a.eval (.tmp 26)=Value.pointer (some ⟨b,0,none⟩):=((knows_out 26 (by kernel_rfl) rfl):Knows _ _ _ _ _ _ 40 _ _) a ww hw hf hd
             revert h26
             generalize a.eval=ev
             intro h26
             unfold execOp
             simp only [h26]
             go_simp)),
              (step_ex _ rfl (.inr ⟨39,false,213,rfl,by decide,by kernel_rfl,rfl,fun _ _ h=>h⟩) rfl (fun a ww hw hf hd=>by
             have h214:a.eval (.tmp 214)=Value.pointer (some ⟨b,0,none⟩):=((knows_in 40 214 (by decide) (by kernel_rfl) rfl rfl):Knows _ _ _ _ _ _ 41 _ _) a ww hw hf hd
             have f0:=cellB y0 hw
             revert h214
             generalize a.eval=ev
             intro h214
             unfold execOp
             simp only [h214]
             go_simp)),
              (step_ex _ rfl (.inr ⟨39,false,213,rfl,by decide,by kernel_rfl,rfl,fun _ _ h=>h⟩) rfl (fun a ww hw hf hd=>by
             have h215:a.eval (.tmp 215)=Value.int .i64 t.1:=((knows_in 41 215 (by decide) (by kernel_rfl) rfl rfl):Knows _ _ _ _ _ _ 42 _ _) a ww hw hf hd
             have f0:=(show t.1=8 by omega)
             have hc:=ec a
             revert hc h215
             generalize a.eval=ev
             intro hc h215
             unfold execOp
             simp only [hc,h215]
             go_simp)),
              (step_ex _ rfl (.inr ⟨30,false,204,rfl,by decide,by kernel_rfl,rfl,fun _ _ h=>h⟩) rfl (fun a ww hw hf hd=>by
             have h213:a.eval (.tmp 213)=Value.bool false:=((knows_in 39 213 (by decide) (by kernel_rfl) rfl rfl):Knows _ _ _ _ _ _ 43 _ _) a ww hw hf hd
             have h216:a.eval (.tmp 216)=Value.bool true:=((knows_in 42 216 (by decide) (by kernel_rfl) rfl rfl):Knows _ _ _ _ _ _ 43 _ _) a ww hw hf hd
             have hc:=ec a
             revert hc h213 h216
             generalize a.eval=ev
             intro hc h213 h216
             unfold execOp
             simp only [hc,h213,h216]
             go_simp)),
              (step_ex _ rfl (.inr ⟨30,false,204,rfl,by decide,by kernel_rfl,rfl,fun _ _ h=>h⟩) rfl (fun a ww hw hf hd=>by
             have h217:a.eval (.tmp 217)=Value.bool true:=((knows_in 43 217 (by decide) (by kernel_rfl) rfl rfl):Knows _ _ _ _ _ _ 44 _ _) a ww hw hf hd
             revert h217
             generalize a.eval=ev
             intro h217
             unfold execOp
             simp only [h217]
             go_simp)),
              (step_ex _ rfl (.inr ⟨44,true,218,rfl,by decide,by kernel_rfl,rfl,fun _ _ h=>h⟩) rfl (fun a ww hw hf hd=>by
             have h26:a.eval (.tmp 26)=Value.pointer (some ⟨b,0,none⟩):=((knows_out 26 (by kernel_rfl) rfl):Knows _ _ _ _ _ _ 45 _ _) a ww hw hf hd
             revert h26
             generalize a.eval=ev
             intro h26
             unfold execOp
             simp only [h26]
             go_simp)),
              (step_ex _ rfl (.inr ⟨44,true,218,rfl,by decide,by kernel_rfl,rfl,fun _ _ h=>h⟩) rfl (fun a ww hw hf hd=>by
             have h219:a.eval (.tmp 219)=Value.pointer (some ⟨b,2,none⟩):=((knows_in 45 219 (by decide) (by kernel_rfl) rfl rfl):Knows _ _ _ _ _ _ 46 _ _) a ww hw hf hd
             have f0:=cellB y2 hw
             revert h219
             generalize a.eval=ev
             intro h219
             unfold execOp
             simp only [h219]
             go_simp)),
              (step_ex _ rfl (.inr ⟨44,true,218,rfl,by decide,by kernel_rfl,rfl,fun _ _ h=>h⟩) rfl (fun a ww hw hf hd=>by
             have h25:a.eval (.tmp 25)=Value.int .i64 i:=((knows_out 25 (by kernel_rfl) rfl):Knows _ _ _ _ _ _ 47 _ _) a ww hw hf hd
             revert h25
             generalize a.eval=ev
             intro h25
             unfold execOp
             simp only [h25]
             go_simp)),
              (step_ex _ rfl (.inr ⟨44,true,218,rfl,by decide,by kernel_rfl,rfl,fun _ _ h=>h⟩) rfl (fun a ww hw hf hd=>by
             have h220:a.eval (.tmp 220)=Value.int .i64 t.2.2:=((knows_in 46 220 (by decide) (by kernel_rfl) rfl rfl):Knows _ _ _ _ _ _ 48 _ _) a ww hw hf hd
             have h221:a.eval (.tmp 221)=Value.int .i64 i:=((knows_in 47 221 (by decide) (by kernel_rfl) rfl rfl):Knows _ _ _ _ _ _ 48 _ _) a ww hw hf hd
             have f0:=(show ¬(i:Int)≤t.2.2 by omega)
             have f1:=(show t.2.2<(i:Int) by omega)
             revert h220 h221
             generalize a.eval=ev
             intro h220 h221
             unfold execOp
             simp only [h220,h221]
             go_simp)),
              (step_ex _ rfl (.inr ⟨30,false,204,rfl,by decide,by kernel_rfl,rfl,fun _ _ h=>h⟩) rfl (fun a ww hw hf hd=>by
             have h218:a.eval (.tmp 218)=Value.bool true:=((knows_in 44 218 (by decide) (by kernel_rfl) rfl rfl):Knows _ _ _ _ _ _ 49 _ _) a ww hw hf hd
             have h222:a.eval (.tmp 222)=Value.bool false:=((knows_in 48 222 (by decide) (by kernel_rfl) rfl rfl):Knows _ _ _ _ _ _ 49 _ _) a ww hw hf hd
             have hc:=ec a
             revert hc h218 h222
             generalize a.eval=ev
             intro hc h218 h222
             unfold execOp
             simp only [hc,h218,h222]
             go_simp)),trivial⟩ ?_
            intro val W12 hw hS _ _
            have e204:val 204=Value.bool false:=hS 30 204 (by decide) rfl
            have e223:val 223=Value.bool false:=hS 49 223 (by decide) rfl
            simp only [putVals,List.foldl_cons,List.foldl_nil,List.drop_succ_cons,List.drop_zero,Act.put,List.setIfInBounds_toArray,List.set_cons_succ,List.set_cons_zero,e204,e223]
            clear e204 e223 hS
            go_wp2
            gi_wp2
            exact hpost _ hw
         ·refine region_round 50 225 (fun _=>false) [Is (Value.pointer (some ⟨b,0,none⟩)),Is (Value.int .i64 t.1),Is (Value.bool true),Is (Value.bool true),Is (Value.pointer (some ⟨b,0,none⟩)),Is (Value.int .i64 t.1),Is (Value.bool false),Is (Value.bool false),Is (Value.bool false),Is (undef),Is (undef),Is (undef),Is (undef),Is (undef),Is (undef),Is (undef),Is (undef),Is (undef),Is (undef),Is (undef),Is (undef),Is (undef),Is (undef),Is (undef),Is (undef),Is (undef),Is (undef),Is (undef),Is (undef),Is (Value.bool false),Is (Value.bool false),Is (Value.pointer (some ⟨b,0,none⟩)),Is (Value.int .i64 t.1),Is (Value.bool false),Is (Value.bool false),Is (Value.pointer (some ⟨b,0,none⟩)),Is (Value.int .i64 t.1),Is (Value.bool false),Is (Value.bool false),Is (Value.bool false),Is (Value.pointer (some ⟨b,0,none⟩)),Is (Value.int .i64 t.1),Is (Value.bool false),Is (Value.bool false),Is (Value.bool false),Is (undef),Is (undef),Is (undef),Is (undef),Is (Value.bool false)] [174,175,176,177,178,179,180,181,182,183,184,185,186,187,188,189,190,191,192,193,194,195,196,197,198,199,200,201,202,203,204,205,206,207,208,209,210,211,212,213,214,215,216,217,218,219,220,221,222,223] (by kernel_rfl) (by kernel_rfl) (by kernel_rfl) (Nat.le_of_eq rfl) rfl (fun h=>by obtain ⟨_,_,h⟩:=h;exact h) (grows_cons (Is.grows _) (grows_cons (Is.grows _) (grows_cons (Is.grows _) (grows_cons (Is.grows _) (grows_cons (Is.grows _) (grows_cons (Is.grows _) (grows_cons (Is.grows _) (grows_cons (Is.grows _) (grows_cons (Is.grows _) (grows_cons (Is.grows _) (grows_cons (Is.grows _) (grows_cons (Is.grows _) (grows_cons (Is.grows _) (grows_cons (Is.grows _) (grows_cons (Is.grows _) (grows_cons (Is.grows _) (grows_cons (Is.grows _) (grows_cons (Is.grows _) (grows_cons (Is.grows _) (grows_cons (Is.grows _) (grows_cons (Is.grows _) (grows_cons (Is.grows _) (grows_cons (Is.grows _) (grows_cons (Is.grows _) (grows_cons (Is.grows _) (grows_cons (Is.grows _) (grows_cons (Is.grows _) (grows_cons (Is.grows _) (grows_cons (Is.grows _) (grows_cons (Is.grows _) (grows_cons (Is.grows _) (grows_cons (Is.grows _) (grows_cons (Is.grows _) (grows_cons (Is.grows _) (grows_cons (Is.grows _) (grows_cons (Is.grows _) (grows_cons (Is.grows _) (grows_cons (Is.grows _) (grows_cons (Is.grows _) (grows_cons (Is.grows _) (grows_cons (Is.grows _) (grows_cons (Is.grows _) (grows_cons (Is.grows _) (grows_cons (Is.grows _) (grows_cons (Is.grows _) (grows_cons (Is.grows _) (grows_cons (Is.grows _) (grows_cons (Is.grows _) (grows_cons (Is.grows _) (grows_cons (Is.grows _) grows_nil))))))))))))))))))))))))))))))))))))))))))))))))))
           ⟨(step_ex _ rfl (.inl rfl) rfl (fun a ww hw hf hd=>by
           have h26:a.eval (.tmp 26)=Value.pointer (some ⟨b,0,none⟩):=((knows_out 26 (by kernel_rfl) rfl):Knows _ _ _ _ _ _ 0 _ _) a ww hw hf hd
           revert h26
           generalize a.eval=ev
           intro h26
           unfold execOp
           simp only [h26]
           go_simp)),
            (step_ex _ rfl (.inl rfl) rfl (fun a ww hw hf hd=>by
           have h174:a.eval (.tmp 174)=Value.pointer (some ⟨b,0,none⟩):=((knows_in 0 174 (by decide) (by kernel_rfl) rfl rfl):Knows _ _ _ _ _ _ 1 _ _) a ww hw hf hd
           have f0:=cellB y0 hw
           revert h174
           generalize a.eval=ev
           intro h174
           unfold execOp
           simp only [h174]
           go_simp)),
            (step_ex _ rfl (.inl rfl) rfl (fun a ww hw hf hd=>by
           have h175:a.eval (.tmp 175)=Value.int .i64 t.1:=((knows_in 1 175 (by decide) (by kernel_rfl) rfl rfl):Knows _ _ _ _ _ _ 2 _ _) a ww hw hf hd
           have f0:=(show ¬t.1=1 by omega)
           have hc:=ec a
           revert hc h175
           generalize a.eval=ev
           intro hc h175
           unfold execOp
           simp only [hc,h175]
           go_simp)),
            (step_ex _ rfl (.inl rfl) rfl (fun a ww hw hf hd=>by
           have h176:a.eval (.tmp 176)=Value.bool true:=((knows_in 2 176 (by decide) (by kernel_rfl) rfl rfl):Knows _ _ _ _ _ _ 3 _ _) a ww hw hf hd
           revert h176
           generalize a.eval=ev
           intro h176
           unfold execOp
           simp only [h176]
           go_simp)),
            (step_ex _ rfl (.inr ⟨3,true,177,rfl,by decide,by kernel_rfl,rfl,fun _ _ h=>h⟩) rfl (fun a ww hw hf hd=>by
           have h26:a.eval (.tmp 26)=Value.pointer (some ⟨b,0,none⟩):=((knows_out 26 (by kernel_rfl) rfl):Knows _ _ _ _ _ _ 4 _ _) a ww hw hf hd
           revert h26
           generalize a.eval=ev
           intro h26
           unfold execOp
           simp only [h26]
           go_simp)),
            (step_ex _ rfl (.inr ⟨3,true,177,rfl,by decide,by kernel_rfl,rfl,fun _ _ h=>h⟩) rfl (fun a ww hw hf hd=>by
           have h178:a.eval (.tmp 178)=Value.pointer (some ⟨b,0,none⟩):=((knows_in 4 178 (by decide) (by kernel_rfl) rfl rfl):Knows _ _ _ _ _ _ 5 _ _) a ww hw hf hd
           have f0:=cellB y0 hw
           revert h178
           generalize a.eval=ev
           intro h178
           unfold execOp
           simp only [h178]
           go_simp)),
            (step_ex _ rfl (.inr ⟨3,true,177,rfl,by decide,by kernel_rfl,rfl,fun _ _ h=>h⟩) rfl (fun a ww hw hf hd=>by
           have h179:a.eval (.tmp 179)=Value.int .i64 t.1:=((knows_in 5 179 (by decide) (by kernel_rfl) rfl rfl):Knows _ _ _ _ _ _ 6 _ _) a ww hw hf hd
           have f0:=(show t.1=9 by omega)
           have hc:=ec a
           revert hc h179
           generalize a.eval=ev
           intro hc h179
           unfold execOp
           simp only [hc,h179]
           go_simp)),
            (step_ex _ rfl (.inl rfl) rfl (fun a ww hw hf hd=>by
           have h177:a.eval (.tmp 177)=Value.bool true:=((knows_in 3 177 (by decide) (by kernel_rfl) rfl rfl):Knows _ _ _ _ _ _ 7 _ _) a ww hw hf hd
           have h180:a.eval (.tmp 180)=Value.bool false:=((knows_in 6 180 (by decide) (by kernel_rfl) rfl rfl):Knows _ _ _ _ _ _ 7 _ _) a ww hw hf hd
           have hc:=ec a
           revert hc h177 h180
           generalize a.eval=ev
           intro hc h177 h180
           unfold execOp
           simp only [hc,h177,h180]
           go_simp)),
            (step_ex _ rfl (.inl rfl) rfl (fun a ww hw hf hd=>by
           have h181:a.eval (.tmp 181)=Value.bool false:=((knows_in 7 181 (by decide) (by kernel_rfl) rfl rfl):Knows _ _ _ _ _ _ 8 _ _) a ww hw hf hd
           revert h181
           generalize a.eval=ev
           intro h181
           unfold execOp
           simp only [h181]
           go_simp)),
            (step_off rfl ⟨8,true,182,rfl,by decide,by kernel_rfl,rfl,fun _ _ h=>.inl h⟩ (fun _=>rfl)),
            (step_off rfl ⟨8,true,182,rfl,by decide,by kernel_rfl,rfl,fun _ _ h=>.inl h⟩ (fun _=>rfl)),
            (step_off rfl ⟨8,true,182,rfl,by decide,by kernel_rfl,rfl,fun _ _ h=>.inl h⟩ (fun _=>rfl)),
            (step_off rfl ⟨8,true,182,rfl,by decide,by kernel_rfl,rfl,fun _ _ h=>.inl h⟩ (fun _=>rfl)),
            (step_off rfl ⟨8,true,182,rfl,by decide,by kernel_rfl,rfl,fun _ _ h=>.inl h⟩ (fun _=>rfl)),
            (step_off rfl ⟨13,false,187,rfl,by decide,by kernel_rfl,rfl,fun _ _ h=>.inr h⟩ (fun _=>rfl)),
            (step_off rfl ⟨13,false,187,rfl,by decide,by kernel_rfl,rfl,fun _ _ h=>.inr h⟩ (fun _=>rfl)),
            (step_off rfl ⟨13,false,187,rfl,by decide,by kernel_rfl,rfl,fun _ _ h=>.inr h⟩ (fun _=>rfl)),
            (step_off rfl ⟨13,false,187,rfl,by decide,by kernel_rfl,rfl,fun _ _ h=>.inr h⟩ (fun _=>rfl)),
            (step_off rfl ⟨13,false,187,rfl,by decide,by kernel_rfl,rfl,fun _ _ h=>.inr h⟩ (fun _=>rfl)),
            (step_off rfl ⟨18,true,192,rfl,by decide,by kernel_rfl,rfl,fun _ _ h=>.inr h⟩ (fun _=>rfl)),
            (step_off rfl ⟨18,true,192,rfl,by decide,by kernel_rfl,rfl,fun _ _ h=>.inr h⟩ (fun _=>rfl)),
            (step_off rfl ⟨18,true,192,rfl,by decide,by kernel_rfl,rfl,fun _ _ h=>.inr h⟩ (fun _=>rfl)),
            (step_off rfl ⟨18,true,192,rfl,by decide,by kernel_rfl,rfl,fun _ _ h=>.inr h⟩ (fun _=>rfl)),
            (step_off rfl ⟨18,true,192,rfl,by decide,by kernel_rfl,rfl,fun _ _ h=>.inr h⟩ (fun _=>rfl)),
            (step_off rfl ⟨18,true,192,rfl,by decide,by kernel_rfl,rfl,fun _ _ h=>.inr h⟩ (fun _=>rfl)),
            (step_off rfl ⟨18,true,192,rfl,by decide,by kernel_rfl,rfl,fun _ _ h=>.inr h⟩ (fun _=>rfl)),
            (step_off rfl ⟨18,true,192,rfl,by decide,by kernel_rfl,rfl,fun _ _ h=>.inr h⟩ (fun _=>rfl)),
            (step_off rfl ⟨13,false,187,rfl,by decide,by kernel_rfl,rfl,fun _ _ h=>.inr h⟩ (fun _=>rfl)),
            (step_off rfl ⟨8,true,182,rfl,by decide,by kernel_rfl,rfl,fun _ _ h=>.inl h⟩ (fun _=>rfl)),
            (step_ex _ rfl (.inl rfl) rfl (fun a ww hw hf hd=>by
           have h182:a.eval (.tmp 182)=Value.bool false:=((knows_in 8 182 (by decide) (by kernel_rfl) rfl rfl):Knows _ _ _ _ _ _ 29 _ _) a ww hw hf hd
           have hc:=ec a
           revert hc h182
           generalize a.eval=ev
           intro hc h182
           unfold execOp
           simp only [hc,h182]
           go_simp)),
            (step_ex _ rfl (.inl rfl) rfl (fun a ww hw hf hd=>by
           have h203:a.eval (.tmp 203)=Value.bool false:=((knows_in 29 203 (by decide) (by kernel_rfl) rfl rfl):Knows _ _ _ _ _ _ 30 _ _) a ww hw hf hd
           revert h203
           generalize a.eval=ev
           intro h203
           unfold execOp
           simp only [h203]
           go_simp)),
            (step_ex _ rfl (.inr ⟨30,false,204,rfl,by decide,by kernel_rfl,rfl,fun _ _ h=>h⟩) rfl (fun a ww hw hf hd=>by
           have h26:a.eval (.tmp 26)=Value.pointer (some ⟨b,0,none⟩):=((knows_out 26 (by kernel_rfl) rfl):Knows _ _ _ _ _ _ 31 _ _) a ww hw hf hd
           revert h26
           generalize a.eval=ev
           intro h26
           unfold execOp
           simp only [h26]
           go_simp)),
            (step_ex _ rfl (.inr ⟨30,false,204,rfl,by decide,by kernel_rfl,rfl,fun _ _ h=>h⟩) rfl (fun a ww hw hf hd=>by
           have h205:a.eval (.tmp 205)=Value.pointer (some ⟨b,0,none⟩):=((knows_in 31 205 (by decide) (by kernel_rfl) rfl rfl):Knows _ _ _ _ _ _ 32 _ _) a ww hw hf hd
           have f0:=cellB y0 hw
           revert h205
           generalize a.eval=ev
           intro h205
           unfold execOp
           simp only [h205]
           go_simp)),
            (step_ex _ rfl (.inr ⟨30,false,204,rfl,by decide,by kernel_rfl,rfl,fun _ _ h=>h⟩) rfl (fun a ww hw hf hd=>by
           have h206:a.eval (.tmp 206)=Value.int .i64 t.1:=((knows_in 32 206 (by decide) (by kernel_rfl) rfl rfl):Knows _ _ _ _ _ _ 33 _ _) a ww hw hf hd
           have f0:=(show ¬t.1=4 by omega)
           have hc:=ec a
           revert hc h206
           generalize a.eval=ev
           intro hc h206
           unfold execOp
           simp only [hc,h206]
           go_simp)),
            (step_ex _ rfl (.inr ⟨30,false,204,rfl,by decide,by kernel_rfl,rfl,fun _ _ h=>h⟩) rfl (fun a ww hw hf hd=>by
           have h207:a.eval (.tmp 207)=Value.bool false:=((knows_in 33 207 (by decide) (by kernel_rfl) rfl rfl):Knows _ _ _ _ _ _ 34 _ _) a ww hw hf hd
           revert h207
           generalize a.eval=ev
           intro h207
           unfold execOp
           simp only [h207]
           go_simp)),
            (step_ex _ rfl (.inr ⟨34,false,208,rfl,by decide,by kernel_rfl,rfl,fun _ _ h=>h⟩) rfl (fun a ww hw hf hd=>by
           have h26:a.eval (.tmp 26)=Value.pointer (some ⟨b,0,none⟩):=((knows_out 26 (by kernel_rfl) rfl):Knows _ _ _ _ _ _ 35 _ _) a ww hw hf hd
           revert h26
           generalize a.eval=ev
           intro h26
           unfold execOp
           simp only [h26]
           go_simp)),
            (step_ex _ rfl (.inr ⟨34,false,208,rfl,by decide,by kernel_rfl,rfl,fun _ _ h=>h⟩) rfl (fun a ww hw hf hd=>by
           have h209:a.eval (.tmp 209)=Value.pointer (some ⟨b,0,none⟩):=((knows_in 35 209 (by decide) (by kernel_rfl) rfl rfl):Knows _ _ _ _ _ _ 36 _ _) a ww hw hf hd
           have f0:=cellB y0 hw
           revert h209
           generalize a.eval=ev
           intro h209
           unfold execOp
           simp only [h209]
           go_simp)),
            (step_ex _ rfl (.inr ⟨34,false,208,rfl,by decide,by kernel_rfl,rfl,fun _ _ h=>h⟩) rfl (fun a ww hw hf hd=>by
           have h210:a.eval (.tmp 210)=Value.int .i64 t.1:=((knows_in 36 210 (by decide) (by kernel_rfl) rfl rfl):Knows _ _ _ _ _ _ 37 _ _) a ww hw hf hd
           have f0:=(show ¬t.1=5 by omega)
           have hc:=ec a
           revert hc h210
           generalize a.eval=ev
           intro hc h210
           unfold execOp
           simp only [hc,h210]
           go_simp)),
            (step_ex _ rfl (.inr ⟨30,false,204,rfl,by decide,by kernel_rfl,rfl,fun _ _ h=>h⟩) rfl (fun a ww hw hf hd=>by
           have h208:a.eval (.tmp 208)=Value.bool false:=((knows_in 34 208 (by decide) (by kernel_rfl) rfl rfl):Knows _ _ _ _ _ _ 38 _ _) a ww hw hf hd
           have h211:a.eval (.tmp 211)=Value.bool false:=((knows_in 37 211 (by decide) (by kernel_rfl) rfl rfl):Knows _ _ _ _ _ _ 38 _ _) a ww hw hf hd
           have hc:=ec a
           revert hc h208 h211
           generalize a.eval=ev
           intro hc h208 h211
           unfold execOp
           simp only [hc,h208,h211]
           go_simp)),
            (step_ex _ rfl (.inr ⟨30,false,204,rfl,by decide,by kernel_rfl,rfl,fun _ _ h=>h⟩) rfl (fun a ww hw hf hd=>by
           have h212:a.eval (.tmp 212)=Value.bool false:=((knows_in 38 212 (by decide) (by kernel_rfl) rfl rfl):Knows _ _ _ _ _ _ 39 _ _) a ww hw hf hd
           revert h212
           generalize a.eval=ev
           intro h212
           unfold execOp
           simp only [h212]
           go_simp)),
            (step_ex _ rfl (.inr ⟨39,false,213,rfl,by decide,by kernel_rfl,rfl,fun _ _ h=>h⟩) rfl (fun a ww hw hf hd=>by
           have h26:a.eval (.tmp 26)=Value.pointer (some ⟨b,0,none⟩):=((knows_out 26 (by kernel_rfl) rfl):Knows _ _ _ _ _ _ 40 _ _) a ww hw hf hd
           revert h26
           generalize a.eval=ev
           intro h26
           unfold execOp
           simp only [h26]
           go_simp)),
            (step_ex _ rfl (.inr ⟨39,false,213,rfl,by decide,by kernel_rfl,rfl,fun _ _ h=>h⟩) rfl (fun a ww hw hf hd=>by
           have h214:a.eval (.tmp 214)=Value.pointer (some ⟨b,0,none⟩):=((knows_in 40 214 (by decide) (by kernel_rfl) rfl rfl):Knows _ _ _ _ _ _ 41 _ _) a ww hw hf hd
           have f0:=cellB y0 hw
           revert h214
           generalize a.eval=ev
           intro h214
           unfold execOp
           simp only [h214]
           go_simp)),
            (step_ex _ rfl (.inr ⟨39,false,213,rfl,by decide,by kernel_rfl,rfl,fun _ _ h=>h⟩) rfl (fun a ww hw hf hd=>by
           have h215:a.eval (.tmp 215)=Value.int .i64 t.1:=((knows_in 41 215 (by decide) (by kernel_rfl) rfl rfl):Knows _ _ _ _ _ _ 42 _ _) a ww hw hf hd
           have f0:=(show ¬t.1=8 by omega)
           have hc:=ec a
           revert hc h215
           generalize a.eval=ev
           intro hc h215
           unfold execOp
           simp only [hc,h215]
           go_simp)),
            (step_ex _ rfl (.inr ⟨30,false,204,rfl,by decide,by kernel_rfl,rfl,fun _ _ h=>h⟩) rfl (fun a ww hw hf hd=>by
           have h213:a.eval (.tmp 213)=Value.bool false:=((knows_in 39 213 (by decide) (by kernel_rfl) rfl rfl):Knows _ _ _ _ _ _ 43 _ _) a ww hw hf hd
           have h216:a.eval (.tmp 216)=Value.bool false:=((knows_in 42 216 (by decide) (by kernel_rfl) rfl rfl):Knows _ _ _ _ _ _ 43 _ _) a ww hw hf hd
           have hc:=ec a
           revert hc h213 h216
           generalize a.eval=ev
           intro hc h213 h216
           unfold execOp
           simp only [hc,h213,h216]
           go_simp)),
            (step_ex _ rfl (.inr ⟨30,false,204,rfl,by decide,by kernel_rfl,rfl,fun _ _ h=>h⟩) rfl (fun a ww hw hf hd=>by
           have h217:a.eval (.tmp 217)=Value.bool false:=((knows_in 43 217 (by decide) (by kernel_rfl) rfl rfl):Knows _ _ _ _ _ _ 44 _ _) a ww hw hf hd
           revert h217
           generalize a.eval=ev
           intro h217
           unfold execOp
           simp only [h217]
           go_simp)),
            (step_off rfl ⟨44,true,218,rfl,by decide,by kernel_rfl,rfl,fun _ _ h=>.inl h⟩ (fun _=>rfl)),
            (step_off rfl ⟨44,true,218,rfl,by decide,by kernel_rfl,rfl,fun _ _ h=>.inl h⟩ (fun _=>rfl)),
            (step_off rfl ⟨44,true,218,rfl,by decide,by kernel_rfl,rfl,fun _ _ h=>.inl h⟩ (fun _=>rfl)),
            (step_off rfl ⟨44,true,218,rfl,by decide,by kernel_rfl,rfl,fun _ _ h=>.inl h⟩ (fun _=>rfl)),
            (step_ex _ rfl (.inr ⟨30,false,204,rfl,by decide,by kernel_rfl,rfl,fun _ _ h=>h⟩) rfl (fun a ww hw hf hd=>by
           have h218:a.eval (.tmp 218)=Value.bool false:=((knows_in 44 218 (by decide) (by kernel_rfl) rfl rfl):Knows _ _ _ _ _ _ 49 _ _) a ww hw hf hd
           have hc:=ec a
           revert hc h218
           generalize a.eval=ev
           intro hc h218
           unfold execOp
           simp only [hc,h218]
           go_simp)),trivial⟩ ?_
          intro val W12 hw hS _ _
          have e204:val 204=Value.bool false:=hS 30 204 (by decide) rfl
          have e223:val 223=Value.bool false:=hS 49 223 (by decide) rfl
          simp only [putVals,List.foldl_cons,List.foldl_nil,List.drop_succ_cons,List.drop_zero,Act.put,List.setIfInBounds_toArray,List.set_cons_succ,List.set_cons_zero,e204,e223]
          clear e204 e223 hS
          go_wp2
          gi_wp2
          exact hpost _ hw
      ·rintro D2 xs W hD2 _ hR hK2
       subst haa
       dsimp only
       have hB2W:=hB2c.chg hR.chg (by have:=hK6.1;omega)
       have c2:=hB2W.cell (i:=0) rfl
       have f2:=hB2W.free 0
       have hK1W:W.heap[D1]? = some (.deferred (some [])):=(hR.chg.block D1 (Array.getElem?_eq_some_iff.1 hK1c).1 (fun e=>by have:=hK6.1;omega)).trans hK1c
       have hwW:Below w.heap.size w W:=hwc2.trans (hR.chg.below (by have:=hwc2.size;omega) (fun b e=>by omega))
       have hne:D1≠D2:=by have:=(Array.getElem?_eq_some_iff.1 hK1c).1;omega
       have hd1:w.heap.size≤D1:=hK6.2.1
       have hd2:w.heap.size≤D2:=by have:=hwc2.size;omega
       have hnb:∀D o,W.heap[D]? = some o→o.isCells=false→D≠w.heap.size:=fun D o h h2 e=>by
        rw [e,show W.heap[w.heap.size]? = _ from hB2W] at h
        cases h
        cases h2
       have hbt:=hB2W.set 0 (.bool true)
       have n1:=hnb D1 _ hK1W rfl
       have n2:=hnb D2 _ hK2 rfl
       clear hB2c hB11c b10c hMc hAc hbxc hATc hK1c hR hCc hB2W hwc2 hnb
       go_wp2
       exact once_end (w:=w) (w1:=w) ((Below.heap_setCell _ _ _ _ n1).trans hK1W) ((Below.heap_setCell _ _ _ _ n2).trans hK2) hne rfl rfl hbt (hwW.setCell (Nat.le_refl _) _) (Nat.le_refl _) hd1 hd2 (fun W' h=>⟨rfl,h⟩)
      ·intro D c pre W hD hS hno hK
       exact absurd hS hno
 ·intro D c pre W hD hS hno hK
  exact absurd hS hno
end Go.Proofs.Ytechhbljjnffaaa
