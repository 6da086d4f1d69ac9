import Derived.Test.YtkblmdakejmmhaaGreatDoorG20
import Derived.Lib.ConvBytes
namespace Go.Proofs.YtkblmdakejmmhaaGreatDoor
open Go Go.RowKit
section
set_option maxRecDepth 50000
theorem toolong_no (A:Option Addr) (n c:Nat) (w:World) (h:n≤1000):Calls Tryz.prog 55 #[.slice A n c] w fun e w'=>e=.returned (.bool false)∧Below w.heap.size w w':=by
 have h1:(n:Int)≤1048576:=by omega
 go_enter Tryz.func55,Tryz.ntmps55
 go_wp2
 go_ret
 exact ⟨ret_bool (decide_eq_false (by omega)),Below.refl _ _⟩
set_option maxHeartbeats 2000000 in
theorem index_no (PA:Option Addr) (n pc:Nat) (cs:List Part) (w:World) (hP:Parts w PA cs) (hn:Hid (cs.length=n)) (hn2:n≤1000) (hok:∀q ∈ cs,q.2.2.length≤1000) :
 Calls Tryz.prog 79 #[.slice PA n pc,.func (.func 55) #[] #[]] w fun e w'=>e=.returned (.int .i64 (-1))∧Below w.heap.size w w':=by
 have n1:(n:Int)≤1000:=by omega
 go_enter Tryz.func79,Tryz.ntmps79
 go_wp2
 go_loopw [8] (fun i wr=>∃k:Nat,k≤n∧i=.int .i64 k∧Below w.heap.size w wr) (fun i _=>n - (intOf i).toNat)
 case atStart=>exact ⟨0,Nat.zero_le _,rfl,Below.refl _ _⟩
 case round =>
  obtain ⟨k,hk,rfl,hb⟩:=hrel
  by_cases hlt:k<n
  ·obtain ⟨q,hq⟩:∃q,cs[k]? = some q:=⟨cs[k]'(by rw [hn.out];exact hlt),by simp [hn.out,hlt]⟩
   obtain ⟨g,off,rfl,hg,hc⟩:=(hP.below hb) (by rw [hn.out];omega)
   have hck:=hc k q hq
   have hql:=hok q (List.mem_of_getElem? hq)
   have k0:(0:Int)≤k:=by omega
   have k1:(k:Int)<n:=by omega
   clear hq hc hP
   generalize q.2.2.length=ql at *
   go_wp2_with (go_at_call 55;refine (toolong_no q.1 ql q.2.1 _ hql).mono ?_;rintro e w2 ⟨rfl,hb2⟩)
   go_roundw
   case rel=>exact ⟨k+1,by omega,by go_num,hb.trans (Below.mono hb2 hb.size)⟩
   case measure=>simp [intOf];omega
  ·have e:k=n:=by omega
   subst e
   go_wp2
   go_ret
   exact ⟨rfl,hb⟩
theorem contains_no (PA:Option Addr) (n pc:Nat) (cs:List Part) (w:World) (hP:Parts w PA cs) (hn:Hid (cs.length=n)) (hn2:n≤1000) (hok:∀q ∈ cs,q.2.2.length≤1000) :
 Calls Tryz.prog 54 #[.slice PA n pc,.func (.func 55) #[] #[]] w fun e w'=>e=.returned (.bool false)∧Below w.heap.size w w':=by
 go_enter Tryz.func54,Tryz.ntmps54
 go_wp2_with (go_at_call 79;refine (index_no PA n pc cs _ hP hn hn2 hok).mono ?_;rintro e w2 ⟨rfl,hb2⟩)
 go_ret
 exact ⟨rfl,hb2⟩
def strL (s:ByteArray):List Int:=s.data.toList.map fun b=>(b.toNat:Int)
theorem strL_len (s:ByteArray):(strL s).length=s.size:=by simp [strL]
theorem strL_byt (s:ByteArray):HByt (strL s):=fun x hx=>by
 simp only [strL,List.mem_map] at hx
 obtain ⟨b,_,rfl⟩:=hx
 have:=b.toNat_lt
 omega
theorem strL_at (s:ByteArray) {i:Nat} (h:i<s.size):(strL s)[i]? = some ((s.data.toList.getD i 0).toNat:Int):=by
 simp [strL,List.getD,h]
theorem str_nums (w:World) (s:ByteArray):Nums (Lib.bytesWorld w 5 s) .u8 (some ⟨w.heap.size,0,none⟩) (strL s):=fun hp=>by
 rw [strL_len] at hp
 refine ⟨w.heap.size,0,rfl,by rw [Lib.bytesWorld_size];omega,fun i hi=>?_⟩
 rw [strL_len] at hi
 have h2:(strL s).getD i 0=((s.data.toList.getD i 0).toNat:Int):=by rw [List.getD_eq_getElem?_getD,strL_at s hi];rfl
 rw [Nat.zero_add,Lib.bytesWorld_cell w _ s i hi,h2]
theorem str_below (w:World) (s:ByteArray):Below w.heap.size w (Lib.bytesWorld w 5 s) :=
 ⟨rfl,rfl,rfl,by rw [Lib.bytesWorld_size];omega,fun k hk=>Lib.bytesWorld_at_old w _ s k hk⟩
theorem str_cap (w:World) (s:ByteArray):s.size≤grownCap w s.size 0 5:=grownCap_ge w _ _ _
end
section
set_option maxHeartbeats 400000
set_option maxRecDepth 50000
theorem split64c (hi:Bool) (A:Option Addr) (c s:Nat) (l:List Int) (w:World) (h1:1≤s) (h8:s≤8) (hn:l.length*s≤4096) (hA:Nums w .u64 A l) :
 Calls Tryz.prog 124 #[.slice A l.length c,.int .i64 s,.int .i64 (ordN hi)] w fun e w'=>∃B d ys,e=.returned (.slice B ys.length d)∧ys.length≤d∧Hid (ys=splitB hi s l)∧NumsF w.heap.size w' .u8 B ys∧Below w.heap.size w w':=by
 obtain ⟨i0,hi0,hz0,hz1,hz2⟩:=info_parts Tryz.info5
 obtain ⟨S,hS⟩:∃S,S=splitB hi s l:=⟨_,rfl⟩
 have hSl:S.length=l.length*s:=by rw [hS,splitB_length]
 have HS:=hid hS
 have HSl:=hid hSl
 have hSb:S.length≤4096:=by omega
 have hi1:((l.length*s:Nat):Int)=(l.length:Int)*(s:Int):=by simp
 have hi2:0≤(l.length:Int)*(s:Int):=by omega
 have hi3:(l.length:Int)*(s:Int)≤4096:=by omega
 have HI:=hid hi1
 have hll:l.length≤4096:=Nat.le_trans (Nat.le_mul_of_pos_right _ (by omega)) hn
 clear hS hSl hi1
 go_enter Tryz.func124,Tryz.ntmps124
 go_wp2_with (at_make;refine wpList_make_full _ rfl _ _ 23 rfl w.heap.size 5 i0 _ 1 Tryz.underlying23 hi0 hz0 hz1 .i64 .i64 _ _ S.length rfl rfl ?_ ?_ ?_ ?_ ?_ ?_)
 ·rw [HSl.out];exact HI.out.symm
 ·rw [HSl.out];exact HI.out.symm
 ·rw [hz2];omega
 ·unfold maxLen;omega
 ·omega
 intro w1 hown hgrow
 have hb1:Below w.heap.size w w1:=(Below.refl _ _).grown hgrow (Nat.le_refl _) (by simp)
 have hO:Owns w1 w.heap.size 5 .u8 (.slice (some ⟨w.heap.size,0,none⟩) S.length S.length) (fillK S 0):=by
  rw [fillK_zero]
  unfold Owns
  rw [List.length_replicate,List.map_replicate,←toList_madeCells_one]
  exact hown
 clear hown hgrow
 go_wp2
 go_loopw [16] (fun i wr=>∃k:Nat,k≤S.length∧i=.int .i64 k∧Below w.heap.size w wr∧Owns wr w.heap.size 5 .u8 (.slice (some ⟨w.heap.size,0,none⟩) S.length S.length) (fillK S k)) (fun i _=>S.length - (intOf i).toNat)
 case atStart=>exact ⟨0,Nat.zero_le _,rfl,hb1,hO⟩
 case round =>
  clear hb1 hO
  obtain ⟨k,hk,rfl,hb,hO⟩:=hrel
  by_cases hlt:k<S.length
  ·have hq:k / s<l.length:=by
    have:=HSl.out
    rw [Nat.div_lt_iff_lt_mul (by omega)];omega
   have hr:k%s<s:=Nat.mod_lt _ (by omega)
   obtain ⟨b1,o1,x,rfl,_,hc1,H1⟩:=(hA.below hb).get hq
   obtain ⟨q,hqe⟩:∃q,q=k / s:=⟨_,rfl⟩
   obtain ⟨r,hre⟩:∃r,r=k%s:=⟨_,rfl⟩
   rw [←hqe] at hq hc1 H1
   rw [←hre] at hr
   have hqi:(k:Int) / (s:Int)=(q:Int):=by rw [hqe];simp
   have hri:(k:Int)%(s:Int)=(r:Int):=by rw [hre];simp
   have HQ:=hid hqe
   have HR:=hid hre
   clear hqe hre
   have hpos:(0:Int)≤k:=by omega
   have hlt':(k:Int)<S.length:=by omega
   have hs1:(1:Int)≤s:=by omega
   go_wp2
   have hs0:¬s=0:=by omega
   have hwq:IntKind.i64.wrap (q:Int)=(q:Int):=IntWalk.i64_in _ (by omega)
   have hti:(k:Int).tmod (s:Int)=(r:Int):=by rw [Int.tmod_eq_emod_of_nonneg (by omega)];exact hri
   have hwr:IntKind.i64.wrap (r:Int)=(r:Int):=IntWalk.i64_in _ (by omega)
   have hq0:(0:Int)≤q:=by omega
   have hq1:(q:Int)<l.length:=by omega
   obtain ⟨P,hP⟩:∃P,P=8*plc hi r s:=⟨_,rfl⟩
   have HP:=hid hP
   have hP1:(P:Int)≤64:=by unfold plc at hP;split at hP <;> omega
   have hP0:(0:Int)≤P:=by omega
   clear hP
   go_still_tail 16,(by kernel_rfl)
   still_call (shift_any hi r s P _ HP.out hr h8)
   repeat still_step
   refine wpStill_nil ?_
   obtain ⟨y,hy,hyf,_⟩:=hO.spot (j:=k) (by rw [fillK_length];exact hlt)
   change wpList _ _ _ _ _ wr.drew
   have hy1:wr.drew.cell? ⟨w.heap.size,k,none⟩=some (.int .u8 y):=hy
   have hyf1:wr.drew.frozen? ⟨w.heap.size,k,none⟩=false:=hyf
   have hb1:Below w.heap.size w wr.drew:=hb.drew
   have hO1:=hO.drew
   clear hO hb hy hyf hc1
   generalize wr.drew=w2 at *
   go_wp2
   go_roundw
   case rel =>
    have hsk:S[k]? = some (x / 2^P%256):=by
     rw [HS.out,splitB_at hi s l (by have:=HSl.out;omega),←HQ.out,←HR.out,HP.out]
     simp [List.getD,H1.out,dig]
    exact ⟨k+1,by omega,by go_num,hb1.setCell (Nat.le_refl _) _,by have h:=hO1.store k (x / 2^P%256);rw [fillK_set S hsk] at h;exact h⟩
   case measure=>simp [intOf];omega
  ·go_wp2
   go_ret
   have e:k=S.length:=by omega
   subst e
   rw [fillK_end] at hO
   exact ⟨_,_,S,rfl,Nat.le_refl _,HS,hO.fresh,hb⟩
def grt (s:Nat):Int:=if s=8 then 4611686018427387904 else 2^(8*s) - 1
theorem greatest_any (s:Nat) (w:World) (h1:1≤s) (h8:s≤8):Calls Tryz.prog 123 #[.int .i64 s] w fun e w'=>e=.returned (.int .i64 (grt s))∧w=w':=by
 have hs:s=1∨s=2∨s=3∨s=4∨s=5∨s=6∨s=7∨s=8:=by omega
 rcases hs with rfl|rfl|rfl|rfl|rfl|rfl|rfl|rfl
 all_goals
  go_enter Tryz.func123,Tryz.ntmps123
  go_wp2
  go_ret
  exact ⟨by simp [grt],rfl⟩
def Fits (n s:Int):Prop:=1≤s∧s≤8∧0≤n∧n≤grt s.toNat
theorem grt_bd (s:Nat) (h1:1≤s) (h8:s≤8):0≤grt s∧grt s≤4611686018427387904:=by
 have hs:s=1∨s=2∨s=3∨s=4∨s=5∨s=6∨s=7∨s=8:=by omega
 rcases hs with rfl|rfl|rfl|rfl|rfl|rfl|rfl|rfl <;> simp [grt]
theorem split64_one (hi:Bool) (b:Nat) (s:Nat) (n:Int) (w:World) (h1:1≤s) (h8:s≤8) (hb:b<w.heap.size) (hc:w.cell? ⟨b,0,none⟩=some (.int .u64 n)) :
 Calls Tryz.prog 124 #[.slice (some ⟨b,0,none⟩) 1 1,.int .i64 s,.int .i64 (ordN hi)] w fun e w'=>∃B d ys,e=.returned (.slice B ys.length d)∧ys.length≤d∧Hid (ys=splitB hi s [n])∧NumsF w.heap.size w' .u8 B ys∧Below w.heap.size w w' :=
 split64c hi (some ⟨b,0,none⟩) 1 s [n] w h1 h8 (by simp;omega) (fun _=>⟨b,0,rfl,hb,fun i hi=>by
  have:i=0:=by simpa using hi
  subst this
  exact hc⟩)
theorem put_yes (hi:Bool) (n:Int) (s:Nat) (w:World) (h:Fits n s) :
 Calls Tryz.prog 105 #[.int .i64 n,.int .i64 s,.int .i64 (ordN hi)] w fun e w'=>∃B d ys,e=.returned (.tuple #[.slice B ys.length d,.int .i64 0])∧ys.length≤d∧Hid (ys=splitB hi s [n])∧NumsF w.heap.size w' .u8 B ys∧Below w.heap.size w w':=by
 obtain ⟨h1,h8,h0,hg⟩:=h
 rw [Int.toNat_natCast] at hg
 have hgb:=(grt_bd s (by omega) (by omega)).2
 have hwn:IntKind.u64.wrap n=n:=IntWalk.u64_in _ (by omega)
 go_enter Tryz.func105,Tryz.ntmps105
 go_wp2_with (first|(go_at_call 123;refine (greatest_any s _ (by omega) (by omega)).mono ?_;rintro e w' ⟨rfl,rfl⟩)|(go_at_call 124;refine (split64_one hi _ s n _ (by omega) (by omega) (by simp) (by go_simp)).mono ?_;rintro e w' ⟨B,d,ys,rfl,hyd,HY,hN,hb⟩))
 go_ret2
 exact ⟨B,d,ys,rfl,hyd,HY,hN.less (by simp),((Below.refl _ _).alloc (Nat.le_refl _) _).trans (hb.mono (by simp))⟩
def LowPost (n:Int) (s:Nat) (w:World) (e:Ending) (w':World):Prop :=
 (n / 2^(8*s)=0∧∃B d ys,e=.returned (.tuple #[.slice B ys.length d,.int .i64 0])∧Hid (ys=splitB false s [n])∧NumsF w.heap.size w' .u8 B ys∧Below w.heap.size w w') ∨
 (n / 2^(8*s)≠0∧e=.returned (.tuple #[.slice none 0 0,.int .i64 2])∧Below w.heap.size w w')
theorem refLow_loop (n:Int) (s:Nat) (w:World) (h1:1≤s) (h8:s≤8) (h0:0≤n) (h62:n≤4611686018427387904) :
 Calls Tryz.prog 69 #[.int .i64 n,.int .i64 s] w (LowPost n s w):=by
 obtain ⟨S,hS⟩:∃S,S=splitB false s [n]:=⟨_,rfl⟩
 have hSl:S.length=s:=by rw [hS,splitB_length];simp
 have HS:=hid hS
 have HSl:=hid hSl
 clear hS hSl
 go_enter Tryz.func69,Tryz.ntmps69
 go_wp2
 go_loopw [0,6,7] (fun a v i wr=>∃(k:Nat) (A:Option Addr) (m c:Nat) (nk:Int),k≤s∧a=.int .i64 nk∧Hid (nk=n / 2^(8*k))∧0≤nk∧nk≤4611686018427387904∧v=.slice A m c∧i=.int .i64 k∧Owns wr w.heap.size 5 .u8 (.slice A m c) (S.take k)∧Below w.heap.size w wr) (fun _ _ i _=>s - (intOf i).toNat)
 case atStart=>exact ⟨0,none,0,0,n,Nat.zero_le _,rfl,hid (by simp),h0,h62,rfl,rfl,Owns.none_ _ _ _ _,Below.refl _ _⟩
 case round =>
  obtain ⟨k,A,m,c,nk,hk,rfl,HN,hk0,hk62,rfl,rfl,hO,hb⟩:=hrel
  by_cases hlt:k<s
  ·have hsz:=hb.size
   have hl:(S.take k).length=k:=by have:=HSl.out;simp;omega
   have HL:=hid hl
   clear hl
   go_wp2_with (at_builtin;refine app_one _ rfl (.tmp 27) (.tmp 31) 23 rfl w.heap.size 5 .u8 1 Tryz.underlying23 Tryz.info5 A m c (S.take k) rfl hO _ 1 rfl (by rw [HL.out];omega) (by omega) hsz ?_;intro A' n' c' w2 hO2 hb2)
   go_roundw
   case rel =>
    have hsk:S[k]? = some (nk%256):=by rw [HS.out,split_one false s n hlt,HN.out];rfl
    exact ⟨k+1,A',n',c',nk / 256,by omega,rfl,hid (by rw [HN.out];exact div_step n k),by omega,by omega,rfl,by go_num,by rw [take_succ_at hsk];exact hO2,hb.trans hb2⟩
   case measure=>simp [intOf];omega
  ·have e:k=s:=by omega
   subst e
   have hm:=hO.len
   have hS:S.take k=S:=List.take_of_length_le (by rw [HSl.out];omega)
   rw [hS] at hO hm
   clear hS
   subst hm
   by_cases hz:0<nk
   ·go_wp2
    go_ret2
    exact .inr ⟨by rw [←HN.out];omega,rfl,hb⟩
   ·go_wp2
    go_ret2
    exact .inl ⟨by rw [←HN.out];omega,A,c,S,rfl,HS,hO.fresh,hb⟩
theorem turned_any (A:Option Addr) (c:Nat) (b:List Int) (w:World) (hn:b.length≤4096) (hA:Nums w .u8 A b) :
 Calls Tryz.prog 94 #[.slice A b.length c] w fun e w'=>∃B d ys,e=.returned (.slice B ys.length d)∧Hid (ys=b.reverse)∧NumsF w.heap.size w' .u8 B ys∧Below w.heap.size w w':=by
 go_enter Tryz.func94,Tryz.ntmps94
 go_wp2
 go_loopw [3,4] (fun v i wr=>∃(k:Nat) (B:Option Addr) (m d:Nat),k≤b.length∧i=.int .i64 ((k:Int) - 1)∧v=.slice B m d∧Owns wr w.heap.size 5 .u8 (.slice B m d) (b.drop k).reverse∧Below w.heap.size w wr) (fun _ i _=>(intOf i+1).toNat)
 case atStart=>exact ⟨b.length,none,0,0,Nat.le_refl _,rfl,rfl,by rw [List.drop_length];exact Owns.none_ _ _ _ _,Below.refl _ _⟩
 case round =>
  obtain ⟨k,B,m,d,hk,rfl,rfl,hO,hb⟩:=hrel
  by_cases hlt:0<k
  ·have hsz:=hb.size
   obtain ⟨j,rfl⟩:∃j,k=j+1:=⟨k - 1,by omega⟩
   have hl:(b.drop (j+1)).reverse.length≤4096:=by simp;omega
   have HL:=hid hl
   clear hl
   obtain ⟨b1,o1,x,rfl,_,hc1,H1⟩:=(hA.below hb).get (i:=j) (by omega)
   have e1:((j+1:Nat):Int) - 1=(j:Int):=by omega
   have hj0:(0:Int)≤j:=by omega
   have hj1:(j:Int)<b.length:=by omega
   rw [e1]
   clear e1
   go_wp2_with (at_builtin;refine app_one _ rfl (.tmp 12) (.tmp 17) 23 rfl w.heap.size 5 .u8 1 Tryz.underlying23 Tryz.info5 B m d (b.drop (j+1)).reverse rfl hO _ 1 rfl (by have:=HL.out;omega) (by omega) hsz ?_;intro A' n' c' w2 hO2 hb2)
   go_roundw
   case rel =>
    have hd:b.drop j=x::b.drop (j+1):=by
     have h2:=H1.out
     obtain ⟨h3,h4⟩:=List.getElem?_eq_some_iff.1 h2
     rw [List.drop_eq_getElem_cons h3,h4]
    exact ⟨j,A',n',c',by omega,rfl,rfl,by rw [hd,List.reverse_cons];exact hO2,hb.trans hb2⟩
   case measure=>simp [intOf]
  ·have e:k=0:=by omega
   subst e
   have hm:=hO.len
   rw [List.drop_zero] at hO hm
   subst hm
   go_wp2
   go_ret
   exact ⟨B,d,b.reverse,rfl,hid rfl,hO.fresh,hb⟩
theorem count_any (n s:Nat) (w:World) (h1:1≤s) (h8:s≤8) (hf:Fits (n:Int) (s:Int)) :
 Calls Tryz.prog 56 #[.int .i64 n,.int .i64 s] w fun e w'=>∃B d,e=.returned (.slice B s d)∧s≤d∧NumsF w.heap.size w' .u8 B (splitB true s [(n:Int)])∧Below w.heap.size w w':=by
 have HL:=hid (split_len true s n)
 suffices h:Calls Tryz.prog 80 #[.int .i64 n,.int .i64 s] w fun e w'=>∃B d,e=.returned (.tuple #[.slice B s d,.int .i64 0])∧s≤d∧NumsF w.heap.size w' .u8 B (splitB true s [(n:Int)])∧Below w.heap.size w w' by
  go_enter Tryz.func56,Tryz.ntmps56
  go_wp2_with (go_at_call 80;refine h.mono ?_;rintro e w' ⟨B,d,rfl,hd,hN,hb⟩)
  go_ret
  exact ⟨B,d,rfl,hd,hN,hb⟩
 go_enter Tryz.func80,Tryz.ntmps80
 go_wp2_with (go_at_call 105;refine (put_yes true n s _ hf).mono ?_;rintro e w' ⟨B,d,ys,rfl,hyd,HY,hN,hb⟩)
 obtain ⟨m,hm⟩:∃m,ys.length=m:=⟨_,rfl⟩
 have hy:ys=splitB true s [(n:Int)]:=HY.out
 rw [hm] at hyd ⊢
 rw [hy,HL.out] at hm
 rw [hy] at hN
 subst hm
 go_wp2
 go_ret2
 exact ⟨B,d,rfl,hyd,hN,hb⟩
theorem fits1 {n:Nat} (h:n≤64):Fits (n:Int) ((1:Nat):Int):=by
 unfold Fits
 rw [Int.toNat_natCast]
 simp [grt]
 omega
theorem fits4 {n:Nat} (h:n≤1000000):Fits (n:Int) ((4:Nat):Int):=by
 unfold Fits
 rw [Int.toNat_natCast]
 simp [grt]
 omega
theorem split_rev (s:Nat) (n:Int):(splitB false s [n]).reverse=splitB true s [n]:=by
 apply List.ext_getElem?
 intro i
 by_cases h:i<s
 ·rw [List.getElem?_reverse (by rw [split_len];exact h),split_len,split_one false s n (by omega),split_one true s n h]
  simp only [plc,if_true]
  rfl
 ·rw [List.getElem?_eq_none (by rw [List.length_reverse,split_len];omega),List.getElem?_eq_none (by rw [split_len];omega)]
theorem rput4 (n:Nat) (w:World) (hn:n≤1000000):Calls Tryz.prog 63 #[.int .i64 n,.int .i64 4] w fun e w'=>∃B d,e=.returned (.tuple #[.slice B 4 d,.int .i64 0])∧NumsF w.heap.size w' .u8 B (splitB true 4 [(n:Int)])∧Below w.heap.size w w':=by
 have hl:Calls Tryz.prog 69 #[.int .i64 n,.int .i64 4] w fun e w'=>∃B d,e=.returned (.tuple #[.slice B 4 d,.int .i64 0])∧NumsF w.heap.size w' .u8 B (splitB false 4 [(n:Int)])∧Below w.heap.size w w':=by
  refine (refLow_loop n 4 w (by omega) (by omega) (by omega) (by omega)).mono ?_
  rintro e w' (⟨h,B,d,ys,rfl,HY,hN,hb⟩|⟨h,rfl,hb⟩)
  ·have hy:ys=splitB false 4 [(n:Int)]:=HY.out
   subst hy
   rw [split_len]
   exact ⟨B,d,rfl,hN,hb⟩
  ·exact absurd (by have:(2:Int)^(8*4)=4294967296:=by decide
                    rw [this];omega) h
 have ht:∀(B:Option Addr) (d:Nat) (w0:World),Nums w0 .u8 B (splitB false 4 [(n:Int)])→Calls Tryz.prog 94 #[.slice B 4 d] w0 fun e w'=>∃B d,e=.returned (.slice B 4 d)∧NumsF w0.heap.size w' .u8 B (splitB true 4 [(n:Int)])∧Below w0.heap.size w0 w':=fun B d w0 hN=>by
  have h:=turned_any B d (splitB false 4 [(n:Int)]) w0 (by rw [split_len];omega) hN
  rw [split_len] at h
  refine h.mono ?_
  rintro e w' ⟨B2,d2,ys,rfl,HY,hN2,hb⟩
  have hy:ys=splitB true 4 [(n:Int)]:=HY.out.trans (split_rev _ _)
  subst hy
  rw [split_len]
  exact ⟨B2,d2,rfl,hN2,hb⟩
 go_enter Tryz.func63,Tryz.ntmps63
 go_wp2_with (first|(go_at_call 69;refine hl.mono ?_;rintro e w1 ⟨B,d,rfl,hN,hb⟩)|(go_at_call 94;refine (ht B d _ hN.nums).mono ?_;rintro e w2 ⟨B2,d2,rfl,hN2,hb2⟩))
 go_ret2
 exact ⟨B2,d2,rfl,hN2.less hb.size,hb.trans (hb2.mono hb.size)⟩
end
section
set_option maxRecDepth 50000
def PKeep (w:World) (v:Value) (ps:List Part):Prop:=∀q ∈ ps,PartOk w q∧(0<q.2.2.length→∀g o s,q.1=some ⟨g,o,s⟩→v.ownBlock≠some g)
section
variable {w w':World} {v v':Value} {ps qs:List Part}
theorem PKeep.stay (h:PKeep w v ps) (hb:Below w.heap.size w w'):PKeep w' v ps:=fun q hq=>⟨(h q hq).1.below hb,(h q hq).2⟩
theorem PKeep.app (h:PKeep w v ps) (k:PKeep w v qs):PKeep w v (ps++qs):=fun q hq=>by
 rcases List.mem_append.1 hq with e|e
 ·exact h q e
 ·exact k q e
theorem PKeep.grew (h:PKeep w v ps) (hG:Grew w w' v v'):PKeep w' v' ps:=fun q hq=>by
 obtain ⟨⟨hN,hr⟩,hne⟩:=h q hq
 refine ⟨⟨fun hp=>?_,hr⟩,fun hp g o s e=>?_⟩
 ·obtain ⟨b,off,e,hlt,hc⟩:=hN hp
  have hb:=hne hp b off none e
  exact ⟨b,off,e,Nat.lt_of_lt_of_le hlt hG.1.size,fun i hi=>(hG.cell (p:=⟨b,off+i,none⟩) hlt hb).trans (hc i hi)⟩
 ·obtain ⟨b,off,e2,hlt,_⟩:=hN hp
  rw [e2] at e
  injection e with e
  injection e with e1 e3 e4
  subst e1
  rcases hG.2 with h2|h2
  ·rw [h2]
   exact hne hp b off none e2
  ·exact fun h3=>by have:=h2 b h3;omega
theorem PKeep.ok (h:PKeep w v ps):∀q ∈ ps,PartOk w q:=fun q hq=>(h q hq).1
end
theorem pkeep_old {w w':World} {D:Nat} {v:Value} {q:Part} (h:PartOk w q) (hb:Below w.heap.size w w') (hv:∀g,v.ownBlock=some g→D≤g) (hD:w.heap.size≤D):PKeep w' v [q]:=fun q' hq=>by
 rw [List.mem_singleton.1 hq]
 refine ⟨h.below hb,fun hp g o s e h2=>?_⟩
 obtain ⟨b,off,e2,hlt,_⟩:=h.1 hp
 rw [e2] at e
 injection e with e
 injection e with e1
 have:=hv g h2
 omega
theorem pkeep_new {w:World} {D:Nat} {v:Value} {A:Option Addr} {d:Nat} {xs:List Int} (h:NumsF D w .u8 A xs) (hl:xs.length≤d) (h1:xs.length≤1000) (hb:HByt xs) (hv:∀g,v.ownBlock=some g→g<D):PKeep w v [(A,d,xs)]:=fun q' hq=>by
 rw [List.mem_singleton.1 hq]
 refine ⟨⟨h.nums,hl,h1,hb⟩,fun hp g o s e h2=>?_⟩
 obtain ⟨b,off,e2,hlo,_⟩:=h hp
 have e:A=some ⟨g,o,s⟩:=e
 rw [e2] at e
 injection e with e
 injection e with e1
 have:=hv g h2
 omega
theorem parts_new2 (w:World) (q1 q2:Part) (m1 m2:Nat) (h1:q1.2.2.length=m1) (h2:q2.2.2.length=m2):Parts (w.alloc (.cells #[.slice q1.1 m1 q1.2.1,.slice q2.1 m2 q2.2.1] 23)) (some ⟨w.heap.size,0,none⟩) [q1,q2]:=fun _ =>
 ⟨w.heap.size,0,rfl,by simp,fun j q hj=>by
   subst h1 h2
   rw [Nat.zero_add,World.cell?_alloc_new]
   have hj6:=(List.getElem?_eq_some_iff.1 hj).1
   have:j=0∨j=1:=by simp at hj6;omega
   rcases this with rfl|rfl <;> (simp at hj;subst hj;rfl)⟩
theorem owns_new2 (w:World) (base:Nat) (q1 q2:Part) (m1 m2:Nat) (h1:q1.2.2.length=m1) (h2:q2.2.2.length=m2) (hb:base≤w.heap.size):OwnsP (w.alloc (.cells #[.slice q1.1 m1 q1.2.1,.slice q2.1 m2 q2.2.1] 23)) base (.slice (some ⟨w.heap.size,0,none⟩) 2 2) [q1,q2]:=by
 subst h1 h2
 exact ⟨rfl,.inr ⟨w.heap.size,2,_,rfl,hb,heap_alloc_new w _,Nat.le_refl _,by unfold maxLen;omega,rfl,rfl⟩⟩
def textK (lbl:List Int) (L:List (List Int)) (k:Nat):List Int:=splitB true 1 [(lbl.length:Int)]++lbl++((L.take k).map ctxV).flatten
theorem textK_zero (lbl:List Int) (L:List (List Int)):textK lbl L 0=splitB true 1 [(lbl.length:Int)]++lbl:=by simp [textK]
theorem textK_end (lbl:List Int) (L:List (List Int)) (k:Nat) (h:L.length≤k):textK lbl L k=textV lbl L:=by
 unfold textK textV
 rw [List.take_of_length_le h]
theorem textK_succ (lbl:List Int) (L:List (List Int)) {k:Nat} {c:List Int} (h:L[k]? = some c):textK lbl L (k+1)=textK lbl L k++ctxV c:=by
 unfold textK
 rw [List.take_add_one,h]
 simp
theorem ctxV_len (c:List Int):(ctxV c).length=4+c.length:=by unfold ctxV;rw [List.length_append,split_len]
theorem flat_ctx_le (b:Nat):∀L:List (List Int),(∀c ∈ L,c.length≤b)→(L.map ctxV).flatten.length≤(4+b)*L.length
 | [],_=>by simp
 | c::L,h=>by
   have h1:=flat_ctx_le b L fun c hc=>h c (List.mem_cons_of_mem _ hc)
   have h2:=h c (List.mem_cons_self ..)
   rw [List.map_cons,List.flatten_cons,List.length_append,ctxV_len,List.length_cons,Nat.mul_add]
   omega
theorem textV_le {lbl:List Int} {L:List (List Int)} {b n:Nat} (h1:lbl.length≤64) (hL:L.length=n) (h:∀c ∈ L,c.length≤b):(textV lbl L).length≤65+(4+b)*n:=by
 have:=flat_ctx_le b L h
 unfold textV
 rw [List.length_append,List.length_append,split_len]
 rw [hL] at this
 omega
theorem ctxV_byt {c:List Int} (h:HByt c):HByt (ctxV c):=(splitB_byt _ _ _).app h
theorem textV_byt {lbl:List Int} {L:List (List Int)} (h:HByt lbl) (hL:∀c ∈ L,HByt c):HByt (textV lbl L):=by
 refine ((splitB_byt _ _ _).app h).app fun x hx=>?_
 obtain ⟨l,hl,hx⟩:=List.mem_flatten.1 hx
 obtain ⟨c,hc,rfl⟩:=List.mem_map.1 hl
 exact ctxV_byt (hL c hc) x hx
theorem flat_app (ps qs:List Part):flat (ps++qs)=flat ps++flat qs:=by
 unfold flat
 rw [List.map_append,List.flatten_append]
theorem flat_two (q1 q2:Part):flat [q1,q2]=q1.2.2++q2.2.2:=by simp [flat]
theorem results_rowV {P:Program} {fn:Func} {p s:Tmp} {ty:TypeId} (h:fn.results = #[.cell p ty,.tmp s]) (tmps:Array Value) (w:World) (b o:Nat) (hp:tmps.getD p undef=.pointer (some ⟨b,o,none⟩)) (v:Value) (hs:tmps.getD s undef=v)
 (cs:List Value) (d:TypeDesc) (hc:w.rangeAt b o cs) (hu:P.underlying ty=some d) (hd:d.isRow=true) (hi:(P.info? ty).map (·.size)=some cs.length) :
 (results fn tmps).run P w=.ok (.tuple #[.agg cs.toArray,v]) w:=by
 simp only [results,h]
 have hp2:tmps[p]?.getD undef=.pointer (some ⟨b,o,none⟩):=by rw [←hp];simp
 have hs2:tmps[s]?.getD undef=v:=by rw [←hs];simp
 simp [hp2,hs2,asAddr,run_loadVar_mid w b o ty cs d hc hu hd hi]
theorem builtV32:Tryz.prog.built 22 []=some (ints .u8 (hzeros 32)).toArray:=by kernel_rfl
end
end Go.Proofs.YtkblmdakejmmhaaGreatDoor
