/- Texts laid together. -/
import Derived.Test.YthpibkpljakeeaaGreatDoorG7
import Derived.Test.YthpibkpljakeeaaGreatDoorSgRM
import Derived.Test.YthpibkpljakeeaaGreatDoorG24
import Derived.Test.YthpibkpljakeeaaGreatDoorG23
import Derived.Test.YthpibkpljakeeaaGreatDoorG22
namespace Go.Proofs.YthpibkpljakeeaaGreatDoor
set_option maxHeartbeats 16000000
set_option maxRecDepth 8000
open Go Go.RowKit
theorem Owns.less {w : World} {base base' : Nat} {e : TypeId} {k : IntKind} {v : Value} {xs : List Int} (h : Owns w base e k v xs) (hb : base' ≤ base) : Owns w base' e k v xs :=
 ⟨h.1, h.2.imp id fun ⟨g, cap, cur, hv, hg, r⟩ => ⟨g, cap, cur, hv, Nat.le_trans hb hg, r⟩⟩
def ROwn (m : Nat) (xs : List Int) (w : World) (e : Ending) (w' : World) : Prop := ∃ A c, e = .returned (.slice A m c) ∧ xs.length = m ∧ Owns w' w.heap.size 5 .u8 (.slice A m c) xs ∧ Below w.heap.size w w'
section
variable {ops : Array Oper} {md : Region.Mode} {W : World} {a0 : Act} {n : Nat} {al : Nat → Bool} {S : Nat → Value → World → Prop} {Q : Exit → Act → World → Prop} {i : Nat} {o : Oper}
theorem step_cO (hg : GuardOn ops md n S i o) {f : FuncId} {xs : Array Operand} {ts : Array TypeId} {m : Nat} {l : List Int} (hp : 0 < m) (ho : o.op = .call { callee := .value (.func f), args := xs, argTypes := ts }) (hcf : ∀ vs w, (callFunc f vs).run Tryz.prog w = .ok (.enter f vs) w)
   (hS : S i = IsOwn W.heap.size 5 .u8 l) (hv : ∀ (a : Act) (w : World), Cl W w → Fr ops n a0 a → Dp ops md n S i a w → ∃ vs, xs.map a.eval = vs ∧ Calls Tryz.prog f vs w (ROwn m l w)) : StepOk Tryz.prog ops md W a0 n al S Q i o := fun a w hw hf hd => by
 rw [if_pos (hg.wanted hd)]
 obtain ⟨vs, h1, h2⟩ := hv a w hw hf hd
 unfold Oper.wp
 rw [ex_fnP rfl hcf ho vs h1 w, Oper.upon_enter]
 refine h2.mono fun e w' ⟨A, c, he, hm, hO, hb⟩ => ?_
 subst he
 obtain ⟨g, rfl, hgb⟩ := hO.block (by omega)
 subst hm
 exact ⟨_, rfl, by rw [hS]; exact ⟨_, c, rfl, hO.less (Below.size hw)⟩, hb, fun _ => ⟨g, rfl, hgb, (hO.lt g rfl).2⟩⟩
end
theorem rby8_walk {xs : List Int} {w : World} (hl : xs.length = 32) : Calls Tryz.prog 27 #[.agg (ints .u8 xs).toArray] w (ROwn 32 xs w) := by
 have HL := hid hl
 have hN := Arr.made w .u8 xs 22
 have hW := below_new w (.cells (ints .u8 xs).toArray 22)
 clear hl
 go_enter Tryz.func27, Tryz.ntmps27
 go_wp2
 generalize w.alloc (.cells (ints .u8 xs).toArray 22) = W0 at *
 go_loopw [3, 4] (fun v i wr => ∃ (k : Nat) (R : Option Addr) (n c : Nat), k ≤ 32 ∧ v = .slice R n c ∧ i = .int .i64 (k : Int) ∧ Owns wr w.heap.size 5 .u8 (.slice R n c) (xs.take k) ∧ Hid ((Value.slice R n c).ownBlock ≠ some w.heap.size) ∧ Arr wr w.heap.size 0 .u8 xs ∧ Below w.heap.size w wr) (fun _ i _ => 32 - (intOf i).toNat)
 case atStart => exact ⟨0, none, 0, 0, Nat.zero_le _, rfl, rfl, Owns.none_ _ _ _ _, hid (by intro e; cases e), hN, hW⟩
 case round =>
   clear hN hW
   obtain ⟨k, R, n, c, hk, rfl, rfl, hO, HF, hN, hW⟩ := hrel
   rename World => W1
   have hsz := hW.size
   by_cases hlt : k < 32
   · obtain ⟨x, cx, fx, HX⟩ := hN.spot (i := k) (by rw [HL.out]; omega)
     rw [Nat.zero_add] at cx
     have HT : Hid (xs.take (k + 1) = xs.take k ++ [x]) := hid (by rw [List.take_add_one, HX.out]; rfl)
     have HTL : Hid ((xs.take k).length ≤ 32) := hid (by rw [List.length_take]; omega)
     have hlb := hN.lt (by rw [HL.out]; omega)
     have k0 : (0 : Int) ≤ k := by omega
     have k32 : (k : Int) < 32 := by omega
     have HW5 : Hid (∀ A' n' c' w2, Grew W1 w2 (Value.slice R n c) (Value.slice A' n' c') → Below w.heap.size w w2) := hid fun A' n' c' w2 hG => hW.trans (hG.below hsz (fun g hg => (hO.lt g hg).1))
     clear fx
     go_wp2_with (at_builtin; refine app_oneG rfl (.tmp 9) (.tmp 13) 23 rfl w.heap.size 5 .u8 1 Tryz.underlying23 infB3 (by omega) R n c (xs.take k) rfl hO _ 1 rfl (by have := HTL.out; omega) hsz ?_; intro A' n' c' w2 hO2 hG2)
     go_roundw
     case rel =>
       rw [← HT.out] at hO2
       exact ⟨k + 1, A', n', c', by omega, rfl, by go_num, hO2, hid (hG2.far HF.out hlb), Arr.grew hN hG2 HF.out hlb, HW5.out _ _ _ _ hG2⟩
     case measure => simp [intOf]; omega
   · have e : k = 32 := by omega
     subst e
     have hf : xs.take 32 = xs := List.take_of_length_le (by rw [HL.out]; omega)
     rw [hf] at hO
     have hm := hO.len
     rw [HL.out] at hm
     subst hm
     clear hf
     go_wp2
     go_ret
     exact ⟨R, c, rfl, HL.out, hO, hW⟩
def RHal (num hi : List Int) (w : World) (e : Ending) (w' : World) : Prop := ∃ A c, e = .returned (.tuple #[.agg (ints .u8 num).toArray, .slice A 32 c]) ∧ Owns w' w.heap.size 5 .u8 (.slice A 32 c) hi ∧ Below w.heap.size w w'
theorem rhal_core {sd lo hi num : List Int} (HSD : Hid (sd.length = 32)) (HL : Hid ((lo ++ hi).length = 64)) (HLO : Hid (lo.length = 32)) (HHI : Hid (hi.length = 32)) (HN : Hid (num.length = 32)) (HS : Hid (∀ w A c, Nums w .u8 A sd → Calls Tryz.prog 49 #[.slice A 32 c] w fun e w' => e = .returned (.agg (ints .u8 (lo ++ hi)).toArray) ∧ Below w.heap.size w w'))
   (kcl : CallsTo 50 #[.agg (ints .u8 lo).toArray] (.agg (ints .u8 num).toArray)) (w : World) : Calls Tryz.prog 22 #[.agg (ints .u8 sd).toArray] w (RHal num hi w) := by
 obtain ⟨z1_, s1_⟩ := zero_of_info inf32
 obtain ⟨z2_, s2_⟩ := zero_of_info inf32
 have h1 := Rw.new w (ints .u8 sd) 22
 have h2 := Rw.new (w.alloc (.cells (ints .u8 sd).toArray 22)) (ints .u8 (zeros 32)) 22
 replace h1 := h1.next (below_new _ (.cells (ints .u8 (zeros 32)).toArray 22))
 simp only [World.size_alloc] at h2
 have hW := (below_new w (.cells (ints .u8 sd).toArray 22)).alloc (by simp) (.cells (ints .u8 (zeros 32)).toArray 22)
 go_enter Tryz.func22, Tryz.ntmps22
 go_upto_region 1 with (fail)
 generalize (w.alloc (.cells (ints .u8 sd).toArray 22)).alloc (.cells (ints .u8 (zeros 32)).toArray 22) = w0 at *
 have s0 := hW.size
 refine rSeq 4 30 (fun i => i == 3) [Is (.agg (ints .u8 sd).toArray), IsNm 32 sd, Is (.agg (ints .u8 (lo ++ hi)).toArray), IsZV w0.heap.size (ints .u8 (zeros 64))] [8, 9, 10, 4] (gC (grows_cons (IsNm.grows _ _) (gC (grows_cons (IsZV.grows _ _) grows_nil))))
   ⟨step_ldV rfl (.inl rfl) (fun _ hw => (h1.next hw).range) rfl Tryz.underlying22 rfl (szV inf32 (il HSD.out)) rfl (kO 1 rfl),
    step_cR' rfl (.inl rfl) rfl cx27 rfl (fun aa ww hw hf hd => ⟨_, one_arg (kI 0 8 rfl rfl) aa ww hw hf hd, (rby8_walk HSD.out).mono fun _ _ ⟨A, c, he, _, hO, hb⟩ => ⟨_, he, ⟨A, c, rfl, hO.nums⟩, hb⟩⟩),
    step_cw rfl (.inl rfl) rfl cx49 rfl (fun aa ww hw hf hd => by
      obtain ⟨A, c, e, hN⟩ := ((knowsW_in 1 9 (by decide) (by kernel_rfl) rfl rfl) : KnowsW _ _ _ _ _ _ _ _ (IsNm 32 sd)) aa ww hw hf hd
      exact ⟨_, by rw [map1, e], HS.out ww A c hN⟩),
    step_allocV (.inl rfl) inf64 rfl rfl, trivial⟩ ?_
 intro val w1 hw hS hap hla
 have e8 := eVal hS 0 8 rfl rfl
 have e10 := eVal hS 2 10 rfl rfl
 obtain ⟨b4, e4, L4, Z4⟩ := hS 3 4 (by decide) rfl
 simp only [pA, pB, pC, pD, pE, Act.put, pG, pH, pI, e8, e10, e4]
 generalize val 9 = g9
 clear hS hap hla e8 e10 e4
 have LL4 := hid (show ((ints .u8 (lo ++ hi))).length = 64 from (il HL.out))
 have R4 := Z4.roomA (us := (ints .u8 (lo ++ hi))) (LL4.out.trans (zv .u8 64).symm)
 have h4 := Z4.storedA (us := (ints .u8 (lo ++ hi))) (LL4.out.trans (zv .u8 64).symm)
 have hu := Below.setCells hw L4 0 (ints .u8 (lo ++ hi)).toArray.toList
 replace h1 := h1.next hu
 replace h2 := h2.next hu
 replace hW := bT hW hu
 clear hu
 with_reducible refine wpList_store_mid (op := ⟨none, .store 29 (.tmp 4) (.tmp 10), _, _, _, _⟩) rfl 29 (.tmp 4) (.tmp 10) rfl b4 0 (ints .u8 (lo ++ hi)).toArray rfl rfl R4 (szA inf64 LL4.out) (ints_all _ _) ?_
 generalize (w1.setCells b4 0 (ints .u8 (lo ++ hi)).toArray.toList) = w2 at *
 clear hw R4 LL4 Z4 L4
 go_upto_region 2 with (fail)
 have lt4 := h4.lt (by rw [ints_length, HL.out]; decide)
 have lt2 := h2.lt (by rw [ints_length, zeros_len]; decide)
 have h5 := Arr.made w2 .u8 (zeros 32) 22
 have hB5 := below_new w2 (.cells (ints .u8 (zeros 32)).toArray 22)
 replace h4 := h4.next hB5
 replace h2 := h2.next hB5
 have hW5 := hW.trans (Below.mono hB5 hW.size)
 have hsz5 : w2.heap.size < (w2.alloc (.cells (ints .u8 (zeros 32)).toArray 22)).heap.size := by simp
 go_upto_region 5 with (fail)
 generalize w2.alloc (.cells (ints .u8 (zeros 32)).toArray 22) = W0 at *
 obtain ⟨r5, hr5⟩ : ∃ r, r = w2.heap.size := ⟨_, rfl⟩
 rw [← hr5] at h5 lt4 lt2 hsz5 ⊢
 have hbr : w.heap.size ≤ r5 := by rw [hr5]; exact hW.size
 have HZ : Hid (zeros 32 = fillK lo 0) := hid (by rw [fillK_zero, HLO.out]; rfl)
 rw [HZ.out] at h5
 clear hr5 hB5 hW h1
 go_loopw [6, 7] (fun v i wr => ∃ (k : Nat) (R : Option Addr) (n c : Nat), k ≤ 32 ∧ v = .slice R n c ∧ i = .int .i64 (k : Int) ∧ Owns wr (r5 + 1) 5 .u8 (.slice R n c) (hi.take k) ∧ Rw wr b4 0 (ints .u8 (lo ++ hi)) ∧ Arr wr r5 0 .u8 (fillK lo k) ∧ Rw wr (w.heap.size + 1) 0 (ints .u8 (zeros 32)) ∧ r5 < wr.heap.size ∧ Below w.heap.size w wr) (fun _ i _ => 32 - (intOf i).toNat)
 case atStart => exact ⟨0, none, 0, 0, Nat.zero_le _, rfl, rfl, Owns.none_ _ _ _ _, h4, h5, h2, hsz5, hW5⟩
 case round =>
   clear h4 h5 h2 hW5 hsz5 HZ
   obtain ⟨k, R, n, c, hk, rfl, rfl, hO, h4, h5, h2, hr, hW⟩ := hrel
   rename World => W1
   have hsz := hW.size
   by_cases hlt : k < 32
   · obtain ⟨x, hx⟩ : ∃ x, lo[k]? = some x := ⟨_, List.getElem?_eq_getElem (by rw [HLO.out]; omega)⟩
     obtain ⟨y, hy⟩ : ∃ y, hi[k]? = some y := ⟨_, List.getElem?_eq_getElem (by rw [HHI.out]; omega)⟩
     have c4 := h4.lo.arr.at_ hx
     have c5 := (Rw.hi (o' := 32) h4 (by rw [HLO.out])).arr.at_ hy
     have f5 := h5.free (i := k) (by rw [fillK_length, HLO.out]; omega)
     have g5 : ∃ z, W1.cell? ⟨r5, k, none⟩ = some (.int .u8 z) := by
       obtain ⟨z, hz, _, _⟩ := h5.spot (i := k) (by rw [fillK_length, HLO.out]; omega)
       rw [Nat.zero_add] at hz
       exact ⟨z, hz⟩
     obtain ⟨z, g5⟩ := g5
     rw [Nat.zero_add] at c4 f5
     have h5' := h5.set k x
     rw [Nat.zero_add, fillK_set lo hx] at h5'
     have HT : Hid (hi.take (k + 1) = hi.take k ++ [y]) := hid (by rw [List.take_add_one, hy]; rfl)
     have HTL : Hid ((hi.take k).length ≤ 32) := hid (by rw [List.length_take]; omega)
     have hO' := hO.set ⟨r5, k, none⟩ (.int .u8 x) (fun g hg => by have := (hO.lt g hg).1; show g ≠ r5; omega)
     have hb4 := Below.heap_setCell W1 ⟨r5, k, none⟩ (.int .u8 x) b4 (by show b4 ≠ r5; omega)
     have h4' := h4.same hb4
     have c5' : (W1.setCell ⟨r5, k, none⟩ (.int .u8 x)).cell? ⟨b4, 32 + k, none⟩ = some (.int .u8 y) := (World.cell?_of_block (a := ⟨b4, 32 + k, none⟩) hb4).trans c5
     have h2' := h2.same (Below.heap_setCell W1 ⟨r5, k, none⟩ (.int .u8 x) (w.heap.size + 1) (by show w.heap.size + 1 ≠ r5; omega))
     have hW' := hW.setCell (p := ⟨r5, k, none⟩) hbr (.int .u8 x)
     have hr' : r5 + 1 ≤ (W1.setCell ⟨r5, k, none⟩ (.int .u8 x)).heap.size := by rw [World.size_setCell]; omega
     have k0 : (0 : Int) ≤ k := by omega
     have k32 : (k : Int) < 32 := by omega
     have q0 : (0 : Int) ≤ 32 + (k : Int) := by omega
     have q64 : 32 + (k : Int) < 64 := by omega
     have qn : (32 + (k : Int)).toNat = 32 + k := by omega
     have wq : IntKind.i64.wrap (32 + (k : Int)) = 32 + (k : Int) := IntWalk.i64_in _ (by omega)
     have HX := hid (And.intro hx hy)
     clear hx hy h5 h4 h2 hW hO
     go_upto_region 8 with (fail)
     generalize W1.setCell ⟨r5, k, none⟩ (.int .u8 x) = W2 at *
     have hsz2 := hW'.size
     have HW5 : Hid (∀ A' n' c' w2, Grew W2 w2 (Value.slice R n c) (Value.slice A' n' c') → Below w.heap.size w w2) := hid fun A' n' c' w2 hG => hW'.trans (hG.below hsz2 (fun g hg => by have := (hO'.lt g hg).1; omega))
     have hn4 : (Value.slice R n c).ownBlock ≠ some b4 := fun e => by have := (hO'.lt b4 e).1; omega
     have hn5 : (Value.slice R n c).ownBlock ≠ some r5 := fun e => by have := (hO'.lt r5 e).1; omega
     have hn2 : (Value.slice R n c).ownBlock ≠ some (w.heap.size + 1) := fun e => by have := (hO'.lt _ e).1; omega
     have HN := hid (And.intro hn4 (And.intro hn5 hn2))
     clear hn4 hn5 hn2
     go_wp2_with (at_builtin; refine app_oneG rfl (.tmp 20) (.tmp 25) 23 rfl (r5 + 1) 5 .u8 1 Tryz.underlying23 infB3 (by omega) R n c (hi.take k) rfl hO' _ 1 rfl (by have := HTL.out; omega) hr' ?_; intro A' n' c' w2 hO2 hG2)
     go_roundw
     case rel =>
       rw [← HT.out] at hO2
       exact ⟨k + 1, A', n', c', by omega, rfl, by go_num, hO2, h4'.grown hG2.1 HN.out.1, Arr.grew h5' hG2 HN.out.2.1 (by omega), h2'.grown hG2.1 HN.out.2.2, Nat.lt_of_lt_of_le (by omega) hG2.1.size, HW5.out _ _ _ _ hG2⟩
     case measure => simp [intOf]; omega
   · have e : k = 32 := by omega
     subst e
     have hf : hi.take 32 = hi := List.take_of_length_le (by rw [HHI.out]; omega)
     have hg : fillK lo 32 = lo := by
       have := fillK_end lo
       rwa [HLO.out] at this
     rw [hf] at hO
     rw [hg] at h5
     have hm := hO.len
     rw [HHI.out] at hm
     subst hm
     have hk32 : ¬ ((32 : Nat) : Int) < 32 := by omega
     clear hf hg
     go_wp2_with (first
       | (with_reducible refine wpList_load_mid (op := ⟨some 27, .load 22 (.tmp 5), _, _, _, _⟩) rfl 22 (.tmp 5) rfl r5 0 rfl (ints .u8 lo) _ h5.range Tryz.underlying22 rfl (szV inf32 (il HLO.out)) ?_))
     refine (kcl _).mono ?_
     rintro e w2 ⟨rfl, hb2⟩
     replace h2 := h2.next hb2
     have hO2 := hO.stay hb2
     have R2 := h2.roomA (us := ints .u8 num) ((il HN.out).trans (il (zeros_len 32)).symm)
     have h2s := h2.storedA (us := ints .u8 num) ((il HN.out).trans (il (zeros_len 32)).symm)
     have hW2 := Below.setCells (hW.trans (Below.mono hb2 hsz)) (g := w.heap.size + 1) (by omega) 0 (ints .u8 num).toArray.toList
     have hO3 := hO2.keep (w' := w2.setCells (w.heap.size + 1) 0 (ints .u8 num).toArray.toList) fun g hg => (setCells_frame (w.heap.size + 1) (ints .u8 num).toArray.toList 0 w2).2.2.2.2 g (by have := (hO2.lt g hg).1; omega)
     clear h4 h5 hO hb2 h2 hW
     go_wp2_with (first
       | (with_reducible refine wpList_store_mid (op := ⟨none, .store 22 (.tmp 2) (.tmp 28), _, _, _, _⟩) rfl 22 (.tmp 2) (.tmp 28) rfl (w.heap.size + 1) 0 (ints .u8 num).toArray rfl rfl R2 (szA inf32 (il HN.out)) (ints_all _ _) ?_; generalize w2.setCells (w.heap.size + 1) 0 (ints .u8 num).toArray.toList = W5 at *))
     exact bodyPost_ret (results_row2 rfl _ _ (w.heap.size + 1) 0 rfl (.slice R 32 c) rfl (ints .u8 num) _ h2s.range Tryz.underlying22 rfl (szV inf32 (il HN.out))) rfl ⟨R, c, rfl, hO3.less (by omega), hW2⟩
theorem rhal_any {sd : List Int} (hl : sd.length = 32) (hb : Byt sd) (w : World) : Calls Tryz.prog 22 #[.agg (ints .u8 sd).toArray] w (RHal (numL sd) (preL sd) w) := by
 have hsp : (hash sd).take 32 ++ preL sd = hash sd := List.take_append_drop 32 _
 exact rhal_core (sd := sd) (lo := (hash sd).take 32) (hi := preL sd) (num := numL sd) (hid hl) (hid (by rw [hsp]; exact hash_len sd)) (hid (lo_len sd)) (hid (preL_len sd)) (hid (numL_len sd))
   (hid fun w A c hN => by
     have h := rsum_any A c sd w (by omega) hb hN
     rw [hl] at h
     rw [hsp]
     exact h.mono fun e w' ⟨ys, he, hy, _, hb⟩ => ⟨by rw [he, hy.out], hb⟩) (c_rclamp (lo_len sd) (lo_byt sd)) w
section
variable {ops : Array Oper} {md : Region.Mode} {W : World} {a0 : Act} {n : Nat} {al : Nat → Bool} {S : Nat → Value → World → Prop} {Q : Exit → Act → World → Prop} {i : Nat} {o : Oper}
theorem step_ext0 (hal : al i = false) (hg : GuardOn ops md n S i o) {x : Operand} {u : Value} (ho : o.op = .extract x 0) (hS : S i = Is u) (hx : KnowsW ops md W a0 n S i x (fun v _ => ∃ t, v = .tuple #[u, t])) : StepOk Tryz.prog ops md W a0 n al S Q i o :=
 step_run hal hg fun a w hw hf hd => ⟨u, by
   obtain ⟨t, h⟩ := hx a w hw hf hd
   revert h
   generalize a.eval = ev
   intro h
   unfold execOp
   simp only [ho, h]
   go_simp, by rw [hS]; exact rfl⟩
theorem step_ext1 (hal : al i = false) (hg : GuardOn ops md n S i o) {x : Operand} {R : Value → World → Prop} (ho : o.op = .extract x 1) (hS : S i = R) (hx : KnowsW ops md W a0 n S i x (fun v w => ∃ u t, v = .tuple #[u, t] ∧ R t w)) : StepOk Tryz.prog ops md W a0 n al S Q i o :=
 step_run hal hg fun a w hw hf hd => by
   obtain ⟨u, t, h, hR⟩ := hx a w hw hf hd
   refine ⟨t, ?_, by rw [hS]; exact hR⟩
   revert h
   generalize a.eval = ev
   intro h
   unfold execOp
   simp only [ho, h]
   go_simp
def IsHal (base : Nat) (num hi : List Int) : Value → World → Prop := fun v w => ∃ A c, v = .tuple #[.agg (ints .u8 num).toArray, .slice A hi.length c] ∧ Owns w base 5 .u8 (.slice A hi.length c) hi
theorem IsHal.grows (base : Nat) (num hi : List Int) : Grows (IsHal base num hi) := fun _ _ _ ⟨A, c, h1, h2⟩ hb => ⟨A, c, h1, h2.stay hb⟩
end
set_option maxRecDepth 8000 in
set_option maxHeartbeats 8000000 in
theorem rpub_core {sd num hi pub : List Int} (HSD : Hid (sd.length = 32)) (HN : Hid (num.length = 32)) (HNB : Hid (Byt num)) (HHI : Hid (hi.length = 32)) (HP : Hid (pub.length = 32)) (HPB : Hid (Byt pub)) (KH : Hid (∀ w, Calls Tryz.prog 22 #[.agg (ints .u8 sd).toArray] w (RHal num hi w))) (HPE : Hid (bytesP (timesB num) = pub)) : CallsTo 10 #[.agg (ints .u8 sd).toArray] (.agg (ints .u8 pub).toArray) := by
 intro w
 obtain ⟨z1_, s1_⟩ := zero_of_info inf32
 obtain ⟨z2_, s2_⟩ := zero_of_info inf32
 have h1 := Rw.new w (ints .u8 sd) 22
 have h2 := Rw.new (w.alloc (.cells (ints .u8 sd).toArray 22)) (ints .u8 (zeros 32)) 22
 replace h1 := h1.next (below_new _ (.cells (ints .u8 (zeros 32)).toArray 22))
 simp only [World.size_alloc] at h2
 have hW := (below_new w (.cells (ints .u8 sd).toArray 22)).alloc (by simp) (.cells (ints .u8 (zeros 32)).toArray 22)
 go_enter Tryz.func10, Tryz.ntmps10
 go_upto_region 1 with (fail)
 generalize (w.alloc (.cells (ints .u8 sd).toArray 22)).alloc (.cells (ints .u8 (zeros 32)).toArray 22) = w0 at *
 have s0 := hW.size
 refine rSeq 5 14 (fun _ => false) [Is (.agg (ints .u8 sd).toArray), IsHal w0.heap.size num hi, IsHal w0.heap.size num hi, Is (.agg (ints .u8 num).toArray), IsOwn w0.heap.size 5 .u8 hi] [6, 7, 5, 8, 9] (gC (grows_cons (IsHal.grows _ _ _) (grows_cons (IsHal.grows _ _ _) (gC (grows_cons (IsOwn.grows _ _ _ _) grows_nil)))))
   ⟨step_ldV rfl (.inl rfl) (fun _ hw => (h1.next hw).range) rfl Tryz.underlying22 rfl (szV inf32 (il HSD.out)) rfl (kO 1 rfl),
    step_cR' rfl (.inl rfl) rfl cx22 rfl (fun aa ww hw hf hd => ⟨_, one_arg (kI 0 6 rfl rfl) aa ww hw hf hd, (KH.out ww).mono fun _ _ ⟨A, c, he, hO, hb⟩ => ⟨_, he, ⟨A, c, by rw [HHI.out], by rw [HHI.out]; exact hO.less (Below.size hw)⟩, hb⟩⟩),
    step_copyW rfl (.inl rfl) 1 7 (.inl rfl) rfl (by decide) (by kernel_rfl) rfl rfl,
    step_ext0 rfl (.inl rfl) rfl rfl (((knowsW_in 2 5 (by decide) (by kernel_rfl) rfl rfl) : KnowsW _ _ _ _ _ _ _ _ (IsHal _ num hi)).and fun _ _ _ ⟨A, c, h, _⟩ => ⟨_, h⟩),
    step_ext1 rfl (.inl rfl) rfl rfl (((knowsW_in 2 5 (by decide) (by kernel_rfl) rfl rfl) : KnowsW _ _ _ _ _ _ _ _ (IsHal _ num hi)).and fun _ _ _ ⟨A, c, h, hO⟩ => ⟨_, _, h, ⟨A, c, rfl, hO⟩⟩), trivial⟩ ?_
 intro val w1 hw hS hap hla
 have e6 := eVal hS 0 6 rfl rfl
 have e8 := eVal hS 3 8 rfl rfl
 obtain ⟨A9, c9, e9, O9⟩ := hS 4 9 (by decide) rfl
 rw [e9] at O9
 simp only [pA, pB, pC, pD, pE, Act.put, pG, pH, pI, e6, e8, e9]
 generalize val 7 = g7
 generalize val 5 = g5
 clear hS hap hla e6 e8 e9
 replace h1 := h1.next hw
 replace h2 := h2.next hw
 replace hW := bT hW hw
 clear hw
 clear O9
 have lc3 := hW.size
 have Z3 := Rw.new w1 (ints .u8 (zeros 32)) 22
 have R3 := Z3.roomA (us := (ints .u8 num)) ((il HN.out).trans (zv .u8 32).symm)
 have h3 := Z3.storedA (us := (ints .u8 num)) ((il HN.out).trans (zv .u8 32).symm)
 have hB3 := Below.setCells (below_new w1 (.cells (ints .u8 (zeros 32)).toArray 22)) (g := w1.heap.size) (Nat.le_refl _) 0 (ints .u8 num).toArray.toList
 replace h1 := h1.next hB3
 replace h2 := h2.next hB3
 replace hW := hW.trans (Below.mono hB3 hW.size)
 have LL3 := hid (show ((ints .u8 num)).length = 32 from (il HN.out))
 clear Z3 hB3
 go_wp2_with (first | (with_reducible refine wpList_store_mid (op := ⟨none, .store 22 (.tmp 3) (.tmp 8), _, _, _, _⟩) rfl 22 (.tmp 3) (.tmp 8) rfl w1.heap.size 0 (ints .u8 num).toArray rfl rfl R3 (szA inf32 LL3.out) (ints_all _ _) ?_; generalize ((w1.alloc (.cells (ints .u8 (zeros 32)).toArray 22)).setCells w1.heap.size 0 (ints .u8 num).toArray.toList) = w2 at *))
 clear R3 LL3
 obtain ⟨b3, hb3⟩ : ∃ b, b = w1.heap.size := ⟨_, rfl⟩
 rw [← hb3] at h3 lc3 ⊢
 have HBK3 := hid hb3
 clear hb3
 have s2 := hW.size
 refine rSpec 4 14 (fun _ => false) [IsP ⟨bxF, byF, 1⟩, Is (.agg (ints .u8 num).toArray), IsQ (timesB num), Is (.agg (ints .u8 pub).toArray)] [10, 11, 12, 13] (grows_cons (IsP.grows _) (gC (grows_cons (IsQ.grows _) (gC grows_nil))))
   ⟨step_qbase rfl (.inl rfl) rfl rfl,
    step_ldV rfl (.inl rfl) (fun _ hw => (h3.next hw).range) rfl Tryz.underlying22 rfl (szV inf32 (il HN.out)) rfl (kO 3 rfl),
    step_qmul rfl (.inl rfl) base_on HN.out HNB.out rfl rfl rfl (fun aa ww hw hf hd => base_q ((knowsP_in 0 10 (by decide) (by kernel_rfl) rfl rfl) aa ww hw hf hd)) (kI 1 11 rfl rfl),
    step_qbytes rfl (.inl rfl) HPE.out rfl rfl (knowsQ_in 2 12 (by decide) (by kernel_rfl) rfl rfl), trivial⟩ ?_
 intro val w3 hw hS hap hla
 have e11 := eVal hS 1 11 rfl rfl
 have e13 := eVal hS 3 13 rfl rfl
 simp only [pA, pB, pC, pD, pE, Act.put, pG, pH, pI, e11, e13]
 generalize val 10 = g10
 generalize val 12 = g12
 clear hS hap hla e11 e13
 have LL2 := hid (show ((ints .u8 pub)).length = 32 from (il HP.out))
 have Y2 := h2.next hw
 have R2 := Y2.roomA (us := (ints .u8 pub)) (LL2.out.trans (il (zeros_len 32)).symm)
 have X2 := Y2.storedA (us := (ints .u8 pub)) (LL2.out.trans (il (zeros_len 32)).symm)
 replace h1 := h1.next hw
 replace h2 := h2.next hw
 replace h3 := h3.next hw
 replace hW := bT hW hw
 with_reducible refine wpList_store_mid (op := ⟨none, .store 22 (.tmp 2) (.tmp 13), _, _, _, _⟩) rfl 22 (.tmp 2) (.tmp 13) rfl (w.heap.size + 1) 0 (ints .u8 pub).toArray rfl rfl R2 (szA inf32 LL2.out) (ints_all _ _) ?_
 replace hW := Below.setCells hW (g := (w.heap.size + 1)) (by omega) 0 (ints .u8 pub).toArray.toList
 generalize (w3.setCells (w.heap.size + 1) 0 (ints .u8 pub).toArray.toList) = w4 at *
 clear hw R2 LL2 Y2
 go_wp2_with (fail)
 exact ret_rows rfl (w.heap.size + 1) 0 rfl (ints .u8 pub) _ X2.range Tryz.underlying22 rfl (szV inf32 (il HP.out)) rfl ⟨rfl, hW⟩
theorem rpub_any {sd : List Int} (hl : sd.length = 32) (hb : Byt sd) : CallsTo 10 #[.agg (ints .u8 sd).toArray] (.agg (ints .u8 (pubL sd)).toArray) :=
 rpub_core (hi := preL sd) (hid hl) (hid (numL_len sd)) (hid (numL_byt sd)) (hid (preL_len sd)) (hid (pubL_len sd)) (hid (bytesP_byt _)) (hid fun w => rhal_any hl hb w) (hid rfl)
theorem rby8_len {xs : List Int} {w : World} (hl : xs.length = 32) : Calls Tryz.prog 27 #[.agg (ints .u8 xs).toArray] w (ROwn xs.length xs w) :=
 (rby8_walk hl).mono fun e w' ⟨A, c, he, _, hO, hb⟩ => ⟨A, c, by rw [hl]; exact he, rfl, by rw [hl]; exact hO, hb⟩
set_option maxRecDepth 8000 in
set_option maxHeartbeats 16000000 in
theorem rsign_core {sd num hi pub tx rr fi kk mu se : List Int} (HSD : Hid (sd.length = 32)) (HN : Hid (num.length = 32)) (HNB : Hid (Byt num)) (HHI : Hid (hi.length = 32)) (HP : Hid (pub.length = 32)) (HPB : Hid (Byt pub)) (KH : Hid (∀ w, Calls Tryz.prog 22 #[.agg (ints .u8 sd).toArray] w (RHal num hi w))) (HI : Hid (hi.length = 32)) (HSDB : Hid (Byt sd)) (HXB : Hid (Byt tx)) (HX3 : Hid (tx.length ≤ 300)) (HR : Hid (rr.length = 32)) (HRB : Hid (Byt rr)) (HF : Hid (fi.length = 32)) (HFB : Hid (Byt fi)) (HFE : Hid (bytesP (timesB rr) = fi)) (HK : Hid (kk.length = 32)) (HKB : Hid (Byt kk)) (HMU : Hid (mu.length = 32)) (HMUB : Hid (Byt mu)) (HSE : Hid (se.length = 32)) (HSEB : Hid (Byt se)) (kpub : CallsTo 10 #[.agg (ints .u8 sd).toArray] (.agg (ints .u8 pub).toArray))
   (KN1 : Hid (∀ w A n c, n = (hi ++ tx).length → Nums w .u8 A (hi ++ tx) → Calls Tryz.prog 26 #[.slice A n c] w fun e w' => e = .returned (.agg (ints .u8 rr).toArray) ∧ Below w.heap.size w w'))
   (KN2 : Hid (∀ w A n c, n = (fi ++ (pub ++ tx)).length → Nums w .u8 A (fi ++ (pub ++ tx)) → Calls Tryz.prog 26 #[.slice A n c] w fun e w' => e = .returned (.agg (ints .u8 kk).toArray) ∧ Below w.heap.size w w'))
   (kmu : CallsTo 29 #[.agg (ints .u8 kk).toArray, .agg (ints .u8 num).toArray] (.agg (ints .u8 mu).toArray)) (kadd : CallsTo 28 #[.agg (ints .u8 rr).toArray, .agg (ints .u8 mu).toArray] (.agg (ints .u8 se).toArray)) {A : Option Addr} {c : Nat} (w : World) (hX : Nums w .u8 A tx) :
   Calls Tryz.prog 12 #[.agg (ints .u8 sd).toArray, .slice A tx.length c] w fun e w' => ∃ A' c', e = .returned (.slice A' (fi ++ se).length c') ∧ Nums w' .u8 A' (fi ++ se) ∧ Below w.heap.size w w' := by
 obtain ⟨z2_, s2_⟩ := zero_of_info inf32
 have h2 := Rw.new w (ints .u8 sd) 22
 have hW := below_new w (.cells (ints .u8 sd).toArray 22)
 have hX0 := hX
 replace hX := hX.below hW
 go_enter Tryz.func12, Tryz.ntmps12
 go_upto_region 1 with (fail)
 generalize w.alloc (.cells (ints .u8 sd).toArray 22) = w0 at *
 have lt20 := h2.lt (by rw [ints_length, HSD.out]; decide)
 have s0 := hW.size
 refine rSeq 5 49 (fun _ => false) [Is (.agg (ints .u8 sd).toArray), IsHal w0.heap.size num hi, IsHal w0.heap.size num hi, Is (.agg (ints .u8 num).toArray), IsOwn w0.heap.size 5 .u8 hi] [13, 14, 12, 15, 16] (gC (grows_cons (IsHal.grows _ _ _) (grows_cons (IsHal.grows _ _ _) (gC (grows_cons (IsOwn.grows _ _ _ _) grows_nil)))))
   ⟨step_ldV rfl (.inl rfl) (fun _ hw => (h2.next hw).range) rfl Tryz.underlying22 rfl (szV inf32 (il HSD.out)) rfl (kO 2 rfl),
    step_cR' rfl (.inl rfl) rfl cx22 rfl (fun aa ww hw hf hd => ⟨_, one_arg (kI 0 13 rfl rfl) aa ww hw hf hd, (KH.out ww).mono fun _ _ ⟨A, c, he, hO, hb⟩ => ⟨_, he, ⟨A, c, by rw [HHI.out], by rw [HHI.out]; exact hO.less (Below.size hw)⟩, hb⟩⟩),
    step_copyW rfl (.inl rfl) 1 14 (.inl rfl) rfl (by decide) (by kernel_rfl) rfl rfl,
    step_ext0 rfl (.inl rfl) rfl rfl (((knowsW_in 2 12 (by decide) (by kernel_rfl) rfl rfl) : KnowsW _ _ _ _ _ _ _ _ (IsHal _ num hi)).and fun _ _ _ ⟨A, c, h, _⟩ => ⟨_, h⟩),
    step_ext1 rfl (.inl rfl) rfl rfl (((knowsW_in 2 12 (by decide) (by kernel_rfl) rfl rfl) : KnowsW _ _ _ _ _ _ _ _ (IsHal _ num hi)).and fun _ _ _ ⟨A, c, h, hO⟩ => ⟨_, _, h, ⟨A, c, rfl, hO⟩⟩), trivial⟩ ?_
 intro val w1 hw hS hap hla
 have e13 := eVal hS 0 13 rfl rfl
 have e15 := eVal hS 3 15 rfl rfl
 obtain ⟨A16, c16, e16, O16⟩ := hS 4 16 (by decide) rfl
 rw [e16] at O16
 simp only [pA, pB, pC, pD, pE, Act.put, pG, pH, pI, e13, e15, e16]
 generalize val 14 = g14
 generalize val 12 = g12
 clear hS hap hla e13 e15 e16
 replace hX := hX.below hw
 replace h2 := h2.next hw
 replace hW := bT hW hw
 clear hw
 have HF6 : Hid (∀ g, (Value.slice A16 hi.length c16).ownBlock = some g → w0.heap.size ≤ g ∧ g < w1.heap.size) := hid fun g hg => O16.lt g hg
 have lt2 := h2.lt (by rw [ints_length, HSD.out]; decide)
 have lc5 := hW.size
 have Z5 := Rw.new w1 (ints .u8 (zeros 32)) 22
 have R5 := Z5.roomA (us := (ints .u8 num)) ((il HN.out).trans (zv .u8 32).symm)
 have h5 := Z5.storedA (us := (ints .u8 num)) ((il HN.out).trans (zv .u8 32).symm)
 have hB5 := Below.setCells (below_new w1 (.cells (ints .u8 (zeros 32)).toArray 22)) (g := w1.heap.size) (Nat.le_refl _) 0 (ints .u8 num).toArray.toList
 replace hX := hX.below hB5
 replace h2 := h2.next hB5
 replace O16 := O16.stay hB5
 replace hW := hW.trans (Below.mono hB5 hW.size)
 have LL5 := hid (show ((ints .u8 num)).length = 32 from (il HN.out))
 clear Z5 hB5
 go_upto_region 2 with (first | (with_reducible refine wpList_store_mid (op := ⟨none, .store 22 (.tmp 5) (.tmp 15), _, _, _, _⟩) rfl 22 (.tmp 5) (.tmp 15) rfl w1.heap.size 0 (ints .u8 num).toArray rfl rfl R5 (szA inf32 LL5.out) (ints_all _ _) ?_; generalize ((w1.alloc (.cells (ints .u8 (zeros 32)).toArray 22)).setCells w1.heap.size 0 (ints .u8 num).toArray.toList) = w2 at *))
 clear R5 LL5
 obtain ⟨b5, hb5⟩ : ∃ b, b = w1.heap.size := ⟨_, rfl⟩
 rw [← hb5] at h5 lc5 ⊢
 have HBK5 := hid hb5
 clear hb5
 have lt5 := h5.lt (by rw [ints_length, HN.out]; decide)
 have s2 := hW.size
 refine rSeq 3 49 (fun i => i == 2) [Is (.agg (ints .u8 sd).toArray), Is (.agg (ints .u8 pub).toArray), IsZV w2.heap.size (ints .u8 (zeros 32))] [17, 18, 7] (gC (gC (grows_cons (IsZV.grows _ _) grows_nil)))
   ⟨step_ldV rfl (.inl rfl) (fun _ hw => (h2.next hw).range) rfl Tryz.underlying22 rfl (szV inf32 (il HSD.out)) rfl (kO 2 rfl),
    step_to rfl (.inl rfl) rfl cx10 kpub rfl (one_arg (kI 0 17 rfl rfl)),
    step_allocV (.inl rfl) inf32 rfl rfl, trivial⟩ ?_
 intro val w3 hw hS hap hla
 obtain ⟨b7, e7, L7, Z7⟩ := hS 2 7 (by decide) rfl
 simp only [pA, pB, pC, pD, pE, Act.put, pG, pH, pI, eVal hS 0 17 rfl rfl, eVal hS 1 18 rfl rfl, e7]
 clear hS hap hla e7
 have LL7 := hid (show ((ints .u8 pub)).length = 32 from (il HP.out))
 have R7 := Z7.roomA (us := (ints .u8 pub)) (LL7.out.trans (zv .u8 32).symm)
 have h7 := Z7.storedA (us := (ints .u8 pub)) (LL7.out.trans (zv .u8 32).symm)
 have hu := Below.setCells hw L7 0 (ints .u8 pub).toArray.toList
 replace hX := hX.below hu
 replace h2 := h2.next hu
 clear hu
 replace O16 := O16.stay (Below.setCells hw L7 0 (ints .u8 pub).toArray.toList)
 have hu := Below.setCells hw L7 0 (ints .u8 pub).toArray.toList
 replace h5 := h5.next hu
 replace hW := bT hW hu
 clear hu
 with_reducible refine wpList_store_mid (op := ⟨none, .store 22 (.tmp 7) (.tmp 18), _, _, _, _⟩) rfl 22 (.tmp 7) (.tmp 18) rfl b7 0 (ints .u8 pub).toArray rfl rfl R7 (szA inf32 LL7.out) (ints_all _ _) ?_
 generalize (w3.setCells b7 0 (ints .u8 pub).toArray.toList) = w4 at *
 clear hw R7 LL7 Z7
 go_upto_region 3 with (fail)
 have hs3 := hW.size
 have lt7 := h7.lt (by rw [ints_length, HP.out]; decide)
 have HF6' : ∀ g, (Value.slice A16 hi.length c16).ownBlock = some g → w.heap.size < g ∧ g < b5 ∧ g < b7 := fun g hg => by have := HF6.out g hg; have := HBK5.out; omega
 go_wp2_with (at_builtin; refine app_nums rfl (.tmp 19) (.tmp 20) 23 rfl w.heap.size 5 .u8 1 Tryz.underlying23 infB3 (by omega) A16 hi.length c16 hi rfl (O16.less (base' := w.heap.size) s0) A c tx rfl hX (by have := HI.out; have := HP.out; have := HF.out; have := HX3.out; first | omega | (simp only [List.length_append, List.length_nil]; omega)) (by omega) ?_; intro A6 n6 c6 w5 hO6 hG6)
 have hn6 := hO6.len
 have hN6 := hO6.nums
 replace h2 := h2.grown hG6.1 (fun e => by have := HF6' _ e; omega)
 replace h5 := h5.grown hG6.1 (fun e => by have := HF6' _ e; omega)
 replace h7 := h7.grown hG6.1 (fun e => by have := HF6' _ e; omega)
 replace hW := hW.trans (hG6.below hW.size (fun g hg => by have := HF6' g hg; omega))
 replace hX := hX0.below hW
 clear O16 hO6 hG6
 refine (KN1.out w5 A6 n6 c6 hn6 hN6).mono ?_
 rintro e w6 ⟨rfl, hbN⟩
 replace h2 := h2.next hbN
 replace h5 := h5.next hbN
 replace h7 := h7.next hbN
 replace hX := hX.below hbN
 replace hW := hW.trans (Below.mono hbN hW.size)
 clear hbN hn6 hN6
 have lc8 := hW.size
 have Z8 := Rw.new w6 (ints .u8 (zeros 32)) 22
 have R8 := Z8.roomA (us := (ints .u8 rr)) ((il HR.out).trans (zv .u8 32).symm)
 have h8 := Z8.storedA (us := (ints .u8 rr)) ((il HR.out).trans (zv .u8 32).symm)
 have hB8 := Below.setCells (below_new w6 (.cells (ints .u8 (zeros 32)).toArray 22)) (g := w6.heap.size) (Nat.le_refl _) 0 (ints .u8 rr).toArray.toList
 replace hX := hX.below hB8
 replace h2 := h2.next hB8
 replace h5 := h5.next hB8
 replace h7 := h7.next hB8
 replace hW := hW.trans (Below.mono hB8 hW.size)
 have LL8 := hid (show ((ints .u8 rr)).length = 32 from (il HR.out))
 clear Z8 hB8
 go_wp2_with (first | (with_reducible refine wpList_store_mid (op := ⟨none, .store 22 (.tmp 8) (.tmp 22), _, _, _, _⟩) rfl 22 (.tmp 8) (.tmp 22) rfl w6.heap.size 0 (ints .u8 rr).toArray rfl rfl R8 (szA inf32 LL8.out) (ints_all _ _) ?_; generalize ((w6.alloc (.cells (ints .u8 (zeros 32)).toArray 22)).setCells w6.heap.size 0 (ints .u8 rr).toArray.toList) = w7 at *))
 clear R8 LL8
 obtain ⟨b8, hb8⟩ : ∃ b, b = w6.heap.size := ⟨_, rfl⟩
 rw [← hb8] at h8 lc8 ⊢
 have HBK8 := hid hb8
 clear hb8
 have s7 := hW.size
 refine rSpec 5 49 (fun i => i == 4) [IsP ⟨bxF, byF, 1⟩, Is (.agg (ints .u8 rr).toArray), IsQ (timesB rr), Is (.agg (ints .u8 fi).toArray), IsZV w7.heap.size (ints .u8 (zeros 32))] [23, 24, 25, 26, 9] (grows_cons (IsP.grows _) (gC (grows_cons (IsQ.grows _) (gC (grows_cons (IsZV.grows _ _) grows_nil)))))
   ⟨step_qbase rfl (.inl rfl) rfl rfl,
    step_ldV rfl (.inl rfl) (fun _ hw => (h8.next hw).range) rfl Tryz.underlying22 rfl (szV inf32 (il HR.out)) rfl (kO 8 rfl),
    step_qmul rfl (.inl rfl) base_on HR.out HRB.out rfl rfl rfl (fun aa ww hw hf hd => base_q ((knowsP_in 0 23 (by decide) (by kernel_rfl) rfl rfl) aa ww hw hf hd)) (kI 1 24 rfl rfl),
    step_qbytes rfl (.inl rfl) HFE.out rfl rfl (knowsQ_in 2 25 (by decide) (by kernel_rfl) rfl rfl),
    step_allocV (.inl rfl) inf32 rfl rfl, trivial⟩ ?_
 intro val w8 hw hS hap hla
 have e24 := eVal hS 1 24 rfl rfl
 have e26 := eVal hS 3 26 rfl rfl
 obtain ⟨b9, e9, L9, Z9⟩ := hS 4 9 (by decide) rfl
 simp only [pA, pB, pC, pD, pE, Act.put, pG, pH, pI, e24, e26, e9]
 generalize val 23 = g23
 generalize val 25 = g25
 clear hS hap hla e24 e26 e9
 have LL9 := hid (show ((ints .u8 fi)).length = 32 from (il HF.out))
 have R9 := Z9.roomA (us := (ints .u8 fi)) (LL9.out.trans (zv .u8 32).symm)
 have h9 := Z9.storedA (us := (ints .u8 fi)) (LL9.out.trans (zv .u8 32).symm)
 have hu := Below.setCells hw L9 0 (ints .u8 fi).toArray.toList
 replace hX := hX.below hu
 replace h2 := h2.next hu
 replace h5 := h5.next hu
 replace h7 := h7.next hu
 replace h8 := h8.next hu
 replace hW := bT hW hu
 clear hu
 with_reducible refine wpList_store_mid (op := ⟨none, .store 22 (.tmp 9) (.tmp 26), _, _, _, _⟩) rfl 22 (.tmp 9) (.tmp 26) rfl b9 0 (ints .u8 fi).toArray rfl rfl R9 (szA inf32 LL9.out) (ints_all _ _) ?_
 generalize (w8.setCells b9 0 (ints .u8 fi).toArray.toList) = w9 at *
 clear hw R9 LL9 Z9 L9
 go_upto_region 6 with (fail)
 have hs6 := hW.size
 have lu2 := h2.lt (by rw [ints_length, HSD.out]; decide)
 have lu5 := h5.lt (by rw [ints_length, HN.out]; decide)
 have lu7 := h7.lt (by rw [ints_length, HP.out]; decide)
 have lu8 := h8.lt (by rw [ints_length, HR.out]; decide)
 have lu9 := h9.lt (by rw [ints_length, HF.out]; decide)
 go_wp2_with (with_reducible refine wpList_load_mid (op := ⟨some 28, .load 22 (.tmp 9), _, _, _, _⟩) rfl 22 (.tmp 9) rfl b9 0 rfl (ints .u8 fi) _ h9.range Tryz.underlying22 rfl (szV inf32 (il HF.out)) ?_)
 refine (rby8_len HF.out).mono ?_
 rintro e w10 ⟨B6, d6, rfl, _, hP6, hb6⟩
 replace h2 := h2.next hb6
 replace h5 := h5.next hb6
 replace h7 := h7.next hb6
 replace h8 := h8.next hb6
 replace h9 := h9.next hb6
 replace hX := hX.below hb6
 have hN6 := hP6.nums
 replace hW := hW.trans (Below.mono hb6 hW.size)
 have hz6 := hb6.size
 clear hP6 hb6
 go_upto_region 7 with (at_builtin; refine app_nums rfl (.tmp 27) (.tmp 29) 23 rfl (w10.heap.size) 5 .u8 1 Tryz.underlying23 infB3 (by omega) none 0 0 [] rfl (Owns.none_ _ _ _ _) B6 d6 fi rfl hN6 (by have := HI.out; have := HP.out; have := HF.out; have := HX3.out; first | omega | (simp only [List.length_append, List.length_nil]; omega)) (by omega) ?_; intro A6_ n6_ c6_ w11 hO6 hG6)
 have HB : Hid (w9.heap.size ≤ w10.heap.size) := hid hz6
 replace h2 := h2.grown hG6.1 (fun e => by cases e)
 replace h5 := h5.grown hG6.1 (fun e => by cases e)
 replace h7 := h7.grown hG6.1 (fun e => by cases e)
 replace h8 := h8.grown hG6.1 (fun e => by cases e)
 replace h9 := h9.grown hG6.1 (fun e => by cases e)
 replace hW := hW.trans (hG6.below hW.size (fun g hg => by cases hg))
 replace hX := hX0.below hW
 rw [List.nil_append] at hO6
 obtain ⟨bs, hbs⟩ : ∃ b, b = w10.heap.size := ⟨_, rfl⟩
 rw [← hbs] at hO6
 have HBS := hid hbs
 clear hbs
 have hsb : bs ≤ w11.heap.size := by rw [HBS.out]; exact hG6.1.size
 clear hG6 hN6
 have hs7 := hW.size
 go_wp2_with (with_reducible refine wpList_load_mid (op := ⟨some 32, .load 22 (.tmp 7), _, _, _, _⟩) rfl 22 (.tmp 7) rfl b7 0 rfl (ints .u8 pub) _ h7.range Tryz.underlying22 rfl (szV inf32 (il HP.out)) ?_)
 refine (rby8_len HP.out).mono ?_
 rintro e w12 ⟨B7, d7, rfl, _, hP7, hb7⟩
 replace h2 := h2.next hb7
 replace h5 := h5.next hb7
 replace h7 := h7.next hb7
 replace h8 := h8.next hb7
 replace h9 := h9.next hb7
 replace hX := hX.below hb7
 have hN7 := hP7.nums
 replace hO6 := hO6.stay hb7
 replace hW := hW.trans (Below.mono hb7 hW.size)
 have hz7 := hb7.size
 clear hP7 hb7
 go_upto_region 8 with (at_builtin; refine app_nums rfl (.tmp 31) (.tmp 33) 23 rfl (bs) 5 .u8 1 Tryz.underlying23 infB3 (by omega) A6_ n6_ c6_ fi rfl hO6 B7 d7 pub rfl hN7 (by have := HI.out; have := HP.out; have := HF.out; have := HX3.out; first | omega | (simp only [List.length_append, List.length_nil]; omega)) (by omega) ?_; intro A7_ n7_ c7_ w13 hO7 hG7)
 have low7 : ∀ g, (Value.slice A6_ n6_ c6_).ownBlock = some g → bs ≤ g := fun g hg => (hO6.lt g hg).1
 replace h2 := h2.grown hG7.1 (fun e => by have := low7 _ e; have := HBS.out; have := HB.out; omega)
 replace h5 := h5.grown hG7.1 (fun e => by have := low7 _ e; have := HBS.out; have := HB.out; omega)
 replace h7 := h7.grown hG7.1 (fun e => by have := low7 _ e; have := HBS.out; have := HB.out; omega)
 replace h8 := h8.grown hG7.1 (fun e => by have := low7 _ e; have := HBS.out; have := HB.out; omega)
 replace h9 := h9.grown hG7.1 (fun e => by have := low7 _ e; have := HBS.out; have := HB.out; omega)
 replace hW := hW.trans (hG7.below hW.size (fun g hg => by have := low7 g hg; have := HBS.out; have := HB.out; omega))
 replace hX := hX0.below hW
 replace hsb := Nat.le_trans hsb (Nat.le_trans hz7 hG7.1.size)
 clear hO6 low7
 clear hG7 hN7
 have hs8 := hW.size
 have low8 : ∀ g, (Value.slice A7_ n7_ c7_).ownBlock = some g → bs ≤ g := fun g hg => (hO7.lt g hg).1
 go_wp2_with (at_builtin; refine app_nums rfl (.tmp 35) (.tmp 36) 23 rfl bs 5 .u8 1 Tryz.underlying23 infB3 (by omega) A7_ n7_ c7_ (fi ++ pub) rfl hO7 A c tx rfl hX (by have := HI.out; have := HP.out; have := HF.out; have := HX3.out; first | omega | (simp only [List.length_append, List.length_nil]; omega)) (by omega) ?_; intro A8_ n8_ c8_ w14 hO8 hG8)
 replace h2 := h2.grown hG8.1 (fun e => by have := low8 _ e; have := HBS.out; have := HB.out; omega)
 replace h5 := h5.grown hG8.1 (fun e => by have := low8 _ e; have := HBS.out; have := HB.out; omega)
 replace h7 := h7.grown hG8.1 (fun e => by have := low8 _ e; have := HBS.out; have := HB.out; omega)
 replace h8 := h8.grown hG8.1 (fun e => by have := low8 _ e; have := HBS.out; have := HB.out; omega)
 replace h9 := h9.grown hG8.1 (fun e => by have := low8 _ e; have := HBS.out; have := HB.out; omega)
 replace hW := hW.trans (hG8.below hW.size (fun g hg => by have := low8 g hg; have := HBS.out; have := HB.out; omega))
 replace hX := hX0.below hW
 rw [List.append_assoc] at hO8
 have hn8 := hO8.len
 have hN8 := hO8.nums
 clear hO7 low8 hG8 hO8
 have s14 := hW.size
 refine rSpec 7 49 (fun i => i == 6) [Is (.agg (ints .u8 rr).toArray), Is (.slice A8_ n8_ c8_), Is (.agg (ints .u8 kk).toArray), Is (.agg (ints .u8 num).toArray), Is (.agg (ints .u8 mu).toArray), Is (.agg (ints .u8 se).toArray), IsZV w14.heap.size (ints .u8 (zeros 32))] [38, 39, 40, 41, 42, 43, 11] (gC (gC (gC (gC (gC (gC (grows_cons (IsZV.grows _ _) grows_nil)))))))
   ⟨step_ldV rfl (.inl rfl) (fun _ hw => (h8.next hw).range) rfl Tryz.underlying22 rfl (szV inf32 (il HR.out)) rfl (kO 8 rfl),
    step_mvP rfl (.inl rfl) rfl rfl (kO 10 rfl),
    step_cw rfl (.inl rfl) rfl cx26 rfl (fun aa ww hw hf hd => ⟨_, (one_arg (kI 1 39 rfl rfl)) aa ww hw hf hd, KN2.out ww A8_ n8_ c8_ hn8 (hN8.below hw)⟩),
    step_ldV rfl (.inl rfl) (fun _ hw => (h5.next hw).range) rfl Tryz.underlying22 rfl (szV inf32 (il HN.out)) rfl (kO 5 rfl),
    step_to rfl (.inl rfl) rfl cx29 kmu rfl (two_args (kI 2 40 rfl rfl) (kI 3 41 rfl rfl)),
    step_to rfl (.inl rfl) rfl cx28 kadd rfl (two_args (kI 0 38 rfl rfl) (kI 4 42 rfl rfl)),
    step_allocV (.inl rfl) inf32 rfl rfl, trivial⟩ ?_
 intro val w15 hw hS hap hla
 obtain ⟨b11, e11, L11, Z11⟩ := hS 6 11 (by decide) rfl
 simp only [pA, pB, pC, pD, pE, Act.put, pG, pH, pI, eVal hS 0 38 rfl rfl, eVal hS 1 39 rfl rfl, eVal hS 2 40 rfl rfl, eVal hS 3 41 rfl rfl, eVal hS 4 42 rfl rfl, eVal hS 5 43 rfl rfl, e11]
 clear hS hap hla e11
 have LL11 := hid (show ((ints .u8 se)).length = 32 from (il HSE.out))
 have R11 := Z11.roomA (us := (ints .u8 se)) (LL11.out.trans (zv .u8 32).symm)
 have h11 := Z11.storedA (us := (ints .u8 se)) (LL11.out.trans (zv .u8 32).symm)
 have hu := Below.setCells hw L11 0 (ints .u8 se).toArray.toList
 replace hX := hX.below hu
 replace h2 := h2.next hu
 replace h5 := h5.next hu
 replace h7 := h7.next hu
 replace h8 := h8.next hu
 replace h9 := h9.next hu
 replace hN8 := hN8.below hu
 replace hW := bT hW hu
 clear hu
 with_reducible refine wpList_store_mid (op := ⟨none, .store 22 (.tmp 11) (.tmp 43), _, _, _, _⟩) rfl 22 (.tmp 11) (.tmp 43) rfl b11 0 (ints .u8 se).toArray rfl rfl R11 (szA inf32 LL11.out) (ints_all _ _) ?_
 generalize (w15.setCells b11 0 (ints .u8 se).toArray.toList) = w16 at *
 clear hw R11 LL11 Z11 L11
 go_wp2_with (fail)
 have s16 := hW.size
 refine region_grow 5 49 (fun i => i == 1 || i == 3 || i == 4) (fun i => if i == 4 then some 1 else none) [Is (.agg (ints .u8 fi).toArray), IsOwn w16.heap.size 5 .u8 fi, Is (.agg (ints .u8 se).toArray), IsOwn w16.heap.size 5 .u8 se, IsOwn w16.heap.size 5 .u8 (fi ++ se)] [44, 45, 46, 47, 48] (by kernel_rfl) (by kernel_rfl) (by kernel_rfl) (by kernel_rfl) (Nat.le_of_eq rfl) ⟨(Is.keeps _ _), (IsOwn.keeps _ _ _ _), (Is.keeps _ _), (IsOwn.keeps _ _ _ _), (IsOwn.keeps _ _ _ _), trivial⟩
   ⟨(step_ldV rfl (.inl rfl) (fun _ hw => (h9.next hw).range) rfl Tryz.underlying22 rfl (szV inf32 (il HF.out)) rfl (kO 9 rfl)).up,
    (step_cO (.inl rfl) (by decide) rfl cx27 rfl (fun aa ww hw hf hd => ⟨_, one_arg (kI 0 44 rfl rfl) aa ww hw hf hd, rby8_walk HF.out⟩)).up,
    (step_ldV rfl (.inl rfl) (fun _ hw => (h11.next hw).range) rfl Tryz.underlying22 rfl (szV inf32 (il HSE.out)) rfl (kO 11 rfl)).up,
    (step_cO (.inl rfl) (by decide) rfl cx27 rfl (fun aa ww hw hf hd => ⟨_, one_arg (kI 2 46 rfl rfl) aa ww hw hf hd, rby8_walk HSE.out⟩)).up,
    step_appG rfl 1 45 (xs := fi) (ys := se) rfl rfl Tryz.underlying23 infB3 (by decide) rfl (by decide) (by kernel_rfl) rfl rfl rfl (by simp only [HF.out, HSE.out]; omega) rfl (((knowsW_in 3 47 (by decide) (by kernel_rfl) rfl rfl) : KnowsW _ _ _ _ _ _ _ _ (IsOwn _ 5 .u8 se)).and fun v w _ ⟨A, c, h, hO⟩ => ⟨A, c, h, by rw [h] at hO; exact hO.nums⟩), trivial⟩ ?_
 intro val w17 hw hS hap hla
 have e44 : val 44 = (.agg (ints .u8 fi).toArray) := hS 0 44 (by decide) (by decide) rfl
 have e46 : val 46 = (.agg (ints .u8 se).toArray) := hS 2 46 (by decide) (by decide) rfl
 obtain ⟨A47, c47, e47, O47⟩ := hS 3 47 (by decide) (by decide) rfl
 rw [e47] at O47
 obtain ⟨A48, c48, e48, O48⟩ := hS 4 48 (by decide) (by decide) rfl
 rw [e48] at O48
 simp only [pA, pB, pC, pD, pE, Act.put, pG, pH, pI, e44, e46, e47, e48]
 generalize val 45 = g45
 clear hS hap hla e44 e46 e47 e48 O47
 replace hX := hX.below hw
 replace h2 := h2.next hw
 replace h5 := h5.next hw
 replace h7 := h7.next hw
 replace h8 := h8.next hw
 replace h9 := h9.next hw
 replace hN8 := hN8.below hw
 replace h11 := h11.next hw
 replace hW := bT hW hw
 clear hw
 go_wp2_with (fail)
 go_ret
 exact ⟨_, _, rfl, Owns.nums O48, hW⟩
end Go.Proofs.YthpibkpljakeeaaGreatDoor
