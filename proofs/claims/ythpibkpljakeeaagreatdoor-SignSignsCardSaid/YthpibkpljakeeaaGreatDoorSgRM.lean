import Derived.Test.YthpibkpljakeeaaGreatDoorG7
import Derived.Test.YthpibkpljakeeaaGreatDoorG21
import Derived.Test.YthpibkpljakeeaaGreatDoorG18
import Derived.Test.YthpibkpljakeeaaGreatDoorG23
import Derived.Test.YthpibkpljakeeaaGreatDoorG6
import Derived.Test.YthpibkpljakeeaaGreatDoorG22
namespace Go.Proofs.YthpibkpljakeeaaGreatDoor
set_option maxHeartbeats 8000000
set_option maxRecDepth 8000
open Go Go.RowKit
theorem rlist_walk {xs : List Int} {w : World} (hl : xs.length = 64) : Calls Tryz.prog 59 #[.agg (ints .u8 xs).toArray] w fun e w' => ∃ A c, e = .returned (.slice A 64 c) ∧ NumsF w.heap.size w' .u8 A xs ∧ 64 ≤ c ∧ Below w.heap.size w w' := by
 have HL := hid hl
 have hN := Arr.made w .u8 xs 29
 have hW := below_new w (.cells (ints .u8 xs).toArray 29)
 clear hl
 go_enter Tryz.func59, Tryz.ntmps59
 go_wp2
 generalize w.alloc (.cells (ints .u8 xs).toArray 29) = W0 at *
 go_loopw [3, 4] (fun v i wr => ∃ (k : Nat) (R : Option Addr) (n c : Nat), k ≤ 64 ∧ v = .slice R n c ∧ i = .int .i64 (k : Int) ∧ Owns wr w.heap.size 5 .u8 (.slice R n c) (xs.take k) ∧ Hid ((Value.slice R n c).ownBlock ≠ some w.heap.size) ∧ Arr wr w.heap.size 0 .u8 xs ∧ Below w.heap.size w wr) (fun _ i _ => 64 - (intOf i).toNat)
 case atStart => exact ⟨0, none, 0, 0, Nat.zero_le _, rfl, rfl, Owns.none_ _ _ _ _, hid (by intro e; cases e), hN, hW⟩
 case round =>
   clear hN hW
   obtain ⟨k, R, n, c, hk, rfl, rfl, hO, HF, hN, hW⟩ := hrel
   rename World => W1
   have hsz := hW.size
   by_cases hlt : k < 64
   · obtain ⟨x, cx, fx, HX⟩ := hN.spot (i := k) (by rw [HL.out]; omega)
     rw [Nat.zero_add] at cx
     have HT : Hid (xs.take (k + 1) = xs.take k ++ [x]) := hid (by rw [List.take_add_one, HX.out]; rfl)
     have HTL : Hid ((xs.take k).length ≤ 64) := hid (by rw [List.length_take]; omega)
     have hlb := hN.lt (by rw [HL.out]; omega)
     have k0 : (0 : Int) ≤ k := by omega
     have k64 : (k : Int) < 64 := by omega
     have HW5 : Hid (∀ A' n' c' w2, Grew W1 w2 (Value.slice R n c) (Value.slice A' n' c') → Below w.heap.size w w2) := hid fun A' n' c' w2 hG => hW.trans (hG.below hsz (fun g hg => (hO.lt g hg).1))
     clear fx
     go_wp2_with (at_builtin; refine app_oneG rfl (.tmp 9) (.tmp 13) 23 rfl w.heap.size 5 .u8 1 Tryz.underlying23 infB3 (by omega) R n c (xs.take k) rfl hO _ 1 rfl (by have := HTL.out; omega) hsz ?_; intro A' n' c' w2 hO2 hG2)
     go_roundw
     case rel =>
       rw [← HT.out] at hO2
       exact ⟨k + 1, A', n', c', by omega, rfl, by go_num, hO2, hid (hG2.far HF.out hlb), Arr.grew hN hG2 HF.out hlb, HW5.out _ _ _ _ hG2⟩
     case measure => simp [intOf]; omega
   · have e : k = 64 := by omega
     subst e
     have hf : xs.take 64 = xs := List.take_of_length_le (by rw [HL.out]; omega)
     rw [hf] at hO
     have hm := hO.len
     rw [HL.out] at hm
     subst hm
     have hF := hO.fresh
     have hcap : 64 ≤ c := by
       rcases hO.2 with ⟨_, h0⟩ | ⟨g, cap, cur, hv, _, _, hle, _⟩
       · rw [HL.out] at h0; omega
       · injection hv with _ _ h3
         rw [HL.out] at hle; omega
     clear hf
     go_wp2
     go_ret
     exact ⟨R, c, rfl, hF, hcap, hW⟩
def IsNm (m : Nat) (xs : List Int) : Value → World → Prop := fun v w => ∃ A c, v = .slice A m c ∧ Nums w .u8 A xs
theorem IsNm.grows (m : Nat) (xs : List Int) : Grows (IsNm m xs) := fun _ _ _ ⟨A, c, h1, h2⟩ hb => ⟨A, c, h1, h2.below hb⟩
section
variable {ops : Array Oper} {md : Region.Mode} {W : World} {a0 : Act} {n : Nat} {al : Nat → Bool} {S : Nat → Value → World → Prop} {Q : Exit → Act → World → Prop} {i : Nat} {o : Oper}
theorem step_cR' (hal : al i = false) (hg : GuardOn ops md n S i o) {f : FuncId} {xs : Array Operand} {ts : Array TypeId} {R : Value → World → Prop} (ho : o.op = .call { callee := .value (.func f), args := xs, argTypes := ts }) (hcf : ∀ vs w, (callFunc f vs).run Tryz.prog w = .ok (.enter f vs) w)
   (hS : S i = R) (hv : ∀ (a : Act) (w : World), Cl W w → Fr ops n a0 a → Dp ops md n S i a w → ∃ vs, xs.map a.eval = vs ∧ Calls Tryz.prog f vs w fun e w' => ∃ v, e = .returned v ∧ R v w' ∧ Below w.heap.size w w') : StepOk Tryz.prog ops md W a0 n al S Q i o :=
 step_call hal hg fun a w hw hf hd => by
   obtain ⟨vs, h1, h2⟩ := hv a w hw hf hd
   exact ⟨f, vs, ex_fnP rfl hcf ho vs h1 w, h2.mono fun _ _ ⟨v, he, hr, hb⟩ => ⟨v, he, by rw [hS]; exact hr, hb⟩⟩
end
theorem rnum_core {hs sc : List Int} {A : Option Addr} {m c : Nat} {tx : List Int} (HL : Hid (hs.length = 64)) (HB : Hid (Byt hs)) (HSC : Hid (sc.length = 32)) (HR : Hid (rbytes (bn hs % QN) = sc)) (HS : Hid (∀ w, Nums w .u8 A tx → Calls Tryz.prog 49 #[.slice A m c] w fun e w' => e = .returned (.agg (ints .u8 hs).toArray) ∧ Below w.heap.size w w')) (w : World) (hX : Nums w .u8 A tx) : Calls Tryz.prog 26 #[.slice A m c] w fun e w' => e = .returned (.agg (ints .u8 sc).toArray) ∧ Below w.heap.size w w' := by
 obtain ⟨z2_, s2_⟩ := zero_of_info inf32
 have h2 := Rw.new w (ints .u8 (zeros 32)) 22
 have hW := below_new w (.cells (ints .u8 (zeros 32)).toArray 22)
 replace hX := hX.below hW
 go_enter Tryz.func26, Tryz.ntmps26
 go_upto_region 1 with (fail)
 generalize w.alloc (.cells (ints .u8 (zeros 32)).toArray 22) = w0 at *
 have s0 := hW.size
 refine rSeq 4 7 (fun _ => false) [Is (.slice A m c), Is (.agg (ints .u8 hs).toArray), IsNm 64 hs, Is (.agg (ints .u8 sc).toArray)] [3, 4, 5, 6] (gC (gC (grows_cons (IsNm.grows _ _) (gC grows_nil))))
   ⟨step_mvP rfl (.inl rfl) rfl rfl (kO 0 rfl),
    step_cw rfl (.inl rfl) rfl cx49 rfl (fun aa ww hw hf hd => ⟨_, (one_arg (kI 0 3 rfl rfl)) aa ww hw hf hd, HS.out ww (hX.below hw)⟩),
    step_cR' rfl (.inl rfl) rfl cx59 rfl (fun aa ww hw hf hd => ⟨_, one_arg (kI 1 4 rfl rfl) aa ww hw hf hd, (rlist_walk HL.out).mono fun _ _ ⟨A, c, he, hN, hc, hb⟩ => ⟨_, he, ⟨A, c, rfl, hN.nums⟩, hb⟩⟩),
    step_cw rfl (.inl rfl) rfl cx58 rfl (fun aa ww hw hf hd => by
      obtain ⟨A, c, e, hN⟩ := ((knowsW_in 2 5 (by decide) (by kernel_rfl) rfl rfl) : KnowsW _ _ _ _ _ _ _ _ (IsNm 64 hs)) aa ww hw hf hd
      have h := rofq_walk A 64 c hs ww HL.out (by omega) HB.out hN
      rw [HR.out] at h
      exact ⟨_, by rw [map1, e], h⟩), trivial⟩ ?_
 intro val w1 hw hS hap hla
 have e3 := eVal hS 0 3 rfl rfl
 have e4 := eVal hS 1 4 rfl rfl
 have e6 := eVal hS 3 6 rfl rfl
 simp only [pA, pB, pC, pD, pE, Act.put, pG, pH, pI, e3, e4, e6]
 generalize val 5 = g5
 clear hS hap hla e3 e4 e6
 have LL2 := hid (show ((ints .u8 sc)).length = 32 from (il HSC.out))
 have Y2 := h2.next hw
 have R2 := Y2.roomA (us := (ints .u8 sc)) (LL2.out.trans (il (zeros_len 32)).symm)
 have X2 := Y2.storedA (us := (ints .u8 sc)) (LL2.out.trans (il (zeros_len 32)).symm)
 replace hX := hX.below hw
 replace h2 := h2.next hw
 replace hW := bT hW hw
 with_reducible refine wpList_store_mid (op := ⟨none, .store 22 (.tmp 2) (.tmp 6), _, _, _, _⟩) rfl 22 (.tmp 2) (.tmp 6) rfl w.heap.size 0 (ints .u8 sc).toArray rfl rfl R2 (szA inf32 LL2.out) (ints_all _ _) ?_
 replace hW := Below.setCells hW (g := w.heap.size) (by omega) 0 (ints .u8 sc).toArray.toList
 generalize (w1.setCells w.heap.size 0 (ints .u8 sc).toArray.toList) = w2 at *
 clear hw R2 LL2 Y2
 go_wp2_with (fail)
 exact ret_rows rfl w.heap.size 0 rfl (ints .u8 sc) _ X2.range Tryz.underlying22 rfl (szV inf32 (il HSC.out)) rfl ⟨rfl, hW⟩
theorem rnum_any {tx : List Int} {A : Option Addr} {m c : Nat} (hl : tx.length = m) (hm : m ≤ 1000) (hb : Byt tx) (w : World) (hX : Nums w .u8 A tx) : Calls Tryz.prog 26 #[.slice A m c] w fun e w' => e = .returned (.agg (ints .u8 (scal tx)).toArray) ∧ Below w.heap.size w w' := by
 subst hl
 exact rnum_core (tx := tx) (hs := hash tx) (hid (hash_len tx)) (hid (hash_byt tx)) (hid (scal_len tx)) (hid rfl) (hid fun w hX => (rsum_any A c tx w hm hb hX).mono fun e w' ⟨ys, he, hy, _, hb⟩ => ⟨by rw [he, hy.out], hb⟩) w hX
end Go.Proofs.YthpibkpljakeeaaGreatDoor
