/- Blocks. -/
import Derived.Test.YtpiamcgienkhaaaDoorCStartM
import Derived.Test.YtpiamcgienkhaaaDoorG8
namespace Go.Proofs.YtpiamcgienkhaaaDoor
open Go Go.RowKit

abbrev z64c : Array Value := #[.int .u8 0, .int .u8 0, .int .u8 0, .int .u8 0, .int .u8 0, .int .u8 0, .int .u8 0, .int .u8 0, .int .u8 0, .int .u8 0, .int .u8 0, .int .u8 0, .int .u8 0, .int .u8 0, .int .u8 0, .int .u8 0, .int .u8 0, .int .u8 0, .int .u8 0, .int .u8 0, .int .u8 0, .int .u8 0, .int .u8 0, .int .u8 0, .int .u8 0, .int .u8 0, .int .u8 0, .int .u8 0, .int .u8 0, .int .u8 0, .int .u8 0, .int .u8 0, .int .u8 0, .int .u8 0, .int .u8 0, .int .u8 0, .int .u8 0, .int .u8 0, .int .u8 0, .int .u8 0, .int .u8 0, .int .u8 0, .int .u8 0, .int .u8 0, .int .u8 0, .int .u8 0, .int .u8 0, .int .u8 0, .int .u8 0, .int .u8 0, .int .u8 0, .int .u8 0, .int .u8 0, .int .u8 0, .int .u8 0, .int .u8 0, .int .u8 0, .int .u8 0, .int .u8 0, .int .u8 0, .int .u8 0, .int .u8 0, .int .u8 0, .int .u8 0]
abbrev z16c : Array Value := #[.int .u32 0, .int .u32 0, .int .u32 0, .int .u32 0, .int .u32 0, .int .u32 0, .int .u32 0, .int .u32 0, .int .u32 0, .int .u32 0, .int .u32 0, .int .u32 0, .int .u32 0, .int .u32 0, .int .u32 0, .int .u32 0]
def z64 : List Int := List.replicate 64 0
set_option maxRecDepth 50000 in
theorem z64_eq : z64c = (ints .u8 z64).toArray := rfl
set_option maxRecDepth 50000 in
theorem z16_eq : z16c = (ints .u32 z16).toArray := rfl
set_option maxRecDepth 50000 in
theorem info22 : (Tryd.prog.info? 22).map (·.size) = some 32 := by kernel_rfl
set_option maxRecDepth 50000 in
theorem info23 : (Tryd.prog.info? 23).map (·.size) = some 12 := by kernel_rfl
set_option maxRecDepth 50000 in
theorem info33 : (Tryd.prog.info? 44).map (fun i => (i.zero, i.size)) = some (some (.agg (ints .u8 z64).toArray), 64) := by kernel_rfl
set_option maxRecDepth 50000 in
theorem wpList_arrP {P : Program} {T e k m c : Nat} (hT : P.underlying T = some (.array k e)) (hk : k ≤ m) {ops : Array Oper} {rest : List Oper} {o : Oper} {a : Act} {w : World} {Q : Exit → Act → World → Prop} (hgd : o.guard = none) (x : Operand) (ho : o.op = .sliceToArrayPointer T x) (A : Option Addr)
    (hx : a.eval x = .slice A m c) (h : wpList P ops Q rest (a.put o.dst (.pointer A)) w) : wpList P ops Q (o :: rest) a w :=
  wpList_plain hgd fun K hK => by
    unfold Oper.wp
    rw [ex_arrP hT hk ho a.eval w hx (fun _ => rfl)]
    exact hK _ _ h
set_option maxRecDepth 50000 in
theorem block_world (key nonce : List Int) (w : World) : ∃ W, W = (((w.alloc (.cells (ints .u8 key).toArray 22)).alloc (.cells (ints .u8 nonce).toArray 23)).alloc (.cells z64c 44)) ∧ Arr W w.heap.size 0 .u8 key ∧ Arr W (w.heap.size + 1) 0 .u8 nonce ∧ Arr W (w.heap.size + 1 + 1) 0 .u8 z64 ∧ Below w.heap.size w W ∧ W.heap.size = w.heap.size + 3 := by
  have a1 := Arr.made w .u8 key 22
  have a2 := Arr.made (w.alloc (.cells (ints .u8 key).toArray 22)) .u8 nonce 23
  have a3 := Arr.made ((w.alloc (.cells (ints .u8 key).toArray 22)).alloc (.cells (ints .u8 nonce).toArray 23)) .u8 z64 44
  simp only [World.size_alloc] at a2 a3
  rw [z64_eq]
  refine ⟨_, rfl, (a1.alloc _).alloc _, a2.alloc _, a3, (((Below.refl _ w).alloc (Nat.le_refl _) _).alloc (by simp) _).alloc (by simp; omega) _, by simp⟩

set_option maxRecDepth 4000 in
set_option maxHeartbeats 2000000 in
theorem block_any (key nonce : List Int) (count : Int) (w : World) (hT : Tabs w) (hk : Hid (key.length = 32)) (hn : Hid (nonce.length = 12)) (hkb : HByt key) (hnb : HByt nonce) (hc : Hid (Wd count)) :
    Calls Tryd.prog 18 #[.agg (ints .u8 key).toArray, .agg (ints .u8 nonce).toArray, .int .u32 count] w fun e w' => e = .returned (.agg (ints .u8 (blockL key nonce count)).toArray) ∧ Below w.heap.size w w' := by
  obtain ⟨W1, hW1, hK, hN, hZ, hB, hsz⟩ := block_world key nonce w
  have HW := hid hW1
  have r3 : (((w.alloc (.cells (ints .u8 key).toArray 22)).alloc (.cells (ints .u8 nonce).toArray 23)).alloc (.cells z64c 44)).rangeAt w.heap.size 0 (ints .u8 key) := by rw [← hW1]; exact hK.range
  have r4 : (((w.alloc (.cells (ints .u8 key).toArray 22)).alloc (.cells (ints .u8 nonce).toArray 23)).alloc (.cells z64c 44)).rangeAt (w.heap.size + 1) 0 (ints .u8 nonce) := by rw [← hW1]; exact hN.range
  have HZ := hid hsz
  have hTW := hT.next hB
  clear hW1 hsz hK hN
  have i22 : (Tryd.prog.info? 22).map (·.size) = some (ints .u8 key).length := by rw [ints_length, hk.out]; exact info22
  have i23 : (Tryd.prog.info? 23).map (·.size) = some (ints .u8 nonce).length := by rw [ints_length, hn.out]; exact info23
  have HSL : Hid ((startL key nonce count).length = 16) := hid (startL_length hk.out hn.out)
  have HSW : Hid (Wds (startL key nonce count)) := hid (startL_wds hkb hnb hc.out)
  obtain ⟨sl, hsl⟩ : ∃ s, startL key nonce count = s := ⟨_, rfl⟩
  have HS := hid hsl
  rw [hsl] at HSL HSW
  clear hsl
  go_enter Tryd.func18, Tryd.ntmps18
  go_wp2_with (first
    | (with_reducible refine wpList_load_mid (op := ⟨some 11, .load 22 (.tmp 3), _, _, _, _⟩) rfl 22 (.tmp 3) rfl w.heap.size 0 rfl (ints .u8 key) _ r3 Tryd.underlying22 rfl i22 ?_)
    | (with_reducible refine wpList_load_mid (op := ⟨some 12, .load 23 (.tmp 4), _, _, _, _⟩) rfl 23 (.tmp 4) rfl (w.heap.size + 1) 0 rfl (ints .u8 nonce) _ r4 Tryd.underlying23 rfl i23 ?_)
    | (go_at_call 26; rw [← HW.out]; clear r3 r4; refine (start_any key nonce count _ hk hn hkb hnb).mono ?_; rintro e w2 ⟨rfl, hb2⟩
       rw [HS.out]
       have s2 := hb2.size
       have hZ2 := hZ.below hb2 (by rw [HZ.out]; omega)
       have hB2 := hB.trans (hb2.mono hB.size)
       have hT2 := hTW.next hb2
       have t7 : (w2.alloc (.cells z16c 55)).there w2.heap.size 0 (ints .u32 sl).toArray.size := by
         have := (Arr.made w2 .u32 z16 55).there
         have e : (ints .u32 sl).toArray.size = z16.length := by simp [HSL.out, z16]
         rw [e, z16_eq]; exact this
       have i51 := szA info51 (il (k := .u32) HSL.out))
    | (with_reducible refine wpList_store_mid (op := ⟨none, .store 55 (.tmp 7) (.tmp 14), _, _, _, _⟩) rfl 55 (.tmp 7) (.tmp 14) rfl w2.heap.size 0 (ints .u32 sl).toArray rfl rfl t7 i51 (ints_all _ _) ?_
       have h7 : Arr ((w2.alloc (.cells z16c 55)).setCells w2.heap.size 0 (ints .u32 sl).toArray.toList) w2.heap.size 0 .u32 sl := (Arr.made w2 .u32 z16 55).all (by rw [HSL.out]; rfl)
       have hB3 : Below w2.heap.size w2 ((w2.alloc (.cells z16c 55)).setCells w2.heap.size 0 (ints .u32 sl).toArray.toList) := Below.setCells ((Below.refl _ _).alloc (Nat.le_refl _) _) (Nat.le_refl _) _ _
       have z3 : ((w2.alloc (.cells z16c 55)).setCells w2.heap.size 0 (ints .u32 sl).toArray.toList).heap.size = w2.heap.size + 1 := by rw [setCells_size]; simp
       have hZ3 := hZ2.below hB3 (by rw [HZ.out] at s2; omega)
       have hBw := hB2.trans (hB3.mono hB2.size)
       have hT3 := hT2.next hB3
       generalize (w2.alloc (.cells z16c 55)).setCells w2.heap.size 0 (ints .u32 sl).toArray.toList = w3 at *
       have b7l : w2.heap.size < w3.heap.size := by omega
       have b7z : w.heap.size + 1 + 1 < w2.heap.size := by rw [HZ.out] at s2; omega
       clear z3 t7 hZ2 hB2 hT2 hB3 hb2 s2 hZ hTW hB
       generalize w2.heap.size = b7 at *
       have G7 := h7.range
       have i51r : (Tryd.prog.info? 55).map (·.size) = some (ints .u32 sl).length := szV info51 (il (k := .u32) HSL.out)
       have t8 : (w3.alloc (.cells z16c 55)).there w3.heap.size 0 (ints .u32 sl).toArray.size := by
         have := (Arr.made w3 .u32 z16 55).there
         have e : (ints .u32 sl).toArray.size = z16.length := by simp [HSL.out, z16]
         rw [e, z16_eq]; exact this)
    | (with_reducible refine wpList_load_mid (op := ⟨some 15, .load 55 (.tmp 7), _, _, _, _⟩) rfl 55 (.tmp 7) rfl b7 0 rfl (ints .u32 sl) _ G7 Tryd.underlying55 rfl i51r ?_)
    | (with_reducible refine wpList_store_mid (op := ⟨none, .store 55 (.tmp 8) (.tmp 15), _, _, _, _⟩) rfl 55 (.tmp 8) (.tmp 15) rfl w3.heap.size 0 (ints .u32 sl).toArray rfl rfl t8 i51 (ints_all _ _) ?_
       have h8 : Arr ((w3.alloc (.cells z16c 55)).setCells w3.heap.size 0 (ints .u32 sl).toArray.toList) w3.heap.size 0 .u32 sl := (Arr.made w3 .u32 z16 55).all (by rw [HSL.out]; rfl)
       have hB3 : Below w3.heap.size w3 ((w3.alloc (.cells z16c 55)).setCells w3.heap.size 0 (ints .u32 sl).toArray.toList) := Below.setCells ((Below.refl _ _).alloc (Nat.le_refl _) _) (Nat.le_refl _) _ _
       have z3 : ((w3.alloc (.cells z16c 55)).setCells w3.heap.size 0 (ints .u32 sl).toArray.toList).heap.size = w3.heap.size + 1 := by rw [setCells_size]; simp
       have hZ4 := hZ3.below hB3 (by omega)
       have h74 := h7.below hB3 b7l
       have hB4 := hBw.trans (hB3.mono hBw.size)
       have hT4 := hT3.next hB3
       generalize (w3.alloc (.cells z16c 55)).setCells w3.heap.size 0 (ints .u32 sl).toArray.toList = w4 at *
       have b78 : b7 ≠ w3.heap.size := by omega
       have b8z : w.heap.size + 1 + 1 < w3.heap.size := by omega
       have b8w : w.heap.size ≤ w3.heap.size := by omega
       have b80 : 0 < w3.heap.size := by omega
       have hl4 : w3.heap.size < w4.heap.size := by omega
       clear z3 t8 hZ3 hBw hT3 hB3 G7 h7 b7l
       generalize w3.heap.size = b8 at *))
  go_loopw [16] (fun i wr => ∃ k : Nat, k ≤ 10 ∧ i = .int .i64 k ∧ Arr wr b8 0 .u32 (rk sl k) ∧ Only b8 w4 wr) (fun i _ => 10 - (intOf i).toNat)
  case atStart => exact ⟨0, by omega, rfl, h8, Only.refl _ _⟩
  case round =>
    obtain ⟨k, hk10, rfl, hA, hO⟩ := hrel
    by_cases hlt : k < 10
    · have hlt' : (k : Int) < 10 := by omega
      have hl16 : Hid ((rk sl k).length = 16) := hid (by rw [rk_length]; exact HSL.out)
      have hwk : Hid (Wds (rk sl k)) := hid (rk_wds HSW.out k)
      have hTr := hT4.only hO b80
      go_wp2_with (go_at_call 27; refine (mix_any b8 (rk sl k) _ hTr b80 hl16 hwk hA).mono ?_; rintro e w5 ⟨rfl, hA5, hO5⟩)
      go_roundw
      case rel => exact ⟨k + 1, by omega, by go_num, hA5, hO.trans hO5⟩
      case measure => simp [intOf]; omega
    · have e : k = 10 := by omega
      subst e
      have h7r := h74.only hO b78
      have hZr := hZ4.only hO (by omega)
      have hBr : Below w.heap.size w wr := hB4.trans (hO.below b8w hB4.size)
      have hlr : b8 < wr.heap.size := Nat.lt_of_lt_of_le hl4 hO.size
      obtain ⟨rl, hrl⟩ : ∃ r, rk sl 10 = r := ⟨_, rfl⟩
      have HRL := hid hrl
      rw [hrl] at hA
      have hrlen : Hid (rl.length = 16) := hid (by rw [← hrl, rk_length]; exact HSL.out)
      have hrw : Hid (Wds rl) := hid (by rw [← hrl]; exact rk_wds HSW.out 10)
      clear hO h74 hZ4 hB4 hT4 hrl
      generalize wr = wa at *
      have G7 := h7r.range
      go_wp2_with (with_reducible refine wpList_load_mid (op := ⟨some 20, .load 55 (.tmp 7), _, _, _, _⟩) rfl 55 (.tmp 7) rfl b7 0 rfl (ints .u32 sl) _ G7 Tryd.underlying55 rfl i51r ?_)
      go_loopw [21] (fun i wq => ∃ k : Nat, k ≤ 16 ∧ i = .int .i64 k ∧ Arr wq b8 0 .u32 (sumK rl sl k) ∧ Only b8 wa wq) (fun i _ => 16 - (intOf i).toNat)
      case atStart => exact ⟨0, by omega, rfl, by rw [sumK_zero]; exact hA, Only.refl _ _⟩
      case round =>
        obtain ⟨k, hk16, rfl, hA2, hO2⟩ := hrel
        by_cases hlt2 : k < 16
        · have hlt' : (k : Int) < 16 := by omega
          have hpos : (0 : Int) ≤ k := by omega
          obtain ⟨x, hx⟩ : ∃ x, sl[k]? = some x := ⟨sl[k]'(by have := HSL.out; omega), by simp [HSL.out, hlt2]⟩
          obtain ⟨y, hy⟩ : ∃ y, rl[k]? = some y := ⟨rl[k]'(by have := hrlen.out; omega), by simp [hrlen.out, hlt2]⟩
          have hix := fun W : World => run_index_row (P := Tryd.prog) (w := W) 55 42 16 (ints .u32 sl) .i64 k (.int .u32 x) _ Tryd.underlying55 Tryd.underlying42 rfl info24s hlt2 (by simp [ints, hx])
          have hyk : (sumK rl sl k)[k]? = some y := by rw [sumK_at _ _ _ (by rw [hrlen.out]; exact hlt2), if_neg (by omega)]; simp [List.getD, hy]
          have hcc := hA2.at_ hyk
          have hff := hA2.free (i := k) (by rw [sumK_length, hrlen.out]; exact hlt2)
          rw [Nat.zero_add] at hcc hff
          have hset : (sumK rl sl k).set k ((y + x) % 4294967296) = sumK rl sl (k + 1) := by
            have := sumK_set rl sl (k := k) (by rw [hrlen.out]; exact hlt2)
            simp only [List.getD_eq_getElem?_getD, hx, hy, Option.getD_some] at this
            exact this
          have HSET := hid hset
          clear hset hyk hx hy
          go_wp2
          go_roundw
          case rel =>
            have h := hA2.set k ((y + x) % 4294967296)
            rw [HSET.out, Nat.zero_add] at h
            exact ⟨k + 1, by omega, by go_num, h, hO2.setCell (.inl rfl) _⟩
          case measure => simp [intOf]; omega
        · have e : k = 16 := by omega
          subst e
          have hlw : (sumK rl sl 16).length = 16 := by rw [sumK_length]; exact hrlen.out
          have HB : Hid (splitB false 4 (sumK rl sl 16) = blockL key nonce count) := hid (by
            show _ = splitB false 4 (words key nonce count)
            have e : words key nonce count = sumK (rk (startL key nonce count) 10) (startL key nonce count) 16 := rfl
            rw [e, HS.out, HRL.out])
          have hZq := hZr.only hO2 (by omega)
          have hBq := hBr.trans (hO2.below b8w hBr.size)
          have hZl : w.heap.size + 1 + 1 < wr.heap.size := Nat.lt_of_lt_of_le (Nat.lt_trans b8z hlr) hO2.size
          clear hA hBr hZr h7r hO2 G7
          go_wp2_with (first
            | (go_at_call 28; refine (wBytes16 _ _ (sumK rl sl 16) _ hlw hA2.nums).mono ?_; rintro e w6 ⟨g, f, d, ys, rfl, HY, HYL, hR, hb6⟩
               have hZ6 := hZq.below hb6 hZl
               have hB6 := hBq.trans (hb6.mono hBq.size)
               have i33 : (Tryd.prog.info? 44).map (·.size) = some (ints .u8 ys).length := szV info33 (il HYL.out)
               have i33a := szA info33 (il (k := .u8) HYL.out)
               have t6 : w6.there (w.heap.size + 1 + 1) 0 (ints .u8 ys).toArray.size := by
                 have := hZ6.there
                 have e : (ints .u8 ys).toArray.size = z64.length := by simp [HYL.out, z64]
                 rw [e]; exact this)
            | (with_reducible refine wpList_arrP (o := ⟨some 34, .sliceToArrayPointer 44 (.tmp 33), _, _, _, _⟩) Tryd.underlying44 (Nat.le_refl 64) rfl (.tmp 33) rfl (some ⟨g, f, none⟩) (c := d) rfl ?_)
            | (with_reducible refine wpList_load_mid (op := ⟨some 35, .load 44 (.tmp 34), _, _, _, _⟩) rfl 44 (.tmp 34) rfl g f rfl (ints .u8 ys) _ hR Tryd.underlying44 rfl i33 ?_)
            | (with_reducible refine wpList_store_mid (op := ⟨none, .store 44 (.tmp 6) (.tmp 35), _, _, _, _⟩) rfl 44 (.tmp 6) (.tmp 35) rfl (w.heap.size + 1 + 1) 0 (ints .u8 ys).toArray rfl rfl t6 i33a (ints_all _ _) ?_))
          have hZ7 := hZ6.all (ys := ys) (by rw [HYL.out]; rfl)
          (try simp only [Exit.inBlock, Exit.then])
          refine ret_rows rfl (w.heap.size + 1 + 1) 0 rfl (ints .u8 ys) _ hZ7.range Tryd.underlying44 rfl i33 rfl ?_
          exact ⟨by rw [HY.out, HB.out], Below.setCells hB6 (by omega) 0 _⟩
end Go.Proofs.YtpiamcgienkhaaaDoor
