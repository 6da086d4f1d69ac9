/- The package's function Mul. -/
import Derived.Test.YtpaopdjbhmdfjaaDoorPArithM
namespace Go.Proofs.YtpaopdjbhmdfjaaDoor
open Go Go.RowKit

theorem choose_any {l m : List Int} {P Q : Edw.Pt NT.PN} (h : PR l P) (k : PR m Q) (st : Bool) : CallsTo 51 #[.agg (ints .i64 l).toArray, .agg (ints .i64 m).toArray, .bool st] (.agg (ints .i64 (if st then m else l)).toArray) := by
  obtain ⟨c, h1, _⟩ := h
  obtain ⟨c', k1, _⟩ := k
  cases st with
  | true => exact choose_yes h1 k1
  | false => exact choose_no h1 k1
theorem mulS_step {l : List Int} {N k : Nat} : mulS l N (k + 1) = if bitN N (255 - k) then sumL (sumL (mulS l N k) (mulS l N k)) l else sumL (mulS l N k) (mulS l N k) := rfl

set_option maxRecDepth 4000 in
set_option maxHeartbeats 8000000 in
theorem pmul_none {l nb : List Int} (hl : l.length = 64) (ln : nb.length = 32) (kex : CallsTo 44 #[.agg (ints .i64 l).toArray] (.bool false)) : CallsTo 12 #[.agg (ints .i64 l).toArray, .agg (ints .u8 nb).toArray] (.agg (ints .i64 (zeros 64)).toArray) := by
  intro W
  obtain ⟨z28, s28⟩ := zero_of_info inf28
  have h2 := ((B4.new W l hl).next (below_new _ (.cells (ints .u8 nb).toArray 22))).next (below_new _ (.cells (ints .i64 (zeros 64)).toArray 28))
  have h3 := (By.new (W.alloc (.cells (ints .i64 l).toArray 28)) nb ln).next (below_new _ (.cells (ints .i64 (zeros 64)).toArray 28))
  have h4 := B4.new ((W.alloc (.cells (ints .i64 l).toArray 28)).alloc (.cells (ints .u8 nb).toArray 22)) (zeros 64) (zeros_len 64)
  have hW := ((below_new W (.cells (ints .i64 l).toArray 28)).alloc (by simp) (.cells (ints .u8 nb).toArray 22)).alloc (by simp; omega) (.cells (ints .i64 (zeros 64)).toArray 28)
  simp only [World.size_alloc] at h3 h4
  go_enter Tryd.func12, Tryd.ntmps12
  go_upto_region 1 with (fail)
  generalize ((W.alloc (.cells (ints .i64 l).toArray 28)).alloc (.cells (ints .u8 nb).toArray 22)).alloc (.cells (ints .i64 (zeros 64)).toArray 28) = w0 at *
  have s0 := hW.size
  refine region_seq2 3 34 (fun _ => false) [Is (.agg (ints .i64 l).toArray), Is (.bool false), Is (.bool true)] [7, 8, 9] (by kernel_rfl) (by kernel_rfl) (Nat.le_of_eq rfl) (grows_cons (Is.grows _) (grows_cons (Is.grows _) (grows_cons (Is.grows _) grows_nil)))
    ⟨step_pt rfl (.inl rfl) h2 2 rfl (by kernel_rfl) rfl rfl,
     step_to rfl (.inl rfl) rfl cg44 kex rfl (one_arg (knows_in 0 7 (by decide) (by kernel_rfl) rfl rfl)),
     step_not rfl (.inl rfl) (b := false) rfl rfl (knows_in 1 8 (by decide) (by kernel_rfl) rfl rfl), trivial⟩ ?_
  intro val w1 hw hS hap hla
  have e7 : val 7 = (.agg (ints .i64 l).toArray) := hS 0 7 (by decide) rfl
  have e8 : val 8 = (.bool false) := hS 1 8 (by decide) rfl
  have e9 : val 9 = (.bool true) := hS 2 9 (by decide) rfl
  simp only [putVals, List.foldl_cons, List.foldl_nil, List.drop_succ_cons, List.drop_zero, Act.put, List.setIfInBounds_toArray, List.set_cons_succ, List.set_cons_zero, e7, e8, e9]
  clear hS hap hla e7 e8 e9
  replace h2 := h2.next hw
  replace h3 := h3.next hw
  replace h4 := h4.next hw
  replace hW := hW.trans (Below.mono hw hW.size)
  clear hw
  go_upto_region 2 with (fail)
  have s1 := hW.size
  refine region_seq2 1 34 (fun _ => false) [Is (.agg (ints .i64 (zeros 64)).toArray)] [10] (by kernel_rfl) (by kernel_rfl) (Nat.le_of_eq rfl) (grows_cons (Is.grows _) grows_nil)
    ⟨step_none28 rfl (.inl rfl) rfl rfl, trivial⟩ ?_
  intro val w2 hw hS hap hla
  have e10 : val 10 = (.agg (ints .i64 (zeros 64)).toArray) := hS 0 10 (by decide) rfl
  simp only [putVals, List.foldl_cons, List.foldl_nil, List.drop_succ_cons, List.drop_zero, Act.put, List.setIfInBounds_toArray, List.set_cons_succ, List.set_cons_zero, e10]
  clear hS hap hla e10
  have LL4 := hid (zeros_len 64)
  have Y4 := h4.next hw
  have R4 := Y4.room (l' := (zeros 64)) (zeros_len 64)
  have h9 := Y4.stored (l' := (zeros 64)) (zeros_len 64)
  replace h2 := h2.next hw
  replace h3 := h3.next hw
  replace h4 := h4.next hw
  replace hW := hW.trans (Below.mono hw hW.size)
  with_reducible refine wpList_store_mid (op := ⟨none, .store 28 (.tmp 4) (.tmp 10), _, _, _, _⟩) rfl 28 (.tmp 4) (.tmp 10) rfl (W.heap.size + 1 + 1) 0 (ints .i64 (zeros 64)).toArray rfl rfl R4 (a28 LL4.out) (ints_all _ _) ?_
  replace hW := Below.setCells hW (g := (W.heap.size + 1 + 1)) (by omega) 0 (ints .i64 (zeros 64)).toArray.toList
  generalize (w2.setCells (W.heap.size + 1 + 1) 0 (ints .i64 (zeros 64)).toArray.toList) = w3 at *
  clear hw R4 LL4 Y4 
  go_wp2_with (fail)
  exact ret_rows rfl (W.heap.size + 1 + 1) 0 rfl (ints .i64 (zeros 64)) _ h9.range Tryd.underlying28 rfl (l28 (zeros_len 64)) rfl ⟨rfl, hW⟩
set_option maxRecDepth 4000 in
set_option maxHeartbeats 8000000 in
theorem pmul_core {l nb : List Int} {P : Edw.Pt NT.PN} {N : Nat} (hl : l.length = 64) (ln : nb.length = 32) (hb : Hid (Byt nb)) (hN : Hid ((bv nb).toNat = N)) (hP : Hid (PR l P)) (HPR : Hid (∀ k, k ≤ 256 → ∃ Q, PR (mulS l N k) Q)) (hnl : nouL.length = 64) (knou : CallsTo 29 #[] (.agg (ints .i64 nouL).toArray)) (kex : CallsTo 44 #[.agg (ints .i64 l).toArray] (.bool true)) : CallsT 12 #[.agg (ints .i64 l).toArray, .agg (ints .u8 nb).toArray] (.agg (ints .i64 (mulS l N 256)).toArray) := by
  intro W hT
  obtain ⟨z28, s28⟩ := zero_of_info inf28
  have h2 := ((B4.new W l hl).next (below_new _ (.cells (ints .u8 nb).toArray 22))).next (below_new _ (.cells (ints .i64 (zeros 64)).toArray 28))
  have h3 := (By.new (W.alloc (.cells (ints .i64 l).toArray 28)) nb ln).next (below_new _ (.cells (ints .i64 (zeros 64)).toArray 28))
  have h4 := B4.new ((W.alloc (.cells (ints .i64 l).toArray 28)).alloc (.cells (ints .u8 nb).toArray 22)) (zeros 64) (zeros_len 64)
  have hW := ((below_new W (.cells (ints .i64 l).toArray 28)).alloc (by simp) (.cells (ints .u8 nb).toArray 22)).alloc (by simp; omega) (.cells (ints .i64 (zeros 64)).toArray 28)
  have hT0 := hT
  replace hT := (((hT.alloc (.cells (ints .i64 l).toArray 28)).alloc (.cells (ints .u8 nb).toArray 22)).alloc (.cells (ints .i64 (zeros 64)).toArray 28))
  simp only [World.size_alloc] at h3 h4
  go_enter Tryd.func12, Tryd.ntmps12
  go_upto_region 1 with (fail)
  generalize ((W.alloc (.cells (ints .i64 l).toArray 28)).alloc (.cells (ints .u8 nb).toArray 22)).alloc (.cells (ints .i64 (zeros 64)).toArray 28) = w0 at *
  have s0 := hW.size
  refine region_seq2 3 34 (fun _ => false) [Is (.agg (ints .i64 l).toArray), Is (.bool true), Is (.bool false)] [7, 8, 9] (by kernel_rfl) (by kernel_rfl) (Nat.le_of_eq rfl) (grows_cons (Is.grows _) (grows_cons (Is.grows _) (grows_cons (Is.grows _) grows_nil)))
    ⟨step_pt rfl (.inl rfl) h2 2 rfl (by kernel_rfl) rfl rfl,
     step_to rfl (.inl rfl) rfl cg44 kex rfl (one_arg (knows_in 0 7 (by decide) (by kernel_rfl) rfl rfl)),
     step_not rfl (.inl rfl) (b := true) rfl rfl (knows_in 1 8 (by decide) (by kernel_rfl) rfl rfl), trivial⟩ ?_
  intro val w1 hw hS hap hla
  have e7 : val 7 = (.agg (ints .i64 l).toArray) := hS 0 7 (by decide) rfl
  have e8 : val 8 = (.bool true) := hS 1 8 (by decide) rfl
  have e9 : val 9 = (.bool false) := hS 2 9 (by decide) rfl
  simp only [putVals, List.foldl_cons, List.foldl_nil, List.drop_succ_cons, List.drop_zero, Act.put, List.setIfInBounds_toArray, List.set_cons_succ, List.set_cons_zero, e7, e8, e9]
  clear hS hap hla e7 e8 e9
  replace hT := hT.next hw
  replace h2 := h2.next hw
  replace h3 := h3.next hw
  replace h4 := h4.next hw
  replace hW := hW.trans (Below.mono hw hW.size)
  clear hw
  go_upto_region 3 with (fail)
  have lt4 := h4.lt
  have s1 := hW.size
  refine region_seq2 2 34 (fun i => i == 1) [Is (.agg (ints .i64 nouL).toArray), IsZ4 w1.heap.size] [11, 5] (by kernel_rfl) (by kernel_rfl) (Nat.le_of_eq rfl) (grows_cons (Is.grows _) (grows_cons (IsZ4.grows _) grows_nil))
    ⟨step_to rfl (.inl rfl) rfl cg29 knou rfl (no_args),
     step_alloc28 (.inl rfl) rfl rfl, trivial⟩ ?_
  intro val w2 hw hS hap hla
  have e11 : val 11 = (.agg (ints .i64 nouL).toArray) := hS 0 11 (by decide) rfl
  obtain ⟨b5, e5, L5, Z5⟩ := hS 1 5 (by decide) rfl
  simp only [putVals, List.foldl_cons, List.foldl_nil, List.drop_succ_cons, List.drop_zero, Act.put, List.setIfInBounds_toArray, List.set_cons_succ, List.set_cons_zero, e11, e5]
  clear hS hap hla e11 e5
  have LL5 := hid hnl
  have R5 := Z5.room (l' := nouL) hnl
  have hB5 := Z5.stored (l' := nouL) hnl
  replace hT := hT.next (Below.setCells hw L5 0 (ints .i64 nouL).toArray.toList)
  replace h2 := h2.next (Below.setCells hw L5 0 (ints .i64 nouL).toArray.toList)
  replace h3 := h3.next (Below.setCells hw L5 0 (ints .i64 nouL).toArray.toList)
  replace h4 := h4.next (Below.setCells hw L5 0 (ints .i64 nouL).toArray.toList)
  replace hW := hW.trans (Below.mono (Below.setCells hw L5 0 (ints .i64 nouL).toArray.toList) hW.size)
  with_reducible refine wpList_store_mid (op := ⟨none, .store 28 (.tmp 5) (.tmp 11), _, _, _, _⟩) rfl 28 (.tmp 5) (.tmp 11) rfl b5 0 (ints .i64 nouL).toArray rfl rfl R5 (a28 LL5.out) (ints_all _ _) ?_
  generalize (w2.setCells b5 0 (ints .i64 nouL).toArray.toList) = w3 at *
  clear hw R5 LL5 Z5 
  have n45 : b5 ≠ W.heap.size + 1 + 1 := by omega
  have n35 : b5 ≠ W.heap.size + 1 := by omega
  have n25 : b5 ≠ W.heap.size := by omega
  have w5_ : W.heap.size ≤ b5 := by omega
  have HL := hid hl
  have HLN := hid ln
  have HS0 : Hid (nouL = mulS l N 0) := hid rfl
  rw [HS0.out] at hB5
  clear L5 lt4 hl ln kex knou hnl hT
  go_wp2_with (fail)
  go_loopw [6] (fun i wr => ∃ (k : Nat) (b : Int), k ≤ 256 ∧ i = .int .i64 b ∧ Hid (b = 255 - k) ∧ B4 wr W.heap.size l ∧ By wr (W.heap.size + 1) nb ∧ B4 wr (W.heap.size + 1 + 1) (zeros 64) ∧ B4 wr b5 (mulS l N k) ∧ Below W.heap.size W wr) (fun i _ => (intOf i + 1).toNat)
  case atStart => exact ⟨0, 255, by omega, rfl, hid rfl, h2, h3, h4, hB5, hW⟩
  case round =>
    clear h2 h3 h4 hB5 hW
    obtain ⟨k, b, hk, rfl, HBK, h2, h3, h4, hB5, hW⟩ := hrel
    rename World => w40
    by_cases hlt : k < 256
    · obtain ⟨m, rfl⟩ : ∃ m : Nat, b = m := ⟨(255 - k : Nat), by have := HBK.out; omega⟩
      have HMK : Hid (255 - k = m) := hid (by have := HBK.out; omega)
      have hm : m < 65536 := by have := HBK.out; omega
      have hm2 : m ≤ 255 := by have := HBK.out; omega
      have m0 : (0 : Int) ≤ m := by omega
      obtain ⟨q, hq⟩ : ∃ q, m / 8 = q := ⟨_, rfl⟩
      obtain ⟨r, hr⟩ : ∃ r, m % 8 = r := ⟨_, rfl⟩
      have q32 : q < 32 := by omega
      have r8 : r < 8 := by omega
      have hl := HL.out
      have ln := HLN.out
      obtain ⟨x, hcx, hxq⟩ : ∃ x : Int, (∀ w : World, By w (W.heap.size + 1) nb → w.cell? ⟨W.heap.size + 1, q, none⟩ = some (.int .u8 x)) ∧ nb[q]? = some x := by
        refine ⟨nb.getD q 0, fun w hw => ?_, getD_some (by omega)⟩
        have h := (hw.1 q (nb.getD q 0) (getD_some (by omega))).1
        rwa [Nat.zero_add] at h
      have hxb := hb.out.at_ hxq
      obtain ⟨xn, hxn⟩ : ∃ xn : Nat, x = (xn : Int) := ⟨x.toNat, by omega⟩
      obtain ⟨s, hs⟩ : ∃ s, x / 2 ^ r = s := ⟨_, rfl⟩
      have hp2 : (0 : Int) < 2 ^ r := Int.pow_pos (by omega)
      have hsb : 0 ≤ s ∧ s < 256 := by
        have h1 := Int.ediv_nonneg hxb.1 (Int.le_of_lt hp2)
        have h2 := Int.ediv_le_self (2 ^ r) hxb.1
        rw [← hs]; omega
      obtain ⟨st, hst0⟩ : ∃ st : Bool, bitN N m = st := ⟨_, rfl⟩
      have hst : (s % 2 == 1) = st := by
        have h1 := byte_bit hb.out q r xn r8 (by rw [← hxn]; exact hxq)
        rw [show 8 * q + r = m by omega, hN.out] at h1
        rw [← hst0]
        unfold bitN
        rw [h1, ← hs, hxn]
        have e : ((xn : Int) / 2 ^ r) % 2 = ((xn / 2 ^ r % 2 : Nat) : Int) := by
          rw [Int.natCast_emod, Int.natCast_ediv, Int.natCast_pow]; rfl
        rw [e]
        rcases Nat.mod_two_eq_zero_or_one (xn / 2 ^ r) with h | h <;> rw [h] <;> rfl
      have hcur := HPR.out k (by omega)
      obtain ⟨cP, hcur⟩ := hcur
      have hnx := (mulS_step (l := l) (N := N) (k := k)).symm
      rw [HMK.out, hst0] at hnx
      obtain ⟨cur, hcu⟩ : ∃ c, c = mulS l N k := ⟨_, rfl⟩
      rw [← hcu] at hcur hnx hB5
      obtain ⟨kdbl, hdbl⟩ := hcur.add hcur
      obtain ⟨dbl, hdb⟩ : ∃ c, c = sumL cur cur := ⟨_, rfl⟩
      rw [← hdb] at kdbl hdbl hnx
      obtain ⟨ksum, hsum⟩ := hdbl.add hP.out
      have kch := choose_any hdbl hsum st
      rw [hnx] at kch
      obtain ⟨sum, hsu⟩ : ∃ c, c = sumL dbl l := ⟨_, rfl⟩
      rw [← hsu] at ksum hsum
      rw [← hsu] at kch
      have lcur := hcur.len
      have ldbl := hdbl.len
      have lsum := hsum.len
      have lnxt : (mulS l N (k + 1)).length = 64 := by
        obtain ⟨_, h⟩ := HPR.out (k + 1) (by omega)
        exact h.len
      obtain ⟨nxt, hnt⟩ : ∃ c, c = mulS l N (k + 1) := ⟨_, rfl⟩
      rw [← hnt] at kch lnxt
      have HNT := hid hnt
      have hT := hT0.next hW
      clear hnx hcu hdb hsu hnt hcur hdbl hsum hp2 hst0 hxq hxn xn
      have hwm : IntKind.i64.wrap ((m : Int) - 1) = (m : Int) - 1 := IntWalk.i64_in _ (by omega)
      go_upto_region 7 with (fail)
      have s40 := hW.size
      refine region_seq2 3 34 (fun _ => false) [Is (.agg (ints .i64 cur).toArray), Is (.agg (ints .i64 cur).toArray), Is (.agg (ints .i64 dbl).toArray)] [16, 17, 18] (by kernel_rfl) (by kernel_rfl) (Nat.le_of_eq rfl) (grows_cons (Is.grows _) (grows_cons (Is.grows _) (grows_cons (Is.grows _) grows_nil)))
        ⟨step_pt rfl (.inl rfl) hB5 5 rfl (by kernel_rfl) rfl rfl,
         step_pt rfl (.inl rfl) hB5 5 rfl (by kernel_rfl) rfl rfl,
         step_toT rfl (.inl rfl) rfl cg11 hT kdbl rfl (two_args (knows_in 0 16 (by decide) (by kernel_rfl) rfl rfl) (knows_in 1 17 (by decide) (by kernel_rfl) rfl rfl)), trivial⟩ ?_
      intro val w41 hw hS hap hla
      have e16 : val 16 = (.agg (ints .i64 cur).toArray) := hS 0 16 (by decide) rfl
      have e17 : val 17 = (.agg (ints .i64 cur).toArray) := hS 1 17 (by decide) rfl
      have e18 : val 18 = (.agg (ints .i64 dbl).toArray) := hS 2 18 (by decide) rfl
      simp only [putVals, List.foldl_cons, List.foldl_nil, List.drop_succ_cons, List.drop_zero, Act.put, List.setIfInBounds_toArray, List.set_cons_succ, List.set_cons_zero, e16, e17, e18]
      clear hS hap hla e16 e17 e18
      replace h2 := h2.next hw
      replace h3 := h3.next hw
      replace h4 := h4.next hw
      replace hB5 := hB5.next hw
      replace hT := hT.next hw
      replace hW := hW.trans (Below.mono hw hW.size)
      clear hw
      have LL5 := hid ldbl
      have R5 := hB5.room (l' := dbl) ldbl
      replace hB5 := hB5.stored (l' := dbl) ldbl
      replace h2 := h2.past (b' := b5) (ints .i64 dbl).toArray.toList n25
      replace h3 := h3.past (b' := b5) (ints .i64 dbl).toArray.toList n35
      replace h4 := h4.past (b' := b5) (ints .i64 dbl).toArray.toList n45
      replace hW := Below.setCells hW (g := b5) w5_ 0 (ints .i64 dbl).toArray.toList
      replace hT := hT0.next hW
      with_reducible refine wpList_store_mid (op := ⟨none, .store 28 (.tmp 5) (.tmp 18), _, _, _, _⟩) rfl 28 (.tmp 5) (.tmp 18) rfl b5 0 (ints .i64 dbl).toArray rfl rfl R5 (a28 LL5.out) (ints_all _ _) ?_
      generalize (w41.setCells b5 0 (ints .i64 dbl).toArray.toList) = w42 at *
      clear R5 LL5
      go_wp2_with (fail)
      have s42 := hW.size
      refine region_spec2 14 34 (fun _ => false) [Is (.agg (ints .i64 dbl).toArray), Is (.agg (ints .i64 dbl).toArray), Is (.agg (ints .i64 l).toArray), Is (.agg (ints .i64 sum).toArray), Is (.int .i64 (m : Int)), Is (.int .i64 (q : Int)), Is (.pointer (some ⟨(W.heap.size + 1), q, none⟩)), Is (.int .u8 x), Is (.int .i64 (m : Int)), Is (.int .i64 (r : Int)), Is (.int .u8 s), Is (.int .u8 (s % 2)), Is (.bool st), Is (.agg (ints .i64 nxt).toArray)] [19, 20, 21, 22, 23, 24, 25, 26, 27, 28, 29, 30, 31, 32] (by kernel_rfl) (by kernel_rfl) (by kernel_rfl) (Nat.le_of_eq rfl) (grows_cons (Is.grows _) (grows_cons (Is.grows _) (grows_cons (Is.grows _) (grows_cons (Is.grows _) (grows_cons (Is.grows _) (grows_cons (Is.grows _) (grows_cons (Is.grows _) (grows_cons (Is.grows _) (grows_cons (Is.grows _) (grows_cons (Is.grows _) (grows_cons (Is.grows _) (grows_cons (Is.grows _) (grows_cons (Is.grows _) (grows_cons (Is.grows _) grows_nil))))))))))))))
        ⟨step_pt rfl (.inl rfl) hB5 5 rfl (by kernel_rfl) rfl rfl,
         step_pt rfl (.inl rfl) hB5 5 rfl (by kernel_rfl) rfl rfl,
         step_pt rfl (.inl rfl) h2 2 rfl (by kernel_rfl) rfl rfl,
         step_toT rfl (.inl rfl) rfl cg11 hT ksum rfl (two_args (knows_in 1 20 (by decide) (by kernel_rfl) rfl rfl) (knows_in 2 21 (by decide) (by kernel_rfl) rfl rfl)),
         step_mv rfl (.inl rfl) rfl rfl (knows_out 6 (by kernel_rfl) rfl),
         step_quo8 rfl (.inl rfl) hq hm rfl rfl (knows_in 4 23 (by decide) (by kernel_rfl) rfl rfl),
         step_idx22 rfl (.inl rfl) q32 rfl rfl (knows_out 3 (by kernel_rfl) rfl) (knows_in 5 24 (by decide) (by kernel_rfl) rfl rfl),
         step_ld5 rfl (.inl rfl) rfl rfl (knows_in 6 25 (by decide) (by kernel_rfl) rfl rfl) (fun w hw => hcx w (h3.next hw)),
         step_mv rfl (.inl rfl) rfl rfl (knows_out 6 (by kernel_rfl) rfl),
         step_rem8 rfl (.inl rfl) hr hm rfl rfl (knows_in 8 27 (by decide) (by kernel_rfl) rfl rfl),
         step_shr5 rfl (.inl rfl) r8 hs hxb rfl rfl (knows_in 7 26 (by decide) (by kernel_rfl) rfl rfl) (knows_in 9 28 (by decide) (by kernel_rfl) rfl rfl),
         step_and1 rfl (.inl rfl) hsb rfl rfl (knows_in 10 29 (by decide) (by kernel_rfl) rfl rfl),
         step_eq1 rfl (.inl rfl) hst rfl rfl (knows_in 11 30 (by decide) (by kernel_rfl) rfl rfl),
         step_to rfl (.inl rfl) rfl cg51 kch rfl (three_args (knows_in 0 19 (by decide) (by kernel_rfl) rfl rfl) (knows_in 3 22 (by decide) (by kernel_rfl) rfl rfl) (knows_in 12 31 (by decide) (by kernel_rfl) rfl rfl)), trivial⟩ ?_
      intro val w43 hw hS hap hla
      have e19 : val 19 = (.agg (ints .i64 dbl).toArray) := hS 0 19 (by decide) rfl
      have e20 : val 20 = (.agg (ints .i64 dbl).toArray) := hS 1 20 (by decide) rfl
      have e21 : val 21 = (.agg (ints .i64 l).toArray) := hS 2 21 (by decide) rfl
      have e22 : val 22 = (.agg (ints .i64 sum).toArray) := hS 3 22 (by decide) rfl
      have e23 : val 23 = (.int .i64 (m : Int)) := hS 4 23 (by decide) rfl
      have e24 : val 24 = (.int .i64 (q : Int)) := hS 5 24 (by decide) rfl
      have e25 : val 25 = (.pointer (some ⟨(W.heap.size + 1), q, none⟩)) := hS 6 25 (by decide) rfl
      have e26 : val 26 = (.int .u8 x) := hS 7 26 (by decide) rfl
      have e27 : val 27 = (.int .i64 (m : Int)) := hS 8 27 (by decide) rfl
      have e28 : val 28 = (.int .i64 (r : Int)) := hS 9 28 (by decide) rfl
      have e29 : val 29 = (.int .u8 s) := hS 10 29 (by decide) rfl
      have e30 : val 30 = (.int .u8 (s % 2)) := hS 11 30 (by decide) rfl
      have e31 : val 31 = (.bool st) := hS 12 31 (by decide) rfl
      have e32 : val 32 = (.agg (ints .i64 nxt).toArray) := hS 13 32 (by decide) rfl
      simp only [putVals, List.foldl_cons, List.foldl_nil, List.drop_succ_cons, List.drop_zero, Act.put, List.setIfInBounds_toArray, List.set_cons_succ, List.set_cons_zero, e19, e20, e21, e22, e23, e24, e25, e26, e27, e28, e29, e30, e31, e32]
      clear hS hap hla e19 e20 e21 e22 e23 e24 e25 e26 e27 e28 e29 e30 e31 e32
      replace h2 := h2.next hw
      replace h3 := h3.next hw
      replace h4 := h4.next hw
      replace hB5 := hB5.next hw
      replace hT := hT.next hw
      replace hW := hW.trans (Below.mono hw hW.size)
      clear hw
      have LL5 := hid lnxt
      have R5 := hB5.room (l' := nxt) lnxt
      replace hB5 := hB5.stored (l' := nxt) lnxt
      replace h2 := h2.past (b' := b5) (ints .i64 nxt).toArray.toList n25
      replace h3 := h3.past (b' := b5) (ints .i64 nxt).toArray.toList n35
      replace h4 := h4.past (b' := b5) (ints .i64 nxt).toArray.toList n45
      replace hW := Below.setCells hW (g := b5) w5_ 0 (ints .i64 nxt).toArray.toList
      replace hT := hT0.next hW
      with_reducible refine wpList_store_mid (op := ⟨none, .store 28 (.tmp 5) (.tmp 32), _, _, _, _⟩) rfl 28 (.tmp 5) (.tmp 32) rfl b5 0 (ints .i64 nxt).toArray rfl rfl R5 (a28 LL5.out) (ints_all _ _) ?_
      generalize (w43.setCells b5 0 (ints .i64 nxt).toArray.toList) = w44 at *
      clear R5 LL5
      clear hcx hs hst hsb hxb kdbl ksum kch lcur ldbl lsum lnxt hq hr hl ln
      go_wp2_with (fail)
      go_roundw
      case rel =>
        rw [HNT.out] at hB5
        exact ⟨k + 1, (m : Int) - 1, by omega, rfl, hid (by have := HBK.out; omega), h2, h3, h4, hB5, hW⟩
      case measure => simp [intOf]
    · have e : k = 256 := by omega
      have hb0 : b < 0 := by have := HBK.out; omega
      rw [e] at hB5
      have hrl : (mulS l N 256).length = 64 := by
        obtain ⟨_, h⟩ := HPR.out 256 (by omega)
        exact h.len
      obtain ⟨rl, hre⟩ : ∃ c, c = mulS l N 256 := ⟨_, rfl⟩
      rw [← hre] at hB5 hrl
      have HRE := hid hre
      clear hre
      clear e HBK h2 h3 HPR
      have RR := h4.room (l' := rl) hrl
      have h9 := h4.stored (l' := rl) hrl
      have HRL := hid hrl
      replace hW := Below.setCells hW (g := W.heap.size + 1 + 1) (by omega) 0 (ints .i64 rl).toArray.toList
      clear h4 hrl
      go_wp2_with (first
        | (with_reducible refine wpList_load_mid (op := ⟨some 33, .load 28 (.tmp 5), _, _, _, _⟩) rfl 28 (.tmp 5) rfl b5 0 rfl (ints .i64 rl) _ (hB5.range) Tryd.underlying28 rfl (l28 HRL.out) ?_)
        | (with_reducible refine wpList_store_mid (op := ⟨none, .store 28 (.tmp 4) (.tmp 33), _, _, _, _⟩) rfl 28 (.tmp 4) (.tmp 33) rfl (W.heap.size + 1 + 1) 0 (ints .i64 rl).toArray rfl rfl RR (a28 HRL.out) (ints_all _ _) ?_))
      exact ret_rows rfl (W.heap.size + 1 + 1) 0 rfl (ints .i64 rl) _ h9.range Tryd.underlying28 rfl (l28 HRL.out) rfl ⟨by rw [HRE.out], hW⟩
/-- A number of times a point. -/
theorem PR.mul {l nb : List Int} {P : Edw.Pt NT.PN} (h : PR l P) (ln : nb.length = 32) (hb : Byt nb) : ∃ r, CallsT 12 #[.agg (ints .i64 l).toArray, .agg (ints .u8 nb).toArray] (.agg (ints .i64 r).toArray) ∧ PR r (Edw.mul eF (bn nb) P) := by
  have hN : bn nb < 2 ^ 256 := by
    have := bn_lt32 ln hb
    have e : (65536 : Nat) ^ 16 = 2 ^ 256 := by decide
    omega
  have hs := mulS_spec h hN
  refine ⟨_, pmul_core (P := P) h.len ln (hid hb) (hid rfl) (hid h) (hid fun k hk => ⟨_, hs k hk⟩) nouL_spec.2.len nouL_spec.1 h.exists, ?_⟩
  have h2 := hs 256 (Nat.le_refl _)
  rw [Nat.sub_self, Nat.pow_zero, Nat.div_one] at h2
  exact h2

end Go.Proofs.YtpaopdjbhmdfjaaDoor
