/- Roots are the document's: the walk. -/
import Derived.Test.YtddjfhmkebhndaaSpec4
namespace Go.Proofs.Ytddjfhmkebhndaa
open Go.RowKit

set_option maxRecDepth 4000 in
set_option maxHeartbeats 4000000 in
theorem feRoots_no (W : World) (b : List Int) (lb : b.length = 32) {x : List Int} {m : Nat} (hx : Nm x m) (kx : CallsTo 9 #[.agg (ints .u8 b).toArray] (.agg (ints .i64 x).toArray)) (rb : Hid (∀ w : World, Calls Try.prog 10 #[.agg (ints .u8 b).toArray] w (ROut m w))) (kroot : CallsTo 30 #[.agg (ints .i64 x).toArray] (.tuple #[.agg (ints .i64 (zeros 16)).toArray, .bool false])) (HSQ : Hid (isSq m = false)) :
    Calls Try.prog 6 #[.agg (ints .u8 b).toArray] W fun e w' => e = .returned (.bool true) ∧ Below W.heap.size W w' := by
  have hb := By.new W b lb
  have hW := below_new W (.cells (ints .u8 b).toArray 22)
  clear lb
  go_enter Try.func6, Try.ntmps6
  go_wp2_with (fail)
  generalize W.alloc (.cells (ints .u8 b).toArray 22) = wa at *
  refine (awake_any _).mono ?_
  rintro e w0 ⟨rfl, hb1⟩
  replace hb := hb.next hb1
  replace hW := hW.trans (hb1.mono hW.size)
  clear hb1
  go_wp2_with (fail)
  have s0 := hW.size
  refine region_spec2 5 66 (fun i => i == 3 || i == 4) [Is (.agg (ints .u8 b).toArray), Is (.agg (ints .i64 x).toArray), Is (.agg (ints .u8 b).toArray), IsR w0.heap.size m, IsZ w0.heap.size] [12, 13, 14, 15, 3] (by kernel_rfl) (by kernel_rfl) (by kernel_rfl) (Nat.le_of_eq rfl) (grows_cons (Is.grows _) (grows_cons (Is.grows _) (grows_cons (Is.grows _) (grows_cons (IsR.grows _ _) (grows_cons (IsZ.grows _) grows_nil)))))
    ⟨step_by rfl (.inl rfl) hb 1 rfl (by kernel_rfl) rfl rfl,
     step_to rfl (.inl rfl) rfl cf9 kx rfl (one_arg (knows_in 0 12 (by decide) (by kernel_rfl) rfl rfl)),
     step_by rfl (.inl rfl) hb 1 rfl (by kernel_rfl) rfl rfl,
     step_rof (.inl rfl) rfl cf10 rfl rb.out (knows_in 2 14 (by decide) (by kernel_rfl) rfl rfl),
     step_alloc26 (.inl rfl) rfl rfl, trivial⟩ ?_
  intro val w1 hw hS hap hla
  have e12 : val 12 = (.agg (ints .u8 b).toArray) := hS 0 12 (by decide) rfl
  have e13 : val 13 = (.agg (ints .i64 x).toArray) := hS 1 13 (by decide) rfl
  have e14 : val 14 = (.agg (ints .u8 b).toArray) := hS 2 14 (by decide) rfl
  obtain ⟨A15, c15, y15, e15, H15, N15⟩ := hS 3 15 (by decide) rfl
  have M15 := N15.nums
  obtain ⟨b3, e3, L3, Z3⟩ := hS 4 3 (by decide) rfl
  have nz3_15 : ∀ g o s, A15 = some ⟨g, o, s⟩ → b3 ≠ g := fun g o s h1 h2 => hap 4 3 3 15 (by decide) (by decide) rfl rfl (by decide) rfl rfl (by rw [e3, e15, h1, h2]; rfl)
  simp only [putVals, List.foldl_cons, List.foldl_nil, List.drop_succ_cons, List.drop_zero, Act.put, List.setIfInBounds_toArray, List.set_cons_succ, List.set_cons_zero, e12, e13, e14, e15, e3]
  clear hS hap hla e12 e13 e14 e15 e3
  clear N15
  have LL3 := hid hx.1.len
  have R3 := Z3.room (l' := x) hx.1.len
  have hX := Z3.stored (l' := x) hx.1.len
  replace hb := hb.next (Below.setCells hw L3 0 (ints .i64 x).toArray.toList)
  replace M15 := nums_past M15 (ints .i64 x).toArray.toList nz3_15
  replace hW := hW.trans (Below.mono (Below.setCells hw L3 0 (ints .i64 x).toArray.toList) hW.size)
  with_reducible refine wpList_store_mid (op := ⟨none, .store 26 (.tmp 3) (.tmp 13), _, _, _, _⟩) rfl 26 (.tmp 3) (.tmp 13) rfl b3 0 (ints .i64 x).toArray rfl rfl R3 (a26 LL3.out) (ints_all _ _) ?_
  generalize (w1.setCells b3 0 (ints .i64 x).toArray.toList) = w2 at *
  clear hw nz3_15 R3 LL3 L3 Z3 
  clear hb
  go_upto_region 4 with (fail)
  have s2 := hW.size
  refine region_seq2 6 66 (fun i => i == 5) [Is (.agg (ints .i64 x).toArray), Is (.tuple #[(.agg (ints .i64 (zeros 16)).toArray), (.bool false)]), Is (.tuple #[(.agg (ints .i64 (zeros 16)).toArray), (.bool false)]), Is (.agg (ints .i64 (zeros 16)).toArray), Is (.bool false), IsZ w2.heap.size] [17, 18, 16, 19, 20, 5] (by kernel_rfl) (by kernel_rfl) (Nat.le_of_eq rfl) (grows_cons (Is.grows _) (grows_cons (Is.grows _) (grows_cons (Is.grows _) (grows_cons (Is.grows _) (grows_cons (Is.grows _) (grows_cons (IsZ.grows _) grows_nil))))))
    ⟨step_el rfl (.inl rfl) hX 3 rfl (by kernel_rfl) rfl rfl,
     step_to rfl (.inl rfl) rfl cf30 kroot rfl (one_arg (knows_in 0 17 (by decide) (by kernel_rfl) rfl rfl)),
     step_mv rfl (.inl rfl) rfl rfl (knows_in 1 18 (by decide) (by kernel_rfl) rfl rfl),
     step_fst rfl (.inl rfl) rfl rfl (knows_in 2 16 (by decide) (by kernel_rfl) rfl rfl),
     step_snd rfl (.inl rfl) rfl rfl (knows_in 2 16 (by decide) (by kernel_rfl) rfl rfl),
     step_alloc26 (.inl rfl) rfl rfl, trivial⟩ ?_
  intro val w3 hw hS hap hla
  have e17 : val 17 = (.agg (ints .i64 x).toArray) := hS 0 17 (by decide) rfl
  have e18 : val 18 = (.tuple #[(.agg (ints .i64 (zeros 16)).toArray), (.bool false)]) := hS 1 18 (by decide) rfl
  have e16 : val 16 = (.tuple #[(.agg (ints .i64 (zeros 16)).toArray), (.bool false)]) := hS 2 16 (by decide) rfl
  have e19 : val 19 = (.agg (ints .i64 (zeros 16)).toArray) := hS 3 19 (by decide) rfl
  have e20 : val 20 = (.bool false) := hS 4 20 (by decide) rfl
  obtain ⟨b5, e5, L5, Z5⟩ := hS 5 5 (by decide) rfl
  simp only [putVals, List.foldl_cons, List.foldl_nil, List.drop_succ_cons, List.drop_zero, Act.put, List.setIfInBounds_toArray, List.set_cons_succ, List.set_cons_zero, e17, e18, e16, e19, e20, e5]
  clear hS hap hla e17 e18 e16 e19 e20 e5
  have LL5 := hid Nm.zeros.1.len
  have R5 := Z5.room (l' := (zeros 16)) Nm.zeros.1.len
  have hR := Z5.stored (l' := (zeros 16)) Nm.zeros.1.len
  replace M15 := M15.below (Below.setCells hw L5 0 (ints .i64 (zeros 16)).toArray.toList)
  replace hX := hX.next (Below.setCells hw L5 0 (ints .i64 (zeros 16)).toArray.toList)
  replace hW := hW.trans (Below.mono (Below.setCells hw L5 0 (ints .i64 (zeros 16)).toArray.toList) hW.size)
  with_reducible refine wpList_store_mid (op := ⟨none, .store 26 (.tmp 5) (.tmp 19), _, _, _, _⟩) rfl 26 (.tmp 5) (.tmp 19) rfl b5 0 (ints .i64 (zeros 16)).toArray rfl rfl R5 (a26 LL5.out) (ints_all _ _) ?_
  generalize (w3.setCells b5 0 (ints .i64 (zeros 16)).toArray.toList) = w4 at *
  clear hw  R5 LL5 L5 Z5 
  go_upto_region 5 with (fail)
  have s4 := hW.size
  refine region_seq2 4 66 (fun _ => false) [Is (.bool false), Is (.slice A15 16 c15), Is (.bool false), Is (.bool false)] [21, 22, 23, 24] (by kernel_rfl) (by kernel_rfl) (Nat.le_of_eq rfl) (grows_cons (Is.grows _) (grows_cons (Is.grows _) (grows_cons (Is.grows _) (grows_cons (Is.grows _) grows_nil))))
    ⟨step_mv rfl (.inl rfl) rfl rfl (knows_out 6 (by kernel_rfl) rfl),
     step_mv rfl (.inl rfl) rfl rfl (knows_out 4 (by kernel_rfl) rfl),
     step_rsquare rfl (.inl rfl) hx.lt rfl cf31 (by rw [HSQ.out]; exact rfl) ((knows_in 1 22 (by decide) (by kernel_rfl) rfl rfl).r H15 M15),
     step_neb rfl (.inl rfl) (b := false) rfl rfl (knows_in 0 21 (by decide) (by kernel_rfl) rfl rfl) (knows_in 2 23 (by decide) (by kernel_rfl) rfl rfl), trivial⟩ ?_
  intro val w5 hw hS hap hla
  have e21 : val 21 = (.bool false) := hS 0 21 (by decide) rfl
  have e22 : val 22 = (.slice A15 16 c15) := hS 1 22 (by decide) rfl
  have e23 : val 23 = (.bool false) := hS 2 23 (by decide) rfl
  have e24 : val 24 = (.bool false) := hS 3 24 (by decide) rfl
  simp only [putVals, List.foldl_cons, List.foldl_nil, List.drop_succ_cons, List.drop_zero, Act.put, List.setIfInBounds_toArray, List.set_cons_succ, List.set_cons_zero, e21, e22, e23, e24]
  clear hS hap hla e21 e22 e23 e24
  replace M15 := M15.below hw
  replace hX := hX.next hw
  replace hR := hR.next hw
  replace hW := hW.trans (Below.mono hw hW.size)
  clear hw
  go_upto_region 8 with (fail)
  have s5 := hW.size
  refine region_seq2 5 66 (fun _ => false) [Is (.agg (ints .i64 (zeros 16)).toArray), Is (.agg (ints .u8 (rbytes 0)).toArray), Is (.agg (ints .u8 (rbytes 0)).toArray), Is (.bool true), Is (.bool true)] [27, 28, 29, 30, 2] (by kernel_rfl) (by kernel_rfl) (Nat.le_of_eq rfl) (grows_cons (Is.grows _) (grows_cons (Is.grows _) (grows_cons (Is.grows _) (grows_cons (Is.grows _) (grows_cons (Is.grows _) grows_nil)))))
    ⟨step_el rfl (.inl rfl) hR 5 rfl (by kernel_rfl) rfl rfl,
     step_to rfl (.inl rfl) rfl cf11 Nm.zeros.bytes rfl (one_arg (knows_in 0 27 (by decide) (by kernel_rfl) rfl rfl)),
     step_zero22 rfl (.inl rfl) rfl rfl,
     step_eqs rfl (.inl rfl) rfl (rbytes_length _) rfl (knows_in 1 28 (by decide) (by kernel_rfl) rfl rfl) (knows_in 2 29 (by decide) (by kernel_rfl) rfl rfl),
     step_asg rfl (.inl rfl) rfl rfl (knows_in 3 30 (by decide) (by kernel_rfl) rfl rfl), trivial⟩ ?_
  intro val w6 hw hS hap hla
  have e27 : val 27 = (.agg (ints .i64 (zeros 16)).toArray) := hS 0 27 (by decide) rfl
  have e28 : val 28 = (.agg (ints .u8 (rbytes 0)).toArray) := hS 1 28 (by decide) rfl
  have e29 : val 29 = (.agg (ints .u8 (rbytes 0)).toArray) := hS 2 29 (by decide) rfl
  have e30 : val 30 = (.bool true) := hS 3 30 (by decide) rfl
  have e2 : val 2 = (.bool true) := hS 4 2 (by decide) rfl
  simp only [putVals, List.foldl_cons, List.foldl_nil, List.drop_succ_cons, List.drop_zero, Act.put, List.setIfInBounds_toArray, List.set_cons_succ, List.set_cons_zero, e27, e28, e29, e30, e2]
  clear hS hap hla e27 e28 e29 e30 e2
  replace M15 := M15.below hw
  replace hX := hX.next hw
  replace hR := hR.next hw
  replace hW := hW.trans (Below.mono hw hW.size)
  clear hw
  go_wp2_with (fail)
  go_ret
  exact ⟨rfl, hW⟩
set_option maxRecDepth 4000 in
set_option maxHeartbeats 4000000 in
theorem feRoots_yes (W : World) (b : List Int) (lb : b.length = 32) {x : List Int} {m : Nat} (hx : Nm x m) (kx : CallsTo 9 #[.agg (ints .u8 b).toArray] (.agg (ints .i64 x).toArray)) (rb : Hid (∀ w : World, Calls Try.prog 10 #[.agg (ints .u8 b).toArray] w (ROut m w))) {r s : List Int} {k j : Nat} (hr : Nm r k) (hs : Nm s j) (kroot : CallsTo 30 #[.agg (ints .i64 x).toArray] (.tuple #[.agg (ints .i64 r).toArray, .bool true])) (HSQ : Hid (isSq m = true)) (HKK : Hid (k * k % NT.PN = m)) (HOB : Hid (false = (((dig0 k % 2 : Nat) : Int) != 0)))
    {v0 v1 : List Int} (_ : Nm v0 (m * m % NT.PN)) (_ : Nm v1 ((0 + NT.PN - m) % NT.PN)) (kv0 : CallsTo 22 #[.agg (ints .i64 x).toArray, .agg (ints .i64 x).toArray] (.agg (ints .i64 v0).toArray)) (_ : CallsTo 24 #[.agg (ints .i64 x).toArray] (.agg (ints .i64 v1).toArray)) (kroot2 : CallsTo 30 #[.agg (ints .i64 v0).toArray] (.tuple #[.agg (ints .i64 s).toArray, .bool true]))
    (ke1 : CallsTo 14 #[.agg (ints .i64 s).toArray, .agg (ints .i64 x).toArray] (.bool true)) :
    Calls Try.prog 6 #[.agg (ints .u8 b).toArray] W fun e w' => e = .returned (.bool true) ∧ Below W.heap.size W w' := by
  have rk := hid (fun w : World => rof_bytes k hr.lt w)
  have hql : dig0 k < 65536 := Nat.mod_lt _ (by omega)
  have hb := By.new W b lb
  have hW := below_new W (.cells (ints .u8 b).toArray 22)
  clear lb
  go_enter Try.func6, Try.ntmps6
  go_wp2_with (fail)
  generalize W.alloc (.cells (ints .u8 b).toArray 22) = wa at *
  refine (awake_any _).mono ?_
  rintro e w0 ⟨rfl, hb1⟩
  replace hb := hb.next hb1
  replace hW := hW.trans (hb1.mono hW.size)
  clear hb1
  go_wp2_with (fail)
  have s0 := hW.size
  refine region_spec2 5 66 (fun i => i == 3 || i == 4) [Is (.agg (ints .u8 b).toArray), Is (.agg (ints .i64 x).toArray), Is (.agg (ints .u8 b).toArray), IsR w0.heap.size m, IsZ w0.heap.size] [12, 13, 14, 15, 3] (by kernel_rfl) (by kernel_rfl) (by kernel_rfl) (Nat.le_of_eq rfl) (grows_cons (Is.grows _) (grows_cons (Is.grows _) (grows_cons (Is.grows _) (grows_cons (IsR.grows _ _) (grows_cons (IsZ.grows _) grows_nil)))))
    ⟨step_by rfl (.inl rfl) hb 1 rfl (by kernel_rfl) rfl rfl,
     step_to rfl (.inl rfl) rfl cf9 kx rfl (one_arg (knows_in 0 12 (by decide) (by kernel_rfl) rfl rfl)),
     step_by rfl (.inl rfl) hb 1 rfl (by kernel_rfl) rfl rfl,
     step_rof (.inl rfl) rfl cf10 rfl rb.out (knows_in 2 14 (by decide) (by kernel_rfl) rfl rfl),
     step_alloc26 (.inl rfl) rfl rfl, trivial⟩ ?_
  intro val w1 hw hS hap hla
  have e12 : val 12 = (.agg (ints .u8 b).toArray) := hS 0 12 (by decide) rfl
  have e13 : val 13 = (.agg (ints .i64 x).toArray) := hS 1 13 (by decide) rfl
  have e14 : val 14 = (.agg (ints .u8 b).toArray) := hS 2 14 (by decide) rfl
  obtain ⟨A15, c15, y15, e15, H15, N15⟩ := hS 3 15 (by decide) rfl
  have M15 := N15.nums
  obtain ⟨b3, e3, L3, Z3⟩ := hS 4 3 (by decide) rfl
  have nz3_15 : ∀ g o s, A15 = some ⟨g, o, s⟩ → b3 ≠ g := fun g o s h1 h2 => hap 4 3 3 15 (by decide) (by decide) rfl rfl (by decide) rfl rfl (by rw [e3, e15, h1, h2]; rfl)
  simp only [putVals, List.foldl_cons, List.foldl_nil, List.drop_succ_cons, List.drop_zero, Act.put, List.setIfInBounds_toArray, List.set_cons_succ, List.set_cons_zero, e12, e13, e14, e15, e3]
  clear hS hap hla e12 e13 e14 e15 e3
  clear N15
  have LL3 := hid hx.1.len
  have R3 := Z3.room (l' := x) hx.1.len
  have hX := Z3.stored (l' := x) hx.1.len
  replace hb := hb.next (Below.setCells hw L3 0 (ints .i64 x).toArray.toList)
  replace M15 := nums_past M15 (ints .i64 x).toArray.toList nz3_15
  replace hW := hW.trans (Below.mono (Below.setCells hw L3 0 (ints .i64 x).toArray.toList) hW.size)
  with_reducible refine wpList_store_mid (op := ⟨none, .store 26 (.tmp 3) (.tmp 13), _, _, _, _⟩) rfl 26 (.tmp 3) (.tmp 13) rfl b3 0 (ints .i64 x).toArray rfl rfl R3 (a26 LL3.out) (ints_all _ _) ?_
  generalize (w1.setCells b3 0 (ints .i64 x).toArray.toList) = w2 at *
  clear hw nz3_15 R3 LL3 L3 Z3 
  clear hb
  go_upto_region 4 with (fail)
  have s2 := hW.size
  refine region_seq2 6 66 (fun i => i == 5) [Is (.agg (ints .i64 x).toArray), Is (.tuple #[(.agg (ints .i64 r).toArray), (.bool true)]), Is (.tuple #[(.agg (ints .i64 r).toArray), (.bool true)]), Is (.agg (ints .i64 r).toArray), Is (.bool true), IsZ w2.heap.size] [17, 18, 16, 19, 20, 5] (by kernel_rfl) (by kernel_rfl) (Nat.le_of_eq rfl) (grows_cons (Is.grows _) (grows_cons (Is.grows _) (grows_cons (Is.grows _) (grows_cons (Is.grows _) (grows_cons (Is.grows _) (grows_cons (IsZ.grows _) grows_nil))))))
    ⟨step_el rfl (.inl rfl) hX 3 rfl (by kernel_rfl) rfl rfl,
     step_to rfl (.inl rfl) rfl cf30 kroot rfl (one_arg (knows_in 0 17 (by decide) (by kernel_rfl) rfl rfl)),
     step_mv rfl (.inl rfl) rfl rfl (knows_in 1 18 (by decide) (by kernel_rfl) rfl rfl),
     step_fst rfl (.inl rfl) rfl rfl (knows_in 2 16 (by decide) (by kernel_rfl) rfl rfl),
     step_snd rfl (.inl rfl) rfl rfl (knows_in 2 16 (by decide) (by kernel_rfl) rfl rfl),
     step_alloc26 (.inl rfl) rfl rfl, trivial⟩ ?_
  intro val w3 hw hS hap hla
  have e17 : val 17 = (.agg (ints .i64 x).toArray) := hS 0 17 (by decide) rfl
  have e18 : val 18 = (.tuple #[(.agg (ints .i64 r).toArray), (.bool true)]) := hS 1 18 (by decide) rfl
  have e16 : val 16 = (.tuple #[(.agg (ints .i64 r).toArray), (.bool true)]) := hS 2 16 (by decide) rfl
  have e19 : val 19 = (.agg (ints .i64 r).toArray) := hS 3 19 (by decide) rfl
  have e20 : val 20 = (.bool true) := hS 4 20 (by decide) rfl
  obtain ⟨b5, e5, L5, Z5⟩ := hS 5 5 (by decide) rfl
  simp only [putVals, List.foldl_cons, List.foldl_nil, List.drop_succ_cons, List.drop_zero, Act.put, List.setIfInBounds_toArray, List.set_cons_succ, List.set_cons_zero, e17, e18, e16, e19, e20, e5]
  clear hS hap hla e17 e18 e16 e19 e20 e5
  have LL5 := hid hr.1.len
  have R5 := Z5.room (l' := r) hr.1.len
  have hR := Z5.stored (l' := r) hr.1.len
  replace M15 := M15.below (Below.setCells hw L5 0 (ints .i64 r).toArray.toList)
  replace hX := hX.next (Below.setCells hw L5 0 (ints .i64 r).toArray.toList)
  replace hW := hW.trans (Below.mono (Below.setCells hw L5 0 (ints .i64 r).toArray.toList) hW.size)
  with_reducible refine wpList_store_mid (op := ⟨none, .store 26 (.tmp 5) (.tmp 19), _, _, _, _⟩) rfl 26 (.tmp 5) (.tmp 19) rfl b5 0 (ints .i64 r).toArray rfl rfl R5 (a26 LL5.out) (ints_all _ _) ?_
  generalize (w3.setCells b5 0 (ints .i64 r).toArray.toList) = w4 at *
  clear hw  R5 LL5 L5 Z5 
  go_upto_region 5 with (fail)
  have s4 := hW.size
  refine region_seq2 4 66 (fun _ => false) [Is (.bool true), Is (.slice A15 16 c15), Is (.bool true), Is (.bool false)] [21, 22, 23, 24] (by kernel_rfl) (by kernel_rfl) (Nat.le_of_eq rfl) (grows_cons (Is.grows _) (grows_cons (Is.grows _) (grows_cons (Is.grows _) (grows_cons (Is.grows _) grows_nil))))
    ⟨step_mv rfl (.inl rfl) rfl rfl (knows_out 6 (by kernel_rfl) rfl),
     step_mv rfl (.inl rfl) rfl rfl (knows_out 4 (by kernel_rfl) rfl),
     step_rsquare rfl (.inl rfl) hx.lt rfl cf31 (by rw [HSQ.out]; exact rfl) ((knows_in 1 22 (by decide) (by kernel_rfl) rfl rfl).r H15 M15),
     step_neb rfl (.inl rfl) (b := true) rfl rfl (knows_in 0 21 (by decide) (by kernel_rfl) rfl rfl) (knows_in 2 23 (by decide) (by kernel_rfl) rfl rfl), trivial⟩ ?_
  intro val w5 hw hS hap hla
  have e21 : val 21 = (.bool true) := hS 0 21 (by decide) rfl
  have e22 : val 22 = (.slice A15 16 c15) := hS 1 22 (by decide) rfl
  have e23 : val 23 = (.bool true) := hS 2 23 (by decide) rfl
  have e24 : val 24 = (.bool false) := hS 3 24 (by decide) rfl
  simp only [putVals, List.foldl_cons, List.foldl_nil, List.drop_succ_cons, List.drop_zero, Act.put, List.setIfInBounds_toArray, List.set_cons_succ, List.set_cons_zero, e21, e22, e23, e24]
  clear hS hap hla e21 e22 e23 e24
  replace M15 := M15.below hw
  replace hX := hX.next hw
  replace hR := hR.next hw
  replace hW := hW.trans (Below.mono hw hW.size)
  clear hw
  go_upto_region 9 with (fail)
  have s5 := hW.size
  refine region_seq2 4 66 (fun i => i == 2) [Is (.agg (ints .i64 r).toArray), Is (.agg (ints .u8 (rbytes k)).toArray), IsR w5.heap.size k, IsR w5.heap.size k] [31, 32, 33, 7] (by kernel_rfl) (by kernel_rfl) (Nat.le_of_eq rfl) (grows_cons (Is.grows _) (grows_cons (Is.grows _) (grows_cons (IsR.grows _ _) (grows_cons (IsR.grows _ _) grows_nil))))
    ⟨step_el rfl (.inl rfl) hR 5 rfl (by kernel_rfl) rfl rfl,
     step_to rfl (.inl rfl) rfl cf11 hr.bytes rfl (one_arg (knows_in 0 31 (by decide) (by kernel_rfl) rfl rfl)),
     step_rof (.inl rfl) rfl cf10 rfl rk.out (knows_in 1 32 (by decide) (by kernel_rfl) rfl rfl),
     step_copyR rfl (.inl rfl) 2 33 (.inr rfl) rfl (by decide) (by kernel_rfl) rfl rfl, trivial⟩ ?_
  intro val w6 hw hS hap hla
  have e31 : val 31 = (.agg (ints .i64 r).toArray) := hS 0 31 (by decide) rfl
  have e32 : val 32 = (.agg (ints .u8 (rbytes k)).toArray) := hS 1 32 (by decide) rfl
  obtain ⟨A33, c33, y33, e33, H33, N33⟩ := hS 2 33 (by decide) rfl
  have M33 := N33.nums
  obtain ⟨A7, c7, y7, e7, H7, N7⟩ := hS 3 7 (by decide) rfl
  have M7 := N7.nums
  simp only [putVals, List.foldl_cons, List.foldl_nil, List.drop_succ_cons, List.drop_zero, Act.put, List.setIfInBounds_toArray, List.set_cons_succ, List.set_cons_zero, e31, e32, e33, e7]
  clear hS hap hla e31 e32 e33 e7
  clear N33 M33 H33
  clear N7
  replace M15 := M15.below hw
  replace hX := hX.next hw
  replace hR := hR.next hw
  replace hW := hW.trans (Below.mono hw hW.size)
  clear hw
  obtain ⟨g9, o9, rfl, _, hc9⟩ := M7.num (by rw [nl_length, H7.out.1]; omega)
  have hc0 := hc9 0 _ H7.out.first
  rw [Nat.add_zero] at hc0
  have HC0 : Hid (∀ w', Cl w6 w' → w'.cell? ⟨g9, o9, none⟩ = some (.int .i64 ((dig0 k : Nat) : Int))) := hid (fun w' h => (Below.cell h (p := ⟨g9, o9, none⟩) (by have := M7.lt0 (by rw [nl_length, H7.out.1]; omega); exact this)).trans hc0)
  clear hc9 hc0
  generalize dig0 k = q at *
  go_upto_region 10 with (fail)
  have s6 := hW.size
  refine region_seq2 13 66 (fun i => i == 2) [Is (.slice (some ⟨g9, o9, none⟩) 16 c7), Is (.slice (some ⟨g9, o9, none⟩) 16 c7), IsR w6.heap.size (k * k % NT.PN), Is (.slice A15 16 c15), Is (.bool true), Is (.bool false), Is (.bool false), Is (.slice (some ⟨g9, o9, none⟩) 16 c7), Is (.pointer (some ⟨g9, o9, none⟩)), Is (.int .i64 (q : Int)), Is (.int .i64 ((q % 2 : Nat) : Int)), Is (.bool false), Is (.bool false)] [34, 35, 36, 37, 38, 39, 40, 41, 42, 43, 44, 45, 46] (by kernel_rfl) (by kernel_rfl) (Nat.le_of_eq rfl) (grows_cons (Is.grows _) (grows_cons (Is.grows _) (grows_cons (IsR.grows _ _) (grows_cons (Is.grows _) (grows_cons (Is.grows _) (grows_cons (Is.grows _) (grows_cons (Is.grows _) (grows_cons (Is.grows _) (grows_cons (Is.grows _) (grows_cons (Is.grows _) (grows_cons (Is.grows _) (grows_cons (Is.grows _) (grows_cons (Is.grows _) grows_nil)))))))))))))
    ⟨step_mv rfl (.inl rfl) rfl rfl (knows_out 7 (by kernel_rfl) rfl),
     step_mv rfl (.inl rfl) rfl rfl (knows_out 7 (by kernel_rfl) rfl),
     step_rout (.inl rfl) rfl cf23 rfl (rout2 ((knows_in 0 34 (by decide) (by kernel_rfl) rfl rfl).r H7 M7) ((knows_in 1 35 (by decide) (by kernel_rfl) rfl rfl).r H7 M7) (fun h1 h2 h3 h4 => rmul_walk h1 h2 h3 h4)),
     step_mv rfl (.inl rfl) rfl rfl (knows_out 4 (by kernel_rfl) rfl),
     step_rsame rfl (.inl rfl) rfl cf15 (by rw [decide_eq_true HKK.out]; exact rfl) (knowsR_in 2 36 (by decide) (by kernel_rfl) rfl rfl) ((knows_in 3 37 (by decide) (by kernel_rfl) rfl rfl).r H15 M15),
     step_not rfl (.inl rfl) (b := true) rfl rfl (knows_in 4 38 (by decide) (by kernel_rfl) rfl rfl),
     step_mv rfl (.inl rfl) rfl rfl (knows_in 5 39 (by decide) (by kernel_rfl) rfl rfl),
     step_mv rfl (.inr ⟨6, false, 40, rfl, by decide, by kernel_rfl, rfl, fun _ _ h => h⟩) rfl rfl (knows_out 7 (by kernel_rfl) rfl),
     step_idx0 rfl (.inr ⟨6, false, 40, rfl, by decide, by kernel_rfl, rfl, fun _ _ h => h⟩) rfl rfl (knows_in 7 41 (by decide) (by kernel_rfl) rfl rfl),
     step_ld3 rfl (.inr ⟨6, false, 40, rfl, by decide, by kernel_rfl, rfl, fun _ _ h => h⟩) rfl rfl (knows_in 8 42 (by decide) (by kernel_rfl) rfl rfl) ⟨_, rfl⟩ HC0.out,
     step_rem2 rfl (.inr ⟨6, false, 40, rfl, by decide, by kernel_rfl, rfl, fun _ _ h => h⟩) hql rfl rfl (knows_in 9 43 (by decide) (by kernel_rfl) rfl rfl),
     step_is0 rfl (.inr ⟨6, false, 40, rfl, by decide, by kernel_rfl, rfl, fun _ _ h => h⟩) (q := q % 2) rfl rfl HOB.out (knows_in 10 44 (by decide) (by kernel_rfl) rfl rfl),
     step_pick rfl (.inl rfl) (b := false) rfl rfl (knows_in 6 40 (by decide) (by kernel_rfl) rfl rfl) (knows_in 11 45 (by decide) (by kernel_rfl) rfl rfl), trivial⟩ ?_
  intro val w7 hw hS hap hla
  have e34 : val 34 = (.slice (some ⟨g9, o9, none⟩) 16 c7) := hS 0 34 (by decide) rfl
  have e35 : val 35 = (.slice (some ⟨g9, o9, none⟩) 16 c7) := hS 1 35 (by decide) rfl
  obtain ⟨A36, c36, y36, e36, H36, N36⟩ := hS 2 36 (by decide) rfl
  have M36 := N36.nums
  have e37 : val 37 = (.slice A15 16 c15) := hS 3 37 (by decide) rfl
  have e38 : val 38 = (.bool true) := hS 4 38 (by decide) rfl
  have e39 : val 39 = (.bool false) := hS 5 39 (by decide) rfl
  have e40 : val 40 = (.bool false) := hS 6 40 (by decide) rfl
  have e41 : val 41 = (.slice (some ⟨g9, o9, none⟩) 16 c7) := hS 7 41 (by decide) rfl
  have e42 : val 42 = (.pointer (some ⟨g9, o9, none⟩)) := hS 8 42 (by decide) rfl
  have e43 : val 43 = (.int .i64 (q : Int)) := hS 9 43 (by decide) rfl
  have e44 : val 44 = (.int .i64 ((q % 2 : Nat) : Int)) := hS 10 44 (by decide) rfl
  have e45 : val 45 = (.bool false) := hS 11 45 (by decide) rfl
  have e46 : val 46 = (.bool false) := hS 12 46 (by decide) rfl
  simp only [putVals, List.foldl_cons, List.foldl_nil, List.drop_succ_cons, List.drop_zero, Act.put, List.setIfInBounds_toArray, List.set_cons_succ, List.set_cons_zero, e34, e35, e36, e37, e38, e39, e40, e41, e42, e43, e44, e45, e46]
  clear hS hap hla e34 e35 e36 e37 e38 e39 e40 e41 e42 e43 e44 e45 e46
  clear N36 M36 H36
  replace M15 := M15.below hw
  replace hX := hX.next hw
  replace hR := hR.next hw
  replace M7 := M7.below hw
  replace hW := hW.trans (Below.mono hw hW.size)
  clear hw
  go_upto_region 12 with (fail)
  have s7 := hW.size
  refine region_seq2 8 66 (fun i => i == 7) [Is (.agg (ints .i64 x).toArray), Is (.agg (ints .i64 x).toArray), Is (.agg (ints .i64 v0).toArray), Is (.tuple #[(.agg (ints .i64 s).toArray), (.bool true)]), Is (.tuple #[(.agg (ints .i64 s).toArray), (.bool true)]), Is (.agg (ints .i64 s).toArray), Is (.bool true), IsZ w7.heap.size] [48, 49, 50, 51, 47, 52, 53, 8] (by kernel_rfl) (by kernel_rfl) (Nat.le_of_eq rfl) (grows_cons (Is.grows _) (grows_cons (Is.grows _) (grows_cons (Is.grows _) (grows_cons (Is.grows _) (grows_cons (Is.grows _) (grows_cons (Is.grows _) (grows_cons (Is.grows _) (grows_cons (IsZ.grows _) grows_nil))))))))
    ⟨step_el rfl (.inl rfl) hX 3 rfl (by kernel_rfl) rfl rfl,
     step_el rfl (.inl rfl) hX 3 rfl (by kernel_rfl) rfl rfl,
     step_to rfl (.inl rfl) rfl cf22 kv0 rfl (two_args (knows_in 0 48 (by decide) (by kernel_rfl) rfl rfl) (knows_in 1 49 (by decide) (by kernel_rfl) rfl rfl)),
     step_to rfl (.inl rfl) rfl cf30 kroot2 rfl (one_arg (knows_in 2 50 (by decide) (by kernel_rfl) rfl rfl)),
     step_mv rfl (.inl rfl) rfl rfl (knows_in 3 51 (by decide) (by kernel_rfl) rfl rfl),
     step_fst rfl (.inl rfl) rfl rfl (knows_in 4 47 (by decide) (by kernel_rfl) rfl rfl),
     step_snd rfl (.inl rfl) rfl rfl (knows_in 4 47 (by decide) (by kernel_rfl) rfl rfl),
     step_alloc26 (.inl rfl) rfl rfl, trivial⟩ ?_
  intro val w8 hw hS hap hla
  have e48 : val 48 = (.agg (ints .i64 x).toArray) := hS 0 48 (by decide) rfl
  have e49 : val 49 = (.agg (ints .i64 x).toArray) := hS 1 49 (by decide) rfl
  have e50 : val 50 = (.agg (ints .i64 v0).toArray) := hS 2 50 (by decide) rfl
  have e51 : val 51 = (.tuple #[(.agg (ints .i64 s).toArray), (.bool true)]) := hS 3 51 (by decide) rfl
  have e47 : val 47 = (.tuple #[(.agg (ints .i64 s).toArray), (.bool true)]) := hS 4 47 (by decide) rfl
  have e52 : val 52 = (.agg (ints .i64 s).toArray) := hS 5 52 (by decide) rfl
  have e53 : val 53 = (.bool true) := hS 6 53 (by decide) rfl
  obtain ⟨b8, e8, L8, Z8⟩ := hS 7 8 (by decide) rfl
  simp only [putVals, List.foldl_cons, List.foldl_nil, List.drop_succ_cons, List.drop_zero, Act.put, List.setIfInBounds_toArray, List.set_cons_succ, List.set_cons_zero, e48, e49, e50, e51, e47, e52, e53, e8]
  clear hS hap hla e48 e49 e50 e51 e47 e52 e53 e8
  have LL8 := hid hs.1.len
  have R8 := Z8.room (l' := s) hs.1.len
  have hS8 := Z8.stored (l' := s) hs.1.len
  replace M15 := M15.below (Below.setCells hw L8 0 (ints .i64 s).toArray.toList)
  replace hX := hX.next (Below.setCells hw L8 0 (ints .i64 s).toArray.toList)
  replace hR := hR.next (Below.setCells hw L8 0 (ints .i64 s).toArray.toList)
  replace M7 := M7.below (Below.setCells hw L8 0 (ints .i64 s).toArray.toList)
  replace hW := hW.trans (Below.mono (Below.setCells hw L8 0 (ints .i64 s).toArray.toList) hW.size)
  with_reducible refine wpList_store_mid (op := ⟨none, .store 26 (.tmp 8) (.tmp 52), _, _, _, _⟩) rfl 26 (.tmp 8) (.tmp 52) rfl b8 0 (ints .i64 s).toArray rfl rfl R8 (a26 LL8.out) (ints_all _ _) ?_
  generalize (w8.setCells b8 0 (ints .i64 s).toArray.toList) = w9 at *
  clear hw  R8 LL8 L8 Z8 
  go_wp2_with (fail)
  have s9 := hW.size
  refine region_spec2 12 66 (fun _ => false) [Is (.bool true), Is (.bool true), Is (.agg (ints .i64 s).toArray), Is (.agg (ints .i64 x).toArray), Is (.bool true), Is (.bool true), Is undef, Is undef, Is undef, Is undef, Is (.bool true), Is (.bool true)] [54, 55, 56, 57, 58, 59, 60, 61, 62, 63, 64, 65] (by kernel_rfl) (by kernel_rfl) (by kernel_rfl) (Nat.le_of_eq rfl) (grows_cons (Is.grows _) (grows_cons (Is.grows _) (grows_cons (Is.grows _) (grows_cons (Is.grows _) (grows_cons (Is.grows _) (grows_cons (Is.grows _) (grows_cons (Is.grows _) (grows_cons (Is.grows _) (grows_cons (Is.grows _) (grows_cons (Is.grows _) (grows_cons (Is.grows _) (grows_cons (Is.grows _) grows_nil))))))))))))
    ⟨step_mv rfl (.inl rfl) rfl rfl (knows_out 9 (by kernel_rfl) rfl),
     step_mv rfl (.inl rfl) rfl rfl (knows_in 0 54 (by decide) (by kernel_rfl) rfl rfl),
     step_el rfl (.inr ⟨1, true, 55, rfl, by decide, by kernel_rfl, rfl, fun _ _ h => h⟩) hS8 8 rfl (by kernel_rfl) rfl rfl,
     step_el rfl (.inr ⟨1, true, 55, rfl, by decide, by kernel_rfl, rfl, fun _ _ h => h⟩) hX 3 rfl (by kernel_rfl) rfl rfl,
     step_to rfl (.inr ⟨1, true, 55, rfl, by decide, by kernel_rfl, rfl, fun _ _ h => h⟩) rfl cf14 ke1 rfl (two_args (knows_in 2 56 (by decide) (by kernel_rfl) rfl rfl) (knows_in 3 57 (by decide) (by kernel_rfl) rfl rfl)),
     step_mv rfl (.inr ⟨1, true, 55, rfl, by decide, by kernel_rfl, rfl, fun _ _ h => h⟩) rfl rfl (knows_in 4 58 (by decide) (by kernel_rfl) rfl rfl),
     step_off rfl ⟨5, false, 59, rfl, by decide, by kernel_rfl, rfl, fun _ _ h => .inl h⟩ (fun _ => rfl),
     step_off rfl ⟨5, false, 59, rfl, by decide, by kernel_rfl, rfl, fun _ _ h => .inl h⟩ (fun _ => rfl),
     step_off rfl ⟨5, false, 59, rfl, by decide, by kernel_rfl, rfl, fun _ _ h => .inl h⟩ (fun _ => rfl),
     step_off rfl ⟨5, false, 59, rfl, by decide, by kernel_rfl, rfl, fun _ _ h => .inl h⟩ (fun _ => rfl),
     step_pick rfl (.inr ⟨1, true, 55, rfl, by decide, by kernel_rfl, rfl, fun _ _ h => h⟩) (b := true) rfl rfl (knows_in 5 59 (by decide) (by kernel_rfl) rfl rfl) (knows_const _),
     step_pick rfl (.inl rfl) (b := true) rfl rfl (knows_in 1 55 (by decide) (by kernel_rfl) rfl rfl) (knows_in 10 64 (by decide) (by kernel_rfl) rfl rfl), trivial⟩ ?_
  intro val w10 hw hS hap hla
  have e54 : val 54 = (.bool true) := hS 0 54 (by decide) rfl
  have e55 : val 55 = (.bool true) := hS 1 55 (by decide) rfl
  have e56 : val 56 = (.agg (ints .i64 s).toArray) := hS 2 56 (by decide) rfl
  have e57 : val 57 = (.agg (ints .i64 x).toArray) := hS 3 57 (by decide) rfl
  have e58 : val 58 = (.bool true) := hS 4 58 (by decide) rfl
  have e59 : val 59 = (.bool true) := hS 5 59 (by decide) rfl
  have e60 : val 60 = undef := hS 6 60 (by decide) rfl
  have e61 : val 61 = undef := hS 7 61 (by decide) rfl
  have e62 : val 62 = undef := hS 8 62 (by decide) rfl
  have e63 : val 63 = undef := hS 9 63 (by decide) rfl
  have e64 : val 64 = (.bool true) := hS 10 64 (by decide) rfl
  have e65 : val 65 = (.bool true) := hS 11 65 (by decide) rfl
  simp only [putVals, List.foldl_cons, List.foldl_nil, List.drop_succ_cons, List.drop_zero, Act.put, List.setIfInBounds_toArray, List.set_cons_succ, List.set_cons_zero, e54, e55, e56, e57, e58, e59, e60, e61, e62, e63, e64, e65]
  clear hS hap hla e54 e55 e56 e57 e58 e59 e60 e61 e62 e63 e64 e65
  replace M15 := M15.below hw
  replace hX := hX.next hw
  replace hR := hR.next hw
  replace M7 := M7.below hw
  replace hS8 := hS8.next hw
  replace hW := hW.trans (Below.mono hw hW.size)
  clear hw
  go_wp2_with (fail)
  go_ret
  exact ⟨rfl, hW⟩
set_option maxRecDepth 4000 in
set_option maxHeartbeats 4000000 in
theorem feRoots_neg (W : World) (b : List Int) (lb : b.length = 32) {x : List Int} {m : Nat} (hx : Nm x m) (kx : CallsTo 9 #[.agg (ints .u8 b).toArray] (.agg (ints .i64 x).toArray)) (rb : Hid (∀ w : World, Calls Try.prog 10 #[.agg (ints .u8 b).toArray] w (ROut m w))) {r s : List Int} {k j : Nat} (hr : Nm r k) (hs : Nm s j) (kroot : CallsTo 30 #[.agg (ints .i64 x).toArray] (.tuple #[.agg (ints .i64 r).toArray, .bool true])) (HSQ : Hid (isSq m = true)) (HKK : Hid (k * k % NT.PN = m)) (HOB : Hid (false = (((dig0 k % 2 : Nat) : Int) != 0)))
    {v0 v1 : List Int} (_ : Nm v0 (m * m % NT.PN)) (_ : Nm v1 ((0 + NT.PN - m) % NT.PN)) (kv0 : CallsTo 22 #[.agg (ints .i64 x).toArray, .agg (ints .i64 x).toArray] (.agg (ints .i64 v0).toArray)) (kv1 : CallsTo 24 #[.agg (ints .i64 x).toArray] (.agg (ints .i64 v1).toArray)) (kroot2 : CallsTo 30 #[.agg (ints .i64 v0).toArray] (.tuple #[.agg (ints .i64 s).toArray, .bool true]))
    (ke1 : CallsTo 14 #[.agg (ints .i64 s).toArray, .agg (ints .i64 x).toArray] (.bool false)) (ke2 : CallsTo 14 #[.agg (ints .i64 s).toArray, .agg (ints .i64 v1).toArray] (.bool true)) :
    Calls Try.prog 6 #[.agg (ints .u8 b).toArray] W fun e w' => e = .returned (.bool true) ∧ Below W.heap.size W w' := by
  have rk := hid (fun w : World => rof_bytes k hr.lt w)
  have hql : dig0 k < 65536 := Nat.mod_lt _ (by omega)
  have hb := By.new W b lb
  have hW := below_new W (.cells (ints .u8 b).toArray 22)
  clear lb
  go_enter Try.func6, Try.ntmps6
  go_wp2_with (fail)
  generalize W.alloc (.cells (ints .u8 b).toArray 22) = wa at *
  refine (awake_any _).mono ?_
  rintro e w0 ⟨rfl, hb1⟩
  replace hb := hb.next hb1
  replace hW := hW.trans (hb1.mono hW.size)
  clear hb1
  go_wp2_with (fail)
  have s0 := hW.size
  refine region_spec2 5 66 (fun i => i == 3 || i == 4) [Is (.agg (ints .u8 b).toArray), Is (.agg (ints .i64 x).toArray), Is (.agg (ints .u8 b).toArray), IsR w0.heap.size m, IsZ w0.heap.size] [12, 13, 14, 15, 3] (by kernel_rfl) (by kernel_rfl) (by kernel_rfl) (Nat.le_of_eq rfl) (grows_cons (Is.grows _) (grows_cons (Is.grows _) (grows_cons (Is.grows _) (grows_cons (IsR.grows _ _) (grows_cons (IsZ.grows _) grows_nil)))))
    ⟨step_by rfl (.inl rfl) hb 1 rfl (by kernel_rfl) rfl rfl,
     step_to rfl (.inl rfl) rfl cf9 kx rfl (one_arg (knows_in 0 12 (by decide) (by kernel_rfl) rfl rfl)),
     step_by rfl (.inl rfl) hb 1 rfl (by kernel_rfl) rfl rfl,
     step_rof (.inl rfl) rfl cf10 rfl rb.out (knows_in 2 14 (by decide) (by kernel_rfl) rfl rfl),
     step_alloc26 (.inl rfl) rfl rfl, trivial⟩ ?_
  intro val w1 hw hS hap hla
  have e12 : val 12 = (.agg (ints .u8 b).toArray) := hS 0 12 (by decide) rfl
  have e13 : val 13 = (.agg (ints .i64 x).toArray) := hS 1 13 (by decide) rfl
  have e14 : val 14 = (.agg (ints .u8 b).toArray) := hS 2 14 (by decide) rfl
  obtain ⟨A15, c15, y15, e15, H15, N15⟩ := hS 3 15 (by decide) rfl
  have M15 := N15.nums
  obtain ⟨b3, e3, L3, Z3⟩ := hS 4 3 (by decide) rfl
  have nz3_15 : ∀ g o s, A15 = some ⟨g, o, s⟩ → b3 ≠ g := fun g o s h1 h2 => hap 4 3 3 15 (by decide) (by decide) rfl rfl (by decide) rfl rfl (by rw [e3, e15, h1, h2]; rfl)
  simp only [putVals, List.foldl_cons, List.foldl_nil, List.drop_succ_cons, List.drop_zero, Act.put, List.setIfInBounds_toArray, List.set_cons_succ, List.set_cons_zero, e12, e13, e14, e15, e3]
  clear hS hap hla e12 e13 e14 e15 e3
  clear N15
  have LL3 := hid hx.1.len
  have R3 := Z3.room (l' := x) hx.1.len
  have hX := Z3.stored (l' := x) hx.1.len
  replace hb := hb.next (Below.setCells hw L3 0 (ints .i64 x).toArray.toList)
  replace M15 := nums_past M15 (ints .i64 x).toArray.toList nz3_15
  replace hW := hW.trans (Below.mono (Below.setCells hw L3 0 (ints .i64 x).toArray.toList) hW.size)
  with_reducible refine wpList_store_mid (op := ⟨none, .store 26 (.tmp 3) (.tmp 13), _, _, _, _⟩) rfl 26 (.tmp 3) (.tmp 13) rfl b3 0 (ints .i64 x).toArray rfl rfl R3 (a26 LL3.out) (ints_all _ _) ?_
  generalize (w1.setCells b3 0 (ints .i64 x).toArray.toList) = w2 at *
  clear hw nz3_15 R3 LL3 L3 Z3 
  clear hb
  go_upto_region 4 with (fail)
  have s2 := hW.size
  refine region_seq2 6 66 (fun i => i == 5) [Is (.agg (ints .i64 x).toArray), Is (.tuple #[(.agg (ints .i64 r).toArray), (.bool true)]), Is (.tuple #[(.agg (ints .i64 r).toArray), (.bool true)]), Is (.agg (ints .i64 r).toArray), Is (.bool true), IsZ w2.heap.size] [17, 18, 16, 19, 20, 5] (by kernel_rfl) (by kernel_rfl) (Nat.le_of_eq rfl) (grows_cons (Is.grows _) (grows_cons (Is.grows _) (grows_cons (Is.grows _) (grows_cons (Is.grows _) (grows_cons (Is.grows _) (grows_cons (IsZ.grows _) grows_nil))))))
    ⟨step_el rfl (.inl rfl) hX 3 rfl (by kernel_rfl) rfl rfl,
     step_to rfl (.inl rfl) rfl cf30 kroot rfl (one_arg (knows_in 0 17 (by decide) (by kernel_rfl) rfl rfl)),
     step_mv rfl (.inl rfl) rfl rfl (knows_in 1 18 (by decide) (by kernel_rfl) rfl rfl),
     step_fst rfl (.inl rfl) rfl rfl (knows_in 2 16 (by decide) (by kernel_rfl) rfl rfl),
     step_snd rfl (.inl rfl) rfl rfl (knows_in 2 16 (by decide) (by kernel_rfl) rfl rfl),
     step_alloc26 (.inl rfl) rfl rfl, trivial⟩ ?_
  intro val w3 hw hS hap hla
  have e17 : val 17 = (.agg (ints .i64 x).toArray) := hS 0 17 (by decide) rfl
  have e18 : val 18 = (.tuple #[(.agg (ints .i64 r).toArray), (.bool true)]) := hS 1 18 (by decide) rfl
  have e16 : val 16 = (.tuple #[(.agg (ints .i64 r).toArray), (.bool true)]) := hS 2 16 (by decide) rfl
  have e19 : val 19 = (.agg (ints .i64 r).toArray) := hS 3 19 (by decide) rfl
  have e20 : val 20 = (.bool true) := hS 4 20 (by decide) rfl
  obtain ⟨b5, e5, L5, Z5⟩ := hS 5 5 (by decide) rfl
  simp only [putVals, List.foldl_cons, List.foldl_nil, List.drop_succ_cons, List.drop_zero, Act.put, List.setIfInBounds_toArray, List.set_cons_succ, List.set_cons_zero, e17, e18, e16, e19, e20, e5]
  clear hS hap hla e17 e18 e16 e19 e20 e5
  have LL5 := hid hr.1.len
  have R5 := Z5.room (l' := r) hr.1.len
  have hR := Z5.stored (l' := r) hr.1.len
  replace M15 := M15.below (Below.setCells hw L5 0 (ints .i64 r).toArray.toList)
  replace hX := hX.next (Below.setCells hw L5 0 (ints .i64 r).toArray.toList)
  replace hW := hW.trans (Below.mono (Below.setCells hw L5 0 (ints .i64 r).toArray.toList) hW.size)
  with_reducible refine wpList_store_mid (op := ⟨none, .store 26 (.tmp 5) (.tmp 19), _, _, _, _⟩) rfl 26 (.tmp 5) (.tmp 19) rfl b5 0 (ints .i64 r).toArray rfl rfl R5 (a26 LL5.out) (ints_all _ _) ?_
  generalize (w3.setCells b5 0 (ints .i64 r).toArray.toList) = w4 at *
  clear hw  R5 LL5 L5 Z5 
  go_upto_region 5 with (fail)
  have s4 := hW.size
  refine region_seq2 4 66 (fun _ => false) [Is (.bool true), Is (.slice A15 16 c15), Is (.bool true), Is (.bool false)] [21, 22, 23, 24] (by kernel_rfl) (by kernel_rfl) (Nat.le_of_eq rfl) (grows_cons (Is.grows _) (grows_cons (Is.grows _) (grows_cons (Is.grows _) (grows_cons (Is.grows _) grows_nil))))
    ⟨step_mv rfl (.inl rfl) rfl rfl (knows_out 6 (by kernel_rfl) rfl),
     step_mv rfl (.inl rfl) rfl rfl (knows_out 4 (by kernel_rfl) rfl),
     step_rsquare rfl (.inl rfl) hx.lt rfl cf31 (by rw [HSQ.out]; exact rfl) ((knows_in 1 22 (by decide) (by kernel_rfl) rfl rfl).r H15 M15),
     step_neb rfl (.inl rfl) (b := true) rfl rfl (knows_in 0 21 (by decide) (by kernel_rfl) rfl rfl) (knows_in 2 23 (by decide) (by kernel_rfl) rfl rfl), trivial⟩ ?_
  intro val w5 hw hS hap hla
  have e21 : val 21 = (.bool true) := hS 0 21 (by decide) rfl
  have e22 : val 22 = (.slice A15 16 c15) := hS 1 22 (by decide) rfl
  have e23 : val 23 = (.bool true) := hS 2 23 (by decide) rfl
  have e24 : val 24 = (.bool false) := hS 3 24 (by decide) rfl
  simp only [putVals, List.foldl_cons, List.foldl_nil, List.drop_succ_cons, List.drop_zero, Act.put, List.setIfInBounds_toArray, List.set_cons_succ, List.set_cons_zero, e21, e22, e23, e24]
  clear hS hap hla e21 e22 e23 e24
  replace M15 := M15.below hw
  replace hX := hX.next hw
  replace hR := hR.next hw
  replace hW := hW.trans (Below.mono hw hW.size)
  clear hw
  go_upto_region 9 with (fail)
  have s5 := hW.size
  refine region_seq2 4 66 (fun i => i == 2) [Is (.agg (ints .i64 r).toArray), Is (.agg (ints .u8 (rbytes k)).toArray), IsR w5.heap.size k, IsR w5.heap.size k] [31, 32, 33, 7] (by kernel_rfl) (by kernel_rfl) (Nat.le_of_eq rfl) (grows_cons (Is.grows _) (grows_cons (Is.grows _) (grows_cons (IsR.grows _ _) (grows_cons (IsR.grows _ _) grows_nil))))
    ⟨step_el rfl (.inl rfl) hR 5 rfl (by kernel_rfl) rfl rfl,
     step_to rfl (.inl rfl) rfl cf11 hr.bytes rfl (one_arg (knows_in 0 31 (by decide) (by kernel_rfl) rfl rfl)),
     step_rof (.inl rfl) rfl cf10 rfl rk.out (knows_in 1 32 (by decide) (by kernel_rfl) rfl rfl),
     step_copyR rfl (.inl rfl) 2 33 (.inr rfl) rfl (by decide) (by kernel_rfl) rfl rfl, trivial⟩ ?_
  intro val w6 hw hS hap hla
  have e31 : val 31 = (.agg (ints .i64 r).toArray) := hS 0 31 (by decide) rfl
  have e32 : val 32 = (.agg (ints .u8 (rbytes k)).toArray) := hS 1 32 (by decide) rfl
  obtain ⟨A33, c33, y33, e33, H33, N33⟩ := hS 2 33 (by decide) rfl
  have M33 := N33.nums
  obtain ⟨A7, c7, y7, e7, H7, N7⟩ := hS 3 7 (by decide) rfl
  have M7 := N7.nums
  simp only [putVals, List.foldl_cons, List.foldl_nil, List.drop_succ_cons, List.drop_zero, Act.put, List.setIfInBounds_toArray, List.set_cons_succ, List.set_cons_zero, e31, e32, e33, e7]
  clear hS hap hla e31 e32 e33 e7
  clear N33 M33 H33
  clear N7
  replace M15 := M15.below hw
  replace hX := hX.next hw
  replace hR := hR.next hw
  replace hW := hW.trans (Below.mono hw hW.size)
  clear hw
  obtain ⟨g9, o9, rfl, _, hc9⟩ := M7.num (by rw [nl_length, H7.out.1]; omega)
  have hc0 := hc9 0 _ H7.out.first
  rw [Nat.add_zero] at hc0
  have HC0 : Hid (∀ w', Cl w6 w' → w'.cell? ⟨g9, o9, none⟩ = some (.int .i64 ((dig0 k : Nat) : Int))) := hid (fun w' h => (Below.cell h (p := ⟨g9, o9, none⟩) (by have := M7.lt0 (by rw [nl_length, H7.out.1]; omega); exact this)).trans hc0)
  clear hc9 hc0
  generalize dig0 k = q at *
  go_upto_region 10 with (fail)
  have s6 := hW.size
  refine region_seq2 13 66 (fun i => i == 2) [Is (.slice (some ⟨g9, o9, none⟩) 16 c7), Is (.slice (some ⟨g9, o9, none⟩) 16 c7), IsR w6.heap.size (k * k % NT.PN), Is (.slice A15 16 c15), Is (.bool true), Is (.bool false), Is (.bool false), Is (.slice (some ⟨g9, o9, none⟩) 16 c7), Is (.pointer (some ⟨g9, o9, none⟩)), Is (.int .i64 (q : Int)), Is (.int .i64 ((q % 2 : Nat) : Int)), Is (.bool false), Is (.bool false)] [34, 35, 36, 37, 38, 39, 40, 41, 42, 43, 44, 45, 46] (by kernel_rfl) (by kernel_rfl) (Nat.le_of_eq rfl) (grows_cons (Is.grows _) (grows_cons (Is.grows _) (grows_cons (IsR.grows _ _) (grows_cons (Is.grows _) (grows_cons (Is.grows _) (grows_cons (Is.grows _) (grows_cons (Is.grows _) (grows_cons (Is.grows _) (grows_cons (Is.grows _) (grows_cons (Is.grows _) (grows_cons (Is.grows _) (grows_cons (Is.grows _) (grows_cons (Is.grows _) grows_nil)))))))))))))
    ⟨step_mv rfl (.inl rfl) rfl rfl (knows_out 7 (by kernel_rfl) rfl),
     step_mv rfl (.inl rfl) rfl rfl (knows_out 7 (by kernel_rfl) rfl),
     step_rout (.inl rfl) rfl cf23 rfl (rout2 ((knows_in 0 34 (by decide) (by kernel_rfl) rfl rfl).r H7 M7) ((knows_in 1 35 (by decide) (by kernel_rfl) rfl rfl).r H7 M7) (fun h1 h2 h3 h4 => rmul_walk h1 h2 h3 h4)),
     step_mv rfl (.inl rfl) rfl rfl (knows_out 4 (by kernel_rfl) rfl),
     step_rsame rfl (.inl rfl) rfl cf15 (by rw [decide_eq_true HKK.out]; exact rfl) (knowsR_in 2 36 (by decide) (by kernel_rfl) rfl rfl) ((knows_in 3 37 (by decide) (by kernel_rfl) rfl rfl).r H15 M15),
     step_not rfl (.inl rfl) (b := true) rfl rfl (knows_in 4 38 (by decide) (by kernel_rfl) rfl rfl),
     step_mv rfl (.inl rfl) rfl rfl (knows_in 5 39 (by decide) (by kernel_rfl) rfl rfl),
     step_mv rfl (.inr ⟨6, false, 40, rfl, by decide, by kernel_rfl, rfl, fun _ _ h => h⟩) rfl rfl (knows_out 7 (by kernel_rfl) rfl),
     step_idx0 rfl (.inr ⟨6, false, 40, rfl, by decide, by kernel_rfl, rfl, fun _ _ h => h⟩) rfl rfl (knows_in 7 41 (by decide) (by kernel_rfl) rfl rfl),
     step_ld3 rfl (.inr ⟨6, false, 40, rfl, by decide, by kernel_rfl, rfl, fun _ _ h => h⟩) rfl rfl (knows_in 8 42 (by decide) (by kernel_rfl) rfl rfl) ⟨_, rfl⟩ HC0.out,
     step_rem2 rfl (.inr ⟨6, false, 40, rfl, by decide, by kernel_rfl, rfl, fun _ _ h => h⟩) hql rfl rfl (knows_in 9 43 (by decide) (by kernel_rfl) rfl rfl),
     step_is0 rfl (.inr ⟨6, false, 40, rfl, by decide, by kernel_rfl, rfl, fun _ _ h => h⟩) (q := q % 2) rfl rfl HOB.out (knows_in 10 44 (by decide) (by kernel_rfl) rfl rfl),
     step_pick rfl (.inl rfl) (b := false) rfl rfl (knows_in 6 40 (by decide) (by kernel_rfl) rfl rfl) (knows_in 11 45 (by decide) (by kernel_rfl) rfl rfl), trivial⟩ ?_
  intro val w7 hw hS hap hla
  have e34 : val 34 = (.slice (some ⟨g9, o9, none⟩) 16 c7) := hS 0 34 (by decide) rfl
  have e35 : val 35 = (.slice (some ⟨g9, o9, none⟩) 16 c7) := hS 1 35 (by decide) rfl
  obtain ⟨A36, c36, y36, e36, H36, N36⟩ := hS 2 36 (by decide) rfl
  have M36 := N36.nums
  have e37 : val 37 = (.slice A15 16 c15) := hS 3 37 (by decide) rfl
  have e38 : val 38 = (.bool true) := hS 4 38 (by decide) rfl
  have e39 : val 39 = (.bool false) := hS 5 39 (by decide) rfl
  have e40 : val 40 = (.bool false) := hS 6 40 (by decide) rfl
  have e41 : val 41 = (.slice (some ⟨g9, o9, none⟩) 16 c7) := hS 7 41 (by decide) rfl
  have e42 : val 42 = (.pointer (some ⟨g9, o9, none⟩)) := hS 8 42 (by decide) rfl
  have e43 : val 43 = (.int .i64 (q : Int)) := hS 9 43 (by decide) rfl
  have e44 : val 44 = (.int .i64 ((q % 2 : Nat) : Int)) := hS 10 44 (by decide) rfl
  have e45 : val 45 = (.bool false) := hS 11 45 (by decide) rfl
  have e46 : val 46 = (.bool false) := hS 12 46 (by decide) rfl
  simp only [putVals, List.foldl_cons, List.foldl_nil, List.drop_succ_cons, List.drop_zero, Act.put, List.setIfInBounds_toArray, List.set_cons_succ, List.set_cons_zero, e34, e35, e36, e37, e38, e39, e40, e41, e42, e43, e44, e45, e46]
  clear hS hap hla e34 e35 e36 e37 e38 e39 e40 e41 e42 e43 e44 e45 e46
  clear N36 M36 H36
  replace M15 := M15.below hw
  replace hX := hX.next hw
  replace hR := hR.next hw
  replace M7 := M7.below hw
  replace hW := hW.trans (Below.mono hw hW.size)
  clear hw
  go_upto_region 12 with (fail)
  have s7 := hW.size
  refine region_seq2 8 66 (fun i => i == 7) [Is (.agg (ints .i64 x).toArray), Is (.agg (ints .i64 x).toArray), Is (.agg (ints .i64 v0).toArray), Is (.tuple #[(.agg (ints .i64 s).toArray), (.bool true)]), Is (.tuple #[(.agg (ints .i64 s).toArray), (.bool true)]), Is (.agg (ints .i64 s).toArray), Is (.bool true), IsZ w7.heap.size] [48, 49, 50, 51, 47, 52, 53, 8] (by kernel_rfl) (by kernel_rfl) (Nat.le_of_eq rfl) (grows_cons (Is.grows _) (grows_cons (Is.grows _) (grows_cons (Is.grows _) (grows_cons (Is.grows _) (grows_cons (Is.grows _) (grows_cons (Is.grows _) (grows_cons (Is.grows _) (grows_cons (IsZ.grows _) grows_nil))))))))
    ⟨step_el rfl (.inl rfl) hX 3 rfl (by kernel_rfl) rfl rfl,
     step_el rfl (.inl rfl) hX 3 rfl (by kernel_rfl) rfl rfl,
     step_to rfl (.inl rfl) rfl cf22 kv0 rfl (two_args (knows_in 0 48 (by decide) (by kernel_rfl) rfl rfl) (knows_in 1 49 (by decide) (by kernel_rfl) rfl rfl)),
     step_to rfl (.inl rfl) rfl cf30 kroot2 rfl (one_arg (knows_in 2 50 (by decide) (by kernel_rfl) rfl rfl)),
     step_mv rfl (.inl rfl) rfl rfl (knows_in 3 51 (by decide) (by kernel_rfl) rfl rfl),
     step_fst rfl (.inl rfl) rfl rfl (knows_in 4 47 (by decide) (by kernel_rfl) rfl rfl),
     step_snd rfl (.inl rfl) rfl rfl (knows_in 4 47 (by decide) (by kernel_rfl) rfl rfl),
     step_alloc26 (.inl rfl) rfl rfl, trivial⟩ ?_
  intro val w8 hw hS hap hla
  have e48 : val 48 = (.agg (ints .i64 x).toArray) := hS 0 48 (by decide) rfl
  have e49 : val 49 = (.agg (ints .i64 x).toArray) := hS 1 49 (by decide) rfl
  have e50 : val 50 = (.agg (ints .i64 v0).toArray) := hS 2 50 (by decide) rfl
  have e51 : val 51 = (.tuple #[(.agg (ints .i64 s).toArray), (.bool true)]) := hS 3 51 (by decide) rfl
  have e47 : val 47 = (.tuple #[(.agg (ints .i64 s).toArray), (.bool true)]) := hS 4 47 (by decide) rfl
  have e52 : val 52 = (.agg (ints .i64 s).toArray) := hS 5 52 (by decide) rfl
  have e53 : val 53 = (.bool true) := hS 6 53 (by decide) rfl
  obtain ⟨b8, e8, L8, Z8⟩ := hS 7 8 (by decide) rfl
  simp only [putVals, List.foldl_cons, List.foldl_nil, List.drop_succ_cons, List.drop_zero, Act.put, List.setIfInBounds_toArray, List.set_cons_succ, List.set_cons_zero, e48, e49, e50, e51, e47, e52, e53, e8]
  clear hS hap hla e48 e49 e50 e51 e47 e52 e53 e8
  have LL8 := hid hs.1.len
  have R8 := Z8.room (l' := s) hs.1.len
  have hS8 := Z8.stored (l' := s) hs.1.len
  replace M15 := M15.below (Below.setCells hw L8 0 (ints .i64 s).toArray.toList)
  replace hX := hX.next (Below.setCells hw L8 0 (ints .i64 s).toArray.toList)
  replace hR := hR.next (Below.setCells hw L8 0 (ints .i64 s).toArray.toList)
  replace M7 := M7.below (Below.setCells hw L8 0 (ints .i64 s).toArray.toList)
  replace hW := hW.trans (Below.mono (Below.setCells hw L8 0 (ints .i64 s).toArray.toList) hW.size)
  with_reducible refine wpList_store_mid (op := ⟨none, .store 26 (.tmp 8) (.tmp 52), _, _, _, _⟩) rfl 26 (.tmp 8) (.tmp 52) rfl b8 0 (ints .i64 s).toArray rfl rfl R8 (a26 LL8.out) (ints_all _ _) ?_
  generalize (w8.setCells b8 0 (ints .i64 s).toArray.toList) = w9 at *
  clear hw  R8 LL8 L8 Z8 
  go_wp2_with (fail)
  have s9 := hW.size
  refine region_spec2 12 66 (fun _ => false) [Is (.bool true), Is (.bool true), Is (.agg (ints .i64 s).toArray), Is (.agg (ints .i64 x).toArray), Is (.bool false), Is (.bool false), Is (.agg (ints .i64 s).toArray), Is (.agg (ints .i64 x).toArray), Is (.agg (ints .i64 v1).toArray), Is (.bool true), Is (.bool true), Is (.bool true)] [54, 55, 56, 57, 58, 59, 60, 61, 62, 63, 64, 65] (by kernel_rfl) (by kernel_rfl) (by kernel_rfl) (Nat.le_of_eq rfl) (grows_cons (Is.grows _) (grows_cons (Is.grows _) (grows_cons (Is.grows _) (grows_cons (Is.grows _) (grows_cons (Is.grows _) (grows_cons (Is.grows _) (grows_cons (Is.grows _) (grows_cons (Is.grows _) (grows_cons (Is.grows _) (grows_cons (Is.grows _) (grows_cons (Is.grows _) (grows_cons (Is.grows _) grows_nil))))))))))))
    ⟨step_mv rfl (.inl rfl) rfl rfl (knows_out 9 (by kernel_rfl) rfl),
     step_mv rfl (.inl rfl) rfl rfl (knows_in 0 54 (by decide) (by kernel_rfl) rfl rfl),
     step_el rfl (.inr ⟨1, true, 55, rfl, by decide, by kernel_rfl, rfl, fun _ _ h => h⟩) hS8 8 rfl (by kernel_rfl) rfl rfl,
     step_el rfl (.inr ⟨1, true, 55, rfl, by decide, by kernel_rfl, rfl, fun _ _ h => h⟩) hX 3 rfl (by kernel_rfl) rfl rfl,
     step_to rfl (.inr ⟨1, true, 55, rfl, by decide, by kernel_rfl, rfl, fun _ _ h => h⟩) rfl cf14 ke1 rfl (two_args (knows_in 2 56 (by decide) (by kernel_rfl) rfl rfl) (knows_in 3 57 (by decide) (by kernel_rfl) rfl rfl)),
     step_mv rfl (.inr ⟨1, true, 55, rfl, by decide, by kernel_rfl, rfl, fun _ _ h => h⟩) rfl rfl (knows_in 4 58 (by decide) (by kernel_rfl) rfl rfl),
     step_el rfl (.inr ⟨5, false, 59, rfl, by decide, by kernel_rfl, rfl, fun _ _ h => h⟩) hS8 8 rfl (by kernel_rfl) rfl rfl,
     step_el rfl (.inr ⟨5, false, 59, rfl, by decide, by kernel_rfl, rfl, fun _ _ h => h⟩) hX 3 rfl (by kernel_rfl) rfl rfl,
     step_to rfl (.inr ⟨5, false, 59, rfl, by decide, by kernel_rfl, rfl, fun _ _ h => h⟩) rfl cf24 kv1 rfl (one_arg (knows_in 7 61 (by decide) (by kernel_rfl) rfl rfl)),
     step_to rfl (.inr ⟨5, false, 59, rfl, by decide, by kernel_rfl, rfl, fun _ _ h => h⟩) rfl cf14 ke2 rfl (two_args (knows_in 6 60 (by decide) (by kernel_rfl) rfl rfl) (knows_in 8 62 (by decide) (by kernel_rfl) rfl rfl)),
     step_pick rfl (.inr ⟨1, true, 55, rfl, by decide, by kernel_rfl, rfl, fun _ _ h => h⟩) (b := false) rfl rfl (knows_in 5 59 (by decide) (by kernel_rfl) rfl rfl) (knows_in 9 63 (by decide) (by kernel_rfl) rfl rfl),
     step_pick rfl (.inl rfl) (b := true) rfl rfl (knows_in 1 55 (by decide) (by kernel_rfl) rfl rfl) (knows_in 10 64 (by decide) (by kernel_rfl) rfl rfl), trivial⟩ ?_
  intro val w10 hw hS hap hla
  have e54 : val 54 = (.bool true) := hS 0 54 (by decide) rfl
  have e55 : val 55 = (.bool true) := hS 1 55 (by decide) rfl
  have e56 : val 56 = (.agg (ints .i64 s).toArray) := hS 2 56 (by decide) rfl
  have e57 : val 57 = (.agg (ints .i64 x).toArray) := hS 3 57 (by decide) rfl
  have e58 : val 58 = (.bool false) := hS 4 58 (by decide) rfl
  have e59 : val 59 = (.bool false) := hS 5 59 (by decide) rfl
  have e60 : val 60 = (.agg (ints .i64 s).toArray) := hS 6 60 (by decide) rfl
  have e61 : val 61 = (.agg (ints .i64 x).toArray) := hS 7 61 (by decide) rfl
  have e62 : val 62 = (.agg (ints .i64 v1).toArray) := hS 8 62 (by decide) rfl
  have e63 : val 63 = (.bool true) := hS 9 63 (by decide) rfl
  have e64 : val 64 = (.bool true) := hS 10 64 (by decide) rfl
  have e65 : val 65 = (.bool true) := hS 11 65 (by decide) rfl
  simp only [putVals, List.foldl_cons, List.foldl_nil, List.drop_succ_cons, List.drop_zero, Act.put, List.setIfInBounds_toArray, List.set_cons_succ, List.set_cons_zero, e54, e55, e56, e57, e58, e59, e60, e61, e62, e63, e64, e65]
  clear hS hap hla e54 e55 e56 e57 e58 e59 e60 e61 e62 e63 e64 e65
  replace M15 := M15.below hw
  replace hX := hX.next hw
  replace hR := hR.next hw
  replace M7 := M7.below hw
  replace hS8 := hS8.next hw
  replace hW := hW.trans (Below.mono hw hW.size)
  clear hw
  go_wp2_with (fail)
  go_ret
  exact ⟨rfl, hW⟩
theorem feRoots_walk (W : World) (b : List Int) (lb : b.length = 32) (wb : ∀ x ∈ b, (Lit.int .u8 x).wf = true) :
    Calls Try.prog 6 #[.agg (ints .u8 b).toArray] W fun e w' => e = .returned (.bool true) ∧ Below W.heap.size W w' := by
  have bb := byt_of_wf wb
  have hx := Nm.of (ofL_el bb)
  have kx := c_of lb bb
  have rb := hid (fun w : World => rof_out (w := w) lb bb hx)
  generalize (ev (ofL b) % P).toNat = m at *
  generalize ofL b = x at *
  have kroot := c_root hx.1
  have hok := ok_sq hx
  cases hk : okL x with
  | false =>
    rw [hk, root_none hk] at kroot
    rw [hk] at hok
    exact feRoots_no W b lb hx kx rb kroot (hid hok.symm)
  | true =>
    rw [hk] at kroot hok
    obtain ⟨k, hr, hkk, hev⟩ := root_num hx hk
    obtain ⟨hok2, j, hs, hj⟩ := sq_root hx
    have kroot2 := c_root (hx.mul hx).1
    rw [hok2] at kroot2
    have HOB : Hid (false = (((dig0 k % 2 : Nat) : Int) != 0)) := hid (by
      have : dig0 k % 2 = 0 := by unfold dig0; omega
      rw [this]; rfl)
    by_cases he : j = m
    · have ke1 := hs.equal hx
      rw [decide_eq_true he] at ke1
      exact feRoots_yes W b lb hx kx rb hr hs kroot (hid hok.symm) (hid hkk) HOB (hx.mul hx) hx.neg (c_mul hx.1 hx.1) (c_neg hx.1) kroot2 ke1
    · have ke1 := hs.equal hx
      rw [decide_eq_false he] at ke1
      have ke2 := hs.equal hx.neg
      rw [decide_eq_true (hj.resolve_left he)] at ke2
      exact feRoots_neg W b lb hx kx rb hr hs kroot (hid hok.symm) (hid hkk) HOB (hx.mul hx) hx.neg (c_mul hx.1 hx.1) (c_neg hx.1) kroot2 ke1 ke2
end Go.Proofs.Ytddjfhmkebhndaa
