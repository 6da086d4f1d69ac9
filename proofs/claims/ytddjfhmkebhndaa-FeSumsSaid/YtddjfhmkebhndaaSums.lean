/- Sums, differences, products and negatives are the document's: the walk. -/
import Derived.Test.YtddjfhmkebhndaaSpec2
import Derived.Deep.Cut
namespace Go.Proofs.Ytddjfhmkebhndaa
open Go.RowKit

set_option maxRecDepth 4000 in
set_option maxHeartbeats 4000000 in
theorem feSums_walk (W : World) (b : List Int) (lb : b.length = 32) (wb : ∀ x ∈ b, (Lit.int .u8 x).wf = true) (c : List Int) (lc : c.length = 32) (wc : ∀ x ∈ c, (Lit.int .u8 x).wf = true) :
    Calls Try.prog 4 #[.agg (ints .u8 b).toArray, .agg (ints .u8 c).toArray] W fun e w' => e = .returned (.bool true) ∧ Below W.heap.size W w' := by
  have bb := byt_of_wf wb
  have bc := byt_of_wf wc
  have hx := Nm.of (ofL_el bb)
  have hy := Nm.of (ofL_el bc)
  have kx := c_of lb bb
  have ky := c_of lc bc
  have rb := hid (fun w : World => rof_out (w := w) lb bb hx)
  have rc := hid (fun w : World => rof_out (w := w) lc bc hy)
  generalize (ev (ofL b) % P).toNat = m at *
  generalize (ev (ofL c) % P).toNat = n at *
  generalize ofL b = x at *
  generalize ofL c = y at *
  obtain ⟨v0, kv0, hv0⟩ : ∃ v, CallsTo 18 #[.agg (ints .i64 x).toArray, .agg (ints .i64 y).toArray] (.agg (ints .i64 v).toArray) ∧ Nm v ((m + n) % NT.PN) := ⟨_, c_add hx.1 hy.1, hx.add hy⟩
  obtain ⟨v1, kv1, hv1⟩ : ∃ v, CallsTo 20 #[.agg (ints .i64 x).toArray, .agg (ints .i64 y).toArray] (.agg (ints .i64 v).toArray) ∧ Nm v ((m + NT.PN - n) % NT.PN) := ⟨_, c_sub hx.1 hy.1, hx.sub hy⟩
  obtain ⟨v2, kv2, hv2⟩ : ∃ v, CallsTo 22 #[.agg (ints .i64 x).toArray, .agg (ints .i64 y).toArray] (.agg (ints .i64 v).toArray) ∧ Nm v (m * n % NT.PN) := ⟨_, c_mul hx.1 hy.1, hx.mul hy⟩
  obtain ⟨v3, kv3, hv3⟩ : ∃ v, CallsTo 24 #[.agg (ints .i64 x).toArray] (.agg (ints .i64 v).toArray) ∧ Nm v ((0 + NT.PN - m) % NT.PN) := ⟨_, c_neg hx.1, hx.neg⟩
  obtain ⟨v4, kv4, hv4⟩ : ∃ v, CallsTo 22 #[.agg (ints .i64 v0).toArray, .agg (ints .i64 v1).toArray] (.agg (ints .i64 v).toArray) ∧ Nm v (((m + n) % NT.PN) * ((m + NT.PN - n) % NT.PN) % NT.PN) := ⟨_, c_mul hv0.1 hv1.1, hv0.mul hv1⟩
  obtain ⟨v5, kv5, hv5⟩ : ∃ v, CallsTo 18 #[.agg (ints .i64 v4).toArray, .agg (ints .i64 y).toArray] (.agg (ints .i64 v).toArray) ∧ Nm v (((((m + n) % NT.PN) * ((m + NT.PN - n) % NT.PN) % NT.PN) + n) % NT.PN) := ⟨_, c_add hv4.1 hy.1, hv4.add hy⟩
  obtain ⟨v6, kv6, hv6⟩ : ∃ v, CallsTo 22 #[.agg (ints .i64 v5).toArray, .agg (ints .i64 v5).toArray] (.agg (ints .i64 v).toArray) ∧ Nm v ((((((m + n) % NT.PN) * ((m + NT.PN - n) % NT.PN) % NT.PN) + n) % NT.PN) * (((((m + n) % NT.PN) * ((m + NT.PN - n) % NT.PN) % NT.PN) + n) % NT.PN) % NT.PN) := ⟨_, c_mul hv5.1 hv5.1, hv5.mul hv5⟩
  have hb := (By.new W b lb).next (below_new _ (.cells (ints .u8 c).toArray 22))
  have hc := By.new (W.alloc (.cells (ints .u8 b).toArray 22)) c lc
  have hW := (below_new W (.cells (ints .u8 b).toArray 22)).alloc (by simp) (.cells (ints .u8 c).toArray 22)
  rw [World.size_alloc] at hc
  clear lb lc wb wc bb bc
  go_enter Try.func4, Try.ntmps4
  go_wp2_with (fail)
  generalize (W.alloc (.cells (ints .u8 b).toArray 22)).alloc (.cells (ints .u8 c).toArray 22) = wa at *
  refine (awake_any _).mono ?_
  rintro e w0 ⟨rfl, hb1⟩
  replace hb := hb.next hb1
  replace hc := hc.next hb1
  replace hW := hW.trans (hb1.mono hW.size)
  clear hb1
  go_wp2_with (fail)
  have s0 := hW.size
  refine region_spec2 6 96 (fun i => i == 4 || i == 5) [Is (.agg (ints .u8 b).toArray), Is (.agg (ints .i64 x).toArray), Is (.agg (ints .u8 c).toArray), Is (.agg (ints .i64 y).toArray), IsZ w0.heap.size, IsZ w0.heap.size] [13, 14, 15, 16, 5, 6] (by kernel_rfl) (by kernel_rfl) (by kernel_rfl) (Nat.le_of_eq rfl) (grows_cons (Is.grows _) (grows_cons (Is.grows _) (grows_cons (Is.grows _) (grows_cons (Is.grows _) (grows_cons (IsZ.grows _) (grows_cons (IsZ.grows _) grows_nil))))))
    ⟨step_by rfl (.inl rfl) hb 2 rfl (by kernel_rfl) rfl rfl,
     step_to rfl (.inl rfl) rfl cf9 kx rfl (one_arg (knows_in 0 13 (by decide) (by kernel_rfl) rfl rfl)),
     step_by rfl (.inl rfl) hc 3 rfl (by kernel_rfl) rfl rfl,
     step_to rfl (.inl rfl) rfl cf9 ky rfl (one_arg (knows_in 2 15 (by decide) (by kernel_rfl) rfl rfl)),
     step_alloc26 (.inl rfl) rfl rfl,
     step_alloc26 (.inl rfl) rfl rfl, trivial⟩ ?_
  intro val w1 hw hS hap hla
  have e13 : val 13 = (.agg (ints .u8 b).toArray) := hS 0 13 (by decide) rfl
  have e14 : val 14 = (.agg (ints .i64 x).toArray) := hS 1 14 (by decide) rfl
  have e15 : val 15 = (.agg (ints .u8 c).toArray) := hS 2 15 (by decide) rfl
  have e16 : val 16 = (.agg (ints .i64 y).toArray) := hS 3 16 (by decide) rfl
  obtain ⟨b5, e5, L5, Z5⟩ := hS 4 5 (by decide) rfl
  obtain ⟨b6, e6, L6, Z6⟩ := hS 5 6 (by decide) rfl
  have ne5_6 : b5 ≠ b6 := fun e => hap 4 5 5 6 (by decide) (by decide) rfl rfl (by decide) rfl rfl (by rw [e5, e6, e])
  simp only [putVals, List.foldl_cons, List.foldl_nil, List.drop_succ_cons, List.drop_zero, Act.put, List.setIfInBounds_toArray, List.set_cons_succ, List.set_cons_zero, e13, e14, e15, e16, e5, e6]
  clear hS hap hla e13 e14 e15 e16 e5 e6
  have LL5 := hid hx.1.len
  have LL6 := hid hy.1.len
  have R5 := Z5.room (l' := x) hx.1.len
  have hX := Z5.stored (l' := x) hx.1.len
  replace Z6 := Z6.past (b' := b5) (ints .i64 x).toArray.toList ne5_6
  have R6 := Z6.room (l' := y) hy.1.len
  have hY := Z6.stored (l' := y) hy.1.len
  replace hX := hX.past (b' := b6) (ints .i64 y).toArray.toList (Ne.symm ne5_6)
  replace hb := hb.next (Below.setCells (Below.setCells hw L5 0 (ints .i64 x).toArray.toList) L6 0 (ints .i64 y).toArray.toList)
  replace hc := hc.next (Below.setCells (Below.setCells hw L5 0 (ints .i64 x).toArray.toList) L6 0 (ints .i64 y).toArray.toList)
  replace hW := hW.trans (Below.mono (Below.setCells (Below.setCells hw L5 0 (ints .i64 x).toArray.toList) L6 0 (ints .i64 y).toArray.toList) hW.size)
  with_reducible refine wpList_store_mid (op := ⟨none, .store 26 (.tmp 5) (.tmp 14), _, _, _, _⟩) rfl 26 (.tmp 5) (.tmp 14) rfl b5 0 (ints .i64 x).toArray rfl rfl R5 (a26 LL5.out) (ints_all _ _) ?_
  with_reducible refine wpList_store_mid (op := ⟨none, .store 26 (.tmp 6) (.tmp 16), _, _, _, _⟩) rfl 26 (.tmp 6) (.tmp 16) rfl b6 0 (ints .i64 y).toArray rfl rfl R6 (a26 LL6.out) (ints_all _ _) ?_
  generalize ((w1.setCells b5 0 (ints .i64 x).toArray.toList).setCells b6 0 (ints .i64 y).toArray.toList) = w2 at *
  clear hw R5 LL5 L5 Z5 R6 LL6 L6 Z6 ne5_6
  go_wp2_with (fail)
  have s2 := hW.size
  refine region_spec2 4 96 (fun _ => false) [Is (.agg (ints .u8 b).toArray), IsR w2.heap.size m, Is (.agg (ints .u8 c).toArray), IsR w2.heap.size n] [17, 18, 19, 20] (by kernel_rfl) (by kernel_rfl) (by kernel_rfl) (Nat.le_of_eq rfl) (grows_cons (Is.grows _) (grows_cons (IsR.grows _ _) (grows_cons (Is.grows _) (grows_cons (IsR.grows _ _) grows_nil))))
    ⟨step_by rfl (.inl rfl) hb 2 rfl (by kernel_rfl) rfl rfl,
     step_rof rfl (.inl rfl) rfl cf10 rfl rb.out (knows_in 0 17 (by decide) (by kernel_rfl) rfl rfl),
     step_by rfl (.inl rfl) hc 3 rfl (by kernel_rfl) rfl rfl,
     step_rof rfl (.inl rfl) rfl cf10 rfl rc.out (knows_in 2 19 (by decide) (by kernel_rfl) rfl rfl), trivial⟩ ?_
  intro val w3 hw hS hap hla
  have e17 : val 17 = (.agg (ints .u8 b).toArray) := hS 0 17 (by decide) rfl
  obtain ⟨A18, c18, y18, e18, H18, N18⟩ := hS 1 18 (by decide) rfl
  have M18 := N18.nums
  have e19 : val 19 = (.agg (ints .u8 c).toArray) := hS 2 19 (by decide) rfl
  obtain ⟨A20, c20, y20, e20, H20, N20⟩ := hS 3 20 (by decide) rfl
  have M20 := N20.nums
  simp only [putVals, List.foldl_cons, List.foldl_nil, List.drop_succ_cons, List.drop_zero, Act.put, List.setIfInBounds_toArray, List.set_cons_succ, List.set_cons_zero, e17, e18, e19, e20]
  clear hS hap hla e17 e18 e19 e20
  clear N18
  clear N20
  replace hb := hb.next hw
  replace hc := hc.next hw
  replace hX := hX.next hw
  replace hY := hY.next hw
  replace hW := hW.trans (Below.mono hw hW.size)
  clear hw
  clear hb hc
  go_upto_region 5 with (fail)
  have s3 := hW.size
  refine region_seq2 41 96 (fun _ => false) [Is (.agg (ints .i64 x).toArray), Is (.agg (ints .i64 y).toArray), Is (.agg (ints .i64 v0).toArray), Is (.agg (ints .u8 (rbytes ((m + n) % NT.PN))).toArray), Is (.slice A18 16 c18), Is (.slice A20 16 c20), IsR w3.heap.size ((m + n) % NT.PN), Is (.agg (ints .u8 (rbytes ((m + n) % NT.PN))).toArray), Is (.bool false), Is (.bool false), Is (.agg (ints .i64 x).toArray), Is (.agg (ints .i64 y).toArray), Is (.agg (ints .i64 v1).toArray), Is (.agg (ints .u8 (rbytes ((m + NT.PN - n) % NT.PN))).toArray), Is (.slice A18 16 c18), Is (.slice A20 16 c20), IsR w3.heap.size ((m + NT.PN - n) % NT.PN), Is (.agg (ints .u8 (rbytes ((m + NT.PN - n) % NT.PN))).toArray), Is (.bool false), Is (.bool false), Is (.bool false), Is (.agg (ints .i64 x).toArray), Is (.agg (ints .i64 y).toArray), Is (.agg (ints .i64 v2).toArray), Is (.agg (ints .u8 (rbytes (m * n % NT.PN))).toArray), Is (.slice A18 16 c18), Is (.slice A20 16 c20), IsR w3.heap.size (m * n % NT.PN), Is (.agg (ints .u8 (rbytes (m * n % NT.PN))).toArray), Is (.bool false), Is (.bool false), Is (.bool false), Is (.agg (ints .i64 x).toArray), Is (.agg (ints .i64 v3).toArray), Is (.agg (ints .u8 (rbytes ((0 + NT.PN - m) % NT.PN))).toArray), IsR w3.heap.size 0, Is (.slice A18 16 c18), IsR w3.heap.size ((0 + NT.PN - m) % NT.PN), Is (.agg (ints .u8 (rbytes ((0 + NT.PN - m) % NT.PN))).toArray), Is (.bool false), Is (.bool false)] [21, 22, 23, 24, 25, 26, 27, 28, 29, 30, 31, 32, 33, 34, 35, 36, 37, 38, 39, 40, 41, 42, 43, 44, 45, 46, 47, 48, 49, 50, 51, 52, 53, 54, 55, 56, 57, 58, 59, 60, 61] (by kernel_rfl) (by kernel_rfl) (Nat.le_of_eq rfl) (grows_cons (Is.grows _) (grows_cons (Is.grows _) (grows_cons (Is.grows _) (grows_cons (Is.grows _) (grows_cons (Is.grows _) (grows_cons (Is.grows _) (grows_cons (IsR.grows _ _) (grows_cons (Is.grows _) (grows_cons (Is.grows _) (grows_cons (Is.grows _) (grows_cons (Is.grows _) (grows_cons (Is.grows _) (grows_cons (Is.grows _) (grows_cons (Is.grows _) (grows_cons (Is.grows _) (grows_cons (Is.grows _) (grows_cons (IsR.grows _ _) (grows_cons (Is.grows _) (grows_cons (Is.grows _) (grows_cons (Is.grows _) (grows_cons (Is.grows _) (grows_cons (Is.grows _) (grows_cons (Is.grows _) (grows_cons (Is.grows _) (grows_cons (Is.grows _) (grows_cons (Is.grows _) (grows_cons (Is.grows _) (grows_cons (IsR.grows _ _) (grows_cons (Is.grows _) (grows_cons (Is.grows _) (grows_cons (Is.grows _) (grows_cons (Is.grows _) (grows_cons (Is.grows _) (grows_cons (Is.grows _) (grows_cons (Is.grows _) (grows_cons (IsR.grows _ _) (grows_cons (Is.grows _) (grows_cons (IsR.grows _ _) (grows_cons (Is.grows _) (grows_cons (Is.grows _) (grows_cons (Is.grows _) grows_nil)))))))))))))))))))))))))))))))))))))))))
    ⟨step_el rfl (.inl rfl) hX 5 rfl (by kernel_rfl) rfl rfl,
     step_el rfl (.inl rfl) hY 6 rfl (by kernel_rfl) rfl rfl,
     step_to rfl (.inl rfl) rfl cf18 kv0 rfl (two_args (knows_in 0 21 (by decide) (by kernel_rfl) rfl rfl) (knows_in 1 22 (by decide) (by kernel_rfl) rfl rfl)),
     step_to rfl (.inl rfl) rfl cf11 hv0.bytes rfl (one_arg (knows_in 2 23 (by decide) (by kernel_rfl) rfl rfl)),
     step_mv rfl (.inl rfl) rfl rfl (knows_out 7 (by kernel_rfl) rfl),
     step_mv rfl (.inl rfl) rfl rfl (knows_out 8 (by kernel_rfl) rfl),
     step_rout rfl (.inl rfl) rfl cf19 rfl (rout2 ((knows_in 4 25 (by decide) (by kernel_rfl) rfl rfl).r H18 M18) ((knows_in 5 26 (by decide) (by kernel_rfl) rfl rfl).r H20 M20) (fun h1 h2 h3 h4 => radd_walk h1 h2 h3 h4)),
     step_rbytes rfl (.inl rfl) rfl cf12 rfl (knowsR_in 6 27 (by decide) (by kernel_rfl) rfl rfl),
     step_nes rfl (.inl rfl) rfl (rbytes_length _) rfl (knows_in 3 24 (by decide) (by kernel_rfl) rfl rfl) (knows_in 7 28 (by decide) (by kernel_rfl) rfl rfl),
     step_mv rfl (.inl rfl) rfl rfl (knows_in 8 29 (by decide) (by kernel_rfl) rfl rfl),
     step_el rfl (.inr ⟨9, false, 30, rfl, by decide, by kernel_rfl, rfl, fun _ _ h => h⟩) hX 5 rfl (by kernel_rfl) rfl rfl,
     step_el rfl (.inr ⟨9, false, 30, rfl, by decide, by kernel_rfl, rfl, fun _ _ h => h⟩) hY 6 rfl (by kernel_rfl) rfl rfl,
     step_to rfl (.inr ⟨9, false, 30, rfl, by decide, by kernel_rfl, rfl, fun _ _ h => h⟩) rfl cf20 kv1 rfl (two_args (knows_in 10 31 (by decide) (by kernel_rfl) rfl rfl) (knows_in 11 32 (by decide) (by kernel_rfl) rfl rfl)),
     step_to rfl (.inr ⟨9, false, 30, rfl, by decide, by kernel_rfl, rfl, fun _ _ h => h⟩) rfl cf11 hv1.bytes rfl (one_arg (knows_in 12 33 (by decide) (by kernel_rfl) rfl rfl)),
     step_mv rfl (.inr ⟨9, false, 30, rfl, by decide, by kernel_rfl, rfl, fun _ _ h => h⟩) rfl rfl (knows_out 7 (by kernel_rfl) rfl),
     step_mv rfl (.inr ⟨9, false, 30, rfl, by decide, by kernel_rfl, rfl, fun _ _ h => h⟩) rfl rfl (knows_out 8 (by kernel_rfl) rfl),
     step_rout rfl (.inr ⟨9, false, 30, rfl, by decide, by kernel_rfl, rfl, fun _ _ h => h⟩) rfl cf21 rfl (rout2 ((knows_in 14 35 (by decide) (by kernel_rfl) rfl rfl).r H18 M18) ((knows_in 15 36 (by decide) (by kernel_rfl) rfl rfl).r H20 M20) (fun h1 h2 h3 h4 => rsub_walk h1 h2 hx.lt hy.lt h3 h4)),
     step_rbytes rfl (.inr ⟨9, false, 30, rfl, by decide, by kernel_rfl, rfl, fun _ _ h => h⟩) rfl cf12 rfl (knowsR_in 16 37 (by decide) (by kernel_rfl) rfl rfl),
     step_nes rfl (.inr ⟨9, false, 30, rfl, by decide, by kernel_rfl, rfl, fun _ _ h => h⟩) rfl (rbytes_length _) rfl (knows_in 13 34 (by decide) (by kernel_rfl) rfl rfl) (knows_in 17 38 (by decide) (by kernel_rfl) rfl rfl),
     step_pick rfl (.inl rfl) (b := false) rfl rfl (knows_in 9 30 (by decide) (by kernel_rfl) rfl rfl) (knows_in 18 39 (by decide) (by kernel_rfl) rfl rfl),
     step_mv rfl (.inl rfl) rfl rfl (knows_in 19 40 (by decide) (by kernel_rfl) rfl rfl),
     step_el rfl (.inr ⟨20, false, 41, rfl, by decide, by kernel_rfl, rfl, fun _ _ h => h⟩) hX 5 rfl (by kernel_rfl) rfl rfl,
     step_el rfl (.inr ⟨20, false, 41, rfl, by decide, by kernel_rfl, rfl, fun _ _ h => h⟩) hY 6 rfl (by kernel_rfl) rfl rfl,
     step_to rfl (.inr ⟨20, false, 41, rfl, by decide, by kernel_rfl, rfl, fun _ _ h => h⟩) rfl cf22 kv2 rfl (two_args (knows_in 21 42 (by decide) (by kernel_rfl) rfl rfl) (knows_in 22 43 (by decide) (by kernel_rfl) rfl rfl)),
     step_to rfl (.inr ⟨20, false, 41, rfl, by decide, by kernel_rfl, rfl, fun _ _ h => h⟩) rfl cf11 hv2.bytes rfl (one_arg (knows_in 23 44 (by decide) (by kernel_rfl) rfl rfl)),
     step_mv rfl (.inr ⟨20, false, 41, rfl, by decide, by kernel_rfl, rfl, fun _ _ h => h⟩) rfl rfl (knows_out 7 (by kernel_rfl) rfl),
     step_mv rfl (.inr ⟨20, false, 41, rfl, by decide, by kernel_rfl, rfl, fun _ _ h => h⟩) rfl rfl (knows_out 8 (by kernel_rfl) rfl),
     step_rout rfl (.inr ⟨20, false, 41, rfl, by decide, by kernel_rfl, rfl, fun _ _ h => h⟩) rfl cf23 rfl (rout2 ((knows_in 25 46 (by decide) (by kernel_rfl) rfl rfl).r H18 M18) ((knows_in 26 47 (by decide) (by kernel_rfl) rfl rfl).r H20 M20) (fun h1 h2 h3 h4 => rmul_walk h1 h2 h3 h4)),
     step_rbytes rfl (.inr ⟨20, false, 41, rfl, by decide, by kernel_rfl, rfl, fun _ _ h => h⟩) rfl cf12 rfl (knowsR_in 27 48 (by decide) (by kernel_rfl) rfl rfl),
     step_nes rfl (.inr ⟨20, false, 41, rfl, by decide, by kernel_rfl, rfl, fun _ _ h => h⟩) rfl (rbytes_length _) rfl (knows_in 24 45 (by decide) (by kernel_rfl) rfl rfl) (knows_in 28 49 (by decide) (by kernel_rfl) rfl rfl),
     step_pick rfl (.inl rfl) (b := false) rfl rfl (knows_in 20 41 (by decide) (by kernel_rfl) rfl rfl) (knows_in 29 50 (by decide) (by kernel_rfl) rfl rfl),
     step_mv rfl (.inl rfl) rfl rfl (knows_in 30 51 (by decide) (by kernel_rfl) rfl rfl),
     step_el rfl (.inr ⟨31, false, 52, rfl, by decide, by kernel_rfl, rfl, fun _ _ h => h⟩) hX 5 rfl (by kernel_rfl) rfl rfl,
     step_to rfl (.inr ⟨31, false, 52, rfl, by decide, by kernel_rfl, rfl, fun _ _ h => h⟩) rfl cf24 kv3 rfl (one_arg (knows_in 32 53 (by decide) (by kernel_rfl) rfl rfl)),
     step_to rfl (.inr ⟨31, false, 52, rfl, by decide, by kernel_rfl, rfl, fun _ _ h => h⟩) rfl cf11 hv3.bytes rfl (one_arg (knows_in 33 54 (by decide) (by kernel_rfl) rfl rfl)),
     step_rsmall rfl (.inr ⟨31, false, 52, rfl, by decide, by kernel_rfl, rfl, fun _ _ h => h⟩) 0 (by decide) rfl cf17 rfl,
     step_mv rfl (.inr ⟨31, false, 52, rfl, by decide, by kernel_rfl, rfl, fun _ _ h => h⟩) rfl rfl (knows_out 7 (by kernel_rfl) rfl),
     step_rout rfl (.inr ⟨31, false, 52, rfl, by decide, by kernel_rfl, rfl, fun _ _ h => h⟩) rfl cf21 rfl (rout2 (knowsR_in 35 56 (by decide) (by kernel_rfl) rfl rfl) ((knows_in 36 57 (by decide) (by kernel_rfl) rfl rfl).r H18 M18) (fun h1 h2 h3 h4 => rsub_walk h1 h2 (by decide) hx.lt h3 h4)),
     step_rbytes rfl (.inr ⟨31, false, 52, rfl, by decide, by kernel_rfl, rfl, fun _ _ h => h⟩) rfl cf12 rfl (knowsR_in 37 58 (by decide) (by kernel_rfl) rfl rfl),
     step_nes rfl (.inr ⟨31, false, 52, rfl, by decide, by kernel_rfl, rfl, fun _ _ h => h⟩) rfl (rbytes_length _) rfl (knows_in 34 55 (by decide) (by kernel_rfl) rfl rfl) (knows_in 38 59 (by decide) (by kernel_rfl) rfl rfl),
     step_pick rfl (.inl rfl) (b := false) rfl rfl (knows_in 31 52 (by decide) (by kernel_rfl) rfl rfl) (knows_in 39 60 (by decide) (by kernel_rfl) rfl rfl), trivial⟩ ?_
  intro val w4 hw hS hap hla
  have e21 : val 21 = (.agg (ints .i64 x).toArray) := hS 0 21 (by decide) rfl
  have e22 : val 22 = (.agg (ints .i64 y).toArray) := hS 1 22 (by decide) rfl
  have e23 : val 23 = (.agg (ints .i64 v0).toArray) := hS 2 23 (by decide) rfl
  have e24 : val 24 = (.agg (ints .u8 (rbytes ((m + n) % NT.PN))).toArray) := hS 3 24 (by decide) rfl
  have e25 : val 25 = (.slice A18 16 c18) := hS 4 25 (by decide) rfl
  have e26 : val 26 = (.slice A20 16 c20) := hS 5 26 (by decide) rfl
  obtain ⟨A27, c27, y27, e27, H27, N27⟩ := hS 6 27 (by decide) rfl
  have M27 := N27.nums
  have e28 : val 28 = (.agg (ints .u8 (rbytes ((m + n) % NT.PN))).toArray) := hS 7 28 (by decide) rfl
  have e29 : val 29 = (.bool false) := hS 8 29 (by decide) rfl
  have e30 : val 30 = (.bool false) := hS 9 30 (by decide) rfl
  have e31 : val 31 = (.agg (ints .i64 x).toArray) := hS 10 31 (by decide) rfl
  have e32 : val 32 = (.agg (ints .i64 y).toArray) := hS 11 32 (by decide) rfl
  have e33 : val 33 = (.agg (ints .i64 v1).toArray) := hS 12 33 (by decide) rfl
  have e34 : val 34 = (.agg (ints .u8 (rbytes ((m + NT.PN - n) % NT.PN))).toArray) := hS 13 34 (by decide) rfl
  have e35 : val 35 = (.slice A18 16 c18) := hS 14 35 (by decide) rfl
  have e36 : val 36 = (.slice A20 16 c20) := hS 15 36 (by decide) rfl
  obtain ⟨A37, c37, y37, e37, H37, N37⟩ := hS 16 37 (by decide) rfl
  have M37 := N37.nums
  have e38 : val 38 = (.agg (ints .u8 (rbytes ((m + NT.PN - n) % NT.PN))).toArray) := hS 17 38 (by decide) rfl
  have e39 : val 39 = (.bool false) := hS 18 39 (by decide) rfl
  have e40 : val 40 = (.bool false) := hS 19 40 (by decide) rfl
  have e41 : val 41 = (.bool false) := hS 20 41 (by decide) rfl
  have e42 : val 42 = (.agg (ints .i64 x).toArray) := hS 21 42 (by decide) rfl
  have e43 : val 43 = (.agg (ints .i64 y).toArray) := hS 22 43 (by decide) rfl
  have e44 : val 44 = (.agg (ints .i64 v2).toArray) := hS 23 44 (by decide) rfl
  have e45 : val 45 = (.agg (ints .u8 (rbytes (m * n % NT.PN))).toArray) := hS 24 45 (by decide) rfl
  have e46 : val 46 = (.slice A18 16 c18) := hS 25 46 (by decide) rfl
  have e47 : val 47 = (.slice A20 16 c20) := hS 26 47 (by decide) rfl
  obtain ⟨A48, c48, y48, e48, H48, N48⟩ := hS 27 48 (by decide) rfl
  have M48 := N48.nums
  have e49 : val 49 = (.agg (ints .u8 (rbytes (m * n % NT.PN))).toArray) := hS 28 49 (by decide) rfl
  have e50 : val 50 = (.bool false) := hS 29 50 (by decide) rfl
  have e51 : val 51 = (.bool false) := hS 30 51 (by decide) rfl
  have e52 : val 52 = (.bool false) := hS 31 52 (by decide) rfl
  have e53 : val 53 = (.agg (ints .i64 x).toArray) := hS 32 53 (by decide) rfl
  have e54 : val 54 = (.agg (ints .i64 v3).toArray) := hS 33 54 (by decide) rfl
  have e55 : val 55 = (.agg (ints .u8 (rbytes ((0 + NT.PN - m) % NT.PN))).toArray) := hS 34 55 (by decide) rfl
  obtain ⟨A56, c56, y56, e56, H56, N56⟩ := hS 35 56 (by decide) rfl
  have M56 := N56.nums
  have e57 : val 57 = (.slice A18 16 c18) := hS 36 57 (by decide) rfl
  obtain ⟨A58, c58, y58, e58, H58, N58⟩ := hS 37 58 (by decide) rfl
  have M58 := N58.nums
  have e59 : val 59 = (.agg (ints .u8 (rbytes ((0 + NT.PN - m) % NT.PN))).toArray) := hS 38 59 (by decide) rfl
  have e60 : val 60 = (.bool false) := hS 39 60 (by decide) rfl
  have e61 : val 61 = (.bool false) := hS 40 61 (by decide) rfl
  simp only [putVals, List.foldl_cons, List.foldl_nil, List.drop_succ_cons, List.drop_zero, Act.put, List.setIfInBounds_toArray, List.set_cons_succ, List.set_cons_zero, e21, e22, e23, e24, e25, e26, e27, e28, e29, e30, e31, e32, e33, e34, e35, e36, e37, e38, e39, e40, e41, e42, e43, e44, e45, e46, e47, e48, e49, e50, e51, e52, e53, e54, e55, e56, e57, e58, e59, e60, e61]
  clear hS hap hla e21 e22 e23 e24 e25 e26 e27 e28 e29 e30 e31 e32 e33 e34 e35 e36 e37 e38 e39 e40 e41 e42 e43 e44 e45 e46 e47 e48 e49 e50 e51 e52 e53 e54 e55 e56 e57 e58 e59 e60 e61
  clear N27 M27 H27
  clear N37 M37 H37
  clear N48 M48 H48
  clear N56 M56 H56
  clear N58 M58 H58
  replace hX := hX.next hw
  replace hY := hY.next hw
  replace M18 := M18.below hw
  replace M20 := M20.below hw
  replace hW := hW.trans (Below.mono hw hW.size)
  clear hw
  go_wp2_with (fail)
  have s4 := hW.size
  refine region_spec2 10 96 (fun i => i == 9) [Is (.agg (ints .i64 x).toArray), Is (.agg (ints .i64 y).toArray), Is (.agg (ints .i64 v0).toArray), Is (.agg (ints .i64 x).toArray), Is (.agg (ints .i64 y).toArray), Is (.agg (ints .i64 v1).toArray), Is (.agg (ints .i64 v4).toArray), Is (.agg (ints .i64 y).toArray), Is (.agg (ints .i64 v5).toArray), IsZ w4.heap.size] [62, 63, 64, 65, 66, 67, 68, 69, 70, 9] (by kernel_rfl) (by kernel_rfl) (by kernel_rfl) (Nat.le_of_eq rfl) (grows_cons (Is.grows _) (grows_cons (Is.grows _) (grows_cons (Is.grows _) (grows_cons (Is.grows _) (grows_cons (Is.grows _) (grows_cons (Is.grows _) (grows_cons (Is.grows _) (grows_cons (Is.grows _) (grows_cons (Is.grows _) (grows_cons (IsZ.grows _) grows_nil))))))))))
    ⟨step_el rfl (.inl rfl) hX 5 rfl (by kernel_rfl) rfl rfl,
     step_el rfl (.inl rfl) hY 6 rfl (by kernel_rfl) rfl rfl,
     step_to rfl (.inl rfl) rfl cf18 kv0 rfl (two_args (knows_in 0 62 (by decide) (by kernel_rfl) rfl rfl) (knows_in 1 63 (by decide) (by kernel_rfl) rfl rfl)),
     step_el rfl (.inl rfl) hX 5 rfl (by kernel_rfl) rfl rfl,
     step_el rfl (.inl rfl) hY 6 rfl (by kernel_rfl) rfl rfl,
     step_to rfl (.inl rfl) rfl cf20 kv1 rfl (two_args (knows_in 3 65 (by decide) (by kernel_rfl) rfl rfl) (knows_in 4 66 (by decide) (by kernel_rfl) rfl rfl)),
     step_to rfl (.inl rfl) rfl cf22 kv4 rfl (two_args (knows_in 2 64 (by decide) (by kernel_rfl) rfl rfl) (knows_in 5 67 (by decide) (by kernel_rfl) rfl rfl)),
     step_el rfl (.inl rfl) hY 6 rfl (by kernel_rfl) rfl rfl,
     step_to rfl (.inl rfl) rfl cf18 kv5 rfl (two_args (knows_in 6 68 (by decide) (by kernel_rfl) rfl rfl) (knows_in 7 69 (by decide) (by kernel_rfl) rfl rfl)),
     step_alloc26 (.inl rfl) rfl rfl, trivial⟩ ?_
  intro val w5 hw hS hap hla
  have e62 : val 62 = (.agg (ints .i64 x).toArray) := hS 0 62 (by decide) rfl
  have e63 : val 63 = (.agg (ints .i64 y).toArray) := hS 1 63 (by decide) rfl
  have e64 : val 64 = (.agg (ints .i64 v0).toArray) := hS 2 64 (by decide) rfl
  have e65 : val 65 = (.agg (ints .i64 x).toArray) := hS 3 65 (by decide) rfl
  have e66 : val 66 = (.agg (ints .i64 y).toArray) := hS 4 66 (by decide) rfl
  have e67 : val 67 = (.agg (ints .i64 v1).toArray) := hS 5 67 (by decide) rfl
  have e68 : val 68 = (.agg (ints .i64 v4).toArray) := hS 6 68 (by decide) rfl
  have e69 : val 69 = (.agg (ints .i64 y).toArray) := hS 7 69 (by decide) rfl
  have e70 : val 70 = (.agg (ints .i64 v5).toArray) := hS 8 70 (by decide) rfl
  obtain ⟨b9, e9, L9, Z9⟩ := hS 9 9 (by decide) rfl
  simp only [putVals, List.foldl_cons, List.foldl_nil, List.drop_succ_cons, List.drop_zero, Act.put, List.setIfInBounds_toArray, List.set_cons_succ, List.set_cons_zero, e62, e63, e64, e65, e66, e67, e68, e69, e70, e9]
  clear hS hap hla e62 e63 e64 e65 e66 e67 e68 e69 e70 e9
  have LL9 := hid hv5.1.len
  have R9 := Z9.room (l' := v5) hv5.1.len
  have hZ := Z9.stored (l' := v5) hv5.1.len
  replace hX := hX.next (Below.setCells hw L9 0 (ints .i64 v5).toArray.toList)
  replace hY := hY.next (Below.setCells hw L9 0 (ints .i64 v5).toArray.toList)
  replace M18 := M18.below (Below.setCells hw L9 0 (ints .i64 v5).toArray.toList)
  replace M20 := M20.below (Below.setCells hw L9 0 (ints .i64 v5).toArray.toList)
  replace hW := hW.trans (Below.mono (Below.setCells hw L9 0 (ints .i64 v5).toArray.toList) hW.size)
  with_reducible refine wpList_store_mid (op := ⟨none, .store 26 (.tmp 9) (.tmp 70), _, _, _, _⟩) rfl 26 (.tmp 9) (.tmp 70) rfl b9 0 (ints .i64 v5).toArray rfl rfl R9 (a26 LL9.out) (ints_all _ _) ?_
  generalize (w5.setCells b9 0 (ints .i64 v5).toArray.toList) = w6 at *
  clear hw R9 LL9 L9 Z9 
  go_upto_region 8 with (fail)
  have s6 := hW.size
  refine region_seq2 10 96 (fun _ => false) [Is (.slice A18 16 c18), Is (.slice A20 16 c20), IsR w6.heap.size ((m + n) % NT.PN), Is (.slice A18 16 c18), Is (.slice A20 16 c20), IsR w6.heap.size ((m + NT.PN - n) % NT.PN), IsR w6.heap.size (((m + n) % NT.PN) * ((m + NT.PN - n) % NT.PN) % NT.PN), Is (.slice A20 16 c20), IsR w6.heap.size (((((m + n) % NT.PN) * ((m + NT.PN - n) % NT.PN) % NT.PN) + n) % NT.PN), IsR w6.heap.size (((((m + n) % NT.PN) * ((m + NT.PN - n) % NT.PN) % NT.PN) + n) % NT.PN)] [71, 72, 73, 74, 75, 76, 77, 78, 79, 10] (by kernel_rfl) (by kernel_rfl) (Nat.le_of_eq rfl) (grows_cons (Is.grows _) (grows_cons (Is.grows _) (grows_cons (IsR.grows _ _) (grows_cons (Is.grows _) (grows_cons (Is.grows _) (grows_cons (IsR.grows _ _) (grows_cons (IsR.grows _ _) (grows_cons (Is.grows _) (grows_cons (IsR.grows _ _) (grows_cons (IsR.grows _ _) grows_nil))))))))))
    ⟨step_mv rfl (.inl rfl) rfl rfl (knows_out 7 (by kernel_rfl) rfl),
     step_mv rfl (.inl rfl) rfl rfl (knows_out 8 (by kernel_rfl) rfl),
     step_rout rfl (.inl rfl) rfl cf19 rfl (rout2 ((knows_in 0 71 (by decide) (by kernel_rfl) rfl rfl).r H18 M18) ((knows_in 1 72 (by decide) (by kernel_rfl) rfl rfl).r H20 M20) (fun h1 h2 h3 h4 => radd_walk h1 h2 h3 h4)),
     step_mv rfl (.inl rfl) rfl rfl (knows_out 7 (by kernel_rfl) rfl),
     step_mv rfl (.inl rfl) rfl rfl (knows_out 8 (by kernel_rfl) rfl),
     step_rout rfl (.inl rfl) rfl cf21 rfl (rout2 ((knows_in 3 74 (by decide) (by kernel_rfl) rfl rfl).r H18 M18) ((knows_in 4 75 (by decide) (by kernel_rfl) rfl rfl).r H20 M20) (fun h1 h2 h3 h4 => rsub_walk h1 h2 hx.lt hy.lt h3 h4)),
     step_rout rfl (.inl rfl) rfl cf23 rfl (rout2 (knowsR_in 2 73 (by decide) (by kernel_rfl) rfl rfl) (knowsR_in 5 76 (by decide) (by kernel_rfl) rfl rfl) (fun h1 h2 h3 h4 => rmul_walk h1 h2 h3 h4)),
     step_mv rfl (.inl rfl) rfl rfl (knows_out 8 (by kernel_rfl) rfl),
     step_rout rfl (.inl rfl) rfl cf19 rfl (rout2 (knowsR_in 6 77 (by decide) (by kernel_rfl) rfl rfl) ((knows_in 7 78 (by decide) (by kernel_rfl) rfl rfl).r H20 M20) (fun h1 h2 h3 h4 => radd_walk h1 h2 h3 h4)),
     step_copyR rfl (.inl rfl) 8 79 (.inr rfl) rfl (by decide) (by kernel_rfl) rfl rfl, trivial⟩ ?_
  intro val w7 hw hS hap hla
  have e71 : val 71 = (.slice A18 16 c18) := hS 0 71 (by decide) rfl
  have e72 : val 72 = (.slice A20 16 c20) := hS 1 72 (by decide) rfl
  obtain ⟨A73, c73, y73, e73, H73, N73⟩ := hS 2 73 (by decide) rfl
  have M73 := N73.nums
  have e74 : val 74 = (.slice A18 16 c18) := hS 3 74 (by decide) rfl
  have e75 : val 75 = (.slice A20 16 c20) := hS 4 75 (by decide) rfl
  obtain ⟨A76, c76, y76, e76, H76, N76⟩ := hS 5 76 (by decide) rfl
  have M76 := N76.nums
  obtain ⟨A77, c77, y77, e77, H77, N77⟩ := hS 6 77 (by decide) rfl
  have M77 := N77.nums
  have e78 : val 78 = (.slice A20 16 c20) := hS 7 78 (by decide) rfl
  obtain ⟨A79, c79, y79, e79, H79, N79⟩ := hS 8 79 (by decide) rfl
  have M79 := N79.nums
  obtain ⟨A10, c10, y10, e10, H10, N10⟩ := hS 9 10 (by decide) rfl
  have M10 := N10.nums
  simp only [putVals, List.foldl_cons, List.foldl_nil, List.drop_succ_cons, List.drop_zero, Act.put, List.setIfInBounds_toArray, List.set_cons_succ, List.set_cons_zero, e71, e72, e73, e74, e75, e76, e77, e78, e79, e10]
  clear hS hap hla e71 e72 e73 e74 e75 e76 e77 e78 e79 e10
  clear N73 M73 H73
  clear N76 M76 H76
  clear N77 M77 H77
  clear N79 M79 H79
  clear N10
  replace hX := hX.next hw
  replace hY := hY.next hw
  replace M18 := M18.below hw
  replace M20 := M20.below hw
  replace hZ := hZ.next hw
  replace hW := hW.trans (Below.mono hw hW.size)
  clear hw
  go_upto_region 9 with (fail)
  have s7 := hW.size
  refine region_seq2 17 96 (fun _ => false) [Is (.agg (ints .i64 v5).toArray), Is (.agg (ints .u8 (rbytes (((((m + n) % NT.PN) * ((m + NT.PN - n) % NT.PN) % NT.PN) + n) % NT.PN))).toArray), Is (.slice A10 16 c10), Is (.agg (ints .u8 (rbytes (((((m + n) % NT.PN) * ((m + NT.PN - n) % NT.PN) % NT.PN) + n) % NT.PN))).toArray), Is (.bool true), Is (.bool true), Is (.agg (ints .i64 v5).toArray), Is (.agg (ints .i64 v5).toArray), Is (.agg (ints .i64 v6).toArray), Is (.agg (ints .u8 (rbytes ((((((m + n) % NT.PN) * ((m + NT.PN - n) % NT.PN) % NT.PN) + n) % NT.PN) * (((((m + n) % NT.PN) * ((m + NT.PN - n) % NT.PN) % NT.PN) + n) % NT.PN) % NT.PN))).toArray), Is (.slice A10 16 c10), Is (.slice A10 16 c10), IsR w7.heap.size ((((((m + n) % NT.PN) * ((m + NT.PN - n) % NT.PN) % NT.PN) + n) % NT.PN) * (((((m + n) % NT.PN) * ((m + NT.PN - n) % NT.PN) % NT.PN) + n) % NT.PN) % NT.PN), Is (.agg (ints .u8 (rbytes ((((((m + n) % NT.PN) * ((m + NT.PN - n) % NT.PN) % NT.PN) + n) % NT.PN) * (((((m + n) % NT.PN) * ((m + NT.PN - n) % NT.PN) % NT.PN) + n) % NT.PN) % NT.PN))).toArray), Is (.bool true), Is (.bool true), Is (.bool true)] [80, 81, 82, 83, 84, 85, 86, 87, 88, 89, 90, 91, 92, 93, 94, 95, 4] (by kernel_rfl) (by kernel_rfl) (Nat.le_of_eq rfl) (grows_cons (Is.grows _) (grows_cons (Is.grows _) (grows_cons (Is.grows _) (grows_cons (Is.grows _) (grows_cons (Is.grows _) (grows_cons (Is.grows _) (grows_cons (Is.grows _) (grows_cons (Is.grows _) (grows_cons (Is.grows _) (grows_cons (Is.grows _) (grows_cons (Is.grows _) (grows_cons (Is.grows _) (grows_cons (IsR.grows _ _) (grows_cons (Is.grows _) (grows_cons (Is.grows _) (grows_cons (Is.grows _) (grows_cons (Is.grows _) grows_nil)))))))))))))))))
    ⟨step_el rfl (.inl rfl) hZ 9 rfl (by kernel_rfl) rfl rfl,
     step_to rfl (.inl rfl) rfl cf11 hv5.bytes rfl (one_arg (knows_in 0 80 (by decide) (by kernel_rfl) rfl rfl)),
     step_mv rfl (.inl rfl) rfl rfl (knows_out 10 (by kernel_rfl) rfl),
     step_rbytes rfl (.inl rfl) rfl cf12 rfl ((knows_in 2 82 (by decide) (by kernel_rfl) rfl rfl).r H10 M10),
     step_eqs rfl (.inl rfl) rfl (rbytes_length _) rfl (knows_in 1 81 (by decide) (by kernel_rfl) rfl rfl) (knows_in 3 83 (by decide) (by kernel_rfl) rfl rfl),
     step_mv rfl (.inl rfl) rfl rfl (knows_in 4 84 (by decide) (by kernel_rfl) rfl rfl),
     step_el rfl (.inr ⟨5, true, 85, rfl, by decide, by kernel_rfl, rfl, fun _ _ h => h⟩) hZ 9 rfl (by kernel_rfl) rfl rfl,
     step_el rfl (.inr ⟨5, true, 85, rfl, by decide, by kernel_rfl, rfl, fun _ _ h => h⟩) hZ 9 rfl (by kernel_rfl) rfl rfl,
     step_to rfl (.inr ⟨5, true, 85, rfl, by decide, by kernel_rfl, rfl, fun _ _ h => h⟩) rfl cf22 kv6 rfl (two_args (knows_in 6 86 (by decide) (by kernel_rfl) rfl rfl) (knows_in 7 87 (by decide) (by kernel_rfl) rfl rfl)),
     step_to rfl (.inr ⟨5, true, 85, rfl, by decide, by kernel_rfl, rfl, fun _ _ h => h⟩) rfl cf11 hv6.bytes rfl (one_arg (knows_in 8 88 (by decide) (by kernel_rfl) rfl rfl)),
     step_mv rfl (.inr ⟨5, true, 85, rfl, by decide, by kernel_rfl, rfl, fun _ _ h => h⟩) rfl rfl (knows_out 10 (by kernel_rfl) rfl),
     step_mv rfl (.inr ⟨5, true, 85, rfl, by decide, by kernel_rfl, rfl, fun _ _ h => h⟩) rfl rfl (knows_out 10 (by kernel_rfl) rfl),
     step_rout rfl (.inr ⟨5, true, 85, rfl, by decide, by kernel_rfl, rfl, fun _ _ h => h⟩) rfl cf23 rfl (rout2 ((knows_in 10 90 (by decide) (by kernel_rfl) rfl rfl).r H10 M10) ((knows_in 11 91 (by decide) (by kernel_rfl) rfl rfl).r H10 M10) (fun h1 h2 h3 h4 => rmul_walk h1 h2 h3 h4)),
     step_rbytes rfl (.inr ⟨5, true, 85, rfl, by decide, by kernel_rfl, rfl, fun _ _ h => h⟩) rfl cf12 rfl (knowsR_in 12 92 (by decide) (by kernel_rfl) rfl rfl),
     step_eqs rfl (.inr ⟨5, true, 85, rfl, by decide, by kernel_rfl, rfl, fun _ _ h => h⟩) rfl (rbytes_length _) rfl (knows_in 9 89 (by decide) (by kernel_rfl) rfl rfl) (knows_in 13 93 (by decide) (by kernel_rfl) rfl rfl),
     step_pick rfl (.inl rfl) (b := true) rfl rfl (knows_in 5 85 (by decide) (by kernel_rfl) rfl rfl) (knows_in 14 94 (by decide) (by kernel_rfl) rfl rfl),
     step_asg rfl (.inl rfl) rfl rfl (knows_in 15 95 (by decide) (by kernel_rfl) rfl rfl), trivial⟩ ?_
  intro val w8 hw hS hap hla
  have e80 : val 80 = (.agg (ints .i64 v5).toArray) := hS 0 80 (by decide) rfl
  have e81 : val 81 = (.agg (ints .u8 (rbytes (((((m + n) % NT.PN) * ((m + NT.PN - n) % NT.PN) % NT.PN) + n) % NT.PN))).toArray) := hS 1 81 (by decide) rfl
  have e82 : val 82 = (.slice A10 16 c10) := hS 2 82 (by decide) rfl
  have e83 : val 83 = (.agg (ints .u8 (rbytes (((((m + n) % NT.PN) * ((m + NT.PN - n) % NT.PN) % NT.PN) + n) % NT.PN))).toArray) := hS 3 83 (by decide) rfl
  have e84 : val 84 = (.bool true) := hS 4 84 (by decide) rfl
  have e85 : val 85 = (.bool true) := hS 5 85 (by decide) rfl
  have e86 : val 86 = (.agg (ints .i64 v5).toArray) := hS 6 86 (by decide) rfl
  have e87 : val 87 = (.agg (ints .i64 v5).toArray) := hS 7 87 (by decide) rfl
  have e88 : val 88 = (.agg (ints .i64 v6).toArray) := hS 8 88 (by decide) rfl
  have e89 : val 89 = (.agg (ints .u8 (rbytes ((((((m + n) % NT.PN) * ((m + NT.PN - n) % NT.PN) % NT.PN) + n) % NT.PN) * (((((m + n) % NT.PN) * ((m + NT.PN - n) % NT.PN) % NT.PN) + n) % NT.PN) % NT.PN))).toArray) := hS 9 89 (by decide) rfl
  have e90 : val 90 = (.slice A10 16 c10) := hS 10 90 (by decide) rfl
  have e91 : val 91 = (.slice A10 16 c10) := hS 11 91 (by decide) rfl
  obtain ⟨A92, c92, y92, e92, H92, N92⟩ := hS 12 92 (by decide) rfl
  have M92 := N92.nums
  have e93 : val 93 = (.agg (ints .u8 (rbytes ((((((m + n) % NT.PN) * ((m + NT.PN - n) % NT.PN) % NT.PN) + n) % NT.PN) * (((((m + n) % NT.PN) * ((m + NT.PN - n) % NT.PN) % NT.PN) + n) % NT.PN) % NT.PN))).toArray) := hS 13 93 (by decide) rfl
  have e94 : val 94 = (.bool true) := hS 14 94 (by decide) rfl
  have e95 : val 95 = (.bool true) := hS 15 95 (by decide) rfl
  have e4 : val 4 = (.bool true) := hS 16 4 (by decide) rfl
  simp only [putVals, List.foldl_cons, List.foldl_nil, List.drop_succ_cons, List.drop_zero, Act.put, List.setIfInBounds_toArray, List.set_cons_succ, List.set_cons_zero, e80, e81, e82, e83, e84, e85, e86, e87, e88, e89, e90, e91, e92, e93, e94, e95, e4]
  clear hS hap hla e80 e81 e82 e83 e84 e85 e86 e87 e88 e89 e90 e91 e92 e93 e94 e95 e4
  clear N92 M92 H92
  replace hX := hX.next hw
  replace hY := hY.next hw
  replace M18 := M18.below hw
  replace M20 := M20.below hw
  replace hZ := hZ.next hw
  replace M10 := M10.below hw
  replace hW := hW.trans (Below.mono hw hW.size)
  clear hw
  go_wp2_with (fail)
  go_ret
  exact ⟨rfl, hW⟩
end Go.Proofs.Ytddjfhmkebhndaa
