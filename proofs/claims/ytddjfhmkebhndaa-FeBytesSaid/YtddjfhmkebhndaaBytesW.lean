/- Elements and their bytes are the document's: the walk. -/
import Derived.Test.YtddjfhmkebhndaaSpec3
namespace Go.Proofs.Ytddjfhmkebhndaa
open Go.RowKit

set_option maxRecDepth 4000 in
set_option maxHeartbeats 4000000 in
theorem feBytes_walk (W : World) (b : List Int) (lb : b.length = 32) (wb : ∀ x ∈ b, (Lit.int .u8 x).wf = true) (c : List Int) (lc : c.length = 32) (wc : ∀ x ∈ c, (Lit.int .u8 x).wf = true) (nn : Int) (_ : (Lit.int .i64 nn).wf = true) :
    Calls Try.prog 3 #[.agg (ints .u8 b).toArray, .agg (ints .u8 c).toArray, .int .i64 nn] W fun e w' => e = .returned (.bool true) ∧ Below W.heap.size W w' := by
  have bb := byt_of_wf wb
  have bc := byt_of_wf wc
  have hx := Nm.of (ofL_el bb)
  have hy := Nm.of (ofL_el bc)
  have kx := c_of lb bb
  have ky := c_of lc bc
  have rb := hid (fun w : World => rof_out (w := w) lb bb hx)
  have rc := hid (fun w : World => rof_out (w := w) lc bc hy)
  generalize (ev (ofL b) % P).toNat = m at *
  generalize (ev (ofL c) % P).toNat = n at *
  generalize ofL b = x at *
  generalize ofL c = y at *
  have kodd := hx.odd
  have keq := hx.equal hy
  obtain ⟨eb, heb⟩ : ∃ eb : Bool, decide (m = n) = eb := ⟨_, rfl⟩
  rw [heb] at keq
  have HEB := hid heb
  obtain ⟨ob, hob⟩ : ∃ ob : Bool, ob = (((dig0 m % 2 : Nat) : Int) == 1) := ⟨_, rfl⟩
  rw [← hob] at kodd
  have HOB := hid hob
  have ksm := c_small nn
  obtain ⟨kk, hs, hkk, hkn⟩ : ∃ kk : Nat, Nm (smallL nn) kk ∧ kk < 65536 ∧ ((0 ≤ nn ∧ nn < 65536 ∧ nn = kk) ∨ (¬ (0 ≤ nn ∧ nn < 65536) ∧ kk = 0)) := by
    by_cases h : 0 ≤ nn ∧ nn < 65536
    · obtain ⟨k, rfl⟩ := Int.eq_ofNat_of_zero_le h.1
      exact ⟨k, Nm.small k (by omega), by omega, .inl ⟨h.1, h.2, rfl⟩⟩
    · refine ⟨0, ?_, by omega, .inr ⟨h, rfl⟩⟩
      have e : smallL nn = zeros 16 := by unfold smallL; rw [if_neg (by omega)]
      rw [e]; exact Nm.zeros
  generalize smallL nn = sl at *
  clear heb hob

  have hb := (By.new W b lb).next (below_new _ (.cells (ints .u8 c).toArray 22))
  have hc := By.new (W.alloc (.cells (ints .u8 b).toArray 22)) c lc
  have hW := (below_new W (.cells (ints .u8 b).toArray 22)).alloc (by simp) (.cells (ints .u8 c).toArray 22)
  rw [World.size_alloc] at hc
  clear lb lc wb wc bb bc
  have HKN := hid hkn
  clear hkn
  go_enter Try.func3, Try.ntmps3
  go_wp2_with (fail)
  generalize (W.alloc (.cells (ints .u8 b).toArray 22)).alloc (.cells (ints .u8 c).toArray 22) = wa at *
  refine (awake_any _).mono ?_
  rintro e w0 ⟨rfl, hb1⟩
  replace hb := hb.next hb1
  replace hc := hc.next hb1
  replace hW := hW.trans (hb1.mono hW.size)
  clear hb1
  go_wp2_with (fail)
  have s0 := hW.size
  refine region_spec2 6 68 (fun i => i == 4 || i == 5) [Is (.agg (ints .u8 b).toArray), Is (.agg (ints .i64 x).toArray), Is (.agg (ints .u8 c).toArray), Is (.agg (ints .i64 y).toArray), IsZ w0.heap.size, IsZ w0.heap.size] [14, 15, 16, 17, 7, 8] (by kernel_rfl) (by kernel_rfl) (by kernel_rfl) (Nat.le_of_eq rfl) (grows_cons (Is.grows _) (grows_cons (Is.grows _) (grows_cons (Is.grows _) (grows_cons (Is.grows _) (grows_cons (IsZ.grows _) (grows_cons (IsZ.grows _) grows_nil))))))
    ⟨step_by rfl (.inl rfl) hb 3 rfl (by kernel_rfl) rfl rfl,
     step_to rfl (.inl rfl) rfl cf9 kx rfl (one_arg (knows_in 0 14 (by decide) (by kernel_rfl) rfl rfl)),
     step_by rfl (.inl rfl) hc 4 rfl (by kernel_rfl) rfl rfl,
     step_to rfl (.inl rfl) rfl cf9 ky rfl (one_arg (knows_in 2 16 (by decide) (by kernel_rfl) rfl rfl)),
     step_alloc26 (.inl rfl) rfl rfl,
     step_alloc26 (.inl rfl) rfl rfl, trivial⟩ ?_
  intro val w1 hw hS hap hla
  have e14 : val 14 = (.agg (ints .u8 b).toArray) := hS 0 14 (by decide) rfl
  have e15 : val 15 = (.agg (ints .i64 x).toArray) := hS 1 15 (by decide) rfl
  have e16 : val 16 = (.agg (ints .u8 c).toArray) := hS 2 16 (by decide) rfl
  have e17 : val 17 = (.agg (ints .i64 y).toArray) := hS 3 17 (by decide) rfl
  obtain ⟨b7, e7, L7, Z7⟩ := hS 4 7 (by decide) rfl
  obtain ⟨b8, e8, L8, Z8⟩ := hS 5 8 (by decide) rfl
  have ne7_8 : b7 ≠ b8 := fun e => hap 4 5 7 8 (by decide) (by decide) rfl rfl (by decide) rfl rfl (by rw [e7, e8, e])
  simp only [putVals, List.foldl_cons, List.foldl_nil, List.drop_succ_cons, List.drop_zero, Act.put, List.setIfInBounds_toArray, List.set_cons_succ, List.set_cons_zero, e14, e15, e16, e17, e7, e8]
  clear hS hap hla e14 e15 e16 e17 e7 e8
  have LL7 := hid hx.1.len
  have LL8 := hid hy.1.len
  have R7 := Z7.room (l' := x) hx.1.len
  have hX := Z7.stored (l' := x) hx.1.len
  replace Z8 := Z8.past (b' := b7) (ints .i64 x).toArray.toList ne7_8
  have R8 := Z8.room (l' := y) hy.1.len
  have hY := Z8.stored (l' := y) hy.1.len
  replace hX := hX.past (b' := b8) (ints .i64 y).toArray.toList (Ne.symm ne7_8)
  replace hb := hb.next (Below.setCells (Below.setCells hw L7 0 (ints .i64 x).toArray.toList) L8 0 (ints .i64 y).toArray.toList)
  replace hc := hc.next (Below.setCells (Below.setCells hw L7 0 (ints .i64 x).toArray.toList) L8 0 (ints .i64 y).toArray.toList)
  replace hW := hW.trans (Below.mono (Below.setCells (Below.setCells hw L7 0 (ints .i64 x).toArray.toList) L8 0 (ints .i64 y).toArray.toList) hW.size)
  with_reducible refine wpList_store_mid (op := ⟨none, .store 26 (.tmp 7) (.tmp 15), _, _, _, _⟩) rfl 26 (.tmp 7) (.tmp 15) rfl b7 0 (ints .i64 x).toArray rfl rfl R7 (a26 LL7.out) (ints_all _ _) ?_
  with_reducible refine wpList_store_mid (op := ⟨none, .store 26 (.tmp 8) (.tmp 17), _, _, _, _⟩) rfl 26 (.tmp 8) (.tmp 17) rfl b8 0 (ints .i64 y).toArray rfl rfl R8 (a26 LL8.out) (ints_all _ _) ?_
  generalize ((w1.setCells b7 0 (ints .i64 x).toArray.toList).setCells b8 0 (ints .i64 y).toArray.toList) = w2 at *
  clear hw R7 LL7 L7 Z7 R8 LL8 L8 Z8 ne7_8
  go_wp2_with (fail)
  have s2 := hW.size
  refine region_spec2 4 68 (fun _ => false) [Is (.agg (ints .u8 b).toArray), IsR w2.heap.size m, Is (.agg (ints .u8 c).toArray), IsR w2.heap.size n] [18, 19, 20, 21] (by kernel_rfl) (by kernel_rfl) (by kernel_rfl) (Nat.le_of_eq rfl) (grows_cons (Is.grows _) (grows_cons (IsR.grows _ _) (grows_cons (Is.grows _) (grows_cons (IsR.grows _ _) grows_nil))))
    ⟨step_by rfl (.inl rfl) hb 3 rfl (by kernel_rfl) rfl rfl,
     step_rof rfl (.inl rfl) rfl cf10 rfl rb.out (knows_in 0 18 (by decide) (by kernel_rfl) rfl rfl),
     step_by rfl (.inl rfl) hc 4 rfl (by kernel_rfl) rfl rfl,
     step_rof rfl (.inl rfl) rfl cf10 rfl rc.out (knows_in 2 20 (by decide) (by kernel_rfl) rfl rfl), trivial⟩ ?_
  intro val w3 hw hS hap hla
  have e18 : val 18 = (.agg (ints .u8 b).toArray) := hS 0 18 (by decide) rfl
  obtain ⟨A19, c19, y19, e19, H19, N19⟩ := hS 1 19 (by decide) rfl
  have M19 := N19.nums
  have e20 : val 20 = (.agg (ints .u8 c).toArray) := hS 2 20 (by decide) rfl
  obtain ⟨A21, c21, y21, e21, H21, N21⟩ := hS 3 21 (by decide) rfl
  have M21 := N21.nums
  simp only [putVals, List.foldl_cons, List.foldl_nil, List.drop_succ_cons, List.drop_zero, Act.put, List.setIfInBounds_toArray, List.set_cons_succ, List.set_cons_zero, e18, e19, e20, e21]
  clear hS hap hla e18 e19 e20 e21
  clear N19
  clear N21
  replace hb := hb.next hw
  replace hc := hc.next hw
  replace hX := hX.next hw
  replace hY := hY.next hw
  replace hW := hW.trans (Below.mono hw hW.size)
  clear hw
  clear hb hc
  obtain ⟨g9, o9, rfl, _, hc9⟩ := M19.num (by rw [nl_length, H19.out.1]; omega)
  have hc0 := hc9 0 _ H19.out.first
  rw [Nat.add_zero] at hc0
  have HC0 : Hid (∀ w', Cl w3 w' → w'.cell? ⟨g9, o9, none⟩ = some (.int .i64 ((dig0 m : Nat) : Int))) := hid (fun w' h => (Below.cell h (p := ⟨g9, o9, none⟩) (by have := M19.lt0 (by rw [nl_length, H19.out.1]; omega); exact this)).trans hc0)
  clear hc9 hc0
  generalize hq : dig0 m = q at *
  have hql : q < 65536 := by rw [← hq]; exact Nat.mod_lt _ (by omega)
  have HQ := hid hq
  clear hq
  rcases HKN.out with ⟨n0, n1, hkn⟩ | ⟨hno, hk0⟩
  · subst hkn
    go_wp2_with (fail)
    have s3 := hW.size
    refine region_spec2 39 68 (fun _ => false) [Is (.agg (ints .i64 x).toArray), Is (.agg (ints .u8 (rbytes m)).toArray), Is (.slice (some ⟨g9, o9, none⟩) 16 c19), Is (.agg (ints .u8 (rbytes m)).toArray), Is (.bool true), Is (.bool true), Is (.agg (ints .i64 x).toArray), Is (.bool ob), Is (.slice (some ⟨g9, o9, none⟩) 16 c19), Is (.pointer (some ⟨g9, o9, none⟩)), Is (.int .i64 (q : Int)), Is (.int .i64 ((q % 2 : Nat) : Int)), Is (.bool ob), Is (.bool true), Is (.bool true), Is (.bool true), Is (.agg (ints .i64 x).toArray), Is (.agg (ints .i64 y).toArray), Is (.bool eb), Is (.slice (some ⟨g9, o9, none⟩) 16 c19), Is (.slice A21 16 c21), Is (.bool eb), Is (.bool true), Is (.bool true), Is (.bool true), Is (.int .i64 (kk : Int)), Is (.agg (ints .i64 sl).toArray), Is (.agg (ints .u8 (rbytes kk)).toArray), Is (.int .i64 (kk : Int)), IsR w3.heap.size kk, Is (.agg (ints .u8 (rbytes kk)).toArray), Is (.bool true), Is (.bool true), Is (.bool true), Is (.agg (ints .i64 (zeros 16)).toArray), Is (.agg (ints .u8 (rbytes 0)).toArray), Is (.agg (ints .u8 (rbytes 0)).toArray), Is (.bool true), Is (.bool true)] [29, 30, 31, 32, 33, 34, 35, 36, 37, 38, 39, 40, 41, 42, 43, 44, 45, 46, 47, 48, 49, 50, 51, 52, 53, 54, 55, 56, 57, 58, 59, 60, 61, 62, 63, 64, 65, 66, 67] (by kernel_rfl) (by kernel_rfl) (by kernel_rfl) (Nat.le_of_eq rfl) (grows_cons (Is.grows _) (grows_cons (Is.grows _) (grows_cons (Is.grows _) (grows_cons (Is.grows _) (grows_cons (Is.grows _) (grows_cons (Is.grows _) (grows_cons (Is.grows _) (grows_cons (Is.grows _) (grows_cons (Is.grows _) (grows_cons (Is.grows _) (grows_cons (Is.grows _) (grows_cons (Is.grows _) (grows_cons (Is.grows _) (grows_cons (Is.grows _) (grows_cons (Is.grows _) (grows_cons (Is.grows _) (grows_cons (Is.grows _) (grows_cons (Is.grows _) (grows_cons (Is.grows _) (grows_cons (Is.grows _) (grows_cons (Is.grows _) (grows_cons (Is.grows _) (grows_cons (Is.grows _) (grows_cons (Is.grows _) (grows_cons (Is.grows _) (grows_cons (Is.grows _) (grows_cons (Is.grows _) (grows_cons (Is.grows _) (grows_cons (Is.grows _) (grows_cons (IsR.grows _ _) (grows_cons (Is.grows _) (grows_cons (Is.grows _) (grows_cons (Is.grows _) (grows_cons (Is.grows _) (grows_cons (Is.grows _) (grows_cons (Is.grows _) (grows_cons (Is.grows _) (grows_cons (Is.grows _) (grows_cons (Is.grows _) grows_nil)))))))))))))))))))))))))))))))))))))))
      ⟨step_el rfl (.inl rfl) hX 7 rfl (by kernel_rfl) rfl rfl,
       step_to rfl (.inl rfl) rfl cf11 hx.bytes rfl (one_arg (knows_in 0 29 (by decide) (by kernel_rfl) rfl rfl)),
       step_mv rfl (.inl rfl) rfl rfl (knows_out 9 (by kernel_rfl) rfl),
       step_rbytes rfl (.inl rfl) rfl cf12 rfl ((knows_in 2 31 (by decide) (by kernel_rfl) rfl rfl).r H19 M19),
       step_eqs rfl (.inl rfl) rfl (rbytes_length _) rfl (knows_in 1 30 (by decide) (by kernel_rfl) rfl rfl) (knows_in 3 32 (by decide) (by kernel_rfl) rfl rfl),
       step_mv rfl (.inl rfl) rfl rfl (knows_in 4 33 (by decide) (by kernel_rfl) rfl rfl),
       step_el rfl (.inr ⟨5, true, 34, rfl, by decide, by kernel_rfl, rfl, fun _ _ h => h⟩) hX 7 rfl (by kernel_rfl) rfl rfl,
       step_to rfl (.inr ⟨5, true, 34, rfl, by decide, by kernel_rfl, rfl, fun _ _ h => h⟩) rfl cf13 kodd rfl (one_arg (knows_in 6 35 (by decide) (by kernel_rfl) rfl rfl)),
       step_mv rfl (.inr ⟨5, true, 34, rfl, by decide, by kernel_rfl, rfl, fun _ _ h => h⟩) rfl rfl (knows_out 9 (by kernel_rfl) rfl),
       step_idx0 rfl (.inr ⟨5, true, 34, rfl, by decide, by kernel_rfl, rfl, fun _ _ h => h⟩) rfl rfl (knows_in 8 37 (by decide) (by kernel_rfl) rfl rfl),
       step_ld3 rfl (.inr ⟨5, true, 34, rfl, by decide, by kernel_rfl, rfl, fun _ _ h => h⟩) rfl rfl (knows_in 9 38 (by decide) (by kernel_rfl) rfl rfl) ⟨_, rfl⟩ HC0.out,
       step_rem2 rfl (.inr ⟨5, true, 34, rfl, by decide, by kernel_rfl, rfl, fun _ _ h => h⟩) hql rfl rfl (knows_in 10 39 (by decide) (by kernel_rfl) rfl rfl),
       step_is1 rfl (.inr ⟨5, true, 34, rfl, by decide, by kernel_rfl, rfl, fun _ _ h => h⟩) (q := q % 2) rfl rfl HOB.out (knows_in 11 40 (by decide) (by kernel_rfl) rfl rfl),
       step_eqb rfl (.inr ⟨5, true, 34, rfl, by decide, by kernel_rfl, rfl, fun _ _ h => h⟩) (b := ob) rfl rfl (knows_in 7 36 (by decide) (by kernel_rfl) rfl rfl) (knows_in 12 41 (by decide) (by kernel_rfl) rfl rfl),
       step_pick rfl (.inl rfl) (b := true) rfl rfl (knows_in 5 34 (by decide) (by kernel_rfl) rfl rfl) (knows_in 13 42 (by decide) (by kernel_rfl) rfl rfl),
       step_mv rfl (.inl rfl) rfl rfl (knows_in 14 43 (by decide) (by kernel_rfl) rfl rfl),
       step_el rfl (.inr ⟨15, true, 44, rfl, by decide, by kernel_rfl, rfl, fun _ _ h => h⟩) hX 7 rfl (by kernel_rfl) rfl rfl,
       step_el rfl (.inr ⟨15, true, 44, rfl, by decide, by kernel_rfl, rfl, fun _ _ h => h⟩) hY 8 rfl (by kernel_rfl) rfl rfl,
       step_to rfl (.inr ⟨15, true, 44, rfl, by decide, by kernel_rfl, rfl, fun _ _ h => h⟩) rfl cf14 keq rfl (two_args (knows_in 16 45 (by decide) (by kernel_rfl) rfl rfl) (knows_in 17 46 (by decide) (by kernel_rfl) rfl rfl)),
       step_mv rfl (.inr ⟨15, true, 44, rfl, by decide, by kernel_rfl, rfl, fun _ _ h => h⟩) rfl rfl (knows_out 9 (by kernel_rfl) rfl),
       step_mv rfl (.inr ⟨15, true, 44, rfl, by decide, by kernel_rfl, rfl, fun _ _ h => h⟩) rfl rfl (knows_out 10 (by kernel_rfl) rfl),
       step_rsame rfl (.inr ⟨15, true, 44, rfl, by decide, by kernel_rfl, rfl, fun _ _ h => h⟩) rfl cf15 (by rw [HEB.out]; exact rfl) ((knows_in 19 48 (by decide) (by kernel_rfl) rfl rfl).r H19 M19) ((knows_in 20 49 (by decide) (by kernel_rfl) rfl rfl).r H21 M21),
       step_eqb rfl (.inr ⟨15, true, 44, rfl, by decide, by kernel_rfl, rfl, fun _ _ h => h⟩) (b := eb) rfl rfl (knows_in 18 47 (by decide) (by kernel_rfl) rfl rfl) (knows_in 21 50 (by decide) (by kernel_rfl) rfl rfl),
       step_pick rfl (.inl rfl) (b := true) rfl rfl (knows_in 15 44 (by decide) (by kernel_rfl) rfl rfl) (knows_in 22 51 (by decide) (by kernel_rfl) rfl rfl),
       step_mv rfl (.inl rfl) rfl rfl (knows_in 23 52 (by decide) (by kernel_rfl) rfl rfl),
       step_mv rfl (.inr ⟨24, true, 53, rfl, by decide, by kernel_rfl, rfl, fun _ _ h => h⟩) rfl rfl (knows_out 2 (by kernel_rfl) rfl),
       step_to rfl (.inr ⟨24, true, 53, rfl, by decide, by kernel_rfl, rfl, fun _ _ h => h⟩) rfl cf16 ksm rfl (one_arg (knows_in 25 54 (by decide) (by kernel_rfl) rfl rfl)),
       step_to rfl (.inr ⟨24, true, 53, rfl, by decide, by kernel_rfl, rfl, fun _ _ h => h⟩) rfl cf11 hs.bytes rfl (one_arg (knows_in 26 55 (by decide) (by kernel_rfl) rfl rfl)),
       step_mv rfl (.inr ⟨24, true, 53, rfl, by decide, by kernel_rfl, rfl, fun _ _ h => h⟩) rfl rfl (knows_out 11 (by kernel_rfl) rfl),
       step_rsmallK rfl (.inr ⟨24, true, 53, rfl, by decide, by kernel_rfl, rfl, fun _ _ h => h⟩) kk hkk rfl cf17 rfl (knows_in 28 57 (by decide) (by kernel_rfl) rfl rfl),
       step_rbytes rfl (.inr ⟨24, true, 53, rfl, by decide, by kernel_rfl, rfl, fun _ _ h => h⟩) rfl cf12 rfl (knowsR_in 29 58 (by decide) (by kernel_rfl) rfl rfl),
       step_eqs rfl (.inr ⟨24, true, 53, rfl, by decide, by kernel_rfl, rfl, fun _ _ h => h⟩) rfl (rbytes_length _) rfl (knows_in 27 56 (by decide) (by kernel_rfl) rfl rfl) (knows_in 30 59 (by decide) (by kernel_rfl) rfl rfl),
       step_pick rfl (.inl rfl) (b := true) rfl rfl (knows_in 24 53 (by decide) (by kernel_rfl) rfl rfl) (knows_in 31 60 (by decide) (by kernel_rfl) rfl rfl),
       step_mv rfl (.inl rfl) rfl rfl (knows_in 32 61 (by decide) (by kernel_rfl) rfl rfl),
       step_zero26 rfl (.inr ⟨33, true, 62, rfl, by decide, by kernel_rfl, rfl, fun _ _ h => h⟩) rfl rfl,
       step_to rfl (.inr ⟨33, true, 62, rfl, by decide, by kernel_rfl, rfl, fun _ _ h => h⟩) rfl cf11 Nm.zeros.bytes rfl (one_arg (knows_in 34 63 (by decide) (by kernel_rfl) rfl rfl)),
       step_zero22 rfl (.inr ⟨33, true, 62, rfl, by decide, by kernel_rfl, rfl, fun _ _ h => h⟩) rfl rfl,
       step_eqs rfl (.inr ⟨33, true, 62, rfl, by decide, by kernel_rfl, rfl, fun _ _ h => h⟩) rfl (rbytes_length _) rfl (knows_in 35 64 (by decide) (by kernel_rfl) rfl rfl) (knows_in 36 65 (by decide) (by kernel_rfl) rfl rfl),
       step_pick rfl (.inl rfl) (b := true) rfl rfl (knows_in 33 62 (by decide) (by kernel_rfl) rfl rfl) (knows_in 37 66 (by decide) (by kernel_rfl) rfl rfl), trivial⟩ ?_
    intro val w4 hw hS hap hla
    have e29 : val 29 = (.agg (ints .i64 x).toArray) := hS 0 29 (by decide) rfl
    have e30 : val 30 = (.agg (ints .u8 (rbytes m)).toArray) := hS 1 30 (by decide) rfl
    have e31 : val 31 = (.slice (some ⟨g9, o9, none⟩) 16 c19) := hS 2 31 (by decide) rfl
    have e32 : val 32 = (.agg (ints .u8 (rbytes m)).toArray) := hS 3 32 (by decide) rfl
    have e33 : val 33 = (.bool true) := hS 4 33 (by decide) rfl
    have e34 : val 34 = (.bool true) := hS 5 34 (by decide) rfl
    have e35 : val 35 = (.agg (ints .i64 x).toArray) := hS 6 35 (by decide) rfl
    have e36 : val 36 = (.bool ob) := hS 7 36 (by decide) rfl
    have e37 : val 37 = (.slice (some ⟨g9, o9, none⟩) 16 c19) := hS 8 37 (by decide) rfl
    have e38 : val 38 = (.pointer (some ⟨g9, o9, none⟩)) := hS 9 38 (by decide) rfl
    have e39 : val 39 = (.int .i64 (q : Int)) := hS 10 39 (by decide) rfl
    have e40 : val 40 = (.int .i64 ((q % 2 : Nat) : Int)) := hS 11 40 (by decide) rfl
    have e41 : val 41 = (.bool ob) := hS 12 41 (by decide) rfl
    have e42 : val 42 = (.bool true) := hS 13 42 (by decide) rfl
    have e43 : val 43 = (.bool true) := hS 14 43 (by decide) rfl
    have e44 : val 44 = (.bool true) := hS 15 44 (by decide) rfl
    have e45 : val 45 = (.agg (ints .i64 x).toArray) := hS 16 45 (by decide) rfl
    have e46 : val 46 = (.agg (ints .i64 y).toArray) := hS 17 46 (by decide) rfl
    have e47 : val 47 = (.bool eb) := hS 18 47 (by decide) rfl
    have e48 : val 48 = (.slice (some ⟨g9, o9, none⟩) 16 c19) := hS 19 48 (by decide) rfl
    have e49 : val 49 = (.slice A21 16 c21) := hS 20 49 (by decide) rfl
    have e50 : val 50 = (.bool eb) := hS 21 50 (by decide) rfl
    have e51 : val 51 = (.bool true) := hS 22 51 (by decide) rfl
    have e52 : val 52 = (.bool true) := hS 23 52 (by decide) rfl
    have e53 : val 53 = (.bool true) := hS 24 53 (by decide) rfl
    have e54 : val 54 = (.int .i64 (kk : Int)) := hS 25 54 (by decide) rfl
    have e55 : val 55 = (.agg (ints .i64 sl).toArray) := hS 26 55 (by decide) rfl
    have e56 : val 56 = (.agg (ints .u8 (rbytes kk)).toArray) := hS 27 56 (by decide) rfl
    have e57 : val 57 = (.int .i64 (kk : Int)) := hS 28 57 (by decide) rfl
    obtain ⟨A58, c58, y58, e58, H58, N58⟩ := hS 29 58 (by decide) rfl
    have M58 := N58.nums
    have e59 : val 59 = (.agg (ints .u8 (rbytes kk)).toArray) := hS 30 59 (by decide) rfl
    have e60 : val 60 = (.bool true) := hS 31 60 (by decide) rfl
    have e61 : val 61 = (.bool true) := hS 32 61 (by decide) rfl
    have e62 : val 62 = (.bool true) := hS 33 62 (by decide) rfl
    have e63 : val 63 = (.agg (ints .i64 (zeros 16)).toArray) := hS 34 63 (by decide) rfl
    have e64 : val 64 = (.agg (ints .u8 (rbytes 0)).toArray) := hS 35 64 (by decide) rfl
    have e65 : val 65 = (.agg (ints .u8 (rbytes 0)).toArray) := hS 36 65 (by decide) rfl
    have e66 : val 66 = (.bool true) := hS 37 66 (by decide) rfl
    have e67 : val 67 = (.bool true) := hS 38 67 (by decide) rfl
    simp only [putVals, List.foldl_cons, List.foldl_nil, List.drop_succ_cons, List.drop_zero, Act.put, List.setIfInBounds_toArray, List.set_cons_succ, List.set_cons_zero, e29, e30, e31, e32, e33, e34, e35, e36, e37, e38, e39, e40, e41, e42, e43, e44, e45, e46, e47, e48, e49, e50, e51, e52, e53, e54, e55, e56, e57, e58, e59, e60, e61, e62, e63, e64, e65, e66, e67]
    clear hS hap hla e29 e30 e31 e32 e33 e34 e35 e36 e37 e38 e39 e40 e41 e42 e43 e44 e45 e46 e47 e48 e49 e50 e51 e52 e53 e54 e55 e56 e57 e58 e59 e60 e61 e62 e63 e64 e65 e66 e67
    clear N58 M58 H58
    replace hX := hX.next hw
    replace hY := hY.next hw
    replace M19 := M19.below hw
    replace M21 := M21.below hw
    replace hW := hW.trans (Below.mono hw hW.size)
    clear hw
    go_wp2_with (fail)
    go_ret
    exact ⟨rfl, hW⟩
  · subst hk0
    by_cases n0 : 0 ≤ nn
    · have n1 : ¬ nn < 65536 := fun h => hno ⟨n0, h⟩
      clear hno
      go_wp2_with (fail)
      have s3 := hW.size
      refine region_spec2 39 68 (fun _ => false) [Is (.agg (ints .i64 x).toArray), Is (.agg (ints .u8 (rbytes m)).toArray), Is (.slice (some ⟨g9, o9, none⟩) 16 c19), Is (.agg (ints .u8 (rbytes m)).toArray), Is (.bool true), Is (.bool true), Is (.agg (ints .i64 x).toArray), Is (.bool ob), Is (.slice (some ⟨g9, o9, none⟩) 16 c19), Is (.pointer (some ⟨g9, o9, none⟩)), Is (.int .i64 (q : Int)), Is (.int .i64 ((q % 2 : Nat) : Int)), Is (.bool ob), Is (.bool true), Is (.bool true), Is (.bool true), Is (.agg (ints .i64 x).toArray), Is (.agg (ints .i64 y).toArray), Is (.bool eb), Is (.slice (some ⟨g9, o9, none⟩) 16 c19), Is (.slice A21 16 c21), Is (.bool eb), Is (.bool true), Is (.bool true), Is (.bool true), Is (.int .i64 nn), Is (.agg (ints .i64 sl).toArray), Is (.agg (ints .u8 (rbytes 0)).toArray), Is (.int .i64 ((0 : Nat) : Int)), IsR w3.heap.size 0, Is (.agg (ints .u8 (rbytes 0)).toArray), Is (.bool true), Is (.bool true), Is (.bool true), Is (.agg (ints .i64 (zeros 16)).toArray), Is (.agg (ints .u8 (rbytes 0)).toArray), Is (.agg (ints .u8 (rbytes 0)).toArray), Is (.bool true), Is (.bool true)] [29, 30, 31, 32, 33, 34, 35, 36, 37, 38, 39, 40, 41, 42, 43, 44, 45, 46, 47, 48, 49, 50, 51, 52, 53, 54, 55, 56, 57, 58, 59, 60, 61, 62, 63, 64, 65, 66, 67] (by kernel_rfl) (by kernel_rfl) (by kernel_rfl) (Nat.le_of_eq rfl) (grows_cons (Is.grows _) (grows_cons (Is.grows _) (grows_cons (Is.grows _) (grows_cons (Is.grows _) (grows_cons (Is.grows _) (grows_cons (Is.grows _) (grows_cons (Is.grows _) (grows_cons (Is.grows _) (grows_cons (Is.grows _) (grows_cons (Is.grows _) (grows_cons (Is.grows _) (grows_cons (Is.grows _) (grows_cons (Is.grows _) (grows_cons (Is.grows _) (grows_cons (Is.grows _) (grows_cons (Is.grows _) (grows_cons (Is.grows _) (grows_cons (Is.grows _) (grows_cons (Is.grows _) (grows_cons (Is.grows _) (grows_cons (Is.grows _) (grows_cons (Is.grows _) (grows_cons (Is.grows _) (grows_cons (Is.grows _) (grows_cons (Is.grows _) (grows_cons (Is.grows _) (grows_cons (Is.grows _) (grows_cons (Is.grows _) (grows_cons (Is.grows _) (grows_cons (IsR.grows _ _) (grows_cons (Is.grows _) (grows_cons (Is.grows _) (grows_cons (Is.grows _) (grows_cons (Is.grows _) (grows_cons (Is.grows _) (grows_cons (Is.grows _) (grows_cons (Is.grows _) (grows_cons (Is.grows _) (grows_cons (Is.grows _) grows_nil)))))))))))))))))))))))))))))))))))))))
        ⟨step_el rfl (.inl rfl) hX 7 rfl (by kernel_rfl) rfl rfl,
         step_to rfl (.inl rfl) rfl cf11 hx.bytes rfl (one_arg (knows_in 0 29 (by decide) (by kernel_rfl) rfl rfl)),
         step_mv rfl (.inl rfl) rfl rfl (knows_out 9 (by kernel_rfl) rfl),
         step_rbytes rfl (.inl rfl) rfl cf12 rfl ((knows_in 2 31 (by decide) (by kernel_rfl) rfl rfl).r H19 M19),
         step_eqs rfl (.inl rfl) rfl (rbytes_length _) rfl (knows_in 1 30 (by decide) (by kernel_rfl) rfl rfl) (knows_in 3 32 (by decide) (by kernel_rfl) rfl rfl),
         step_mv rfl (.inl rfl) rfl rfl (knows_in 4 33 (by decide) (by kernel_rfl) rfl rfl),
         step_el rfl (.inr ⟨5, true, 34, rfl, by decide, by kernel_rfl, rfl, fun _ _ h => h⟩) hX 7 rfl (by kernel_rfl) rfl rfl,
         step_to rfl (.inr ⟨5, true, 34, rfl, by decide, by kernel_rfl, rfl, fun _ _ h => h⟩) rfl cf13 kodd rfl (one_arg (knows_in 6 35 (by decide) (by kernel_rfl) rfl rfl)),
         step_mv rfl (.inr ⟨5, true, 34, rfl, by decide, by kernel_rfl, rfl, fun _ _ h => h⟩) rfl rfl (knows_out 9 (by kernel_rfl) rfl),
         step_idx0 rfl (.inr ⟨5, true, 34, rfl, by decide, by kernel_rfl, rfl, fun _ _ h => h⟩) rfl rfl (knows_in 8 37 (by decide) (by kernel_rfl) rfl rfl),
         step_ld3 rfl (.inr ⟨5, true, 34, rfl, by decide, by kernel_rfl, rfl, fun _ _ h => h⟩) rfl rfl (knows_in 9 38 (by decide) (by kernel_rfl) rfl rfl) ⟨_, rfl⟩ HC0.out,
         step_rem2 rfl (.inr ⟨5, true, 34, rfl, by decide, by kernel_rfl, rfl, fun _ _ h => h⟩) hql rfl rfl (knows_in 10 39 (by decide) (by kernel_rfl) rfl rfl),
         step_is1 rfl (.inr ⟨5, true, 34, rfl, by decide, by kernel_rfl, rfl, fun _ _ h => h⟩) (q := q % 2) rfl rfl HOB.out (knows_in 11 40 (by decide) (by kernel_rfl) rfl rfl),
         step_eqb rfl (.inr ⟨5, true, 34, rfl, by decide, by kernel_rfl, rfl, fun _ _ h => h⟩) (b := ob) rfl rfl (knows_in 7 36 (by decide) (by kernel_rfl) rfl rfl) (knows_in 12 41 (by decide) (by kernel_rfl) rfl rfl),
         step_pick rfl (.inl rfl) (b := true) rfl rfl (knows_in 5 34 (by decide) (by kernel_rfl) rfl rfl) (knows_in 13 42 (by decide) (by kernel_rfl) rfl rfl),
         step_mv rfl (.inl rfl) rfl rfl (knows_in 14 43 (by decide) (by kernel_rfl) rfl rfl),
         step_el rfl (.inr ⟨15, true, 44, rfl, by decide, by kernel_rfl, rfl, fun _ _ h => h⟩) hX 7 rfl (by kernel_rfl) rfl rfl,
         step_el rfl (.inr ⟨15, true, 44, rfl, by decide, by kernel_rfl, rfl, fun _ _ h => h⟩) hY 8 rfl (by kernel_rfl) rfl rfl,
         step_to rfl (.inr ⟨15, true, 44, rfl, by decide, by kernel_rfl, rfl, fun _ _ h => h⟩) rfl cf14 keq rfl (two_args (knows_in 16 45 (by decide) (by kernel_rfl) rfl rfl) (knows_in 17 46 (by decide) (by kernel_rfl) rfl rfl)),
         step_mv rfl (.inr ⟨15, true, 44, rfl, by decide, by kernel_rfl, rfl, fun _ _ h => h⟩) rfl rfl (knows_out 9 (by kernel_rfl) rfl),
         step_mv rfl (.inr ⟨15, true, 44, rfl, by decide, by kernel_rfl, rfl, fun _ _ h => h⟩) rfl rfl (knows_out 10 (by kernel_rfl) rfl),
         step_rsame rfl (.inr ⟨15, true, 44, rfl, by decide, by kernel_rfl, rfl, fun _ _ h => h⟩) rfl cf15 (by rw [HEB.out]; exact rfl) ((knows_in 19 48 (by decide) (by kernel_rfl) rfl rfl).r H19 M19) ((knows_in 20 49 (by decide) (by kernel_rfl) rfl rfl).r H21 M21),
         step_eqb rfl (.inr ⟨15, true, 44, rfl, by decide, by kernel_rfl, rfl, fun _ _ h => h⟩) (b := eb) rfl rfl (knows_in 18 47 (by decide) (by kernel_rfl) rfl rfl) (knows_in 21 50 (by decide) (by kernel_rfl) rfl rfl),
         step_pick rfl (.inl rfl) (b := true) rfl rfl (knows_in 15 44 (by decide) (by kernel_rfl) rfl rfl) (knows_in 22 51 (by decide) (by kernel_rfl) rfl rfl),
         step_mv rfl (.inl rfl) rfl rfl (knows_in 23 52 (by decide) (by kernel_rfl) rfl rfl),
         step_mv rfl (.inr ⟨24, true, 53, rfl, by decide, by kernel_rfl, rfl, fun _ _ h => h⟩) rfl rfl (knows_out 2 (by kernel_rfl) rfl),
         step_to rfl (.inr ⟨24, true, 53, rfl, by decide, by kernel_rfl, rfl, fun _ _ h => h⟩) rfl cf16 ksm rfl (one_arg (knows_in 25 54 (by decide) (by kernel_rfl) rfl rfl)),
         step_to rfl (.inr ⟨24, true, 53, rfl, by decide, by kernel_rfl, rfl, fun _ _ h => h⟩) rfl cf11 hs.bytes rfl (one_arg (knows_in 26 55 (by decide) (by kernel_rfl) rfl rfl)),
         step_mv rfl (.inr ⟨24, true, 53, rfl, by decide, by kernel_rfl, rfl, fun _ _ h => h⟩) rfl rfl (knows_out 11 (by kernel_rfl) rfl),
         step_rsmallK rfl (.inr ⟨24, true, 53, rfl, by decide, by kernel_rfl, rfl, fun _ _ h => h⟩) 0 hkk rfl cf17 rfl (knows_in 28 57 (by decide) (by kernel_rfl) rfl rfl),
         step_rbytes rfl (.inr ⟨24, true, 53, rfl, by decide, by kernel_rfl, rfl, fun _ _ h => h⟩) rfl cf12 rfl (knowsR_in 29 58 (by decide) (by kernel_rfl) rfl rfl),
         step_eqs rfl (.inr ⟨24, true, 53, rfl, by decide, by kernel_rfl, rfl, fun _ _ h => h⟩) rfl (rbytes_length _) rfl (knows_in 27 56 (by decide) (by kernel_rfl) rfl rfl) (knows_in 30 59 (by decide) (by kernel_rfl) rfl rfl),
         step_pick rfl (.inl rfl) (b := true) rfl rfl (knows_in 24 53 (by decide) (by kernel_rfl) rfl rfl) (knows_in 31 60 (by decide) (by kernel_rfl) rfl rfl),
         step_mv rfl (.inl rfl) rfl rfl (knows_in 32 61 (by decide) (by kernel_rfl) rfl rfl),
         step_zero26 rfl (.inr ⟨33, true, 62, rfl, by decide, by kernel_rfl, rfl, fun _ _ h => h⟩) rfl rfl,
         step_to rfl (.inr ⟨33, true, 62, rfl, by decide, by kernel_rfl, rfl, fun _ _ h => h⟩) rfl cf11 Nm.zeros.bytes rfl (one_arg (knows_in 34 63 (by decide) (by kernel_rfl) rfl rfl)),
         step_zero22 rfl (.inr ⟨33, true, 62, rfl, by decide, by kernel_rfl, rfl, fun _ _ h => h⟩) rfl rfl,
         step_eqs rfl (.inr ⟨33, true, 62, rfl, by decide, by kernel_rfl, rfl, fun _ _ h => h⟩) rfl (rbytes_length _) rfl (knows_in 35 64 (by decide) (by kernel_rfl) rfl rfl) (knows_in 36 65 (by decide) (by kernel_rfl) rfl rfl),
         step_pick rfl (.inl rfl) (b := true) rfl rfl (knows_in 33 62 (by decide) (by kernel_rfl) rfl rfl) (knows_in 37 66 (by decide) (by kernel_rfl) rfl rfl), trivial⟩ ?_
      intro val w4 hw hS hap hla
      have e29 : val 29 = (.agg (ints .i64 x).toArray) := hS 0 29 (by decide) rfl
      have e30 : val 30 = (.agg (ints .u8 (rbytes m)).toArray) := hS 1 30 (by decide) rfl
      have e31 : val 31 = (.slice (some ⟨g9, o9, none⟩) 16 c19) := hS 2 31 (by decide) rfl
      have e32 : val 32 = (.agg (ints .u8 (rbytes m)).toArray) := hS 3 32 (by decide) rfl
      have e33 : val 33 = (.bool true) := hS 4 33 (by decide) rfl
      have e34 : val 34 = (.bool true) := hS 5 34 (by decide) rfl
      have e35 : val 35 = (.agg (ints .i64 x).toArray) := hS 6 35 (by decide) rfl
      have e36 : val 36 = (.bool ob) := hS 7 36 (by decide) rfl
      have e37 : val 37 = (.slice (some ⟨g9, o9, none⟩) 16 c19) := hS 8 37 (by decide) rfl
      have e38 : val 38 = (.pointer (some ⟨g9, o9, none⟩)) := hS 9 38 (by decide) rfl
      have e39 : val 39 = (.int .i64 (q : Int)) := hS 10 39 (by decide) rfl
      have e40 : val 40 = (.int .i64 ((q % 2 : Nat) : Int)) := hS 11 40 (by decide) rfl
      have e41 : val 41 = (.bool ob) := hS 12 41 (by decide) rfl
      have e42 : val 42 = (.bool true) := hS 13 42 (by decide) rfl
      have e43 : val 43 = (.bool true) := hS 14 43 (by decide) rfl
      have e44 : val 44 = (.bool true) := hS 15 44 (by decide) rfl
      have e45 : val 45 = (.agg (ints .i64 x).toArray) := hS 16 45 (by decide) rfl
      have e46 : val 46 = (.agg (ints .i64 y).toArray) := hS 17 46 (by decide) rfl
      have e47 : val 47 = (.bool eb) := hS 18 47 (by decide) rfl
      have e48 : val 48 = (.slice (some ⟨g9, o9, none⟩) 16 c19) := hS 19 48 (by decide) rfl
      have e49 : val 49 = (.slice A21 16 c21) := hS 20 49 (by decide) rfl
      have e50 : val 50 = (.bool eb) := hS 21 50 (by decide) rfl
      have e51 : val 51 = (.bool true) := hS 22 51 (by decide) rfl
      have e52 : val 52 = (.bool true) := hS 23 52 (by decide) rfl
      have e53 : val 53 = (.bool true) := hS 24 53 (by decide) rfl
      have e54 : val 54 = (.int .i64 nn) := hS 25 54 (by decide) rfl
      have e55 : val 55 = (.agg (ints .i64 sl).toArray) := hS 26 55 (by decide) rfl
      have e56 : val 56 = (.agg (ints .u8 (rbytes 0)).toArray) := hS 27 56 (by decide) rfl
      have e57 : val 57 = (.int .i64 ((0 : Nat) : Int)) := hS 28 57 (by decide) rfl
      obtain ⟨A58, c58, y58, e58, H58, N58⟩ := hS 29 58 (by decide) rfl
      have M58 := N58.nums
      have e59 : val 59 = (.agg (ints .u8 (rbytes 0)).toArray) := hS 30 59 (by decide) rfl
      have e60 : val 60 = (.bool true) := hS 31 60 (by decide) rfl
      have e61 : val 61 = (.bool true) := hS 32 61 (by decide) rfl
      have e62 : val 62 = (.bool true) := hS 33 62 (by decide) rfl
      have e63 : val 63 = (.agg (ints .i64 (zeros 16)).toArray) := hS 34 63 (by decide) rfl
      have e64 : val 64 = (.agg (ints .u8 (rbytes 0)).toArray) := hS 35 64 (by decide) rfl
      have e65 : val 65 = (.agg (ints .u8 (rbytes 0)).toArray) := hS 36 65 (by decide) rfl
      have e66 : val 66 = (.bool true) := hS 37 66 (by decide) rfl
      have e67 : val 67 = (.bool true) := hS 38 67 (by decide) rfl
      simp only [putVals, List.foldl_cons, List.foldl_nil, List.drop_succ_cons, List.drop_zero, Act.put, List.setIfInBounds_toArray, List.set_cons_succ, List.set_cons_zero, e29, e30, e31, e32, e33, e34, e35, e36, e37, e38, e39, e40, e41, e42, e43, e44, e45, e46, e47, e48, e49, e50, e51, e52, e53, e54, e55, e56, e57, e58, e59, e60, e61, e62, e63, e64, e65, e66, e67]
      clear hS hap hla e29 e30 e31 e32 e33 e34 e35 e36 e37 e38 e39 e40 e41 e42 e43 e44 e45 e46 e47 e48 e49 e50 e51 e52 e53 e54 e55 e56 e57 e58 e59 e60 e61 e62 e63 e64 e65 e66 e67
      clear N58 M58 H58
      replace hX := hX.next hw
      replace hY := hY.next hw
      replace M19 := M19.below hw
      replace M21 := M21.below hw
      replace hW := hW.trans (Below.mono hw hW.size)
      clear hw
      go_wp2_with (fail)
      go_ret
      exact ⟨rfl, hW⟩
    · clear hno
      go_wp2_with (fail)
      have s3 := hW.size
      refine region_spec2 39 68 (fun _ => false) [Is (.agg (ints .i64 x).toArray), Is (.agg (ints .u8 (rbytes m)).toArray), Is (.slice (some ⟨g9, o9, none⟩) 16 c19), Is (.agg (ints .u8 (rbytes m)).toArray), Is (.bool true), Is (.bool true), Is (.agg (ints .i64 x).toArray), Is (.bool ob), Is (.slice (some ⟨g9, o9, none⟩) 16 c19), Is (.pointer (some ⟨g9, o9, none⟩)), Is (.int .i64 (q : Int)), Is (.int .i64 ((q % 2 : Nat) : Int)), Is (.bool ob), Is (.bool true), Is (.bool true), Is (.bool true), Is (.agg (ints .i64 x).toArray), Is (.agg (ints .i64 y).toArray), Is (.bool eb), Is (.slice (some ⟨g9, o9, none⟩) 16 c19), Is (.slice A21 16 c21), Is (.bool eb), Is (.bool true), Is (.bool true), Is (.bool true), Is (.int .i64 nn), Is (.agg (ints .i64 sl).toArray), Is (.agg (ints .u8 (rbytes 0)).toArray), Is (.int .i64 ((0 : Nat) : Int)), IsR w3.heap.size 0, Is (.agg (ints .u8 (rbytes 0)).toArray), Is (.bool true), Is (.bool true), Is (.bool true), Is (.agg (ints .i64 (zeros 16)).toArray), Is (.agg (ints .u8 (rbytes 0)).toArray), Is (.agg (ints .u8 (rbytes 0)).toArray), Is (.bool true), Is (.bool true)] [29, 30, 31, 32, 33, 34, 35, 36, 37, 38, 39, 40, 41, 42, 43, 44, 45, 46, 47, 48, 49, 50, 51, 52, 53, 54, 55, 56, 57, 58, 59, 60, 61, 62, 63, 64, 65, 66, 67] (by kernel_rfl) (by kernel_rfl) (by kernel_rfl) (Nat.le_of_eq rfl) (grows_cons (Is.grows _) (grows_cons (Is.grows _) (grows_cons (Is.grows _) (grows_cons (Is.grows _) (grows_cons (Is.grows _) (grows_cons (Is.grows _) (grows_cons (Is.grows _) (grows_cons (Is.grows _) (grows_cons (Is.grows _) (grows_cons (Is.grows _) (grows_cons (Is.grows _) (grows_cons (Is.grows _) (grows_cons (Is.grows _) (grows_cons (Is.grows _) (grows_cons (Is.grows _) (grows_cons (Is.grows _) (grows_cons (Is.grows _) (grows_cons (Is.grows _) (grows_cons (Is.grows _) (grows_cons (Is.grows _) (grows_cons (Is.grows _) (grows_cons (Is.grows _) (grows_cons (Is.grows _) (grows_cons (Is.grows _) (grows_cons (Is.grows _) (grows_cons (Is.grows _) (grows_cons (Is.grows _) (grows_cons (Is.grows _) (grows_cons (Is.grows _) (grows_cons (IsR.grows _ _) (grows_cons (Is.grows _) (grows_cons (Is.grows _) (grows_cons (Is.grows _) (grows_cons (Is.grows _) (grows_cons (Is.grows _) (grows_cons (Is.grows _) (grows_cons (Is.grows _) (grows_cons (Is.grows _) (grows_cons (Is.grows _) grows_nil)))))))))))))))))))))))))))))))))))))))
        ⟨step_el rfl (.inl rfl) hX 7 rfl (by kernel_rfl) rfl rfl,
         step_to rfl (.inl rfl) rfl cf11 hx.bytes rfl (one_arg (knows_in 0 29 (by decide) (by kernel_rfl) rfl rfl)),
         step_mv rfl (.inl rfl) rfl rfl (knows_out 9 (by kernel_rfl) rfl),
         step_rbytes rfl (.inl rfl) rfl cf12 rfl ((knows_in 2 31 (by decide) (by kernel_rfl) rfl rfl).r H19 M19),
         step_eqs rfl (.inl rfl) rfl (rbytes_length _) rfl (knows_in 1 30 (by decide) (by kernel_rfl) rfl rfl) (knows_in 3 32 (by decide) (by kernel_rfl) rfl rfl),
         step_mv rfl (.inl rfl) rfl rfl (knows_in 4 33 (by decide) (by kernel_rfl) rfl rfl),
         step_el rfl (.inr ⟨5, true, 34, rfl, by decide, by kernel_rfl, rfl, fun _ _ h => h⟩) hX 7 rfl (by kernel_rfl) rfl rfl,
         step_to rfl (.inr ⟨5, true, 34, rfl, by decide, by kernel_rfl, rfl, fun _ _ h => h⟩) rfl cf13 kodd rfl (one_arg (knows_in 6 35 (by decide) (by kernel_rfl) rfl rfl)),
         step_mv rfl (.inr ⟨5, true, 34, rfl, by decide, by kernel_rfl, rfl, fun _ _ h => h⟩) rfl rfl (knows_out 9 (by kernel_rfl) rfl),
         step_idx0 rfl (.inr ⟨5, true, 34, rfl, by decide, by kernel_rfl, rfl, fun _ _ h => h⟩) rfl rfl (knows_in 8 37 (by decide) (by kernel_rfl) rfl rfl),
         step_ld3 rfl (.inr ⟨5, true, 34, rfl, by decide, by kernel_rfl, rfl, fun _ _ h => h⟩) rfl rfl (knows_in 9 38 (by decide) (by kernel_rfl) rfl rfl) ⟨_, rfl⟩ HC0.out,
         step_rem2 rfl (.inr ⟨5, true, 34, rfl, by decide, by kernel_rfl, rfl, fun _ _ h => h⟩) hql rfl rfl (knows_in 10 39 (by decide) (by kernel_rfl) rfl rfl),
         step_is1 rfl (.inr ⟨5, true, 34, rfl, by decide, by kernel_rfl, rfl, fun _ _ h => h⟩) (q := q % 2) rfl rfl HOB.out (knows_in 11 40 (by decide) (by kernel_rfl) rfl rfl),
         step_eqb rfl (.inr ⟨5, true, 34, rfl, by decide, by kernel_rfl, rfl, fun _ _ h => h⟩) (b := ob) rfl rfl (knows_in 7 36 (by decide) (by kernel_rfl) rfl rfl) (knows_in 12 41 (by decide) (by kernel_rfl) rfl rfl),
         step_pick rfl (.inl rfl) (b := true) rfl rfl (knows_in 5 34 (by decide) (by kernel_rfl) rfl rfl) (knows_in 13 42 (by decide) (by kernel_rfl) rfl rfl),
         step_mv rfl (.inl rfl) rfl rfl (knows_in 14 43 (by decide) (by kernel_rfl) rfl rfl),
         step_el rfl (.inr ⟨15, true, 44, rfl, by decide, by kernel_rfl, rfl, fun _ _ h => h⟩) hX 7 rfl (by kernel_rfl) rfl rfl,
         step_el rfl (.inr ⟨15, true, 44, rfl, by decide, by kernel_rfl, rfl, fun _ _ h => h⟩) hY 8 rfl (by kernel_rfl) rfl rfl,
         step_to rfl (.inr ⟨15, true, 44, rfl, by decide, by kernel_rfl, rfl, fun _ _ h => h⟩) rfl cf14 keq rfl (two_args (knows_in 16 45 (by decide) (by kernel_rfl) rfl rfl) (knows_in 17 46 (by decide) (by kernel_rfl) rfl rfl)),
         step_mv rfl (.inr ⟨15, true, 44, rfl, by decide, by kernel_rfl, rfl, fun _ _ h => h⟩) rfl rfl (knows_out 9 (by kernel_rfl) rfl),
         step_mv rfl (.inr ⟨15, true, 44, rfl, by decide, by kernel_rfl, rfl, fun _ _ h => h⟩) rfl rfl (knows_out 10 (by kernel_rfl) rfl),
         step_rsame rfl (.inr ⟨15, true, 44, rfl, by decide, by kernel_rfl, rfl, fun _ _ h => h⟩) rfl cf15 (by rw [HEB.out]; exact rfl) ((knows_in 19 48 (by decide) (by kernel_rfl) rfl rfl).r H19 M19) ((knows_in 20 49 (by decide) (by kernel_rfl) rfl rfl).r H21 M21),
         step_eqb rfl (.inr ⟨15, true, 44, rfl, by decide, by kernel_rfl, rfl, fun _ _ h => h⟩) (b := eb) rfl rfl (knows_in 18 47 (by decide) (by kernel_rfl) rfl rfl) (knows_in 21 50 (by decide) (by kernel_rfl) rfl rfl),
         step_pick rfl (.inl rfl) (b := true) rfl rfl (knows_in 15 44 (by decide) (by kernel_rfl) rfl rfl) (knows_in 22 51 (by decide) (by kernel_rfl) rfl rfl),
         step_mv rfl (.inl rfl) rfl rfl (knows_in 23 52 (by decide) (by kernel_rfl) rfl rfl),
         step_mv rfl (.inr ⟨24, true, 53, rfl, by decide, by kernel_rfl, rfl, fun _ _ h => h⟩) rfl rfl (knows_out 2 (by kernel_rfl) rfl),
         step_to rfl (.inr ⟨24, true, 53, rfl, by decide, by kernel_rfl, rfl, fun _ _ h => h⟩) rfl cf16 ksm rfl (one_arg (knows_in 25 54 (by decide) (by kernel_rfl) rfl rfl)),
         step_to rfl (.inr ⟨24, true, 53, rfl, by decide, by kernel_rfl, rfl, fun _ _ h => h⟩) rfl cf11 hs.bytes rfl (one_arg (knows_in 26 55 (by decide) (by kernel_rfl) rfl rfl)),
         step_mv rfl (.inr ⟨24, true, 53, rfl, by decide, by kernel_rfl, rfl, fun _ _ h => h⟩) rfl rfl (knows_out 11 (by kernel_rfl) rfl),
         step_rsmallK rfl (.inr ⟨24, true, 53, rfl, by decide, by kernel_rfl, rfl, fun _ _ h => h⟩) 0 hkk rfl cf17 rfl (knows_in 28 57 (by decide) (by kernel_rfl) rfl rfl),
         step_rbytes rfl (.inr ⟨24, true, 53, rfl, by decide, by kernel_rfl, rfl, fun _ _ h => h⟩) rfl cf12 rfl (knowsR_in 29 58 (by decide) (by kernel_rfl) rfl rfl),
         step_eqs rfl (.inr ⟨24, true, 53, rfl, by decide, by kernel_rfl, rfl, fun _ _ h => h⟩) rfl (rbytes_length _) rfl (knows_in 27 56 (by decide) (by kernel_rfl) rfl rfl) (knows_in 30 59 (by decide) (by kernel_rfl) rfl rfl),
         step_pick rfl (.inl rfl) (b := true) rfl rfl (knows_in 24 53 (by decide) (by kernel_rfl) rfl rfl) (knows_in 31 60 (by decide) (by kernel_rfl) rfl rfl),
         step_mv rfl (.inl rfl) rfl rfl (knows_in 32 61 (by decide) (by kernel_rfl) rfl rfl),
         step_zero26 rfl (.inr ⟨33, true, 62, rfl, by decide, by kernel_rfl, rfl, fun _ _ h => h⟩) rfl rfl,
         step_to rfl (.inr ⟨33, true, 62, rfl, by decide, by kernel_rfl, rfl, fun _ _ h => h⟩) rfl cf11 Nm.zeros.bytes rfl (one_arg (knows_in 34 63 (by decide) (by kernel_rfl) rfl rfl)),
         step_zero22 rfl (.inr ⟨33, true, 62, rfl, by decide, by kernel_rfl, rfl, fun _ _ h => h⟩) rfl rfl,
         step_eqs rfl (.inr ⟨33, true, 62, rfl, by decide, by kernel_rfl, rfl, fun _ _ h => h⟩) rfl (rbytes_length _) rfl (knows_in 35 64 (by decide) (by kernel_rfl) rfl rfl) (knows_in 36 65 (by decide) (by kernel_rfl) rfl rfl),
         step_pick rfl (.inl rfl) (b := true) rfl rfl (knows_in 33 62 (by decide) (by kernel_rfl) rfl rfl) (knows_in 37 66 (by decide) (by kernel_rfl) rfl rfl), trivial⟩ ?_
      intro val w4 hw hS hap hla
      have e29 : val 29 = (.agg (ints .i64 x).toArray) := hS 0 29 (by decide) rfl
      have e30 : val 30 = (.agg (ints .u8 (rbytes m)).toArray) := hS 1 30 (by decide) rfl
      have e31 : val 31 = (.slice (some ⟨g9, o9, none⟩) 16 c19) := hS 2 31 (by decide) rfl
      have e32 : val 32 = (.agg (ints .u8 (rbytes m)).toArray) := hS 3 32 (by decide) rfl
      have e33 : val 33 = (.bool true) := hS 4 33 (by decide) rfl
      have e34 : val 34 = (.bool true) := hS 5 34 (by decide) rfl
      have e35 : val 35 = (.agg (ints .i64 x).toArray) := hS 6 35 (by decide) rfl
      have e36 : val 36 = (.bool ob) := hS 7 36 (by decide) rfl
      have e37 : val 37 = (.slice (some ⟨g9, o9, none⟩) 16 c19) := hS 8 37 (by decide) rfl
      have e38 : val 38 = (.pointer (some ⟨g9, o9, none⟩)) := hS 9 38 (by decide) rfl
      have e39 : val 39 = (.int .i64 (q : Int)) := hS 10 39 (by decide) rfl
      have e40 : val 40 = (.int .i64 ((q % 2 : Nat) : Int)) := hS 11 40 (by decide) rfl
      have e41 : val 41 = (.bool ob) := hS 12 41 (by decide) rfl
      have e42 : val 42 = (.bool true) := hS 13 42 (by decide) rfl
      have e43 : val 43 = (.bool true) := hS 14 43 (by decide) rfl
      have e44 : val 44 = (.bool true) := hS 15 44 (by decide) rfl
      have e45 : val 45 = (.agg (ints .i64 x).toArray) := hS 16 45 (by decide) rfl
      have e46 : val 46 = (.agg (ints .i64 y).toArray) := hS 17 46 (by decide) rfl
      have e47 : val 47 = (.bool eb) := hS 18 47 (by decide) rfl
      have e48 : val 48 = (.slice (some ⟨g9, o9, none⟩) 16 c19) := hS 19 48 (by decide) rfl
      have e49 : val 49 = (.slice A21 16 c21) := hS 20 49 (by decide) rfl
      have e50 : val 50 = (.bool eb) := hS 21 50 (by decide) rfl
      have e51 : val 51 = (.bool true) := hS 22 51 (by decide) rfl
      have e52 : val 52 = (.bool true) := hS 23 52 (by decide) rfl
      have e53 : val 53 = (.bool true) := hS 24 53 (by decide) rfl
      have e54 : val 54 = (.int .i64 nn) := hS 25 54 (by decide) rfl
      have e55 : val 55 = (.agg (ints .i64 sl).toArray) := hS 26 55 (by decide) rfl
      have e56 : val 56 = (.agg (ints .u8 (rbytes 0)).toArray) := hS 27 56 (by decide) rfl
      have e57 : val 57 = (.int .i64 ((0 : Nat) : Int)) := hS 28 57 (by decide) rfl
      obtain ⟨A58, c58, y58, e58, H58, N58⟩ := hS 29 58 (by decide) rfl
      have M58 := N58.nums
      have e59 : val 59 = (.agg (ints .u8 (rbytes 0)).toArray) := hS 30 59 (by decide) rfl
      have e60 : val 60 = (.bool true) := hS 31 60 (by decide) rfl
      have e61 : val 61 = (.bool true) := hS 32 61 (by decide) rfl
      have e62 : val 62 = (.bool true) := hS 33 62 (by decide) rfl
      have e63 : val 63 = (.agg (ints .i64 (zeros 16)).toArray) := hS 34 63 (by decide) rfl
      have e64 : val 64 = (.agg (ints .u8 (rbytes 0)).toArray) := hS 35 64 (by decide) rfl
      have e65 : val 65 = (.agg (ints .u8 (rbytes 0)).toArray) := hS 36 65 (by decide) rfl
      have e66 : val 66 = (.bool true) := hS 37 66 (by decide) rfl
      have e67 : val 67 = (.bool true) := hS 38 67 (by decide) rfl
      simp only [putVals, List.foldl_cons, List.foldl_nil, List.drop_succ_cons, List.drop_zero, Act.put, List.setIfInBounds_toArray, List.set_cons_succ, List.set_cons_zero, e29, e30, e31, e32, e33, e34, e35, e36, e37, e38, e39, e40, e41, e42, e43, e44, e45, e46, e47, e48, e49, e50, e51, e52, e53, e54, e55, e56, e57, e58, e59, e60, e61, e62, e63, e64, e65, e66, e67]
      clear hS hap hla e29 e30 e31 e32 e33 e34 e35 e36 e37 e38 e39 e40 e41 e42 e43 e44 e45 e46 e47 e48 e49 e50 e51 e52 e53 e54 e55 e56 e57 e58 e59 e60 e61 e62 e63 e64 e65 e66 e67
      clear N58 M58 H58
      replace hX := hX.next hw
      replace hY := hY.next hw
      replace M19 := M19.below hw
      replace M21 := M21.below hw
      replace hW := hW.trans (Below.mono hw hW.size)
      clear hw
      go_wp2_with (fail)
      go_ret
      exact ⟨rfl, hW⟩
end Go.Proofs.Ytddjfhmkebhndaa
