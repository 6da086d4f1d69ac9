/- The law of the document's multiples: the walk. -/
import Derived.Test.YtpaopdjbhmdfjaaDoorG10
namespace Go.Proofs.YtpaopdjbhmdfjaaDoor
open Go Go.RowKit

set_option maxRecDepth 4000 in
set_option maxHeartbeats 16000000 in
theorem pointSums_any {m n : List Int} (lm : m.length = 32) (ln : n.length = 32) (bm : Byt m) (bn' : Byt n) : CallsT 4 #[.agg (ints .u8 m).toArray, .agg (ints .u8 n).toArray] (.bool true) := by
  have onm : Edw.On eF (Edw.mul eF (bn m) baseP) := Edw.mul_on pn_fld ns_e base_on _
  have onn : Edw.On eF (Edw.mul eF (bn n) baseP) := Edw.mul_on pn_fld ns_e base_on _
  obtain ⟨bb, kb, hbb⟩ := pr_base
  have y0 := hbb.bytes
  have y1 := nouL_spec.2.bytes
  rw [nought_bytes] at y1
  obtain ⟨pp, kp, hpp⟩ := hbb.mul lm bm
  obtain ⟨qq, kq, hqq⟩ := hbb.mul ln bn'
  have yp := hpp.bytes
  have op := hpp.on
  obtain ⟨ku, hu⟩ := hpp.add hqq
  have yu := hu.bytes
  obtain ⟨u, hsu⟩ : ∃ l, sumL pp qq = l := ⟨_, rfl⟩
  rw [hsu] at ku hu yu
  obtain ⟨bb0, e0⟩ : ∃ l, bytesP baseP = l := ⟨_, rfl⟩
  obtain ⟨bp, ep⟩ : ∃ l, bytesP (Edw.mul eF (bn m) baseP) = l := ⟨_, rfl⟩
  obtain ⟨bu, eu⟩ : ∃ l, bytesP (Edw.add eF (Edw.mul eF (bn m) baseP) (Edw.mul eF (bn n) baseP)) = l := ⟨_, rfl⟩
  have lbb0 : bb0.length = 32 := by rw [← e0]; exact bytesP_len _
  have lbp : bp.length = 32 := by rw [← ep]; exact bytesP_len _
  have lbu : bu.length = 32 := by rw [← eu]; exact bytesP_len _
  rw [e0] at y0
  rw [ep] at yp
  rw [eu] at yu
  replace e0 := hid e0
  replace ep := hid ep
  replace eu := hid eu
  clear hsu

  intro W hT
  have h2 := (By.new W m lm).next (below_new _ (.cells (ints .u8 n).toArray 22))
  have h3 := By.new (W.alloc (.cells (ints .u8 m).toArray 22)) n ln
  have hW := (below_new W (.cells (ints .u8 m).toArray 22)).alloc (by simp) (.cells (ints .u8 n).toArray 22)
  have hT0 := hT
  replace hT := ((hT.alloc (.cells (ints .u8 m).toArray 22)).alloc (.cells (ints .u8 n).toArray 22))
  simp only [World.size_alloc] at h3
  go_enter Tryd.func4, Tryd.ntmps4
  go_upto_region 1 with (fail)
  generalize (W.alloc (.cells (ints .u8 m).toArray 22)).alloc (.cells (ints .u8 n).toArray 22) = w0 at *
  have s0 := hW.size
  refine region_seq2 2 67 (fun _ => false) [Is (.bool true), Is (.bool false)] [11, 12] (by kernel_rfl) (by kernel_rfl) (Nat.le_of_eq rfl) (grows_cons (Is.grows _) (grows_cons (Is.grows _) grows_nil))
    ⟨step_toT rfl (.inl rfl) rfl cg6 hT awake_any rfl (no_args),
     step_not rfl (.inl rfl) (b := true) rfl rfl (knows_in 0 11 (by decide) (by kernel_rfl) rfl rfl), trivial⟩ ?_
  intro val w1 hw hS hap hla
  have e11 : val 11 = (.bool true) := hS 0 11 (by decide) rfl
  have e12 : val 12 = (.bool false) := hS 1 12 (by decide) rfl
  simp only [putVals, List.foldl_cons, List.foldl_nil, List.drop_succ_cons, List.drop_zero, Act.put, List.setIfInBounds_toArray, List.set_cons_succ, List.set_cons_zero, e11, e12]
  clear hS hap hla e11 e12 
  replace hT := hT.next hw
  replace h2 := h2.next hw
  replace h3 := h3.next hw
  replace hW := hW.trans (Below.mono hw hW.size)
  clear hw
  go_upto_region 3 with (fail)
  have s1 := hW.size
  refine region_seq2 2 67 (fun _ => false) [Is (.agg (ints .i64 bb).toArray), IsP ⟨bxF, byF, 1⟩] [13, 14] (by kernel_rfl) (by kernel_rfl) (Nat.le_of_eq rfl) (grows_cons (Is.grows _) (grows_cons (IsP.grows _) grows_nil))
    ⟨step_toT rfl (.inl rfl) rfl cg25 hT kb rfl (no_args),
     step_qbase rfl (.inl rfl) rfl rfl, trivial⟩ ?_
  intro val w2 hw hS hap hla
  have e13 : val 13 = (.agg (ints .i64 bb).toArray) := hS 0 13 (by decide) rfl
  obtain ⟨A14, B14, C14, a14, b_14, d14, x14, y14, z14, e14, Hx14, Hy14, Hz14, Mx14, My14, Mz14⟩ := hS 1 14 (by decide) rfl
  simp only [putVals, List.foldl_cons, List.foldl_nil, List.drop_succ_cons, List.drop_zero, Act.put, List.setIfInBounds_toArray, List.set_cons_succ, List.set_cons_zero, e13, e14]
  clear hS hap hla e13 e14 
  replace hT := hT.next hw
  replace h2 := h2.next hw
  replace h3 := h3.next hw
  replace hW := hW.trans (Below.mono hw hW.size)
  clear hw
  obtain ⟨z28, s28⟩ := zero_of_info inf28
  obtain ⟨z47, s47⟩ := zero_of_info inf47
  have hz1 : (w2.alloc (.cells (ints .i64 (zeros 64)).toArray 28)).heap.size = w2.heap.size + 1 := by simp
  have bt : Below w2.heap.size w2 ((((w2.alloc (.cells (ints .i64 (zeros 64)).toArray 28)).alloc (.cells nil3.toArray 47)).setCells w2.heap.size 0 (ints .i64 bb).toArray.toList).setCells (w2.heap.size + 1) 0 (pv3 A14 B14 C14 a14 b_14 d14).toArray.toList) := Below.setCells (Below.setCells ((below_new w2 (.cells (ints .i64 (zeros 64)).toArray 28)).alloc (by simp) (.cells nil3.toArray 47)) (Nat.le_refl _) 0 _) (g := w2.heap.size + 1) (by omega) 0 _
  have h5a := (B4.new w2 (zeros 64) (zeros_len 64)).next (below_new _ (.cells nil3.toArray 47))
  have h6a := RB.new (w2.alloc (.cells (ints .i64 (zeros 64)).toArray 28)) nil3 47 rfl nil3_sl
  rw [hz1] at h6a
  have R5 := h5a.room (l' := bb) hbb.len
  have h6b := h6a.pastAt (b' := w2.heap.size) 0 (ints .i64 bb).toArray.toList (by omega)
  have R6 := h6b.room (us := (pv3 A14 B14 C14 a14 b_14 d14)) rfl
  have h5 := (h5a.stored (l' := bb) hbb.len).past (b' := w2.heap.size + 1) (pv3 A14 B14 C14 a14 b_14 d14).toArray.toList (by omega)
  have h6 := h6b.stored (us := (pv3 A14 B14 C14 a14 b_14 d14)) rfl (pv3_sl _ _ _ _ _ _)
  have J14 : IsQ baseP (.agg (pv3 A14 B14 C14 a14 b_14 d14).toArray) w2 := base_q ⟨_, _, _, _, _, _, x14, y14, z14, rfl, Hx14, Hy14, Hz14, Mx14, My14, Mz14⟩
  replace J14 := J14.next bt
  replace Mx14 := Mx14.below bt
  replace My14 := My14.below bt
  replace h2 := h2.next bt
  replace h3 := h3.next bt
  replace hT := hT.next bt
  have L5 := hW.size
  replace hW := hW.trans (Below.mono bt hW.size)
  have HBB := hid hbb.len
  clear h5a h6a h6b bt Mz14 Hz14 hz1
  go_wp2_with (first
    | (with_reducible refine wpList_store_mid (op := ⟨none, .store 28 (.tmp 5) (.tmp 13), _, _, _, _⟩) rfl 28 (.tmp 5) (.tmp 13) rfl w2.heap.size 0 (ints .i64 bb).toArray rfl rfl R5 (a28 HBB.out) (ints_all _ _) ?_)
    | (with_reducible refine wpList_store_mid (op := ⟨none, .store 47 (.tmp 6) (.tmp 14), _, _, _, _⟩) rfl 47 (.tmp 6) (.tmp 14) rfl (w2.heap.size + 1) 0 (pv3 A14 B14 C14 a14 b_14 d14).toArray rfl rfl R6 (a47 rfl) (sl_one (pv3_sl _ _ _ _ _ _)) ?_; generalize (((w2.alloc (.cells (ints .i64 (zeros 64)).toArray 28)).alloc (.cells nil3.toArray 47)).setCells w2.heap.size 0 (ints .i64 bb).toArray.toList).setCells (w2.heap.size + 1) 0 (pv3 A14 B14 C14 a14 b_14 d14).toArray.toList = w30 at *))
  clear R5 R6 z28 s28 z47 s47
  generalize w2.heap.size = b5 at *
  have w5_ := h5.lt
  have w6_ := h6.lt
  have s30 := hW.size
  refine region_spec2 18 67 (fun _ => false) [Is (.agg (ints .i64 bb).toArray), Is (.agg (ints .u8 bb0).toArray), Is (.agg (pv3 A14 B14 C14 a14 b_14 d14).toArray), Is (.agg (ints .u8 bb0).toArray), Is (.bool false), Is (.bool false), Is (.pointer (some ⟨(b5 + 1), 0, none⟩)), Is (.slice A14 16 a14), Is (.pointer (some ⟨(b5 + 1), 1, none⟩)), Is (.slice B14 16 b_14), Is (.bool true), Is (.bool false), Is (.bool false), Is (.bool false), Is (.agg (ints .i64 nouL).toArray), Is (.agg (ints .u8 oneL).toArray), Is (.agg (ints .u8 oneL).toArray), Is (.bool false)] [15, 16, 17, 18, 19, 20, 21, 22, 23, 24, 25, 26, 27, 28, 29, 30, 31, 32] (by kernel_rfl) (by kernel_rfl) (by kernel_rfl) (Nat.le_of_eq rfl) (grows_cons (Is.grows _) (grows_cons (Is.grows _) (grows_cons (Is.grows _) (grows_cons (Is.grows _) (grows_cons (Is.grows _) (grows_cons (Is.grows _) (grows_cons (Is.grows _) (grows_cons (Is.grows _) (grows_cons (Is.grows _) (grows_cons (Is.grows _) (grows_cons (Is.grows _) (grows_cons (Is.grows _) (grows_cons (Is.grows _) (grows_cons (Is.grows _) (grows_cons (Is.grows _) (grows_cons (Is.grows _) (grows_cons (Is.grows _) (grows_cons (Is.grows _) grows_nil))))))))))))))))))
    ⟨step_pt rfl (.inl rfl) h5 5 rfl (by kernel_rfl) rfl rfl,
     step_to rfl (.inl rfl) rfl cg10 y0 rfl (one_arg (knows_in 0 15 (by decide) (by kernel_rfl) rfl rfl)),
     step_rb rfl (.inl rfl) h6 6 rfl (by kernel_rfl) rfl rfl,
     step_qbytes rfl (.inl rfl) e0.out rfl rfl ((knows_in 2 17 (by decide) (by kernel_rfl) rfl rfl).q J14),
     step_nes rfl (.inl rfl) rfl lbb0 rfl (knows_in 1 16 (by decide) (by kernel_rfl) rfl rfl) (knows_in 3 18 (by decide) (by kernel_rfl) rfl rfl),
     step_mv rfl (.inl rfl) rfl rfl (knows_in 4 19 (by decide) (by kernel_rfl) rfl rfl),
     step_fr0 rfl (.inr ⟨5, false, 20, rfl, by decide, by kernel_rfl, rfl, fun _ _ h => h⟩) rfl rfl (knows_out 6 (by kernel_rfl) rfl),
     step_ld32 rfl (.inr ⟨5, false, 20, rfl, by decide, by kernel_rfl, rfl, fun _ _ h => h⟩) h6 rfl rfl rfl (knows_in 6 21 (by decide) (by kernel_rfl) rfl rfl),
     step_fr1 rfl (.inr ⟨5, false, 20, rfl, by decide, by kernel_rfl, rfl, fun _ _ h => h⟩) rfl rfl (knows_out 6 (by kernel_rfl) rfl),
     step_ld32 rfl (.inr ⟨5, false, 20, rfl, by decide, by kernel_rfl, rfl, fun _ _ h => h⟩) h6 rfl rfl rfl (knows_in 8 23 (by decide) (by kernel_rfl) rfl rfl),
     step_ron rfl (.inr ⟨5, false, 20, rfl, by decide, by kernel_rfl, rfl, fun _ _ h => h⟩) base_flat rfl rfl ((knows_in 7 22 (by decide) (by kernel_rfl) rfl rfl).r Hx14 Mx14) ((knows_in 9 24 (by decide) (by kernel_rfl) rfl rfl).r Hy14 My14),
     step_not rfl (.inr ⟨5, false, 20, rfl, by decide, by kernel_rfl, rfl, fun _ _ h => h⟩) (b := true) rfl rfl (knows_in 10 25 (by decide) (by kernel_rfl) rfl rfl),
     step_pick rfl (.inl rfl) (b := false) rfl rfl (knows_in 5 20 (by decide) (by kernel_rfl) rfl rfl) (knows_in 11 26 (by decide) (by kernel_rfl) rfl rfl),
     step_mv rfl (.inl rfl) rfl rfl (knows_in 12 27 (by decide) (by kernel_rfl) rfl rfl),
     step_to rfl (.inr ⟨13, false, 28, rfl, by decide, by kernel_rfl, rfl, fun _ _ h => h⟩) rfl cg29 nouL_spec.1 rfl (no_args),
     step_to rfl (.inr ⟨13, false, 28, rfl, by decide, by kernel_rfl, rfl, fun _ _ h => h⟩) rfl cg10 y1 rfl (one_arg (knows_in 14 29 (by decide) (by kernel_rfl) rfl rfl)),
     step_oneB rfl (.inr ⟨13, false, 28, rfl, by decide, by kernel_rfl, rfl, fun _ _ h => h⟩) rfl built_one rfl,
     step_nes rfl (.inr ⟨13, false, 28, rfl, by decide, by kernel_rfl, rfl, fun _ _ h => h⟩) rfl one_len rfl (knows_in 15 30 (by decide) (by kernel_rfl) rfl rfl) (knows_in 16 31 (by decide) (by kernel_rfl) rfl rfl), trivial⟩ ?_
  intro val w31 hw hS hap hla
  have e15 : val 15 = (.agg (ints .i64 bb).toArray) := hS 0 15 (by decide) rfl
  have e16 : val 16 = (.agg (ints .u8 bb0).toArray) := hS 1 16 (by decide) rfl
  have e17 : val 17 = (.agg (pv3 A14 B14 C14 a14 b_14 d14).toArray) := hS 2 17 (by decide) rfl
  have e18 : val 18 = (.agg (ints .u8 bb0).toArray) := hS 3 18 (by decide) rfl
  have e19 : val 19 = (.bool false) := hS 4 19 (by decide) rfl
  have e20 : val 20 = (.bool false) := hS 5 20 (by decide) rfl
  have e21 : val 21 = (.pointer (some ⟨(b5 + 1), 0, none⟩)) := hS 6 21 (by decide) rfl
  have e22 : val 22 = (.slice A14 16 a14) := hS 7 22 (by decide) rfl
  have e23 : val 23 = (.pointer (some ⟨(b5 + 1), 1, none⟩)) := hS 8 23 (by decide) rfl
  have e24 : val 24 = (.slice B14 16 b_14) := hS 9 24 (by decide) rfl
  have e25 : val 25 = (.bool true) := hS 10 25 (by decide) rfl
  have e26 : val 26 = (.bool false) := hS 11 26 (by decide) rfl
  have e27 : val 27 = (.bool false) := hS 12 27 (by decide) rfl
  have e28 : val 28 = (.bool false) := hS 13 28 (by decide) rfl
  have e29 : val 29 = (.agg (ints .i64 nouL).toArray) := hS 14 29 (by decide) rfl
  have e30 : val 30 = (.agg (ints .u8 oneL).toArray) := hS 15 30 (by decide) rfl
  have e31 : val 31 = (.agg (ints .u8 oneL).toArray) := hS 16 31 (by decide) rfl
  have e32 : val 32 = (.bool false) := hS 17 32 (by decide) rfl
  simp only [putVals, List.foldl_cons, List.foldl_nil, List.drop_succ_cons, List.drop_zero, Act.put, List.setIfInBounds_toArray, List.set_cons_succ, List.set_cons_zero, e15, e16, e17, e18, e19, e20, e21, e22, e23, e24, e25, e26, e27, e28, e29, e30, e31, e32]
  clear hS hap hla e15 e16 e17 e18 e19 e20 e21 e22 e23 e24 e25 e26 e27 e28 e29 e30 e31 e32 
  replace h2 := h2.next hw
  replace h3 := h3.next hw
  replace h5 := h5.next hw
  replace h6 := h6.next hw
  replace J14 := J14.next hw
  replace Mx14 := Mx14.below hw
  replace My14 := My14.below hw
  replace hT := hT.next hw
  replace hW := hW.trans (Below.mono hw hW.size)
  clear hw
  clear Mx14 My14 Hx14 Hy14
  go_wp2_with (fail)
  have s31 := hW.size
  refine region_spec2 8 67 (fun i => i == 6 || i == 7) [Is (.agg (ints .i64 bb).toArray), Is (.agg (ints .u8 m).toArray), Is (.agg (ints .i64 pp).toArray), Is (.agg (ints .i64 bb).toArray), Is (.agg (ints .u8 n).toArray), Is (.agg (ints .i64 qq).toArray), IsZ4 w31.heap.size, IsZ4 w31.heap.size] [34, 35, 36, 37, 38, 39, 7, 8] (by kernel_rfl) (by kernel_rfl) (by kernel_rfl) (Nat.le_of_eq rfl) (grows_cons (Is.grows _) (grows_cons (Is.grows _) (grows_cons (Is.grows _) (grows_cons (Is.grows _) (grows_cons (Is.grows _) (grows_cons (Is.grows _) (grows_cons (IsZ4.grows _) (grows_cons (IsZ4.grows _) grows_nil))))))))
    ⟨step_pt rfl (.inl rfl) h5 5 rfl (by kernel_rfl) rfl rfl,
     step_by rfl (.inl rfl) h2 2 rfl (by kernel_rfl) rfl rfl,
     step_toT rfl (.inl rfl) rfl cg12 hT kp rfl (two_args (knows_in 0 34 (by decide) (by kernel_rfl) rfl rfl) (knows_in 1 35 (by decide) (by kernel_rfl) rfl rfl)),
     step_pt rfl (.inl rfl) h5 5 rfl (by kernel_rfl) rfl rfl,
     step_by rfl (.inl rfl) h3 3 rfl (by kernel_rfl) rfl rfl,
     step_toT rfl (.inl rfl) rfl cg12 hT kq rfl (two_args (knows_in 3 37 (by decide) (by kernel_rfl) rfl rfl) (knows_in 4 38 (by decide) (by kernel_rfl) rfl rfl)),
     step_alloc28 (.inl rfl) rfl rfl,
     step_alloc28 (.inl rfl) rfl rfl, trivial⟩ ?_
  intro val w32 hw hS hap hla
  have e34 : val 34 = (.agg (ints .i64 bb).toArray) := hS 0 34 (by decide) rfl
  have e35 : val 35 = (.agg (ints .u8 m).toArray) := hS 1 35 (by decide) rfl
  have e36 : val 36 = (.agg (ints .i64 pp).toArray) := hS 2 36 (by decide) rfl
  have e37 : val 37 = (.agg (ints .i64 bb).toArray) := hS 3 37 (by decide) rfl
  have e38 : val 38 = (.agg (ints .u8 n).toArray) := hS 4 38 (by decide) rfl
  have e39 : val 39 = (.agg (ints .i64 qq).toArray) := hS 5 39 (by decide) rfl
  obtain ⟨b7, e7, L7, Z7⟩ := hS 6 7 (by decide) rfl
  obtain ⟨b8, e8, L8, Z8⟩ := hS 7 8 (by decide) rfl
  have ne7_8 : b7 ≠ b8 := fun e => hap 6 7 7 8 (by decide) (by decide) rfl rfl (by decide) rfl rfl (by rw [e7, e8, e])
  simp only [putVals, List.foldl_cons, List.foldl_nil, List.drop_succ_cons, List.drop_zero, Act.put, List.setIfInBounds_toArray, List.set_cons_succ, List.set_cons_zero, e34, e35, e36, e37, e38, e39, e7, e8]
  clear hS hap hla e34 e35 e36 e37 e38 e39 e7 e8 
  have LL7 := hid hpp.len
  have LL8 := hid hqq.len
  have R7 := Z7.room (l' := pp) hpp.len
  have h7 := Z7.stored (l' := pp) hpp.len
  replace Z8 := Z8.past (b' := b7) (ints .i64 pp).toArray.toList ne7_8
  have R8 := Z8.room (l' := qq) hqq.len
  have h8 := Z8.stored (l' := qq) hqq.len
  replace h7 := h7.past (b' := b8) (ints .i64 qq).toArray.toList (Ne.symm ne7_8)
  replace h2 := h2.next (Below.setCells (Below.setCells hw L7 0 (ints .i64 pp).toArray.toList) L8 0 (ints .i64 qq).toArray.toList)
  replace h3 := h3.next (Below.setCells (Below.setCells hw L7 0 (ints .i64 pp).toArray.toList) L8 0 (ints .i64 qq).toArray.toList)
  replace h5 := h5.next (Below.setCells (Below.setCells hw L7 0 (ints .i64 pp).toArray.toList) L8 0 (ints .i64 qq).toArray.toList)
  replace h6 := h6.next (Below.setCells (Below.setCells hw L7 0 (ints .i64 pp).toArray.toList) L8 0 (ints .i64 qq).toArray.toList)
  replace J14 := J14.next (Below.setCells (Below.setCells hw L7 0 (ints .i64 pp).toArray.toList) L8 0 (ints .i64 qq).toArray.toList)
  replace hT := hT.next (Below.setCells (Below.setCells hw L7 0 (ints .i64 pp).toArray.toList) L8 0 (ints .i64 qq).toArray.toList)
  replace hW := hW.trans (Below.mono (Below.setCells (Below.setCells hw L7 0 (ints .i64 pp).toArray.toList) L8 0 (ints .i64 qq).toArray.toList) hW.size)
  with_reducible refine wpList_store_mid (op := ⟨none, .store 28 (.tmp 7) (.tmp 36), _, _, _, _⟩) rfl 28 (.tmp 7) (.tmp 36) rfl b7 0 (ints .i64 pp).toArray rfl rfl R7 (a28 LL7.out) (ints_all _ _) ?_
  with_reducible refine wpList_store_mid (op := ⟨none, .store 28 (.tmp 8) (.tmp 39), _, _, _, _⟩) rfl 28 (.tmp 8) (.tmp 39) rfl b8 0 (ints .i64 qq).toArray rfl rfl R8 (a28 LL8.out) (ints_all _ _) ?_
  generalize ((w32.setCells b7 0 (ints .i64 pp).toArray.toList).setCells b8 0 (ints .i64 qq).toArray.toList) = w33 at *
  clear hw R7 LL7 Z7 R8 LL8 Z8 ne7_8
  go_wp2_with (fail)
  have lt2 := h2.lt
  have lt3 := h3.lt
  have lt5 := h5.lt
  have lt6 := h6.lt
  have lt7 := h7.lt
  have lt8 := h8.lt
  have s33 := hW.size
  refine region_spec2 8 67 (fun i => i == 6 || i == 7) [Is (.agg (pv3 A14 B14 C14 a14 b_14 d14).toArray), Is (.agg (ints .u8 m).toArray), IsQ (Edw.mul eF (bn m) baseP), Is (.agg (pv3 A14 B14 C14 a14 b_14 d14).toArray), Is (.agg (ints .u8 n).toArray), IsQ (Edw.mul eF (bn n) baseP), IsZ47 w33.heap.size, IsZ47 w33.heap.size] [40, 41, 42, 43, 44, 45, 9, 10] (by kernel_rfl) (by kernel_rfl) (by kernel_rfl) (Nat.le_of_eq rfl) (grows_cons (Is.grows _) (grows_cons (Is.grows _) (grows_cons (IsQ.grows _) (grows_cons (Is.grows _) (grows_cons (Is.grows _) (grows_cons (IsQ.grows _) (grows_cons (IsZ47.grows _) (grows_cons (IsZ47.grows _) grows_nil))))))))
    ⟨step_rb rfl (.inl rfl) h6 6 rfl (by kernel_rfl) rfl rfl,
     step_by rfl (.inl rfl) h2 2 rfl (by kernel_rfl) rfl rfl,
     step_qmul rfl (.inl rfl) base_on lm bm rfl rfl rfl ((knows_in 0 40 (by decide) (by kernel_rfl) rfl rfl).q J14) (knows_in 1 41 (by decide) (by kernel_rfl) rfl rfl),
     step_rb rfl (.inl rfl) h6 6 rfl (by kernel_rfl) rfl rfl,
     step_by rfl (.inl rfl) h3 3 rfl (by kernel_rfl) rfl rfl,
     step_qmul rfl (.inl rfl) base_on ln bn' rfl rfl rfl ((knows_in 3 43 (by decide) (by kernel_rfl) rfl rfl).q J14) (knows_in 4 44 (by decide) (by kernel_rfl) rfl rfl),
     step_alloc47 (.inl rfl) rfl rfl,
     step_alloc47 (.inl rfl) rfl rfl, trivial⟩ ?_
  intro val w34 hw hS hap hla
  have e40 : val 40 = (.agg (pv3 A14 B14 C14 a14 b_14 d14).toArray) := hS 0 40 (by decide) rfl
  have e41 : val 41 = (.agg (ints .u8 m).toArray) := hS 1 41 (by decide) rfl
  obtain ⟨A42, B42, C42, a42, b_42, d42, e42, J42⟩ := (show IsQ (Edw.mul eF (bn m) baseP) (val 42) w34 from hS 2 42 (by decide) rfl).val
  have e43 : val 43 = (.agg (pv3 A14 B14 C14 a14 b_14 d14).toArray) := hS 3 43 (by decide) rfl
  have e44 : val 44 = (.agg (ints .u8 n).toArray) := hS 4 44 (by decide) rfl
  obtain ⟨A45, B45, C45, a45, b_45, d45, e45, J45⟩ := (show IsQ (Edw.mul eF (bn n) baseP) (val 45) w34 from hS 5 45 (by decide) rfl).val
  obtain ⟨b9, e9, L9, Z9⟩ := hS 6 9 (by decide) rfl
  obtain ⟨b10, e10, L10, Z10⟩ := hS 7 10 (by decide) rfl
  have ne9_10 : b9 ≠ b10 := fun e => hap 6 7 9 10 (by decide) (by decide) rfl rfl (by decide) rfl rfl (by rw [e9, e10, e])
  simp only [putVals, List.foldl_cons, List.foldl_nil, List.drop_succ_cons, List.drop_zero, Act.put, List.setIfInBounds_toArray, List.set_cons_succ, List.set_cons_zero, e40, e41, e42, e43, e44, e45, e9, e10]
  clear hS hap hla e40 e41 e42 e43 e44 e45 e9 e10 
  replace h2 := h2.next hw
  replace h3 := h3.next hw
  replace h5 := h5.next hw
  replace h6 := h6.next hw
  replace J14 := J14.next hw
  replace hT := hT.next hw
  replace h7 := h7.next hw
  replace h8 := h8.next hw
  replace hW := hW.trans (Below.mono hw hW.size)
  clear hw
  have R9 := Z9.room (us := (pv3 A42 B42 C42 a42 b_42 d42)) rfl
  replace Z10 := Z10.pastAt (b' := b9) 0 (pv3 A42 B42 C42 a42 b_42 d42).toArray.toList ne9_10
  have R10 := Z10.room (us := (pv3 A45 B45 C45 a45 b_45 d45)) rfl
  replace J14 := Z9.isq J14 (pv3 A42 B42 C42 a42 b_42 d42).toArray.toList
  replace J42 := Z9.isq J42 (pv3 A42 B42 C42 a42 b_42 d42).toArray.toList
  replace J45 := Z9.isq J45 (pv3 A42 B42 C42 a42 b_42 d42).toArray.toList
  have h9 := Z9.stored (us := (pv3 A42 B42 C42 a42 b_42 d42)) rfl (pv3_sl _ _ _ _ _ _)
  replace J14 := Z10.isq J14 (pv3 A45 B45 C45 a45 b_45 d45).toArray.toList
  replace J42 := Z10.isq J42 (pv3 A45 B45 C45 a45 b_45 d45).toArray.toList
  replace J45 := Z10.isq J45 (pv3 A45 B45 C45 a45 b_45 d45).toArray.toList
  replace h9 := h9.pastAt (b' := b10) 0 (pv3 A45 B45 C45 a45 b_45 d45).toArray.toList (Ne.symm ne9_10)
  have h10 := Z10.stored (us := (pv3 A45 B45 C45 a45 b_45 d45)) rfl (pv3_sl _ _ _ _ _ _)
  replace h2 := (h2.past (b' := b9) (pv3 A42 B42 C42 a42 b_42 d42).toArray.toList (by omega)).past (b' := b10) (pv3 A45 B45 C45 a45 b_45 d45).toArray.toList (by omega)
  replace h3 := (h3.past (b' := b9) (pv3 A42 B42 C42 a42 b_42 d42).toArray.toList (by omega)).past (b' := b10) (pv3 A45 B45 C45 a45 b_45 d45).toArray.toList (by omega)
  replace h5 := (h5.past (b' := b9) (pv3 A42 B42 C42 a42 b_42 d42).toArray.toList (by omega)).past (b' := b10) (pv3 A45 B45 C45 a45 b_45 d45).toArray.toList (by omega)
  replace h6 := (h6.pastAt 0 (b' := b9) (pv3 A42 B42 C42 a42 b_42 d42).toArray.toList (by omega)).pastAt 0 (b' := b10) (pv3 A45 B45 C45 a45 b_45 d45).toArray.toList (by omega)
  replace h7 := (h7.past (b' := b9) (pv3 A42 B42 C42 a42 b_42 d42).toArray.toList (by omega)).past (b' := b10) (pv3 A45 B45 C45 a45 b_45 d45).toArray.toList (by omega)
  replace h8 := (h8.past (b' := b9) (pv3 A42 B42 C42 a42 b_42 d42).toArray.toList (by omega)).past (b' := b10) (pv3 A45 B45 C45 a45 b_45 d45).toArray.toList (by omega)
  replace hW := Below.setCells (Below.setCells hW (g := b9) (by omega) 0 (pv3 A42 B42 C42 a42 b_42 d42).toArray.toList) (g := b10) (by omega) 0 (pv3 A45 B45 C45 a45 b_45 d45).toArray.toList
  replace hT := hT0.next hW
  with_reducible refine wpList_store_mid (op := ⟨none, .store 47 (.tmp 9) (.tmp 42), _, _, _, _⟩) rfl 47 (.tmp 9) (.tmp 42) rfl b9 0 (pv3 A42 B42 C42 a42 b_42 d42).toArray rfl rfl R9 (a47 rfl) (sl_one (pv3_sl _ _ _ _ _ _)) ?_
  with_reducible refine wpList_store_mid (op := ⟨none, .store 47 (.tmp 10) (.tmp 45), _, _, _, _⟩) rfl 47 (.tmp 10) (.tmp 45) rfl b10 0 (pv3 A45 B45 C45 a45 b_45 d45).toArray rfl rfl R10 (a47 rfl) (sl_one (pv3_sl _ _ _ _ _ _)) ?_
  generalize ((w34.setCells b9 0 (pv3 A42 B42 C42 a42 b_42 d42).toArray.toList).setCells b10 0 (pv3 A45 B45 C45 a45 b_45 d45).toArray.toList) = w35 at *
  clear R9 R10 Z9 Z10 L9 L10 ne9_10
  go_wp2_with (fail)
  have s35 := hW.size
  refine region_spec2 21 67 (fun _ => false) [Is (.agg (ints .i64 pp).toArray), Is (.agg (ints .u8 bp).toArray), Is (.agg (pv3 A42 B42 C42 a42 b_42 d42).toArray), Is (.agg (ints .u8 bp).toArray), Is (.bool true), Is (.bool true), Is (.agg (ints .i64 pp).toArray), Is (.agg (ints .i64 qq).toArray), Is (.agg (ints .i64 u).toArray), Is (.agg (ints .u8 bu).toArray), Is (.agg (pv3 A42 B42 C42 a42 b_42 d42).toArray), Is (.agg (pv3 A45 B45 C45 a45 b_45 d45).toArray), IsN (dF).val, IsQ (Edw.add eF (Edw.mul eF (bn m) baseP) (Edw.mul eF (bn n) baseP)), Is (.agg (ints .u8 bu).toArray), Is (.bool true), Is (.bool true), Is (.bool true), Is (.agg (ints .i64 pp).toArray), Is (.bool true), Is (.bool true)] [46, 47, 48, 49, 50, 51, 52, 53, 54, 55, 56, 57, 58, 59, 60, 61, 62, 63, 64, 65, 66] (by kernel_rfl) (by kernel_rfl) (by kernel_rfl) (Nat.le_of_eq rfl) (grows_cons (Is.grows _) (grows_cons (Is.grows _) (grows_cons (Is.grows _) (grows_cons (Is.grows _) (grows_cons (Is.grows _) (grows_cons (Is.grows _) (grows_cons (Is.grows _) (grows_cons (Is.grows _) (grows_cons (Is.grows _) (grows_cons (Is.grows _) (grows_cons (Is.grows _) (grows_cons (Is.grows _) (grows_cons (IsN.grows _) (grows_cons (IsQ.grows _) (grows_cons (Is.grows _) (grows_cons (Is.grows _) (grows_cons (Is.grows _) (grows_cons (Is.grows _) (grows_cons (Is.grows _) (grows_cons (Is.grows _) (grows_cons (Is.grows _) grows_nil)))))))))))))))))))))
    ⟨step_pt rfl (.inl rfl) h7 7 rfl (by kernel_rfl) rfl rfl,
     step_to rfl (.inl rfl) rfl cg10 yp rfl (one_arg (knows_in 0 46 (by decide) (by kernel_rfl) rfl rfl)),
     step_rb rfl (.inl rfl) h9 9 rfl (by kernel_rfl) rfl rfl,
     step_qbytes rfl (.inl rfl) ep.out rfl rfl ((knows_in 2 48 (by decide) (by kernel_rfl) rfl rfl).q J42),
     step_eqs rfl (.inl rfl) rfl lbp rfl (knows_in 1 47 (by decide) (by kernel_rfl) rfl rfl) (knows_in 3 49 (by decide) (by kernel_rfl) rfl rfl),
     step_mv rfl (.inl rfl) rfl rfl (knows_in 4 50 (by decide) (by kernel_rfl) rfl rfl),
     step_pt rfl (.inr ⟨5, true, 51, rfl, by decide, by kernel_rfl, rfl, fun _ _ h => h⟩) h7 7 rfl (by kernel_rfl) rfl rfl,
     step_pt rfl (.inr ⟨5, true, 51, rfl, by decide, by kernel_rfl, rfl, fun _ _ h => h⟩) h8 8 rfl (by kernel_rfl) rfl rfl,
     step_toT rfl (.inr ⟨5, true, 51, rfl, by decide, by kernel_rfl, rfl, fun _ _ h => h⟩) rfl cg11 hT ku rfl (two_args (knows_in 6 52 (by decide) (by kernel_rfl) rfl rfl) (knows_in 7 53 (by decide) (by kernel_rfl) rfl rfl)),
     step_to rfl (.inr ⟨5, true, 51, rfl, by decide, by kernel_rfl, rfl, fun _ _ h => h⟩) rfl cg10 yu rfl (one_arg (knows_in 8 54 (by decide) (by kernel_rfl) rfl rfl)),
     step_rb rfl (.inr ⟨5, true, 51, rfl, by decide, by kernel_rfl, rfl, fun _ _ h => h⟩) h9 9 rfl (by kernel_rfl) rfl rfl,
     step_rb rfl (.inr ⟨5, true, 51, rfl, by decide, by kernel_rfl, rfl, fun _ _ h => h⟩) h10 10 rfl (by kernel_rfl) rfl rfl,
     step_rn rfl (.inr ⟨5, true, 51, rfl, by decide, by kernel_rfl, rfl, fun _ _ h => h⟩) rfl cg21 rfl (fun a w hw hf hd => ⟨#[], by simp, rf_d w⟩),
     step_qadd rfl (.inr ⟨5, true, 51, rfl, by decide, by kernel_rfl, rfl, fun _ _ h => h⟩) onm onn rfl rfl ((knows_in 10 56 (by decide) (by kernel_rfl) rfl rfl).q J42) ((knows_in 11 57 (by decide) (by kernel_rfl) rfl rfl).q J45) (knowsN_in 12 58 (by decide) (by kernel_rfl) rfl rfl),
     step_qbytes rfl (.inr ⟨5, true, 51, rfl, by decide, by kernel_rfl, rfl, fun _ _ h => h⟩) eu.out rfl rfl (knowsQ_in 13 59 (by decide) (by kernel_rfl) rfl rfl),
     step_eqs rfl (.inr ⟨5, true, 51, rfl, by decide, by kernel_rfl, rfl, fun _ _ h => h⟩) rfl lbu rfl (knows_in 9 55 (by decide) (by kernel_rfl) rfl rfl) (knows_in 14 60 (by decide) (by kernel_rfl) rfl rfl),
     step_pick rfl (.inl rfl) (b := true) rfl rfl (knows_in 5 51 (by decide) (by kernel_rfl) rfl rfl) (knows_in 15 61 (by decide) (by kernel_rfl) rfl rfl),
     step_mv rfl (.inl rfl) rfl rfl (knows_in 16 62 (by decide) (by kernel_rfl) rfl rfl),
     step_pt rfl (.inr ⟨17, true, 63, rfl, by decide, by kernel_rfl, rfl, fun _ _ h => h⟩) h7 7 rfl (by kernel_rfl) rfl rfl,
     step_toT rfl (.inr ⟨17, true, 63, rfl, by decide, by kernel_rfl, rfl, fun _ _ h => h⟩) rfl cg9 hT op rfl (one_arg (knows_in 18 64 (by decide) (by kernel_rfl) rfl rfl)),
     step_pick rfl (.inl rfl) (b := true) rfl rfl (knows_in 17 63 (by decide) (by kernel_rfl) rfl rfl) (knows_in 19 65 (by decide) (by kernel_rfl) rfl rfl), trivial⟩ ?_
  intro val w36 hw hS hap hla
  have e46 : val 46 = (.agg (ints .i64 pp).toArray) := hS 0 46 (by decide) rfl
  have e47 : val 47 = (.agg (ints .u8 bp).toArray) := hS 1 47 (by decide) rfl
  have e48 : val 48 = (.agg (pv3 A42 B42 C42 a42 b_42 d42).toArray) := hS 2 48 (by decide) rfl
  have e49 : val 49 = (.agg (ints .u8 bp).toArray) := hS 3 49 (by decide) rfl
  have e50 : val 50 = (.bool true) := hS 4 50 (by decide) rfl
  have e51 : val 51 = (.bool true) := hS 5 51 (by decide) rfl
  have e52 : val 52 = (.agg (ints .i64 pp).toArray) := hS 6 52 (by decide) rfl
  have e53 : val 53 = (.agg (ints .i64 qq).toArray) := hS 7 53 (by decide) rfl
  have e54 : val 54 = (.agg (ints .i64 u).toArray) := hS 8 54 (by decide) rfl
  have e55 : val 55 = (.agg (ints .u8 bu).toArray) := hS 9 55 (by decide) rfl
  have e56 : val 56 = (.agg (pv3 A42 B42 C42 a42 b_42 d42).toArray) := hS 10 56 (by decide) rfl
  have e57 : val 57 = (.agg (pv3 A45 B45 C45 a45 b_45 d45).toArray) := hS 11 57 (by decide) rfl
  obtain ⟨A58, c58, y58, e58, H58, M58⟩ := hS 12 58 (by decide) rfl
  obtain ⟨A59, B59, C59, a59, b_59, d59, e59, J59⟩ := (show IsQ (Edw.add eF (Edw.mul eF (bn m) baseP) (Edw.mul eF (bn n) baseP)) (val 59) w36 from hS 13 59 (by decide) rfl).val
  have e60 : val 60 = (.agg (ints .u8 bu).toArray) := hS 14 60 (by decide) rfl
  have e61 : val 61 = (.bool true) := hS 15 61 (by decide) rfl
  have e62 : val 62 = (.bool true) := hS 16 62 (by decide) rfl
  have e63 : val 63 = (.bool true) := hS 17 63 (by decide) rfl
  have e64 : val 64 = (.agg (ints .i64 pp).toArray) := hS 18 64 (by decide) rfl
  have e65 : val 65 = (.bool true) := hS 19 65 (by decide) rfl
  have e66 : val 66 = (.bool true) := hS 20 66 (by decide) rfl
  simp only [putVals, List.foldl_cons, List.foldl_nil, List.drop_succ_cons, List.drop_zero, Act.put, List.setIfInBounds_toArray, List.set_cons_succ, List.set_cons_zero, e46, e47, e48, e49, e50, e51, e52, e53, e54, e55, e56, e57, e58, e59, e60, e61, e62, e63, e64, e65, e66]
  clear hS hap hla e46 e47 e48 e49 e50 e51 e52 e53 e54 e55 e56 e57 e58 e59 e60 e61 e62 e63 e64 e65 e66 H58 M58 J59
  replace h2 := h2.next hw
  replace h3 := h3.next hw
  replace h5 := h5.next hw
  replace h6 := h6.next hw
  replace J14 := J14.next hw
  replace hT := hT.next hw
  replace h7 := h7.next hw
  replace h8 := h8.next hw
  replace J42 := J42.next hw
  replace J45 := J45.next hw
  replace h9 := h9.next hw
  replace h10 := h10.next hw
  replace hW := hW.trans (Below.mono hw hW.size)
  clear hw
  go_wp2_with (fail)
  go_ret
  exact ⟨rfl, hW⟩
end Go.Proofs.YtpaopdjbhmdfjaaDoor
