/- Texts laid together. -/
import Derived.Test.YthpibkpljakeeaaGreatDoorG7
import Derived.Test.YthpibkpljakeeaaGreatDoorG11
import Derived.Test.YthpibkpljakeeaaGreatDoorG10
import Derived.Test.YthpibkpljakeeaaGreatDoorSwapM
namespace Go.Proofs.YthpibkpljakeeaaGreatDoor
set_option maxHeartbeats 4000000
set_option maxRecDepth 4000
open Go Go.RowKit
theorem dF_of : ph NT.PN (bn DL) = dF := by rw [dl_bn]; rfl
theorem nf_factor : ∃ v, CallsP 68 #[] (.agg (ints .i64 v).toArray) ∧ Nf v dF := by
 obtain ⟨v, hk, hv⟩ := nf_of dl_len dl_byt (by decide)
 rw [dF_of] at hv
 refine ⟨v, fun W hT => ?_, hv⟩
 obtain ⟨z26, s26⟩ := zero_of_info inf26
 have h0 := Bx.new W (zeros 16) nf_zeros.1.len
 have hW := below_new W (.cells (ints .i64 (zeros 16)).toArray 44)
 replace hT := (hT.alloc (.cells (ints .i64 (zeros 16)).toArray 44))
 go_enter Tryz.func68, Tryz.ntmps68
 go_upto_region 1 with (fail)
 generalize W.alloc (.cells (ints .i64 (zeros 16)).toArray 44) = w0 at *
 have s0 := hW.size
 refine rSeq 2 3 (fun _ => false) [Is (.agg (ints .u8 DL).toArray), IsL v] [1, 2] (gC (gC grows_nil))
   ⟨step_glob rfl (.inl rfl) hT.d dl_len rfl (fun _ => rfl) rfl,
    step_to rfl (.inl rfl) rfl cf9 hk rfl (one_arg (kI 0 1 rfl rfl)), trivial⟩ ?_
 intro val w1 hw hS hap hla
 simp only [pA, pB, pC, pD, pE, Act.put, pG, pH, pI, eVal hS 0 1 rfl rfl, eVal hS 1 2 rfl rfl]
 clear hS hap hla
 have LL0 := hid hv.1.len
 have Y0 := h0.next hw
 have R0 := Y0.room (l' := v) hv.1.len
 have h9 := Y0.stored (l' := v) hv.1.len
 replace hT := hT.next hw
 replace h0 := h0.next hw
 replace hW := bT hW hw
 with_reducible refine wpList_store_mid (op := ⟨none, .store 44 (.tmp 0) (.tmp 2), _, _, _, _⟩) rfl 44 (.tmp 0) (.tmp 2) rfl W.heap.size 0 (ints .i64 v).toArray rfl rfl R0 (a26 LL0.out) (ints_all _ _) ?_
 replace hW := Below.setCells hW (g := W.heap.size) (by omega) 0 (ints .i64 v).toArray.toList
 generalize (w1.setCells W.heap.size 0 (ints .i64 v).toArray.toList) = w2 at *
 clear hw R0 LL0 Y0
 go_wp2_with (fail)
 exact ret_rows rfl W.heap.size 0 rfl (ints .i64 v) _ h9.range Tryz.underlying44 rfl (l26 hv.1.len) rfl ⟨rfl, hW⟩
theorem nf_twice {x : List Int} {a : Fin NT.PN} (h : Nf x a) : ∃ v, CallsTo 69 #[.agg (ints .i64 x).toArray] (.agg (ints .i64 v).toArray) ∧ Nf v (a + a) := by
 obtain ⟨v0, kv0, hv0⟩ := nf_add h h
 refine ⟨v0, fun W => ?_, hv0⟩
 obtain ⟨z26, s26⟩ := zero_of_info inf26
 have h1 := (Bx.new W x h.1.len).next (below_new _ (.cells (ints .i64 (zeros 16)).toArray 44))
 have h2 := Bx.new (W.alloc (.cells (ints .i64 x).toArray 44)) (zeros 16) nf_zeros.1.len
 have hW := (below_new W (.cells (ints .i64 x).toArray 44)).alloc (by simp) (.cells (ints .i64 (zeros 16)).toArray 44)
 simp only [World.size_alloc] at h2
 go_enter Tryz.func69, Tryz.ntmps69
 go_upto_region 1 with (fail)
 generalize (W.alloc (.cells (ints .i64 x).toArray 44)).alloc (.cells (ints .i64 (zeros 16)).toArray 44) = w0 at *
 have s0 := hW.size
 refine rSeq 3 6 (fun _ => false) [IsL x, IsL x, IsL v0] [3, 4, 5] (gC (gC (gC grows_nil)))
   ⟨step_el rfl (.inl rfl) h1 1 rfl (by kernel_rfl) rfl rfl,
    step_el rfl (.inl rfl) h1 1 rfl (by kernel_rfl) rfl rfl,
    step_to rfl (.inl rfl) rfl cf18 kv0 rfl (two_args (kI 0 3 rfl rfl) (kI 1 4 rfl rfl)), trivial⟩ ?_
 intro val w1 hw hS hap hla
 simp only [pA, pB, pC, pD, pE, Act.put, pG, pH, pI, eVal hS 0 3 rfl rfl, eVal hS 1 4 rfl rfl, eVal hS 2 5 rfl rfl]
 clear hS hap hla
 have LL2 := hid hv0.1.len
 have Y2 := h2.next hw
 have R2 := Y2.room (l' := v0) hv0.1.len
 have h9 := Y2.stored (l' := v0) hv0.1.len
 replace h1 := h1.next hw
 replace h2 := h2.next hw
 replace hW := bT hW hw
 with_reducible refine wpList_store_mid (op := ⟨none, .store 44 (.tmp 2) (.tmp 5), _, _, _, _⟩) rfl 44 (.tmp 2) (.tmp 5) rfl (W.heap.size + 1) 0 (ints .i64 v0).toArray rfl rfl R2 (a26 LL2.out) (ints_all _ _) ?_
 replace hW := Below.setCells hW (g := (W.heap.size + 1)) (by omega) 0 (ints .i64 v0).toArray.toList
 generalize (w1.setCells (W.heap.size + 1) 0 (ints .i64 v0).toArray.toList) = w2 at *
 clear hw R2 LL2 Y2
 go_wp2_with (fail)
 exact ret_rows rfl (W.heap.size + 1) 0 rfl (ints .i64 v0) _ h9.range Tryz.underlying44 rfl (l26 hv0.1.len) rfl ⟨rfl, hW⟩
theorem c_exists {l : List Int} {c : C4 NT.PN} (h : Pn l c) (hz : c.z ≠ 0) : CallsTo 37 #[.agg (ints .i64 l).toArray] (.bool true) := fun W => by
 obtain ⟨px, py, pz, pT, rfl, hpx, hpy, hpz, hpt⟩ := h
 obtain ⟨v0, kv0, hv0⟩ := nf_zero
 have ke := nf_other hpz hv0 hz
 have h1 := B4.new W (pt px py pz pT) (pt_len hpx.1.len hpy.1.len hpz.1.len hpt.1.len)
 have hW := below_new W (.cells (ints .i64 (pt px py pz pT)).toArray 46)
 go_enter Tryz.func37, Tryz.ntmps37
 go_wp2_with (fail)
 generalize W.alloc (.cells (ints .i64 (pt px py pz pT)).toArray 46) = w0 at *
 have s0 := hW.size
 refine rSpec 5 8 (fun _ => false) [Is (.pointer (some ⟨W.heap.size, 32, none⟩)), IsL pz, IsL v0, Is (.bool false), Is (.bool true)] [3, 4, 5, 6, 7] (gC (gC (gC (gC (gC grows_nil)))))
   ⟨step_fp2 rfl (.inl rfl) rfl rfl (kO 1 rfl),
    step_part rfl (.inl rfl) (h1.p2 hpx.1.len hpy.1.len) hpz.1.len rfl rfl (kI 0 3 rfl rfl),
    step_to rfl (.inl rfl) rfl cf16 kv0 rfl (one_arg (knows_const _)),
    step_to rfl (.inl rfl) rfl cf14 ke rfl (two_args (kI 1 4 rfl rfl) (kI 2 5 rfl rfl)),
    step_not rfl (.inl rfl) (b := false) rfl rfl (kI 3 6 rfl rfl), trivial⟩ ?_
 intro val w1 hw hS hap hla
 simp only [pA, pB, pC, pD, pE, Act.put, pG, pH, pI, eVal hS 0 3 rfl rfl, eVal hS 1 4 rfl rfl, eVal hS 2 5 rfl rfl, eVal hS 3 6 rfl rfl, eVal hS 4 7 rfl rfl]
 clear hS hap hla
 replace h1 := h1.next hw
 replace hW := bT hW hw
 clear hw
 go_wp2_with (fail)
 go_ret
 exact ⟨rfl, hW⟩
theorem c_at {x y : List Int} {a b : Fin NT.PN} (h : Nf x a) (k : Nf y b) : ∃ r, CallsTo 35 #[.agg (ints .i64 x).toArray, .agg (ints .i64 y).toArray] (.agg (ints .i64 r).toArray) ∧ Pn r (atC a b) := by
 obtain ⟨v0, kv0, hv0⟩ := nf_one
 obtain ⟨v1, kv1, hv1⟩ := nf_mul h k
 refine ⟨pt x y v0 v1, fun W => ?_, ⟨x, y, v0, v1, rfl, h, k, hv0, hv1⟩⟩
 obtain ⟨z28, s28⟩ := zero_of_info inf28
 have h2 := ((Bx.new W x h.1.len).next (below_new _ (.cells (ints .i64 y).toArray 44))).next (below_new _ (.cells (ints .i64 (zeros 64)).toArray 46))
 have h3 := (Bx.new (W.alloc (.cells (ints .i64 x).toArray 44)) y k.1.len).next (below_new _ (.cells (ints .i64 (zeros 64)).toArray 46))
 have h4 := B4.new ((W.alloc (.cells (ints .i64 x).toArray 44)).alloc (.cells (ints .i64 y).toArray 44)) (zeros 64) (zeros_len 64)
 have hW := ((below_new W (.cells (ints .i64 x).toArray 44)).alloc (by simp) (.cells (ints .i64 y).toArray 44)).alloc (by simp; omega) (.cells (ints .i64 (zeros 64)).toArray 46)
 simp only [World.size_alloc] at h3 h4
 go_enter Tryz.func35, Tryz.ntmps35
 go_wp2_with (fail)
 generalize ((W.alloc (.cells (ints .i64 x).toArray 44)).alloc (.cells (ints .i64 y).toArray 44)).alloc (.cells (ints .i64 (zeros 64)).toArray 46) = w0 at *
 have s0 := hW.size
 refine rSpec 7 12 (fun _ => false) [IsL x, IsL y, IsL v0, IsL x, IsL y, IsL v1, IsL (pt x y v0 v1)] [5, 6, 7, 8, 9, 10, 11] (gC (gC (gC (gC (gC (gC (gC grows_nil)))))))
   ⟨step_el rfl (.inl rfl) h2 2 rfl (by kernel_rfl) rfl rfl,
    step_el rfl (.inl rfl) h3 3 rfl (by kernel_rfl) rfl rfl,
    step_to rfl (.inl rfl) rfl cf16 kv0 rfl (one_arg (knows_const _)),
    step_el rfl (.inl rfl) h2 2 rfl (by kernel_rfl) rfl rfl,
    step_el rfl (.inl rfl) h3 3 rfl (by kernel_rfl) rfl rfl,
    step_to rfl (.inl rfl) rfl cf22 kv1 rfl (two_args (kI 3 8 rfl rfl) (kI 4 9 rfl rfl)),
    step_make28 rfl (.inl rfl) rfl h.1.len k.1.len hv0.1.len hv1.1.len rfl (kI 0 5 rfl rfl) (kI 1 6 rfl rfl) (kI 2 7 rfl rfl) (kI 5 10 rfl rfl), trivial⟩ ?_
 intro val w1 hw hS hap hla
 simp only [pA, pB, pC, pD, pE, Act.put, pG, pH, pI, eVal hS 0 5 rfl rfl, eVal hS 1 6 rfl rfl, eVal hS 2 7 rfl rfl, eVal hS 3 8 rfl rfl, eVal hS 4 9 rfl rfl, eVal hS 5 10 rfl rfl, eVal hS 6 11 rfl rfl]
 clear hS hap hla
 have LL4 := hid (pt_len h.1.len k.1.len hv0.1.len hv1.1.len)
 have Y4 := h4.next hw
 have R4 := Y4.room (l' := (pt x y v0 v1)) (pt_len h.1.len k.1.len hv0.1.len hv1.1.len)
 have h9 := Y4.stored (l' := (pt x y v0 v1)) (pt_len h.1.len k.1.len hv0.1.len hv1.1.len)
 replace h2 := h2.next hw
 replace h3 := h3.next hw
 replace h4 := h4.next hw
 replace hW := bT hW hw
 with_reducible refine wpList_store_mid (op := ⟨none, .store 46 (.tmp 4) (.tmp 11), _, _, _, _⟩) rfl 46 (.tmp 4) (.tmp 11) rfl (W.heap.size + 1 + 1) 0 (ints .i64 (pt x y v0 v1)).toArray rfl rfl R4 (a28 LL4.out) (ints_all _ _) ?_
 replace hW := Below.setCells hW (g := (W.heap.size + 1 + 1)) (by omega) 0 (ints .i64 (pt x y v0 v1)).toArray.toList
 generalize (w1.setCells (W.heap.size + 1 + 1) 0 (ints .i64 (pt x y v0 v1)).toArray.toList) = w2 at *
 clear hw R4 LL4 Y4
 go_wp2_with (fail)
 exact ret_rows rfl (W.heap.size + 1 + 1) 0 rfl (ints .i64 (pt x y v0 v1)) _ h9.range Tryz.underlying46 rfl (l28 (pt_len h.1.len k.1.len hv0.1.len hv1.1.len)) rfl ⟨rfl, hW⟩
theorem c_nought : ∃ r, CallsTo 38 #[] (.agg (ints .i64 r).toArray) ∧ Pn r (atC 0 1) := by
 obtain ⟨v0, kv0, hv0⟩ := nf_zero
 obtain ⟨v1, kv1, hv1⟩ := nf_one
 obtain ⟨r, hk, hr⟩ := c_at hv0 hv1
 refine ⟨r, fun W => ?_, hr⟩
 obtain ⟨z28, s28⟩ := zero_of_info inf28
 have h0 := B4.new W (zeros 64) (zeros_len 64)
 have hW := below_new W (.cells (ints .i64 (zeros 64)).toArray 46)
 go_enter Tryz.func38, Tryz.ntmps38
 go_upto_region 1 with (fail)
 generalize W.alloc (.cells (ints .i64 (zeros 64)).toArray 46) = w0 at *
 have s0 := hW.size
 refine rSeq 3 4 (fun _ => false) [IsL v0, IsL v1, IsL r] [1, 2, 3] (gC (gC (gC grows_nil)))
   ⟨step_to rfl (.inl rfl) rfl cf16 kv0 rfl (one_arg (knows_const _)),
    step_to rfl (.inl rfl) rfl cf16 kv1 rfl (one_arg (knows_const _)),
    step_to rfl (.inl rfl) rfl cg42 hk rfl (two_args (kI 0 1 rfl rfl) (kI 1 2 rfl rfl)), trivial⟩ ?_
 intro val w1 hw hS hap hla
 simp only [pA, pB, pC, pD, pE, Act.put, pG, pH, pI, eVal hS 0 1 rfl rfl, eVal hS 1 2 rfl rfl, eVal hS 2 3 rfl rfl]
 clear hS hap hla
 have LL0 := hid hr.len
 have Y0 := h0.next hw
 have R0 := Y0.room (l' := r) hr.len
 have h9 := Y0.stored (l' := r) hr.len
 replace h0 := h0.next hw
 replace hW := bT hW hw
 with_reducible refine wpList_store_mid (op := ⟨none, .store 46 (.tmp 0) (.tmp 3), _, _, _, _⟩) rfl 46 (.tmp 0) (.tmp 3) rfl W.heap.size 0 (ints .i64 r).toArray rfl rfl R0 (a28 LL0.out) (ints_all _ _) ?_
 replace hW := Below.setCells hW (g := W.heap.size) (by omega) 0 (ints .i64 r).toArray.toList
 generalize (w1.setCells W.heap.size 0 (ints .i64 r).toArray.toList) = w2 at *
 clear hw R0 LL0 Y0
 go_wp2_with (fail)
 exact ret_rows rfl W.heap.size 0 rfl (ints .i64 r) _ h9.range Tryz.underlying46 rfl (l28 hr.len) rfl ⟨rfl, hW⟩
theorem bx_of : ph NT.PN (bn BXL) = bxF := by rw [bxl_bn]; rfl
theorem by_of : ph NT.PN (bn BYL) = byF := by rw [byl_bn]; rfl
theorem c_base : ∃ r, CallsP 16 #[] (.agg (ints .i64 r).toArray) ∧ Pn r (atC bxF byF) := by
 obtain ⟨v, k1, hv⟩ := nf_of bxl_len bxl_byt (by decide)
 obtain ⟨u, k2, hu⟩ := nf_of byl_len byl_byt (by decide)
 rw [bx_of] at hv
 rw [by_of] at hu
 obtain ⟨r, hk, hr⟩ := c_at hv hu
 refine ⟨r, fun W hT => ?_, hr⟩
 obtain ⟨z28, s28⟩ := zero_of_info inf28
 have h0 := B4.new W (zeros 64) (zeros_len 64)
 have hW := below_new W (.cells (ints .i64 (zeros 64)).toArray 46)
 replace hT := (hT.alloc (.cells (ints .i64 (zeros 64)).toArray 46))
 go_enter Tryz.func16, Tryz.ntmps16
 go_wp2_with (fail)
 generalize W.alloc (.cells (ints .i64 (zeros 64)).toArray 46) = w0 at *
 have s0 := hW.size
 refine rSpec 5 6 (fun _ => false) [Is (.agg (ints .u8 BXL).toArray), IsL v, Is (.agg (ints .u8 BYL).toArray), IsL u, IsL r] [1, 2, 3, 4, 5] (gC (gC (gC (gC (gC grows_nil)))))
   ⟨step_glob rfl (.inl rfl) hT.bx bxl_len rfl (fun _ => rfl) rfl,
    step_to rfl (.inl rfl) rfl cf9 k1 rfl (one_arg (kI 0 1 rfl rfl)),
    step_glob rfl (.inl rfl) hT.bY byl_len rfl (fun _ => rfl) rfl,
    step_to rfl (.inl rfl) rfl cf9 k2 rfl (one_arg (kI 2 3 rfl rfl)),
    step_to rfl (.inl rfl) rfl cg42 hk rfl (two_args (kI 1 2 rfl rfl) (kI 3 4 rfl rfl)), trivial⟩ ?_
 intro val w1 hw hS hap hla
 simp only [pA, pB, pC, pD, pE, Act.put, pG, pH, pI, eVal hS 0 1 rfl rfl, eVal hS 1 2 rfl rfl, eVal hS 2 3 rfl rfl, eVal hS 3 4 rfl rfl, eVal hS 4 5 rfl rfl]
 clear hS hap hla
 have LL0 := hid hr.len
 have Y0 := h0.next hw
 have R0 := Y0.room (l' := r) hr.len
 have h9 := Y0.stored (l' := r) hr.len
 replace hT := hT.next hw
 replace h0 := h0.next hw
 replace hW := bT hW hw
 with_reducible refine wpList_store_mid (op := ⟨none, .store 46 (.tmp 0) (.tmp 5), _, _, _, _⟩) rfl 46 (.tmp 0) (.tmp 5) rfl W.heap.size 0 (ints .i64 r).toArray rfl rfl R0 (a28 LL0.out) (ints_all _ _) ?_
 replace hW := Below.setCells hW (g := W.heap.size) (by omega) 0 (ints .i64 r).toArray.toList
 generalize (w1.setCells W.heap.size 0 (ints .i64 r).toArray.toList) = w2 at *
 clear hw R0 LL0 Y0
 go_wp2_with (fail)
 exact ret_rows rfl W.heap.size 0 rfl (ints .i64 r) _ h9.range Tryz.underlying46 rfl (l28 hr.len) rfl ⟨rfl, hW⟩
theorem c_pneg {l : List Int} {c : C4 NT.PN} (h : Pn l c) : ∃ r, CallsTo 33 #[.agg (ints .i64 l).toArray] (.agg (ints .i64 r).toArray) ∧ Pn r (negC c) := by
 obtain ⟨px, py, pz, pT, rfl, hpx, hpy, hpz, hpt⟩ := h
 obtain ⟨v0, kv0, hv0⟩ := nf_neg hpx
 obtain ⟨v1, kv1, hv1⟩ := nf_neg hpt
 refine ⟨pt v0 py pz v1, fun W => ?_, ⟨v0, py, pz, v1, rfl, hv0, hpy, hpz, hv1⟩⟩
 obtain ⟨z28, s28⟩ := zero_of_info inf28
 have h1 := (B4.new W (pt px py pz pT) (pt_len hpx.1.len hpy.1.len hpz.1.len hpt.1.len)).next (below_new _ (.cells (ints .i64 (zeros 64)).toArray 46))
 have h2 := B4.new (W.alloc (.cells (ints .i64 (pt px py pz pT)).toArray 46)) (zeros 64) (zeros_len 64)
 have hW := (below_new W (.cells (ints .i64 (pt px py pz pT)).toArray 46)).alloc (by simp) (.cells (ints .i64 (zeros 64)).toArray 46)
 simp only [World.size_alloc] at h2
 go_enter Tryz.func33, Tryz.ntmps33
 go_wp2_with (fail)
 generalize (W.alloc (.cells (ints .i64 (pt px py pz pT)).toArray 46)).alloc (.cells (ints .i64 (zeros 64)).toArray 46) = w0 at *
 have s0 := hW.size
 refine rSpec 11 14 (fun _ => false) [Is (.pointer (some ⟨W.heap.size, 0, none⟩)), IsL px, IsL v0, Is (.pointer (some ⟨W.heap.size, 16, none⟩)), IsL py, Is (.pointer (some ⟨W.heap.size, 32, none⟩)), IsL pz, Is (.pointer (some ⟨W.heap.size, 48, none⟩)), IsL pT, IsL v1, IsL (pt v0 py pz v1)] [3, 4, 5, 6, 7, 8, 9, 10, 11, 12, 13] (gC (gC (gC (gC (gC (gC (gC (gC (gC (gC (gC grows_nil)))))))))))
   ⟨step_fp0 rfl (.inl rfl) rfl rfl (kO 1 rfl),
    step_part rfl (.inl rfl) (h1.p0) hpx.1.len rfl rfl (kI 0 3 rfl rfl),
    step_to rfl (.inl rfl) rfl cg41 kv0 rfl (one_arg (kI 1 4 rfl rfl)),
    step_fp1 rfl (.inl rfl) rfl rfl (kO 1 rfl),
    step_part rfl (.inl rfl) (h1.p1 hpx.1.len) hpy.1.len rfl rfl (kI 3 6 rfl rfl),
    step_fp2 rfl (.inl rfl) rfl rfl (kO 1 rfl),
    step_part rfl (.inl rfl) (h1.p2 hpx.1.len hpy.1.len) hpz.1.len rfl rfl (kI 5 8 rfl rfl),
    step_fp3 rfl (.inl rfl) rfl rfl (kO 1 rfl),
    step_part rfl (.inl rfl) (h1.p3 hpx.1.len hpy.1.len hpz.1.len) hpt.1.len rfl rfl (kI 7 10 rfl rfl),
    step_to rfl (.inl rfl) rfl cg41 kv1 rfl (one_arg (kI 8 11 rfl rfl)),
    step_make28 rfl (.inl rfl) rfl hv0.1.len hpy.1.len hpz.1.len hv1.1.len rfl (kI 2 5 rfl rfl) (kI 4 7 rfl rfl) (kI 6 9 rfl rfl) (kI 9 12 rfl rfl), trivial⟩ ?_
 intro val w1 hw hS hap hla
 simp only [pA, pB, pC, pD, pE, Act.put, pG, pH, pI, eVal hS 0 3 rfl rfl, eVal hS 1 4 rfl rfl, eVal hS 2 5 rfl rfl, eVal hS 3 6 rfl rfl, eVal hS 4 7 rfl rfl, eVal hS 5 8 rfl rfl, eVal hS 6 9 rfl rfl, eVal hS 7 10 rfl rfl, eVal hS 8 11 rfl rfl, eVal hS 9 12 rfl rfl, eVal hS 10 13 rfl rfl]
 clear hS hap hla
 have LL2 := hid (pt_len hv0.1.len hpy.1.len hpz.1.len hv1.1.len)
 have Y2 := h2.next hw
 have R2 := Y2.room (l' := (pt v0 py pz v1)) (pt_len hv0.1.len hpy.1.len hpz.1.len hv1.1.len)
 have h9 := Y2.stored (l' := (pt v0 py pz v1)) (pt_len hv0.1.len hpy.1.len hpz.1.len hv1.1.len)
 replace h1 := h1.next hw
 replace h2 := h2.next hw
 replace hW := bT hW hw
 with_reducible refine wpList_store_mid (op := ⟨none, .store 46 (.tmp 2) (.tmp 13), _, _, _, _⟩) rfl 46 (.tmp 2) (.tmp 13) rfl (W.heap.size + 1) 0 (ints .i64 (pt v0 py pz v1)).toArray rfl rfl R2 (a28 LL2.out) (ints_all _ _) ?_
 replace hW := Below.setCells hW (g := (W.heap.size + 1)) (by omega) 0 (ints .i64 (pt v0 py pz v1)).toArray.toList
 generalize (w1.setCells (W.heap.size + 1) 0 (ints .i64 (pt v0 py pz v1)).toArray.toList) = w2 at *
 clear hw R2 LL2 Y2
 go_wp2_with (fail)
 exact ret_rows rfl (W.heap.size + 1) 0 rfl (ints .i64 (pt v0 py pz v1)) _ h9.range Tryz.underlying46 rfl (l28 (pt_len hv0.1.len hpy.1.len hpz.1.len hv1.1.len)) rfl ⟨rfl, hW⟩
theorem c_padd {l m : List Int} {c c' : C4 NT.PN} (h : Pn l c) (k : Pn m c') : ∃ r, CallsP 32 #[.agg (ints .i64 l).toArray, .agg (ints .i64 m).toArray] (.agg (ints .i64 r).toArray) ∧ Pn r (addC dF c c') := by
 obtain ⟨px, py, pz, pT, rfl, hpx, hpy, hpz, hpt⟩ := h
 obtain ⟨qx, qy, qz, qT, rfl, hqx, hqy, hqz, hqt⟩ := k
 obtain ⟨v0, kv0, hv0⟩ := nf_sub hpy hpx
 obtain ⟨v1, kv1, hv1⟩ := nf_sub hqy hqx
 obtain ⟨v2, kv2, hv2⟩ := nf_mul hv0 hv1
 obtain ⟨v3, kv3, hv3⟩ := nf_add hpy hpx
 obtain ⟨v4, kv4, hv4⟩ := nf_add hqy hqx
 obtain ⟨v5, kv5, hv5⟩ := nf_mul hv3 hv4
 obtain ⟨v6, kv6, hv6⟩ := nf_mul hpz hqz
 obtain ⟨v7, kv7, hv7⟩ := nf_factor
 obtain ⟨v8, kv8, hv8⟩ := nf_mul hv7 hpt
 obtain ⟨v9, kv9, hv9⟩ := nf_mul hv8 hqt
 obtain ⟨v10, kv10, hv10⟩ := nf_sub hv5 hv2
 obtain ⟨v11, kv11, hv11⟩ := nf_add hv5 hv2
 obtain ⟨v12, kv12, hv12⟩ := nf_add hv6 hv9
 obtain ⟨v13, kv13, hv13⟩ := nf_twice hv12
 obtain ⟨v14, kv14, hv14⟩ := nf_sub hv6 hv9
 obtain ⟨v15, kv15, hv15⟩ := nf_twice hv14
 obtain ⟨v16, kv16, hv16⟩ := nf_mul hv10 hv15
 obtain ⟨v17, kv17, hv17⟩ := nf_mul hv11 hv13
 obtain ⟨v18, kv18, hv18⟩ := nf_mul hv13 hv15
 obtain ⟨v19, kv19, hv19⟩ := nf_mul hv10 hv11
 refine ⟨pt v16 v17 v18 v19, fun W hT => ?_, ⟨v16, v17, v18, v19, rfl, hv16, hv17, hv18, hv19⟩⟩
 obtain ⟨z28, s28⟩ := zero_of_info inf28
 have h2 := ((B4.new W (pt px py pz pT) (pt_len hpx.1.len hpy.1.len hpz.1.len hpt.1.len)).next (below_new _ (.cells (ints .i64 (pt qx qy qz qT)).toArray 46))).next (below_new _ (.cells (ints .i64 (zeros 64)).toArray 46))
 have h3 := (B4.new (W.alloc (.cells (ints .i64 (pt px py pz pT)).toArray 46)) (pt qx qy qz qT) (pt_len hqx.1.len hqy.1.len hqz.1.len hqt.1.len)).next (below_new _ (.cells (ints .i64 (zeros 64)).toArray 46))
 have h4 := B4.new ((W.alloc (.cells (ints .i64 (pt px py pz pT)).toArray 46)).alloc (.cells (ints .i64 (pt qx qy qz qT)).toArray 46)) (zeros 64) (zeros_len 64)
 have hW := ((below_new W (.cells (ints .i64 (pt px py pz pT)).toArray 46)).alloc (by simp) (.cells (ints .i64 (pt qx qy qz qT)).toArray 46)).alloc (by simp; omega) (.cells (ints .i64 (zeros 64)).toArray 46)
 replace hT := (((hT.alloc (.cells (ints .i64 (pt px py pz pT)).toArray 46)).alloc (.cells (ints .i64 (pt qx qy qz qT)).toArray 46)).alloc (.cells (ints .i64 (zeros 64)).toArray 46))
 simp only [World.size_alloc] at h3 h4
 go_enter Tryz.func32, Tryz.ntmps32
 go_wp2_with (fail)
 generalize ((W.alloc (.cells (ints .i64 (pt px py pz pT)).toArray 46)).alloc (.cells (ints .i64 (pt qx qy qz qT)).toArray 46)).alloc (.cells (ints .i64 (zeros 64)).toArray 46) = w0 at *
 have s0 := hW.size
 refine rSpec 24 74 (fun i => i == 22 || i == 23) [Is (.pointer (some ⟨W.heap.size, 16, none⟩)), IsL py, Is (.pointer (some ⟨W.heap.size, 0, none⟩)), IsL px, IsL v0, Is (.pointer (some ⟨(W.heap.size + 1), 16, none⟩)), IsL qy, Is (.pointer (some ⟨(W.heap.size + 1), 0, none⟩)), IsL qx, IsL v1, IsL v2, Is (.pointer (some ⟨W.heap.size, 16, none⟩)), IsL py, Is (.pointer (some ⟨W.heap.size, 0, none⟩)), IsL px, IsL v3, Is (.pointer (some ⟨(W.heap.size + 1), 16, none⟩)), IsL qy, Is (.pointer (some ⟨(W.heap.size + 1), 0, none⟩)), IsL qx, IsL v4, IsL v5, IsZ w0.heap.size, IsZ w0.heap.size] [13, 14, 15, 16, 17, 18, 19, 20, 21, 22, 23, 24, 25, 26, 27, 28, 29, 30, 31, 32, 33, 34, 5, 6] (gC (gC (gC (gC (gC (gC (gC (gC (gC (gC (gC (gC (gC (gC (gC (gC (gC (gC (gC (gC (gC (gC (grows_cons (IsZ.grows _) (grows_cons (IsZ.grows _) grows_nil))))))))))))))))))))))))
   ⟨step_fp1 rfl (.inl rfl) rfl rfl (kO 2 rfl),
    step_part rfl (.inl rfl) (h2.p1 hpx.1.len) hpy.1.len rfl rfl (kI 0 13 rfl rfl),
    step_fp0 rfl (.inl rfl) rfl rfl (kO 2 rfl),
    step_part rfl (.inl rfl) (h2.p0) hpx.1.len rfl rfl (kI 2 15 rfl rfl),
    step_to rfl (.inl rfl) rfl cf20 kv0 rfl (two_args (kI 1 14 rfl rfl) (kI 3 16 rfl rfl)),
    step_fp1 rfl (.inl rfl) rfl rfl (kO 3 rfl),
    step_part rfl (.inl rfl) (h3.p1 hqx.1.len) hqy.1.len rfl rfl (kI 5 18 rfl rfl),
    step_fp0 rfl (.inl rfl) rfl rfl (kO 3 rfl),
    step_part rfl (.inl rfl) (h3.p0) hqx.1.len rfl rfl (kI 7 20 rfl rfl),
    step_to rfl (.inl rfl) rfl cf20 kv1 rfl (two_args (kI 6 19 rfl rfl) (kI 8 21 rfl rfl)),
    step_to rfl (.inl rfl) rfl cf22 kv2 rfl (two_args (kI 4 17 rfl rfl) (kI 9 22 rfl rfl)),
    step_fp1 rfl (.inl rfl) rfl rfl (kO 2 rfl),
    step_part rfl (.inl rfl) (h2.p1 hpx.1.len) hpy.1.len rfl rfl (kI 11 24 rfl rfl),
    step_fp0 rfl (.inl rfl) rfl rfl (kO 2 rfl),
    step_part rfl (.inl rfl) (h2.p0) hpx.1.len rfl rfl (kI 13 26 rfl rfl),
    step_to rfl (.inl rfl) rfl cf18 kv3 rfl (two_args (kI 12 25 rfl rfl) (kI 14 27 rfl rfl)),
    step_fp1 rfl (.inl rfl) rfl rfl (kO 3 rfl),
    step_part rfl (.inl rfl) (h3.p1 hqx.1.len) hqy.1.len rfl rfl (kI 16 29 rfl rfl),
    step_fp0 rfl (.inl rfl) rfl rfl (kO 3 rfl),
    step_part rfl (.inl rfl) (h3.p0) hqx.1.len rfl rfl (kI 18 31 rfl rfl),
    step_to rfl (.inl rfl) rfl cf18 kv4 rfl (two_args (kI 17 30 rfl rfl) (kI 19 32 rfl rfl)),
    step_to rfl (.inl rfl) rfl cf22 kv5 rfl (two_args (kI 15 28 rfl rfl) (kI 20 33 rfl rfl)),
    step_alloc26 (.inl rfl) rfl rfl,
    step_alloc26 (.inl rfl) rfl rfl, trivial⟩ ?_
 intro val w1 hw hS hap hla
 obtain ⟨b5, e5, L5, Z5⟩ := hS 22 5 (by decide) rfl
 obtain ⟨b6, e6, L6, Z6⟩ := hS 23 6 (by decide) rfl
 have ne5_6 : b5 ≠ b6 := fun e => hap 22 23 5 6 (by decide) (by decide) rfl rfl (by decide) rfl rfl (by rw [e5, e6, e])
 simp only [pA, pB, pC, pD, pE, Act.put, pG, pH, pI, eVal hS 0 13 rfl rfl, eVal hS 1 14 rfl rfl, eVal hS 2 15 rfl rfl, eVal hS 3 16 rfl rfl, eVal hS 4 17 rfl rfl, eVal hS 5 18 rfl rfl, eVal hS 6 19 rfl rfl, eVal hS 7 20 rfl rfl, eVal hS 8 21 rfl rfl, eVal hS 9 22 rfl rfl, eVal hS 10 23 rfl rfl, eVal hS 11 24 rfl rfl, eVal hS 12 25 rfl rfl, eVal hS 13 26 rfl rfl, eVal hS 14 27 rfl rfl, eVal hS 15 28 rfl rfl, eVal hS 16 29 rfl rfl, eVal hS 17 30 rfl rfl, eVal hS 18 31 rfl rfl, eVal hS 19 32 rfl rfl, eVal hS 20 33 rfl rfl, eVal hS 21 34 rfl rfl, e5, e6]
 clear hS hap hla e5 e6
 have LL5 := hid hv2.1.len
 have LL6 := hid hv5.1.len
 have R5 := Z5.room (l' := v2) hv2.1.len
 have hB5 := Z5.stored (l' := v2) hv2.1.len
 replace Z6 := Z6.past (b' := b5) (ints .i64 v2).toArray.toList ne5_6
 have R6 := Z6.room (l' := v5) hv5.1.len
 have hB6 := Z6.stored (l' := v5) hv5.1.len
 replace hB5 := hB5.past (b' := b6) (ints .i64 v5).toArray.toList (Ne.symm ne5_6)
 have hu := Below.setCells (Below.setCells hw L5 0 (ints .i64 v2).toArray.toList) L6 0 (ints .i64 v5).toArray.toList
 replace hT := hT.next hu
 replace h2 := h2.next hu
 replace h3 := h3.next hu
 replace h4 := h4.next hu
 replace hW := bT hW hu
 clear hu
 with_reducible refine wpList_store_mid (op := ⟨none, .store 44 (.tmp 5) (.tmp 23), _, _, _, _⟩) rfl 44 (.tmp 5) (.tmp 23) rfl b5 0 (ints .i64 v2).toArray rfl rfl R5 (a26 LL5.out) (ints_all _ _) ?_
 with_reducible refine wpList_store_mid (op := ⟨none, .store 44 (.tmp 6) (.tmp 34), _, _, _, _⟩) rfl 44 (.tmp 6) (.tmp 34) rfl b6 0 (ints .i64 v5).toArray rfl rfl R6 (a26 LL6.out) (ints_all _ _) ?_
 generalize ((w1.setCells b5 0 (ints .i64 v2).toArray.toList).setCells b6 0 (ints .i64 v5).toArray.toList) = w2 at *
 clear hw R5 LL5 Z5 R6 LL6 Z6 ne5_6
 go_wp2_with (fail)
 have s2 := hW.size
 refine rSpec 14 74 (fun i => i == 12 || i == 13) [Is (.pointer (some ⟨W.heap.size, 32, none⟩)), IsL pz, Is (.pointer (some ⟨(W.heap.size + 1), 32, none⟩)), IsL qz, IsL v6, IsL v7, Is (.pointer (some ⟨W.heap.size, 48, none⟩)), IsL pT, IsL v8, Is (.pointer (some ⟨(W.heap.size + 1), 48, none⟩)), IsL qT, IsL v9, IsZ w2.heap.size, IsZ w2.heap.size] [35, 36, 37, 38, 39, 40, 41, 42, 43, 44, 45, 46, 7, 8] (gC (gC (gC (gC (gC (gC (gC (gC (gC (gC (gC (gC (grows_cons (IsZ.grows _) (grows_cons (IsZ.grows _) grows_nil))))))))))))))
   ⟨step_fp2 rfl (.inl rfl) rfl rfl (kO 2 rfl),
    step_part rfl (.inl rfl) (h2.p2 hpx.1.len hpy.1.len) hpz.1.len rfl rfl (kI 0 35 rfl rfl),
    step_fp2 rfl (.inl rfl) rfl rfl (kO 3 rfl),
    step_part rfl (.inl rfl) (h3.p2 hqx.1.len hqy.1.len) hqz.1.len rfl rfl (kI 2 37 rfl rfl),
    step_to rfl (.inl rfl) rfl cf22 kv6 rfl (two_args (kI 1 36 rfl rfl) (kI 3 38 rfl rfl)),
    step_toP rfl (.inl rfl) rfl cg47 hT kv7 rfl (no_args),
    step_fp3 rfl (.inl rfl) rfl rfl (kO 2 rfl),
    step_part rfl (.inl rfl) (h2.p3 hpx.1.len hpy.1.len hpz.1.len) hpt.1.len rfl rfl (kI 6 41 rfl rfl),
    step_to rfl (.inl rfl) rfl cf22 kv8 rfl (two_args (kI 5 40 rfl rfl) (kI 7 42 rfl rfl)),
    step_fp3 rfl (.inl rfl) rfl rfl (kO 3 rfl),
    step_part rfl (.inl rfl) (h3.p3 hqx.1.len hqy.1.len hqz.1.len) hqt.1.len rfl rfl (kI 9 44 rfl rfl),
    step_to rfl (.inl rfl) rfl cf22 kv9 rfl (two_args (kI 8 43 rfl rfl) (kI 10 45 rfl rfl)),
    step_alloc26 (.inl rfl) rfl rfl,
    step_alloc26 (.inl rfl) rfl rfl, trivial⟩ ?_
 intro val w3 hw hS hap hla
 obtain ⟨b7, e7, L7, Z7⟩ := hS 12 7 (by decide) rfl
 obtain ⟨b8, e8, L8, Z8⟩ := hS 13 8 (by decide) rfl
 have ne7_8 : b7 ≠ b8 := fun e => hap 12 13 7 8 (by decide) (by decide) rfl rfl (by decide) rfl rfl (by rw [e7, e8, e])
 simp only [pA, pB, pC, pD, pE, Act.put, pG, pH, pI, eVal hS 0 35 rfl rfl, eVal hS 1 36 rfl rfl, eVal hS 2 37 rfl rfl, eVal hS 3 38 rfl rfl, eVal hS 4 39 rfl rfl, eVal hS 5 40 rfl rfl, eVal hS 6 41 rfl rfl, eVal hS 7 42 rfl rfl, eVal hS 8 43 rfl rfl, eVal hS 9 44 rfl rfl, eVal hS 10 45 rfl rfl, eVal hS 11 46 rfl rfl, e7, e8]
 clear hS hap hla e7 e8
 have LL7 := hid hv6.1.len
 have LL8 := hid hv9.1.len
 have R7 := Z7.room (l' := v6) hv6.1.len
 have hB7 := Z7.stored (l' := v6) hv6.1.len
 replace Z8 := Z8.past (b' := b7) (ints .i64 v6).toArray.toList ne7_8
 have R8 := Z8.room (l' := v9) hv9.1.len
 have hB8 := Z8.stored (l' := v9) hv9.1.len
 replace hB7 := hB7.past (b' := b8) (ints .i64 v9).toArray.toList (Ne.symm ne7_8)
 have hu := Below.setCells (Below.setCells hw L7 0 (ints .i64 v6).toArray.toList) L8 0 (ints .i64 v9).toArray.toList
 replace hT := hT.next hu
 replace h2 := h2.next hu
 replace h3 := h3.next hu
 replace h4 := h4.next hu
 replace hB5 := hB5.next hu
 replace hB6 := hB6.next hu
 replace hW := bT hW hu
 clear hu
 with_reducible refine wpList_store_mid (op := ⟨none, .store 44 (.tmp 7) (.tmp 39), _, _, _, _⟩) rfl 44 (.tmp 7) (.tmp 39) rfl b7 0 (ints .i64 v6).toArray rfl rfl R7 (a26 LL7.out) (ints_all _ _) ?_
 with_reducible refine wpList_store_mid (op := ⟨none, .store 44 (.tmp 8) (.tmp 46), _, _, _, _⟩) rfl 44 (.tmp 8) (.tmp 46) rfl b8 0 (ints .i64 v9).toArray rfl rfl R8 (a26 LL8.out) (ints_all _ _) ?_
 generalize ((w3.setCells b7 0 (ints .i64 v6).toArray.toList).setCells b8 0 (ints .i64 v9).toArray.toList) = w4 at *
 clear hw R7 LL7 Z7 R8 LL8 Z8 ne7_8
 go_wp2_with (fail)
 have s4 := hW.size
 refine rSpec 8 74 (fun i => i == 6 || i == 7) [IsL v5, IsL v2, IsL v10, IsL v5, IsL v2, IsL v11, IsZ w4.heap.size, IsZ w4.heap.size] [47, 48, 49, 50, 51, 52, 9, 10] (gC (gC (gC (gC (gC (gC (grows_cons (IsZ.grows _) (grows_cons (IsZ.grows _) grows_nil))))))))
   ⟨step_el rfl (.inl rfl) hB6 6 rfl (by kernel_rfl) rfl rfl,
    step_el rfl (.inl rfl) hB5 5 rfl (by kernel_rfl) rfl rfl,
    step_to rfl (.inl rfl) rfl cf20 kv10 rfl (two_args (kI 0 47 rfl rfl) (kI 1 48 rfl rfl)),
    step_el rfl (.inl rfl) hB6 6 rfl (by kernel_rfl) rfl rfl,
    step_el rfl (.inl rfl) hB5 5 rfl (by kernel_rfl) rfl rfl,
    step_to rfl (.inl rfl) rfl cf18 kv11 rfl (two_args (kI 3 50 rfl rfl) (kI 4 51 rfl rfl)),
    step_alloc26 (.inl rfl) rfl rfl,
    step_alloc26 (.inl rfl) rfl rfl, trivial⟩ ?_
 intro val w5 hw hS hap hla
 obtain ⟨b9, e9, L9, Z9⟩ := hS 6 9 (by decide) rfl
 obtain ⟨b10, e10, L10, Z10⟩ := hS 7 10 (by decide) rfl
 have ne9_10 : b9 ≠ b10 := fun e => hap 6 7 9 10 (by decide) (by decide) rfl rfl (by decide) rfl rfl (by rw [e9, e10, e])
 simp only [pA, pB, pC, pD, pE, Act.put, pG, pH, pI, eVal hS 0 47 rfl rfl, eVal hS 1 48 rfl rfl, eVal hS 2 49 rfl rfl, eVal hS 3 50 rfl rfl, eVal hS 4 51 rfl rfl, eVal hS 5 52 rfl rfl, e9, e10]
 clear hS hap hla e9 e10
 have LL9 := hid hv10.1.len
 have LL10 := hid hv11.1.len
 have R9 := Z9.room (l' := v10) hv10.1.len
 have hB9 := Z9.stored (l' := v10) hv10.1.len
 replace Z10 := Z10.past (b' := b9) (ints .i64 v10).toArray.toList ne9_10
 have R10 := Z10.room (l' := v11) hv11.1.len
 have hB10 := Z10.stored (l' := v11) hv11.1.len
 replace hB9 := hB9.past (b' := b10) (ints .i64 v11).toArray.toList (Ne.symm ne9_10)
 have hu := Below.setCells (Below.setCells hw L9 0 (ints .i64 v10).toArray.toList) L10 0 (ints .i64 v11).toArray.toList
 replace hT := hT.next hu
 replace h2 := h2.next hu
 replace h3 := h3.next hu
 replace h4 := h4.next hu
 replace hB5 := hB5.next hu
 replace hB6 := hB6.next hu
 replace hB7 := hB7.next hu
 replace hB8 := hB8.next hu
 replace hW := bT hW hu
 clear hu
 with_reducible refine wpList_store_mid (op := ⟨none, .store 44 (.tmp 9) (.tmp 49), _, _, _, _⟩) rfl 44 (.tmp 9) (.tmp 49) rfl b9 0 (ints .i64 v10).toArray rfl rfl R9 (a26 LL9.out) (ints_all _ _) ?_
 with_reducible refine wpList_store_mid (op := ⟨none, .store 44 (.tmp 10) (.tmp 52), _, _, _, _⟩) rfl 44 (.tmp 10) (.tmp 52) rfl b10 0 (ints .i64 v11).toArray rfl rfl R10 (a26 LL10.out) (ints_all _ _) ?_
 generalize ((w5.setCells b9 0 (ints .i64 v10).toArray.toList).setCells b10 0 (ints .i64 v11).toArray.toList) = w6 at *
 clear hw R9 LL9 Z9 R10 LL10 Z10 ne9_10
 go_wp2_with (fail)
 have s6 := hW.size
 refine rSpec 10 74 (fun i => i == 8 || i == 9) [IsL v6, IsL v9, IsL v12, IsL v13, IsL v6, IsL v9, IsL v14, IsL v15, IsZ w6.heap.size, IsZ w6.heap.size] [53, 54, 55, 56, 57, 58, 59, 60, 11, 12] (gC (gC (gC (gC (gC (gC (gC (gC (grows_cons (IsZ.grows _) (grows_cons (IsZ.grows _) grows_nil))))))))))
   ⟨step_el rfl (.inl rfl) hB7 7 rfl (by kernel_rfl) rfl rfl,
    step_el rfl (.inl rfl) hB8 8 rfl (by kernel_rfl) rfl rfl,
    step_to rfl (.inl rfl) rfl cf18 kv12 rfl (two_args (kI 0 53 rfl rfl) (kI 1 54 rfl rfl)),
    step_to rfl (.inl rfl) rfl cg50 kv13 rfl (one_arg (kI 2 55 rfl rfl)),
    step_el rfl (.inl rfl) hB7 7 rfl (by kernel_rfl) rfl rfl,
    step_el rfl (.inl rfl) hB8 8 rfl (by kernel_rfl) rfl rfl,
    step_to rfl (.inl rfl) rfl cf20 kv14 rfl (two_args (kI 4 57 rfl rfl) (kI 5 58 rfl rfl)),
    step_to rfl (.inl rfl) rfl cg50 kv15 rfl (one_arg (kI 6 59 rfl rfl)),
    step_alloc26 (.inl rfl) rfl rfl,
    step_alloc26 (.inl rfl) rfl rfl, trivial⟩ ?_
 intro val w7 hw hS hap hla
 obtain ⟨b11, e11, L11, Z11⟩ := hS 8 11 (by decide) rfl
 obtain ⟨b12, e12, L12, Z12⟩ := hS 9 12 (by decide) rfl
 have ne11_12 : b11 ≠ b12 := fun e => hap 8 9 11 12 (by decide) (by decide) rfl rfl (by decide) rfl rfl (by rw [e11, e12, e])
 simp only [pA, pB, pC, pD, pE, Act.put, pG, pH, pI, eVal hS 0 53 rfl rfl, eVal hS 1 54 rfl rfl, eVal hS 2 55 rfl rfl, eVal hS 3 56 rfl rfl, eVal hS 4 57 rfl rfl, eVal hS 5 58 rfl rfl, eVal hS 6 59 rfl rfl, eVal hS 7 60 rfl rfl, e11, e12]
 clear hS hap hla e11 e12
 have LL11 := hid hv13.1.len
 have LL12 := hid hv15.1.len
 have R11 := Z11.room (l' := v13) hv13.1.len
 have hB11 := Z11.stored (l' := v13) hv13.1.len
 replace Z12 := Z12.past (b' := b11) (ints .i64 v13).toArray.toList ne11_12
 have R12 := Z12.room (l' := v15) hv15.1.len
 have hB12 := Z12.stored (l' := v15) hv15.1.len
 replace hB11 := hB11.past (b' := b12) (ints .i64 v15).toArray.toList (Ne.symm ne11_12)
 have hu := Below.setCells (Below.setCells hw L11 0 (ints .i64 v13).toArray.toList) L12 0 (ints .i64 v15).toArray.toList
 replace hT := hT.next hu
 replace h2 := h2.next hu
 replace h3 := h3.next hu
 replace h4 := h4.next hu
 replace hB5 := hB5.next hu
 replace hB6 := hB6.next hu
 replace hB7 := hB7.next hu
 replace hB8 := hB8.next hu
 replace hB9 := hB9.next hu
 replace hB10 := hB10.next hu
 replace hW := bT hW hu
 clear hu
 with_reducible refine wpList_store_mid (op := ⟨none, .store 44 (.tmp 11) (.tmp 56), _, _, _, _⟩) rfl 44 (.tmp 11) (.tmp 56) rfl b11 0 (ints .i64 v13).toArray rfl rfl R11 (a26 LL11.out) (ints_all _ _) ?_
 with_reducible refine wpList_store_mid (op := ⟨none, .store 44 (.tmp 12) (.tmp 60), _, _, _, _⟩) rfl 44 (.tmp 12) (.tmp 60) rfl b12 0 (ints .i64 v15).toArray rfl rfl R12 (a26 LL12.out) (ints_all _ _) ?_
 generalize ((w7.setCells b11 0 (ints .i64 v13).toArray.toList).setCells b12 0 (ints .i64 v15).toArray.toList) = w8 at *
 clear hw R11 LL11 Z11 R12 LL12 Z12 ne11_12
 go_wp2_with (fail)
 have s8 := hW.size
 refine rSpec 13 74 (fun _ => false) [IsL v10, IsL v15, IsL v16, IsL v11, IsL v13, IsL v17, IsL v13, IsL v15, IsL v18, IsL v10, IsL v11, IsL v19, IsL (pt v16 v17 v18 v19)] [61, 62, 63, 64, 65, 66, 67, 68, 69, 70, 71, 72, 73] (gC (gC (gC (gC (gC (gC (gC (gC (gC (gC (gC (gC (gC grows_nil)))))))))))))
   ⟨step_el rfl (.inl rfl) hB9 9 rfl (by kernel_rfl) rfl rfl,
    step_el rfl (.inl rfl) hB12 12 rfl (by kernel_rfl) rfl rfl,
    step_to rfl (.inl rfl) rfl cf22 kv16 rfl (two_args (kI 0 61 rfl rfl) (kI 1 62 rfl rfl)),
    step_el rfl (.inl rfl) hB10 10 rfl (by kernel_rfl) rfl rfl,
    step_el rfl (.inl rfl) hB11 11 rfl (by kernel_rfl) rfl rfl,
    step_to rfl (.inl rfl) rfl cf22 kv17 rfl (two_args (kI 3 64 rfl rfl) (kI 4 65 rfl rfl)),
    step_el rfl (.inl rfl) hB11 11 rfl (by kernel_rfl) rfl rfl,
    step_el rfl (.inl rfl) hB12 12 rfl (by kernel_rfl) rfl rfl,
    step_to rfl (.inl rfl) rfl cf22 kv18 rfl (two_args (kI 6 67 rfl rfl) (kI 7 68 rfl rfl)),
    step_el rfl (.inl rfl) hB9 9 rfl (by kernel_rfl) rfl rfl,
    step_el rfl (.inl rfl) hB10 10 rfl (by kernel_rfl) rfl rfl,
    step_to rfl (.inl rfl) rfl cf22 kv19 rfl (two_args (kI 9 70 rfl rfl) (kI 10 71 rfl rfl)),
    step_make28 rfl (.inl rfl) rfl hv16.1.len hv17.1.len hv18.1.len hv19.1.len rfl (kI 2 63 rfl rfl) (kI 5 66 rfl rfl) (kI 8 69 rfl rfl) (kI 11 72 rfl rfl), trivial⟩ ?_
 intro val w9 hw hS hap hla
 simp only [pA, pB, pC, pD, pE, Act.put, pG, pH, pI, eVal hS 0 61 rfl rfl, eVal hS 1 62 rfl rfl, eVal hS 2 63 rfl rfl, eVal hS 3 64 rfl rfl, eVal hS 4 65 rfl rfl, eVal hS 5 66 rfl rfl, eVal hS 6 67 rfl rfl, eVal hS 7 68 rfl rfl, eVal hS 8 69 rfl rfl, eVal hS 9 70 rfl rfl, eVal hS 10 71 rfl rfl, eVal hS 11 72 rfl rfl, eVal hS 12 73 rfl rfl]
 clear hS hap hla
 have LL4 := hid (pt_len hv16.1.len hv17.1.len hv18.1.len hv19.1.len)
 have Y4 := h4.next hw
 have R4 := Y4.room (l' := (pt v16 v17 v18 v19)) (pt_len hv16.1.len hv17.1.len hv18.1.len hv19.1.len)
 have h9 := Y4.stored (l' := (pt v16 v17 v18 v19)) (pt_len hv16.1.len hv17.1.len hv18.1.len hv19.1.len)
 replace hT := hT.next hw
 replace h2 := h2.next hw
 replace h3 := h3.next hw
 replace h4 := h4.next hw
 replace hB5 := hB5.next hw
 replace hB6 := hB6.next hw
 replace hB7 := hB7.next hw
 replace hB8 := hB8.next hw
 replace hB9 := hB9.next hw
 replace hB10 := hB10.next hw
 replace hB11 := hB11.next hw
 replace hB12 := hB12.next hw
 replace hW := bT hW hw
 with_reducible refine wpList_store_mid (op := ⟨none, .store 46 (.tmp 4) (.tmp 73), _, _, _, _⟩) rfl 46 (.tmp 4) (.tmp 73) rfl (W.heap.size + 1 + 1) 0 (ints .i64 (pt v16 v17 v18 v19)).toArray rfl rfl R4 (a28 LL4.out) (ints_all _ _) ?_
 replace hW := Below.setCells hW (g := (W.heap.size + 1 + 1)) (by omega) 0 (ints .i64 (pt v16 v17 v18 v19)).toArray.toList
 generalize (w9.setCells (W.heap.size + 1 + 1) 0 (ints .i64 (pt v16 v17 v18 v19)).toArray.toList) = w10 at *
 clear hw R4 LL4 Y4
 go_wp2_with (fail)
 exact ret_rows rfl (W.heap.size + 1 + 1) 0 rfl (ints .i64 (pt v16 v17 v18 v19)) _ h9.range Tryz.underlying46 rfl (l28 (pt_len hv16.1.len hv17.1.len hv18.1.len hv19.1.len)) rfl ⟨rfl, hW⟩
set_option maxHeartbeats 8000000
set_option maxRecDepth 4000
open Go Go.RowKit
theorem or128 (x : Int) (h : 0 ≤ x ∧ x < 128) : bits .or .u8 x 128 = x + 128 := by
 have key : ∀ n : Fin 128, bits .or .u8 (n.val : Int) 128 = (n.val : Int) + 128 := by decide +kernel
 have := key ⟨x.toNat, by omega⟩
 have e : (x.toNat : Int) = x := Int.toNat_of_nonneg h.1
 simpa [e] using this
def pbytes (y : Nat) (o : Bool) : List Int := if o then (rbytes y).set 31 ((rbytes y).getD 31 0 + 128) else rbytes y
theorem pbytes_len (y : Nat) (o : Bool) : (pbytes y o).length = 32 := by
 unfold pbytes; split
 · rw [List.length_set]; exact rbytes_length y
 · exact rbytes_length y
theorem rb_top {m : Nat} (h : m < NT.PN) : 0 ≤ (rbytes m).getD 31 0 ∧ (rbytes m).getD 31 0 < 128 := by
 have h1 := rbytes_at m (i := 31) (by omega)
 rw [List.getD_eq_getElem?_getD, h1, Option.getD_some]
 have e : 256 ^ 31 = 452312848583266388373324160190187140051835877600158453279131187530910662656 := by decide
 rw [e]
 unfold NT.PN at h
 omega
def oddB (m : Nat) : Bool := ((dig0 m % 2 : Nat) : Int) == 1
theorem bytes_odd {l bs m : List Int} {c : C4 NT.PN} (h : Pn l c) (hbl : bs.length = 32) (lm : m.length = 32) (hb : 0 ≤ bs.getD 31 0 ∧ bs.getD 31 0 < 128) (hm : bs.set 31 (bs.getD 31 0 + 128) = m)
   (hkb : ∀ v, Nf v (c.y * iv c.z) → CallsTo 42 #[.agg (ints .i64 v).toArray] (.agg (ints .u8 bs).toArray)) (hko : ∀ v, Nf v (c.x * iv c.z) → CallsTo 43 #[.agg (ints .i64 v).toArray] (.bool true)) : CallsTo 18 #[.agg (ints .i64 l).toArray] (.agg (ints .u8 m).toArray) := by
 have H := h
 obtain ⟨px, py, pz, pT, rfl, hpx, hpy, hpz, hpt⟩ := h
 obtain ⟨v0, kv0, hv0⟩ := nf_inv hpz
 obtain ⟨v1, kv1, hv1⟩ := nf_mul hpy hv0
 obtain ⟨v2, kv2, hv2⟩ := nf_mul hpx hv0
 have kb := hkb _ hv1
 have ko := hko _ hv2
 clear hkb hko
 intro W
 obtain ⟨z22, s22⟩ := zero_of_info inf22
 have h1 := (B4.new W (pt px py pz pT) (pt_len hpx.1.len hpy.1.len hpz.1.len hpt.1.len)).next (below_new _ (.cells (ints .u8 (zeros 32)).toArray 22))
 have h2 := By.new (W.alloc (.cells (ints .i64 (pt px py pz pT)).toArray 46)) (zeros 32) (zeros_len 32)
 have hW := (below_new W (.cells (ints .i64 (pt px py pz pT)).toArray 46)).alloc (by simp) (.cells (ints .u8 (zeros 32)).toArray 22)
 simp only [World.size_alloc] at h2
 go_enter Tryz.func18, Tryz.ntmps18
 go_upto_region 1 with (fail)
 generalize (W.alloc (.cells (ints .i64 (pt px py pz pT)).toArray 46)).alloc (.cells (ints .u8 (zeros 32)).toArray 22) = w0 at *
 have s0 := hW.size
 refine rSeq 4 23 (fun i => i == 3) [Is (.pointer (some ⟨W.heap.size, 32, none⟩)), IsL pz, IsL v0, IsZ w0.heap.size] [5, 6, 7, 3] (gC (gC (gC (grows_cons (IsZ.grows _) grows_nil))))
   ⟨step_fp2 rfl (.inl rfl) rfl rfl (kO 1 rfl),
    step_part rfl (.inl rfl) (h1.p2 hpx.1.len hpy.1.len) hpz.1.len rfl rfl (kI 0 5 rfl rfl),
    step_to rfl (.inl rfl) rfl cf27 kv0 rfl (one_arg (kI 1 6 rfl rfl)),
    step_alloc26 (.inl rfl) rfl rfl, trivial⟩ ?_
 intro val w1 hw hS hap hla
 obtain ⟨b3, e3, L3, Z3⟩ := hS 3 3 (by decide) rfl
 simp only [pA, pB, pC, pD, pE, Act.put, pG, pH, pI, eVal hS 0 5 rfl rfl, eVal hS 1 6 rfl rfl, eVal hS 2 7 rfl rfl, e3]
 clear hS hap hla e3
 have LL3 := hid hv0.1.len
 have R3 := Z3.room (l' := v0) hv0.1.len
 have hB3 := Z3.stored (l' := v0) hv0.1.len
 have hu := Below.setCells hw L3 0 (ints .i64 v0).toArray.toList
 replace h1 := h1.next hu
 replace h2 := h2.next hu
 replace hW := bT hW hu
 clear hu
 with_reducible refine wpList_store_mid (op := ⟨none, .store 44 (.tmp 3) (.tmp 7), _, _, _, _⟩) rfl 44 (.tmp 3) (.tmp 7) rfl b3 0 (ints .i64 v0).toArray rfl rfl R3 (a26 LL3.out) (ints_all _ _) ?_
 generalize (w1.setCells b3 0 (ints .i64 v0).toArray.toList) = w2 at *
 clear hw R3 LL3 Z3
 have lt2 := h2.lt
 go_upto_region 2 with (fail)
 have s2 := hW.size
 refine rSeq 6 23 (fun i => i == 5) [Is (.pointer (some ⟨W.heap.size, 16, none⟩)), IsL py, IsL v0, IsL v1, Is (.agg (ints .u8 bs).toArray), IsZ22 w2.heap.size] [8, 9, 10, 11, 12, 4] (gC (gC (gC (gC (gC (grows_cons (IsZ22.grows _) grows_nil))))))
   ⟨step_fp1 rfl (.inl rfl) rfl rfl (kO 1 rfl),
    step_part rfl (.inl rfl) (h1.p1 hpx.1.len) hpy.1.len rfl rfl (kI 0 8 rfl rfl),
    step_el rfl (.inl rfl) hB3 3 rfl (by kernel_rfl) rfl rfl,
    step_to rfl (.inl rfl) rfl cf22 kv1 rfl (two_args (kI 1 9 rfl rfl) (kI 2 10 rfl rfl)),
    step_to rfl (.inl rfl) rfl cf11 kb rfl (one_arg (kI 3 11 rfl rfl)),
    step_alloc22 (.inl rfl) rfl rfl, trivial⟩ ?_
 intro val w3 hw hS hap hla
 obtain ⟨b4, e4, L4, Z4⟩ := hS 5 4 (by decide) rfl
 simp only [pA, pB, pC, pD, pE, Act.put, pG, pH, pI, eVal hS 0 8 rfl rfl, eVal hS 1 9 rfl rfl, eVal hS 2 10 rfl rfl, eVal hS 3 11 rfl rfl, eVal hS 4 12 rfl rfl, e4]
 clear hS hap hla e4
 have LL4 := hid hbl
 have R4 := Z4.room (l' := bs) hbl
 have hB4 := Z4.stored (l' := bs) hbl
 have hu := Below.setCells hw L4 0 (ints .u8 bs).toArray.toList
 replace h1 := h1.next hu
 replace h2 := h2.next hu
 replace hB3 := hB3.next hu
 replace hW := bT hW hu
 clear hu
 with_reducible refine wpList_store_mid (op := ⟨none, .store 22 (.tmp 4) (.tmp 12), _, _, _, _⟩) rfl 22 (.tmp 4) (.tmp 12) rfl b4 0 (ints .u8 bs).toArray rfl rfl R4 (a22 LL4.out) (ints_all _ _) ?_
 generalize (w3.setCells b4 0 (ints .u8 bs).toArray.toList) = w4 at *
 clear hw R4 LL4 Z4
 go_upto_region 3 with (fail)
 have s4 := hW.size
 refine rSeq 5 23 (fun _ => false) [Is (.pointer (some ⟨W.heap.size, 0, none⟩)), IsL px, IsL v0, IsL v2, Is (.bool true)] [13, 14, 15, 16, 17] (gC (gC (gC (gC (gC grows_nil)))))
   ⟨step_fp0 rfl (.inl rfl) rfl rfl (kO 1 rfl),
    step_part rfl (.inl rfl) (h1.p0) hpx.1.len rfl rfl (kI 0 13 rfl rfl),
    step_el rfl (.inl rfl) hB3 3 rfl (by kernel_rfl) rfl rfl,
    step_to rfl (.inl rfl) rfl cf22 kv2 rfl (two_args (kI 1 14 rfl rfl) (kI 2 15 rfl rfl)),
    step_to rfl (.inl rfl) rfl cf13 ko rfl (one_arg (kI 3 16 rfl rfl)), trivial⟩ ?_
 intro val w5 hw hS hap hla
 simp only [pA, pB, pC, pD, pE, Act.put, pG, pH, pI, eVal hS 0 13 rfl rfl, eVal hS 1 14 rfl rfl, eVal hS 2 15 rfl rfl, eVal hS 3 16 rfl rfl, eVal hS 4 17 rfl rfl]
 clear hS hap hla
 replace h1 := h1.next hw
 replace h2 := h2.next hw
 replace hB3 := hB3.next hw
 replace hB4 := hB4.next hw
 replace hW := bT hW hw
 clear hw
 have n42 : b4 ≠ W.heap.size + 1 := by omega
 have w4_ : W.heap.size ≤ b4 := by omega
 obtain ⟨x, cx, fx, HX⟩ := hB4.1.spot (i := 31) (by rw [hbl]; omega)
 rw [Nat.zero_add] at cx fx
 have hx31 : bs.getD 31 0 = x := by simp [List.getD, HX.out]
 rw [hx31] at hb hm
 have hmk := or128 x hb
 have hD1 := hB4.1.set 31 (x + 128)
 rw [Nat.zero_add, hm] at hD1
 have hR1 := h2.1.apart (p := ⟨b4, 31, none⟩) (.int .u8 (x + 128)) (.inl n42)
 have hW1 := hW.setCell (p := ⟨b4, 31, none⟩) w4_ (.int .u8 (x + 128))
 have hs1 := hR1.room (k' := .u8) (l' := m) (by rw [zeros_len]; exact lm)
 have hR2 := hR1.stored (l' := m) (by rw [zeros_len]; exact lm)
 have hW2 := Below.setCells hW1 (g := W.heap.size + 1) (by omega) 0 (ints .u8 m).toArray.toList
 have LM := hid lm
 clear hm hx31 HX hb hpx hpy hpz hpt H hv0 hv1 hv2 hB3 hB4 h1 h2 hW hR1 hW1 lm hbl
 go_wp2_with (first
   | (with_reducible refine wpList_load_mid (op := ⟨some 22, .load 22 (.tmp 4), _, _, _, _⟩) rfl 22 (.tmp 4) rfl b4 0 rfl (ints .u8 m) _ (hD1.range) Tryz.underlying22 rfl (l22 LM.out) ?_)
   | (with_reducible refine wpList_store_mid (op := ⟨none, .store 22 (.tmp 2) (.tmp 22), _, _, _, _⟩) rfl 22 (.tmp 2) (.tmp 22) rfl (W.heap.size + 1) 0 (ints .u8 m).toArray rfl rfl hs1 (a22 LM.out) (ints_all _ _) ?_))
 exact ret_rows rfl (W.heap.size + 1) 0 rfl (ints .u8 m) _ hR2.range Tryz.underlying22 rfl (l22 LM.out) rfl ⟨rfl, hW2⟩
theorem bytes_even {l bs m : List Int} {c : C4 NT.PN} (h : Pn l c) (hbl : bs.length = 32) (lm : m.length = 32) (_ : 0 ≤ bs.getD 31 0 ∧ bs.getD 31 0 < 128) (hm : bs = m)
   (hkb : ∀ v, Nf v (c.y * iv c.z) → CallsTo 42 #[.agg (ints .i64 v).toArray] (.agg (ints .u8 bs).toArray)) (hko : ∀ v, Nf v (c.x * iv c.z) → CallsTo 43 #[.agg (ints .i64 v).toArray] (.bool false)) : CallsTo 18 #[.agg (ints .i64 l).toArray] (.agg (ints .u8 m).toArray) := by
 have H := h
 obtain ⟨px, py, pz, pT, rfl, hpx, hpy, hpz, hpt⟩ := h
 obtain ⟨v0, kv0, hv0⟩ := nf_inv hpz
 obtain ⟨v1, kv1, hv1⟩ := nf_mul hpy hv0
 obtain ⟨v2, kv2, hv2⟩ := nf_mul hpx hv0
 have kb := hkb _ hv1
 have ko := hko _ hv2
 clear hkb hko
 intro W
 obtain ⟨z22, s22⟩ := zero_of_info inf22
 have h1 := (B4.new W (pt px py pz pT) (pt_len hpx.1.len hpy.1.len hpz.1.len hpt.1.len)).next (below_new _ (.cells (ints .u8 (zeros 32)).toArray 22))
 have h2 := By.new (W.alloc (.cells (ints .i64 (pt px py pz pT)).toArray 46)) (zeros 32) (zeros_len 32)
 have hW := (below_new W (.cells (ints .i64 (pt px py pz pT)).toArray 46)).alloc (by simp) (.cells (ints .u8 (zeros 32)).toArray 22)
 simp only [World.size_alloc] at h2
 go_enter Tryz.func18, Tryz.ntmps18
 go_upto_region 1 with (fail)
 generalize (W.alloc (.cells (ints .i64 (pt px py pz pT)).toArray 46)).alloc (.cells (ints .u8 (zeros 32)).toArray 22) = w0 at *
 have s0 := hW.size
 refine rSeq 4 23 (fun i => i == 3) [Is (.pointer (some ⟨W.heap.size, 32, none⟩)), IsL pz, IsL v0, IsZ w0.heap.size] [5, 6, 7, 3] (gC (gC (gC (grows_cons (IsZ.grows _) grows_nil))))
   ⟨step_fp2 rfl (.inl rfl) rfl rfl (kO 1 rfl),
    step_part rfl (.inl rfl) (h1.p2 hpx.1.len hpy.1.len) hpz.1.len rfl rfl (kI 0 5 rfl rfl),
    step_to rfl (.inl rfl) rfl cf27 kv0 rfl (one_arg (kI 1 6 rfl rfl)),
    step_alloc26 (.inl rfl) rfl rfl, trivial⟩ ?_
 intro val w1 hw hS hap hla
 obtain ⟨b3, e3, L3, Z3⟩ := hS 3 3 (by decide) rfl
 simp only [pA, pB, pC, pD, pE, Act.put, pG, pH, pI, eVal hS 0 5 rfl rfl, eVal hS 1 6 rfl rfl, eVal hS 2 7 rfl rfl, e3]
 clear hS hap hla e3
 have LL3 := hid hv0.1.len
 have R3 := Z3.room (l' := v0) hv0.1.len
 have hB3 := Z3.stored (l' := v0) hv0.1.len
 have hu := Below.setCells hw L3 0 (ints .i64 v0).toArray.toList
 replace h1 := h1.next hu
 replace h2 := h2.next hu
 replace hW := bT hW hu
 clear hu
 with_reducible refine wpList_store_mid (op := ⟨none, .store 44 (.tmp 3) (.tmp 7), _, _, _, _⟩) rfl 44 (.tmp 3) (.tmp 7) rfl b3 0 (ints .i64 v0).toArray rfl rfl R3 (a26 LL3.out) (ints_all _ _) ?_
 generalize (w1.setCells b3 0 (ints .i64 v0).toArray.toList) = w2 at *
 clear hw R3 LL3 Z3
 have lt2 := h2.lt
 go_upto_region 2 with (fail)
 have s2 := hW.size
 refine rSeq 6 23 (fun i => i == 5) [Is (.pointer (some ⟨W.heap.size, 16, none⟩)), IsL py, IsL v0, IsL v1, Is (.agg (ints .u8 bs).toArray), IsZ22 w2.heap.size] [8, 9, 10, 11, 12, 4] (gC (gC (gC (gC (gC (grows_cons (IsZ22.grows _) grows_nil))))))
   ⟨step_fp1 rfl (.inl rfl) rfl rfl (kO 1 rfl),
    step_part rfl (.inl rfl) (h1.p1 hpx.1.len) hpy.1.len rfl rfl (kI 0 8 rfl rfl),
    step_el rfl (.inl rfl) hB3 3 rfl (by kernel_rfl) rfl rfl,
    step_to rfl (.inl rfl) rfl cf22 kv1 rfl (two_args (kI 1 9 rfl rfl) (kI 2 10 rfl rfl)),
    step_to rfl (.inl rfl) rfl cf11 kb rfl (one_arg (kI 3 11 rfl rfl)),
    step_alloc22 (.inl rfl) rfl rfl, trivial⟩ ?_
 intro val w3 hw hS hap hla
 obtain ⟨b4, e4, L4, Z4⟩ := hS 5 4 (by decide) rfl
 simp only [pA, pB, pC, pD, pE, Act.put, pG, pH, pI, eVal hS 0 8 rfl rfl, eVal hS 1 9 rfl rfl, eVal hS 2 10 rfl rfl, eVal hS 3 11 rfl rfl, eVal hS 4 12 rfl rfl, e4]
 clear hS hap hla e4
 have LL4 := hid hbl
 have R4 := Z4.room (l' := bs) hbl
 have hB4 := Z4.stored (l' := bs) hbl
 have hu := Below.setCells hw L4 0 (ints .u8 bs).toArray.toList
 replace h1 := h1.next hu
 replace h2 := h2.next hu
 replace hB3 := hB3.next hu
 replace hW := bT hW hu
 clear hu
 with_reducible refine wpList_store_mid (op := ⟨none, .store 22 (.tmp 4) (.tmp 12), _, _, _, _⟩) rfl 22 (.tmp 4) (.tmp 12) rfl b4 0 (ints .u8 bs).toArray rfl rfl R4 (a22 LL4.out) (ints_all _ _) ?_
 generalize (w3.setCells b4 0 (ints .u8 bs).toArray.toList) = w4 at *
 clear hw R4 LL4 Z4
 go_upto_region 3 with (fail)
 have s4 := hW.size
 refine rSeq 5 23 (fun _ => false) [Is (.pointer (some ⟨W.heap.size, 0, none⟩)), IsL px, IsL v0, IsL v2, Is (.bool false)] [13, 14, 15, 16, 17] (gC (gC (gC (gC (gC grows_nil)))))
   ⟨step_fp0 rfl (.inl rfl) rfl rfl (kO 1 rfl),
    step_part rfl (.inl rfl) (h1.p0) hpx.1.len rfl rfl (kI 0 13 rfl rfl),
    step_el rfl (.inl rfl) hB3 3 rfl (by kernel_rfl) rfl rfl,
    step_to rfl (.inl rfl) rfl cf22 kv2 rfl (two_args (kI 1 14 rfl rfl) (kI 2 15 rfl rfl)),
    step_to rfl (.inl rfl) rfl cf13 ko rfl (one_arg (kI 3 16 rfl rfl)), trivial⟩ ?_
 intro val w5 hw hS hap hla
 simp only [pA, pB, pC, pD, pE, Act.put, pG, pH, pI, eVal hS 0 13 rfl rfl, eVal hS 1 14 rfl rfl, eVal hS 2 15 rfl rfl, eVal hS 3 16 rfl rfl, eVal hS 4 17 rfl rfl]
 clear hS hap hla
 replace h1 := h1.next hw
 replace h2 := h2.next hw
 replace hB3 := hB3.next hw
 replace hB4 := hB4.next hw
 replace hW := bT hW hw
 clear hw
 have hm : bs = m := hm
 subst hm
 have hD1 := hB4.1
 have hs1 := h2.1.room (k' := .u8) (l' := bs) (by rw [zeros_len]; exact lm)
 have hR2 := h2.1.stored (l' := bs) (by rw [zeros_len]; exact lm)
 have hW2 := Below.setCells hW (g := W.heap.size + 1) (by omega) 0 (ints .u8 bs).toArray.toList
 have LM := hid lm
 clear hpx hpy hpz hpt H hv0 hv1 hv2 hB3 hB4 h1 h2 hW lm hbl
 go_wp2_with (first
   | (with_reducible refine wpList_load_mid (op := ⟨some 22, .load 22 (.tmp 4), _, _, _, _⟩) rfl 22 (.tmp 4) rfl b4 0 rfl (ints .u8 bs) _ (hD1.range) Tryz.underlying22 rfl (l22 LM.out) ?_)
   | (with_reducible refine wpList_store_mid (op := ⟨none, .store 22 (.tmp 2) (.tmp 22), _, _, _, _⟩) rfl 22 (.tmp 2) (.tmp 22) rfl (W.heap.size + 1) 0 (ints .u8 bs).toArray rfl rfl hs1 (a22 LM.out) (ints_all _ _) ?_))
 exact ret_rows rfl (W.heap.size + 1) 0 rfl (ints .u8 bs) _ hR2.range Tryz.underlying22 rfl (l22 LM.out) rfl ⟨rfl, hW2⟩
theorem c_pbytes {l : List Int} {c : C4 NT.PN} (h : Pn l c) : CallsTo 18 #[.agg (ints .i64 l).toArray] (.agg (ints .u8 (pbytes (c.y * iv c.z).val (oddB (c.x * iv c.z).val))).toArray) := by
 generalize hy : c.y * iv c.z = y
 generalize hx : c.x * iv c.z = x
 have hb := rb_top y.isLt
 cases ho : oddB x.val with
 | true =>
   refine bytes_odd h (rbytes_length y.val) (pbytes_len _ _) hb rfl (fun v hv => ?_) (fun v hv => ?_)
   · rw [hy] at hv; exact hv.bytes
   · rw [hx] at hv
     have := hv.odd
     unfold oddB at ho
     rwa [ho] at this
 | false =>
   refine bytes_even h (rbytes_length y.val) (pbytes_len _ _) hb rfl (fun v hv => ?_) (fun v hv => ?_)
   · rw [hy] at hv; exact hv.bytes
   · rw [hx] at hv
     have := hv.odd
     unfold oddB at ho
     rwa [ho] at this
theorem B4.pastAt {w : World} {b : Nat} {l : List Int} (h : B4 w b l) {b' : Nat} (o : Nat) (vs : List Value) (hb : b' ≠ b) : B4 (w.setCells b' o vs) b l := ⟨h.1.past vs (.inl hb), h.2⟩
theorem swap_yes {x y : List Int} (hx : El x) (hy : El y) : CallsTo 70 #[.agg (ints .i64 x).toArray, .agg (ints .i64 y).toArray, .bool true] (.tuple #[.agg (ints .i64 y).toArray, .agg (ints .i64 x).toArray]) := c_swap hx hy true
theorem swap_no {x y : List Int} (hx : El x) (hy : El y) : CallsTo 70 #[.agg (ints .i64 x).toArray, .agg (ints .i64 y).toArray, .bool false] (.tuple #[.agg (ints .i64 x).toArray, .agg (ints .i64 y).toArray]) := c_swap hx hy false
theorem choose_yes {l m : List Int} {c c' : C4 NT.PN} (h : Pn l c) (k : Pn m c') : CallsTo 39 #[.agg (ints .i64 l).toArray, .agg (ints .i64 m).toArray, .bool true] (.agg (ints .i64 m).toArray) := by
 obtain ⟨px, py, pz, pT, rfl, hpx, hpy, hpz, hpt⟩ := h
 obtain ⟨qx, qy, qz, qT, rfl, hqx, hqy, hqz, hqt⟩ := k
 intro W
 obtain ⟨z28, s28⟩ := zero_of_info inf28
 have h3 := ((B4.new W (pt px py pz pT) (pt_len hpx.1.len hpy.1.len hpz.1.len hpt.1.len)).next (below_new _ (.cells (ints .i64 (pt qx qy qz qT)).toArray 46))).next (below_new _ (.cells (ints .i64 (zeros 64)).toArray 46))
 have h4 := (B4.new (W.alloc (.cells (ints .i64 (pt px py pz pT)).toArray 46)) (pt qx qy qz qT) (pt_len hqx.1.len hqy.1.len hqz.1.len hqt.1.len)).next (below_new _ (.cells (ints .i64 (zeros 64)).toArray 46))
 have h6 := B4.new ((W.alloc (.cells (ints .i64 (pt px py pz pT)).toArray 46)).alloc (.cells (ints .i64 (pt qx qy qz qT)).toArray 46)) (zeros 64) (zeros_len 64)
 have hW := ((below_new W (.cells (ints .i64 (pt px py pz pT)).toArray 46)).alloc (by simp) (.cells (ints .i64 (pt qx qy qz qT)).toArray 46)).alloc (by simp; omega) (.cells (ints .i64 (zeros 64)).toArray 46)
 simp only [World.size_alloc] at h4 h6
 go_enter Tryz.func39, Tryz.ntmps39
 go_upto_region 1 with (fail)
 generalize ((W.alloc (.cells (ints .i64 (pt px py pz pT)).toArray 46)).alloc (.cells (ints .i64 (pt qx qy qz qT)).toArray 46)).alloc (.cells (ints .i64 (zeros 64)).toArray 46) = w0 at *
 have s0 := hW.size
 refine rSeq 10 48 (fun _ => false) [Is (.pointer (some ⟨W.heap.size, 0, none⟩)), IsL px, Is (.pointer (some ⟨(W.heap.size + 1), 0, none⟩)), IsL qx, Is (.bool true), Is (.tuple #[(.agg (ints .i64 qx).toArray), (.agg (ints .i64 px).toArray)]), Is (.tuple #[(.agg (ints .i64 qx).toArray), (.agg (ints .i64 px).toArray)]), IsL qx, IsL px, Is (.pointer (some ⟨W.heap.size, 0, none⟩))] [8, 9, 10, 11, 12, 13, 7, 14, 15, 16] (gC (gC (gC (gC (gC (gC (gC (gC (gC (gC grows_nil))))))))))
   ⟨step_fp0 rfl (.inl rfl) rfl rfl (kO 3 rfl),
    step_part rfl (.inl rfl) (h3.p0) hpx.1.len rfl rfl (kI 0 8 rfl rfl),
    step_fp0 rfl (.inl rfl) rfl rfl (kO 4 rfl),
    step_part rfl (.inl rfl) (h4.p0) hqx.1.len rfl rfl (kI 2 10 rfl rfl),
    step_mv rfl (.inl rfl) rfl rfl (kO 2 rfl),
    step_to rfl (.inl rfl) rfl cf29 (swap_yes hpx.1 hqx.1) rfl (three_args (kI 1 9 rfl rfl) (kI 3 11 rfl rfl) (kI 4 12 rfl rfl)),
    step_mv rfl (.inl rfl) rfl rfl (kI 5 13 rfl rfl),
    step_fst rfl (.inl rfl) rfl rfl (kI 6 7 rfl rfl),
    step_snd rfl (.inl rfl) rfl rfl (kI 6 7 rfl rfl),
    step_fp0 rfl (.inl rfl) rfl rfl (kO 3 rfl), trivial⟩ ?_
 intro val w1 hw hS hap hla
 simp only [pA, pB, pC, pD, pE, Act.put, pG, pH, pI, eVal hS 0 8 rfl rfl, eVal hS 1 9 rfl rfl, eVal hS 2 10 rfl rfl, eVal hS 3 11 rfl rfl, eVal hS 4 12 rfl rfl, eVal hS 5 13 rfl rfl, eVal hS 6 7 rfl rfl, eVal hS 7 14 rfl rfl, eVal hS 8 15 rfl rfl, eVal hS 9 16 rfl rfl]
 clear hS hap hla
 replace h3 := h3.next hw
 replace h4 := h4.next hw
 replace h6 := h6.next hw
 replace hW := bT hW hw
 clear hw
 have r1 := (h3.p0).room (k' := .i64) (l' := qx) (hqx.1.len.trans hpx.1.len.symm)
 have LL := hid hqx.1.len
 replace h4 := h4.pastAt (b' := W.heap.size) 0 (ints .i64 qx).toArray.toList (by omega)
 replace h6 := h6.pastAt (b' := W.heap.size) 0 (ints .i64 qx).toArray.toList (by omega)
 replace h3 := h3.put0 hpx.1.len hpy.1.len hpz.1.len hpt.1.len hqx.1.len
 replace hW := Below.setCells hW (g := W.heap.size) (by omega) 0 (ints .i64 qx).toArray.toList
 with_reducible refine wpList_store_mid (op := ⟨none, .store 44 (.tmp 16) (.tmp 14), _, _, _, _⟩) rfl 44 (.tmp 16) (.tmp 14) rfl W.heap.size 0 (ints .i64 qx).toArray rfl rfl r1 (a26 LL.out) (ints_all _ _) ?_
 generalize (w1.setCells W.heap.size 0 (ints .i64 qx).toArray.toList) = w2 at *
 clear r1 LL
 go_upto_region 2 with (fail)
 have s2 := hW.size
 refine rSeq 10 48 (fun _ => false) [Is (.pointer (some ⟨W.heap.size, 16, none⟩)), IsL py, Is (.pointer (some ⟨(W.heap.size + 1), 16, none⟩)), IsL qy, Is (.bool true), Is (.tuple #[(.agg (ints .i64 qy).toArray), (.agg (ints .i64 py).toArray)]), Is (.tuple #[(.agg (ints .i64 qy).toArray), (.agg (ints .i64 py).toArray)]), IsL qy, IsL py, Is (.pointer (some ⟨W.heap.size, 16, none⟩))] [18, 19, 20, 21, 22, 23, 17, 24, 25, 26] (gC (gC (gC (gC (gC (gC (gC (gC (gC (gC grows_nil))))))))))
   ⟨step_fp1 rfl (.inl rfl) rfl rfl (kO 3 rfl),
    step_part rfl (.inl rfl) (h3.p1 hqx.1.len) hpy.1.len rfl rfl (kI 0 18 rfl rfl),
    step_fp1 rfl (.inl rfl) rfl rfl (kO 4 rfl),
    step_part rfl (.inl rfl) (h4.p1 hqx.1.len) hqy.1.len rfl rfl (kI 2 20 rfl rfl),
    step_mv rfl (.inl rfl) rfl rfl (kO 2 rfl),
    step_to rfl (.inl rfl) rfl cf29 (swap_yes hpy.1 hqy.1) rfl (three_args (kI 1 19 rfl rfl) (kI 3 21 rfl rfl) (kI 4 22 rfl rfl)),
    step_mv rfl (.inl rfl) rfl rfl (kI 5 23 rfl rfl),
    step_fst rfl (.inl rfl) rfl rfl (kI 6 17 rfl rfl),
    step_snd rfl (.inl rfl) rfl rfl (kI 6 17 rfl rfl),
    step_fp1 rfl (.inl rfl) rfl rfl (kO 3 rfl), trivial⟩ ?_
 intro val w3 hw hS hap hla
 simp only [pA, pB, pC, pD, pE, Act.put, pG, pH, pI, eVal hS 0 18 rfl rfl, eVal hS 1 19 rfl rfl, eVal hS 2 20 rfl rfl, eVal hS 3 21 rfl rfl, eVal hS 4 22 rfl rfl, eVal hS 5 23 rfl rfl, eVal hS 6 17 rfl rfl, eVal hS 7 24 rfl rfl, eVal hS 8 25 rfl rfl, eVal hS 9 26 rfl rfl]
 clear hS hap hla
 replace h3 := h3.next hw
 replace h4 := h4.next hw
 replace h6 := h6.next hw
 replace hW := bT hW hw
 clear hw
 have r1 := (h3.p1 hqx.1.len).room (k' := .i64) (l' := qy) (hqy.1.len.trans hpy.1.len.symm)
 have LL := hid hqy.1.len
 replace h4 := h4.pastAt (b' := W.heap.size) 16 (ints .i64 qy).toArray.toList (by omega)
 replace h6 := h6.pastAt (b' := W.heap.size) 16 (ints .i64 qy).toArray.toList (by omega)
 replace h3 := h3.put1 hqx.1.len hpy.1.len hpz.1.len hpt.1.len hqy.1.len
 replace hW := Below.setCells hW (g := W.heap.size) (by omega) 16 (ints .i64 qy).toArray.toList
 with_reducible refine wpList_store_mid (op := ⟨none, .store 44 (.tmp 26) (.tmp 24), _, _, _, _⟩) rfl 44 (.tmp 26) (.tmp 24) rfl W.heap.size 16 (ints .i64 qy).toArray rfl rfl r1 (a26 LL.out) (ints_all _ _) ?_
 generalize (w3.setCells W.heap.size 16 (ints .i64 qy).toArray.toList) = w4 at *
 clear r1 LL
 go_upto_region 3 with (fail)
 have s4 := hW.size
 refine rSeq 10 48 (fun _ => false) [Is (.pointer (some ⟨W.heap.size, 32, none⟩)), IsL pz, Is (.pointer (some ⟨(W.heap.size + 1), 32, none⟩)), IsL qz, Is (.bool true), Is (.tuple #[(.agg (ints .i64 qz).toArray), (.agg (ints .i64 pz).toArray)]), Is (.tuple #[(.agg (ints .i64 qz).toArray), (.agg (ints .i64 pz).toArray)]), IsL qz, IsL pz, Is (.pointer (some ⟨W.heap.size, 32, none⟩))] [28, 29, 30, 31, 32, 33, 27, 34, 35, 36] (gC (gC (gC (gC (gC (gC (gC (gC (gC (gC grows_nil))))))))))
   ⟨step_fp2 rfl (.inl rfl) rfl rfl (kO 3 rfl),
    step_part rfl (.inl rfl) (h3.p2 hqx.1.len hqy.1.len) hpz.1.len rfl rfl (kI 0 28 rfl rfl),
    step_fp2 rfl (.inl rfl) rfl rfl (kO 4 rfl),
    step_part rfl (.inl rfl) (h4.p2 hqx.1.len hqy.1.len) hqz.1.len rfl rfl (kI 2 30 rfl rfl),
    step_mv rfl (.inl rfl) rfl rfl (kO 2 rfl),
    step_to rfl (.inl rfl) rfl cf29 (swap_yes hpz.1 hqz.1) rfl (three_args (kI 1 29 rfl rfl) (kI 3 31 rfl rfl) (kI 4 32 rfl rfl)),
    step_mv rfl (.inl rfl) rfl rfl (kI 5 33 rfl rfl),
    step_fst rfl (.inl rfl) rfl rfl (kI 6 27 rfl rfl),
    step_snd rfl (.inl rfl) rfl rfl (kI 6 27 rfl rfl),
    step_fp2 rfl (.inl rfl) rfl rfl (kO 3 rfl), trivial⟩ ?_
 intro val w5 hw hS hap hla
 simp only [pA, pB, pC, pD, pE, Act.put, pG, pH, pI, eVal hS 0 28 rfl rfl, eVal hS 1 29 rfl rfl, eVal hS 2 30 rfl rfl, eVal hS 3 31 rfl rfl, eVal hS 4 32 rfl rfl, eVal hS 5 33 rfl rfl, eVal hS 6 27 rfl rfl, eVal hS 7 34 rfl rfl, eVal hS 8 35 rfl rfl, eVal hS 9 36 rfl rfl]
 clear hS hap hla
 replace h3 := h3.next hw
 replace h4 := h4.next hw
 replace h6 := h6.next hw
 replace hW := bT hW hw
 clear hw
 have r1 := (h3.p2 hqx.1.len hqy.1.len).room (k' := .i64) (l' := qz) (hqz.1.len.trans hpz.1.len.symm)
 have LL := hid hqz.1.len
 replace h4 := h4.pastAt (b' := W.heap.size) 32 (ints .i64 qz).toArray.toList (by omega)
 replace h6 := h6.pastAt (b' := W.heap.size) 32 (ints .i64 qz).toArray.toList (by omega)
 replace h3 := h3.put2 hqx.1.len hqy.1.len hpz.1.len hpt.1.len hqz.1.len
 replace hW := Below.setCells hW (g := W.heap.size) (by omega) 32 (ints .i64 qz).toArray.toList
 with_reducible refine wpList_store_mid (op := ⟨none, .store 44 (.tmp 36) (.tmp 34), _, _, _, _⟩) rfl 44 (.tmp 36) (.tmp 34) rfl W.heap.size 32 (ints .i64 qz).toArray rfl rfl r1 (a26 LL.out) (ints_all _ _) ?_
 generalize (w5.setCells W.heap.size 32 (ints .i64 qz).toArray.toList) = w6 at *
 clear r1 LL
 go_upto_region 4 with (fail)
 have s6 := hW.size
 refine rSeq 10 48 (fun _ => false) [Is (.pointer (some ⟨W.heap.size, 48, none⟩)), IsL pT, Is (.pointer (some ⟨(W.heap.size + 1), 48, none⟩)), IsL qT, Is (.bool true), Is (.tuple #[(.agg (ints .i64 qT).toArray), (.agg (ints .i64 pT).toArray)]), Is (.tuple #[(.agg (ints .i64 qT).toArray), (.agg (ints .i64 pT).toArray)]), IsL qT, IsL pT, Is (.pointer (some ⟨W.heap.size, 48, none⟩))] [38, 39, 40, 41, 42, 43, 37, 44, 45, 46] (gC (gC (gC (gC (gC (gC (gC (gC (gC (gC grows_nil))))))))))
   ⟨step_fp3 rfl (.inl rfl) rfl rfl (kO 3 rfl),
    step_part rfl (.inl rfl) (h3.p3 hqx.1.len hqy.1.len hqz.1.len) hpt.1.len rfl rfl (kI 0 38 rfl rfl),
    step_fp3 rfl (.inl rfl) rfl rfl (kO 4 rfl),
    step_part rfl (.inl rfl) (h4.p3 hqx.1.len hqy.1.len hqz.1.len) hqt.1.len rfl rfl (kI 2 40 rfl rfl),
    step_mv rfl (.inl rfl) rfl rfl (kO 2 rfl),
    step_to rfl (.inl rfl) rfl cf29 (swap_yes hpt.1 hqt.1) rfl (three_args (kI 1 39 rfl rfl) (kI 3 41 rfl rfl) (kI 4 42 rfl rfl)),
    step_mv rfl (.inl rfl) rfl rfl (kI 5 43 rfl rfl),
    step_fst rfl (.inl rfl) rfl rfl (kI 6 37 rfl rfl),
    step_snd rfl (.inl rfl) rfl rfl (kI 6 37 rfl rfl),
    step_fp3 rfl (.inl rfl) rfl rfl (kO 3 rfl), trivial⟩ ?_
 intro val w7 hw hS hap hla
 simp only [pA, pB, pC, pD, pE, Act.put, pG, pH, pI, eVal hS 0 38 rfl rfl, eVal hS 1 39 rfl rfl, eVal hS 2 40 rfl rfl, eVal hS 3 41 rfl rfl, eVal hS 4 42 rfl rfl, eVal hS 5 43 rfl rfl, eVal hS 6 37 rfl rfl, eVal hS 7 44 rfl rfl, eVal hS 8 45 rfl rfl, eVal hS 9 46 rfl rfl]
 clear hS hap hla
 replace h3 := h3.next hw
 replace h4 := h4.next hw
 replace h6 := h6.next hw
 replace hW := bT hW hw
 clear hw
 have r1 := (h3.p3 hqx.1.len hqy.1.len hqz.1.len).room (k' := .i64) (l' := qT) (hqt.1.len.trans hpt.1.len.symm)
 have LL := hid hqt.1.len
 replace h4 := h4.pastAt (b' := W.heap.size) 48 (ints .i64 qT).toArray.toList (by omega)
 replace h6 := h6.pastAt (b' := W.heap.size) 48 (ints .i64 qT).toArray.toList (by omega)
 replace h3 := h3.put3 hqx.1.len hqy.1.len hqz.1.len hpt.1.len hqt.1.len
 replace hW := Below.setCells hW (g := W.heap.size) (by omega) 48 (ints .i64 qT).toArray.toList
 with_reducible refine wpList_store_mid (op := ⟨none, .store 44 (.tmp 46) (.tmp 44), _, _, _, _⟩) rfl 44 (.tmp 46) (.tmp 44) rfl W.heap.size 48 (ints .i64 qT).toArray rfl rfl r1 (a26 LL.out) (ints_all _ _) ?_
 generalize (w7.setCells W.heap.size 48 (ints .i64 qT).toArray.toList) = w8 at *
 clear r1 LL
 go_upto_region 5 with (fail)
 have s8 := hW.size
 refine rSeq 1 48 (fun _ => false) [IsL (pt qx qy qz qT)] [47] (gC grows_nil)
   ⟨step_pt rfl (.inl rfl) h3 3 rfl (by kernel_rfl) rfl rfl, trivial⟩ ?_
 intro val w9 hw hS hap hla
 simp only [pA, pB, pC, pD, pE, Act.put, pG, pH, pI, eVal hS 0 47 rfl rfl]
 clear hS hap hla
 have LL6 := hid (pt_len hqx.1.len hqy.1.len hqz.1.len hqt.1.len)
 have Y6 := h6.next hw
 have R6 := Y6.room (l' := (pt qx qy qz qT)) (pt_len hqx.1.len hqy.1.len hqz.1.len hqt.1.len)
 have h9 := Y6.stored (l' := (pt qx qy qz qT)) (pt_len hqx.1.len hqy.1.len hqz.1.len hqt.1.len)
 replace h3 := h3.next hw
 replace h4 := h4.next hw
 replace h6 := h6.next hw
 replace hW := bT hW hw
 with_reducible refine wpList_store_mid (op := ⟨none, .store 46 (.tmp 6) (.tmp 47), _, _, _, _⟩) rfl 46 (.tmp 6) (.tmp 47) rfl (W.heap.size + 1 + 1) 0 (ints .i64 (pt qx qy qz qT)).toArray rfl rfl R6 (a28 LL6.out) (ints_all _ _) ?_
 replace hW := Below.setCells hW (g := (W.heap.size + 1 + 1)) (by omega) 0 (ints .i64 (pt qx qy qz qT)).toArray.toList
 generalize (w9.setCells (W.heap.size + 1 + 1) 0 (ints .i64 (pt qx qy qz qT)).toArray.toList) = w10 at *
 clear hw R6 LL6 Y6
 go_wp2_with (fail)
 exact ret_rows rfl (W.heap.size + 1 + 1) 0 rfl (ints .i64 (pt qx qy qz qT)) _ h9.range Tryz.underlying46 rfl (l28 (pt_len hqx.1.len hqy.1.len hqz.1.len hqt.1.len)) rfl ⟨rfl, hW⟩
theorem choose_no {l m : List Int} {c c' : C4 NT.PN} (h : Pn l c) (k : Pn m c') : CallsTo 39 #[.agg (ints .i64 l).toArray, .agg (ints .i64 m).toArray, .bool false] (.agg (ints .i64 l).toArray) := by
 obtain ⟨px, py, pz, pT, rfl, hpx, hpy, hpz, hpt⟩ := h
 obtain ⟨qx, qy, qz, qT, rfl, hqx, hqy, hqz, hqt⟩ := k
 intro W
 obtain ⟨z28, s28⟩ := zero_of_info inf28
 have h3 := ((B4.new W (pt px py pz pT) (pt_len hpx.1.len hpy.1.len hpz.1.len hpt.1.len)).next (below_new _ (.cells (ints .i64 (pt qx qy qz qT)).toArray 46))).next (below_new _ (.cells (ints .i64 (zeros 64)).toArray 46))
 have h4 := (B4.new (W.alloc (.cells (ints .i64 (pt px py pz pT)).toArray 46)) (pt qx qy qz qT) (pt_len hqx.1.len hqy.1.len hqz.1.len hqt.1.len)).next (below_new _ (.cells (ints .i64 (zeros 64)).toArray 46))
 have h6 := B4.new ((W.alloc (.cells (ints .i64 (pt px py pz pT)).toArray 46)).alloc (.cells (ints .i64 (pt qx qy qz qT)).toArray 46)) (zeros 64) (zeros_len 64)
 have hW := ((below_new W (.cells (ints .i64 (pt px py pz pT)).toArray 46)).alloc (by simp) (.cells (ints .i64 (pt qx qy qz qT)).toArray 46)).alloc (by simp; omega) (.cells (ints .i64 (zeros 64)).toArray 46)
 simp only [World.size_alloc] at h4 h6
 go_enter Tryz.func39, Tryz.ntmps39
 go_upto_region 1 with (fail)
 generalize ((W.alloc (.cells (ints .i64 (pt px py pz pT)).toArray 46)).alloc (.cells (ints .i64 (pt qx qy qz qT)).toArray 46)).alloc (.cells (ints .i64 (zeros 64)).toArray 46) = w0 at *
 have s0 := hW.size
 refine rSeq 10 48 (fun _ => false) [Is (.pointer (some ⟨W.heap.size, 0, none⟩)), IsL px, Is (.pointer (some ⟨(W.heap.size + 1), 0, none⟩)), IsL qx, Is (.bool false), Is (.tuple #[(.agg (ints .i64 px).toArray), (.agg (ints .i64 qx).toArray)]), Is (.tuple #[(.agg (ints .i64 px).toArray), (.agg (ints .i64 qx).toArray)]), IsL px, IsL qx, Is (.pointer (some ⟨W.heap.size, 0, none⟩))] [8, 9, 10, 11, 12, 13, 7, 14, 15, 16] (gC (gC (gC (gC (gC (gC (gC (gC (gC (gC grows_nil))))))))))
   ⟨step_fp0 rfl (.inl rfl) rfl rfl (kO 3 rfl),
    step_part rfl (.inl rfl) (h3.p0) hpx.1.len rfl rfl (kI 0 8 rfl rfl),
    step_fp0 rfl (.inl rfl) rfl rfl (kO 4 rfl),
    step_part rfl (.inl rfl) (h4.p0) hqx.1.len rfl rfl (kI 2 10 rfl rfl),
    step_mv rfl (.inl rfl) rfl rfl (kO 2 rfl),
    step_to rfl (.inl rfl) rfl cf29 (swap_no hpx.1 hqx.1) rfl (three_args (kI 1 9 rfl rfl) (kI 3 11 rfl rfl) (kI 4 12 rfl rfl)),
    step_mv rfl (.inl rfl) rfl rfl (kI 5 13 rfl rfl),
    step_fst rfl (.inl rfl) rfl rfl (kI 6 7 rfl rfl),
    step_snd rfl (.inl rfl) rfl rfl (kI 6 7 rfl rfl),
    step_fp0 rfl (.inl rfl) rfl rfl (kO 3 rfl), trivial⟩ ?_
 intro val w1 hw hS hap hla
 simp only [pA, pB, pC, pD, pE, Act.put, pG, pH, pI, eVal hS 0 8 rfl rfl, eVal hS 1 9 rfl rfl, eVal hS 2 10 rfl rfl, eVal hS 3 11 rfl rfl, eVal hS 4 12 rfl rfl, eVal hS 5 13 rfl rfl, eVal hS 6 7 rfl rfl, eVal hS 7 14 rfl rfl, eVal hS 8 15 rfl rfl, eVal hS 9 16 rfl rfl]
 clear hS hap hla
 replace h3 := h3.next hw
 replace h4 := h4.next hw
 replace h6 := h6.next hw
 replace hW := bT hW hw
 clear hw
 have r1 := (h3.p0).room (k' := .i64) (l' := px) (hpx.1.len.trans hpx.1.len.symm)
 have LL := hid hpx.1.len
 replace h4 := h4.pastAt (b' := W.heap.size) 0 (ints .i64 px).toArray.toList (by omega)
 replace h6 := h6.pastAt (b' := W.heap.size) 0 (ints .i64 px).toArray.toList (by omega)
 replace h3 := h3.put0 hpx.1.len hpy.1.len hpz.1.len hpt.1.len hpx.1.len
 replace hW := Below.setCells hW (g := W.heap.size) (by omega) 0 (ints .i64 px).toArray.toList
 with_reducible refine wpList_store_mid (op := ⟨none, .store 44 (.tmp 16) (.tmp 14), _, _, _, _⟩) rfl 44 (.tmp 16) (.tmp 14) rfl W.heap.size 0 (ints .i64 px).toArray rfl rfl r1 (a26 LL.out) (ints_all _ _) ?_
 generalize (w1.setCells W.heap.size 0 (ints .i64 px).toArray.toList) = w2 at *
 clear r1 LL
 go_upto_region 2 with (fail)
 have s2 := hW.size
 refine rSeq 10 48 (fun _ => false) [Is (.pointer (some ⟨W.heap.size, 16, none⟩)), IsL py, Is (.pointer (some ⟨(W.heap.size + 1), 16, none⟩)), IsL qy, Is (.bool false), Is (.tuple #[(.agg (ints .i64 py).toArray), (.agg (ints .i64 qy).toArray)]), Is (.tuple #[(.agg (ints .i64 py).toArray), (.agg (ints .i64 qy).toArray)]), IsL py, IsL qy, Is (.pointer (some ⟨W.heap.size, 16, none⟩))] [18, 19, 20, 21, 22, 23, 17, 24, 25, 26] (gC (gC (gC (gC (gC (gC (gC (gC (gC (gC grows_nil))))))))))
   ⟨step_fp1 rfl (.inl rfl) rfl rfl (kO 3 rfl),
    step_part rfl (.inl rfl) (h3.p1 hpx.1.len) hpy.1.len rfl rfl (kI 0 18 rfl rfl),
    step_fp1 rfl (.inl rfl) rfl rfl (kO 4 rfl),
    step_part rfl (.inl rfl) (h4.p1 hqx.1.len) hqy.1.len rfl rfl (kI 2 20 rfl rfl),
    step_mv rfl (.inl rfl) rfl rfl (kO 2 rfl),
    step_to rfl (.inl rfl) rfl cf29 (swap_no hpy.1 hqy.1) rfl (three_args (kI 1 19 rfl rfl) (kI 3 21 rfl rfl) (kI 4 22 rfl rfl)),
    step_mv rfl (.inl rfl) rfl rfl (kI 5 23 rfl rfl),
    step_fst rfl (.inl rfl) rfl rfl (kI 6 17 rfl rfl),
    step_snd rfl (.inl rfl) rfl rfl (kI 6 17 rfl rfl),
    step_fp1 rfl (.inl rfl) rfl rfl (kO 3 rfl), trivial⟩ ?_
 intro val w3 hw hS hap hla
 simp only [pA, pB, pC, pD, pE, Act.put, pG, pH, pI, eVal hS 0 18 rfl rfl, eVal hS 1 19 rfl rfl, eVal hS 2 20 rfl rfl, eVal hS 3 21 rfl rfl, eVal hS 4 22 rfl rfl, eVal hS 5 23 rfl rfl, eVal hS 6 17 rfl rfl, eVal hS 7 24 rfl rfl, eVal hS 8 25 rfl rfl, eVal hS 9 26 rfl rfl]
 clear hS hap hla
 replace h3 := h3.next hw
 replace h4 := h4.next hw
 replace h6 := h6.next hw
 replace hW := bT hW hw
 clear hw
 have r1 := (h3.p1 hpx.1.len).room (k' := .i64) (l' := py) (hpy.1.len.trans hpy.1.len.symm)
 have LL := hid hpy.1.len
 replace h4 := h4.pastAt (b' := W.heap.size) 16 (ints .i64 py).toArray.toList (by omega)
 replace h6 := h6.pastAt (b' := W.heap.size) 16 (ints .i64 py).toArray.toList (by omega)
 replace h3 := h3.put1 hpx.1.len hpy.1.len hpz.1.len hpt.1.len hpy.1.len
 replace hW := Below.setCells hW (g := W.heap.size) (by omega) 16 (ints .i64 py).toArray.toList
 with_reducible refine wpList_store_mid (op := ⟨none, .store 44 (.tmp 26) (.tmp 24), _, _, _, _⟩) rfl 44 (.tmp 26) (.tmp 24) rfl W.heap.size 16 (ints .i64 py).toArray rfl rfl r1 (a26 LL.out) (ints_all _ _) ?_
 generalize (w3.setCells W.heap.size 16 (ints .i64 py).toArray.toList) = w4 at *
 clear r1 LL
 go_upto_region 3 with (fail)
 have s4 := hW.size
 refine rSeq 10 48 (fun _ => false) [Is (.pointer (some ⟨W.heap.size, 32, none⟩)), IsL pz, Is (.pointer (some ⟨(W.heap.size + 1), 32, none⟩)), IsL qz, Is (.bool false), Is (.tuple #[(.agg (ints .i64 pz).toArray), (.agg (ints .i64 qz).toArray)]), Is (.tuple #[(.agg (ints .i64 pz).toArray), (.agg (ints .i64 qz).toArray)]), IsL pz, IsL qz, Is (.pointer (some ⟨W.heap.size, 32, none⟩))] [28, 29, 30, 31, 32, 33, 27, 34, 35, 36] (gC (gC (gC (gC (gC (gC (gC (gC (gC (gC grows_nil))))))))))
   ⟨step_fp2 rfl (.inl rfl) rfl rfl (kO 3 rfl),
    step_part rfl (.inl rfl) (h3.p2 hpx.1.len hpy.1.len) hpz.1.len rfl rfl (kI 0 28 rfl rfl),
    step_fp2 rfl (.inl rfl) rfl rfl (kO 4 rfl),
    step_part rfl (.inl rfl) (h4.p2 hqx.1.len hqy.1.len) hqz.1.len rfl rfl (kI 2 30 rfl rfl),
    step_mv rfl (.inl rfl) rfl rfl (kO 2 rfl),
    step_to rfl (.inl rfl) rfl cf29 (swap_no hpz.1 hqz.1) rfl (three_args (kI 1 29 rfl rfl) (kI 3 31 rfl rfl) (kI 4 32 rfl rfl)),
    step_mv rfl (.inl rfl) rfl rfl (kI 5 33 rfl rfl),
    step_fst rfl (.inl rfl) rfl rfl (kI 6 27 rfl rfl),
    step_snd rfl (.inl rfl) rfl rfl (kI 6 27 rfl rfl),
    step_fp2 rfl (.inl rfl) rfl rfl (kO 3 rfl), trivial⟩ ?_
 intro val w5 hw hS hap hla
 simp only [pA, pB, pC, pD, pE, Act.put, pG, pH, pI, eVal hS 0 28 rfl rfl, eVal hS 1 29 rfl rfl, eVal hS 2 30 rfl rfl, eVal hS 3 31 rfl rfl, eVal hS 4 32 rfl rfl, eVal hS 5 33 rfl rfl, eVal hS 6 27 rfl rfl, eVal hS 7 34 rfl rfl, eVal hS 8 35 rfl rfl, eVal hS 9 36 rfl rfl]
 clear hS hap hla
 replace h3 := h3.next hw
 replace h4 := h4.next hw
 replace h6 := h6.next hw
 replace hW := bT hW hw
 clear hw
 have r1 := (h3.p2 hpx.1.len hpy.1.len).room (k' := .i64) (l' := pz) (hpz.1.len.trans hpz.1.len.symm)
 have LL := hid hpz.1.len
 replace h4 := h4.pastAt (b' := W.heap.size) 32 (ints .i64 pz).toArray.toList (by omega)
 replace h6 := h6.pastAt (b' := W.heap.size) 32 (ints .i64 pz).toArray.toList (by omega)
 replace h3 := h3.put2 hpx.1.len hpy.1.len hpz.1.len hpt.1.len hpz.1.len
 replace hW := Below.setCells hW (g := W.heap.size) (by omega) 32 (ints .i64 pz).toArray.toList
 with_reducible refine wpList_store_mid (op := ⟨none, .store 44 (.tmp 36) (.tmp 34), _, _, _, _⟩) rfl 44 (.tmp 36) (.tmp 34) rfl W.heap.size 32 (ints .i64 pz).toArray rfl rfl r1 (a26 LL.out) (ints_all _ _) ?_
 generalize (w5.setCells W.heap.size 32 (ints .i64 pz).toArray.toList) = w6 at *
 clear r1 LL
 go_upto_region 4 with (fail)
 have s6 := hW.size
 refine rSeq 10 48 (fun _ => false) [Is (.pointer (some ⟨W.heap.size, 48, none⟩)), IsL pT, Is (.pointer (some ⟨(W.heap.size + 1), 48, none⟩)), IsL qT, Is (.bool false), Is (.tuple #[(.agg (ints .i64 pT).toArray), (.agg (ints .i64 qT).toArray)]), Is (.tuple #[(.agg (ints .i64 pT).toArray), (.agg (ints .i64 qT).toArray)]), IsL pT, IsL qT, Is (.pointer (some ⟨W.heap.size, 48, none⟩))] [38, 39, 40, 41, 42, 43, 37, 44, 45, 46] (gC (gC (gC (gC (gC (gC (gC (gC (gC (gC grows_nil))))))))))
   ⟨step_fp3 rfl (.inl rfl) rfl rfl (kO 3 rfl),
    step_part rfl (.inl rfl) (h3.p3 hpx.1.len hpy.1.len hpz.1.len) hpt.1.len rfl rfl (kI 0 38 rfl rfl),
    step_fp3 rfl (.inl rfl) rfl rfl (kO 4 rfl),
    step_part rfl (.inl rfl) (h4.p3 hqx.1.len hqy.1.len hqz.1.len) hqt.1.len rfl rfl (kI 2 40 rfl rfl),
    step_mv rfl (.inl rfl) rfl rfl (kO 2 rfl),
    step_to rfl (.inl rfl) rfl cf29 (swap_no hpt.1 hqt.1) rfl (three_args (kI 1 39 rfl rfl) (kI 3 41 rfl rfl) (kI 4 42 rfl rfl)),
    step_mv rfl (.inl rfl) rfl rfl (kI 5 43 rfl rfl),
    step_fst rfl (.inl rfl) rfl rfl (kI 6 37 rfl rfl),
    step_snd rfl (.inl rfl) rfl rfl (kI 6 37 rfl rfl),
    step_fp3 rfl (.inl rfl) rfl rfl (kO 3 rfl), trivial⟩ ?_
 intro val w7 hw hS hap hla
 simp only [pA, pB, pC, pD, pE, Act.put, pG, pH, pI, eVal hS 0 38 rfl rfl, eVal hS 1 39 rfl rfl, eVal hS 2 40 rfl rfl, eVal hS 3 41 rfl rfl, eVal hS 4 42 rfl rfl, eVal hS 5 43 rfl rfl, eVal hS 6 37 rfl rfl, eVal hS 7 44 rfl rfl, eVal hS 8 45 rfl rfl, eVal hS 9 46 rfl rfl]
 clear hS hap hla
 replace h3 := h3.next hw
 replace h4 := h4.next hw
 replace h6 := h6.next hw
 replace hW := bT hW hw
 clear hw
 have r1 := (h3.p3 hpx.1.len hpy.1.len hpz.1.len).room (k' := .i64) (l' := pT) (hpt.1.len.trans hpt.1.len.symm)
 have LL := hid hpt.1.len
 replace h4 := h4.pastAt (b' := W.heap.size) 48 (ints .i64 pT).toArray.toList (by omega)
 replace h6 := h6.pastAt (b' := W.heap.size) 48 (ints .i64 pT).toArray.toList (by omega)
 replace h3 := h3.put3 hpx.1.len hpy.1.len hpz.1.len hpt.1.len hpt.1.len
 replace hW := Below.setCells hW (g := W.heap.size) (by omega) 48 (ints .i64 pT).toArray.toList
 with_reducible refine wpList_store_mid (op := ⟨none, .store 44 (.tmp 46) (.tmp 44), _, _, _, _⟩) rfl 44 (.tmp 46) (.tmp 44) rfl W.heap.size 48 (ints .i64 pT).toArray rfl rfl r1 (a26 LL.out) (ints_all _ _) ?_
 generalize (w7.setCells W.heap.size 48 (ints .i64 pT).toArray.toList) = w8 at *
 clear r1 LL
 go_upto_region 5 with (fail)
 have s8 := hW.size
 refine rSeq 1 48 (fun _ => false) [IsL (pt px py pz pT)] [47] (gC grows_nil)
   ⟨step_pt rfl (.inl rfl) h3 3 rfl (by kernel_rfl) rfl rfl, trivial⟩ ?_
 intro val w9 hw hS hap hla
 simp only [pA, pB, pC, pD, pE, Act.put, pG, pH, pI, eVal hS 0 47 rfl rfl]
 clear hS hap hla
 have LL6 := hid (pt_len hpx.1.len hpy.1.len hpz.1.len hpt.1.len)
 have Y6 := h6.next hw
 have R6 := Y6.room (l' := (pt px py pz pT)) (pt_len hpx.1.len hpy.1.len hpz.1.len hpt.1.len)
 have h9 := Y6.stored (l' := (pt px py pz pT)) (pt_len hpx.1.len hpy.1.len hpz.1.len hpt.1.len)
 replace h3 := h3.next hw
 replace h4 := h4.next hw
 replace h6 := h6.next hw
 replace hW := bT hW hw
 with_reducible refine wpList_store_mid (op := ⟨none, .store 46 (.tmp 6) (.tmp 47), _, _, _, _⟩) rfl 46 (.tmp 6) (.tmp 47) rfl (W.heap.size + 1 + 1) 0 (ints .i64 (pt px py pz pT)).toArray rfl rfl R6 (a28 LL6.out) (ints_all _ _) ?_
 replace hW := Below.setCells hW (g := (W.heap.size + 1 + 1)) (by omega) 0 (ints .i64 (pt px py pz pT)).toArray.toList
 generalize (w9.setCells (W.heap.size + 1 + 1) 0 (ints .i64 (pt px py pz pT)).toArray.toList) = w10 at *
 clear hw R6 LL6 Y6
 go_wp2_with (fail)
 exact ret_rows rfl (W.heap.size + 1 + 1) 0 rfl (ints .i64 (pt px py pz pT)) _ h9.range Tryz.underlying46 rfl (l28 (pt_len hpx.1.len hpy.1.len hpz.1.len hpt.1.len)) rfl ⟨rfl, hW⟩
set_option maxHeartbeats 8000000
set_option maxRecDepth 4000
open Go Go.RowKit
noncomputable def xxF (b : Fin NT.PN) : Fin NT.PN := (b * b - 1) * iv (dF * (b * b) + 1)
theorem root_at {x : List Int} {a : Fin NT.PN} (h : Nf x a) : ∃ r k, CallsTo 93 #[.agg (ints .i64 x).toArray] (.tuple #[.agg (ints .i64 r).toArray, .bool (isSq a.val)]) ∧ Nf r k ∧ (isSq a.val = true → k * k = a ∧ k.val % 2 = 0) := by
 have h1 := c_root h.1
 rw [ok_sq h] at h1
 cases hs : isSq a.val with
 | true =>
   rw [hs] at h1
   have h2 := hs
   rw [← ok_sq h] at h2
   obtain ⟨k, hk, e1, e2⟩ := root_num h h2
   refine ⟨rootL x, ⟨k, hk.lt⟩, h1, hk, fun _ => ⟨Fin.ext ?_, e2⟩⟩
   rw [Fin.val_mul]; exact e1
 | false =>
   rw [hs] at h1
   have h2 := hs
   rw [← ok_sq h] at h2
   rw [root_none h2] at h1
   exact ⟨zeros 16, 0, h1, nf_zeros, fun e => by cases e⟩
theorem c_beside {y : List Int} {b : Fin NT.PN} (h : Nf y b) : ∃ r k, CallsP 62 #[.agg (ints .i64 y).toArray] (.tuple #[.agg (ints .i64 r).toArray, .bool (isSq (xxF b).val)]) ∧ Nf r k ∧ (isSq (xxF b).val = true → k * k = xxF b ∧ k.val % 2 = 0) := by
 obtain ⟨v0, kv0, hv0⟩ := nf_one
 obtain ⟨v1, kv1, hv1⟩ := nf_mul h h
 obtain ⟨v2, kv2, hv2⟩ := nf_sub hv1 hv0
 obtain ⟨v3, kv3, hv3⟩ := nf_factor
 obtain ⟨v4, kv4, hv4⟩ := nf_mul hv3 hv1
 obtain ⟨v5, kv5, hv5⟩ := nf_add hv4 hv0
 obtain ⟨v6, kv6, hv6⟩ := nf_inv hv5
 obtain ⟨v7, kv7, hv7⟩ := nf_mul hv2 hv6
 obtain ⟨r, k, kr, hr, hs⟩ := root_at hv7
 refine ⟨r, k, ?_, hr, hs⟩
 change CallsTo 93 _ (.tuple #[_, .bool (isSq (xxF b).val)]) at kr
 intro W hT
 obtain ⟨z26, s26⟩ := zero_of_info inf26
 have h1 := (Bx.new W y h.1.len).next (below_new _ (.cells (ints .i64 (zeros 16)).toArray 44))
 have h2 := Bx.new (W.alloc (.cells (ints .i64 y).toArray 44)) (zeros 16) nf_zeros.1.len
 have hW := (below_new W (.cells (ints .i64 y).toArray 44)).alloc (by simp) (.cells (ints .i64 (zeros 16)).toArray 44)
 replace hT := ((hT.alloc (.cells (ints .i64 y).toArray 44)).alloc (.cells (ints .i64 (zeros 16)).toArray 44))
 simp only [World.size_alloc] at h2
 go_enter Tryz.func62, Tryz.ntmps62
 go_wp2_with (fail)
 generalize (W.alloc (.cells (ints .i64 y).toArray 44)).alloc (.cells (ints .i64 (zeros 16)).toArray 44) = w0 at *
 have s0 := hW.size
 refine rSpec 6 23 (fun i => i == 4 || i == 5) [IsL v0, IsL y, IsL y, IsL v1, IsZ w0.heap.size, IsZ w0.heap.size] [6, 7, 8, 9, 4, 5] (gC (gC (gC (gC (grows_cons (IsZ.grows _) (grows_cons (IsZ.grows _) grows_nil))))))
   ⟨step_to rfl (.inl rfl) rfl cf16 kv0 rfl (one_arg (knows_const _)),
    step_el rfl (.inl rfl) h1 1 rfl (by kernel_rfl) rfl rfl,
    step_el rfl (.inl rfl) h1 1 rfl (by kernel_rfl) rfl rfl,
    step_to rfl (.inl rfl) rfl cf22 kv1 rfl (two_args (kI 1 7 rfl rfl) (kI 2 8 rfl rfl)),
    step_alloc26 (.inl rfl) rfl rfl,
    step_alloc26 (.inl rfl) rfl rfl, trivial⟩ ?_
 intro val w1 hw hS hap hla
 obtain ⟨b4, e4, L4, Z4⟩ := hS 4 4 (by decide) rfl
 obtain ⟨b5, e5, L5, Z5⟩ := hS 5 5 (by decide) rfl
 have ne4_5 : b4 ≠ b5 := fun e => hap 4 5 4 5 (by decide) (by decide) rfl rfl (by decide) rfl rfl (by rw [e4, e5, e])
 simp only [pA, pB, pC, pD, pE, Act.put, pG, pH, pI, eVal hS 0 6 rfl rfl, eVal hS 1 7 rfl rfl, eVal hS 2 8 rfl rfl, eVal hS 3 9 rfl rfl, e4, e5]
 clear hS hap hla e4 e5
 have LL4 := hid hv0.1.len
 have LL5 := hid hv1.1.len
 have R4 := Z4.room (l' := v0) hv0.1.len
 have hB4 := Z4.stored (l' := v0) hv0.1.len
 replace Z5 := Z5.past (b' := b4) (ints .i64 v0).toArray.toList ne4_5
 have R5 := Z5.room (l' := v1) hv1.1.len
 have hB5 := Z5.stored (l' := v1) hv1.1.len
 replace hB4 := hB4.past (b' := b5) (ints .i64 v1).toArray.toList (Ne.symm ne4_5)
 have hu := Below.setCells (Below.setCells hw L4 0 (ints .i64 v0).toArray.toList) L5 0 (ints .i64 v1).toArray.toList
 replace hT := hT.next hu
 replace h1 := h1.next hu
 replace h2 := h2.next hu
 replace hW := bT hW hu
 clear hu
 with_reducible refine wpList_store_mid (op := ⟨none, .store 44 (.tmp 4) (.tmp 6), _, _, _, _⟩) rfl 44 (.tmp 4) (.tmp 6) rfl b4 0 (ints .i64 v0).toArray rfl rfl R4 (a26 LL4.out) (ints_all _ _) ?_
 with_reducible refine wpList_store_mid (op := ⟨none, .store 44 (.tmp 5) (.tmp 9), _, _, _, _⟩) rfl 44 (.tmp 5) (.tmp 9) rfl b5 0 (ints .i64 v1).toArray rfl rfl R5 (a26 LL5.out) (ints_all _ _) ?_
 generalize ((w1.setCells b4 0 (ints .i64 v0).toArray.toList).setCells b5 0 (ints .i64 v1).toArray.toList) = w2 at *
 clear hw R4 LL4 Z4 R5 LL5 Z5 ne4_5
 go_wp2_with (fail)
 have s2 := hW.size
 refine rSpec 13 23 (fun _ => false) [IsL v1, IsL v0, IsL v2, IsL v3, IsL v1, IsL v4, IsL v0, IsL v5, IsL v6, IsL v7, Is (.tuple #[(.agg (ints .i64 r).toArray), (.bool (isSq (xxF b).val))]), IsL r, Is (.bool (isSq (xxF b).val))] [10, 11, 12, 13, 14, 15, 16, 17, 18, 19, 20, 21, 22] (gC (gC (gC (gC (gC (gC (gC (gC (gC (gC (gC (gC (gC grows_nil)))))))))))))
   ⟨step_el rfl (.inl rfl) hB5 5 rfl (by kernel_rfl) rfl rfl,
    step_el rfl (.inl rfl) hB4 4 rfl (by kernel_rfl) rfl rfl,
    step_to rfl (.inl rfl) rfl cf20 kv2 rfl (two_args (kI 0 10 rfl rfl) (kI 1 11 rfl rfl)),
    step_toP rfl (.inl rfl) rfl cg47 hT kv3 rfl (no_args),
    step_el rfl (.inl rfl) hB5 5 rfl (by kernel_rfl) rfl rfl,
    step_to rfl (.inl rfl) rfl cf22 kv4 rfl (two_args (kI 3 13 rfl rfl) (kI 4 14 rfl rfl)),
    step_el rfl (.inl rfl) hB4 4 rfl (by kernel_rfl) rfl rfl,
    step_to rfl (.inl rfl) rfl cf18 kv5 rfl (two_args (kI 5 15 rfl rfl) (kI 6 16 rfl rfl)),
    step_to rfl (.inl rfl) rfl cf27 kv6 rfl (one_arg (kI 7 17 rfl rfl)),
    step_to rfl (.inl rfl) rfl cf22 kv7 rfl (two_args (kI 2 12 rfl rfl) (kI 8 18 rfl rfl)),
    step_to rfl (.inl rfl) rfl cf30 kr rfl (one_arg (kI 9 19 rfl rfl)),
    step_fst rfl (.inl rfl) rfl rfl (kI 10 20 rfl rfl),
    step_snd rfl (.inl rfl) rfl rfl (kI 10 20 rfl rfl), trivial⟩ ?_
 intro val w3 hw hS hap hla
 simp only [pA, pB, pC, pD, pE, Act.put, pG, pH, pI, eVal hS 0 10 rfl rfl, eVal hS 1 11 rfl rfl, eVal hS 2 12 rfl rfl, eVal hS 3 13 rfl rfl, eVal hS 4 14 rfl rfl, eVal hS 5 15 rfl rfl, eVal hS 6 16 rfl rfl, eVal hS 7 17 rfl rfl, eVal hS 8 18 rfl rfl, eVal hS 9 19 rfl rfl, eVal hS 10 20 rfl rfl, eVal hS 11 21 rfl rfl, eVal hS 12 22 rfl rfl]
 clear hS hap hla
 have LL2 := hid hr.1.len
 have Y2 := h2.next hw
 have R2 := Y2.room (l' := r) hr.1.len
 have h9 := Y2.stored (l' := r) hr.1.len
 replace hT := hT.next hw
 replace h1 := h1.next hw
 replace h2 := h2.next hw
 replace hB4 := hB4.next hw
 replace hB5 := hB5.next hw
 replace hW := bT hW hw
 with_reducible refine wpList_store_mid (op := ⟨none, .store 44 (.tmp 2) (.tmp 21), _, _, _, _⟩) rfl 44 (.tmp 2) (.tmp 21) rfl (W.heap.size + 1) 0 (ints .i64 r).toArray rfl rfl R2 (a26 LL2.out) (ints_all _ _) ?_
 replace hW := Below.setCells hW (g := (W.heap.size + 1)) (by omega) 0 (ints .i64 r).toArray.toList
 generalize (w3.setCells (W.heap.size + 1) 0 (ints .i64 r).toArray.toList) = w4 at *
 clear hw R2 LL2 Y2
 go_wp2_with (fail)
 refine bodyPost_ret (results_row2 rfl _ _ (W.heap.size + 1) 0 rfl (.bool (isSq (xxF b).val)) rfl (ints .i64 r) _ h9.range Tryz.underlying44 rfl (l26 hr.1.len)) rfl ⟨rfl, hW⟩
theorem of_ok_odd {bs ys : List Int} (lb : bs.length = 32) (ly : ys.length = 32) {x x' : Int} (hx : bs[31]? = some x) (hys : bs.set 31 x' = ys) (hk1 : bits .and .u8 x 128 = 128) (hk2 : bits .andNot .u8 x 128 = x') {y : List Int} {b : Fin NT.PN} (hy : Nf y b) (ky : CallsTo 36 #[.agg (ints .u8 ys).toArray] (.agg (ints .i64 y).toArray)) (kb : CallsTo 42 #[.agg (ints .i64 y).toArray] (.agg (ints .u8 ys).toArray)) {rt : List Int} {k : Fin NT.PN} (hrt : Nf rt k) (kbe : CallsP 62 #[.agg (ints .i64 y).toArray] (.tuple #[.agg (ints .i64 rt).toArray, .bool true])) (hk0 : k ≠ 0) :
   ∃ r, CallsP 30 #[.agg (ints .u8 bs).toArray] (.tuple #[.agg (ints .i64 r).toArray, .int .i64 0]) ∧ Pn r (atC (0 - k) b) := by
 obtain ⟨v0, kv0, hv0⟩ := nf_zero
 obtain ⟨v1, kv1, hv1⟩ := nf_neg hrt
 obtain ⟨r, ka, hr⟩ := c_at hv1 hy
 refine ⟨r, ?_, hr⟩
 intro W hT
 obtain ⟨z28, s28⟩ := zero_of_info inf28
 have h1 := (By.new W bs lb).next (below_new _ (.cells (ints .i64 (zeros 64)).toArray 46))
 have h2 := B4.new (W.alloc (.cells (ints .u8 bs).toArray 22)) (zeros 64) (zeros_len 64)
 have hW := (below_new W (.cells (ints .u8 bs).toArray 22)).alloc (by simp) (.cells (ints .i64 (zeros 64)).toArray 46)
 have hT0 := hT
 replace hT := ((hT.alloc (.cells (ints .u8 bs).toArray 22)).alloc (.cells (ints .i64 (zeros 64)).toArray 46))
 simp only [World.size_alloc] at h2
 go_enter Tryz.func30, Tryz.ntmps30
 go_upto_region 1 with (fail)
 generalize (W.alloc (.cells (ints .u8 bs).toArray 22)).alloc (.cells (ints .i64 (zeros 64)).toArray 46) = w0 at *
 obtain ⟨x0, cx, fx, HX⟩ := h1.1.spot (i := 31) (by rw [lb]; omega)
 rw [Nat.zero_add] at cx fx
 obtain rfl : x0 = x := by
   have h := HX.out
   rw [hx] at h
   injection h with h
   exact h.symm
 have hD1 := h1.1.set 31 x'
 rw [Nat.zero_add, hys] at hD1
 have h1b : By (w0.setCell ⟨W.heap.size, 31, none⟩ (.int .u8 x')) W.heap.size ys := ⟨hD1, ly⟩
 have h2b : B4 (w0.setCell ⟨W.heap.size, 31, none⟩ (.int .u8 x')) (W.heap.size + 1) (zeros 64) := ⟨h2.1.apart (p := ⟨W.heap.size, 31, none⟩) (.int .u8 x') (.inl (by show W.heap.size ≠ W.heap.size + 1; omega)), h2.2⟩
 have hWb := hW.setCell (p := ⟨W.heap.size, 31, none⟩) (by show W.heap.size ≤ W.heap.size; omega) (.int .u8 x')
 have hTb := hT0.next hWb
 clear h1 h2 hW hT HX hys hx hD1
 go_upto_region 3 with (fail)
 generalize (w0.setCell ⟨W.heap.size, 31, none⟩ (.int .u8 x')) = w1 at *
 have h1 := h1b
 have h2 := h2b
 have hT := hTb
 have hW := hWb
 have lt2 := h2.lt
 clear h1b h2b hTb hWb cx fx hk1 hk2
 have s1 := hW.size
 refine rSeq 3 45 (fun i => i == 2) [Is (.agg (ints .u8 ys).toArray), IsL y, IsZ w1.heap.size] [16, 17, 5] (gC (gC (grows_cons (IsZ.grows _) grows_nil)))
   ⟨step_by rfl (.inl rfl) h1 1 rfl (by kernel_rfl) rfl rfl,
    step_to rfl (.inl rfl) rfl cf9 ky rfl (one_arg (kI 0 16 rfl rfl)),
    step_alloc26 (.inl rfl) rfl rfl, trivial⟩ ?_
 intro val w2 hw hS hap hla
 obtain ⟨b5, e5, L5, Z5⟩ := hS 2 5 (by decide) rfl
 simp only [pA, pB, pC, pD, pE, Act.put, pG, pH, pI, eVal hS 0 16 rfl rfl, eVal hS 1 17 rfl rfl, e5]
 clear hS hap hla e5
 have LL5 := hid hy.1.len
 have R5 := Z5.room (l' := y) hy.1.len
 have hB5 := Z5.stored (l' := y) hy.1.len
 have hu := Below.setCells hw L5 0 (ints .i64 y).toArray.toList
 replace hT := hT.next hu
 replace h1 := h1.next hu
 replace h2 := h2.next hu
 replace hW := bT hW hu
 clear hu
 with_reducible refine wpList_store_mid (op := ⟨none, .store 44 (.tmp 5) (.tmp 17), _, _, _, _⟩) rfl 44 (.tmp 5) (.tmp 17) rfl b5 0 (ints .i64 y).toArray rfl rfl R5 (a26 LL5.out) (ints_all _ _) ?_
 generalize (w2.setCells b5 0 (ints .i64 y).toArray.toList) = w3 at *
 clear hw R5 LL5 Z5
 go_wp2_with (fail)
 have s3 := hW.size
 refine rSpec 3 45 (fun _ => false) [IsL y, Is (.agg (ints .u8 ys).toArray), Is (.agg (ints .u8 ys).toArray)] [18, 19, 20] (gC (gC (gC grows_nil)))
   ⟨step_el rfl (.inl rfl) hB5 5 rfl (by kernel_rfl) rfl rfl,
    step_to rfl (.inl rfl) rfl cf11 kb rfl (one_arg (kI 0 18 rfl rfl)),
    step_by rfl (.inl rfl) h1 1 rfl (by kernel_rfl) rfl rfl, trivial⟩ ?_
 intro val w4 hw hS hap hla
 simp only [pA, pB, pC, pD, pE, Act.put, pG, pH, pI, eVal hS 0 18 rfl rfl, eVal hS 1 19 rfl rfl, eVal hS 2 20 rfl rfl]
 clear hS hap hla
 replace hT := hT.next hw
 replace h1 := h1.next hw
 replace h2 := h2.next hw
 replace hB5 := hB5.next hw
 replace hW := bT hW hw
 clear hw
 have he : ∀ w, (Op.equalIn 10000 22 (.agg (ints .u8 ys).toArray) (.agg (ints .u8 ys).toArray)).run Tryz.prog w = .ok true w := fun w => by rw [eq22 ly ly, decide_eq_true rfl]
 have heg := egt22
 go_upto_region 6 with (fail)
 clear he heg lt2
 have lt5 := hB5.lt
 have lt2 := h2.lt
 have s4 := hW.size
 refine rSeq 6 45 (fun i => i == 5) [IsL y, Is (.tuple #[(.agg (ints .i64 rt).toArray), (.bool true)]), Is (.tuple #[(.agg (ints .i64 rt).toArray), (.bool true)]), IsL rt, Is (.bool true), IsZ w4.heap.size] [24, 25, 23, 26, 27, 6] (gC (gC (gC (gC (gC (grows_cons (IsZ.grows _) grows_nil))))))
   ⟨step_el rfl (.inl rfl) hB5 5 rfl (by kernel_rfl) rfl rfl,
    step_toP rfl (.inl rfl) rfl cg38 hT kbe rfl (one_arg (kI 0 24 rfl rfl)),
    step_mv rfl (.inl rfl) rfl rfl (kI 1 25 rfl rfl),
    step_fst rfl (.inl rfl) rfl rfl (kI 2 23 rfl rfl),
    step_snd rfl (.inl rfl) rfl rfl (kI 2 23 rfl rfl),
    step_alloc26 (.inl rfl) rfl rfl, trivial⟩ ?_
 intro val w5 hw hS hap hla
 obtain ⟨b6, e6, L6, Z6⟩ := hS 5 6 (by decide) rfl
 simp only [pA, pB, pC, pD, pE, Act.put, pG, pH, pI, eVal hS 0 24 rfl rfl, eVal hS 1 25 rfl rfl, eVal hS 2 23 rfl rfl, eVal hS 3 26 rfl rfl, eVal hS 4 27 rfl rfl, e6]
 clear hS hap hla e6
 have LL6 := hid hrt.1.len
 have R6 := Z6.room (l' := rt) hrt.1.len
 have hB6 := Z6.stored (l' := rt) hrt.1.len
 have hu := Below.setCells hw L6 0 (ints .i64 rt).toArray.toList
 replace hT := hT.next hu
 replace h1 := h1.next hu
 replace h2 := h2.next hu
 replace hB5 := hB5.next hu
 replace hW := bT hW hu
 clear hu
 with_reducible refine wpList_store_mid (op := ⟨none, .store 44 (.tmp 6) (.tmp 26), _, _, _, _⟩) rfl 44 (.tmp 6) (.tmp 26) rfl b6 0 (ints .i64 rt).toArray rfl rfl R6 (a26 LL6.out) (ints_all _ _) ?_
 generalize (w5.setCells b6 0 (ints .i64 rt).toArray.toList) = w6 at *
 clear hw R6 LL6 Z6
 go_wp2_with (fail)
 have s6 := hW.size
 refine rSpec 9 45 (fun _ => false) [Is (.bool true), Is (.bool false), Is (.bool false), Is (.bool true), Is (.bool true), IsL rt, IsL v0, Is (.bool false), Is (.bool false)] [28, 29, 30, 31, 32, 33, 34, 35, 36] (gC (gC (gC (gC (gC (gC (gC (gC (gC grows_nil)))))))))
   ⟨step_mv rfl (.inl rfl) rfl rfl (kO 7 rfl),
    step_not rfl (.inl rfl) (b := true) rfl rfl (kI 0 28 rfl rfl),
    step_mv rfl (.inl rfl) rfl rfl (kI 1 29 rfl rfl),
    step_mv rfl (gN 2 false 30 rfl rfl rfl) rfl rfl (kO 4 rfl),
    step_mv rfl (gN 2 false 30 rfl rfl rfl) rfl rfl (kI 3 31 rfl rfl),
    step_el rfl (gN 4 true 32 rfl rfl rfl) hB6 6 rfl (by kernel_rfl) rfl rfl,
    step_to rfl (gN 4 true 32 rfl rfl rfl) rfl cf16 kv0 rfl (one_arg (knows_const _)),
    step_to rfl (gN 4 true 32 rfl rfl rfl) rfl cf14 (nf_other hrt hv0 hk0) rfl (two_args (kI 5 33 rfl rfl) (kI 6 34 rfl rfl)),
    step_pick rfl (gN 2 false 30 rfl rfl rfl) (b := true) rfl rfl (kI 4 32 rfl rfl) (kI 7 35 rfl rfl), trivial⟩ ?_
 intro val w7 hw hS hap hla
 simp only [pA, pB, pC, pD, pE, Act.put, pG, pH, pI, eVal hS 0 28 rfl rfl, eVal hS 1 29 rfl rfl, eVal hS 2 30 rfl rfl, eVal hS 3 31 rfl rfl, eVal hS 4 32 rfl rfl, eVal hS 5 33 rfl rfl, eVal hS 6 34 rfl rfl, eVal hS 7 35 rfl rfl, eVal hS 8 36 rfl rfl]
 clear hS hap hla
 replace hT := hT.next hw
 replace h1 := h1.next hw
 replace h2 := h2.next hw
 replace hB5 := hB5.next hw
 replace hB6 := hB6.next hw
 replace hW := bT hW hw
 clear hw
 go_upto_region 10 with (fail)
 have s7 := hW.size
 refine rSeq 2 45 (fun _ => false) [IsL rt, IsL v1] [40, 41] (gC (gC grows_nil))
   ⟨step_el rfl (.inl rfl) hB6 6 rfl (by kernel_rfl) rfl rfl,
    step_to rfl (.inl rfl) rfl cg41 kv1 rfl (one_arg (kI 0 40 rfl rfl)), trivial⟩ ?_
 intro val w8 hw hS hap hla
 simp only [pA, pB, pC, pD, pE, Act.put, pG, pH, pI, eVal hS 0 40 rfl rfl, eVal hS 1 41 rfl rfl]
 clear hS hap hla
 replace hT := hT.next hw
 replace h1 := h1.next hw
 replace h2 := h2.next hw
 replace hB5 := hB5.next hw
 replace hB6 := hB6.next hw
 replace hW := bT hW hw
 clear hw
 have LL6 := hid hv1.1.len
 have R6 := hB6.room (l' := v1) hv1.1.len
 replace hB6 := hB6.stored (l' := v1) hv1.1.len
 replace hB5 := hB5.past (b' := b6) (ints .i64 v1).toArray.toList (by omega)
 replace h2 := h2.past (b' := b6) (ints .i64 v1).toArray.toList (by omega)
 replace h1 := h1.past (b' := b6) (ints .i64 v1).toArray.toList (by omega)
 replace hW := Below.setCells hW (g := b6) (by omega) 0 (ints .i64 v1).toArray.toList
 replace hT := hT0.next hW
 with_reducible refine wpList_store_mid (op := ⟨none, .store 44 (.tmp 6) (.tmp 41), _, _, _, _⟩) rfl 44 (.tmp 6) (.tmp 41) rfl b6 0 (ints .i64 v1).toArray rfl rfl R6 (a26 LL6.out) (ints_all _ _) ?_
 generalize (w8.setCells b6 0 (ints .i64 v1).toArray.toList) = w9 at *
 clear R6 LL6
 go_upto_region 11 with (fail)
 have s9 := hW.size
 refine rSeq 3 45 (fun _ => false) [IsL v1, IsL y, IsL r] [42, 43, 44] (gC (gC (gC grows_nil)))
   ⟨step_el rfl (.inl rfl) hB6 6 rfl (by kernel_rfl) rfl rfl,
    step_el rfl (.inl rfl) hB5 5 rfl (by kernel_rfl) rfl rfl,
    step_to rfl (.inl rfl) rfl cg42 ka rfl (two_args (kI 0 42 rfl rfl) (kI 1 43 rfl rfl)), trivial⟩ ?_
 intro val w10 hw hS hap hla
 simp only [pA, pB, pC, pD, pE, Act.put, pG, pH, pI, eVal hS 0 42 rfl rfl, eVal hS 1 43 rfl rfl, eVal hS 2 44 rfl rfl]
 clear hS hap hla
 have LL2 := hid hr.len
 have Y2 := h2.next hw
 have R2 := Y2.room (l' := r) hr.len
 have h9 := Y2.stored (l' := r) hr.len
 replace hT := hT.next hw
 replace h1 := h1.next hw
 replace h2 := h2.next hw
 replace hB5 := hB5.next hw
 replace hB6 := hB6.next hw
 replace hW := bT hW hw
 with_reducible refine wpList_store_mid (op := ⟨none, .store 46 (.tmp 2) (.tmp 44), _, _, _, _⟩) rfl 46 (.tmp 2) (.tmp 44) rfl (W.heap.size + 1) 0 (ints .i64 r).toArray rfl rfl R2 (a28 LL2.out) (ints_all _ _) ?_
 replace hW := Below.setCells hW (g := (W.heap.size + 1)) (by omega) 0 (ints .i64 r).toArray.toList
 generalize (w10.setCells (W.heap.size + 1) 0 (ints .i64 r).toArray.toList) = w11 at *
 clear hw R2 LL2 Y2
 go_wp2_with (fail)
 refine bodyPost_ret (results_row2 rfl _ _ (W.heap.size + 1) 0 rfl (.int .i64 0) rfl (ints .i64 r) _ h9.range Tryz.underlying46 rfl (l28 hr.len)) rfl ⟨rfl, hW⟩
theorem of_ok_even {bs ys : List Int} (lb : bs.length = 32) (ly : ys.length = 32) {x x' : Int} (hx : bs[31]? = some x) (hys : bs.set 31 x' = ys) (hk1 : bits .and .u8 x 128 = 0) (hk2 : bits .andNot .u8 x 128 = x') {y : List Int} {b : Fin NT.PN} (hy : Nf y b) (ky : CallsTo 36 #[.agg (ints .u8 ys).toArray] (.agg (ints .i64 y).toArray)) (kb : CallsTo 42 #[.agg (ints .i64 y).toArray] (.agg (ints .u8 ys).toArray)) {rt : List Int} {k : Fin NT.PN} (hrt : Nf rt k) (kbe : CallsP 62 #[.agg (ints .i64 y).toArray] (.tuple #[.agg (ints .i64 rt).toArray, .bool true])) :
   ∃ r, CallsP 30 #[.agg (ints .u8 bs).toArray] (.tuple #[.agg (ints .i64 r).toArray, .int .i64 0]) ∧ Pn r (atC k b) := by
 obtain ⟨r, ka, hr⟩ := c_at hrt hy
 refine ⟨r, ?_, hr⟩
 intro W hT
 obtain ⟨z28, s28⟩ := zero_of_info inf28
 have h1 := (By.new W bs lb).next (below_new _ (.cells (ints .i64 (zeros 64)).toArray 46))
 have h2 := B4.new (W.alloc (.cells (ints .u8 bs).toArray 22)) (zeros 64) (zeros_len 64)
 have hW := (below_new W (.cells (ints .u8 bs).toArray 22)).alloc (by simp) (.cells (ints .i64 (zeros 64)).toArray 46)
 have hT0 := hT
 replace hT := ((hT.alloc (.cells (ints .u8 bs).toArray 22)).alloc (.cells (ints .i64 (zeros 64)).toArray 46))
 simp only [World.size_alloc] at h2
 go_enter Tryz.func30, Tryz.ntmps30
 go_upto_region 1 with (fail)
 generalize (W.alloc (.cells (ints .u8 bs).toArray 22)).alloc (.cells (ints .i64 (zeros 64)).toArray 46) = w0 at *
 obtain ⟨x0, cx, fx, HX⟩ := h1.1.spot (i := 31) (by rw [lb]; omega)
 rw [Nat.zero_add] at cx fx
 obtain rfl : x0 = x := by
   have h := HX.out
   rw [hx] at h
   injection h with h
   exact h.symm
 have hD1 := h1.1.set 31 x'
 rw [Nat.zero_add, hys] at hD1
 have h1b : By (w0.setCell ⟨W.heap.size, 31, none⟩ (.int .u8 x')) W.heap.size ys := ⟨hD1, ly⟩
 have h2b : B4 (w0.setCell ⟨W.heap.size, 31, none⟩ (.int .u8 x')) (W.heap.size + 1) (zeros 64) := ⟨h2.1.apart (p := ⟨W.heap.size, 31, none⟩) (.int .u8 x') (.inl (by show W.heap.size ≠ W.heap.size + 1; omega)), h2.2⟩
 have hWb := hW.setCell (p := ⟨W.heap.size, 31, none⟩) (by show W.heap.size ≤ W.heap.size; omega) (.int .u8 x')
 have hTb := hT0.next hWb
 clear h1 h2 hW hT HX hys hx hD1
 go_upto_region 3 with (fail)
 generalize (w0.setCell ⟨W.heap.size, 31, none⟩ (.int .u8 x')) = w1 at *
 have h1 := h1b
 have h2 := h2b
 have hT := hTb
 have hW := hWb
 have lt2 := h2.lt
 clear h1b h2b hTb hWb cx fx hk1 hk2
 have s1 := hW.size
 refine rSeq 3 45 (fun i => i == 2) [Is (.agg (ints .u8 ys).toArray), IsL y, IsZ w1.heap.size] [16, 17, 5] (gC (gC (grows_cons (IsZ.grows _) grows_nil)))
   ⟨step_by rfl (.inl rfl) h1 1 rfl (by kernel_rfl) rfl rfl,
    step_to rfl (.inl rfl) rfl cf9 ky rfl (one_arg (kI 0 16 rfl rfl)),
    step_alloc26 (.inl rfl) rfl rfl, trivial⟩ ?_
 intro val w2 hw hS hap hla
 obtain ⟨b5, e5, L5, Z5⟩ := hS 2 5 (by decide) rfl
 simp only [pA, pB, pC, pD, pE, Act.put, pG, pH, pI, eVal hS 0 16 rfl rfl, eVal hS 1 17 rfl rfl, e5]
 clear hS hap hla e5
 have LL5 := hid hy.1.len
 have R5 := Z5.room (l' := y) hy.1.len
 have hB5 := Z5.stored (l' := y) hy.1.len
 have hu := Below.setCells hw L5 0 (ints .i64 y).toArray.toList
 replace hT := hT.next hu
 replace h1 := h1.next hu
 replace h2 := h2.next hu
 replace hW := bT hW hu
 clear hu
 with_reducible refine wpList_store_mid (op := ⟨none, .store 44 (.tmp 5) (.tmp 17), _, _, _, _⟩) rfl 44 (.tmp 5) (.tmp 17) rfl b5 0 (ints .i64 y).toArray rfl rfl R5 (a26 LL5.out) (ints_all _ _) ?_
 generalize (w2.setCells b5 0 (ints .i64 y).toArray.toList) = w3 at *
 clear hw R5 LL5 Z5
 go_wp2_with (fail)
 have s3 := hW.size
 refine rSpec 3 45 (fun _ => false) [IsL y, Is (.agg (ints .u8 ys).toArray), Is (.agg (ints .u8 ys).toArray)] [18, 19, 20] (gC (gC (gC grows_nil)))
   ⟨step_el rfl (.inl rfl) hB5 5 rfl (by kernel_rfl) rfl rfl,
    step_to rfl (.inl rfl) rfl cf11 kb rfl (one_arg (kI 0 18 rfl rfl)),
    step_by rfl (.inl rfl) h1 1 rfl (by kernel_rfl) rfl rfl, trivial⟩ ?_
 intro val w4 hw hS hap hla
 simp only [pA, pB, pC, pD, pE, Act.put, pG, pH, pI, eVal hS 0 18 rfl rfl, eVal hS 1 19 rfl rfl, eVal hS 2 20 rfl rfl]
 clear hS hap hla
 replace hT := hT.next hw
 replace h1 := h1.next hw
 replace h2 := h2.next hw
 replace hB5 := hB5.next hw
 replace hW := bT hW hw
 clear hw
 have he : ∀ w, (Op.equalIn 10000 22 (.agg (ints .u8 ys).toArray) (.agg (ints .u8 ys).toArray)).run Tryz.prog w = .ok true w := fun w => by rw [eq22 ly ly, decide_eq_true rfl]
 have heg := egt22
 go_upto_region 6 with (fail)
 clear he heg lt2
 have lt5 := hB5.lt
 have lt2 := h2.lt
 have s4 := hW.size
 refine rSeq 6 45 (fun i => i == 5) [IsL y, Is (.tuple #[(.agg (ints .i64 rt).toArray), (.bool true)]), Is (.tuple #[(.agg (ints .i64 rt).toArray), (.bool true)]), IsL rt, Is (.bool true), IsZ w4.heap.size] [24, 25, 23, 26, 27, 6] (gC (gC (gC (gC (gC (grows_cons (IsZ.grows _) grows_nil))))))
   ⟨step_el rfl (.inl rfl) hB5 5 rfl (by kernel_rfl) rfl rfl,
    step_toP rfl (.inl rfl) rfl cg38 hT kbe rfl (one_arg (kI 0 24 rfl rfl)),
    step_mv rfl (.inl rfl) rfl rfl (kI 1 25 rfl rfl),
    step_fst rfl (.inl rfl) rfl rfl (kI 2 23 rfl rfl),
    step_snd rfl (.inl rfl) rfl rfl (kI 2 23 rfl rfl),
    step_alloc26 (.inl rfl) rfl rfl, trivial⟩ ?_
 intro val w5 hw hS hap hla
 obtain ⟨b6, e6, L6, Z6⟩ := hS 5 6 (by decide) rfl
 simp only [pA, pB, pC, pD, pE, Act.put, pG, pH, pI, eVal hS 0 24 rfl rfl, eVal hS 1 25 rfl rfl, eVal hS 2 23 rfl rfl, eVal hS 3 26 rfl rfl, eVal hS 4 27 rfl rfl, e6]
 clear hS hap hla e6
 have LL6 := hid hrt.1.len
 have R6 := Z6.room (l' := rt) hrt.1.len
 have hB6 := Z6.stored (l' := rt) hrt.1.len
 have hu := Below.setCells hw L6 0 (ints .i64 rt).toArray.toList
 replace hT := hT.next hu
 replace h1 := h1.next hu
 replace h2 := h2.next hu
 replace hB5 := hB5.next hu
 replace hW := bT hW hu
 clear hu
 with_reducible refine wpList_store_mid (op := ⟨none, .store 44 (.tmp 6) (.tmp 26), _, _, _, _⟩) rfl 44 (.tmp 6) (.tmp 26) rfl b6 0 (ints .i64 rt).toArray rfl rfl R6 (a26 LL6.out) (ints_all _ _) ?_
 generalize (w5.setCells b6 0 (ints .i64 rt).toArray.toList) = w6 at *
 clear hw R6 LL6 Z6
 go_wp2_with (fail)
 have s6 := hW.size
 refine rSpec 9 45 (fun _ => false) [Is (.bool true), Is (.bool false), Is (.bool false), Is (.bool false), Is (.bool false), Is undef, Is undef, Is undef, Is (.bool false)] [28, 29, 30, 31, 32, 33, 34, 35, 36] (gC (gC (gC (gC (gC (gC (gC (gC (gC grows_nil)))))))))
   ⟨step_mv rfl (.inl rfl) rfl rfl (kO 7 rfl),
    step_not rfl (.inl rfl) (b := true) rfl rfl (kI 0 28 rfl rfl),
    step_mv rfl (.inl rfl) rfl rfl (kI 1 29 rfl rfl),
    step_mv rfl (gN 2 false 30 rfl rfl rfl) rfl rfl (kO 4 rfl),
    step_mv rfl (gN 2 false 30 rfl rfl rfl) rfl rfl (kI 3 31 rfl rfl),
    step_off rfl (gF 4 true 32 rfl rfl rfl) (fun _ => rfl),
    step_off rfl (gF 4 true 32 rfl rfl rfl) (fun _ => rfl),
    step_off rfl (gF 4 true 32 rfl rfl rfl) (fun _ => rfl),
    step_pick rfl (gN 2 false 30 rfl rfl rfl) (b := false) rfl rfl (kI 4 32 rfl rfl) (knows_const _), trivial⟩ ?_
 intro val w7 hw hS hap hla
 simp only [pA, pB, pC, pD, pE, Act.put, pG, pH, pI, eVal hS 0 28 rfl rfl, eVal hS 1 29 rfl rfl, eVal hS 2 30 rfl rfl, eVal hS 3 31 rfl rfl, eVal hS 4 32 rfl rfl, eVal hS 5 33 rfl rfl, eVal hS 6 34 rfl rfl, eVal hS 7 35 rfl rfl, eVal hS 8 36 rfl rfl]
 clear hS hap hla
 replace hT := hT.next hw
 replace h1 := h1.next hw
 replace h2 := h2.next hw
 replace hB5 := hB5.next hw
 replace hB6 := hB6.next hw
 replace hW := bT hW hw
 clear hw
 go_upto_region 11 with (fail)
 have s7 := hW.size
 refine rSeq 3 45 (fun _ => false) [IsL rt, IsL y, IsL r] [42, 43, 44] (gC (gC (gC grows_nil)))
   ⟨step_el rfl (.inl rfl) hB6 6 rfl (by kernel_rfl) rfl rfl,
    step_el rfl (.inl rfl) hB5 5 rfl (by kernel_rfl) rfl rfl,
    step_to rfl (.inl rfl) rfl cg42 ka rfl (two_args (kI 0 42 rfl rfl) (kI 1 43 rfl rfl)), trivial⟩ ?_
 intro val w8 hw hS hap hla
 simp only [pA, pB, pC, pD, pE, Act.put, pG, pH, pI, eVal hS 0 42 rfl rfl, eVal hS 1 43 rfl rfl, eVal hS 2 44 rfl rfl]
 clear hS hap hla
 have LL2 := hid hr.len
 have Y2 := h2.next hw
 have R2 := Y2.room (l' := r) hr.len
 have h9 := Y2.stored (l' := r) hr.len
 replace hT := hT.next hw
 replace h1 := h1.next hw
 replace h2 := h2.next hw
 replace hB5 := hB5.next hw
 replace hB6 := hB6.next hw
 replace hW := bT hW hw
 with_reducible refine wpList_store_mid (op := ⟨none, .store 46 (.tmp 2) (.tmp 44), _, _, _, _⟩) rfl 46 (.tmp 2) (.tmp 44) rfl (W.heap.size + 1) 0 (ints .i64 r).toArray rfl rfl R2 (a28 LL2.out) (ints_all _ _) ?_
 replace hW := Below.setCells hW (g := (W.heap.size + 1)) (by omega) 0 (ints .i64 r).toArray.toList
 generalize (w8.setCells (W.heap.size + 1) 0 (ints .i64 r).toArray.toList) = w9 at *
 clear hw R2 LL2 Y2
 go_wp2_with (fail)
 refine bodyPost_ret (results_row2 rfl _ _ (W.heap.size + 1) 0 rfl (.int .i64 0) rfl (ints .i64 r) _ h9.range Tryz.underlying46 rfl (l28 hr.len)) rfl ⟨rfl, hW⟩
end Go.Proofs.YthpibkpljakeeaaGreatDoor
