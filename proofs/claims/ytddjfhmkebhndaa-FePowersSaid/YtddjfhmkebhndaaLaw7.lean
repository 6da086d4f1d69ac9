/- The laws of the field, for three elements: the walk over calls that say what they return. -/
import Derived.Test.YtddjfhmkebhndaaR9
namespace Go.Proofs.Ytddjfhmkebhndaa
open Go.RowKit

/-- Two new blocks, stored. -/
theorem put_two (w : World) (l m : List Int) (hl : l.length = 16) (hm : m.length = 16) :
    ((w.alloc (.cells (ints .i64 (zeros 16)).toArray 26)).alloc (.cells (ints .i64 (zeros 16)).toArray 26)).there w.heap.size 0 (ints .i64 l).toArray.size ∧
    (((w.alloc (.cells (ints .i64 (zeros 16)).toArray 26)).alloc (.cells (ints .i64 (zeros 16)).toArray 26)).setCells w.heap.size 0 (ints .i64 l).toArray.toList).there (w.heap.size + 1) 0 (ints .i64 m).toArray.size ∧
    Bx ((((w.alloc (.cells (ints .i64 (zeros 16)).toArray 26)).alloc (.cells (ints .i64 (zeros 16)).toArray 26)).setCells w.heap.size 0 (ints .i64 l).toArray.toList).setCells (w.heap.size + 1) 0 (ints .i64 m).toArray.toList) w.heap.size l ∧
    Bx ((((w.alloc (.cells (ints .i64 (zeros 16)).toArray 26)).alloc (.cells (ints .i64 (zeros 16)).toArray 26)).setCells w.heap.size 0 (ints .i64 l).toArray.toList).setCells (w.heap.size + 1) 0 (ints .i64 m).toArray.toList) (w.heap.size + 1) m ∧
    Below w.heap.size w ((((w.alloc (.cells (ints .i64 (zeros 16)).toArray 26)).alloc (.cells (ints .i64 (zeros 16)).toArray 26)).setCells w.heap.size 0 (ints .i64 l).toArray.toList).setCells (w.heap.size + 1) 0 (ints .i64 m).toArray.toList) := by
  have h1 : Bx ((w.alloc (.cells (ints .i64 (zeros 16)).toArray 26)).alloc (.cells (ints .i64 (zeros 16)).toArray 26)) w.heap.size (zeros 16) := (Bx.new w (zeros 16) rfl).next (below_new _ _)
  have h2 : Bx ((w.alloc (.cells (ints .i64 (zeros 16)).toArray 26)).alloc (.cells (ints .i64 (zeros 16)).toArray 26)) (w.heap.size + 1) (zeros 16) := by
    have h := Bx.new (w.alloc (.cells (ints .i64 (zeros 16)).toArray 26)) (zeros 16) rfl
    rw [World.size_alloc] at h
    exact h
  have h3 := h2.past (b' := w.heap.size) (ints .i64 l).toArray.toList (by omega)
  exact ⟨h1.room hl, h3.room hm, (h1.stored hl).past _ (by omega), h3.stored hm, Below.setCells (Below.setCells (((below_new w _)).alloc (by simp) _) (Nat.le_refl _) _ _) (by omega) _ _⟩
set_option maxRecDepth 4000 in
set_option maxHeartbeats 4000000 in
theorem law7_core (a b c x y z zero one v0 v1 v2 v3 v4 v5 v6 v7 v8 v9 v10 v11 v12 v13 v14 v15 v16 v17 v18 v19 : List Int) (w : World) (la : a.length = 32) (lb : b.length = 32) (lc : c.length = 32) (lx : x.length = 16) (ly : y.length = 16) (lz : z.length = 16) (l0 : zero.length = 16) (l1 : one.length = 16)
    (ka : CallsTo 9 #[.agg (ints .u8 a).toArray] (.agg (ints .i64 x).toArray)) (kb : CallsTo 9 #[.agg (ints .u8 b).toArray] (.agg (ints .i64 y).toArray)) (kc : CallsTo 9 #[.agg (ints .u8 c).toArray] (.agg (ints .i64 z).toArray))
    (kz : CallsTo 16 #[.int .i64 0] (.agg (ints .i64 zero).toArray)) (ko : CallsTo 16 #[.int .i64 1] (.agg (ints .i64 one).toArray))
    (k0 : CallsTo 18 #[.agg (ints .i64 x).toArray, .agg (ints .i64 y).toArray] (.agg (ints .i64 v0).toArray))
    (k1 : CallsTo 18 #[.agg (ints .i64 y).toArray, .agg (ints .i64 x).toArray] (.agg (ints .i64 v1).toArray))
    (k2 : CallsTo 22 #[.agg (ints .i64 x).toArray, .agg (ints .i64 y).toArray] (.agg (ints .i64 v2).toArray))
    (k3 : CallsTo 22 #[.agg (ints .i64 y).toArray, .agg (ints .i64 x).toArray] (.agg (ints .i64 v3).toArray))
    (k4 : CallsTo 18 #[.agg (ints .i64 y).toArray, .agg (ints .i64 z).toArray] (.agg (ints .i64 v4).toArray))
    (k5 : CallsTo 22 #[.agg (ints .i64 x).toArray, .agg (ints .i64 v4).toArray] (.agg (ints .i64 v5).toArray))
    (k6 : CallsTo 22 #[.agg (ints .i64 x).toArray, .agg (ints .i64 z).toArray] (.agg (ints .i64 v6).toArray))
    (k7 : CallsTo 18 #[.agg (ints .i64 v2).toArray, .agg (ints .i64 v6).toArray] (.agg (ints .i64 v7).toArray))
    (k8 : CallsTo 22 #[.agg (ints .i64 v2).toArray, .agg (ints .i64 z).toArray] (.agg (ints .i64 v8).toArray))
    (k9 : CallsTo 22 #[.agg (ints .i64 y).toArray, .agg (ints .i64 z).toArray] (.agg (ints .i64 v9).toArray))
    (k10 : CallsTo 22 #[.agg (ints .i64 x).toArray, .agg (ints .i64 v9).toArray] (.agg (ints .i64 v10).toArray))
    (k11 : CallsTo 24 #[.agg (ints .i64 x).toArray] (.agg (ints .i64 v11).toArray))
    (k12 : CallsTo 18 #[.agg (ints .i64 x).toArray, .agg (ints .i64 v11).toArray] (.agg (ints .i64 v12).toArray))
    (k13 : CallsTo 20 #[.agg (ints .i64 x).toArray, .agg (ints .i64 y).toArray] (.agg (ints .i64 v13).toArray))
    (k14 : CallsTo 24 #[.agg (ints .i64 y).toArray] (.agg (ints .i64 v14).toArray))
    (k15 : CallsTo 18 #[.agg (ints .i64 x).toArray, .agg (ints .i64 v14).toArray] (.agg (ints .i64 v15).toArray))
    (k16 : CallsTo 22 #[.agg (ints .i64 x).toArray, .agg (ints .i64 one).toArray] (.agg (ints .i64 v16).toArray))
    (k17 : CallsTo 18 #[.agg (ints .i64 x).toArray, .agg (ints .i64 zero).toArray] (.agg (ints .i64 v17).toArray))
    (k18 : CallsTo 27 #[.agg (ints .i64 x).toArray] (.agg (ints .i64 v18).toArray))
    (k19 : CallsTo 22 #[.agg (ints .i64 v3).toArray, .agg (ints .i64 v18).toArray] (.agg (ints .i64 v19).toArray))
    (e0 : CallsTo 14 #[.agg (ints .i64 v0).toArray, .agg (ints .i64 v1).toArray] (.bool true))
    (e1 : CallsTo 14 #[.agg (ints .i64 v2).toArray, .agg (ints .i64 v3).toArray] (.bool true))
    (e2 : CallsTo 14 #[.agg (ints .i64 v5).toArray, .agg (ints .i64 v7).toArray] (.bool true))
    (e3 : CallsTo 14 #[.agg (ints .i64 v8).toArray, .agg (ints .i64 v10).toArray] (.bool true))
    (e4 : CallsTo 14 #[.agg (ints .i64 v12).toArray, .agg (ints .i64 zero).toArray] (.bool true))
    (e5 : CallsTo 14 #[.agg (ints .i64 v13).toArray, .agg (ints .i64 v15).toArray] (.bool true))
    (e6 : CallsTo 14 #[.agg (ints .i64 v16).toArray, .agg (ints .i64 x).toArray] (.bool true))
    (e7 : CallsTo 14 #[.agg (ints .i64 v17).toArray, .agg (ints .i64 x).toArray] (.bool true))
    (t : Bool) (ez : CallsTo 14 #[.agg (ints .i64 x).toArray, .agg (ints .i64 zero).toArray] (.bool t)) (ei : t = false → CallsTo 14 #[.agg (ints .i64 v19).toArray, .agg (ints .i64 y).toArray] (.bool true)) :
    Calls Try.prog 7 #[.agg (ints .u8 a).toArray, .agg (ints .u8 b).toArray, .agg (ints .u8 c).toArray] w fun e w' => e = .returned (.bool true) ∧ Below w.heap.size w w' := by
  have LA := hid la
  have LB := hid lb
  have LC := hid lc
  have LX := hid lx
  have LY := hid ly
  have LZ := hid lz
  have L0 := hid l0
  have L1 := hid l1
  clear la lb lc lx ly lz l0 l1
  obtain ⟨z26, s26⟩ := zero_of_info inf26
  have hA := ((By.new w a LA.out).next (below_new _ (.cells (ints .u8 b).toArray 22))).next (below_new _ (.cells (ints .u8 c).toArray 22))
  have hB := (By.new (w.alloc (.cells (ints .u8 a).toArray 22)) b LB.out).next (below_new _ (.cells (ints .u8 c).toArray 22))
  have hC := By.new ((w.alloc (.cells (ints .u8 a).toArray 22)).alloc (.cells (ints .u8 b).toArray 22)) c LC.out
  have hW := ((below_new w (.cells (ints .u8 a).toArray 22)).alloc (by simp) (.cells (ints .u8 b).toArray 22)).alloc (by simp; omega) (.cells (ints .u8 c).toArray 22)
  rw [World.size_alloc] at hB
  rw [World.size_alloc, World.size_alloc] at hC
  go_enter Try.func7, Try.ntmps7
  go_wp2_with (fail)
  generalize (((w.alloc (.cells (ints .u8 a).toArray 22)).alloc (.cells (ints .u8 b).toArray 22)).alloc (.cells (ints .u8 c).toArray 22)) = W at *
  refine (awake_any _).mono ?_
  rintro e w1 ⟨rfl, hb1⟩
  replace hA := hA.next hb1
  replace hB := hB.next hb1
  replace hC := hC.next hb1
  replace hW := hW.trans (hb1.mono hW.size)
  clear hb1
  go_wp2_with (fail)
  refine region_float26 9 [(6, 7), (7, 8), (8, 9)] [0, 1, 2, 3, 4, 5] (by kernel_rfl) (by kernel_rfl) (by kernel_rfl) ?_
  simp only [List.filterMap_cons, List.filterMap_nil, List.getElem?_cons_succ, List.getElem?_cons_zero]
  refine qc_by hA (.tmp 3) rfl rfl rfl ?_
  go_simp
  refine qc_to ka rfl (fun w' => by go_simp) ?_
  go_simp
  refine qc_by hB (.tmp 4) rfl rfl rfl ?_
  go_simp
  refine qc_to kb rfl (fun w' => by go_simp) ?_
  go_simp
  refine qc_by hC (.tmp 5) rfl rfl rfl ?_
  go_simp
  refine qc_to kc rfl (fun w' => by go_simp) ?_
  go_simp
  refine qc_nil ?_
  intro B w' hb hBB hinj
  obtain ⟨g7, n7⟩ := hBB (6, 7) (by simp)
  obtain ⟨g8, n8⟩ := hBB (7, 8) (by simp)
  obtain ⟨g9, n9⟩ := hBB (8, 9) (by simp)
  have i78 : B 7 ≠ B 8 := fun e => absurd (hinj (6, 7) (by simp) (7, 8) (by simp) e) (by decide)
  have i79 : B 7 ≠ B 9 := fun e => absurd (hinj (6, 7) (by simp) (8, 9) (by simp) e) (by decide)
  have i89 : B 8 ≠ B 9 := fun e => absurd (hinj (7, 8) (by simp) (8, 9) (by simp) e) (by decide)
  simp only [List.drop_succ_cons, List.drop_zero, List.map_cons, List.map_nil, putAll, List.foldl_cons, List.foldl_nil]
  dsimp only at g7 g8 g9 n7 n8 n9
  clear hBB hinj
  generalize B 7 = b7 at *
  generalize B 8 = b8 at *
  generalize B 9 = b9 at *
  have hs7 := n7.room (l' := x) LX.out
  have hx1 := n7.stored (l' := x) LX.out
  have n81 := n8.past (b' := b7) (ints .i64 x).toArray.toList i78
  have n91 := n9.past (b' := b7) (ints .i64 x).toArray.toList i79
  have hs8 := n81.room (l' := y) LY.out
  have hy2 := n81.stored (l' := y) LY.out
  have hx2 := hx1.past (b' := b8) (ints .i64 y).toArray.toList (Ne.symm i78)
  have n92 := n91.past (b' := b8) (ints .i64 y).toArray.toList i89
  have hs9 := n92.room (l' := z) LZ.out
  have hz := n92.stored (l' := z) LZ.out
  have hx := hx2.past (b' := b9) (ints .i64 z).toArray.toList (Ne.symm i79)
  have hy := hy2.past (b' := b9) (ints .i64 z).toArray.toList (Ne.symm i89)
  have hW1 := Below.setCells (Below.setCells (Below.setCells (hW.trans (Below.mono hb hW.size)) (g := b7) (by have := hW.size; omega) 0 (ints .i64 x).toArray.toList) (g := b8) (by have := hW.size; omega) 0 (ints .i64 y).toArray.toList) (g := b9) (by have := hW.size; omega) 0 (ints .i64 z).toArray.toList
  clear hx1 hx2 hy2 n7 n8 n9 n81 n91 n92 hb hA hB hC hW i78 i79 i89 g7 g8 g9
  go_wp2_with (first
    | (with_reducible refine wpList_store_mid (op := ⟨none, .store 26 (.tmp 7) (.tmp 15), _, _, _, _⟩) rfl 26 (.tmp 7) (.tmp 15) rfl b7 0 (ints .i64 x).toArray rfl rfl hs7 (a26 LX.out) (ints_all _ _) ?_)
    | (with_reducible refine wpList_store_mid (op := ⟨none, .store 26 (.tmp 8) (.tmp 17), _, _, _, _⟩) rfl 26 (.tmp 8) (.tmp 17) rfl b8 0 (ints .i64 y).toArray rfl rfl hs8 (a26 LY.out) (ints_all _ _) ?_)
    | (with_reducible refine wpList_store_mid (op := ⟨none, .store 26 (.tmp 9) (.tmp 19), _, _, _, _⟩) rfl 26 (.tmp 9) (.tmp 19) rfl b9 0 (ints .i64 z).toArray rfl rfl hs9 (a26 LZ.out) (ints_all _ _) ?_; generalize (((w'.setCells b7 0 (ints .i64 x).toArray.toList).setCells b8 0 (ints .i64 y).toArray.toList).setCells b9 0 (ints .i64 z).toArray.toList) = W2 at *))
  clear hs7 hs8 hs9
  have hb7 := hx.lt
  have hb8 := hy.lt
  have hb9 := hz.lt
  clear hb7 hb8 hb9
  refine (kz.on _).mono ?_
  rintro e w3 ⟨rfl, hb3⟩
  replace hx := hx.next hb3
  replace hy := hy.next hb3
  replace hz := hz.next hb3
  replace hW1 := hW1.trans (hb3.mono hW1.size)
  clear hb3
  go_wp2_with (fail)
  refine (ko.on _).mono ?_
  rintro e w4 ⟨rfl, hb4⟩
  replace hx := hx.next hb4
  replace hy := hy.next hb4
  replace hz := hz.next hb4
  replace hW1 := hW1.trans (hb4.mono hW1.size)
  clear hb4
  obtain ⟨hs1, hs2, hzero, hone, hb5⟩ := put_two w4 zero one L0.out L1.out
  replace hx := hx.next hb5
  replace hy := hy.next hb5
  replace hz := hz.next hb5
  replace hW1 := hW1.trans (hb5.mono hW1.size)
  clear hb5
  go_wp2_with (first
    | (with_reducible refine wpList_store_mid (op := ⟨none, .store 26 (.tmp 10) (.tmp 20), _, _, _, _⟩) rfl 26 (.tmp 10) (.tmp 20) rfl w4.heap.size 0 (ints .i64 zero).toArray rfl rfl hs1 (a26 L0.out) (ints_all _ _) ?_)
    | (with_reducible refine wpList_store_mid (op := ⟨none, .store 26 (.tmp 11) (.tmp 21), _, _, _, _⟩) rfl 26 (.tmp 11) (.tmp 21) rfl (w4.heap.size + 1) 0 (ints .i64 one).toArray rfl rfl hs2 (a26 L1.out) (ints_all _ _) ?_; generalize ((((w4.alloc (.cells (ints .i64 (zeros 16)).toArray 26)).alloc (.cells (ints .i64 (zeros 16)).toArray 26)).setCells w4.heap.size 0 (ints .i64 zero).toArray.toList).setCells (w4.heap.size + 1) 0 (ints .i64 one).toArray.toList) = W5 at *))
  clear hs1 hs2
  refine region_quiet_in (Cl W5) (by kernel_rfl) (by kernel_rfl) (Cl.drew W5) ?_
  refine qs_el hx (.tmp 7) rfl rfl rfl ?_
  refine qs_el hy (.tmp 8) rfl rfl rfl ?_
  refine qs_to k0 rfl (fun w' => by go_simp) ?_
  go_simp
  refine qs_el hy (.tmp 8) rfl rfl rfl ?_
  refine qs_el hx (.tmp 7) rfl rfl rfl ?_
  refine qs_to k1 rfl (fun w' => by go_simp) ?_
  go_simp
  refine qs_to e0 rfl (fun w' => by go_simp) ?_
  go_simp
  refine qs_pure (.bool false) rfl (fun w' => by go_simp) ?_
  go_simp
  refine qs_pure (.bool false) rfl (fun w' => by go_simp) ?_
  go_simp
  refine qs_el hx (.tmp 7) rfl rfl rfl ?_
  refine qs_el hy (.tmp 8) rfl rfl rfl ?_
  refine qs_to k2 rfl (fun w' => by go_simp) ?_
  go_simp
  refine qs_el hy (.tmp 8) rfl rfl rfl ?_
  refine qs_el hx (.tmp 7) rfl rfl rfl ?_
  refine qs_to k3 rfl (fun w' => by go_simp) ?_
  go_simp
  refine qs_to e1 rfl (fun w' => by go_simp) ?_
  go_simp
  refine qs_pure (.bool false) rfl (fun w' => by go_simp) ?_
  go_simp
  refine qs_pure (.bool false) rfl (fun w' => by go_simp) ?_
  go_simp
  refine qs_pure (.bool false) rfl (fun w' => by go_simp) ?_
  go_simp
  refine qs_el hx (.tmp 7) rfl rfl rfl ?_
  refine qs_el hy (.tmp 8) rfl rfl rfl ?_
  refine qs_el hz (.tmp 9) rfl rfl rfl ?_
  refine qs_to k4 rfl (fun w' => by go_simp) ?_
  go_simp
  refine qs_to k5 rfl (fun w' => by go_simp) ?_
  go_simp
  refine qs_el hx (.tmp 7) rfl rfl rfl ?_
  refine qs_el hy (.tmp 8) rfl rfl rfl ?_
  refine qs_to k2 rfl (fun w' => by go_simp) ?_
  go_simp
  refine qs_el hx (.tmp 7) rfl rfl rfl ?_
  refine qs_el hz (.tmp 9) rfl rfl rfl ?_
  refine qs_to k6 rfl (fun w' => by go_simp) ?_
  go_simp
  refine qs_to k7 rfl (fun w' => by go_simp) ?_
  go_simp
  refine qs_to e2 rfl (fun w' => by go_simp) ?_
  go_simp
  refine qs_pure (.bool false) rfl (fun w' => by go_simp) ?_
  go_simp
  refine qs_pure (.bool false) rfl (fun w' => by go_simp) ?_
  go_simp
  refine qs_pure (.bool false) rfl (fun w' => by go_simp) ?_
  go_simp
  refine qs_el hx (.tmp 7) rfl rfl rfl ?_
  refine qs_el hy (.tmp 8) rfl rfl rfl ?_
  refine qs_to k2 rfl (fun w' => by go_simp) ?_
  go_simp
  refine qs_el hz (.tmp 9) rfl rfl rfl ?_
  refine qs_to k8 rfl (fun w' => by go_simp) ?_
  go_simp
  refine qs_el hx (.tmp 7) rfl rfl rfl ?_
  refine qs_el hy (.tmp 8) rfl rfl rfl ?_
  refine qs_el hz (.tmp 9) rfl rfl rfl ?_
  refine qs_to k9 rfl (fun w' => by go_simp) ?_
  go_simp
  refine qs_to k10 rfl (fun w' => by go_simp) ?_
  go_simp
  refine qs_to e3 rfl (fun w' => by go_simp) ?_
  go_simp
  refine qs_pure (.bool false) rfl (fun w' => by go_simp) ?_
  go_simp
  refine qs_pure (.bool false) rfl (fun w' => by go_simp) ?_
  go_simp
  refine wpQuiet_nil ?_
  intro w6 hb6
  replace hx := hx.next hb6
  replace hy := hy.next hb6
  replace hz := hz.next hb6
  replace hzero := hzero.next hb6
  replace hone := hone.next hb6
  replace hW1 := hW1.trans (Below.mono hb6 hW1.size)
  clear hb6
  go_wp2_with (fail)
  refine region_quiet_in (Cl w6) (by kernel_rfl) (by kernel_rfl) (Cl.drew w6) ?_
  refine qs_el hx (.tmp 7) rfl rfl rfl ?_
  refine qs_el hx (.tmp 7) rfl rfl rfl ?_
  refine qs_to k11 rfl (fun w' => by go_simp) ?_
  go_simp
  refine qs_to k12 rfl (fun w' => by go_simp) ?_
  go_simp
  refine qs_el hzero (.tmp 10) rfl rfl rfl ?_
  refine qs_to e4 rfl (fun w' => by go_simp) ?_
  go_simp
  refine qs_pure (.bool false) rfl (fun w' => by go_simp) ?_
  go_simp
  refine qs_pure (.bool false) rfl (fun w' => by go_simp) ?_
  go_simp
  refine qs_el hx (.tmp 7) rfl rfl rfl ?_
  refine qs_el hy (.tmp 8) rfl rfl rfl ?_
  refine qs_to k13 rfl (fun w' => by go_simp) ?_
  go_simp
  refine qs_el hx (.tmp 7) rfl rfl rfl ?_
  refine qs_el hy (.tmp 8) rfl rfl rfl ?_
  refine qs_to k14 rfl (fun w' => by go_simp) ?_
  go_simp
  refine qs_to k15 rfl (fun w' => by go_simp) ?_
  go_simp
  refine qs_to e5 rfl (fun w' => by go_simp) ?_
  go_simp
  refine qs_pure (.bool false) rfl (fun w' => by go_simp) ?_
  go_simp
  refine qs_pure (.bool false) rfl (fun w' => by go_simp) ?_
  go_simp
  refine qs_pure (.bool false) rfl (fun w' => by go_simp) ?_
  go_simp
  refine qs_el hx (.tmp 7) rfl rfl rfl ?_
  refine qs_el hone (.tmp 11) rfl rfl rfl ?_
  refine qs_to k16 rfl (fun w' => by go_simp) ?_
  go_simp
  refine qs_el hx (.tmp 7) rfl rfl rfl ?_
  refine qs_to e6 rfl (fun w' => by go_simp) ?_
  go_simp
  refine qs_pure (.bool false) rfl (fun w' => by go_simp) ?_
  go_simp
  refine qs_pure (.bool false) rfl (fun w' => by go_simp) ?_
  go_simp
  refine qs_pure (.bool false) rfl (fun w' => by go_simp) ?_
  go_simp
  refine qs_el hx (.tmp 7) rfl rfl rfl ?_
  refine qs_el hzero (.tmp 10) rfl rfl rfl ?_
  refine qs_to k17 rfl (fun w' => by go_simp) ?_
  go_simp
  refine qs_el hx (.tmp 7) rfl rfl rfl ?_
  refine qs_to e7 rfl (fun w' => by go_simp) ?_
  go_simp
  refine qs_pure (.bool false) rfl (fun w' => by go_simp) ?_
  go_simp
  refine qs_pure (.bool false) rfl (fun w' => by go_simp) ?_
  go_simp
  refine wpQuiet_nil ?_
  intro w7 hb7
  replace hx := hx.next hb7
  replace hy := hy.next hb7
  replace hzero := hzero.next hb7
  replace hW1 := hW1.trans (Below.mono hb7 hW1.size)
  clear hb7
  go_wp2_with (fail)
  refine region_quiet_in (Cl w7) (by kernel_rfl) (by kernel_rfl) (Cl.drew w7) ?_
  cases t
  · have ef := ei rfl
    clear ei
    refine qs_el hx (.tmp 7) rfl rfl rfl ?_
    refine qs_el hzero (.tmp 10) rfl rfl rfl ?_
    refine qs_to ez rfl (fun w' => by go_simp) ?_
    go_simp
    refine qs_pure (.bool false) rfl (fun w' => by go_simp) ?_
    go_simp
    refine qs_el hy (.tmp 8) rfl rfl rfl ?_
    refine qs_el hx (.tmp 7) rfl rfl rfl ?_
    refine qs_to k3 rfl (fun w' => by go_simp) ?_
    go_simp
    refine qs_el hx (.tmp 7) rfl rfl rfl ?_
    refine qs_to k18 rfl (fun w' => by go_simp) ?_
    go_simp
    refine qs_to k19 rfl (fun w' => by go_simp) ?_
    go_simp
    refine qs_el hy (.tmp 8) rfl rfl rfl ?_
    refine qs_to ef rfl (fun w' => by go_simp) ?_
    go_simp
    refine qs_pure (.bool true) rfl (fun w' => by go_simp) ?_
    go_simp
    refine qs_pure (.bool true) rfl (fun w' => by go_simp) ?_
    go_simp
    refine wpQuiet_nil ?_
    intro w8 hb8
    replace hW1 := hW1.trans (Below.mono hb8 hW1.size)
    go_wp2_with (fail)
    go_ret
    exact ⟨rfl, hW1⟩
  · clear ei
    refine r9_true (n := 117) rfl (by decide) rfl rfl hx hzero ez ?_
    go_simp
    intro w8 hb8
    replace hW1 := hW1.trans (Below.mono hb8 hW1.size)
    go_wp2_with (fail)
    go_ret
    exact ⟨rfl, hW1⟩
end Go.Proofs.Ytddjfhmkebhndaa
