/- Roots of elements. -/
import Derived.Test.YtddjfhmkebhndaaBx2
namespace Go.Proofs.Ytddjfhmkebhndaa
open Go.RowKit

def dblL (xs : List Int) : List Int := cy (plus xs xs)
def rbL (xs : List Int) : List Int := powL (dblL xs) (onesL 253 15) 256
def riL (xs : List Int) : List Int := mulL (mulL (dblL xs) (rbL xs)) (rbL xs)
def rtL (xs : List Int) : List Int := mulL (mulL xs (rbL xs)) (cy (minus (riL xs) (smallL 1)))
theorem dblL_el {xs : List Int} (h : El xs) : El (dblL xs) := (addL_el h h).1
theorem rbL_el {xs : List Int} (h : El xs) : El (rbL xs) := powL_el (dblL_el h) 256
theorem riL_el {xs : List Int} (h : El xs) : El (riL xs) := (mulL_el (mulL_el (dblL_el h) (rbL_el h)).1 (rbL_el h)).1
theorem one_el : El (smallL 1) := el_set (small_dg 1)
theorem rtL_el {xs : List Int} (h : El xs) : El (rtL xs) := (mulL_el (mulL_el h (rbL_el h)).1 (subL_el (riL_el h) one_el).1).1
theorem El.big {a : List Int} (h : El a) : Bd 100000000000000000 a := fun x hx => by have := h.bd x hx; omega
/-- Two results: a row in memory, and a slot. -/
theorem results_row2 {P : Program} {fn : Func} {p s : Tmp} {ty : TypeId} (h : fn.results = #[.cell p ty, .tmp s]) (tmps : Array Value) (w : World) (b o : Nat) (hp : tmps.getD p undef = .pointer (some ⟨b, o, none⟩)) (v : Value) (hs : tmps.getD s undef = v)
    (cs : List Value) (d : TypeDesc) (hc : w.rangeAt b o cs) (hu : P.underlying ty = some d) (hd : d.isRow = true) (hi : (P.info? ty).map (·.size) = some cs.length) :
    (results fn tmps).run P w = .ok (.tuple #[.agg cs.toArray, v]) w := by
  simp only [results, h]
  have hp2 : tmps[p]?.getD undef = .pointer (some ⟨b, o, none⟩) := by rw [← hp]; simp
  have hs2 : tmps[s]?.getD undef = v := by rw [← hs]; simp
  simp [hp2, hs2, asAddr, run_loadVar_mid w b o ty cs d hc hu hd hi]

theorem Bx.new (w : World) (l : List Int) (h : l.length = 16) : Bx (w.alloc (.cells (ints .i64 l).toArray 26)) w.heap.size l := ⟨Arr.made w .i64 l 26, h⟩
set_option maxRecDepth 4000 in
set_option maxHeartbeats 2000000 in
theorem root_core (xs dl os b t1 i t2 one t3 r rr ng : List Int) (w : World) (lx : xs.length = 16) (ld : dl.length = 16) (lb : b.length = 16) (li : i.length = 16) (lr : r.length = 16) (ln : ng.length = 16)
    (k18 : CallsTo 18 #[.agg (ints .i64 xs).toArray, .agg (ints .i64 xs).toArray] (.agg (ints .i64 dl).toArray)) (k39 : CallsTo 39 #[.int .u8 253, .int .u8 15] (.agg (ints .u8 os).toArray))
    (k25 : CallsTo 25 #[.agg (ints .i64 dl).toArray, .agg (ints .u8 os).toArray] (.agg (ints .i64 b).toArray)) (k22a : CallsTo 22 #[.agg (ints .i64 dl).toArray, .agg (ints .i64 b).toArray] (.agg (ints .i64 t1).toArray))
    (k22b : CallsTo 22 #[.agg (ints .i64 t1).toArray, .agg (ints .i64 b).toArray] (.agg (ints .i64 i).toArray)) (k22c : CallsTo 22 #[.agg (ints .i64 xs).toArray, .agg (ints .i64 b).toArray] (.agg (ints .i64 t2).toArray))
    (k16 : CallsTo 16 #[.int .i64 1] (.agg (ints .i64 one).toArray)) (k20 : CallsTo 20 #[.agg (ints .i64 i).toArray, .agg (ints .i64 one).toArray] (.agg (ints .i64 t3).toArray))
    (k22d : CallsTo 22 #[.agg (ints .i64 t2).toArray, .agg (ints .i64 t3).toArray] (.agg (ints .i64 r).toArray)) (k22e : CallsTo 22 #[.agg (ints .i64 r).toArray, .agg (ints .i64 r).toArray] (.agg (ints .i64 rr).toArray))
    (ok : Bool) (k14 : CallsTo 14 #[.agg (ints .i64 rr).toArray, .agg (ints .i64 xs).toArray] (.bool ok)) (odd : Bool) (k13 : CallsTo 13 #[.agg (ints .i64 r).toArray] (.bool odd)) (k24 : CallsTo 24 #[.agg (ints .i64 r).toArray] (.agg (ints .i64 ng).toArray)) :
    Calls Try.prog 30 #[.agg (ints .i64 xs).toArray] w fun e w' => e = .returned (if ok then (if odd then .tuple #[.agg (ints .i64 ng).toArray, .bool true] else .tuple #[.agg (ints .i64 r).toArray, .bool true]) else .tuple #[.agg (ints .i64 (zeros 16)).toArray, .bool false]) ∧ Below w.heap.size w w' := by
  obtain ⟨z26, s26⟩ := zero_of_info inf26
  have LX := hid lx
  have LD := hid ld
  have LB := hid lb
  have LI := hid li
  have LR := hid lr
  have LN := hid ln
  clear lx ld lb li lr ln
  have hX := (Bx.new w xs LX.out).next (below_new _ (.cells (ints .i64 (zeros 16)).toArray 26))
  have hR := Bx.new (w.alloc (.cells (ints .i64 xs).toArray 26)) (zeros 16) rfl
  have hW := (below_new w (.cells (ints .i64 xs).toArray 26)).alloc (by simp) (.cells (ints .i64 (zeros 16)).toArray 26)
  rw [World.size_alloc] at hR
  go_enter Try.func30, Try.ntmps30
  go_wp2_with (first
    | (with_reducible refine wpList_load_mid (op := ⟨some 8, .load 26 (.tmp 1), _, _, _, _⟩) rfl 26 (.tmp 1) rfl w.heap.size 0 rfl (ints .i64 xs) _ (hX.range) Try.underlying26 rfl (l26 LX.out) ?_)
    | (with_reducible refine wpList_load_mid (op := ⟨some 9, .load 26 (.tmp 1), _, _, _, _⟩) rfl 26 (.tmp 1) rfl w.heap.size 0 rfl (ints .i64 xs) _ (hX.range) Try.underlying26 rfl (l26 LX.out) ?_))
  generalize ((w.alloc (.cells (ints .i64 xs).toArray 26)).alloc (.cells (ints .i64 (zeros 16)).toArray 26)) = W at *
  refine (k18 _).mono ?_
  rintro e w1 ⟨rfl, hb1⟩
  replace hX := hX.next hb1
  replace hR := hR.next hb1
  replace hW := hW.trans (hb1.mono hW.size)
  clear hb1
  obtain ⟨hs, hD, hb⟩ := put_new w1 dl LD.out
  replace hX := hX.next hb
  replace hR := hR.next hb
  replace hW := hW.trans (hb.mono hW.size)
  clear hb
  obtain ⟨B4, hB4⟩ : ∃ B, B = w1.heap.size := ⟨_, rfl⟩
  go_wp2_with (first
    | (with_reducible refine wpList_store_mid (op := ⟨none, .store 26 (.tmp 4) (.tmp 10), _, _, _, _⟩) rfl 26 (.tmp 4) (.tmp 10) rfl w1.heap.size 0 (ints .i64 dl).toArray rfl rfl hs (a26 LD.out) (ints_all _ _) ?_; generalize ((w1.alloc (.cells (ints .i64 (zeros 16)).toArray 26)).setCells w1.heap.size 0 (ints .i64 dl).toArray.toList) = W2 at *))
  rw [← hB4] at hD ⊢
  clear hB4 hs
  refine region_float26 4 [(3, 5)] [0, 1, 2] (by kernel_rfl) (by kernel_rfl) (by kernel_rfl) ?_
  simp only [List.filterMap_cons, List.filterMap_nil, List.getElem?_cons_succ, List.getElem?_cons_zero]
  refine qc_el hD (.tmp 4) rfl rfl rfl ?_
  go_simp
  refine qc_to k39 rfl (fun w' => by go_simp) ?_
  go_simp
  refine qc_to k25 rfl (fun w' => by go_simp) ?_
  go_simp
  refine qc_nil ?_
  intro B w' hb hB hinj
  clear hinj
  simp only [List.drop_succ_cons, List.drop_zero, List.map_cons, List.map_nil, putAll, List.foldl_cons, List.foldl_nil]
  obtain ⟨hB1, hB2⟩ := hB (3, 5) (by simp)
  dsimp only at hB1 hB2
  obtain ⟨B5, hEq⟩ : ∃ b, b = B 5 := ⟨_, rfl⟩
  rw [← hEq] at hB1 hB2 ⊢
  clear hEq
  have hs := hB2.room (l' := b) LB.out
  have hN3 := hB2.stored (l' := b) LB.out
  have hne := hX.lt
  replace hX := (hX.next hb).past (b' := B5) (ints .i64 b).toArray.toList (by omega)
  clear hne
  have hne := hR.lt
  replace hR := (hR.next hb).past (b' := B5) (ints .i64 b).toArray.toList (by omega)
  clear hne
  have hne := hD.lt
  replace hD := (hD.next hb).past (b' := B5) (ints .i64 b).toArray.toList (by omega)
  clear hne
  replace hW := Below.setCells (hW.trans (Below.mono hb hW.size)) (g := B5) (by have := hW.size; omega) 0 (ints .i64 b).toArray.toList
  clear hb hB2 hB
  go_wp2_with (first
    | (with_reducible refine wpList_store_mid (op := ⟨none, .store 26 (.tmp 5) (.tmp 13), _, _, _, _⟩) rfl 26 (.tmp 5) (.tmp 13) rfl B5 0 (ints .i64 b).toArray rfl rfl hs (a26 LB.out) (ints_all _ _) ?_; generalize (w'.setCells B5 0 (ints .i64 b).toArray.toList) = W3 at *))
  clear hs hB1
  refine region_float26 6 [(5, 6)] [0, 1, 2, 3, 4] (by kernel_rfl) (by kernel_rfl) (by kernel_rfl) ?_
  simp only [List.filterMap_cons, List.filterMap_nil, List.getElem?_cons_succ, List.getElem?_cons_zero]
  refine qc_el hD (.tmp 4) rfl rfl rfl ?_
  go_simp
  refine qc_el hN3 (.tmp 5) rfl rfl rfl ?_
  go_simp
  refine qc_to k22a rfl (fun w' => by go_simp) ?_
  go_simp
  refine qc_el hN3 (.tmp 5) rfl rfl rfl ?_
  go_simp
  refine qc_to k22b rfl (fun w' => by go_simp) ?_
  go_simp
  refine qc_nil ?_
  intro B w' hb hB hinj
  clear hinj
  simp only [List.drop_succ_cons, List.drop_zero, List.map_cons, List.map_nil, putAll, List.foldl_cons, List.foldl_nil]
  obtain ⟨hB1, hB2⟩ := hB (5, 6) (by simp)
  dsimp only at hB1 hB2
  obtain ⟨B6, hEq⟩ : ∃ b, b = B 6 := ⟨_, rfl⟩
  rw [← hEq] at hB1 hB2 ⊢
  clear hEq
  have hs := hB2.room (l' := i) LI.out
  have hN4 := hB2.stored (l' := i) LI.out
  have hne := hX.lt
  replace hX := (hX.next hb).past (b' := B6) (ints .i64 i).toArray.toList (by omega)
  clear hne
  have hne := hR.lt
  replace hR := (hR.next hb).past (b' := B6) (ints .i64 i).toArray.toList (by omega)
  clear hne
  have hne := hD.lt
  replace hD := (hD.next hb).past (b' := B6) (ints .i64 i).toArray.toList (by omega)
  clear hne
  have hne := hN3.lt
  replace hN3 := (hN3.next hb).past (b' := B6) (ints .i64 i).toArray.toList (by omega)
  clear hne
  replace hW := Below.setCells (hW.trans (Below.mono hb hW.size)) (g := B6) (by have := hW.size; omega) 0 (ints .i64 i).toArray.toList
  clear hb hB2 hB
  go_wp2_with (first
    | (with_reducible refine wpList_store_mid (op := ⟨none, .store 26 (.tmp 6) (.tmp 18), _, _, _, _⟩) rfl 26 (.tmp 6) (.tmp 18) rfl B6 0 (ints .i64 i).toArray rfl rfl hs (a26 LI.out) (ints_all _ _) ?_; generalize (w'.setCells B6 0 (ints .i64 i).toArray.toList) = W4 at *))
  clear hs hB1
  refine region_float26 8 [(7, 7)] [0, 1, 2, 3, 4, 5, 6] (by kernel_rfl) (by kernel_rfl) (by kernel_rfl) ?_
  simp only [List.filterMap_cons, List.filterMap_nil, List.getElem?_cons_succ, List.getElem?_cons_zero]
  refine qc_el hX (.tmp 1) rfl rfl rfl ?_
  go_simp
  refine qc_el hN3 (.tmp 5) rfl rfl rfl ?_
  go_simp
  refine qc_to k22c rfl (fun w' => by go_simp) ?_
  go_simp
  refine qc_el hN4 (.tmp 6) rfl rfl rfl ?_
  go_simp
  refine qc_to k16 rfl (fun w' => by go_simp) ?_
  go_simp
  refine qc_to k20 rfl (fun w' => by go_simp) ?_
  go_simp
  refine qc_to k22d rfl (fun w' => by go_simp) ?_
  go_simp
  refine qc_nil ?_
  intro B w' hb hB hinj
  clear hinj
  simp only [List.drop_succ_cons, List.drop_zero, List.map_cons, List.map_nil, putAll, List.foldl_cons, List.foldl_nil]
  obtain ⟨hB1, hB2⟩ := hB (7, 7) (by simp)
  dsimp only at hB1 hB2
  obtain ⟨B7, hEq⟩ : ∃ b, b = B 7 := ⟨_, rfl⟩
  rw [← hEq] at hB1 hB2 ⊢
  clear hEq
  have hs := hB2.room (l' := r) LR.out
  have hN5 := hB2.stored (l' := r) LR.out
  have hne := hX.lt
  replace hX := (hX.next hb).past (b' := B7) (ints .i64 r).toArray.toList (by omega)
  clear hne
  have hne := hR.lt
  replace hR := (hR.next hb).past (b' := B7) (ints .i64 r).toArray.toList (by omega)
  clear hne
  have hne := hD.lt
  replace hD := (hD.next hb).past (b' := B7) (ints .i64 r).toArray.toList (by omega)
  clear hne
  have hne := hN3.lt
  replace hN3 := (hN3.next hb).past (b' := B7) (ints .i64 r).toArray.toList (by omega)
  clear hne
  have hne := hN4.lt
  replace hN4 := (hN4.next hb).past (b' := B7) (ints .i64 r).toArray.toList (by omega)
  clear hne
  replace hW := Below.setCells (hW.trans (Below.mono hb hW.size)) (g := B7) (by have := hW.size; omega) 0 (ints .i64 r).toArray.toList
  clear hb hB2 hB
  go_wp2_with (first
    | (with_reducible refine wpList_store_mid (op := ⟨none, .store 26 (.tmp 7) (.tmp 25), _, _, _, _⟩) rfl 26 (.tmp 7) (.tmp 25) rfl B7 0 (ints .i64 r).toArray rfl rfl hs (a26 LR.out) (ints_all _ _) ?_; generalize (w'.setCells B7 0 (ints .i64 r).toArray.toList) = W5 at *))
  clear hs hB1
  refine region_quiet_in (Cl W5) (by kernel_rfl) (by kernel_rfl) (Cl.drew W5) ?_
  refine qs_el hN5 (.tmp 7) rfl rfl rfl ?_
  refine qs_el hN5 (.tmp 7) rfl rfl rfl ?_
  refine qs_to k22e rfl (fun w' => by go_simp) ?_
  refine qs_el hX (.tmp 1) rfl rfl rfl ?_
  refine qs_to k14 rfl (fun w' => by go_simp) ?_
  refine qs_pure (.bool (!ok)) rfl (fun w' => by go_simp) ?_
  go_simp
  refine wpQuiet_nil ?_
  intro w6 hb6
  replace hX := hX.next hb6
  replace hR := hR.next hb6
  replace hN5 := hN5.next hb6
  replace hW := hW.trans (Below.mono hb6 hW.size)
  clear hb6 hD hN3 hN4
  have fin := fun (l : List Int) (hl : l.length = 16) => And.intro (hR.room (l' := l) hl) (hR.stored (l' := l) hl)
  cases ok
  · clear fin
    have hz : (zeros 16).length = 16 := rfl
    generalize hzz : zeros 16 = zz at *
    have HZ := hid hz
    have HZZ := hid hzz
    clear hz hzz
    have hs1 := hR.room (l' := zz) HZ.out
    have hR2 := hR.stored (l' := zz) HZ.out
    have hW2 := Below.setCells hW (g := w.heap.size + 1) (by omega) 0 (ints .i64 zz).toArray.toList
    go_wp2_with (first
      | (with_reducible refine wpList_store_mid (op := ⟨none, .store 26 (.tmp 2) (.tmp 32), _, _, _, _⟩) rfl 26 (.tmp 2) (.tmp 32) rfl (w.heap.size + 1) 0 (ints .i64 zz).toArray rfl rfl hs1 (a26 HZ.out) (ints_all _ _) ?_; generalize (w6.setCells (w.heap.size + 1) 0 (ints .i64 zz).toArray.toList) = W7 at *))
    refine bodyPost_ret (results_row2 rfl _ _ (w.heap.size + 1) 0 rfl (.bool false) rfl (ints .i64 zz) _ hR2.range Try.underlying26 rfl (l26 HZ.out)) rfl ⟨?_, hW2⟩
    rw [HZZ.out]
  · cases odd
    · obtain ⟨hs1, hR2⟩ := fin r LR.out
      have hW2 := Below.setCells hW (g := w.heap.size + 1) (by omega) 0 (ints .i64 r).toArray.toList
      clear fin
      go_wp2_with (first
        | (with_reducible refine wpList_load_mid (op := ⟨some 33, .load 26 (.tmp 7), _, _, _, _⟩) rfl 26 (.tmp 7) rfl B7 0 rfl (ints .i64 r) _ (hN5.range) Try.underlying26 rfl (l26 LR.out) ?_)
        | (go_at_call 13; refine (k13 _).mono ?_; rintro e w7 ⟨rfl, hb7⟩; replace hN5 := hN5.next hb7; replace hR := hR.next hb7; replace hW := hW.trans (hb7.mono hW.size); have hs7 := hR.room (l' := r) LR.out; have hR7 := hR.stored (l' := r) LR.out; have hW7 := Below.setCells hW (g := w.heap.size + 1) (by omega) 0 (ints .i64 r).toArray.toList)
        | (with_reducible refine wpList_load_mid (op := ⟨some 37, .load 26 (.tmp 7), _, _, _, _⟩) rfl 26 (.tmp 7) rfl B7 0 rfl (ints .i64 r) _ (hN5.range) Try.underlying26 rfl (l26 LR.out) ?_)
        | (with_reducible refine wpList_store_mid (op := ⟨none, .store 26 (.tmp 2) (.tmp 37), _, _, _, _⟩) rfl 26 (.tmp 2) (.tmp 37) rfl (w.heap.size + 1) 0 (ints .i64 r).toArray rfl rfl hs7 (a26 LR.out) (ints_all _ _) ?_))
      refine bodyPost_ret (results_row2 rfl _ _ (w.heap.size + 1) 0 rfl (.bool true) rfl (ints .i64 r) _ hR7.range Try.underlying26 rfl (l26 LR.out)) rfl ⟨rfl, hW7⟩
    · clear fin
      go_wp2_with (first
        | (with_reducible refine wpList_load_mid (op := ⟨some 33, .load 26 (.tmp 7), _, _, _, _⟩) rfl 26 (.tmp 7) rfl B7 0 rfl (ints .i64 r) _ (hN5.range) Try.underlying26 rfl (l26 LR.out) ?_)
        | (go_at_call 13; refine (k13 _).mono ?_; rintro e w7 ⟨rfl, hb7⟩; replace hN5 := hN5.next hb7; replace hR := hR.next hb7; replace hW := hW.trans (hb7.mono hW.size))
        | (with_reducible refine wpList_load_mid (op := ⟨some 35, .load 26 (.tmp 7), _, _, _, _⟩) rfl 26 (.tmp 7) rfl B7 0 rfl (ints .i64 r) _ (hN5.range) Try.underlying26 rfl (l26 LR.out) ?_)
        | (go_at_call 24; refine (k24 _).mono ?_; rintro e w8 ⟨rfl, hb8⟩; replace hR := hR.next hb8; replace hW := hW.trans (hb8.mono hW.size); have hs7 := hR.room (l' := ng) LN.out; have hR7 := hR.stored (l' := ng) LN.out; have hW7 := Below.setCells hW (g := w.heap.size + 1) (by omega) 0 (ints .i64 ng).toArray.toList)
        | (with_reducible refine wpList_store_mid (op := ⟨none, .store 26 (.tmp 2) (.tmp 36), _, _, _, _⟩) rfl 26 (.tmp 2) (.tmp 36) rfl (w.heap.size + 1) 0 (ints .i64 ng).toArray rfl rfl hs7 (a26 LN.out) (ints_all _ _) ?_))
      refine bodyPost_ret (results_row2 rfl _ _ (w.heap.size + 1) 0 rfl (.bool true) rfl (ints .i64 ng) _ hR7.range Try.underlying26 rfl (l26 LN.out)) rfl ⟨rfl, hW7⟩
def okL (xs : List Int) : Bool := decide (red (mulL (rtL xs) (rtL xs)) = red xs)
def oddL (xs : List Int) : Bool := (red (rtL xs)).getD 0 0 % 2 == 1
def ngL (xs : List Int) : List Int := cy (minus (zeros 16) (rtL xs))
theorem red_at {xs : List Int} (h : xs.length = 16) : Hid ((red xs)[0]? = some ((red xs).getD 0 0)) := hid (getD_some (by rw [red_length, h]; omega))
theorem root_any (xs : List Int) (w : World) (h : El xs) :
    Calls Try.prog 30 #[.agg (ints .i64 xs).toArray] w fun e w' => e = .returned (if okL xs then (if oddL xs then .tuple #[.agg (ints .i64 (ngL xs)).toArray, .bool true] else .tuple #[.agg (ints .i64 (rtL xs)).toArray, .bool true]) else .tuple #[.agg (ints .i64 (zeros 16)).toArray, .bool false]) ∧ Below w.heap.size w w' := by
  have hd := dblL_el h
  have hb := rbL_el h
  have ht1 := (mulL_el hd hb).1
  have hi := riL_el h
  have ht2 := (mulL_el h hb).1
  have ht3 := (subL_el hi one_el).1
  have hr := rtL_el h
  have hrr := (mulL_el hr hr).1
  have hng := (negL_el hr).1
  exact root_core xs (dblL xs) (onesL 253 15) (rbL xs) (mulL (dblL xs) (rbL xs)) (riL xs) (mulL xs (rbL xs)) (smallL 1) (cy (minus (riL xs) (smallL 1))) (rtL xs) (mulL (rtL xs) (rtL xs)) (ngL xs) w
    h.len hd.len hb.len hi.len hr.len hng.len
    (fun w => add_any xs xs w h.len h.len h.big h.big) (ones_any 253 15) (fun w => power_walk (dblL xs) (onesL 253 15) (rbL xs) w (hid rfl) hd (onesL_length _ _) (onesL_byt (by omega) (by omega)))
    (fun w => mul_any _ _ w hd.len hb.len hd.bd hb.bd) (fun w => mul_walk _ _ (riL xs) w (hid rfl) ht1.len hb.len ht1.bd hb.bd) (fun w => mul_any _ _ w h.len hb.len h.bd hb.bd)
    (small_any 1) (fun w => sub_any _ _ w hi.len one_el.len hi.big one_el.big) (fun w => mul_walk _ _ (rtL xs) w (hid rfl) ht2.len ht3.len ht2.bd ht3.bd) (fun w => mul_any _ _ w hr.len hr.len hr.bd hr.bd)
    (okL xs) (fun w => equal_any _ _ w hrr.len h.len hrr.big h.big) (oddL xs) (fun w => odd_any (rtL xs) _ w hr.len (fun x hx => by have := hr.bd x hx; omega) (red_at hr.len)) (fun w => neg_walk (rtL xs) (ngL xs) w (hid rfl) hr.len hr.big)
end Go.Proofs.Ytddjfhmkebhndaa
