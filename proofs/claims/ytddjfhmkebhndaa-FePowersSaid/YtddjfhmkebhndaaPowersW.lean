/- Powers, inverses and exchanges are the document's: the walk. -/
import Derived.Test.YtddjfhmkebhndaaSpec4
namespace Go.Proofs.Ytddjfhmkebhndaa
open Go.RowKit

section
variable {P : Program} {ops : Array Oper} {md : Region.Mode} {Q : Exit → Act → World → Prop}
theorem any1 {f i : Nat} {listed : Array Bool} {a : Act} {w : World} (hr : Region.ready md ops listed = [i]) (h : wpOp P ops Q i (wpAny P md ops Q f (listed.setIfInBounds i true)) a w) : wpAny P md ops Q (f + 1) listed a w :=
  ⟨fun h0 => (by rw [hr] at h0; cases h0), fun j hj => by
    rw [hr] at hj
    have : j = i := by simpa using hj
    subst this; exact h⟩
theorem any2 {f i k : Nat} {listed : Array Bool} {a : Act} {w : World} (hr : Region.ready md ops listed = [i, k]) (h : wpOp P ops Q i (wpAny P md ops Q f (listed.setIfInBounds i true)) a w) (h2 : wpOp P ops Q k (wpAny P md ops Q f (listed.setIfInBounds k true)) a w) : wpAny P md ops Q (f + 1) listed a w :=
  ⟨fun h0 => (by rw [hr] at h0; cases h0), fun j hj => by
    rw [hr] at hj
    have : j = i ∨ j = k := by simpa using hj
    rcases this with e | e
    · subst e; exact h
    · subst e; exact h2⟩
theorem any0 {listed : Array Bool} {a : Act} {w : World} (hr : Region.ready md ops listed = []) (h : Q .normal a w) : wpAny P md ops Q 0 listed a w := ⟨hr, h⟩
theorem op_val {i : Nat} {o : Oper} {K : Act → World → Prop} {a : Act} {w : World} (ho : ops[i]? = some o) (hg : o.guard = none) {v : Value} (hr : (execOp a.eval o).run P w = .ok (.value v) w) (h : K (a.put o.dst v) w) : wpOp P ops Q i K a w := by
  unfold wpOp
  simp only [ho]
  rw [if_pos (by simp [Region.wanted, hg])]
  left
  unfold Oper.wp
  rw [hr]; exact h
theorem op_store {i : Nat} {o : Oper} {K : Act → World → Prop} {a : Act} {w : World} (ho : ops[i]? = some o) (hg : o.guard = none) (ty : TypeId) (x y : Operand) (hop : o.op = .store ty x y) (b : Nat) (cells : Array Value) (hx : a.eval x = .pointer (some ⟨b, 0, none⟩)) (hy : a.eval y = .agg cells)
    (ht : w.there b 0 cells.size) (hi : (P.info? ty).map (·.size) = some cells.size) (h1 : cells.all (·.oneCell') = true) (h : K (a.put o.dst undef) (w.setCells b 0 cells.toList)) : wpOp P ops Q i K a w := by
  unfold wpOp
  simp only [ho]
  rw [if_pos (by simp [Region.wanted, hg])]
  exact .inl (wp_store_mid ty x y hop b 0 cells hx hy ht hi h1 h)
end
/-- Two results, both rows in memory. -/
theorem results_rows {P : Program} {fn : Func} {p s : Tmp} {ty : TypeId} (h : fn.results = #[.cell p ty, .cell s ty]) (tmps : Array Value) (w : World) (b c : Nat) (hp : tmps.getD p undef = .pointer (some ⟨b, 0, none⟩)) (hs : tmps.getD s undef = .pointer (some ⟨c, 0, none⟩))
    (cs ds : List Value) (d : TypeDesc) (hc : w.rangeAt b 0 cs) (hc2 : w.rangeAt c 0 ds) (hu : P.underlying ty = some d) (hd : d.isRow = true) (hi : (P.info? ty).map (·.size) = some cs.length) (hi2 : (P.info? ty).map (·.size) = some ds.length) :
    (results fn tmps).run P w = .ok (.tuple #[.agg cs.toArray, .agg ds.toArray]) w := by
  simp only [results, h]
  have hp2 : tmps[p]?.getD undef = .pointer (some ⟨b, 0, none⟩) := by rw [← hp]; simp
  have hs2 : tmps[s]?.getD undef = .pointer (some ⟨c, 0, none⟩) := by rw [← hs]; simp
  simp [hp2, hs2, asAddr, run_loadVar_mid w b 0 ty cs d hc hu hd hi, run_loadVar_mid w c 0 ty ds d hc2 hu hd hi2]
set_option maxRecDepth 4000 in
set_option maxHeartbeats 1000000 in
theorem swap_core (xs ys S T : List Int) (sw : Bool) (M : Int) (w : World) (lx : xs.length = 16) (ly : ys.length = 16) (lS : S.length = 16) (lT : T.length = 16) (hm : M = if sw then -1 else 0)
    (hS : ∀ (k : Nat) (x y : Int), xs[k]? = some x → ys[k]? = some y → S[k]? = some (bits .xor .i64 x (bits .and .i64 M (bits .xor .i64 x y))) ∧ T[k]? = some (bits .xor .i64 y (bits .and .i64 M (bits .xor .i64 x y)))) :
    Calls Try.prog 29 #[.agg (ints .i64 xs).toArray, .agg (ints .i64 ys).toArray, .bool sw] w fun e w' => e = .returned (.tuple #[.agg (ints .i64 S).toArray, .agg (ints .i64 T).toArray]) ∧ Below w.heap.size w w' := by
  obtain ⟨z26, s26⟩ := zero_of_info inf26
  have LX := hid lx
  have LY := hid ly
  have LS := hid lS
  have LT := hid lT
  have HS := hid hS
  have HXL : Hid (S.length = xs.length) := hid (by rw [lS, lx])
  have HYL : Hid (T.length = ys.length) := hid (by rw [lT, ly])
  clear lx ly lS lT hS
  have hA := (((Arr.made w .i64 xs 26).alloc (.cells (ints .i64 ys).toArray 26)).alloc (.cells (ints .i64 (zeros 16)).toArray 26)).alloc (.cells (ints .i64 (zeros 16)).toArray 26)
  have hB := ((Arr.made (w.alloc (.cells (ints .i64 xs).toArray 26)) .i64 ys 26).alloc (.cells (ints .i64 (zeros 16)).toArray 26)).alloc (.cells (ints .i64 (zeros 16)).toArray 26)
  have hR := (Arr.made ((w.alloc (.cells (ints .i64 xs).toArray 26)).alloc (.cells (ints .i64 ys).toArray 26)) .i64 (zeros 16) 26).alloc (.cells (ints .i64 (zeros 16)).toArray 26)
  have hR2 := Arr.made (((w.alloc (.cells (ints .i64 xs).toArray 26)).alloc (.cells (ints .i64 ys).toArray 26)).alloc (.cells (ints .i64 (zeros 16)).toArray 26)) .i64 (zeros 16) 26
  have hW := (((below_new w (.cells (ints .i64 xs).toArray 26)).alloc (by simp) (.cells (ints .i64 ys).toArray 26)).alloc (by simp; omega) (.cells (ints .i64 (zeros 16)).toArray 26)).alloc (by simp; omega) (.cells (ints .i64 (zeros 16)).toArray 26)
  rw [World.size_alloc] at hB
  rw [World.size_alloc, World.size_alloc] at hR
  rw [World.size_alloc, World.size_alloc, World.size_alloc] at hR2
  have HZ : Hid (xs = mixK S xs 0) := hid (mixK_zero _ _).symm
  have HZ2 : Hid (ys = mixK T ys 0) := hid (mixK_zero _ _).symm
  cases sw
  · obtain rfl : M = 0 := hm
    go_enter Try.func29, Try.ntmps29
    go_wp2
    generalize ((((w.alloc (.cells (ints .i64 xs).toArray 26)).alloc (.cells (ints .i64 ys).toArray 26)).alloc (.cells (ints .i64 (zeros 16)).toArray 26)).alloc (.cells (ints .i64 (zeros 16)).toArray 26)) = W0 at *
    go_loopw [12] (fun i wr => ∃ k : Nat, k ≤ 16 ∧ i = .int .i64 k ∧ Arr wr (w.heap.size + 1 + 1) 0 .i64 (zeros 16) ∧ Arr wr (w.heap.size + 1 + 1 + 1) 0 .i64 (zeros 16) ∧ Arr wr w.heap.size 0 .i64 (mixK S xs k) ∧ Arr wr (w.heap.size + 1) 0 .i64 (mixK T ys k) ∧ Below w.heap.size w wr) (fun i _ => 16 - (intOf i).toNat)
    case atStart => exact ⟨0, by omega, rfl, hR, hR2, by rw [← HZ.out]; exact hA, by rw [← HZ2.out]; exact hB, hW⟩
    case round =>
      clear hA hB hR hR2 hW
      obtain ⟨k, hk, rfl, hR, hR2, hA, hB, hW⟩ := hrel
      rename World => W1
      by_cases hlt : k < 16
      · have HX : Hid (xs[k]? = some (xs.getD k 0)) := hid (getD_some (by rw [LX.out]; exact hlt))
        have HY : Hid (ys[k]? = some (ys.getD k 0)) := hid (getD_some (by rw [LY.out]; exact hlt))
        generalize xs.getD k 0 = x at *
        generalize ys.getD k 0 = y at *
        have HMX : Hid ((mixK S xs k)[k]? = some x) := hid (by rw [mixK_at HXL.out (by rw [LX.out]; exact hlt)]; exact HX.out)
        have HMY : Hid ((mixK T ys k)[k]? = some y) := hid (by rw [mixK_at HYL.out (by rw [LY.out]; exact hlt)]; exact HY.out)
        have cx := hA.at_ HMX.out
        have fx := hA.free (i := k) (List.getElem?_eq_some_iff.1 HMX.out).1
        have cy := hB.at_ HMY.out
        have fy := hB.free (i := k) (List.getElem?_eq_some_iff.1 HMY.out).1
        rw [Nat.zero_add] at cx fx cy fy
        obtain ⟨h1, h2⟩ := HS.out k x y HX.out HY.out
        obtain ⟨d, hd⟩ : ∃ d, bits .and .i64 0 (bits .xor .i64 x y) = d := ⟨_, rfl⟩
        rw [hd] at h1 h2
        obtain ⟨u, hu⟩ : ∃ u, bits .xor .i64 x d = u := ⟨_, rfl⟩
        obtain ⟨v, hv⟩ : ∃ v, bits .xor .i64 y d = v := ⟨_, rfl⟩
        rw [hu] at h1
        rw [hv] at h2
        have H1 := hid h1
        have H2 := hid h2
        obtain ⟨q, hq⟩ : ∃ q, bits .xor .i64 x y = q := ⟨_, rfl⟩
        rw [hq] at hd
        have hwk : IntKind.i64.wrap ((k : Int) + 1) = (k : Int) + 1 := IntWalk.i64_in _ (by omega)
        have k0 : (0 : Int) ≤ k := by omega
        have k16 : (k : Int) < 16 := by omega
        clear h1 h2
        go_wp2
        go_quiet (fail)
        replace hA : Arr (W1.drewN nq) w.heap.size 0 .i64 (mixK S xs k) := hA
        replace hB : Arr (W1.drewN nq) (w.heap.size + 1) 0 .i64 (mixK T ys k) := hB
        replace hR : Arr (W1.drewN nq) (w.heap.size + 1 + 1) 0 .i64 (zeros 16) := hR
        replace hR2 : Arr (W1.drewN nq) (w.heap.size + 1 + 1 + 1) 0 .i64 (zeros 16) := hR2
        replace hW := below_drewN hW nq
        replace cx : (W1.drewN nq).cell? _ = _ := cx
        replace cy : (W1.drewN nq).cell? _ = _ := cy
        replace fx : (W1.drewN nq).frozen? _ = _ := fx
        replace fy : (W1.drewN nq).frozen? _ = _ := fy
        generalize W1.drewN nq = W3 at *
        have hA1 := (hA.set k u).apart (p := ⟨w.heap.size + 1, k, none⟩) (.int .i64 v) (.inl (by show w.heap.size + 1 ≠ w.heap.size; omega))
        have hB1 := (hB.apart (p := ⟨w.heap.size, k, none⟩) (.int .i64 u) (.inl (by show w.heap.size ≠ w.heap.size + 1; omega))).set k v
        rw [Nat.zero_add, mixK_set HXL.out H1.out] at hA1
        rw [Nat.zero_add, mixK_set HYL.out H2.out] at hB1
        have hR3 := (hR.apart (p := ⟨w.heap.size, k, none⟩) (.int .i64 u) (.inl (by show w.heap.size ≠ w.heap.size + 1 + 1; omega))).apart (p := ⟨w.heap.size + 1, k, none⟩) (.int .i64 v) (.inl (by show w.heap.size + 1 ≠ w.heap.size + 1 + 1; omega))
        have hR4 := (hR2.apart (p := ⟨w.heap.size, k, none⟩) (.int .i64 u) (.inl (by show w.heap.size ≠ w.heap.size + 1 + 1 + 1; omega))).apart (p := ⟨w.heap.size + 1, k, none⟩) (.int .i64 v) (.inl (by show w.heap.size + 1 ≠ w.heap.size + 1 + 1 + 1; omega))
        have hW1 := (hW.setCell (p := ⟨w.heap.size, k, none⟩) (by show w.heap.size ≤ w.heap.size; omega) (.int .i64 u)).setCell (p := ⟨w.heap.size + 1, k, none⟩) (by show w.heap.size ≤ w.heap.size + 1; omega) (.int .i64 v)
        clear hA hB hR hR2 hW
        go_wp2
        go_roundw
        case rel => exact ⟨k + 1, by omega, by go_num, hR3, hR4, hA1, hB1, hW1⟩
        case measure => simp [intOf]; omega
      · have e : k = 16 := by omega
        subst e
        have HE : Hid (mixK S xs 16 = S) := hid (by have h := mixK_end S xs HXL.out; rw [LX.out] at h; exact h)
        have HE2 : Hid (mixK T ys 16 = T) := hid (by have h := mixK_end T ys HYL.out; rw [LY.out] at h; exact h)
        rw [HE.out] at hA
        rw [HE2.out] at hB
        have bA : Bx W1 w.heap.size S := ⟨hA, LS.out⟩
        have bB : Bx W1 (w.heap.size + 1) T := ⟨hB, LT.out⟩
        go_wp2_with (fail)
        have bA' : Bx W1.drew w.heap.size S := bA
        have bB' : Bx W1.drew (w.heap.size + 1) T := bB
        have r6 : W1.drew.there (w.heap.size + 1 + 1) 0 (ints .i64 S).toArray.size := hR.drew.room (by rw [zeros_len]; exact LS.out)
        have x6 := hR.drew.stored (l' := S) (by rw [zeros_len]; exact LS.out)
        have y6 := hR2.drew.past (b' := w.heap.size + 1 + 1) (o' := 0) (ints .i64 S).toArray.toList (.inl (by omega))
        have r7 := y6.room (l' := T) (k' := .i64) (by rw [zeros_len]; exact LT.out)
        have x7 := y6.stored (l' := T) (by rw [zeros_len]; exact LT.out)
        have x6' := x6.past (b' := w.heap.size + 1 + 1 + 1) (o' := 0) (ints .i64 T).toArray.toList (.inl (by omega))
        have bB2 := bB'.past (b' := w.heap.size + 1 + 1) (ints .i64 S).toArray.toList (by omega)
        have hW2 := Below.setCells (Below.setCells hW.drew (g := w.heap.size + 1 + 1) (by omega) 0 (ints .i64 S).toArray.toList) (g := w.heap.size + 1 + 1 + 1) (by omega) 0 (ints .i64 T).toArray.toList
        have e0 : ∀ ev : Operand → Value, ev (.tmp 3) = .pointer (some ⟨w.heap.size, 0, none⟩) → ∀ (o : Oper), o.op = .load 26 (.tmp 3) → (execOp ev o).run Try.prog W1.drew = .ok (.value (.agg (ints .i64 S).toArray)) W1.drew := fun ev h o ho => ex_load 26 (.tmp 3) ho w.heap.size 0 h (ints .i64 S) _ bA'.range Try.underlying26 rfl (l26 LS.out)
        have e1 : ∀ ev : Operand → Value, ev (.tmp 4) = .pointer (some ⟨w.heap.size + 1, 0, none⟩) → ∀ (o : Oper), o.op = .load 26 (.tmp 4) → (execOp ev o).run Try.prog W1.drew = .ok (.value (.agg (ints .i64 T).toArray)) W1.drew := fun ev h o ho => ex_load 26 (.tmp 4) ho (w.heap.size + 1) 0 h (ints .i64 T) _ bB'.range Try.underlying26 rfl (l26 LT.out)
        have e2 : ∀ ev : Operand → Value, ev (.tmp 4) = .pointer (some ⟨w.heap.size + 1, 0, none⟩) → ∀ (o : Oper), o.op = .load 26 (.tmp 4) → (execOp ev o).run Try.prog (W1.drew.setCells (w.heap.size + 1 + 1) 0 (ints .i64 S).toArray.toList) = .ok (.value (.agg (ints .i64 T).toArray)) (W1.drew.setCells (w.heap.size + 1 + 1) 0 (ints .i64 S).toArray.toList) := fun ev h o ho => ex_load 26 (.tmp 4) ho (w.heap.size + 1) 0 h (ints .i64 T) _ bB2.range Try.underlying26 rfl (l26 LT.out)
        refine wp_region_any (by kernel_rfl) ?_
        change wpAny _ _ _ _ 4 _ _ W1.drew
        generalize W1.drew = w2 at *
        refine any2 (i := 0) (k := 1) (by kernel_rfl) ?_ ?_
        · refine op_val (o := ⟨some 43, .load 26 (.tmp 3), _, _, _, _⟩) rfl rfl (e0 _ rfl _ rfl) ?_
          simp only [Act.put, List.setIfInBounds_toArray, List.set_cons_succ, List.set_cons_zero]
          refine any2 (i := 1) (k := 2) (by kernel_rfl) ?_ ?_
          · refine op_val (o := ⟨some 44, .load 26 (.tmp 4), _, _, _, _⟩) rfl rfl (e1 _ rfl _ rfl) ?_
            simp only [Act.put, List.setIfInBounds_toArray, List.set_cons_succ, List.set_cons_zero]
            refine any1 (i := 2) (by kernel_rfl) (op_store (o := ⟨none, .store 26 (.tmp 6) (.tmp 43), _, _, _, _⟩) rfl rfl 26 (.tmp 6) (.tmp 43) rfl (w.heap.size + 1 + 1) (ints .i64 S).toArray rfl rfl r6 (a26 LS.out) (ints_all _ _) ?_)
            simp only [Act.put]
            refine any1 (i := 3) (by kernel_rfl) (op_store (o := ⟨none, .store 26 (.tmp 7) (.tmp 44), _, _, _, _⟩) rfl rfl 26 (.tmp 7) (.tmp 44) rfl (w.heap.size + 1 + 1 + 1) (ints .i64 T).toArray rfl rfl r7 (a26 LT.out) (ints_all _ _) ?_)
            simp only [Act.put]
            refine any0 (by kernel_rfl) ?_
            generalize (w2.setCells (w.heap.size + 1 + 1) 0 (ints .i64 S).toArray.toList).setCells (w.heap.size + 1 + 1 + 1) 0 (ints .i64 T).toArray.toList = w3 at *
            clear hA hB hR hR2 x6 y6 r6 r7 e0 e1 e2 bA bB bA' bB' bB2
            go_wp2_with (fail)
            exact bodyPost_ret (results_rows rfl _ _ (w.heap.size + 1 + 1) (w.heap.size + 1 + 1 + 1) rfl rfl (ints .i64 S) (ints .i64 T) _ x6'.range x7.range Try.underlying26 rfl (l26 LS.out) (l26 LT.out)) rfl ⟨rfl, hW2⟩
          · refine op_store (o := ⟨none, .store 26 (.tmp 6) (.tmp 43), _, _, _, _⟩) rfl rfl 26 (.tmp 6) (.tmp 43) rfl (w.heap.size + 1 + 1) (ints .i64 S).toArray rfl rfl r6 (a26 LS.out) (ints_all _ _) ?_
            simp only [Act.put]
            refine any1 (i := 1) (by kernel_rfl) (op_val (o := ⟨some 44, .load 26 (.tmp 4), _, _, _, _⟩) rfl rfl (e2 _ rfl _ rfl) ?_)
            simp only [Act.put, List.setIfInBounds_toArray, List.set_cons_succ, List.set_cons_zero]
            refine any1 (i := 3) (by kernel_rfl) (op_store (o := ⟨none, .store 26 (.tmp 7) (.tmp 44), _, _, _, _⟩) rfl rfl 26 (.tmp 7) (.tmp 44) rfl (w.heap.size + 1 + 1 + 1) (ints .i64 T).toArray rfl rfl r7 (a26 LT.out) (ints_all _ _) ?_)
            simp only [Act.put]
            refine any0 (by kernel_rfl) ?_
            generalize (w2.setCells (w.heap.size + 1 + 1) 0 (ints .i64 S).toArray.toList).setCells (w.heap.size + 1 + 1 + 1) 0 (ints .i64 T).toArray.toList = w3 at *
            clear hA hB hR hR2 x6 y6 r6 r7 e0 e1 e2 bA bB bA' bB' bB2
            go_wp2_with (fail)
            exact bodyPost_ret (results_rows rfl _ _ (w.heap.size + 1 + 1) (w.heap.size + 1 + 1 + 1) rfl rfl (ints .i64 S) (ints .i64 T) _ x6'.range x7.range Try.underlying26 rfl (l26 LS.out) (l26 LT.out)) rfl ⟨rfl, hW2⟩
        · refine op_val (o := ⟨some 44, .load 26 (.tmp 4), _, _, _, _⟩) rfl rfl (e1 _ rfl _ rfl) ?_
          simp only [Act.put, List.setIfInBounds_toArray, List.set_cons_succ, List.set_cons_zero]
          refine any1 (i := 0) (by kernel_rfl) (op_val (o := ⟨some 43, .load 26 (.tmp 3), _, _, _, _⟩) rfl rfl (e0 _ rfl _ rfl) ?_)
          simp only [Act.put, List.setIfInBounds_toArray, List.set_cons_succ, List.set_cons_zero]
          refine any1 (i := 2) (by kernel_rfl) (op_store (o := ⟨none, .store 26 (.tmp 6) (.tmp 43), _, _, _, _⟩) rfl rfl 26 (.tmp 6) (.tmp 43) rfl (w.heap.size + 1 + 1) (ints .i64 S).toArray rfl rfl r6 (a26 LS.out) (ints_all _ _) ?_)
          simp only [Act.put]
          refine any1 (i := 3) (by kernel_rfl) (op_store (o := ⟨none, .store 26 (.tmp 7) (.tmp 44), _, _, _, _⟩) rfl rfl 26 (.tmp 7) (.tmp 44) rfl (w.heap.size + 1 + 1 + 1) (ints .i64 T).toArray rfl rfl r7 (a26 LT.out) (ints_all _ _) ?_)
          simp only [Act.put]
          refine any0 (by kernel_rfl) ?_
          generalize (w2.setCells (w.heap.size + 1 + 1) 0 (ints .i64 S).toArray.toList).setCells (w.heap.size + 1 + 1 + 1) 0 (ints .i64 T).toArray.toList = w3 at *
          clear hA hB hR hR2 x6 y6 r6 r7 e0 e1 e2 bA bB bA' bB' bB2
          go_wp2_with (fail)
          exact bodyPost_ret (results_rows rfl _ _ (w.heap.size + 1 + 1) (w.heap.size + 1 + 1 + 1) rfl rfl (ints .i64 S) (ints .i64 T) _ x6'.range x7.range Try.underlying26 rfl (l26 LS.out) (l26 LT.out)) rfl ⟨rfl, hW2⟩
  · obtain rfl : M = (-1) := hm
    go_enter Try.func29, Try.ntmps29
    go_wp2
    generalize ((((w.alloc (.cells (ints .i64 xs).toArray 26)).alloc (.cells (ints .i64 ys).toArray 26)).alloc (.cells (ints .i64 (zeros 16)).toArray 26)).alloc (.cells (ints .i64 (zeros 16)).toArray 26)) = W0 at *
    go_loopw [12] (fun i wr => ∃ k : Nat, k ≤ 16 ∧ i = .int .i64 k ∧ Arr wr (w.heap.size + 1 + 1) 0 .i64 (zeros 16) ∧ Arr wr (w.heap.size + 1 + 1 + 1) 0 .i64 (zeros 16) ∧ Arr wr w.heap.size 0 .i64 (mixK S xs k) ∧ Arr wr (w.heap.size + 1) 0 .i64 (mixK T ys k) ∧ Below w.heap.size w wr) (fun i _ => 16 - (intOf i).toNat)
    case atStart => exact ⟨0, by omega, rfl, hR, hR2, by rw [← HZ.out]; exact hA, by rw [← HZ2.out]; exact hB, hW⟩
    case round =>
      clear hA hB hR hR2 hW
      obtain ⟨k, hk, rfl, hR, hR2, hA, hB, hW⟩ := hrel
      rename World => W1
      by_cases hlt : k < 16
      · have HX : Hid (xs[k]? = some (xs.getD k 0)) := hid (getD_some (by rw [LX.out]; exact hlt))
        have HY : Hid (ys[k]? = some (ys.getD k 0)) := hid (getD_some (by rw [LY.out]; exact hlt))
        generalize xs.getD k 0 = x at *
        generalize ys.getD k 0 = y at *
        have HMX : Hid ((mixK S xs k)[k]? = some x) := hid (by rw [mixK_at HXL.out (by rw [LX.out]; exact hlt)]; exact HX.out)
        have HMY : Hid ((mixK T ys k)[k]? = some y) := hid (by rw [mixK_at HYL.out (by rw [LY.out]; exact hlt)]; exact HY.out)
        have cx := hA.at_ HMX.out
        have fx := hA.free (i := k) (List.getElem?_eq_some_iff.1 HMX.out).1
        have cy := hB.at_ HMY.out
        have fy := hB.free (i := k) (List.getElem?_eq_some_iff.1 HMY.out).1
        rw [Nat.zero_add] at cx fx cy fy
        obtain ⟨h1, h2⟩ := HS.out k x y HX.out HY.out
        obtain ⟨d, hd⟩ : ∃ d, bits .and .i64 (-1) (bits .xor .i64 x y) = d := ⟨_, rfl⟩
        rw [hd] at h1 h2
        obtain ⟨u, hu⟩ : ∃ u, bits .xor .i64 x d = u := ⟨_, rfl⟩
        obtain ⟨v, hv⟩ : ∃ v, bits .xor .i64 y d = v := ⟨_, rfl⟩
        rw [hu] at h1
        rw [hv] at h2
        have H1 := hid h1
        have H2 := hid h2
        obtain ⟨q, hq⟩ : ∃ q, bits .xor .i64 x y = q := ⟨_, rfl⟩
        rw [hq] at hd
        have hwk : IntKind.i64.wrap ((k : Int) + 1) = (k : Int) + 1 := IntWalk.i64_in _ (by omega)
        have k0 : (0 : Int) ≤ k := by omega
        have k16 : (k : Int) < 16 := by omega
        clear h1 h2
        go_wp2
        go_quiet (fail)
        replace hA : Arr (W1.drewN nq) w.heap.size 0 .i64 (mixK S xs k) := hA
        replace hB : Arr (W1.drewN nq) (w.heap.size + 1) 0 .i64 (mixK T ys k) := hB
        replace hR : Arr (W1.drewN nq) (w.heap.size + 1 + 1) 0 .i64 (zeros 16) := hR
        replace hR2 : Arr (W1.drewN nq) (w.heap.size + 1 + 1 + 1) 0 .i64 (zeros 16) := hR2
        replace hW := below_drewN hW nq
        replace cx : (W1.drewN nq).cell? _ = _ := cx
        replace cy : (W1.drewN nq).cell? _ = _ := cy
        replace fx : (W1.drewN nq).frozen? _ = _ := fx
        replace fy : (W1.drewN nq).frozen? _ = _ := fy
        generalize W1.drewN nq = W3 at *
        have hA1 := (hA.set k u).apart (p := ⟨w.heap.size + 1, k, none⟩) (.int .i64 v) (.inl (by show w.heap.size + 1 ≠ w.heap.size; omega))
        have hB1 := (hB.apart (p := ⟨w.heap.size, k, none⟩) (.int .i64 u) (.inl (by show w.heap.size ≠ w.heap.size + 1; omega))).set k v
        rw [Nat.zero_add, mixK_set HXL.out H1.out] at hA1
        rw [Nat.zero_add, mixK_set HYL.out H2.out] at hB1
        have hR3 := (hR.apart (p := ⟨w.heap.size, k, none⟩) (.int .i64 u) (.inl (by show w.heap.size ≠ w.heap.size + 1 + 1; omega))).apart (p := ⟨w.heap.size + 1, k, none⟩) (.int .i64 v) (.inl (by show w.heap.size + 1 ≠ w.heap.size + 1 + 1; omega))
        have hR4 := (hR2.apart (p := ⟨w.heap.size, k, none⟩) (.int .i64 u) (.inl (by show w.heap.size ≠ w.heap.size + 1 + 1 + 1; omega))).apart (p := ⟨w.heap.size + 1, k, none⟩) (.int .i64 v) (.inl (by show w.heap.size + 1 ≠ w.heap.size + 1 + 1 + 1; omega))
        have hW1 := (hW.setCell (p := ⟨w.heap.size, k, none⟩) (by show w.heap.size ≤ w.heap.size; omega) (.int .i64 u)).setCell (p := ⟨w.heap.size + 1, k, none⟩) (by show w.heap.size ≤ w.heap.size + 1; omega) (.int .i64 v)
        clear hA hB hR hR2 hW
        go_wp2
        go_roundw
        case rel => exact ⟨k + 1, by omega, by go_num, hR3, hR4, hA1, hB1, hW1⟩
        case measure => simp [intOf]; omega
      · have e : k = 16 := by omega
        subst e
        have HE : Hid (mixK S xs 16 = S) := hid (by have h := mixK_end S xs HXL.out; rw [LX.out] at h; exact h)
        have HE2 : Hid (mixK T ys 16 = T) := hid (by have h := mixK_end T ys HYL.out; rw [LY.out] at h; exact h)
        rw [HE.out] at hA
        rw [HE2.out] at hB
        have bA : Bx W1 w.heap.size S := ⟨hA, LS.out⟩
        have bB : Bx W1 (w.heap.size + 1) T := ⟨hB, LT.out⟩
        go_wp2_with (fail)
        have bA' : Bx W1.drew w.heap.size S := bA
        have bB' : Bx W1.drew (w.heap.size + 1) T := bB
        have r6 : W1.drew.there (w.heap.size + 1 + 1) 0 (ints .i64 S).toArray.size := hR.drew.room (by rw [zeros_len]; exact LS.out)
        have x6 := hR.drew.stored (l' := S) (by rw [zeros_len]; exact LS.out)
        have y6 := hR2.drew.past (b' := w.heap.size + 1 + 1) (o' := 0) (ints .i64 S).toArray.toList (.inl (by omega))
        have r7 := y6.room (l' := T) (k' := .i64) (by rw [zeros_len]; exact LT.out)
        have x7 := y6.stored (l' := T) (by rw [zeros_len]; exact LT.out)
        have x6' := x6.past (b' := w.heap.size + 1 + 1 + 1) (o' := 0) (ints .i64 T).toArray.toList (.inl (by omega))
        have bB2 := bB'.past (b' := w.heap.size + 1 + 1) (ints .i64 S).toArray.toList (by omega)
        have hW2 := Below.setCells (Below.setCells hW.drew (g := w.heap.size + 1 + 1) (by omega) 0 (ints .i64 S).toArray.toList) (g := w.heap.size + 1 + 1 + 1) (by omega) 0 (ints .i64 T).toArray.toList
        have e0 : ∀ ev : Operand → Value, ev (.tmp 3) = .pointer (some ⟨w.heap.size, 0, none⟩) → ∀ (o : Oper), o.op = .load 26 (.tmp 3) → (execOp ev o).run Try.prog W1.drew = .ok (.value (.agg (ints .i64 S).toArray)) W1.drew := fun ev h o ho => ex_load 26 (.tmp 3) ho w.heap.size 0 h (ints .i64 S) _ bA'.range Try.underlying26 rfl (l26 LS.out)
        have e1 : ∀ ev : Operand → Value, ev (.tmp 4) = .pointer (some ⟨w.heap.size + 1, 0, none⟩) → ∀ (o : Oper), o.op = .load 26 (.tmp 4) → (execOp ev o).run Try.prog W1.drew = .ok (.value (.agg (ints .i64 T).toArray)) W1.drew := fun ev h o ho => ex_load 26 (.tmp 4) ho (w.heap.size + 1) 0 h (ints .i64 T) _ bB'.range Try.underlying26 rfl (l26 LT.out)
        have e2 : ∀ ev : Operand → Value, ev (.tmp 4) = .pointer (some ⟨w.heap.size + 1, 0, none⟩) → ∀ (o : Oper), o.op = .load 26 (.tmp 4) → (execOp ev o).run Try.prog (W1.drew.setCells (w.heap.size + 1 + 1) 0 (ints .i64 S).toArray.toList) = .ok (.value (.agg (ints .i64 T).toArray)) (W1.drew.setCells (w.heap.size + 1 + 1) 0 (ints .i64 S).toArray.toList) := fun ev h o ho => ex_load 26 (.tmp 4) ho (w.heap.size + 1) 0 h (ints .i64 T) _ bB2.range Try.underlying26 rfl (l26 LT.out)
        refine wp_region_any (by kernel_rfl) ?_
        change wpAny _ _ _ _ 4 _ _ W1.drew
        generalize W1.drew = w2 at *
        refine any2 (i := 0) (k := 1) (by kernel_rfl) ?_ ?_
        · refine op_val (o := ⟨some 43, .load 26 (.tmp 3), _, _, _, _⟩) rfl rfl (e0 _ rfl _ rfl) ?_
          simp only [Act.put, List.setIfInBounds_toArray, List.set_cons_succ, List.set_cons_zero]
          refine any2 (i := 1) (k := 2) (by kernel_rfl) ?_ ?_
          · refine op_val (o := ⟨some 44, .load 26 (.tmp 4), _, _, _, _⟩) rfl rfl (e1 _ rfl _ rfl) ?_
            simp only [Act.put, List.setIfInBounds_toArray, List.set_cons_succ, List.set_cons_zero]
            refine any1 (i := 2) (by kernel_rfl) (op_store (o := ⟨none, .store 26 (.tmp 6) (.tmp 43), _, _, _, _⟩) rfl rfl 26 (.tmp 6) (.tmp 43) rfl (w.heap.size + 1 + 1) (ints .i64 S).toArray rfl rfl r6 (a26 LS.out) (ints_all _ _) ?_)
            simp only [Act.put]
            refine any1 (i := 3) (by kernel_rfl) (op_store (o := ⟨none, .store 26 (.tmp 7) (.tmp 44), _, _, _, _⟩) rfl rfl 26 (.tmp 7) (.tmp 44) rfl (w.heap.size + 1 + 1 + 1) (ints .i64 T).toArray rfl rfl r7 (a26 LT.out) (ints_all _ _) ?_)
            simp only [Act.put]
            refine any0 (by kernel_rfl) ?_
            generalize (w2.setCells (w.heap.size + 1 + 1) 0 (ints .i64 S).toArray.toList).setCells (w.heap.size + 1 + 1 + 1) 0 (ints .i64 T).toArray.toList = w3 at *
            clear hA hB hR hR2 x6 y6 r6 r7 e0 e1 e2 bA bB bA' bB' bB2
            go_wp2_with (fail)
            exact bodyPost_ret (results_rows rfl _ _ (w.heap.size + 1 + 1) (w.heap.size + 1 + 1 + 1) rfl rfl (ints .i64 S) (ints .i64 T) _ x6'.range x7.range Try.underlying26 rfl (l26 LS.out) (l26 LT.out)) rfl ⟨rfl, hW2⟩
          · refine op_store (o := ⟨none, .store 26 (.tmp 6) (.tmp 43), _, _, _, _⟩) rfl rfl 26 (.tmp 6) (.tmp 43) rfl (w.heap.size + 1 + 1) (ints .i64 S).toArray rfl rfl r6 (a26 LS.out) (ints_all _ _) ?_
            simp only [Act.put]
            refine any1 (i := 1) (by kernel_rfl) (op_val (o := ⟨some 44, .load 26 (.tmp 4), _, _, _, _⟩) rfl rfl (e2 _ rfl _ rfl) ?_)
            simp only [Act.put, List.setIfInBounds_toArray, List.set_cons_succ, List.set_cons_zero]
            refine any1 (i := 3) (by kernel_rfl) (op_store (o := ⟨none, .store 26 (.tmp 7) (.tmp 44), _, _, _, _⟩) rfl rfl 26 (.tmp 7) (.tmp 44) rfl (w.heap.size + 1 + 1 + 1) (ints .i64 T).toArray rfl rfl r7 (a26 LT.out) (ints_all _ _) ?_)
            simp only [Act.put]
            refine any0 (by kernel_rfl) ?_
            generalize (w2.setCells (w.heap.size + 1 + 1) 0 (ints .i64 S).toArray.toList).setCells (w.heap.size + 1 + 1 + 1) 0 (ints .i64 T).toArray.toList = w3 at *
            clear hA hB hR hR2 x6 y6 r6 r7 e0 e1 e2 bA bB bA' bB' bB2
            go_wp2_with (fail)
            exact bodyPost_ret (results_rows rfl _ _ (w.heap.size + 1 + 1) (w.heap.size + 1 + 1 + 1) rfl rfl (ints .i64 S) (ints .i64 T) _ x6'.range x7.range Try.underlying26 rfl (l26 LS.out) (l26 LT.out)) rfl ⟨rfl, hW2⟩
        · refine op_val (o := ⟨some 44, .load 26 (.tmp 4), _, _, _, _⟩) rfl rfl (e1 _ rfl _ rfl) ?_
          simp only [Act.put, List.setIfInBounds_toArray, List.set_cons_succ, List.set_cons_zero]
          refine any1 (i := 0) (by kernel_rfl) (op_val (o := ⟨some 43, .load 26 (.tmp 3), _, _, _, _⟩) rfl rfl (e0 _ rfl _ rfl) ?_)
          simp only [Act.put, List.setIfInBounds_toArray, List.set_cons_succ, List.set_cons_zero]
          refine any1 (i := 2) (by kernel_rfl) (op_store (o := ⟨none, .store 26 (.tmp 6) (.tmp 43), _, _, _, _⟩) rfl rfl 26 (.tmp 6) (.tmp 43) rfl (w.heap.size + 1 + 1) (ints .i64 S).toArray rfl rfl r6 (a26 LS.out) (ints_all _ _) ?_)
          simp only [Act.put]
          refine any1 (i := 3) (by kernel_rfl) (op_store (o := ⟨none, .store 26 (.tmp 7) (.tmp 44), _, _, _, _⟩) rfl rfl 26 (.tmp 7) (.tmp 44) rfl (w.heap.size + 1 + 1 + 1) (ints .i64 T).toArray rfl rfl r7 (a26 LT.out) (ints_all _ _) ?_)
          simp only [Act.put]
          refine any0 (by kernel_rfl) ?_
          generalize (w2.setCells (w.heap.size + 1 + 1) 0 (ints .i64 S).toArray.toList).setCells (w.heap.size + 1 + 1 + 1) 0 (ints .i64 T).toArray.toList = w3 at *
          clear hA hB hR hR2 x6 y6 r6 r7 e0 e1 e2 bA bB bA' bB' bB2
          go_wp2_with (fail)
          exact bodyPost_ret (results_rows rfl _ _ (w.heap.size + 1 + 1) (w.heap.size + 1 + 1 + 1) rfl rfl (ints .i64 S) (ints .i64 T) _ x6'.range x7.range Try.underlying26 rfl (l26 LS.out) (l26 LT.out)) rfl ⟨rfl, hW2⟩
theorem El.in64 {x : List Int} (h : El x) {k : Nat} {v : Int} (hv : x[k]? = some v) : In64 v := by
  have := h.bd v (List.mem_of_getElem? hv)
  unfold In64; omega
theorem c_swap {x y : List Int} (hx : El x) (hy : El y) (sw : Bool) : CallsTo 29 #[.agg (ints .i64 x).toArray, .agg (ints .i64 y).toArray, .bool sw] (.tuple #[.agg (ints .i64 (if sw then y else x)).toArray, .agg (ints .i64 (if sw then x else y)).toArray]) := fun w => by
  cases sw with
  | true => exact swap_core x y y x true (-1) w hx.len hy.len hy.len hx.len rfl fun k a b ha hb => ⟨by rw [xor_yes a b (hy.in64 hb)]; exact hb, by rw [xor_yes' a b (hx.in64 ha)]; exact ha⟩
  | false => exact swap_core x y x y false 0 w hx.len hy.len hx.len hy.len rfl fun k a b ha hb => ⟨by rw [xor_no a b a (hx.in64 ha)]; exact ha, by rw [xor_no a b b (hy.in64 hb)]; exact hb⟩

theorem ex_ne22 {ev : Operand → Value} {o : Oper} {x y : Operand} {l m : List Int} (ho : o.op = .binOp .neq 22 x y 22) (hl : l.length = 32) (hm : m.length = 32) (h1 : ev x = .agg (ints .u8 l).toArray) (h2 : ev y = .agg (ints .u8 m).toArray) (w : World) : (execOp ev o).run Try.prog w = .ok (.value (.bool (!decide (l = m)))) w := by
  have he := eq22 hl hm w
  have heg := egt22
  unfold execOp
  simp only [ho, h1, h2]
  go_simp
theorem list_val {P : Program} {ops : Array Oper} {rest : List Oper} {o : Oper} {a : Act} {w : World} {Q : Exit → Act → World → Prop} (hg : o.guard = none) {v : Value} (hr : (execOp a.eval o).run P w = .ok (.value v) w) (h : wpList P ops Q rest (a.put o.dst v) w) : wpList P ops Q (o :: rest) a w :=
  wpList_plain hg fun _ hK => by
    unfold Oper.wp
    rw [hr]; exact hK _ _ h
section
variable {ops : Array Oper} {md : Region.Mode} {W : World} {a0 : Act} {n : Nat} {S : Nat → Value → World → Prop} {i : Nat}
theorem rpow_args {x y : Operand} {m N : Nat} {bs : List Int} (hx : KnowsR ops md W a0 n S i x m) (hy : Knows ops md W a0 n S i y (.agg (ints .u8 bs).toArray)) (hm : m < NT.PN) (hl : bs.length = 32) (hb : Byt bs) (hN : (bv bs).toNat = N) :
    ∀ (a : Act) (w : World), Cl W w → Fr ops n a0 a → Dp ops md n S i a w → ∃ vs, #[x, y].map a.eval = vs ∧ Calls Try.prog 26 vs w (ROut (m ^ N % NT.PN) w) := fun a w hw hf hd => by
  obtain ⟨A, c, ys, h1, h2, h3⟩ := hx a w hw hf hd
  refine ⟨_, rfl, ?_⟩
  rw [map2, h1, hy a w hw hf hd, ← hN]
  exact rpower_walk h2 hm hl hb h3
theorem three_args {x y z : Operand} {u v t : Value} (hx : Knows ops md W a0 n S i x u) (hy : Knows ops md W a0 n S i y v) (hz : Knows ops md W a0 n S i z t) : ∀ (a : Act) (w : World), Cl W w → Fr ops n a0 a → Dp ops md n S i a w → #[x, y, z].map a.eval = #[u, v, t] := fun a w hw hf hd => by
  have : #[x, y, z].map a.eval = #[a.eval x, a.eval y, a.eval z] := by simp
  rw [this, hx a w hw hf hd, hy a w hw hf hd, hz a w hw hf hd]
end
set_option maxRecDepth 4000 in
set_option maxHeartbeats 4000000 in
theorem fePowers_zero (W : World) (b n : List Int) (lb : b.length = 32) (LN : Hid (n.length = 32)) (BN : Hid (Byt n)) {x y u v : List Int} {m k N : Nat} (hx : Nm x m) (hy : Nm y k) (HN : Hid ((bv n).toNat = N)) (hv : Nm v (m ^ N % NT.PN)) (hu : Nm u 0)
    (kx : CallsTo 9 #[.agg (ints .u8 b).toArray] (.agg (ints .i64 x).toArray)) (ky : CallsTo 9 #[.agg (ints .u8 n).toArray] (.agg (ints .i64 y).toArray)) (rb : Hid (∀ w : World, Calls Try.prog 10 #[.agg (ints .u8 b).toArray] w (ROut m w)))
    (kpow : CallsTo 25 #[.agg (ints .i64 x).toArray, .agg (ints .u8 n).toArray] (.agg (ints .i64 v).toArray)) (kinv : CallsTo 27 #[.agg (ints .i64 x).toArray] (.agg (ints .i64 u).toArray)) (HZ : Hid (decide (m = 0) = true)) :
    Calls Try.prog 5 #[.agg (ints .u8 b).toArray, .agg (ints .u8 n).toArray] W fun e w' => e = .returned (.bool true) ∧ Below W.heap.size W w' := by
  have ri := hid (fun w : World => rof_bytes 0 (by decide) w)
  have hb := (By.new W b lb).next (below_new _ (.cells (ints .u8 n).toArray 22))
  have hn := By.new (W.alloc (.cells (ints .u8 b).toArray 22)) n LN.out
  have hW := (below_new W (.cells (ints .u8 b).toArray 22)).alloc (by simp) (.cells (ints .u8 n).toArray 22)
  rw [World.size_alloc] at hn
  clear lb
  go_enter Try.func5, Try.ntmps5
  go_wp2_with (fail)
  generalize (W.alloc (.cells (ints .u8 b).toArray 22)).alloc (.cells (ints .u8 n).toArray 22) = wa at *
  refine (awake_any _).mono ?_
  rintro e w0 ⟨rfl, hb1⟩
  replace hb := hb.next hb1
  replace hn := hn.next hb1
  replace hW := hW.trans (hb1.mono hW.size)
  clear hb1
  go_wp2_with (fail)
  have s0 := hW.size
  refine region_spec2 5 77 (fun i => i == 3 || i == 4) [Is (.agg (ints .u8 b).toArray), Is (.agg (ints .i64 x).toArray), Is (.agg (ints .u8 b).toArray), IsR w0.heap.size m, IsZ w0.heap.size] [15, 16, 17, 18, 5] (by kernel_rfl) (by kernel_rfl) (by kernel_rfl) (Nat.le_of_eq rfl) (grows_cons (Is.grows _) (grows_cons (Is.grows _) (grows_cons (Is.grows _) (grows_cons (IsR.grows _ _) (grows_cons (IsZ.grows _) grows_nil)))))
    ⟨step_by rfl (.inl rfl) hb 2 rfl (by kernel_rfl) rfl rfl,
     step_to rfl (.inl rfl) rfl cf9 kx rfl (one_arg (knows_in 0 15 (by decide) (by kernel_rfl) rfl rfl)),
     step_by rfl (.inl rfl) hb 2 rfl (by kernel_rfl) rfl rfl,
     step_rof (.inl rfl) rfl cf10 rfl rb.out (knows_in 2 17 (by decide) (by kernel_rfl) rfl rfl),
     step_alloc26 (.inl rfl) rfl rfl, trivial⟩ ?_
  intro val w1 hw hS hap hla
  have e15 : val 15 = (.agg (ints .u8 b).toArray) := hS 0 15 (by decide) rfl
  have e16 : val 16 = (.agg (ints .i64 x).toArray) := hS 1 16 (by decide) rfl
  have e17 : val 17 = (.agg (ints .u8 b).toArray) := hS 2 17 (by decide) rfl
  obtain ⟨A18, c18, y18, e18, H18, N18⟩ := hS 3 18 (by decide) rfl
  have M18 := N18.nums
  obtain ⟨b5, e5, L5, Z5⟩ := hS 4 5 (by decide) rfl
  have nz5_18 : ∀ g o s, A18 = some ⟨g, o, s⟩ → b5 ≠ g := fun g o s h1 h2 => hap 4 3 5 18 (by decide) (by decide) rfl rfl (by decide) rfl rfl (by rw [e5, e18, h1, h2]; rfl)
  simp only [putVals, List.foldl_cons, List.foldl_nil, List.drop_succ_cons, List.drop_zero, Act.put, List.setIfInBounds_toArray, List.set_cons_succ, List.set_cons_zero, e15, e16, e17, e18, e5]
  clear hS hap hla e15 e16 e17 e18 e5
  clear N18
  have LL5 := hid hx.1.len
  have R5 := Z5.room (l' := x) hx.1.len
  have hX := Z5.stored (l' := x) hx.1.len
  replace hb := hb.next (Below.setCells hw L5 0 (ints .i64 x).toArray.toList)
  replace hn := hn.next (Below.setCells hw L5 0 (ints .i64 x).toArray.toList)
  replace M18 := nums_past M18 (ints .i64 x).toArray.toList nz5_18
  replace hW := hW.trans (Below.mono (Below.setCells hw L5 0 (ints .i64 x).toArray.toList) hW.size)
  with_reducible refine wpList_store_mid (op := ⟨none, .store 26 (.tmp 5) (.tmp 16), _, _, _, _⟩) rfl 26 (.tmp 5) (.tmp 16) rfl b5 0 (ints .i64 x).toArray rfl rfl R5 (a26 LL5.out) (ints_all _ _) ?_
  generalize (w1.setCells b5 0 (ints .i64 x).toArray.toList) = w2 at *
  clear hw nz5_18 R5 LL5 L5 Z5 
  clear hb
  go_wp2_with (fail)
  have s2 := hW.size
  refine region_spec2 8 77 (fun i => i == 6) [Is (.agg (ints .i64 x).toArray), Is (.agg (ints .u8 n).toArray), Is (.agg (ints .i64 v).toArray), Is (.agg (ints .u8 (rbytes (m ^ N % NT.PN))).toArray), Is (.slice A18 16 c18), Is (.agg (ints .u8 n).toArray), IsR w2.heap.size (m ^ N % NT.PN), Is (.agg (ints .u8 (rbytes (m ^ N % NT.PN))).toArray)] [19, 20, 21, 22, 23, 24, 25, 26] (by kernel_rfl) (by kernel_rfl) (by kernel_rfl) (Nat.le_of_eq rfl) (grows_cons (Is.grows _) (grows_cons (Is.grows _) (grows_cons (Is.grows _) (grows_cons (Is.grows _) (grows_cons (Is.grows _) (grows_cons (Is.grows _) (grows_cons (IsR.grows _ _) (grows_cons (Is.grows _) grows_nil))))))))
    ⟨step_el rfl (.inl rfl) hX 5 rfl (by kernel_rfl) rfl rfl,
     step_by rfl (.inl rfl) hn 3 rfl (by kernel_rfl) rfl rfl,
     step_to rfl (.inl rfl) rfl cf25 kpow rfl (two_args (knows_in 0 19 (by decide) (by kernel_rfl) rfl rfl) (knows_in 1 20 (by decide) (by kernel_rfl) rfl rfl)),
     step_to rfl (.inl rfl) rfl cf11 hv.bytes rfl (one_arg (knows_in 2 21 (by decide) (by kernel_rfl) rfl rfl)),
     step_mv rfl (.inl rfl) rfl rfl (knows_out 6 (by kernel_rfl) rfl),
     step_by rfl (.inl rfl) hn 3 rfl (by kernel_rfl) rfl rfl,
     step_rout (.inl rfl) rfl cf26 rfl (rpow_args ((knows_in 4 23 (by decide) (by kernel_rfl) rfl rfl).r H18 M18) (knows_in 5 24 (by decide) (by kernel_rfl) rfl rfl) hx.lt LN.out BN.out HN.out),
     step_rbytes rfl (.inl rfl) rfl cf12 rfl (knowsR_in 6 25 (by decide) (by kernel_rfl) rfl rfl), trivial⟩ ?_
  intro val w3 hw hS hap hla
  have e19 : val 19 = (.agg (ints .i64 x).toArray) := hS 0 19 (by decide) rfl
  have e20 : val 20 = (.agg (ints .u8 n).toArray) := hS 1 20 (by decide) rfl
  have e21 : val 21 = (.agg (ints .i64 v).toArray) := hS 2 21 (by decide) rfl
  have e22 : val 22 = (.agg (ints .u8 (rbytes (m ^ N % NT.PN))).toArray) := hS 3 22 (by decide) rfl
  have e23 : val 23 = (.slice A18 16 c18) := hS 4 23 (by decide) rfl
  have e24 : val 24 = (.agg (ints .u8 n).toArray) := hS 5 24 (by decide) rfl
  obtain ⟨A25, c25, y25, e25, H25, N25⟩ := hS 6 25 (by decide) rfl
  have M25 := N25.nums
  have e26 : val 26 = (.agg (ints .u8 (rbytes (m ^ N % NT.PN))).toArray) := hS 7 26 (by decide) rfl
  simp only [putVals, List.foldl_cons, List.foldl_nil, List.drop_succ_cons, List.drop_zero, Act.put, List.setIfInBounds_toArray, List.set_cons_succ, List.set_cons_zero, e19, e20, e21, e22, e23, e24, e25, e26]
  clear hS hap hla e19 e20 e21 e22 e23 e24 e25 e26
  clear N25 M25 H25
  replace hn := hn.next hw
  replace M18 := M18.below hw
  replace hX := hX.next hw
  replace hW := hW.trans (Below.mono hw hW.size)
  clear hw
  refine list_val (o := ⟨some 27, .binOp .neq 22 (.tmp 22) (.tmp 26) 22, _, _, _, _⟩) rfl (ex_ne22 rfl (rbytes_length _) (rbytes_length _) rfl rfl _) ?_
  rw [decide_eq_true rfl]
  simp only [Act.put, List.setIfInBounds_toArray, List.set_cons_succ, List.set_cons_zero, Bool.not_true]
  go_upto_region 6 with (fail)
  have s3 := hW.size
  refine region_seq2 7 77 (fun i => i == 3 || i == 5) [Is (.agg (ints .i64 x).toArray), Is (.agg (ints .i64 u).toArray), Is (.agg (ints .u8 (rbytes 0)).toArray), IsR w3.heap.size 0, Is (.slice A18 16 c18), IsR w3.heap.size (0 * m % NT.PN), IsR w3.heap.size (0 * m % NT.PN)] [28, 29, 30, 31, 32, 33, 7] (by kernel_rfl) (by kernel_rfl) (Nat.le_of_eq rfl) (grows_cons (Is.grows _) (grows_cons (Is.grows _) (grows_cons (Is.grows _) (grows_cons (IsR.grows _ _) (grows_cons (Is.grows _) (grows_cons (IsR.grows _ _) (grows_cons (IsR.grows _ _) grows_nil)))))))
    ⟨step_el rfl (.inl rfl) hX 5 rfl (by kernel_rfl) rfl rfl,
     step_to rfl (.inl rfl) rfl cf27 kinv rfl (one_arg (knows_in 0 28 (by decide) (by kernel_rfl) rfl rfl)),
     step_to rfl (.inl rfl) rfl cf11 hu.bytes rfl (one_arg (knows_in 1 29 (by decide) (by kernel_rfl) rfl rfl)),
     step_rof (.inl rfl) rfl cf10 rfl ri.out (knows_in 2 30 (by decide) (by kernel_rfl) rfl rfl),
     step_mv rfl (.inl rfl) rfl rfl (knows_out 6 (by kernel_rfl) rfl),
     step_rout (.inl rfl) rfl cf23 rfl (rout2 (knowsR_in 3 31 (by decide) (by kernel_rfl) rfl rfl) ((knows_in 4 32 (by decide) (by kernel_rfl) rfl rfl).r H18 M18) (fun h1 h2 h3 h4 => rmul_walk h1 h2 h3 h4)),
     step_copyR rfl (.inl rfl) 5 33 (.inr rfl) rfl (by decide) (by kernel_rfl) rfl rfl, trivial⟩ ?_
  intro val w4 hw hS hap hla
  have e28 : val 28 = (.agg (ints .i64 x).toArray) := hS 0 28 (by decide) rfl
  have e29 : val 29 = (.agg (ints .i64 u).toArray) := hS 1 29 (by decide) rfl
  have e30 : val 30 = (.agg (ints .u8 (rbytes 0)).toArray) := hS 2 30 (by decide) rfl
  obtain ⟨A31, c31, y31, e31, H31, N31⟩ := hS 3 31 (by decide) rfl
  have M31 := N31.nums
  have e32 : val 32 = (.slice A18 16 c18) := hS 4 32 (by decide) rfl
  obtain ⟨A33, c33, y33, e33, H33, N33⟩ := hS 5 33 (by decide) rfl
  have M33 := N33.nums
  obtain ⟨A7, c7, y7, e7, H7, N7⟩ := hS 6 7 (by decide) rfl
  have M7 := N7.nums
  simp only [putVals, List.foldl_cons, List.foldl_nil, List.drop_succ_cons, List.drop_zero, Act.put, List.setIfInBounds_toArray, List.set_cons_succ, List.set_cons_zero, e28, e29, e30, e31, e32, e33, e7]
  clear hS hap hla e28 e29 e30 e31 e32 e33 e7
  clear N31 M31 H31
  clear N33 M33 H33
  clear N7
  replace hn := hn.next hw
  replace M18 := M18.below hw
  replace hX := hX.next hw
  replace hW := hW.trans (Below.mono hw hW.size)
  clear hw
  go_upto_region 7 with (fail)
  have s4 := hW.size
  refine region_seq2 2 77 (fun _ => false) [Is (.slice A18 16 c18), Is (.bool true)] [34, 35] (by kernel_rfl) (by kernel_rfl) (Nat.le_of_eq rfl) (grows_cons (Is.grows _) (grows_cons (Is.grows _) grows_nil))
    ⟨step_mv rfl (.inl rfl) rfl rfl (knows_out 6 (by kernel_rfl) rfl),
     step_rzero rfl (.inl rfl) rfl cf28 (by rw [HZ.out]; exact rfl) ((knows_in 0 34 (by decide) (by kernel_rfl) rfl rfl).r H18 M18), trivial⟩ ?_
  intro val w5 hw hS hap hla
  have e34 : val 34 = (.slice A18 16 c18) := hS 0 34 (by decide) rfl
  have e35 : val 35 = (.bool true) := hS 1 35 (by decide) rfl
  simp only [putVals, List.foldl_cons, List.foldl_nil, List.drop_succ_cons, List.drop_zero, Act.put, List.setIfInBounds_toArray, List.set_cons_succ, List.set_cons_zero, e34, e35]
  clear hS hap hla e34 e35
  replace hn := hn.next hw
  replace M18 := M18.below hw
  replace hX := hX.next hw
  replace M7 := M7.below hw
  replace hW := hW.trans (Below.mono hw hW.size)
  clear hw
  go_upto_region 8 with (fail)
  have s5 := hW.size
  refine region_seq2 5 77 (fun _ => false) [Is (.agg (ints .i64 x).toArray), Is (.agg (ints .i64 u).toArray), Is (.agg (ints .u8 (rbytes 0)).toArray), Is (.agg (ints .u8 (rbytes 0)).toArray), Is (.bool false)] [36, 37, 38, 39, 40] (by kernel_rfl) (by kernel_rfl) (Nat.le_of_eq rfl) (grows_cons (Is.grows _) (grows_cons (Is.grows _) (grows_cons (Is.grows _) (grows_cons (Is.grows _) (grows_cons (Is.grows _) grows_nil)))))
    ⟨step_el rfl (.inl rfl) hX 5 rfl (by kernel_rfl) rfl rfl,
     step_to rfl (.inl rfl) rfl cf27 kinv rfl (one_arg (knows_in 0 36 (by decide) (by kernel_rfl) rfl rfl)),
     step_to rfl (.inl rfl) rfl cf11 hu.bytes rfl (one_arg (knows_in 1 37 (by decide) (by kernel_rfl) rfl rfl)),
     step_zero22 rfl (.inl rfl) rfl rfl,
     step_nes rfl (.inl rfl) rfl (rbytes_length _) rfl (knows_in 2 38 (by decide) (by kernel_rfl) rfl rfl) (knows_in 3 39 (by decide) (by kernel_rfl) rfl rfl), trivial⟩ ?_
  intro val w6 hw hS hap hla
  have e36 : val 36 = (.agg (ints .i64 x).toArray) := hS 0 36 (by decide) rfl
  have e37 : val 37 = (.agg (ints .i64 u).toArray) := hS 1 37 (by decide) rfl
  have e38 : val 38 = (.agg (ints .u8 (rbytes 0)).toArray) := hS 2 38 (by decide) rfl
  have e39 : val 39 = (.agg (ints .u8 (rbytes 0)).toArray) := hS 3 39 (by decide) rfl
  have e40 : val 40 = (.bool false) := hS 4 40 (by decide) rfl
  simp only [putVals, List.foldl_cons, List.foldl_nil, List.drop_succ_cons, List.drop_zero, Act.put, List.setIfInBounds_toArray, List.set_cons_succ, List.set_cons_zero, e36, e37, e38, e39, e40]
  clear hS hap hla e36 e37 e38 e39 e40
  replace hn := hn.next hw
  replace M18 := M18.below hw
  replace hX := hX.next hw
  replace M7 := M7.below hw
  replace hW := hW.trans (Below.mono hw hW.size)
  clear hw
  go_upto_region 12 with (fail)
  have s6 := hW.size
  refine region_seq2 3 77 (fun i => i == 2) [Is (.agg (ints .u8 n).toArray), Is (.agg (ints .i64 y).toArray), IsZ w6.heap.size] [45, 46, 8] (by kernel_rfl) (by kernel_rfl) (Nat.le_of_eq rfl) (grows_cons (Is.grows _) (grows_cons (Is.grows _) (grows_cons (IsZ.grows _) grows_nil)))
    ⟨step_by rfl (.inl rfl) hn 3 rfl (by kernel_rfl) rfl rfl,
     step_to rfl (.inl rfl) rfl cf9 ky rfl (one_arg (knows_in 0 45 (by decide) (by kernel_rfl) rfl rfl)),
     step_alloc26 (.inl rfl) rfl rfl, trivial⟩ ?_
  intro val w7 hw hS hap hla
  have e45 : val 45 = (.agg (ints .u8 n).toArray) := hS 0 45 (by decide) rfl
  have e46 : val 46 = (.agg (ints .i64 y).toArray) := hS 1 46 (by decide) rfl
  obtain ⟨b8, e8, L8, Z8⟩ := hS 2 8 (by decide) rfl
  simp only [putVals, List.foldl_cons, List.foldl_nil, List.drop_succ_cons, List.drop_zero, Act.put, List.setIfInBounds_toArray, List.set_cons_succ, List.set_cons_zero, e45, e46, e8]
  clear hS hap hla e45 e46 e8
  have LL8 := hid hy.1.len
  have R8 := Z8.room (l' := y) hy.1.len
  have hY := Z8.stored (l' := y) hy.1.len
  replace hn := hn.next (Below.setCells hw L8 0 (ints .i64 y).toArray.toList)
  replace M18 := M18.below (Below.setCells hw L8 0 (ints .i64 y).toArray.toList)
  replace hX := hX.next (Below.setCells hw L8 0 (ints .i64 y).toArray.toList)
  replace M7 := M7.below (Below.setCells hw L8 0 (ints .i64 y).toArray.toList)
  replace hW := hW.trans (Below.mono (Below.setCells hw L8 0 (ints .i64 y).toArray.toList) hW.size)
  with_reducible refine wpList_store_mid (op := ⟨none, .store 26 (.tmp 8) (.tmp 46), _, _, _, _⟩) rfl 26 (.tmp 8) (.tmp 46) rfl b8 0 (ints .i64 y).toArray rfl rfl R8 (a26 LL8.out) (ints_all _ _) ?_
  generalize (w7.setCells b8 0 (ints .i64 y).toArray.toList) = w8 at *
  clear hw  R8 LL8 L8 Z8 
  go_upto_region 13 with (fail)
  have s8 := hW.size
  refine region_seq2 8 77 (fun i => i == 6 || i == 7) [Is (.agg (ints .i64 x).toArray), Is (.agg (ints .i64 y).toArray), Is (.tuple #[(.agg (ints .i64 y).toArray), (.agg (ints .i64 x).toArray)]), Is (.tuple #[(.agg (ints .i64 y).toArray), (.agg (ints .i64 x).toArray)]), Is (.agg (ints .i64 y).toArray), Is (.agg (ints .i64 x).toArray), IsZ w8.heap.size, IsZ w8.heap.size] [48, 49, 50, 47, 51, 52, 9, 10] (by kernel_rfl) (by kernel_rfl) (Nat.le_of_eq rfl) (grows_cons (Is.grows _) (grows_cons (Is.grows _) (grows_cons (Is.grows _) (grows_cons (Is.grows _) (grows_cons (Is.grows _) (grows_cons (Is.grows _) (grows_cons (IsZ.grows _) (grows_cons (IsZ.grows _) grows_nil))))))))
    ⟨step_el rfl (.inl rfl) hX 5 rfl (by kernel_rfl) rfl rfl,
     step_el rfl (.inl rfl) hY 8 rfl (by kernel_rfl) rfl rfl,
     step_to rfl (.inl rfl) rfl cf29 (c_swap hx.1 hy.1 true) rfl (three_args (knows_in 0 48 (by decide) (by kernel_rfl) rfl rfl) (knows_in 1 49 (by decide) (by kernel_rfl) rfl rfl) (knows_const _)),
     step_mv rfl (.inl rfl) rfl rfl (knows_in 2 50 (by decide) (by kernel_rfl) rfl rfl),
     step_fst rfl (.inl rfl) rfl rfl (knows_in 3 47 (by decide) (by kernel_rfl) rfl rfl),
     step_snd rfl (.inl rfl) rfl rfl (knows_in 3 47 (by decide) (by kernel_rfl) rfl rfl),
     step_alloc26 (.inl rfl) rfl rfl,
     step_alloc26 (.inl rfl) rfl rfl, trivial⟩ ?_
  intro val w9 hw hS hap hla
  have e48 : val 48 = (.agg (ints .i64 x).toArray) := hS 0 48 (by decide) rfl
  have e49 : val 49 = (.agg (ints .i64 y).toArray) := hS 1 49 (by decide) rfl
  have e50 : val 50 = (.tuple #[(.agg (ints .i64 y).toArray), (.agg (ints .i64 x).toArray)]) := hS 2 50 (by decide) rfl
  have e47 : val 47 = (.tuple #[(.agg (ints .i64 y).toArray), (.agg (ints .i64 x).toArray)]) := hS 3 47 (by decide) rfl
  have e51 : val 51 = (.agg (ints .i64 y).toArray) := hS 4 51 (by decide) rfl
  have e52 : val 52 = (.agg (ints .i64 x).toArray) := hS 5 52 (by decide) rfl
  obtain ⟨b9, e9, L9, Z9⟩ := hS 6 9 (by decide) rfl
  obtain ⟨b10, e10, L10, Z10⟩ := hS 7 10 (by decide) rfl
  have ne9_10 : b9 ≠ b10 := fun e => hap 6 7 9 10 (by decide) (by decide) rfl rfl (by decide) rfl rfl (by rw [e9, e10, e])
  simp only [putVals, List.foldl_cons, List.foldl_nil, List.drop_succ_cons, List.drop_zero, Act.put, List.setIfInBounds_toArray, List.set_cons_succ, List.set_cons_zero, e48, e49, e50, e47, e51, e52, e9, e10]
  clear hS hap hla e48 e49 e50 e47 e51 e52 e9 e10
  have LL9 := hid hy.1.len
  have LL10 := hid hx.1.len
  have R9 := Z9.room (l' := y) hy.1.len
  have hS := Z9.stored (l' := y) hy.1.len
  replace Z10 := Z10.past (b' := b9) (ints .i64 y).toArray.toList ne9_10
  have R10 := Z10.room (l' := x) hx.1.len
  have hT := Z10.stored (l' := x) hx.1.len
  replace hS := hS.past (b' := b10) (ints .i64 x).toArray.toList (Ne.symm ne9_10)
  replace hn := hn.next (Below.setCells (Below.setCells hw L9 0 (ints .i64 y).toArray.toList) L10 0 (ints .i64 x).toArray.toList)
  replace M18 := M18.below (Below.setCells (Below.setCells hw L9 0 (ints .i64 y).toArray.toList) L10 0 (ints .i64 x).toArray.toList)
  replace hX := hX.next (Below.setCells (Below.setCells hw L9 0 (ints .i64 y).toArray.toList) L10 0 (ints .i64 x).toArray.toList)
  replace M7 := M7.below (Below.setCells (Below.setCells hw L9 0 (ints .i64 y).toArray.toList) L10 0 (ints .i64 x).toArray.toList)
  replace hY := hY.next (Below.setCells (Below.setCells hw L9 0 (ints .i64 y).toArray.toList) L10 0 (ints .i64 x).toArray.toList)
  replace hW := hW.trans (Below.mono (Below.setCells (Below.setCells hw L9 0 (ints .i64 y).toArray.toList) L10 0 (ints .i64 x).toArray.toList) hW.size)
  with_reducible refine wpList_store_mid (op := ⟨none, .store 26 (.tmp 9) (.tmp 51), _, _, _, _⟩) rfl 26 (.tmp 9) (.tmp 51) rfl b9 0 (ints .i64 y).toArray rfl rfl R9 (a26 LL9.out) (ints_all _ _) ?_
  with_reducible refine wpList_store_mid (op := ⟨none, .store 26 (.tmp 10) (.tmp 52), _, _, _, _⟩) rfl 26 (.tmp 10) (.tmp 52) rfl b10 0 (ints .i64 x).toArray rfl rfl R10 (a26 LL10.out) (ints_all _ _) ?_
  generalize ((w9.setCells b9 0 (ints .i64 y).toArray.toList).setCells b10 0 (ints .i64 x).toArray.toList) = w10 at *
  clear hw  R9 LL9 L9 Z9 R10 LL10 L10 Z10 ne9_10
  go_upto_region 14 with (fail)
  have s10 := hW.size
  refine region_seq2 8 77 (fun i => i == 6 || i == 7) [Is (.agg (ints .i64 x).toArray), Is (.agg (ints .i64 y).toArray), Is (.tuple #[(.agg (ints .i64 x).toArray), (.agg (ints .i64 y).toArray)]), Is (.tuple #[(.agg (ints .i64 x).toArray), (.agg (ints .i64 y).toArray)]), Is (.agg (ints .i64 x).toArray), Is (.agg (ints .i64 y).toArray), IsZ w10.heap.size, IsZ w10.heap.size] [54, 55, 56, 53, 57, 58, 11, 12] (by kernel_rfl) (by kernel_rfl) (Nat.le_of_eq rfl) (grows_cons (Is.grows _) (grows_cons (Is.grows _) (grows_cons (Is.grows _) (grows_cons (Is.grows _) (grows_cons (Is.grows _) (grows_cons (Is.grows _) (grows_cons (IsZ.grows _) (grows_cons (IsZ.grows _) grows_nil))))))))
    ⟨step_el rfl (.inl rfl) hX 5 rfl (by kernel_rfl) rfl rfl,
     step_el rfl (.inl rfl) hY 8 rfl (by kernel_rfl) rfl rfl,
     step_to rfl (.inl rfl) rfl cf29 (c_swap hx.1 hy.1 false) rfl (three_args (knows_in 0 54 (by decide) (by kernel_rfl) rfl rfl) (knows_in 1 55 (by decide) (by kernel_rfl) rfl rfl) (knows_const _)),
     step_mv rfl (.inl rfl) rfl rfl (knows_in 2 56 (by decide) (by kernel_rfl) rfl rfl),
     step_fst rfl (.inl rfl) rfl rfl (knows_in 3 53 (by decide) (by kernel_rfl) rfl rfl),
     step_snd rfl (.inl rfl) rfl rfl (knows_in 3 53 (by decide) (by kernel_rfl) rfl rfl),
     step_alloc26 (.inl rfl) rfl rfl,
     step_alloc26 (.inl rfl) rfl rfl, trivial⟩ ?_
  intro val w11 hw hS hap hla
  have e54 : val 54 = (.agg (ints .i64 x).toArray) := hS 0 54 (by decide) rfl
  have e55 : val 55 = (.agg (ints .i64 y).toArray) := hS 1 55 (by decide) rfl
  have e56 : val 56 = (.tuple #[(.agg (ints .i64 x).toArray), (.agg (ints .i64 y).toArray)]) := hS 2 56 (by decide) rfl
  have e53 : val 53 = (.tuple #[(.agg (ints .i64 x).toArray), (.agg (ints .i64 y).toArray)]) := hS 3 53 (by decide) rfl
  have e57 : val 57 = (.agg (ints .i64 x).toArray) := hS 4 57 (by decide) rfl
  have e58 : val 58 = (.agg (ints .i64 y).toArray) := hS 5 58 (by decide) rfl
  obtain ⟨b11, e11, L11, Z11⟩ := hS 6 11 (by decide) rfl
  obtain ⟨b12, e12, L12, Z12⟩ := hS 7 12 (by decide) rfl
  have ne11_12 : b11 ≠ b12 := fun e => hap 6 7 11 12 (by decide) (by decide) rfl rfl (by decide) rfl rfl (by rw [e11, e12, e])
  simp only [putVals, List.foldl_cons, List.foldl_nil, List.drop_succ_cons, List.drop_zero, Act.put, List.setIfInBounds_toArray, List.set_cons_succ, List.set_cons_zero, e54, e55, e56, e53, e57, e58, e11, e12]
  clear hS hap hla e54 e55 e56 e53 e57 e58 e11 e12
  have LL11 := hid hx.1.len
  have LL12 := hid hy.1.len
  have R11 := Z11.room (l' := x) hx.1.len
  have hU := Z11.stored (l' := x) hx.1.len
  replace Z12 := Z12.past (b' := b11) (ints .i64 x).toArray.toList ne11_12
  have R12 := Z12.room (l' := y) hy.1.len
  have hV := Z12.stored (l' := y) hy.1.len
  replace hU := hU.past (b' := b12) (ints .i64 y).toArray.toList (Ne.symm ne11_12)
  replace hn := hn.next (Below.setCells (Below.setCells hw L11 0 (ints .i64 x).toArray.toList) L12 0 (ints .i64 y).toArray.toList)
  replace M18 := M18.below (Below.setCells (Below.setCells hw L11 0 (ints .i64 x).toArray.toList) L12 0 (ints .i64 y).toArray.toList)
  replace hX := hX.next (Below.setCells (Below.setCells hw L11 0 (ints .i64 x).toArray.toList) L12 0 (ints .i64 y).toArray.toList)
  replace M7 := M7.below (Below.setCells (Below.setCells hw L11 0 (ints .i64 x).toArray.toList) L12 0 (ints .i64 y).toArray.toList)
  replace hY := hY.next (Below.setCells (Below.setCells hw L11 0 (ints .i64 x).toArray.toList) L12 0 (ints .i64 y).toArray.toList)
  replace hS := hS.next (Below.setCells (Below.setCells hw L11 0 (ints .i64 x).toArray.toList) L12 0 (ints .i64 y).toArray.toList)
  replace hT := hT.next (Below.setCells (Below.setCells hw L11 0 (ints .i64 x).toArray.toList) L12 0 (ints .i64 y).toArray.toList)
  replace hW := hW.trans (Below.mono (Below.setCells (Below.setCells hw L11 0 (ints .i64 x).toArray.toList) L12 0 (ints .i64 y).toArray.toList) hW.size)
  with_reducible refine wpList_store_mid (op := ⟨none, .store 26 (.tmp 11) (.tmp 57), _, _, _, _⟩) rfl 26 (.tmp 11) (.tmp 57) rfl b11 0 (ints .i64 x).toArray rfl rfl R11 (a26 LL11.out) (ints_all _ _) ?_
  with_reducible refine wpList_store_mid (op := ⟨none, .store 26 (.tmp 12) (.tmp 58), _, _, _, _⟩) rfl 26 (.tmp 12) (.tmp 58) rfl b12 0 (ints .i64 y).toArray rfl rfl R12 (a26 LL12.out) (ints_all _ _) ?_
  generalize ((w11.setCells b11 0 (ints .i64 x).toArray.toList).setCells b12 0 (ints .i64 y).toArray.toList) = w12 at *
  clear hw  R11 LL11 L11 Z11 R12 LL12 L12 Z12 ne11_12
  go_upto_region 15 with (fail)
  have s12 := hW.size
  refine region_seq2 19 77 (fun _ => false) [Is (.agg (ints .i64 y).toArray), Is (.agg (ints .i64 y).toArray), Is (.bool true), Is (.bool true), Is (.agg (ints .i64 x).toArray), Is (.agg (ints .i64 x).toArray), Is (.bool true), Is (.bool true), Is (.bool true), Is (.agg (ints .i64 x).toArray), Is (.agg (ints .i64 x).toArray), Is (.bool true), Is (.bool true), Is (.bool true), Is (.agg (ints .i64 y).toArray), Is (.agg (ints .i64 y).toArray), Is (.bool true), Is (.bool true), Is (.bool true)] [59, 60, 61, 62, 63, 64, 65, 66, 67, 68, 69, 70, 71, 72, 73, 74, 75, 76, 4] (by kernel_rfl) (by kernel_rfl) (Nat.le_of_eq rfl) (grows_cons (Is.grows _) (grows_cons (Is.grows _) (grows_cons (Is.grows _) (grows_cons (Is.grows _) (grows_cons (Is.grows _) (grows_cons (Is.grows _) (grows_cons (Is.grows _) (grows_cons (Is.grows _) (grows_cons (Is.grows _) (grows_cons (Is.grows _) (grows_cons (Is.grows _) (grows_cons (Is.grows _) (grows_cons (Is.grows _) (grows_cons (Is.grows _) (grows_cons (Is.grows _) (grows_cons (Is.grows _) (grows_cons (Is.grows _) (grows_cons (Is.grows _) (grows_cons (Is.grows _) grows_nil)))))))))))))))))))
    ⟨step_el rfl (.inl rfl) hS 9 rfl (by kernel_rfl) rfl rfl,
     step_el rfl (.inl rfl) hY 8 rfl (by kernel_rfl) rfl rfl,
     step_to rfl (.inl rfl) rfl cf14 (hy.same hy) rfl (two_args (knows_in 0 59 (by decide) (by kernel_rfl) rfl rfl) (knows_in 1 60 (by decide) (by kernel_rfl) rfl rfl)),
     step_mv rfl (.inl rfl) rfl rfl (knows_in 2 61 (by decide) (by kernel_rfl) rfl rfl),
     step_el rfl (.inr ⟨3, true, 62, rfl, by decide, by kernel_rfl, rfl, fun _ _ h => h⟩) hT 10 rfl (by kernel_rfl) rfl rfl,
     step_el rfl (.inr ⟨3, true, 62, rfl, by decide, by kernel_rfl, rfl, fun _ _ h => h⟩) hX 5 rfl (by kernel_rfl) rfl rfl,
     step_to rfl (.inr ⟨3, true, 62, rfl, by decide, by kernel_rfl, rfl, fun _ _ h => h⟩) rfl cf14 (hx.same hx) rfl (two_args (knows_in 4 63 (by decide) (by kernel_rfl) rfl rfl) (knows_in 5 64 (by decide) (by kernel_rfl) rfl rfl)),
     step_pick rfl (.inl rfl) (b := true) rfl rfl (knows_in 3 62 (by decide) (by kernel_rfl) rfl rfl) (knows_in 6 65 (by decide) (by kernel_rfl) rfl rfl),
     step_mv rfl (.inl rfl) rfl rfl (knows_in 7 66 (by decide) (by kernel_rfl) rfl rfl),
     step_el rfl (.inr ⟨8, true, 67, rfl, by decide, by kernel_rfl, rfl, fun _ _ h => h⟩) hU 11 rfl (by kernel_rfl) rfl rfl,
     step_el rfl (.inr ⟨8, true, 67, rfl, by decide, by kernel_rfl, rfl, fun _ _ h => h⟩) hX 5 rfl (by kernel_rfl) rfl rfl,
     step_to rfl (.inr ⟨8, true, 67, rfl, by decide, by kernel_rfl, rfl, fun _ _ h => h⟩) rfl cf14 (hx.same hx) rfl (two_args (knows_in 9 68 (by decide) (by kernel_rfl) rfl rfl) (knows_in 10 69 (by decide) (by kernel_rfl) rfl rfl)),
     step_pick rfl (.inl rfl) (b := true) rfl rfl (knows_in 8 67 (by decide) (by kernel_rfl) rfl rfl) (knows_in 11 70 (by decide) (by kernel_rfl) rfl rfl),
     step_mv rfl (.inl rfl) rfl rfl (knows_in 12 71 (by decide) (by kernel_rfl) rfl rfl),
     step_el rfl (.inr ⟨13, true, 72, rfl, by decide, by kernel_rfl, rfl, fun _ _ h => h⟩) hV 12 rfl (by kernel_rfl) rfl rfl,
     step_el rfl (.inr ⟨13, true, 72, rfl, by decide, by kernel_rfl, rfl, fun _ _ h => h⟩) hY 8 rfl (by kernel_rfl) rfl rfl,
     step_to rfl (.inr ⟨13, true, 72, rfl, by decide, by kernel_rfl, rfl, fun _ _ h => h⟩) rfl cf14 (hy.same hy) rfl (two_args (knows_in 14 73 (by decide) (by kernel_rfl) rfl rfl) (knows_in 15 74 (by decide) (by kernel_rfl) rfl rfl)),
     step_pick rfl (.inl rfl) (b := true) rfl rfl (knows_in 13 72 (by decide) (by kernel_rfl) rfl rfl) (knows_in 16 75 (by decide) (by kernel_rfl) rfl rfl),
     step_asg rfl (.inl rfl) rfl rfl (knows_in 17 76 (by decide) (by kernel_rfl) rfl rfl), trivial⟩ ?_
  intro val w13 hw hS hap hla
  have e59 : val 59 = (.agg (ints .i64 y).toArray) := hS 0 59 (by decide) rfl
  have e60 : val 60 = (.agg (ints .i64 y).toArray) := hS 1 60 (by decide) rfl
  have e61 : val 61 = (.bool true) := hS 2 61 (by decide) rfl
  have e62 : val 62 = (.bool true) := hS 3 62 (by decide) rfl
  have e63 : val 63 = (.agg (ints .i64 x).toArray) := hS 4 63 (by decide) rfl
  have e64 : val 64 = (.agg (ints .i64 x).toArray) := hS 5 64 (by decide) rfl
  have e65 : val 65 = (.bool true) := hS 6 65 (by decide) rfl
  have e66 : val 66 = (.bool true) := hS 7 66 (by decide) rfl
  have e67 : val 67 = (.bool true) := hS 8 67 (by decide) rfl
  have e68 : val 68 = (.agg (ints .i64 x).toArray) := hS 9 68 (by decide) rfl
  have e69 : val 69 = (.agg (ints .i64 x).toArray) := hS 10 69 (by decide) rfl
  have e70 : val 70 = (.bool true) := hS 11 70 (by decide) rfl
  have e71 : val 71 = (.bool true) := hS 12 71 (by decide) rfl
  have e72 : val 72 = (.bool true) := hS 13 72 (by decide) rfl
  have e73 : val 73 = (.agg (ints .i64 y).toArray) := hS 14 73 (by decide) rfl
  have e74 : val 74 = (.agg (ints .i64 y).toArray) := hS 15 74 (by decide) rfl
  have e75 : val 75 = (.bool true) := hS 16 75 (by decide) rfl
  have e76 : val 76 = (.bool true) := hS 17 76 (by decide) rfl
  have e4 : val 4 = (.bool true) := hS 18 4 (by decide) rfl
  simp only [putVals, List.foldl_cons, List.foldl_nil, List.drop_succ_cons, List.drop_zero, Act.put, List.setIfInBounds_toArray, List.set_cons_succ, List.set_cons_zero, e59, e60, e61, e62, e63, e64, e65, e66, e67, e68, e69, e70, e71, e72, e73, e74, e75, e76, e4]
  clear hS hap hla e59 e60 e61 e62 e63 e64 e65 e66 e67 e68 e69 e70 e71 e72 e73 e74 e75 e76 e4
  replace hn := hn.next hw
  replace M18 := M18.below hw
  replace hX := hX.next hw
  replace M7 := M7.below hw
  replace hY := hY.next hw
  replace hS := hS.next hw
  replace hT := hT.next hw
  replace hU := hU.next hw
  replace hV := hV.next hw
  replace hW := hW.trans (Below.mono hw hW.size)
  clear hw
  go_wp2_with (fail)
  go_ret
  exact ⟨rfl, hW⟩
set_option maxRecDepth 4000 in
set_option maxHeartbeats 4000000 in
theorem fePowers_one (W : World) (b n : List Int) (lb : b.length = 32) (LN : Hid (n.length = 32)) (BN : Hid (Byt n)) {x y u v : List Int} {m k N mi : Nat} (hx : Nm x m) (hy : Nm y k) (HN : Hid ((bv n).toNat = N)) (hv : Nm v (m ^ N % NT.PN)) (hu : Nm u mi)
    (kx : CallsTo 9 #[.agg (ints .u8 b).toArray] (.agg (ints .i64 x).toArray)) (ky : CallsTo 9 #[.agg (ints .u8 n).toArray] (.agg (ints .i64 y).toArray)) (rb : Hid (∀ w : World, Calls Try.prog 10 #[.agg (ints .u8 b).toArray] w (ROut m w)))
    (kpow : CallsTo 25 #[.agg (ints .i64 x).toArray, .agg (ints .u8 n).toArray] (.agg (ints .i64 v).toArray)) (kinv : CallsTo 27 #[.agg (ints .i64 x).toArray] (.agg (ints .i64 u).toArray)) (HZ : Hid (decide (m = 0) = false)) (HONE : Hid (mi * m % NT.PN = 1)) :
    Calls Try.prog 5 #[.agg (ints .u8 b).toArray, .agg (ints .u8 n).toArray] W fun e w' => e = .returned (.bool true) ∧ Below W.heap.size W w' := by
  have ri := hid (fun w : World => rof_bytes mi hu.lt w)
  have hb := (By.new W b lb).next (below_new _ (.cells (ints .u8 n).toArray 22))
  have hn := By.new (W.alloc (.cells (ints .u8 b).toArray 22)) n LN.out
  have hW := (below_new W (.cells (ints .u8 b).toArray 22)).alloc (by simp) (.cells (ints .u8 n).toArray 22)
  rw [World.size_alloc] at hn
  clear lb
  go_enter Try.func5, Try.ntmps5
  go_wp2_with (fail)
  generalize (W.alloc (.cells (ints .u8 b).toArray 22)).alloc (.cells (ints .u8 n).toArray 22) = wa at *
  refine (awake_any _).mono ?_
  rintro e w0 ⟨rfl, hb1⟩
  replace hb := hb.next hb1
  replace hn := hn.next hb1
  replace hW := hW.trans (hb1.mono hW.size)
  clear hb1
  go_wp2_with (fail)
  have s0 := hW.size
  refine region_spec2 5 77 (fun i => i == 3 || i == 4) [Is (.agg (ints .u8 b).toArray), Is (.agg (ints .i64 x).toArray), Is (.agg (ints .u8 b).toArray), IsR w0.heap.size m, IsZ w0.heap.size] [15, 16, 17, 18, 5] (by kernel_rfl) (by kernel_rfl) (by kernel_rfl) (Nat.le_of_eq rfl) (grows_cons (Is.grows _) (grows_cons (Is.grows _) (grows_cons (Is.grows _) (grows_cons (IsR.grows _ _) (grows_cons (IsZ.grows _) grows_nil)))))
    ⟨step_by rfl (.inl rfl) hb 2 rfl (by kernel_rfl) rfl rfl,
     step_to rfl (.inl rfl) rfl cf9 kx rfl (one_arg (knows_in 0 15 (by decide) (by kernel_rfl) rfl rfl)),
     step_by rfl (.inl rfl) hb 2 rfl (by kernel_rfl) rfl rfl,
     step_rof (.inl rfl) rfl cf10 rfl rb.out (knows_in 2 17 (by decide) (by kernel_rfl) rfl rfl),
     step_alloc26 (.inl rfl) rfl rfl, trivial⟩ ?_
  intro val w1 hw hS hap hla
  have e15 : val 15 = (.agg (ints .u8 b).toArray) := hS 0 15 (by decide) rfl
  have e16 : val 16 = (.agg (ints .i64 x).toArray) := hS 1 16 (by decide) rfl
  have e17 : val 17 = (.agg (ints .u8 b).toArray) := hS 2 17 (by decide) rfl
  obtain ⟨A18, c18, y18, e18, H18, N18⟩ := hS 3 18 (by decide) rfl
  have M18 := N18.nums
  obtain ⟨b5, e5, L5, Z5⟩ := hS 4 5 (by decide) rfl
  have nz5_18 : ∀ g o s, A18 = some ⟨g, o, s⟩ → b5 ≠ g := fun g o s h1 h2 => hap 4 3 5 18 (by decide) (by decide) rfl rfl (by decide) rfl rfl (by rw [e5, e18, h1, h2]; rfl)
  simp only [putVals, List.foldl_cons, List.foldl_nil, List.drop_succ_cons, List.drop_zero, Act.put, List.setIfInBounds_toArray, List.set_cons_succ, List.set_cons_zero, e15, e16, e17, e18, e5]
  clear hS hap hla e15 e16 e17 e18 e5
  clear N18
  have LL5 := hid hx.1.len
  have R5 := Z5.room (l' := x) hx.1.len
  have hX := Z5.stored (l' := x) hx.1.len
  replace hb := hb.next (Below.setCells hw L5 0 (ints .i64 x).toArray.toList)
  replace hn := hn.next (Below.setCells hw L5 0 (ints .i64 x).toArray.toList)
  replace M18 := nums_past M18 (ints .i64 x).toArray.toList nz5_18
  replace hW := hW.trans (Below.mono (Below.setCells hw L5 0 (ints .i64 x).toArray.toList) hW.size)
  with_reducible refine wpList_store_mid (op := ⟨none, .store 26 (.tmp 5) (.tmp 16), _, _, _, _⟩) rfl 26 (.tmp 5) (.tmp 16) rfl b5 0 (ints .i64 x).toArray rfl rfl R5 (a26 LL5.out) (ints_all _ _) ?_
  generalize (w1.setCells b5 0 (ints .i64 x).toArray.toList) = w2 at *
  clear hw nz5_18 R5 LL5 L5 Z5 
  clear hb
  go_wp2_with (fail)
  have s2 := hW.size
  refine region_spec2 8 77 (fun i => i == 6) [Is (.agg (ints .i64 x).toArray), Is (.agg (ints .u8 n).toArray), Is (.agg (ints .i64 v).toArray), Is (.agg (ints .u8 (rbytes (m ^ N % NT.PN))).toArray), Is (.slice A18 16 c18), Is (.agg (ints .u8 n).toArray), IsR w2.heap.size (m ^ N % NT.PN), Is (.agg (ints .u8 (rbytes (m ^ N % NT.PN))).toArray)] [19, 20, 21, 22, 23, 24, 25, 26] (by kernel_rfl) (by kernel_rfl) (by kernel_rfl) (Nat.le_of_eq rfl) (grows_cons (Is.grows _) (grows_cons (Is.grows _) (grows_cons (Is.grows _) (grows_cons (Is.grows _) (grows_cons (Is.grows _) (grows_cons (Is.grows _) (grows_cons (IsR.grows _ _) (grows_cons (Is.grows _) grows_nil))))))))
    ⟨step_el rfl (.inl rfl) hX 5 rfl (by kernel_rfl) rfl rfl,
     step_by rfl (.inl rfl) hn 3 rfl (by kernel_rfl) rfl rfl,
     step_to rfl (.inl rfl) rfl cf25 kpow rfl (two_args (knows_in 0 19 (by decide) (by kernel_rfl) rfl rfl) (knows_in 1 20 (by decide) (by kernel_rfl) rfl rfl)),
     step_to rfl (.inl rfl) rfl cf11 hv.bytes rfl (one_arg (knows_in 2 21 (by decide) (by kernel_rfl) rfl rfl)),
     step_mv rfl (.inl rfl) rfl rfl (knows_out 6 (by kernel_rfl) rfl),
     step_by rfl (.inl rfl) hn 3 rfl (by kernel_rfl) rfl rfl,
     step_rout (.inl rfl) rfl cf26 rfl (rpow_args ((knows_in 4 23 (by decide) (by kernel_rfl) rfl rfl).r H18 M18) (knows_in 5 24 (by decide) (by kernel_rfl) rfl rfl) hx.lt LN.out BN.out HN.out),
     step_rbytes rfl (.inl rfl) rfl cf12 rfl (knowsR_in 6 25 (by decide) (by kernel_rfl) rfl rfl), trivial⟩ ?_
  intro val w3 hw hS hap hla
  have e19 : val 19 = (.agg (ints .i64 x).toArray) := hS 0 19 (by decide) rfl
  have e20 : val 20 = (.agg (ints .u8 n).toArray) := hS 1 20 (by decide) rfl
  have e21 : val 21 = (.agg (ints .i64 v).toArray) := hS 2 21 (by decide) rfl
  have e22 : val 22 = (.agg (ints .u8 (rbytes (m ^ N % NT.PN))).toArray) := hS 3 22 (by decide) rfl
  have e23 : val 23 = (.slice A18 16 c18) := hS 4 23 (by decide) rfl
  have e24 : val 24 = (.agg (ints .u8 n).toArray) := hS 5 24 (by decide) rfl
  obtain ⟨A25, c25, y25, e25, H25, N25⟩ := hS 6 25 (by decide) rfl
  have M25 := N25.nums
  have e26 : val 26 = (.agg (ints .u8 (rbytes (m ^ N % NT.PN))).toArray) := hS 7 26 (by decide) rfl
  simp only [putVals, List.foldl_cons, List.foldl_nil, List.drop_succ_cons, List.drop_zero, Act.put, List.setIfInBounds_toArray, List.set_cons_succ, List.set_cons_zero, e19, e20, e21, e22, e23, e24, e25, e26]
  clear hS hap hla e19 e20 e21 e22 e23 e24 e25 e26
  clear N25 M25 H25
  replace hn := hn.next hw
  replace M18 := M18.below hw
  replace hX := hX.next hw
  replace hW := hW.trans (Below.mono hw hW.size)
  clear hw
  refine list_val (o := ⟨some 27, .binOp .neq 22 (.tmp 22) (.tmp 26) 22, _, _, _, _⟩) rfl (ex_ne22 rfl (rbytes_length _) (rbytes_length _) rfl rfl _) ?_
  rw [decide_eq_true rfl]
  simp only [Act.put, List.setIfInBounds_toArray, List.set_cons_succ, List.set_cons_zero, Bool.not_true]
  go_upto_region 6 with (fail)
  have s3 := hW.size
  refine region_seq2 7 77 (fun i => i == 3 || i == 5) [Is (.agg (ints .i64 x).toArray), Is (.agg (ints .i64 u).toArray), Is (.agg (ints .u8 (rbytes mi)).toArray), IsR w3.heap.size mi, Is (.slice A18 16 c18), IsR w3.heap.size (mi * m % NT.PN), IsR w3.heap.size (mi * m % NT.PN)] [28, 29, 30, 31, 32, 33, 7] (by kernel_rfl) (by kernel_rfl) (Nat.le_of_eq rfl) (grows_cons (Is.grows _) (grows_cons (Is.grows _) (grows_cons (Is.grows _) (grows_cons (IsR.grows _ _) (grows_cons (Is.grows _) (grows_cons (IsR.grows _ _) (grows_cons (IsR.grows _ _) grows_nil)))))))
    ⟨step_el rfl (.inl rfl) hX 5 rfl (by kernel_rfl) rfl rfl,
     step_to rfl (.inl rfl) rfl cf27 kinv rfl (one_arg (knows_in 0 28 (by decide) (by kernel_rfl) rfl rfl)),
     step_to rfl (.inl rfl) rfl cf11 hu.bytes rfl (one_arg (knows_in 1 29 (by decide) (by kernel_rfl) rfl rfl)),
     step_rof (.inl rfl) rfl cf10 rfl ri.out (knows_in 2 30 (by decide) (by kernel_rfl) rfl rfl),
     step_mv rfl (.inl rfl) rfl rfl (knows_out 6 (by kernel_rfl) rfl),
     step_rout (.inl rfl) rfl cf23 rfl (rout2 (knowsR_in 3 31 (by decide) (by kernel_rfl) rfl rfl) ((knows_in 4 32 (by decide) (by kernel_rfl) rfl rfl).r H18 M18) (fun h1 h2 h3 h4 => rmul_walk h1 h2 h3 h4)),
     step_copyR rfl (.inl rfl) 5 33 (.inr rfl) rfl (by decide) (by kernel_rfl) rfl rfl, trivial⟩ ?_
  intro val w4 hw hS hap hla
  have e28 : val 28 = (.agg (ints .i64 x).toArray) := hS 0 28 (by decide) rfl
  have e29 : val 29 = (.agg (ints .i64 u).toArray) := hS 1 29 (by decide) rfl
  have e30 : val 30 = (.agg (ints .u8 (rbytes mi)).toArray) := hS 2 30 (by decide) rfl
  obtain ⟨A31, c31, y31, e31, H31, N31⟩ := hS 3 31 (by decide) rfl
  have M31 := N31.nums
  have e32 : val 32 = (.slice A18 16 c18) := hS 4 32 (by decide) rfl
  obtain ⟨A33, c33, y33, e33, H33, N33⟩ := hS 5 33 (by decide) rfl
  have M33 := N33.nums
  obtain ⟨A7, c7, y7, e7, H7, N7⟩ := hS 6 7 (by decide) rfl
  have M7 := N7.nums
  simp only [putVals, List.foldl_cons, List.foldl_nil, List.drop_succ_cons, List.drop_zero, Act.put, List.setIfInBounds_toArray, List.set_cons_succ, List.set_cons_zero, e28, e29, e30, e31, e32, e33, e7]
  clear hS hap hla e28 e29 e30 e31 e32 e33 e7
  clear N31 M31 H31
  clear N33 M33 H33
  clear N7
  replace hn := hn.next hw
  replace M18 := M18.below hw
  replace hX := hX.next hw
  replace hW := hW.trans (Below.mono hw hW.size)
  clear hw
  go_upto_region 7 with (fail)
  have s4 := hW.size
  refine region_seq2 2 77 (fun _ => false) [Is (.slice A18 16 c18), Is (.bool false)] [34, 35] (by kernel_rfl) (by kernel_rfl) (Nat.le_of_eq rfl) (grows_cons (Is.grows _) (grows_cons (Is.grows _) grows_nil))
    ⟨step_mv rfl (.inl rfl) rfl rfl (knows_out 6 (by kernel_rfl) rfl),
     step_rzero rfl (.inl rfl) rfl cf28 (by rw [HZ.out]; exact rfl) ((knows_in 0 34 (by decide) (by kernel_rfl) rfl rfl).r H18 M18), trivial⟩ ?_
  intro val w5 hw hS hap hla
  have e34 : val 34 = (.slice A18 16 c18) := hS 0 34 (by decide) rfl
  have e35 : val 35 = (.bool false) := hS 1 35 (by decide) rfl
  simp only [putVals, List.foldl_cons, List.foldl_nil, List.drop_succ_cons, List.drop_zero, Act.put, List.setIfInBounds_toArray, List.set_cons_succ, List.set_cons_zero, e34, e35]
  clear hS hap hla e34 e35
  replace hn := hn.next hw
  replace M18 := M18.below hw
  replace hX := hX.next hw
  replace M7 := M7.below hw
  replace hW := hW.trans (Below.mono hw hW.size)
  clear hw
  go_upto_region 10 with (fail)
  have s5 := hW.size
  refine region_seq2 4 77 (fun i => i == 1) [Is (.slice A7 16 c7), IsR w5.heap.size 1, Is (.bool true), Is (.bool false)] [41, 42, 43, 44] (by kernel_rfl) (by kernel_rfl) (Nat.le_of_eq rfl) (grows_cons (Is.grows _) (grows_cons (IsR.grows _ _) (grows_cons (Is.grows _) (grows_cons (Is.grows _) grows_nil))))
    ⟨step_mv rfl (.inl rfl) rfl rfl (knows_out 7 (by kernel_rfl) rfl),
     step_rsmall (.inl rfl) 1 (by decide) rfl cf17 rfl,
     step_rsame rfl (.inl rfl) rfl cf15 (by rw [decide_eq_true HONE.out]; exact rfl) ((knows_in 0 41 (by decide) (by kernel_rfl) rfl rfl).r H7 M7) (knowsR_in 1 42 (by decide) (by kernel_rfl) rfl rfl),
     step_not rfl (.inl rfl) (b := true) rfl rfl (knows_in 2 43 (by decide) (by kernel_rfl) rfl rfl), trivial⟩ ?_
  intro val w6 hw hS hap hla
  have e41 : val 41 = (.slice A7 16 c7) := hS 0 41 (by decide) rfl
  obtain ⟨A42, c42, y42, e42, H42, N42⟩ := hS 1 42 (by decide) rfl
  have M42 := N42.nums
  have e43 : val 43 = (.bool true) := hS 2 43 (by decide) rfl
  have e44 : val 44 = (.bool false) := hS 3 44 (by decide) rfl
  simp only [putVals, List.foldl_cons, List.foldl_nil, List.drop_succ_cons, List.drop_zero, Act.put, List.setIfInBounds_toArray, List.set_cons_succ, List.set_cons_zero, e41, e42, e43, e44]
  clear hS hap hla e41 e42 e43 e44
  clear N42 M42 H42
  replace hn := hn.next hw
  replace M18 := M18.below hw
  replace hX := hX.next hw
  replace M7 := M7.below hw
  replace hW := hW.trans (Below.mono hw hW.size)
  clear hw
  go_upto_region 12 with (fail)
  have s6 := hW.size
  refine region_seq2 3 77 (fun i => i == 2) [Is (.agg (ints .u8 n).toArray), Is (.agg (ints .i64 y).toArray), IsZ w6.heap.size] [45, 46, 8] (by kernel_rfl) (by kernel_rfl) (Nat.le_of_eq rfl) (grows_cons (Is.grows _) (grows_cons (Is.grows _) (grows_cons (IsZ.grows _) grows_nil)))
    ⟨step_by rfl (.inl rfl) hn 3 rfl (by kernel_rfl) rfl rfl,
     step_to rfl (.inl rfl) rfl cf9 ky rfl (one_arg (knows_in 0 45 (by decide) (by kernel_rfl) rfl rfl)),
     step_alloc26 (.inl rfl) rfl rfl, trivial⟩ ?_
  intro val w7 hw hS hap hla
  have e45 : val 45 = (.agg (ints .u8 n).toArray) := hS 0 45 (by decide) rfl
  have e46 : val 46 = (.agg (ints .i64 y).toArray) := hS 1 46 (by decide) rfl
  obtain ⟨b8, e8, L8, Z8⟩ := hS 2 8 (by decide) rfl
  simp only [putVals, List.foldl_cons, List.foldl_nil, List.drop_succ_cons, List.drop_zero, Act.put, List.setIfInBounds_toArray, List.set_cons_succ, List.set_cons_zero, e45, e46, e8]
  clear hS hap hla e45 e46 e8
  have LL8 := hid hy.1.len
  have R8 := Z8.room (l' := y) hy.1.len
  have hY := Z8.stored (l' := y) hy.1.len
  replace hn := hn.next (Below.setCells hw L8 0 (ints .i64 y).toArray.toList)
  replace M18 := M18.below (Below.setCells hw L8 0 (ints .i64 y).toArray.toList)
  replace hX := hX.next (Below.setCells hw L8 0 (ints .i64 y).toArray.toList)
  replace M7 := M7.below (Below.setCells hw L8 0 (ints .i64 y).toArray.toList)
  replace hW := hW.trans (Below.mono (Below.setCells hw L8 0 (ints .i64 y).toArray.toList) hW.size)
  with_reducible refine wpList_store_mid (op := ⟨none, .store 26 (.tmp 8) (.tmp 46), _, _, _, _⟩) rfl 26 (.tmp 8) (.tmp 46) rfl b8 0 (ints .i64 y).toArray rfl rfl R8 (a26 LL8.out) (ints_all _ _) ?_
  generalize (w7.setCells b8 0 (ints .i64 y).toArray.toList) = w8 at *
  clear hw  R8 LL8 L8 Z8 
  go_upto_region 13 with (fail)
  have s8 := hW.size
  refine region_seq2 8 77 (fun i => i == 6 || i == 7) [Is (.agg (ints .i64 x).toArray), Is (.agg (ints .i64 y).toArray), Is (.tuple #[(.agg (ints .i64 y).toArray), (.agg (ints .i64 x).toArray)]), Is (.tuple #[(.agg (ints .i64 y).toArray), (.agg (ints .i64 x).toArray)]), Is (.agg (ints .i64 y).toArray), Is (.agg (ints .i64 x).toArray), IsZ w8.heap.size, IsZ w8.heap.size] [48, 49, 50, 47, 51, 52, 9, 10] (by kernel_rfl) (by kernel_rfl) (Nat.le_of_eq rfl) (grows_cons (Is.grows _) (grows_cons (Is.grows _) (grows_cons (Is.grows _) (grows_cons (Is.grows _) (grows_cons (Is.grows _) (grows_cons (Is.grows _) (grows_cons (IsZ.grows _) (grows_cons (IsZ.grows _) grows_nil))))))))
    ⟨step_el rfl (.inl rfl) hX 5 rfl (by kernel_rfl) rfl rfl,
     step_el rfl (.inl rfl) hY 8 rfl (by kernel_rfl) rfl rfl,
     step_to rfl (.inl rfl) rfl cf29 (c_swap hx.1 hy.1 true) rfl (three_args (knows_in 0 48 (by decide) (by kernel_rfl) rfl rfl) (knows_in 1 49 (by decide) (by kernel_rfl) rfl rfl) (knows_const _)),
     step_mv rfl (.inl rfl) rfl rfl (knows_in 2 50 (by decide) (by kernel_rfl) rfl rfl),
     step_fst rfl (.inl rfl) rfl rfl (knows_in 3 47 (by decide) (by kernel_rfl) rfl rfl),
     step_snd rfl (.inl rfl) rfl rfl (knows_in 3 47 (by decide) (by kernel_rfl) rfl rfl),
     step_alloc26 (.inl rfl) rfl rfl,
     step_alloc26 (.inl rfl) rfl rfl, trivial⟩ ?_
  intro val w9 hw hS hap hla
  have e48 : val 48 = (.agg (ints .i64 x).toArray) := hS 0 48 (by decide) rfl
  have e49 : val 49 = (.agg (ints .i64 y).toArray) := hS 1 49 (by decide) rfl
  have e50 : val 50 = (.tuple #[(.agg (ints .i64 y).toArray), (.agg (ints .i64 x).toArray)]) := hS 2 50 (by decide) rfl
  have e47 : val 47 = (.tuple #[(.agg (ints .i64 y).toArray), (.agg (ints .i64 x).toArray)]) := hS 3 47 (by decide) rfl
  have e51 : val 51 = (.agg (ints .i64 y).toArray) := hS 4 51 (by decide) rfl
  have e52 : val 52 = (.agg (ints .i64 x).toArray) := hS 5 52 (by decide) rfl
  obtain ⟨b9, e9, L9, Z9⟩ := hS 6 9 (by decide) rfl
  obtain ⟨b10, e10, L10, Z10⟩ := hS 7 10 (by decide) rfl
  have ne9_10 : b9 ≠ b10 := fun e => hap 6 7 9 10 (by decide) (by decide) rfl rfl (by decide) rfl rfl (by rw [e9, e10, e])
  simp only [putVals, List.foldl_cons, List.foldl_nil, List.drop_succ_cons, List.drop_zero, Act.put, List.setIfInBounds_toArray, List.set_cons_succ, List.set_cons_zero, e48, e49, e50, e47, e51, e52, e9, e10]
  clear hS hap hla e48 e49 e50 e47 e51 e52 e9 e10
  have LL9 := hid hy.1.len
  have LL10 := hid hx.1.len
  have R9 := Z9.room (l' := y) hy.1.len
  have hS := Z9.stored (l' := y) hy.1.len
  replace Z10 := Z10.past (b' := b9) (ints .i64 y).toArray.toList ne9_10
  have R10 := Z10.room (l' := x) hx.1.len
  have hT := Z10.stored (l' := x) hx.1.len
  replace hS := hS.past (b' := b10) (ints .i64 x).toArray.toList (Ne.symm ne9_10)
  replace hn := hn.next (Below.setCells (Below.setCells hw L9 0 (ints .i64 y).toArray.toList) L10 0 (ints .i64 x).toArray.toList)
  replace M18 := M18.below (Below.setCells (Below.setCells hw L9 0 (ints .i64 y).toArray.toList) L10 0 (ints .i64 x).toArray.toList)
  replace hX := hX.next (Below.setCells (Below.setCells hw L9 0 (ints .i64 y).toArray.toList) L10 0 (ints .i64 x).toArray.toList)
  replace M7 := M7.below (Below.setCells (Below.setCells hw L9 0 (ints .i64 y).toArray.toList) L10 0 (ints .i64 x).toArray.toList)
  replace hY := hY.next (Below.setCells (Below.setCells hw L9 0 (ints .i64 y).toArray.toList) L10 0 (ints .i64 x).toArray.toList)
  replace hW := hW.trans (Below.mono (Below.setCells (Below.setCells hw L9 0 (ints .i64 y).toArray.toList) L10 0 (ints .i64 x).toArray.toList) hW.size)
  with_reducible refine wpList_store_mid (op := ⟨none, .store 26 (.tmp 9) (.tmp 51), _, _, _, _⟩) rfl 26 (.tmp 9) (.tmp 51) rfl b9 0 (ints .i64 y).toArray rfl rfl R9 (a26 LL9.out) (ints_all _ _) ?_
  with_reducible refine wpList_store_mid (op := ⟨none, .store 26 (.tmp 10) (.tmp 52), _, _, _, _⟩) rfl 26 (.tmp 10) (.tmp 52) rfl b10 0 (ints .i64 x).toArray rfl rfl R10 (a26 LL10.out) (ints_all _ _) ?_
  generalize ((w9.setCells b9 0 (ints .i64 y).toArray.toList).setCells b10 0 (ints .i64 x).toArray.toList) = w10 at *
  clear hw  R9 LL9 L9 Z9 R10 LL10 L10 Z10 ne9_10
  go_upto_region 14 with (fail)
  have s10 := hW.size
  refine region_seq2 8 77 (fun i => i == 6 || i == 7) [Is (.agg (ints .i64 x).toArray), Is (.agg (ints .i64 y).toArray), Is (.tuple #[(.agg (ints .i64 x).toArray), (.agg (ints .i64 y).toArray)]), Is (.tuple #[(.agg (ints .i64 x).toArray), (.agg (ints .i64 y).toArray)]), Is (.agg (ints .i64 x).toArray), Is (.agg (ints .i64 y).toArray), IsZ w10.heap.size, IsZ w10.heap.size] [54, 55, 56, 53, 57, 58, 11, 12] (by kernel_rfl) (by kernel_rfl) (Nat.le_of_eq rfl) (grows_cons (Is.grows _) (grows_cons (Is.grows _) (grows_cons (Is.grows _) (grows_cons (Is.grows _) (grows_cons (Is.grows _) (grows_cons (Is.grows _) (grows_cons (IsZ.grows _) (grows_cons (IsZ.grows _) grows_nil))))))))
    ⟨step_el rfl (.inl rfl) hX 5 rfl (by kernel_rfl) rfl rfl,
     step_el rfl (.inl rfl) hY 8 rfl (by kernel_rfl) rfl rfl,
     step_to rfl (.inl rfl) rfl cf29 (c_swap hx.1 hy.1 false) rfl (three_args (knows_in 0 54 (by decide) (by kernel_rfl) rfl rfl) (knows_in 1 55 (by decide) (by kernel_rfl) rfl rfl) (knows_const _)),
     step_mv rfl (.inl rfl) rfl rfl (knows_in 2 56 (by decide) (by kernel_rfl) rfl rfl),
     step_fst rfl (.inl rfl) rfl rfl (knows_in 3 53 (by decide) (by kernel_rfl) rfl rfl),
     step_snd rfl (.inl rfl) rfl rfl (knows_in 3 53 (by decide) (by kernel_rfl) rfl rfl),
     step_alloc26 (.inl rfl) rfl rfl,
     step_alloc26 (.inl rfl) rfl rfl, trivial⟩ ?_
  intro val w11 hw hS hap hla
  have e54 : val 54 = (.agg (ints .i64 x).toArray) := hS 0 54 (by decide) rfl
  have e55 : val 55 = (.agg (ints .i64 y).toArray) := hS 1 55 (by decide) rfl
  have e56 : val 56 = (.tuple #[(.agg (ints .i64 x).toArray), (.agg (ints .i64 y).toArray)]) := hS 2 56 (by decide) rfl
  have e53 : val 53 = (.tuple #[(.agg (ints .i64 x).toArray), (.agg (ints .i64 y).toArray)]) := hS 3 53 (by decide) rfl
  have e57 : val 57 = (.agg (ints .i64 x).toArray) := hS 4 57 (by decide) rfl
  have e58 : val 58 = (.agg (ints .i64 y).toArray) := hS 5 58 (by decide) rfl
  obtain ⟨b11, e11, L11, Z11⟩ := hS 6 11 (by decide) rfl
  obtain ⟨b12, e12, L12, Z12⟩ := hS 7 12 (by decide) rfl
  have ne11_12 : b11 ≠ b12 := fun e => hap 6 7 11 12 (by decide) (by decide) rfl rfl (by decide) rfl rfl (by rw [e11, e12, e])
  simp only [putVals, List.foldl_cons, List.foldl_nil, List.drop_succ_cons, List.drop_zero, Act.put, List.setIfInBounds_toArray, List.set_cons_succ, List.set_cons_zero, e54, e55, e56, e53, e57, e58, e11, e12]
  clear hS hap hla e54 e55 e56 e53 e57 e58 e11 e12
  have LL11 := hid hx.1.len
  have LL12 := hid hy.1.len
  have R11 := Z11.room (l' := x) hx.1.len
  have hU := Z11.stored (l' := x) hx.1.len
  replace Z12 := Z12.past (b' := b11) (ints .i64 x).toArray.toList ne11_12
  have R12 := Z12.room (l' := y) hy.1.len
  have hV := Z12.stored (l' := y) hy.1.len
  replace hU := hU.past (b' := b12) (ints .i64 y).toArray.toList (Ne.symm ne11_12)
  replace hn := hn.next (Below.setCells (Below.setCells hw L11 0 (ints .i64 x).toArray.toList) L12 0 (ints .i64 y).toArray.toList)
  replace M18 := M18.below (Below.setCells (Below.setCells hw L11 0 (ints .i64 x).toArray.toList) L12 0 (ints .i64 y).toArray.toList)
  replace hX := hX.next (Below.setCells (Below.setCells hw L11 0 (ints .i64 x).toArray.toList) L12 0 (ints .i64 y).toArray.toList)
  replace M7 := M7.below (Below.setCells (Below.setCells hw L11 0 (ints .i64 x).toArray.toList) L12 0 (ints .i64 y).toArray.toList)
  replace hY := hY.next (Below.setCells (Below.setCells hw L11 0 (ints .i64 x).toArray.toList) L12 0 (ints .i64 y).toArray.toList)
  replace hS := hS.next (Below.setCells (Below.setCells hw L11 0 (ints .i64 x).toArray.toList) L12 0 (ints .i64 y).toArray.toList)
  replace hT := hT.next (Below.setCells (Below.setCells hw L11 0 (ints .i64 x).toArray.toList) L12 0 (ints .i64 y).toArray.toList)
  replace hW := hW.trans (Below.mono (Below.setCells (Below.setCells hw L11 0 (ints .i64 x).toArray.toList) L12 0 (ints .i64 y).toArray.toList) hW.size)
  with_reducible refine wpList_store_mid (op := ⟨none, .store 26 (.tmp 11) (.tmp 57), _, _, _, _⟩) rfl 26 (.tmp 11) (.tmp 57) rfl b11 0 (ints .i64 x).toArray rfl rfl R11 (a26 LL11.out) (ints_all _ _) ?_
  with_reducible refine wpList_store_mid (op := ⟨none, .store 26 (.tmp 12) (.tmp 58), _, _, _, _⟩) rfl 26 (.tmp 12) (.tmp 58) rfl b12 0 (ints .i64 y).toArray rfl rfl R12 (a26 LL12.out) (ints_all _ _) ?_
  generalize ((w11.setCells b11 0 (ints .i64 x).toArray.toList).setCells b12 0 (ints .i64 y).toArray.toList) = w12 at *
  clear hw  R11 LL11 L11 Z11 R12 LL12 L12 Z12 ne11_12
  go_upto_region 15 with (fail)
  have s12 := hW.size
  refine region_seq2 19 77 (fun _ => false) [Is (.agg (ints .i64 y).toArray), Is (.agg (ints .i64 y).toArray), Is (.bool true), Is (.bool true), Is (.agg (ints .i64 x).toArray), Is (.agg (ints .i64 x).toArray), Is (.bool true), Is (.bool true), Is (.bool true), Is (.agg (ints .i64 x).toArray), Is (.agg (ints .i64 x).toArray), Is (.bool true), Is (.bool true), Is (.bool true), Is (.agg (ints .i64 y).toArray), Is (.agg (ints .i64 y).toArray), Is (.bool true), Is (.bool true), Is (.bool true)] [59, 60, 61, 62, 63, 64, 65, 66, 67, 68, 69, 70, 71, 72, 73, 74, 75, 76, 4] (by kernel_rfl) (by kernel_rfl) (Nat.le_of_eq rfl) (grows_cons (Is.grows _) (grows_cons (Is.grows _) (grows_cons (Is.grows _) (grows_cons (Is.grows _) (grows_cons (Is.grows _) (grows_cons (Is.grows _) (grows_cons (Is.grows _) (grows_cons (Is.grows _) (grows_cons (Is.grows _) (grows_cons (Is.grows _) (grows_cons (Is.grows _) (grows_cons (Is.grows _) (grows_cons (Is.grows _) (grows_cons (Is.grows _) (grows_cons (Is.grows _) (grows_cons (Is.grows _) (grows_cons (Is.grows _) (grows_cons (Is.grows _) (grows_cons (Is.grows _) grows_nil)))))))))))))))))))
    ⟨step_el rfl (.inl rfl) hS 9 rfl (by kernel_rfl) rfl rfl,
     step_el rfl (.inl rfl) hY 8 rfl (by kernel_rfl) rfl rfl,
     step_to rfl (.inl rfl) rfl cf14 (hy.same hy) rfl (two_args (knows_in 0 59 (by decide) (by kernel_rfl) rfl rfl) (knows_in 1 60 (by decide) (by kernel_rfl) rfl rfl)),
     step_mv rfl (.inl rfl) rfl rfl (knows_in 2 61 (by decide) (by kernel_rfl) rfl rfl),
     step_el rfl (.inr ⟨3, true, 62, rfl, by decide, by kernel_rfl, rfl, fun _ _ h => h⟩) hT 10 rfl (by kernel_rfl) rfl rfl,
     step_el rfl (.inr ⟨3, true, 62, rfl, by decide, by kernel_rfl, rfl, fun _ _ h => h⟩) hX 5 rfl (by kernel_rfl) rfl rfl,
     step_to rfl (.inr ⟨3, true, 62, rfl, by decide, by kernel_rfl, rfl, fun _ _ h => h⟩) rfl cf14 (hx.same hx) rfl (two_args (knows_in 4 63 (by decide) (by kernel_rfl) rfl rfl) (knows_in 5 64 (by decide) (by kernel_rfl) rfl rfl)),
     step_pick rfl (.inl rfl) (b := true) rfl rfl (knows_in 3 62 (by decide) (by kernel_rfl) rfl rfl) (knows_in 6 65 (by decide) (by kernel_rfl) rfl rfl),
     step_mv rfl (.inl rfl) rfl rfl (knows_in 7 66 (by decide) (by kernel_rfl) rfl rfl),
     step_el rfl (.inr ⟨8, true, 67, rfl, by decide, by kernel_rfl, rfl, fun _ _ h => h⟩) hU 11 rfl (by kernel_rfl) rfl rfl,
     step_el rfl (.inr ⟨8, true, 67, rfl, by decide, by kernel_rfl, rfl, fun _ _ h => h⟩) hX 5 rfl (by kernel_rfl) rfl rfl,
     step_to rfl (.inr ⟨8, true, 67, rfl, by decide, by kernel_rfl, rfl, fun _ _ h => h⟩) rfl cf14 (hx.same hx) rfl (two_args (knows_in 9 68 (by decide) (by kernel_rfl) rfl rfl) (knows_in 10 69 (by decide) (by kernel_rfl) rfl rfl)),
     step_pick rfl (.inl rfl) (b := true) rfl rfl (knows_in 8 67 (by decide) (by kernel_rfl) rfl rfl) (knows_in 11 70 (by decide) (by kernel_rfl) rfl rfl),
     step_mv rfl (.inl rfl) rfl rfl (knows_in 12 71 (by decide) (by kernel_rfl) rfl rfl),
     step_el rfl (.inr ⟨13, true, 72, rfl, by decide, by kernel_rfl, rfl, fun _ _ h => h⟩) hV 12 rfl (by kernel_rfl) rfl rfl,
     step_el rfl (.inr ⟨13, true, 72, rfl, by decide, by kernel_rfl, rfl, fun _ _ h => h⟩) hY 8 rfl (by kernel_rfl) rfl rfl,
     step_to rfl (.inr ⟨13, true, 72, rfl, by decide, by kernel_rfl, rfl, fun _ _ h => h⟩) rfl cf14 (hy.same hy) rfl (two_args (knows_in 14 73 (by decide) (by kernel_rfl) rfl rfl) (knows_in 15 74 (by decide) (by kernel_rfl) rfl rfl)),
     step_pick rfl (.inl rfl) (b := true) rfl rfl (knows_in 13 72 (by decide) (by kernel_rfl) rfl rfl) (knows_in 16 75 (by decide) (by kernel_rfl) rfl rfl),
     step_asg rfl (.inl rfl) rfl rfl (knows_in 17 76 (by decide) (by kernel_rfl) rfl rfl), trivial⟩ ?_
  intro val w13 hw hS hap hla
  have e59 : val 59 = (.agg (ints .i64 y).toArray) := hS 0 59 (by decide) rfl
  have e60 : val 60 = (.agg (ints .i64 y).toArray) := hS 1 60 (by decide) rfl
  have e61 : val 61 = (.bool true) := hS 2 61 (by decide) rfl
  have e62 : val 62 = (.bool true) := hS 3 62 (by decide) rfl
  have e63 : val 63 = (.agg (ints .i64 x).toArray) := hS 4 63 (by decide) rfl
  have e64 : val 64 = (.agg (ints .i64 x).toArray) := hS 5 64 (by decide) rfl
  have e65 : val 65 = (.bool true) := hS 6 65 (by decide) rfl
  have e66 : val 66 = (.bool true) := hS 7 66 (by decide) rfl
  have e67 : val 67 = (.bool true) := hS 8 67 (by decide) rfl
  have e68 : val 68 = (.agg (ints .i64 x).toArray) := hS 9 68 (by decide) rfl
  have e69 : val 69 = (.agg (ints .i64 x).toArray) := hS 10 69 (by decide) rfl
  have e70 : val 70 = (.bool true) := hS 11 70 (by decide) rfl
  have e71 : val 71 = (.bool true) := hS 12 71 (by decide) rfl
  have e72 : val 72 = (.bool true) := hS 13 72 (by decide) rfl
  have e73 : val 73 = (.agg (ints .i64 y).toArray) := hS 14 73 (by decide) rfl
  have e74 : val 74 = (.agg (ints .i64 y).toArray) := hS 15 74 (by decide) rfl
  have e75 : val 75 = (.bool true) := hS 16 75 (by decide) rfl
  have e76 : val 76 = (.bool true) := hS 17 76 (by decide) rfl
  have e4 : val 4 = (.bool true) := hS 18 4 (by decide) rfl
  simp only [putVals, List.foldl_cons, List.foldl_nil, List.drop_succ_cons, List.drop_zero, Act.put, List.setIfInBounds_toArray, List.set_cons_succ, List.set_cons_zero, e59, e60, e61, e62, e63, e64, e65, e66, e67, e68, e69, e70, e71, e72, e73, e74, e75, e76, e4]
  clear hS hap hla e59 e60 e61 e62 e63 e64 e65 e66 e67 e68 e69 e70 e71 e72 e73 e74 e75 e76 e4
  replace hn := hn.next hw
  replace M18 := M18.below hw
  replace hX := hX.next hw
  replace M7 := M7.below hw
  replace hY := hY.next hw
  replace hS := hS.next hw
  replace hT := hT.next hw
  replace hU := hU.next hw
  replace hV := hV.next hw
  replace hW := hW.trans (Below.mono hw hW.size)
  clear hw
  go_wp2_with (fail)
  go_ret
  exact ⟨rfl, hW⟩
theorem fePowers_walk (W : World) (b : List Int) (lb : b.length = 32) (wb : ∀ x ∈ b, (Lit.int .u8 x).wf = true) (n : List Int) (ln : n.length = 32) (wn : ∀ x ∈ n, (Lit.int .u8 x).wf = true) :
    Calls Try.prog 5 #[.agg (ints .u8 b).toArray, .agg (ints .u8 n).toArray] W fun e w' => e = .returned (.bool true) ∧ Below W.heap.size W w' := by
  have bb := byt_of_wf wb
  have bn := byt_of_wf wn
  have hx := Nm.of (ofL_el bb)
  have hy := Nm.of (ofL_el bn)
  have rb := hid (fun w : World => rof_out (w := w) lb bb hx)
  by_cases hz : (ev (ofL b) % P).toNat = 0
  · have hu := hx.inv
    have e : (ev (ofL b) % P).toNat ^ (NT.PN - 2) % NT.PN = 0 := by
      rw [hz, Nat.zero_pow (by decide), Nat.zero_mod]
    rw [e] at hu
    exact fePowers_zero W b n lb (hid ln) (hid bn) hx hy (hid rfl) (hx.pow ln bn) hu (c_of lb bb) (c_of ln bn) rb (c_pow hx.1 ln bn) (c_inv hx.1) (hid (decide_eq_true hz))
  · have hone : (ev (ofL b) % P).toNat ^ (NT.PN - 2) % NT.PN * (ev (ofL b) % P).toNat % NT.PN = 1 := by
      have h := NT.fermat (ev (ofL b) % P).toNat (by omega) hx.lt
      have e : NT.PN - 1 = (NT.PN - 2) + 1 := by decide
      rw [e, Nat.pow_succ, Nat.mul_mod] at h
      rw [Nat.mul_mod, Nat.mod_mod]
      exact h
    exact fePowers_one W b n lb (hid ln) (hid bn) hx hy (hid rfl) (hx.pow ln bn) hx.inv (c_of lb bb) (c_of ln bn) rb (c_pow hx.1 ln bn) (c_inv hx.1) (hid (decide_eq_false hz)) (hid hone)
end Go.Proofs.Ytddjfhmkebhndaa
