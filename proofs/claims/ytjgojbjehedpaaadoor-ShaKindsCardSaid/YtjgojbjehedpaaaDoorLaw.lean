/- The chapter's example; the law of sums. -/
import Derived.Test.YtjgojbjehedpaaaDoorOne
import Derived.Test.YtjgojbjehedpaaaDoorAbc
import Derived.Test.YtjgojbjehedpaaaDoorRefSum
import Derived.Handy
namespace Go.Proofs.YtjgojbjehedpaaaDoor
open Go.RowKit

section
variable {P : Program} {ops : Array Oper} {C : World → Prop}
/-- A region all of whose operations are quiet in C. -/
theorem region_quiet_in {id : Nat} {Q : Exit → Act → World → Prop} {a : Act} {w : World} {l : List Oper} (C : World → Prop) (hm : P.follows .mixedOrders = true) (hB : Region.lexB .any l.toArray = true) (hC : C w.drew)
    (h : wpQuiet P l.toArray C (fun a' => ∀ w', C w' → Q .normal a' w') l a) : (Code.region id l.toArray true).wp P Q a w := wp_region_quiet hm hB hC (by simpa using h)
theorem qs_pure {Q : Act → Prop} {a : Act} {o : Oper} {rest : List Oper} (v : Value) (hw : Region.wanted o (yielded ops a.tmps) = true) (hr : ∀ w, (execOp a.eval o).run P w = .ok (.value v) w) (h : wpQuiet P ops C Q rest (a.put o.dst v)) : wpQuiet P ops C Q (o :: rest) a := by
  unfold wpQuiet
  rw [if_pos hw]
  exact ⟨v, fun w _ => by unfold Oper.quietAt; rw [hr]; exact ⟨rfl, rfl⟩, h⟩
theorem qs_read {Q : Act → Prop} {a : Act} {o : Oper} {rest : List Oper} (v : Value) (hw : Region.wanted o (yielded ops a.tmps) = true) (hr : ∀ w, C w → (execOp a.eval o).run P w = .ok (.value v) w) (h : wpQuiet P ops C Q rest (a.put o.dst v)) : wpQuiet P ops C Q (o :: rest) a := by
  unfold wpQuiet
  rw [if_pos hw]
  exact ⟨v, fun w hc => by unfold Oper.quietAt; rw [hr w hc]; exact ⟨rfl, rfl⟩, h⟩
theorem qs_call {Q : Act → Prop} {a : Act} {o : Oper} {rest : List Oper} (v : Value) (f : FuncId) (args : Array Value) (hw : Region.wanted o (yielded ops a.tmps) = true) (hr : ∀ w, (execOp a.eval o).run P w = .ok (.enter f args) w)
    (hc : ∀ w, C w → Calls P f args w fun e w' => e = .returned v ∧ C w') (h : wpQuiet P ops C Q rest (a.put o.dst v)) : wpQuiet P ops C Q (o :: rest) a := by
  unfold wpQuiet
  rw [if_pos hw]
  exact ⟨v, fun w hC => by unfold Oper.quietAt; rw [hr]; exact ⟨rfl, hc w hC⟩, h⟩
end

theorem eq64 (xs : List Int) (h : xs.length = 64) (W : World) : (Op.equalIn 10000 24 (.agg (ints .u8 xs).toArray) (.agg (ints .u8 xs).toArray)).run Tryd.prog W = .ok true W := by
  have := hash_eq_run 24 5 64 xs Tryd.underlying24 Tryd.underlying5 (by kernel_rfl) h.symm 9998 W
  simpa using this
theorem ex_load {P : Program} {w : World} {o : Oper} {ev : Operand → Value} (ty : TypeId) (x : Operand) (ho : o.op = .load ty x) (b off : Nat) (hx : ev x = .pointer (some ⟨b, off, none⟩)) (cs : List Value) (d : TypeDesc) (hc : w.rangeAt b off cs)
    (hu : P.underlying ty = some d) (hd : d.isRow = true) (hi : (P.info? ty).map (·.size) = some cs.length) : (execOp ev o).run P w = .ok (.value (.agg cs.toArray)) w := by
  unfold execOp
  simp only [ho, hx, Instr.loadAt, Instr.sureAddr, Sem.run_bind, Sem.run_pure, Result.andThen_ok, run_loadVar_mid w b off ty cs d hc hu hd hi]
theorem OnePart.new (w : World) (A : Option Addr) (c : Nat) (b : List Int) (hA : Nums w .u8 A b) (hbc : b.length ≤ c) (hl : b.length ≤ 1000) (hby : Byt b) : OnePart (w.alloc (.cells #[.slice A b.length c] 22)) w.heap.size A c b :=
  ⟨by go_simp, hA.below (below_new _ _), hbc, hl, hby⟩

set_option maxHeartbeats 1000000 in
theorem awake_any (w : World) (ht : Tabs w) : Calls Tryd.prog 7 #[] w fun e w' => e = .returned (.bool true) ∧ Below w.heap.size w w' := by
  obtain ⟨z24, s24⟩ := zero_of_info Tryd.info24
  have hN : Nums (w.alloc (.cells #[.int .u8 97, .int .u8 98, .int .u8 99] 5)) .u8 (some ⟨w.heap.size, 0, none⟩) [97, 98, 99] := nums_lits w .u8 [97, 98, 99] 5 _ rfl
  have h1 := OnePart.new (w.alloc (.cells #[.int .u8 97, .int .u8 98, .int .u8 99] 5)) (some ⟨w.heap.size, 0, none⟩) 3 [97, 98, 99] hN (by decide) (by decide) (fun x hx => by simp at hx; rcases hx with rfl | rfl | rfl <;> exact ⟨by omega, by omega⟩)
  rw [World.size_alloc] at h1
  have hb0 := (below_new w (.cells #[.int .u8 97, .int .u8 98, .int .u8 99] 5)).alloc (by simp) (.cells #[.slice (some ⟨w.heap.size, 0, none⟩) 3 3] 22)
  have ht1 : Tabs _ := ht.next hb0
  go_enter Tryd.func7, Tryd.ntmps7
  go_wp2_with (first
    | (go_at_call 8; refine (sum_one (w.heap.size + 1) (some ⟨w.heap.size, 0, none⟩) 3 [97, 98, 99] _ ht1 h1).mono ?_; rintro e w1 ⟨ys, rfl, HY, HL, hb1⟩; obtain ⟨hth, hA1⟩ := store_new w1 .u8 64 24 ys HL.out; have hsz : (Tryd.prog.info? 24).map (·.size) = some (ints .u8 ys).toArray.size := (by rw [s24]; simp [HL.out]); obtain ⟨q0, q1, q2, q3⟩ := abc_bytes; rw [← HY.out] at q0 q1 q2 q3; have d0 := hA1.at_ q0; have d1 := hA1.at_ q1; have d2 := hA1.at_ q2; have d3 := hA1.at_ q3; clear q0 q1 q2 q3)
    | (with_reducible refine wpList_store_mid (op := ⟨none, .store 24 (.tmp 1) (.tmp 4), _, _, _, _⟩) rfl 24 (.tmp 1) (.tmp 4) rfl _ 0 (ints .u8 ys).toArray rfl rfl hth hsz (ints_all _ _) ?_))
  go_ret
  have h2 : Below w.heap.size w w1 := hb0.trans (hb1.mono (by simp; omega))
  exact ⟨rfl, Below.setCells (h2.alloc h2.size _) h2.size _ _⟩

/-- Two new rows, stored. -/
def WA (w : World) : World := (w.alloc (.cells (ints .u8 (zeros 64)).toArray 24)).alloc (.cells (ints .u8 (zeros 32)).toArray 26)
theorem WA_a (w : World) : Arr (WA w) w.heap.size 0 .u8 (zeros 64) := (Arr.made w .u8 (zeros 64) 24).alloc _
theorem WA_b (w : World) : Arr (WA w) (w.heap.size + 1) 0 .u8 (zeros 32) := by
  have h := Arr.made (w.alloc (.cells (ints .u8 (zeros 64)).toArray 24)) .u8 (zeros 32) 26
  rw [World.size_alloc] at h
  exact h
theorem there_len {w : World} {b o n : Nat} {k : IntKind} {ys : List Int} (h : Arr w b o k (zeros n)) (hl : ys.length = n) : w.there b o (ints k ys).toArray.size := by
  have := h.there
  rw [zeros_len] at this
  simpa [hl] using this
theorem store_two (w : World) (y1 y2 : List Int) (h1 : y1.length = 64) (h2 : y2.length = 32) :
    (WA w).there w.heap.size 0 (ints .u8 y1).toArray.size ∧ ((WA w).setCells w.heap.size 0 (ints .u8 y1).toArray.toList).there (w.heap.size + 1) 0 (ints .u8 y2).toArray.size ∧
    Arr (((WA w).setCells w.heap.size 0 (ints .u8 y1).toArray.toList).setCells (w.heap.size + 1) 0 (ints .u8 y2).toArray.toList) w.heap.size 0 .u8 y1 ∧
    Arr (((WA w).setCells w.heap.size 0 (ints .u8 y1).toArray.toList).setCells (w.heap.size + 1) 0 (ints .u8 y2).toArray.toList) (w.heap.size + 1) 0 .u8 y2 := by
  have a1 : Arr ((WA w).setCells w.heap.size 0 (ints .u8 y1).toArray.toList) w.heap.size 0 .u8 y1 := (WA_a w).all (by rw [zeros_len, h1])
  have b1 : Arr ((WA w).setCells w.heap.size 0 (ints .u8 y1).toArray.toList) (w.heap.size + 1) 0 .u8 (zeros 32) := (WA_b w).past _ (.inl (by omega))
  exact ⟨there_len (WA_a w) h1, there_len b1 h2, a1.past _ (.inl (by omega)), b1.all (by rw [zeros_len, h2])⟩
theorem same_lit (A B : Option Addr) (c d n : Nat) (xs ys : List Int) (w : World) (h1 : n = xs.length) (h2 : n = ys.length) (he : xs = ys) (hm : xs.length ≤ 1000) (hA : Nums w .u8 A xs) (hB : Nums w .u8 B ys) :
    Calls Tryd.prog 11 #[.slice A n c, .slice B n d] w fun e w' => e = .returned (.bool true) ∧ Below w.heap.size w w' := by
  have h := same_eq A B c d xs ys w he (by unfold maxLen; omega) hA hB
  rw [← h1, ← h2] at h
  exact h

set_option maxRecDepth 4000 in
set_option maxHeartbeats 2000000 in
theorem sums_in (w : World) (ht : Tabs w) (A : Option Addr) (c : Nat) (b : List Int) (hl : b.length ≤ 600) (hc : b.length ≤ c) (hby : Byt b) (hA : Nums w .u8 A b) :
    Calls Tryd.prog 3 #[.slice A b.length c] w fun e w' => e = .returned (.bool true) ∧ Below w.heap.size w w' := by
  obtain ⟨z24, s24⟩ := zero_of_info Tryd.info24
  obtain ⟨z26, s26⟩ := zero_of_info Tryd.info26
  go_enter Tryd.func3, Tryd.ntmps3
  go_wp2_with (first
    | (go_at_call 7; refine (awake_any w ht).mono ?_; rintro e w0 ⟨rfl, hb0⟩; have hA0 := hA.below hb0; have h1 := OnePart.new w0 A c b hA0 hc (by omega) hby; have hbb1 := hb0.alloc hb0.size (.cells #[.slice A b.length c] 22); have ht1 : Tabs _ := ht.next hbb1)
    | (go_at_call 8; refine (sum_one w0.heap.size A c b _ ht1 h1).mono ?_; rintro e w1 ⟨y1, rfl, HY1, HL1, hb1⟩; have hbx1 := hbb1.trans (hb1.mono hbb1.size); have hA1 := hA.below hbx1; have h2 := OnePart.new w1 A c b hA1 hc (by omega) hby; have hbb2 := hbx1.alloc hbx1.size (.cells #[.slice A b.length c] 22); have ht2 : Tabs _ := ht.next hbb2)
    | (go_at_call 9; refine (half_one w1.heap.size A c b _ ht2 h2).mono ?_; rintro e w2 ⟨y2, rfl, HY2, HL2, hb2⟩; have hbx2 := hbb2.trans (hb2.mono hbb2.size))
    | (with_reducible refine wpList_store_mid (op := ⟨none, .store 24 (.tmp 3) (.tmp 12), _, _, _, _⟩) rfl 24 (.tmp 3) (.tmp 12) rfl _ 0 (ints .u8 y1).toArray rfl rfl ?_ ?_ (ints_all _ _) ?_)
    | (with_reducible refine wpList_store_mid (op := ⟨none, .store 26 (.tmp 4) (.tmp 15), _, _, _, _⟩) rfl 26 (.tmp 4) (.tmp 15) rfl _ 0 (ints .u8 y2).toArray rfl rfl ?_ ?_ (ints_all _ _) ?_))
  · exact (store_two w2 y1 y2 HL1.out HL2.out).1
  · rw [s24]; simp [HL1.out]
  · have h := (store_two w2 y1 y2 HL1.out HL2.out).2.1
    simp only [List.size_toArray, ints_length] at h
    exact h
  · rw [s26]; simp [HL2.out]
  obtain ⟨_, _, hA3, hA4⟩ := store_two w2 y1 y2 HL1.out HL2.out
  have hbx3 : Below w.heap.size w (((WA w2).setCells w2.heap.size 0 (ints .u8 y1).toArray.toList).setCells (w2.heap.size + 1) 0 (ints .u8 y2).toArray.toList) :=
    Below.setCells (Below.setCells ((hbx2.alloc hbx2.size _).alloc (by have := hbx2.size; simp; omega) _) hbx2.size _ _) (by have := hbx2.size; omega) _ _
  have hsz3 : (((WA w2).setCells w2.heap.size 0 (ints .u8 y1).toArray.toList).setCells (w2.heap.size + 1) 0 (ints .u8 y2).toArray.toList).heap.size = w2.heap.size + 2 := by
    rw [setCells_size, setCells_size]; simp [WA]
  change Code.wp _ _ _ _ (((WA w2).setCells w2.heap.size 0 (ints .u8 y1).toArray.toList).setCells (w2.heap.size + 1) 0 (ints .u8 y2).toArray.toList)
  generalize ((WA w2).setCells w2.heap.size 0 (ints .u8 y1).toArray.toList).setCells (w2.heap.size + 1) 0 (ints .u8 y2).toArray.toList = W at *
  have hAW := hA.below hbx3
  have HSZ := hid hsz3
  clear hsz3
  refine region_quiet_in (fun w' => Below W.heap.size W w') (by kernel_rfl) (by kernel_rfl) (below_drewN (Below.refl _ _) 1) ?_
  refine qs_read (.agg (ints .u8 y1).toArray) rfl (fun w' hw' => ?_) ?_
  · exact ex_load 24 (.tmp 3) rfl w2.heap.size 0 rfl (ints .u8 y1) _ (hA3.below hw' (by rw [HSZ.out]; omega)).range Tryd.underlying24 rfl (by rw [s24, ints_length, HL1.out])
  refine qs_pure (.slice A b.length c) rfl (fun w' => rfl) ?_
  have heg : Tryd.prog.eqGuardType Tryd.prog.depth 24 = false := by kernel_rfl
  have heq : ∀ W, (Op.equalIn 10000 24 (.agg (ints .u8 y1).toArray) (.agg (ints .u8 y1).toArray)).run Tryd.prog W = .ok true W := eq64 y1 HL1.out
  have hy2 : y2 = (y1.drop 0).take 32 := by rw [HY2.out, HY1.out]; rfl
  have HYY := hid hy2
  clear hy2
  refine qs_call (.agg (ints .u8 y1).toArray) 10 #[.slice A b.length c] rfl (fun w' => by go_simp) (fun w' hw' => ?_) ?_
  · refine (rsum_any A c b w' (by omega) hby (hAW.below hw')).mono fun e w3 ⟨y3, he, HY3, _, hb3⟩ => ⟨?_, hw'.trans (hb3.mono hw'.size)⟩
    rw [he, HY3.out, HY1.out]
  refine qs_pure (.bool true) rfl (fun w' => by go_simp) ?_
  refine qs_pure (.bool true) rfl (fun w' => by go_simp) ?_
  go_simp
  refine qs_pure (.slice (some ⟨w2.heap.size + 1, 0, none⟩) 32 32) rfl (fun w' => by go_simp) ?_
  go_simp
  refine qs_pure (.slice (some ⟨w2.heap.size, 0, none⟩) 32 64) rfl (fun w' => by go_simp) ?_
  go_simp
  refine qs_call (.bool true) 11 #[.slice (some ⟨w2.heap.size + 1, 0, none⟩) 32 32, .slice (some ⟨w2.heap.size, 0, none⟩) 32 64] rfl (fun w' => by go_simp) (fun w' hw' => ?_) ?_
  · have h3 := hA3.below hw' (by rw [HSZ.out]; omega)
    have h4 := hA4.below hw' (by rw [HSZ.out]; omega)
    have h5 := (h3.cut (lo := 0) (m := 32) (by rw [HL1.out]; omega)).nums
    refine (same_lit (some ⟨w2.heap.size + 1, 0, none⟩) (some ⟨w2.heap.size, 0 + 0, none⟩) 32 64 32 y2 ((y1.drop 0).take 32) w' HL2.out.symm (by simp [HL1.out]) HYY.out (by rw [HL2.out]; omega) h4.nums h5).mono fun e w3 ⟨he, hb3⟩ => ⟨he, hw'.trans (hb3.mono hw'.size)⟩
  go_simp
  refine qs_pure (.bool true) rfl (fun w' => by go_simp) ?_
  go_simp
  refine qs_pure (.bool true) rfl (fun w' => by go_simp) ?_
  go_simp
  refine wpQuiet_nil ?_
  intro w' hw'
  go_wp2
  go_ret
  exact ⟨rfl, hbx3.trans (hw'.mono hbx3.size)⟩

theorem byt_of_wf {xs : List Int} (h : ∀ x ∈ xs, (Lit.int .u8 x).wf = true) : Byt xs := fun x hx => by
  have := bounds_u8 (h x hx)
  exact ⟨this.1, by omega⟩
theorem shaSums_walk (w : World) (ht : Tabs w) (A : Option Addr) (c : Nat) (b : List Int) (hc : b.length ≤ c) (_ : c ≤ maxLen) (hx : ∀ x ∈ b, (Lit.int .u8 x).wf = true) (hA : Nums w .u8 A b) :
    Calls Tryd.prog 3 #[.slice A b.length c] w fun e w' => e = .returned (.bool true) ∧ Below w.heap.size w w' := by
  by_cases hl : 600 < b.length
  · go_enter Tryd.func3, Tryd.ntmps3
    go_wp2_with (go_at_call 7; refine (awake_any w ht).mono ?_; rintro e w0 ⟨rfl, hb0⟩)
    go_ret
    exact ⟨rfl, hb0⟩
  · exact sums_in w ht A c b (by omega) hc (byt_of_wf hx) hA
end Go.Proofs.YtjgojbjehedpaaaDoor
