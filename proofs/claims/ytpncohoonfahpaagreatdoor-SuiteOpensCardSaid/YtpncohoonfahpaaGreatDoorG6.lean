/- Texts of this proof, laid together: HPad, HSum. -/
import Derived.Test.YtpncohoonfahpaaGreatDoorG5
import Derived.Test.YtpncohoonfahpaaGreatDoorG4
import Derived.Lib.AppendZerosOnto
/- The padding. -/
namespace Go.Proofs.YtpncohoonfahpaaGreatDoor
open Go.RowKit Go.ChangeShapes Go.WideShapes

/-- What follows n bytes. -/
def padB (n : Nat) : List Int := [128] ++ hzeros (127 - (n + 16) % 128) ++ splitB true 8 [0, 8 * (n : Int)]
set_option maxRecDepth 50000 in
theorem padB_length (n : Nat) : (padB n).length = 144 - (n + 16) % 128 := by
  simp [padB, hzeros, splitB_length]; omega

set_option maxRecDepth 50000 in
theorem zeroCells_u8 (n : Nat) : (Builtin.zeroCells #[.int .u8 0] n).toList = (hzeros n).map (Value.int .u8) := by
  apply List.ext_getElem?
  intro i
  by_cases h : i < n <;> simp [Builtin.zeroCells, hzeros, h, Nat.mod_one]

set_option maxRecDepth 50000 in
theorem run_zeros {P : Program} (w : World) (t tn ty e : TypeId) (kn : IntKind) (ht : P.underlying t = some (.slice e)) (htn : P.underlying tn = some (.int kn))
    (hinf : (P.info? e).map (fun i => (i.zero, i.size, i.bytes)) = some (some (.int .u8 0), 1, 1)) (base g k : Nat) (x : Int) (hO : Owns w base e .u8 (.slice (some ⟨g, 0, none⟩) 1 1) [x]) (hb : base ≤ w.heap.size) (hk : k ≤ 1000) :
    ∃ A' c' w', (Builtin.append_ #[t, tn] ty #[.slice (some ⟨g, 0, none⟩) 1 1, .int kn (k : Int)]).run P w = .ok (.slice A' (k + 1) c') w' ∧ Owns w' base e .u8 (.slice A' (k + 1) c') ([x] ++ hzeros k) ∧ Below w.heap.size w w' := by
  obtain ⟨i, hi, hz, hsize, hby⟩ := info_parts hinf
  obtain ⟨y, hy, _, hy2⟩ := hO.spot (j := 0) (by simp)
  have hyx : y = x := by have := hy2.out; simpa using this.symm
  subst hyx
  by_cases h0 : k = 0
  · subst h0
    refine ⟨_, _, w, ?_, by simpa [hzeros] using hO, Below.refl _ _⟩
    have hw : IntKind.i64.wrap 0 = 0 := rfl
    simp [Builtin.append_, run_underlying ht, run_underlying htn, sizeOf, typeInfo, hi, asInt, asIntOf, hw, storeCells]
  · have hold : (Builtin.firstCells i.size 1 (.slice (some ⟨g, 0, none⟩) 1 1)).run P w.drew = .ok [Value.int .u8 y].toArray w.drew := by
      have hl := run_loadCells_list (P := P) w.drew ⟨g, 0, none⟩ [Value.int .u8 y] (fun j v hv => by
        have hj : j = 0 := by have := (List.getElem?_eq_some_iff.1 hv).1; simpa using this
        subst hj
        simp at hv; subst hv
        rw [Addr.add_mid]; exact hy)
      simpa [Builtin.firstCells, hsize] using hl
    have hns := nextslicecap_le (need := 1 + k) (old := 1) (by omega)
    have h := Lib.run_append_grow_zeros (P := P) w t tn ty e i (.int .u8 0) kn kn ht htn hi hz (some ⟨g, 0, none⟩) 1 1 [.int .u8 y] hold k (by omega) (by omega) (by omega) (by omega) (by rw [hby]; omega) (by rw [hby]; omega)
    have hge := grownCap_ge w (1 + k) 1 e
    have hle := grownCap_le_maxLen w (1 + k) 1 e (by unfold maxLen; omega)
    generalize grownCap w (1 + k) 1 e = G at *
    have hzc : (Value.int .u8 0).cells.size = 1 := rfl
    refine ⟨_, _, _, by rw [h, Nat.add_comm 1 k], ?_, ((Below.refl _ _).drew).alloc (Nat.le_refl _) _⟩
    refine ⟨by simp [hzeros], .inr ⟨w.heap.size, G, _, ?_, hb, heap_alloc_new w.drew _, ?_, hle, ?_, ?_⟩⟩
    · rw [List.length_append, List.length_singleton]; simp [hzeros, Nat.add_comm k 1]
    · simp [hzeros]; omega
    · rw [Array.size_append, Array.size_append, size_zeroCells, size_zeroCells, hzc]; simp; omega
    · rw [Array.toList_append, Array.toList_append, List.take_append_of_le_length (by simp only [List.length_append, Array.length_toList, size_zeroCells, Value.cells]; simp [hzeros]), List.take_of_length_le (by simp only [List.length_append, Array.length_toList, size_zeroCells, Value.cells]; simp [hzeros])]
      simp only [Value.cells, List.map_append, zeroCells_u8]; rfl

set_option maxRecDepth 50000 in
theorem pad_byt {n : Nat} {y : List Int} (h : Hid (y = padB n)) : HByt y := by
  rw [h.out]
  intro x hx
  simp only [padB, List.mem_append, List.mem_singleton] at hx
  rcases hx with (rfl | hx) | hx
  · exact ⟨by omega, by omega⟩
  · have := List.eq_of_mem_replicate hx
    subst this; exact ⟨by omega, by omega⟩
  · exact splitB_byt _ _ _ x hx
set_option maxRecDepth 50000 in
theorem pad_no (n : Int) (w : World) (h : n < 0 ∨ 1099511627776 < n) :
    Calls Tryz.prog 157 #[.int .i64 n] w fun e w' => e = .returned (.slice none 0 0) ∧ w = w' := by
  by_cases h1 : n < 0
  · clear h
    have hd : decide (n < 0) = true := by simpa using h1
    go_enter Tryz.func157, Tryz.ntmps157
    go_wp2
    go_ret
    exact ⟨rfl, rfl⟩
  · have h2 : 1099511627776 < n := by omega
    clear h
    have hd : decide (n < 0) = false := by simpa using h1
    go_enter Tryz.func157, Tryz.ntmps157
    go_wp2
    go_ret
    exact ⟨rfl, rfl⟩
set_option maxRecDepth 50000 in
set_option maxHeartbeats 1000000 in
theorem pad_yes (n : Nat) (w : World) (h : n ≤ 1099511627776) :
    Calls Tryz.prog 157 #[.int .i64 n] w fun e w' => ∃ A c ys, e = .returned (.slice A ys.length c) ∧ Hid (ys = padB n) ∧ ys.length ≤ c ∧ NumsF w.heap.size w' .u8 A ys ∧ Below w.heap.size w w' := by
  obtain ⟨k, hk⟩ : ∃ k, k = 127 - (n + 16) % 128 := ⟨_, rfl⟩
  have HK := hid hk
  have hk127 : k ≤ 127 := by omega
  have hm1 : ((n : Int) + 16) % 128 = 127 - (k : Int) := by omega
  clear hk
  have hd : decide ((n : Int) < 0) = false := by simp
  have hd2 : ¬ (1099511627776 < (n : Int)) := by omega
  have hm2 : (127 - ((n : Int) + 17 - 1) % 128) = (k : Int) := by omega
  have hwn : IntKind.u64.wrap (n : Int) = (n : Int) := IntWalk.u64_in _ (by omega)
  have hw8 : IntKind.u64.wrap (8 * (n : Int)) = 8 * (n : Int) := IntWalk.u64_in _ (by omega)
  clear hm1
  obtain ⟨A1, c1, w1, hr1, hO1, hb1⟩ := run_zeros (P := Tryz.prog) (w.alloc (.cells #[.int .u8 128] 5)) 23 3 23 5 .i64 Tryz.underlying23 Tryz.underlying3 Tryz.info5 w.heap.size w.heap.size k 128 (Owns.new w w.heap.size 5 .u8 [128] (Nat.le_refl _) (by unfold maxLen; simp)) (by simp) (by omega)
  have hs1 := hb1.size
  rw [World.size_alloc] at hs1
  go_enter Tryz.func157, Tryz.ntmps157
  go_wp2_with (first
    | (go_at_call 158; refine (wBytes64 _ 2 [0, 8 * (n : Int)] _ (by simp) (nums_two w1 .u64 0 (8 * (n : Int)) 89)).mono ?_; rintro e w2 ⟨B2, d2, ys2, rfl, HY2, hN2, hb2⟩; have hy8 : ys2.length = 16 := (by rw [HY2.out, splitB_length]; rfl); have HY8 := hid hy8; have hy16 : ys2.length ≤ 16 := (by omega); clear hy8; have hO2 := (hO1.alloc (.cells #[.int .u64 0, .int .u64 (8 * (n : Int))] 89)).stay hb2)
    | (at_builtin; refine Lib.wpList_append_run _ rfl (.tmp 16) (.tmp 17) 23 3 rfl (.slice (some ⟨w.heap.size, 0, none⟩) 1 1) (.int .i64 k) rfl rfl _ w1 hr1 ?_)
    | (at_builtin; refine app_nums rfl (.tmp 19) (.tmp 24) 23 rfl w.heap.size 5 .u8 1 Tryz.underlying23 Tryz.info5 (by omega) A1 (k + 1) c1 ([128] ++ hzeros k) rfl hO2 B2 d2 ys2 rfl hN2.nums (by simp [hzeros]; omega) (by have := hb2.size; rw [World.size_alloc] at this; omega) ?_; intro A3 n3 c3 w3 hO3 hG3))
  go_ret
  have hn3 := hO3.len
  have hpd : [128] ++ hzeros k ++ ys2 = padB n := by rw [HY2.out]; unfold padB; rw [← HK.out]
  rw [hpd] at hO3 hn3
  have hc3 : n3 ≤ c3 := by
    rcases hO3.2 with ⟨hv, h0⟩ | ⟨g, cap, cur, hv, _, _, hle, _⟩
    · injection hv; omega
    · injection hv; omega
  refine ⟨A3, c3, padB n, by rw [← hn3]; rfl, hid rfl, by omega, hO3.fresh, ?_⟩
  have hG : Below w.heap.size w1 w3 := ((((Below.refl _ _).alloc (by omega) _)).trans (hb2.mono (by rw [World.size_alloc]; omega))).trans (hG3.below (by have := hb2.size; rw [World.size_alloc] at this; omega) (fun g hg => (hO2.lt g hg).1))
  exact ((below_new w _).trans (hb1.mono (by simp))).trans hG
end Go.Proofs.YtpncohoonfahpaaGreatDoor

/- The hash of parts. -/
namespace Go.Proofs.YtpncohoonfahpaaGreatDoor
open Go.RowKit

def hash (m : List Int) : List Int := splitB true 8 (hdgs (m ++ padB m.length)).list
def flat (ps : List (Option Addr × Nat × List Int)) : List Int := (ps.map (·.2.2)).flatten
/-- Parts lie at A. -/
def Parts (w : World) (A : Option Addr) (ps : List (Option Addr × Nat × List Int)) : Prop := 0 < ps.length → ∃ g off, A = some ⟨g, off, none⟩ ∧ g < w.heap.size ∧ ∀ i q, ps[i]? = some q → w.cell? ⟨g, off + i, none⟩ = some (.slice q.1 q.2.2.length q.2.1)
/-- What the parts are. -/
def PartOk (w : World) (q : Option Addr × Nat × List Int) : Prop := Nums w .u8 q.1 q.2.2 ∧ q.2.2.length ≤ q.2.1 ∧ q.2.2.length ≤ 1000 ∧ HByt q.2.2

set_option maxRecDepth 50000 in
theorem wpList_build_eq {P : Program} {ops : Array Oper} {rest : List Oper} {o : Oper} {a : Act} {w : World} {Q : Exit → Act → World → Prop} (hg : o.guard = none) (t : TypeId) (parts : Array (Nat × Operand)) (ho : o.op = .build t parts)
    (cells : Array Value) (hf : P.built t (parts.map fun (i, x) => (i, a.eval x)).toList = some cells) (h : wpList P ops Q rest (a.put o.dst (.agg cells)) w) : wpList P ops Q (o :: rest) a w :=
  wpList_build hg t parts ho (by rw [hf]; rfl) (by rw [hf]; exact h)

def HNEW : Array Value := (ints .u64 FIRST ++ ints .u8 (hzeros 128) ++ [Value.int .i64 0]).toArray
def HZERO : Array Value := (ints .u64 (hzeros 8) ++ ints .u8 (hzeros 128) ++ [Value.int .i64 0]).toArray
set_option maxRecDepth 50000 in
theorem Tryz.info178 : (Tryz.prog.info? 178).map (fun i => (i.zero, i.size)) = some (some (.agg HZERO), 137) := by kernel_rfl
set_option maxRecDepth 50000 in
theorem Tryz.info175 : (Tryz.prog.info? 175).map (fun i => (i.zero, i.size)) = some (some (.agg (ints .u64 (hzeros 8)).toArray), 8) := by kernel_rfl
set_option maxRecDepth 50000 in
theorem Tryz.info38 : (Tryz.prog.info? 38).map (fun i => (i.zero, i.size)) = some (some (.agg (ints .u8 (hzeros 64)).toArray), 64) := by kernel_rfl
set_option maxRecDepth 50000 in
theorem built53 : Tryz.prog.built 178 [(0, .agg (ints .u64 FIRST).toArray)] = some HNEW := by kernel_rfl
set_option maxRecDepth 50000 in
theorem HNEW_one : HNEW.all (·.oneCell') = true := by kernel_rfl
set_option maxRecDepth 50000 in
theorem HNEW_size : HNEW.size = 137 := by kernel_rfl
set_option maxRecDepth 50000 in
theorem HZERO_size : HZERO.size = 137 := by kernel_rfl
set_option maxRecDepth 50000 in
theorem HZERO_cells (w : World) (t : TypeId) : (w.alloc (.cells HZERO t)).there w.heap.size 0 137 := fun j hj => by
  rw [Nat.zero_add]
  refine ⟨?_, World.frozen?_alloc_new w _ t j⟩
  rw [World.cell?_alloc_new, Array.getElem?_eq_getElem (by rw [HZERO_size]; exact hj)]
  rfl

set_option maxRecDepth 50000 in
theorem bytes8 (s : HSt) (b : Nat) (w : World) (h : Arr w b 0 .u64 s.list) :
    Calls Tryz.prog 158 #[.slice (some ⟨b, 0, none⟩) 8 8] w fun e w' => ∃ B d ys, e = .returned (.slice B 64 d) ∧ Hid (ys = splitB true 8 s.list) ∧ Hid (ys.length = 64) ∧ NumsF w.heap.size w' .u8 B ys ∧ Below w.heap.size w w' :=
  (wBytes64 (some ⟨b, 0, none⟩) 8 s.list w (by show 8 ≤ 500; omega) h.nums).mono fun e w' ⟨B, d, ys, he, hy, hN, hb⟩ => by
    have hl : ys.length = 64 := by rw [hy.out, splitB_length]; rfl
    exact ⟨B, d, ys, by rw [he, hl], hy, hid hl, hN, hb⟩
set_option maxRecDepth 50000 in
theorem range_nums {w : World} {k : IntKind} {b o : Nat} {xs : List Int} (h : ∀ i, i < xs.length → w.cell? ⟨b, o + i, none⟩ = some (.int k (xs.getD i 0))) : w.rangeAt b o (ints k xs) := fun j v hv => by
  simp only [ints, List.getElem?_map, Option.map_eq_some_iff] at hv
  obtain ⟨x, hx, rfl⟩ := hv
  rw [h j (List.getElem?_eq_some_iff.1 hx).1]
  simp [List.getD, hx]
set_option maxRecDepth 50000 in
theorem Arr.next' {w w' : World} {b o : Nat} {k : IntKind} {xs : List Int} (h : Arr w b o k xs) (hb : Below w.heap.size w w') : Arr w' b o k xs := fun i x hi =>
  h.same (hb.block b (World.block_lt_of_cell? w _ (h i x hi).1)) i x hi
set_option maxRecDepth 50000 in
theorem dgs_nil : hdgs [] = INIT := by simp [hdgs, dgsN]
set_option maxRecDepth 50000 in
theorem abs_new (W : World) (b : Nat) (hrg : W.rangeAt b 0 HNEW.toList) (hth : W.there b 0 HNEW.toList.length) : Abs W b [] := by
  refine ⟨hzeros 128, ⟨?_, ?_, ?_, ?_, dgs_ok _, by simp [hzeros], ?_⟩, rfl⟩
  · rw [dgs_nil]
    refine Arr.of (fun j v hv => ?_) (fun j hj => hth j (by rw [Array.length_toList, HNEW_size]; have : INIT.list.length = 8 := rfl; omega))
    have e : HNEW.toList[j]? = some v := by
      show (ints .u64 FIRST ++ ints .u8 (hzeros 128) ++ [Value.int .i64 0])[j]? = some v
      have hj : j < (ints .u64 FIRST).length := (List.getElem?_eq_some_iff.1 hv).1
      rw [List.append_assoc, List.getElem?_append_left hj]; exact hv
    exact hrg j v e
  · refine Arr.of (fun j v hv => ?_) (fun j hj => by have := hth (8 + j) (by rw [Array.length_toList, HNEW_size]; simp [hzeros] at hj; omega); rw [Nat.zero_add] at this; exact this)
    have hj : j < (ints .u8 (hzeros 128)).length := (List.getElem?_eq_some_iff.1 hv).1
    have e : HNEW.toList[8 + j]? = some v := by
      show (ints .u64 FIRST ++ ints .u8 (hzeros 128) ++ [Value.int .i64 0])[8 + j]? = some v
      have h8 : (ints .u64 FIRST).length = 8 := rfl
      rw [List.append_assoc, List.getElem?_append_right (by omega), h8, Nat.add_sub_cancel_left, List.getElem?_append_left hj]; exact hv
    have := hrg (8 + j) v e
    rw [Nat.zero_add] at this; exact this
  · have := hrg 136 (.int .i64 0) rfl
    rw [Nat.zero_add] at this; exact this
  · have := (hth 136 (by rw [Array.length_toList, HNEW_size]; omega)).2
    rw [Nat.zero_add] at this; exact this
  · intro x hx
    have := List.eq_of_mem_replicate hx
    subst this; exact ⟨by omega, by omega⟩
set_option maxRecDepth 50000 in
theorem flat_take (ps : List (Option Addr × Nat × List Int)) (k : Nat) {q : Option Addr × Nat × List Int} (h : ps[k]? = some q) : flat (ps.take (k + 1)) = flat (ps.take k) ++ q.2.2 := by
  simp [flat, List.take_add_one, h]
set_option maxRecDepth 50000 in
theorem flat_take_le (ps : List (Option Addr × Nat × List Int)) (k : Nat) : (flat (ps.take k)).length ≤ (flat ps).length := by
  have h : flat ps = flat (ps.take k) ++ flat (ps.drop k) := by unfold flat; rw [← List.flatten_append, ← List.map_append, List.take_append_drop]
  rw [h, List.length_append]; omega
set_option maxRecDepth 50000 in
theorem flat_byt {w : World} {ps : List (Option Addr × Nat × List Int)} (hok : ∀ q ∈ ps, PartOk w q) : HByt (flat ps) := by
  intro x hx
  simp only [flat, List.mem_flatten, List.mem_map] at hx
  obtain ⟨l, ⟨q, hq, rfl⟩, hx⟩ := hx
  exact (hok q hq).2.2.2 x hx

set_option maxRecDepth 4000 in
set_option maxHeartbeats 1000000 in
theorem sum_any (PA : Option Addr) (pc : Nat) (ps : List (Option Addr × Nat × List Int)) (w : World) (ht : TabsH w) (hP : Parts w PA ps) (hok : ∀ q ∈ ps, PartOk w q) (hl : (flat ps).length ≤ 100000) (hpl : ps.length ≤ 1000) :
    Calls Tryz.prog 104 #[.slice PA ps.length pc] w fun e w' => ∃ ys, e = .returned (.agg (ints .u8 ys).toArray) ∧ Hid (ys = hash (flat ps)) ∧ Hid (ys.length = 64) ∧ Below w.heap.size w w' := by
  obtain ⟨z53, s53⟩ := zero_of_info Tryz.info178
  obtain ⟨z50, s50⟩ := zero_of_info Tryz.info175
  obtain ⟨z24, s24⟩ := zero_of_info Tryz.info38
  have hF : (w.alloc (.cells (ints .u8 (hzeros 64)).toArray 38)).rangeAt 0 0 (ints .u64 FIRST) := fun j v hv => by
    simp only [ints, List.getElem?_map, Option.map_eq_some_iff] at hv
    obtain ⟨x, hx, rfl⟩ := hv
    have := (ht.next (below_new w (.cells (ints .u8 (hzeros 64)).toArray 38))).2.2 j x hx
    rw [Nat.zero_add]; exact this
  have h50 : (Tryz.prog.info? 175).map (·.size) = some (ints .u64 FIRST).length := by rw [s50]; rfl
  go_enter Tryz.func104, Tryz.ntmps104
  go_wp2_with (first
    | (with_reducible refine wpList_load_mid (op := ⟨some 7, .load 175 (.global 0), _, _, _, _⟩) rfl 175 (.global 0) rfl 0 0 rfl (ints .u64 FIRST) _ hF Tryz.underlying175 rfl h50 ?_)
    | (with_reducible refine wpList_build_eq (o := ⟨some 8, .build 178 #[(0, .tmp 7)], _, _, _, _⟩) rfl 178 #[(0, .tmp 7)] rfl HNEW ?hb ?_; (case hb => exact built53))
    | (with_reducible refine wpList_store_mid (op := ⟨none, .store 178 (.tmp 3) (.tmp 8), _, _, _, _⟩) rfl 178 (.tmp 3) (.tmp 8) rfl _ 0 HNEW rfl rfl ?_ ?_ HNEW_one ?_))
  · have h := HZERO_cells (w.alloc (.cells (ints .u8 (hzeros 64)).toArray 38)) 178
    rw [World.size_alloc] at h
    rw [HNEW_size]; exact h
  · rw [s53, HNEW_size]
  obtain ⟨r, hr⟩ : ∃ r, r = w.heap.size := ⟨_, rfl⟩
  have hth : ((w.alloc (.cells (ints .u8 (hzeros 64)).toArray 38)).alloc (.cells HZERO 178)).there (r + 1) 0 HNEW.toList.length := by
    have h := HZERO_cells (w.alloc (.cells (ints .u8 (hzeros 64)).toArray 38)) 178
    rw [World.size_alloc] at h
    rw [hr, Array.length_toList, HNEW_size]; exact h
  have hrg := World.rangeAt_setCells_same _ _ _ _ hth
  have hth2 := World.there_setCells hth (r + 1) 0 HNEW.toList
  have hA0 : Abs (((w.alloc (.cells (ints .u8 (hzeros 64)).toArray 38)).alloc (.cells HZERO 178)).setCells (r + 1) 0 HNEW.toList) (r + 1) (flat (ps.take 0)) := abs_new _ _ hrg hth2
  have hR0 : Arr (((w.alloc (.cells (ints .u8 (hzeros 64)).toArray 38)).alloc (.cells HZERO 178)).setCells (r + 1) 0 HNEW.toList) r 0 .u8 (hzeros 64) := by
    have h := ((Arr.made w .u8 (hzeros 64) 38).alloc (.cells HZERO 178)).past (b' := r + 1) (o' := 0) HNEW.toList (.inl (by omega))
    rw [← hr] at h; exact h
  have hB0 : Below w.heap.size w (((w.alloc (.cells (ints .u8 (hzeros 64)).toArray 38)).alloc (.cells HZERO 178)).setCells (r + 1) 0 HNEW.toList) :=
    Below.setCells ((below_new _ _).alloc (by simp) _) (by omega) _ _
  have hS0 : (((w.alloc (.cells (ints .u8 (hzeros 64)).toArray 38)).alloc (.cells HZERO 178)).setCells (r + 1) 0 HNEW.toList).heap.size = r + 2 := by rw [setCells_size, hr]; simp
  rw [← hr] at hB0 ⊢
  have HR := hid hr
  clear hth hrg hth2 hF hr
  generalize ((w.alloc (.cells (ints .u8 (hzeros 64)).toArray 38)).alloc (.cells HZERO 178)).setCells (r + 1) 0 HNEW.toList = W at *
  generalize List.foldl (fun cs x => cs.setIfInBounds x.snd x.fst) HZERO (ints IntKind.u64 FIRST).zipIdx = c8
  have hwr := HR.out
  go_loopw [4, 11] (fun v i wr => ∃ k : Nat, k ≤ ps.length ∧ i = .int .i64 k ∧ (∃ L : Nat, v = .int .i64 L ∧ Hid (L = (flat (ps.take k)).length)) ∧ Abs wr (r + 1) (flat (ps.take k)) ∧ Only (r + 1) W wr) (fun _ i _ => ps.length - (intOf i).toNat)
  case atStart => exact ⟨0, Nat.zero_le _, rfl, ⟨0, rfl, hid rfl⟩, hA0, Only.refl _ _⟩
  case round =>
    clear hwr
    obtain ⟨k, hk, rfl, ⟨L, rfl, HL⟩, hA, hO⟩ := hrel
    have hBr : Below w.heap.size w wr := by rw [← HR.out]; exact hB0.trans (hO.below (by omega) (by omega))
    have hTr : TabsH wr := ht.next hBr
    by_cases hlt : k < ps.length
    · obtain ⟨q, hq⟩ : ∃ q, ps[k]? = some q := ⟨ps[k], by simp [hlt]⟩
      obtain ⟨hN, hqc, hq1, hqb⟩ := hok q (List.mem_of_getElem? hq)
      obtain ⟨g, off, rfl, hg, hc⟩ := hP (by omega)
      have hck := hc k q hq
      have hcr : wr.cell? ⟨g, off + k, none⟩ = some (.slice q.1 q.2.2.length q.2.1) := (hBr.cell (p := ⟨g, off + k, none⟩) hg).trans hck
      have hft := flat_take ps k hq
      have hfl := flat_take_le ps (k + 1)
      rw [hft, List.length_append] at hfl
      have HFT := hid hft
      have hLe : L + q.2.2.length ≤ 100000 := by have := HL.out; omega
      have hNr := hN.below hBr
      have hne : 0 < q.2.2.length → ∀ g o s, q.1 = some ⟨g, o, s⟩ → g ≠ r + 1 := fun hp g o s e => by
        obtain ⟨b, off, e2, hlt, _⟩ := hN hp
        rw [e2] at e; injection e with e; injection e with e1; have := HR.out; omega
      have HQ := hid hq
      clear hft hfl hck hc hq
      obtain ⟨qA, qc, qx⟩ := q
      simp only at hcr hLe hNr hne hqc hq1 hqb HFT hN
      have k0 : (0 : Int) ≤ k := by omega
      have k1 : (k : Int) < ps.length := by omega
      go_wp2_with (go_at_call 156; refine (take_any (r + 1) qA qc (flat (ps.take k)) qx _ hTr (by have := ht.1; have := HR.out; omega) hA hNr hne hqc (by omega) hqb).mono ?_; rintro e w3 ⟨rfl, hA3, hO3⟩)
      go_roundw
      case rel => exact ⟨k + 1, by omega, by go_num, ⟨L + qx.length, by go_num, by show _ = _; rw [HFT.out, List.length_append, HL.out]⟩, by rw [HFT.out]; exact hA3, hO.trans hO3⟩
      case measure => simp [intOf]; omega
    · have hkk : ps.take k = ps := List.take_of_length_le (by omega)
      rw [hkk] at HL hA
      have hL1 : (flat ps).length = L := HL.out.symm
      have hLe : L ≤ 1099511627776 := by omega
      obtain ⟨m, hm⟩ : ∃ m, m = flat ps := ⟨_, rfl⟩
      have HM := hid hm
      rw [← hm] at HL hA hl
      have hmb : HByt m := by rw [hm]; exact flat_byt hok
      clear hkk hm hL1
      have hrlt := hA.lt
      have hRw : Arr wr r 0 .u8 (hzeros 64) := hR0.only hO (by omega)
      have harr : ∀ (W : World) (A : Option Addr) (d : Nat), (Instr.arrayAt 38 (.slice A 64 d)).run Tryz.prog W = .ok (.pointer A) W := fun W A d => by simp [Instr.arrayAt, run_underlying Tryz.underlying38]
      go_wp2_with (first
        | (go_at_call 157; refine (pad_yes L _ hLe).mono ?_; rintro e w3 ⟨A3, c3, y3, rfl, HY3, hy3, hN3, hb3⟩; have hA3 := hA.next hb3; have hT3 := hTr.next hb3; have hy4 : y3.length ≤ 1000 := (by rw [HY3.out, padB_length]; omega); have hne3 : 0 < y3.length → ∀ g o s, A3 = some ⟨g, o, s⟩ → g ≠ r + 1 := (by intro hp g o s e; obtain ⟨b, off, e2, hlo, _⟩ := hN3 hp; rw [e2] at e; injection e with e; injection e with e1; omega))
        | (go_at_call 156; refine (take_any (r + 1) A3 c3 m y3 _ hT3 (by have := ht.1; have := HR.out; omega) hA3 hN3.nums hne3 hy3 (by omega) (pad_byt HY3)).mono ?_; rintro e w4 ⟨rfl, ⟨blk, hH4, _⟩, hO4⟩)
        | (go_at_call 158; refine (bytes8 (hdgs (m ++ y3)) (r + 1) _ hH4.ns).mono ?_; rintro e w5 ⟨B5, d5, y5, rfl, HY5, HL5, hN5, hb5⟩; obtain ⟨b5, o5, rfl, _, _, hc5⟩ := hN5 (by rw [HL5.out]; omega); have hrg5 := range_nums hc5; have hR5 := (((hRw.next' hb3).only hO4 (by omega)).next' hb5); have hth5 : w5.there r 0 (ints .u8 y5).toArray.size := (by have := hR5.there; simpa [hzeros, HL5.out] using this); have hsz5 : (Tryz.prog.info? 38).map (·.size) = some (ints .u8 y5).length := (by rw [s24, ints_length, HL5.out]); have hsz6 : (Tryz.prog.info? 38).map (·.size) = some (ints .u8 y5).toArray.size := (by rw [s24]; simp [HL5.out]))
        | (with_reducible refine wpList_load_mid (op := ⟨some 29, .load 38 (.tmp 28), _, _, _, _⟩) rfl 38 (.tmp 28) rfl b5 o5 rfl (ints .u8 y5) _ hrg5 Tryz.underlying38 rfl hsz5 ?_)
        | (with_reducible refine wpList_store_mid (op := ⟨none, .store 38 (.tmp 2) (.tmp 29), _, _, _, _⟩) rfl 38 (.tmp 2) (.tmp 29) rfl r 0 (ints .u8 y5).toArray rfl rfl hth5 hsz6 (ints_all _ _) ?_))
      have hfin := hR5.all (ys := y5) (by simp [hzeros, HL5.out])
      have hBf : Below w.heap.size w (w5.setCells r 0 (ints .u8 y5)) := by
        have h1 := ((hBr.trans (hb3.mono hBr.size)).trans (hO4.below (B := w.heap.size) (by have := HR.out; omega) (Nat.le_trans hBr.size hb3.size)))
        have h2 := h1.trans (hb5.mono h1.size)
        exact Below.setCells h2 (by have := HR.out; omega) _ _
      exact ret_rows rfl r 0 rfl (ints .u8 y5) _ hfin.range Tryz.underlying38 rfl hsz5 rfl ⟨y5, rfl, by show _ = _; rw [HY5.out, HY3.out, HL.out, HM.out]; rfl, HL5, hBf⟩
end Go.Proofs.YtpncohoonfahpaaGreatDoor
