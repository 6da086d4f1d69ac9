/- Texts of this proof, laid together: HSum, HSchMath, HRefA, HRefPad, HRefSum, GrowR. -/
import Derived.Test.YtkblmdakejmmhaaDoorG16
import Derived.Test.YtkblmdakejmmhaaDoorG15
import Derived.Test.YtkblmdakejmmhaaDoorG4
import Derived.Great.BuildSlice
import Derived.Test.YtkblmdakejmmhaaDoorG3
import Derived.Test.YtkblmdakejmmhaaDoorG10
/- The hash of parts. -/
namespace Go.Proofs.YtkblmdakejmmhaaDoor
open Go.RowKit

def hash (m : List Int) : List Int := splitB true 8 (hdgs (m ++ padB m.length)).list
def flat (ps : List (Option Addr × Nat × List Int)) : List Int := (ps.map (·.2.2)).flatten
/-- Parts lie at A. -/
def Parts (w : World) (A : Option Addr) (ps : List (Option Addr × Nat × List Int)) : Prop := 0 < ps.length → ∃ g off, A = some ⟨g, off, none⟩ ∧ g < w.heap.size ∧ ∀ i q, ps[i]? = some q → w.cell? ⟨g, off + i, none⟩ = some (.slice q.1 q.2.2.length q.2.1)
/-- What the parts are. -/
def PartOk (w : World) (q : Option Addr × Nat × List Int) : Prop := Nums w .u8 q.1 q.2.2 ∧ q.2.2.length ≤ q.2.1 ∧ q.2.2.length ≤ 1000 ∧ HByt q.2.2

set_option maxRecDepth 50000 in
theorem wpList_build_eq {P : Program} {ops : Array Oper} {rest : List Oper} {o : Oper} {a : Act} {w : World} {Q : Exit → Act → World → Prop} (hg : o.guard = none) (t : TypeId) (parts : Array (Nat × Operand)) (ho : o.op = .build t parts)
    (cells : Array Value) (hf : P.built t (parts.map fun (i, x) => (i, a.eval x)).toList = some cells) (h : wpList P ops Q rest (a.put o.dst (.agg cells)) w) : wpList P ops Q (o :: rest) a w :=
  wpList_build hg t parts ho (by rw [hf]; rfl) (by rw [hf]; exact h)

def HNEW : Array Value := (ints .u64 FIRST ++ ints .u8 (hzeros 128) ++ [Value.int .i64 0]).toArray
def HZERO : Array Value := (ints .u64 (hzeros 8) ++ ints .u8 (hzeros 128) ++ [Value.int .i64 0]).toArray
set_option maxRecDepth 50000 in
theorem Tryd.info106 : (Tryd.prog.info? 106).map (fun i => (i.zero, i.size)) = some (some (.agg HZERO), 137) := by kernel_rfl
set_option maxRecDepth 50000 in
theorem Tryd.info104 : (Tryd.prog.info? 104).map (fun i => (i.zero, i.size)) = some (some (.agg (ints .u64 (hzeros 8)).toArray), 8) := by kernel_rfl
set_option maxRecDepth 50000 in
theorem Tryd.info64 : (Tryd.prog.info? 64).map (fun i => (i.zero, i.size)) = some (some (.agg (ints .u8 (hzeros 64)).toArray), 64) := by kernel_rfl
set_option maxRecDepth 50000 in
theorem built53 : Tryd.prog.built 106 [(0, .agg (ints .u64 FIRST).toArray)] = some HNEW := by kernel_rfl
set_option maxRecDepth 50000 in
theorem HNEW_one : HNEW.all (·.oneCell') = true := by kernel_rfl
set_option maxRecDepth 50000 in
theorem HNEW_size : HNEW.size = 137 := by kernel_rfl
set_option maxRecDepth 50000 in
theorem HZERO_size : HZERO.size = 137 := by kernel_rfl
set_option maxRecDepth 50000 in
theorem HZERO_cells (w : World) (t : TypeId) : (w.alloc (.cells HZERO t)).there w.heap.size 0 137 := fun j hj => by
  rw [Nat.zero_add]
  refine ⟨?_, World.frozen?_alloc_new w _ t j⟩
  rw [World.cell?_alloc_new, Array.getElem?_eq_getElem (by rw [HZERO_size]; exact hj)]
  rfl

set_option maxRecDepth 50000 in
theorem bytes8 (s : HSt) (b : Nat) (w : World) (h : Arr w b 0 .u64 s.list) :
    Calls Tryd.prog 66 #[.slice (some ⟨b, 0, none⟩) 8 8] w fun e w' => ∃ B d ys, e = .returned (.slice B 64 d) ∧ Hid (ys = splitB true 8 s.list) ∧ Hid (ys.length = 64) ∧ NumsF w.heap.size w' .u8 B ys ∧ Below w.heap.size w w' :=
  (wBytes64 (some ⟨b, 0, none⟩) 8 s.list w (by show 8 ≤ 500; omega) h.nums).mono fun e w' ⟨B, d, ys, he, hy, hN, hb⟩ => by
    have hl : ys.length = 64 := by rw [hy.out, splitB_length]; rfl
    exact ⟨B, d, ys, by rw [he, hl], hy, hid hl, hN, hb⟩
set_option maxRecDepth 50000 in
theorem range_nums {w : World} {k : IntKind} {b o : Nat} {xs : List Int} (h : ∀ i, i < xs.length → w.cell? ⟨b, o + i, none⟩ = some (.int k (xs.getD i 0))) : w.rangeAt b o (ints k xs) := fun j v hv => by
  simp only [ints, List.getElem?_map, Option.map_eq_some_iff] at hv
  obtain ⟨x, hx, rfl⟩ := hv
  rw [h j (List.getElem?_eq_some_iff.1 hx).1]
  simp [List.getD, hx]
set_option maxRecDepth 50000 in
theorem Arr.next' {w w' : World} {b o : Nat} {k : IntKind} {xs : List Int} (h : Arr w b o k xs) (hb : Below w.heap.size w w') : Arr w' b o k xs := fun i x hi =>
  h.same (hb.block b (World.block_lt_of_cell? w _ (h i x hi).1)) i x hi
set_option maxRecDepth 50000 in
theorem dgs_nil : hdgs [] = INIT := by simp [hdgs, dgsN]
set_option maxRecDepth 50000 in
theorem abs_new (W : World) (b : Nat) (hrg : W.rangeAt b 0 HNEW.toList) (hth : W.there b 0 HNEW.toList.length) : Abs W b [] := by
  refine ⟨hzeros 128, ⟨?_, ?_, ?_, ?_, dgs_ok _, by simp [hzeros], ?_⟩, rfl⟩
  · rw [dgs_nil]
    refine Arr.of (fun j v hv => ?_) (fun j hj => hth j (by rw [Array.length_toList, HNEW_size]; have : INIT.list.length = 8 := rfl; omega))
    have e : HNEW.toList[j]? = some v := by
      show (ints .u64 FIRST ++ ints .u8 (hzeros 128) ++ [Value.int .i64 0])[j]? = some v
      have hj : j < (ints .u64 FIRST).length := (List.getElem?_eq_some_iff.1 hv).1
      rw [List.append_assoc, List.getElem?_append_left hj]; exact hv
    exact hrg j v e
  · refine Arr.of (fun j v hv => ?_) (fun j hj => by have := hth (8 + j) (by rw [Array.length_toList, HNEW_size]; simp [hzeros] at hj; omega); rw [Nat.zero_add] at this; exact this)
    have hj : j < (ints .u8 (hzeros 128)).length := (List.getElem?_eq_some_iff.1 hv).1
    have e : HNEW.toList[8 + j]? = some v := by
      show (ints .u64 FIRST ++ ints .u8 (hzeros 128) ++ [Value.int .i64 0])[8 + j]? = some v
      have h8 : (ints .u64 FIRST).length = 8 := rfl
      rw [List.append_assoc, List.getElem?_append_right (by omega), h8, Nat.add_sub_cancel_left, List.getElem?_append_left hj]; exact hv
    have := hrg (8 + j) v e
    rw [Nat.zero_add] at this; exact this
  · have := hrg 136 (.int .i64 0) rfl
    rw [Nat.zero_add] at this; exact this
  · have := (hth 136 (by rw [Array.length_toList, HNEW_size]; omega)).2
    rw [Nat.zero_add] at this; exact this
  · intro x hx
    have := List.eq_of_mem_replicate hx
    subst this; exact ⟨by omega, by omega⟩
set_option maxRecDepth 50000 in
theorem flat_take (ps : List (Option Addr × Nat × List Int)) (k : Nat) {q : Option Addr × Nat × List Int} (h : ps[k]? = some q) : flat (ps.take (k + 1)) = flat (ps.take k) ++ q.2.2 := by
  simp [flat, List.take_add_one, h]
set_option maxRecDepth 50000 in
theorem flat_take_le (ps : List (Option Addr × Nat × List Int)) (k : Nat) : (flat (ps.take k)).length ≤ (flat ps).length := by
  have h : flat ps = flat (ps.take k) ++ flat (ps.drop k) := by unfold flat; rw [← List.flatten_append, ← List.map_append, List.take_append_drop]
  rw [h, List.length_append]; omega
set_option maxRecDepth 50000 in
theorem flat_byt {w : World} {ps : List (Option Addr × Nat × List Int)} (hok : ∀ q ∈ ps, PartOk w q) : HByt (flat ps) := by
  intro x hx
  simp only [flat, List.mem_flatten, List.mem_map] at hx
  obtain ⟨l, ⟨q, hq, rfl⟩, hx⟩ := hx
  exact (hok q hq).2.2.2 x hx

set_option maxRecDepth 4000 in
set_option maxHeartbeats 1000000 in
theorem sum_any (PA : Option Addr) (pc : Nat) (ps : List (Option Addr × Nat × List Int)) (w : World) (ht : TabsH w) (hP : Parts w PA ps) (hok : ∀ q ∈ ps, PartOk w q) (hl : (flat ps).length ≤ 100000) (hpl : ps.length ≤ 1000) :
    Calls Tryd.prog 51 #[.slice PA ps.length pc] w fun e w' => ∃ ys, e = .returned (.agg (ints .u8 ys).toArray) ∧ Hid (ys = hash (flat ps)) ∧ Hid (ys.length = 64) ∧ Below w.heap.size w w' := by
  obtain ⟨z53, s53⟩ := zero_of_info Tryd.info106
  obtain ⟨z50, s50⟩ := zero_of_info Tryd.info104
  obtain ⟨z24, s24⟩ := zero_of_info Tryd.info64
  have hF : (w.alloc (.cells (ints .u8 (hzeros 64)).toArray 64)).rangeAt 0 0 (ints .u64 FIRST) := fun j v hv => by
    simp only [ints, List.getElem?_map, Option.map_eq_some_iff] at hv
    obtain ⟨x, hx, rfl⟩ := hv
    have := (ht.next (below_new w (.cells (ints .u8 (hzeros 64)).toArray 64))).2.2 j x hx
    rw [Nat.zero_add]; exact this
  have h50 : (Tryd.prog.info? 104).map (·.size) = some (ints .u64 FIRST).length := by rw [s50]; rfl
  go_enter Tryd.func51, Tryd.ntmps51
  go_wp2_with (first
    | (with_reducible refine wpList_load_mid (op := ⟨some 7, .load 104 (.global 0), _, _, _, _⟩) rfl 104 (.global 0) rfl 0 0 rfl (ints .u64 FIRST) _ hF Tryd.underlying104 rfl h50 ?_)
    | (with_reducible refine wpList_build_eq (o := ⟨some 8, .build 106 #[(0, .tmp 7)], _, _, _, _⟩) rfl 106 #[(0, .tmp 7)] rfl HNEW ?hb ?_; (case hb => exact built53))
    | (with_reducible refine wpList_store_mid (op := ⟨none, .store 106 (.tmp 3) (.tmp 8), _, _, _, _⟩) rfl 106 (.tmp 3) (.tmp 8) rfl _ 0 HNEW rfl rfl ?_ ?_ HNEW_one ?_))
  · have h := HZERO_cells (w.alloc (.cells (ints .u8 (hzeros 64)).toArray 64)) 106
    rw [World.size_alloc] at h
    rw [HNEW_size]; exact h
  · rw [s53, HNEW_size]
  obtain ⟨r, hr⟩ : ∃ r, r = w.heap.size := ⟨_, rfl⟩
  have hth : ((w.alloc (.cells (ints .u8 (hzeros 64)).toArray 64)).alloc (.cells HZERO 106)).there (r + 1) 0 HNEW.toList.length := by
    have h := HZERO_cells (w.alloc (.cells (ints .u8 (hzeros 64)).toArray 64)) 106
    rw [World.size_alloc] at h
    rw [hr, Array.length_toList, HNEW_size]; exact h
  have hrg := World.rangeAt_setCells_same _ _ _ _ hth
  have hth2 := World.there_setCells hth (r + 1) 0 HNEW.toList
  have hA0 : Abs (((w.alloc (.cells (ints .u8 (hzeros 64)).toArray 64)).alloc (.cells HZERO 106)).setCells (r + 1) 0 HNEW.toList) (r + 1) (flat (ps.take 0)) := abs_new _ _ hrg hth2
  have hR0 : Arr (((w.alloc (.cells (ints .u8 (hzeros 64)).toArray 64)).alloc (.cells HZERO 106)).setCells (r + 1) 0 HNEW.toList) r 0 .u8 (hzeros 64) := by
    have h := ((Arr.made w .u8 (hzeros 64) 64).alloc (.cells HZERO 106)).past (b' := r + 1) (o' := 0) HNEW.toList (.inl (by omega))
    rw [← hr] at h; exact h
  have hB0 : Below w.heap.size w (((w.alloc (.cells (ints .u8 (hzeros 64)).toArray 64)).alloc (.cells HZERO 106)).setCells (r + 1) 0 HNEW.toList) :=
    Below.setCells ((below_new _ _).alloc (by simp) _) (by omega) _ _
  have hS0 : (((w.alloc (.cells (ints .u8 (hzeros 64)).toArray 64)).alloc (.cells HZERO 106)).setCells (r + 1) 0 HNEW.toList).heap.size = r + 2 := by rw [setCells_size, hr]; simp
  rw [← hr] at hB0 ⊢
  have HR := hid hr
  clear hth hrg hth2 hF hr
  generalize ((w.alloc (.cells (ints .u8 (hzeros 64)).toArray 64)).alloc (.cells HZERO 106)).setCells (r + 1) 0 HNEW.toList = W at *
  generalize List.foldl (fun cs x => cs.setIfInBounds x.snd x.fst) HZERO (ints IntKind.u64 FIRST).zipIdx = c8
  have hwr := HR.out
  go_loopw [4, 11] (fun v i wr => ∃ k : Nat, k ≤ ps.length ∧ i = .int .i64 k ∧ (∃ L : Nat, v = .int .i64 L ∧ Hid (L = (flat (ps.take k)).length)) ∧ Abs wr (r + 1) (flat (ps.take k)) ∧ Only (r + 1) W wr) (fun _ i _ => ps.length - (intOf i).toNat)
  case atStart => exact ⟨0, Nat.zero_le _, rfl, ⟨0, rfl, hid rfl⟩, hA0, Only.refl _ _⟩
  case round =>
    clear hwr
    obtain ⟨k, hk, rfl, ⟨L, rfl, HL⟩, hA, hO⟩ := hrel
    have hBr : Below w.heap.size w wr := by rw [← HR.out]; exact hB0.trans (hO.below (by omega) (by omega))
    have hTr : TabsH wr := ht.next hBr
    by_cases hlt : k < ps.length
    · obtain ⟨q, hq⟩ : ∃ q, ps[k]? = some q := ⟨ps[k], by simp [hlt]⟩
      obtain ⟨hN, hqc, hq1, hqb⟩ := hok q (List.mem_of_getElem? hq)
      obtain ⟨g, off, rfl, hg, hc⟩ := hP (by omega)
      have hck := hc k q hq
      have hcr : wr.cell? ⟨g, off + k, none⟩ = some (.slice q.1 q.2.2.length q.2.1) := (hBr.cell (p := ⟨g, off + k, none⟩) hg).trans hck
      have hft := flat_take ps k hq
      have hfl := flat_take_le ps (k + 1)
      rw [hft, List.length_append] at hfl
      have HFT := hid hft
      have hLe : L + q.2.2.length ≤ 100000 := by have := HL.out; omega
      have hNr := hN.below hBr
      have hne : 0 < q.2.2.length → ∀ g o s, q.1 = some ⟨g, o, s⟩ → g ≠ r + 1 := fun hp g o s e => by
        obtain ⟨b, off, e2, hlt, _⟩ := hN hp
        rw [e2] at e; injection e with e; injection e with e1; have := HR.out; omega
      have HQ := hid hq
      clear hft hfl hck hc hq
      obtain ⟨qA, qc, qx⟩ := q
      simp only at hcr hLe hNr hne hqc hq1 hqb HFT hN
      have k0 : (0 : Int) ≤ k := by omega
      have k1 : (k : Int) < ps.length := by omega
      go_wp2_with (go_at_call 64; refine (take_any (r + 1) qA qc (flat (ps.take k)) qx _ hTr (by have := ht.1; have := HR.out; omega) hA hNr hne hqc (by omega) hqb).mono ?_; rintro e w3 ⟨rfl, hA3, hO3⟩)
      go_roundw
      case rel => exact ⟨k + 1, by omega, by go_num, ⟨L + qx.length, by go_num, by show _ = _; rw [HFT.out, List.length_append, HL.out]⟩, by rw [HFT.out]; exact hA3, hO.trans hO3⟩
      case measure => simp [intOf]; omega
    · have hkk : ps.take k = ps := List.take_of_length_le (by omega)
      rw [hkk] at HL hA
      have hL1 : (flat ps).length = L := HL.out.symm
      have hLe : L ≤ 1099511627776 := by omega
      obtain ⟨m, hm⟩ : ∃ m, m = flat ps := ⟨_, rfl⟩
      have HM := hid hm
      rw [← hm] at HL hA hl
      have hmb : HByt m := by rw [hm]; exact flat_byt hok
      clear hkk hm hL1
      have hrlt := hA.lt
      have hRw : Arr wr r 0 .u8 (hzeros 64) := hR0.only hO (by omega)
      have harr : ∀ (W : World) (A : Option Addr) (d : Nat), (Instr.arrayAt 64 (.slice A 64 d)).run Tryd.prog W = .ok (.pointer A) W := fun W A d => by simp [Instr.arrayAt, run_underlying Tryd.underlying64]
      go_wp2_with (first
        | (go_at_call 65; refine (pad_yes L _ hLe).mono ?_; rintro e w3 ⟨A3, c3, y3, rfl, HY3, hy3, hN3, hb3⟩; have hA3 := hA.next hb3; have hT3 := hTr.next hb3; have hy4 : y3.length ≤ 1000 := (by rw [HY3.out, padB_length]; omega); have hne3 : 0 < y3.length → ∀ g o s, A3 = some ⟨g, o, s⟩ → g ≠ r + 1 := (by intro hp g o s e; obtain ⟨b, off, e2, hlo, _⟩ := hN3 hp; rw [e2] at e; injection e with e; injection e with e1; omega))
        | (go_at_call 64; refine (take_any (r + 1) A3 c3 m y3 _ hT3 (by have := ht.1; have := HR.out; omega) hA3 hN3.nums hne3 hy3 (by omega) (pad_byt HY3)).mono ?_; rintro e w4 ⟨rfl, ⟨blk, hH4, _⟩, hO4⟩)
        | (go_at_call 66; refine (bytes8 (hdgs (m ++ y3)) (r + 1) _ hH4.ns).mono ?_; rintro e w5 ⟨B5, d5, y5, rfl, HY5, HL5, hN5, hb5⟩; obtain ⟨b5, o5, rfl, _, _, hc5⟩ := hN5 (by rw [HL5.out]; omega); have hrg5 := range_nums hc5; have hR5 := (((hRw.next' hb3).only hO4 (by omega)).next' hb5); have hth5 : w5.there r 0 (ints .u8 y5).toArray.size := (by have := hR5.there; simpa [hzeros, HL5.out] using this); have hsz5 : (Tryd.prog.info? 64).map (·.size) = some (ints .u8 y5).length := (by rw [s24, ints_length, HL5.out]); have hsz6 : (Tryd.prog.info? 64).map (·.size) = some (ints .u8 y5).toArray.size := (by rw [s24]; simp [HL5.out]))
        | (with_reducible refine wpList_load_mid (op := ⟨some 29, .load 64 (.tmp 28), _, _, _, _⟩) rfl 64 (.tmp 28) rfl b5 o5 rfl (ints .u8 y5) _ hrg5 Tryd.underlying64 rfl hsz5 ?_)
        | (with_reducible refine wpList_store_mid (op := ⟨none, .store 64 (.tmp 2) (.tmp 29), _, _, _, _⟩) rfl 64 (.tmp 2) (.tmp 29) rfl r 0 (ints .u8 y5).toArray rfl rfl hth5 hsz6 (ints_all _ _) ?_))
      have hfin := hR5.all (ys := y5) (by simp [hzeros, HL5.out])
      have hBf : Below w.heap.size w (w5.setCells r 0 (ints .u8 y5)) := by
        have h1 := ((hBr.trans (hb3.mono hBr.size)).trans (hO4.below (B := w.heap.size) (by have := HR.out; omega) (Nat.le_trans hBr.size hb3.size)))
        have h2 := h1.trans (hb5.mono h1.size)
        exact Below.setCells h2 (by have := HR.out; omega) _ _
      exact ret_rows rfl r 0 rfl (ints .u8 y5) _ hfin.range Tryd.underlying64 rfl hsz5 rfl ⟨y5, rfl, by show _ = _; rw [HY5.out, HY3.out, HL.out, HM.out]; rfl, HL5, hBf⟩
end Go.Proofs.YtkblmdakejmmhaaDoor

/- The schedule, word by word. -/
namespace Go.Proofs.YtkblmdakejmmhaaDoor
open Go.RowKit

end Go.Proofs.YtkblmdakejmmhaaDoor

/- The reference's turns, shifts and tables. -/
namespace Go.Proofs.YtkblmdakejmmhaaDoor
open Go.RowKit

end Go.Proofs.YtkblmdakejmmhaaDoor

/- The reference's padding. -/
namespace Go.Proofs.YtkblmdakejmmhaaDoor
open Go.RowKit

def z112 (n : Nat) : Nat := 127 - (n + 16) % 128
/-- The scale of byte k of eight. -/
def sc (k : Nat) : Int := 72057594037927936 / 2 ^ (8 * k)
end Go.Proofs.YtkblmdakejmmhaaDoor

/- The reference's hash. -/
namespace Go.Proofs.YtkblmdakejmmhaaDoor
open Go.RowKit

end Go.Proofs.YtkblmdakejmmhaaDoor

/- A region that draws its order, whose operations make memory, and some of which fill further a row that an operation before them made: what an operation may change is the row that it alone reads. No program is named. -/
namespace Go.Proofs.YtkblmdakejmmhaaDoor
open Go Go.RowKit

section
variable {P : Program} {ops : Array Oper} {md : Region.Mode} {W : World} {a0 : Act} {n : Nat}

/-- The row that an operation fills further: that of the operation which it takes up. -/
def rowOf (ops : Array Oper) (pre : Nat → Option Nat) (a : Act) (i : Nat) : Option Nat := ((pre i).bind (dstOf ops)).bind fun d => home (a.eval (.tmp d))
/-- Taken up already. -/
def Dead (n : Nat) (pre : Nat → Option Nat) (listed : Array Bool) (p : Nat) : Prop := ∃ i, i < n ∧ pre i = some p ∧ listed.getD i false = true
/-- An operation that does as it is told; it may turn the row that it takes up. -/
def StepG (P : Program) (ops : Array Oper) (md : Region.Mode) (W : World) (a0 : Act) (n : Nat) (al : Nat → Bool) (pre : Nat → Option Nat) (S : Nat → Value → World → Prop) (Q : Exit → Act → World → Prop) (i : Nat) (o : Oper) : Prop :=
  ∀ a w, Cl W w → (∀ t, (∀ j, j < n → dstOf ops j ≠ some t) → a.tmps[t]? = a0.tmps[t]?) → (∀ j d, j < n → Region.waitsFor md ops i j = true → dstOf ops j = some d → S j (a.eval (.tmp d)) w) →
    if Region.wanted o (yielded ops a.tmps) = true then o.wp P a w (fun a' w' => ∃ v, a' = a.put o.dst v ∧ S i v w' ∧ w.grownBy w' (rowOf ops pre a i) ∧ (al i = true → ∀ b, home v = some b → (w.heap.size ≤ b ∨ rowOf ops pre a i = some b) ∧ b < w'.heap.size)) Q else S i undef w ∧ al i = false
/-- What stands when some have come up. -/
structure StG (ops : Array Oper) (W : World) (a0 : Act) (n : Nat) (al : Nat → Bool) (pre : Nat → Option Nat) (S : Nat → Value → World → Prop) (listed : Array Bool) (a : Act) (w : World) : Prop where
  cl : Cl W w
  df : a.defers = a0.defers
  size : a.tmps.size = a0.tmps.size
  frame : ∀ t, (∀ i, i < n → listed.getD i false = true → dstOf ops i ≠ some t) → a.tmps[t]? = a0.tmps[t]?
  vals : ∀ i, i < n → listed.getD i false = true → ¬ Dead n pre listed i → ∀ d, dstOf ops i = some d → S i (a.eval (.tmp d)) w
  laid : ∀ i, i < n → listed.getD i false = true → ¬ Dead n pre listed i → al i = true → ∀ d b, dstOf ops i = some d → home (a.eval (.tmp d)) = some b → W.heap.size ≤ b ∧ b < w.heap.size
  apart : ∀ i j, i < n → j < n → listed.getD i false = true → listed.getD j false = true → ¬ Dead n pre listed i → ¬ Dead n pre listed j → al i = true → al j = true → i ≠ j → ∀ d d' b, dstOf ops i = some d → dstOf ops j = some d' → home (a.eval (.tmp d)) = some b → home (a.eval (.tmp d')) ≠ some b
/-- It stays true when rows grow, but for its own. -/
def Keeps (b : Bool) (S : Value → World → Prop) : Prop := ∀ v w w' row, S v w → w.grownBy w' row → (b = true → ∀ g, row = some g → home v ≠ some g) → S v w'
/-- What the kernel looks at: an operation waits for the row that it takes up, and no other one waits for it. -/
def preB (md : Region.Mode) (ops : Array Oper) (n : Nat) (al : Nat → Bool) (pre : Nat → Option Nat) : Bool := (List.range n).all fun i => match pre i with
  | some p => decide (p < n) && !(p == i) && al p && Region.waitsFor md ops i p && (List.range n).all (fun k => (k == i) || ((!Region.waitsFor md ops k p || Region.waitsFor md ops i k) && !(pre k == some p)))
  | none => true
/-- The steps of the text's order, each with what is true of its value. -/
def StepsG (P : Program) (ops : Array Oper) (md : Region.Mode) (W : World) (a0 : Act) (n : Nat) (al : Nat → Bool) (pre : Nat → Option Nat) (S : Nat → Value → World → Prop) (Q : Exit → Act → World → Prop) : Nat → Nat → List Oper → Prop
  | 0, _, _ => True
  | _ + 1, _, [] => True
  | m + 1, k, o :: l => StepG P ops md W a0 n al pre S Q k o ∧ StepsG P ops md W a0 n al pre S Q m (k + 1) l
/-- Of each of the values, from k on. -/
def AllKeep (al : Nat → Bool) : Nat → List (Value → World → Prop) → Prop
  | _, [] => True
  | k, S :: Ss => Keeps (al k) S ∧ AllKeep al (k + 1) Ss
end
end Go.Proofs.YtkblmdakejmmhaaDoor
