/- Texts of this proof, laid together: VText, VKey. -/
import Derived.Test.YtpncohoonfahpaaGreatDoorG13
import Derived.Test.YtpncohoonfahpaaGreatDoorG9
/- Parts that lie apart from the row that lists them; the text of a derived key, part by part. -/
namespace Go.Proofs.YtpncohoonfahpaaGreatDoor
open Go Go.RowKit

/-- Parts in memory, none of them in the row's own block. -/
def PKeep (w : World) (v : Value) (ps : List Part) : Prop := ∀ q ∈ ps, PartOk w q ∧ (0 < q.2.2.length → ∀ g o s, q.1 = some ⟨g, o, s⟩ → v.ownBlock ≠ some g)
section
variable {w w' : World} {v v' : Value} {ps qs : List Part}
set_option maxRecDepth 50000 in
theorem PKeep.stay (h : PKeep w v ps) (hb : Below w.heap.size w w') : PKeep w' v ps := fun q hq => ⟨(h q hq).1.below hb, (h q hq).2⟩
set_option maxRecDepth 50000 in
theorem PKeep.app (h : PKeep w v ps) (k : PKeep w v qs) : PKeep w v (ps ++ qs) := fun q hq => by
  rcases List.mem_append.1 hq with e | e
  · exact h q e
  · exact k q e
set_option maxRecDepth 50000 in
theorem PKeep.grew (h : PKeep w v ps) (hG : Grew w w' v v') : PKeep w' v' ps := fun q hq => by
  obtain ⟨⟨hN, hr⟩, hne⟩ := h q hq
  refine ⟨⟨fun hp => ?_, hr⟩, fun hp g o s e => ?_⟩
  · obtain ⟨b, off, e, hlt, hc⟩ := hN hp
    have hb := hne hp b off none e
    exact ⟨b, off, e, Nat.lt_of_lt_of_le hlt hG.1.size, fun i hi => (hG.cell (p := ⟨b, off + i, none⟩) hlt hb).trans (hc i hi)⟩
  · obtain ⟨b, off, e2, hlt, _⟩ := hN hp
    rw [e2] at e
    injection e with e
    injection e with e1 e3 e4
    subst e1
    rcases hG.2 with h2 | h2
    · rw [h2]
      exact hne hp b off none e2
    · exact fun h3 => by have := h2 b h3; omega
set_option maxRecDepth 50000 in
theorem PKeep.ok (h : PKeep w v ps) : ∀ q ∈ ps, PartOk w q := fun q hq => (h q hq).1
end
set_option maxRecDepth 50000 in
theorem pkeep_old {w w' : World} {D : Nat} {v : Value} {q : Part} (h : PartOk w q) (hb : Below w.heap.size w w') (hv : ∀ g, v.ownBlock = some g → D ≤ g) (hD : w.heap.size ≤ D) : PKeep w' v [q] := fun q' hq => by
  rw [List.mem_singleton.1 hq]
  refine ⟨h.below hb, fun hp g o s e h2 => ?_⟩
  obtain ⟨b, off, e2, hlt, _⟩ := h.1 hp
  rw [e2] at e
  injection e with e
  injection e with e1
  have := hv g h2
  omega
set_option maxRecDepth 50000 in
theorem pkeep_new {w : World} {D : Nat} {v : Value} {A : Option Addr} {d : Nat} {xs : List Int} (h : NumsF D w .u8 A xs) (hl : xs.length ≤ d) (h1 : xs.length ≤ 1000) (hb : HByt xs) (hv : ∀ g, v.ownBlock = some g → g < D) : PKeep w v [(A, d, xs)] := fun q' hq => by
  rw [List.mem_singleton.1 hq]
  refine ⟨⟨h.nums, hl, h1, hb⟩, fun hp g o s e h2 => ?_⟩
  obtain ⟨b, off, e2, hlo, _⟩ := h hp
  have e : A = some ⟨g, o, s⟩ := e
  rw [e2] at e
  injection e with e
  injection e with e1
  have := hv g h2
  omega
set_option maxRecDepth 50000 in
/-- A slice literal of two parts. -/
theorem parts_new2 (w : World) (q1 q2 : Part) (m1 m2 : Nat) (h1 : q1.2.2.length = m1) (h2 : q2.2.2.length = m2) : Parts (w.alloc (.cells #[.slice q1.1 m1 q1.2.1, .slice q2.1 m2 q2.2.1] 23)) (some ⟨w.heap.size, 0, none⟩) [q1, q2] := fun _ =>
  ⟨w.heap.size, 0, rfl, by simp, fun j q hj => by
    subst h1 h2
    rw [Nat.zero_add, World.cell?_alloc_new]
    have hj6 := (List.getElem?_eq_some_iff.1 hj).1
    have : j = 0 ∨ j = 1 := by simp at hj6; omega
    rcases this with rfl | rfl <;> (simp at hj; subst hj; rfl)⟩
set_option maxRecDepth 50000 in
theorem owns_new2 (w : World) (base : Nat) (q1 q2 : Part) (m1 m2 : Nat) (h1 : q1.2.2.length = m1) (h2 : q2.2.2.length = m2) (hb : base ≤ w.heap.size) : OwnsP (w.alloc (.cells #[.slice q1.1 m1 q1.2.1, .slice q2.1 m2 q2.2.1] 23)) base (.slice (some ⟨w.heap.size, 0, none⟩) 2 2) [q1, q2] := by
  subst h1 h2
  exact ⟨rfl, .inr ⟨w.heap.size, 2, _, rfl, hb, heap_alloc_new w _, Nat.le_refl _, by unfold maxLen; omega, rfl, rfl⟩⟩
/-- The text as far as k contexts. -/
def textK (lbl : List Int) (L : List (List Int)) (k : Nat) : List Int := splitB true 1 [(lbl.length : Int)] ++ lbl ++ ((L.take k).map ctxV).flatten
set_option maxRecDepth 50000 in
theorem textK_zero (lbl : List Int) (L : List (List Int)) : textK lbl L 0 = splitB true 1 [(lbl.length : Int)] ++ lbl := by simp [textK]
set_option maxRecDepth 50000 in
theorem textK_end (lbl : List Int) (L : List (List Int)) (k : Nat) (h : L.length ≤ k) : textK lbl L k = textV lbl L := by
  unfold textK textV
  rw [List.take_of_length_le h]
set_option maxRecDepth 50000 in
theorem textK_succ (lbl : List Int) (L : List (List Int)) {k : Nat} {c : List Int} (h : L[k]? = some c) : textK lbl L (k + 1) = textK lbl L k ++ ctxV c := by
  unfold textK
  rw [List.take_add_one, h]
  simp
set_option maxRecDepth 50000 in
theorem ctxV_len (c : List Int) : (ctxV c).length = 4 + c.length := by unfold ctxV; rw [List.length_append, split_len]
set_option maxRecDepth 50000 in
theorem flat_ctx_le (b : Nat) : ∀ L : List (List Int), (∀ c ∈ L, c.length ≤ b) → (L.map ctxV).flatten.length ≤ (4 + b) * L.length
  | [], _ => by simp
  | c :: L, h => by
    have h1 := flat_ctx_le b L fun c hc => h c (List.mem_cons_of_mem _ hc)
    have h2 := h c (List.mem_cons_self ..)
    rw [List.map_cons, List.flatten_cons, List.length_append, ctxV_len, List.length_cons, Nat.mul_add]
    omega
set_option maxRecDepth 50000 in
theorem textV_le {lbl : List Int} {L : List (List Int)} {b n : Nat} (h1 : lbl.length ≤ 64) (hL : L.length = n) (h : ∀ c ∈ L, c.length ≤ b) : (textV lbl L).length ≤ 65 + (4 + b) * n := by
  have := flat_ctx_le b L h
  unfold textV
  rw [List.length_append, List.length_append, split_len]
  rw [hL] at this
  omega
set_option maxRecDepth 50000 in
theorem ctxV_byt {c : List Int} (h : HByt c) : HByt (ctxV c) := (splitB_byt _ _ _).app h
set_option maxRecDepth 50000 in
theorem textV_byt {lbl : List Int} {L : List (List Int)} (h : HByt lbl) (hL : ∀ c ∈ L, HByt c) : HByt (textV lbl L) := by
  refine ((splitB_byt _ _ _).app h).app fun x hx => ?_
  obtain ⟨l, hl, hx⟩ := List.mem_flatten.1 hx
  obtain ⟨c, hc, rfl⟩ := List.mem_map.1 hl
  exact ctxV_byt (hL c hc) x hx
set_option maxRecDepth 50000 in
theorem flat_app (ps qs : List Part) : flat (ps ++ qs) = flat ps ++ flat qs := by
  unfold flat
  rw [List.map_append, List.flatten_append]
set_option maxRecDepth 50000 in
theorem flat_two (q1 q2 : Part) : flat [q1, q2] = q1.2.2 ++ q2.2.2 := by simp [flat]
end Go.Proofs.YtpncohoonfahpaaGreatDoor

/- Key: a derived key. -/
namespace Go.Proofs.YtpncohoonfahpaaGreatDoor
open Go Go.RowKit

set_option maxRecDepth 50000 in
/-- Two results: a row in memory, and a slot. -/
theorem results_rowV {P : Program} {fn : Func} {p s : Tmp} {ty : TypeId} (h : fn.results = #[.cell p ty, .tmp s]) (tmps : Array Value) (w : World) (b o : Nat) (hp : tmps.getD p undef = .pointer (some ⟨b, o, none⟩)) (v : Value) (hs : tmps.getD s undef = v)
    (cs : List Value) (d : TypeDesc) (hc : w.rangeAt b o cs) (hu : P.underlying ty = some d) (hd : d.isRow = true) (hi : (P.info? ty).map (·.size) = some cs.length) :
    (results fn tmps).run P w = .ok (.tuple #[.agg cs.toArray, v]) w := by
  simp only [results, h]
  have hp2 : tmps[p]?.getD undef = .pointer (some ⟨b, o, none⟩) := by rw [← hp]; simp
  have hs2 : tmps[s]?.getD undef = v := by rw [← hs]; simp
  simp [hp2, hs2, asAddr, run_loadVar_mid w b o ty cs d hc hu hd hi]
set_option maxRecDepth 50000 in
theorem builtV32 : Tryz.prog.built 22 [] = some (ints .u8 (hzeros 32)).toArray := by kernel_rfl
set_option maxRecDepth 50000 in
set_option maxHeartbeats 2000000 in
theorem key_empty (A PA : Option Addr) (c n pc : Nat) (s : ByteArray) (w : World) :
    Calls Tryz.prog 98 #[.slice A 0 c, .string s, .slice PA n pc] w fun e w' => e = .returned (.tuple #[.agg (ints .u8 (hzeros 32)).toArray, .int .i64 20]) ∧ Below w.heap.size w w' := by
  obtain ⟨z32, s32⟩ := zero_of_info infS32
  have hR := Rw.new w (ints .u8 (hzeros 32)) 22
  have hW := below_new w (.cells (ints .u8 (hzeros 32)).toArray 22)
  have R6 := hR.roomA (us := ints .u8 (hzeros 32)) rfl
  have X6 := hR.storedA (us := ints .u8 (hzeros 32)) rfl
  have hW2 := Below.setCells hW (g := w.heap.size) (Nat.le_refl _) 0 (ints .u8 (hzeros 32)).toArray.toList
  clear hR hW
  go_enter Tryz.func98, Tryz.ntmps98
  go_wp2_with (first
    | (with_reducible refine wpList_build_eq (o := ⟨some 15, .build 22 #[], _, _, _, _⟩) rfl 22 #[] rfl (ints .u8 (hzeros 32)).toArray ?hb ?_; (case hb => exact builtV32))
    | (with_reducible refine wpList_store_mid (op := ⟨none, .store 22 (.tmp 6) (.tmp 15), _, _, _, _⟩) rfl 22 (.tmp 6) (.tmp 15) rfl w.heap.size 0 (ints .u8 (hzeros 32)).toArray rfl rfl R6 (szA infS32 (il (hz_len 32))) (ints_all _ _) ?_; clear R6; generalize (w.alloc (.cells (ints .u8 (hzeros 32)).toArray 22)).setCells w.heap.size 0 (ints .u8 (hzeros 32)).toArray.toList = W5 at *))
  exact bodyPost_ret (results_rowV rfl _ _ w.heap.size 0 rfl (.int .i64 20) rfl (ints .u8 (hzeros 32)) _ X6.range Tryz.underlying22 rfl (szV infS32 (il (hz_len 32)))) rfl ⟨rfl, hW2⟩
set_option maxRecDepth 50000 in
set_option maxHeartbeats 2000000 in
theorem key_limit (A PA : Option Addr) (l c n pc : Nat) (s : ByteArray) (w : World) (h0 : 0 < l) (h : 64 < s.size ∨ 16 < n) :
    Calls Tryz.prog 98 #[.slice A l c, .string s, .slice PA n pc] w fun e w' => e = .returned (.tuple #[.agg (ints .u8 (hzeros 32)).toArray, .int .i64 3]) ∧ Below w.heap.size w w' := by
  obtain ⟨z32, s32⟩ := zero_of_info infS32
  have hR := Rw.new w (ints .u8 (hzeros 32)) 22
  have hW := below_new w (.cells (ints .u8 (hzeros 32)).toArray 22)
  have R6 := hR.roomA (us := ints .u8 (hzeros 32)) rfl
  have X6 := hR.storedA (us := ints .u8 (hzeros 32)) rfl
  have hW2 := Below.setCells hW (g := w.heap.size) (Nat.le_refl _) 0 (ints .u8 (hzeros 32)).toArray.toList
  have hl : ¬ (l : Int) = 0 := by omega
  clear hR hW
  by_cases hs : 64 < s.size
  · have h1 : (64 : Int) < s.size := by omega
    clear h h0
    go_enter Tryz.func98, Tryz.ntmps98
    go_wp2_with (first
      | (with_reducible refine wpList_build_eq (o := ⟨some 28, .build 22 #[], _, _, _, _⟩) rfl 22 #[] rfl (ints .u8 (hzeros 32)).toArray ?hb ?_; (case hb => exact builtV32))
      | (with_reducible refine wpList_store_mid (op := ⟨none, .store 22 (.tmp 6) (.tmp 28), _, _, _, _⟩) rfl 22 (.tmp 6) (.tmp 28) rfl w.heap.size 0 (ints .u8 (hzeros 32)).toArray rfl rfl R6 (szA infS32 (il (hz_len 32))) (ints_all _ _) ?_; clear R6; generalize (w.alloc (.cells (ints .u8 (hzeros 32)).toArray 22)).setCells w.heap.size 0 (ints .u8 (hzeros 32)).toArray.toList = W5 at *))
    exact bodyPost_ret (results_rowV rfl _ _ w.heap.size 0 rfl (.int .i64 3) rfl (ints .u8 (hzeros 32)) _ X6.range Tryz.underlying22 rfl (szV infS32 (il (hz_len 32)))) rfl ⟨rfl, hW2⟩
  · have h1 : ¬ (64 : Int) < s.size := by omega
    have h2 : (16 : Int) < n := by omega
    clear h h0 hs
    go_enter Tryz.func98, Tryz.ntmps98
    go_wp2_with (first
      | (with_reducible refine wpList_build_eq (o := ⟨some 28, .build 22 #[], _, _, _, _⟩) rfl 22 #[] rfl (ints .u8 (hzeros 32)).toArray ?hb ?_; (case hb => exact builtV32))
      | (with_reducible refine wpList_store_mid (op := ⟨none, .store 22 (.tmp 6) (.tmp 28), _, _, _, _⟩) rfl 22 (.tmp 6) (.tmp 28) rfl w.heap.size 0 (ints .u8 (hzeros 32)).toArray rfl rfl R6 (szA infS32 (il (hz_len 32))) (ints_all _ _) ?_; clear R6; generalize (w.alloc (.cells (ints .u8 (hzeros 32)).toArray 22)).setCells w.heap.size 0 (ints .u8 (hzeros 32)).toArray.toList = W5 at *))
    exact bodyPost_ret (results_rowV rfl _ _ w.heap.size 0 rfl (.int .i64 3) rfl (ints .u8 (hzeros 32)) _ X6.range Tryz.underlying22 rfl (szV infS32 (il (hz_len 32)))) rfl ⟨rfl, hW2⟩
end Go.Proofs.YtpncohoonfahpaaGreatDoor
