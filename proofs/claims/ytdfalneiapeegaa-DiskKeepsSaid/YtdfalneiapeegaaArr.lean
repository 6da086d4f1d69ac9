/- Rows of numbers at a known place of a block of the call's own, and worlds that differ in that block alone. No condition. -/
import Derived.Test.YtdfalneiapeegaaBase
import Derived.Deep.MidRow
import Derived.Deep.WholeRow
namespace Go.Proofs.Ytdfalneiapeegaa
open Go.RowKit

/-- From offset o of block b on lie the numbers xs of kind k, and may be written. -/
def Arr (w : World) (b o : Nat) (k : IntKind) (xs : List Int) : Prop := ∀ i x, xs[i]? = some x → w.cell? ⟨b, o + i, none⟩ = some (.int k x) ∧ w.frozen? ⟨b, o + i, none⟩ = false

def ints (k : IntKind) (xs : List Int) : List Value := xs.map (Value.int k)
@[simp] theorem ints_length (k : IntKind) (xs : List Int) : (ints k xs).length = xs.length := by simp [ints]
theorem ints_one (k : IntKind) (xs : List Int) : ∀ v ∈ ints k xs, v.oneCell' = true := by
  intro v hv
  obtain ⟨x, _, rfl⟩ := List.mem_map.1 hv
  rfl
theorem ints_all (k : IntKind) (xs : List Int) : (ints k xs).toArray.all (·.oneCell') = true := all_oneCell_toArray (ints_one k xs)

/-- The worlds differ in block b and in new blocks alone. -/
structure Only (b : Nat) (w w' : World) : Prop where
  os : w'.os = w.os
  tape : w'.tape = w.tape
  output : w'.output = w.output
  size : w.heap.size ≤ w'.heap.size
  block : ∀ k, k < w.heap.size → k ≠ b → w'.heap[k]? = w.heap[k]?

/-- xs with ys laid over it from place j on. -/
def over (xs : List Int) (j : Nat) (ys : List Int) : List Int := xs.take j ++ ys ++ xs.drop (j + ys.length)
theorem over_length {xs ys : List Int} {j : Nat} (h : j + ys.length ≤ xs.length) : (over xs j ys).length = xs.length := by simp [over]; omega
theorem over_at {xs ys : List Int} {j : Nat} (h : j + ys.length ≤ xs.length) (i : Nat) : (over xs j ys)[i]? = if i < j then xs[i]? else if i < j + ys.length then ys[i - j]? else xs[i]? := by
  unfold over
  by_cases h1 : i < j
  · rw [if_pos h1, List.getElem?_append_left (by simp; omega), List.getElem?_append_left (by simp; omega), List.getElem?_take, if_pos h1]
  · rw [if_neg h1]
    by_cases h2 : i < j + ys.length
    · rw [if_pos h2, List.getElem?_append_left (by simp; omega), List.getElem?_append_right (by simp; omega)]
      congr 1; simp; omega
    · rw [if_neg h2, List.getElem?_append_right (by simp; omega), List.getElem?_drop]
      congr 1; simp; omega

section
variable {w w' : World} {b b' o o' : Nat} {k k' : IntKind} {xs ys : List Int}

theorem Arr.at_ (h : Arr w b o k xs) {i : Nat} {x : Int} (hi : xs[i]? = some x) : w.cell? ⟨b, o + i, none⟩ = some (.int k x) := (h i x hi).1
theorem Arr.free (h : Arr w b o k xs) {i : Nat} (hi : i < xs.length) : w.frozen? ⟨b, o + i, none⟩ = false := (h i xs[i] (by simp [hi])).2
theorem Arr.spot (h : Arr w b o k xs) {i : Nat} (hi : i < xs.length) : ∃ x, w.cell? ⟨b, o + i, none⟩ = some (.int k x) ∧ w.frozen? ⟨b, o + i, none⟩ = false ∧ Hid (xs[i]? = some x) :=
  ⟨xs[i], (h i xs[i] (by simp [hi])).1, (h i xs[i] (by simp [hi])).2, by show _ = _; simp [hi]⟩
theorem Arr.lt (h : Arr w b o k xs) (hp : 0 < xs.length) : b < w.heap.size := World.block_lt_of_cell? w _ (h 0 xs[0] (by simp [hp])).1
theorem Arr.range (h : Arr w b o k xs) : w.rangeAt b o (ints k xs) := fun j v hv => by
  simp only [ints, List.getElem?_map, Option.map_eq_some_iff] at hv
  obtain ⟨x, hx, rfl⟩ := hv
  exact (h j x hx).1
theorem Arr.there (h : Arr w b o k xs) : w.there b o xs.length := fun j hj => ⟨by rw [(h j xs[j] (by simp [hj])).1]; rfl, (h j xs[j] (by simp [hj])).2⟩
theorem Arr.of (h1 : w.rangeAt b o (ints k xs)) (h2 : w.there b o xs.length) : Arr w b o k xs := fun i x hi =>
  ⟨h1 i _ (by simp [ints, hi]), (h2 i (List.getElem?_eq_some_iff.1 hi).1).2⟩
theorem Arr.nums (h : Arr w b o k xs) : Nums w k (some ⟨b, o, none⟩) xs := fun hp =>
  ⟨b, o, rfl, h.lt hp, fun i hi => (h i _ (by simp [hi])).1⟩
theorem Arr.drew (h : Arr w b o k xs) : Arr w.drew b o k xs := h
theorem Arr.drewN (h : Arr w b o k xs) (n : Nat) : Arr (w.drewN n) b o k xs := h
theorem Arr.same (h : Arr w b o k xs) (he : w'.heap[b]? = w.heap[b]?) : Arr w' b o k xs := fun i x hi => by
  have := h i x hi
  unfold World.cell? World.frozen? at *
  simp only [he]
  exact this
theorem Arr.alloc (h : Arr w b o k xs) (ob : Obj) : Arr (w.alloc ob) b o k xs := fun i x hi => by
  have hl := World.block_lt_of_cell? w _ (h i x hi).1
  exact h.same (Below.heap_alloc w ob b hl) i x hi
theorem Arr.below {B : Nat} (h : Arr w b o k xs) (hb : Below B w w') (hB : b < B) : Arr w' b o k xs := h.same (hb.block b hB)
theorem Arr.only {g : Nat} (h : Arr w b o k xs) (hb : Only g w w') (hg : b ≠ g) : Arr w' b o k xs := fun i x hi => by
  have hl := World.block_lt_of_cell? w _ (h i x hi).1
  exact h.same (hb.block b hl hg) i x hi
theorem Arr.cut (h : Arr w b o k xs) {lo m : Nat} (_ : lo + m ≤ xs.length) : Arr w b (o + lo) k ((xs.drop lo).take m) := fun i x hi => by
  rw [List.getElem?_take] at hi
  split at hi
  · rw [List.getElem?_drop] at hi
    rw [Nat.add_assoc]; exact h (lo + i) x hi
  · cases hi

theorem Arr.set (h : Arr w b o k xs) (j : Nat) (y : Int) : Arr (w.setCell ⟨b, o + j, none⟩ (.int k y)) b o k (xs.set j y) := fun i x hi => by
  rw [World.frozen?_setCell]
  by_cases e : j = i
  · subst e
    have hl : j < xs.length := by have := (List.getElem?_eq_some_iff.1 hi).1; simpa using this
    rw [List.getElem?_set_self hl] at hi
    injection hi with hi; subst hi
    exact ⟨World.cell?_setCell_same _ _ _ (h j xs[j] (by simp [hl])).1, h.free hl⟩
  · rw [List.getElem?_set_ne e] at hi
    rw [World.cell?_setCell_other _ _ _ _ (by intro q; injection q with _ q; omega)]
    exact h i x hi
theorem Arr.apart (h : Arr w b o k xs) {p : Addr} (v : Value) (hp : p.block ≠ b ∨ p.off < o ∨ o + xs.length ≤ p.off) : Arr (w.setCell p v) b o k xs := fun i x hi => by
  have hl := (List.getElem?_eq_some_iff.1 hi).1
  rw [World.frozen?_setCell, World.cell?_setCell_other _ _ _ _ (by intro e; subst e; simp at hp; omega)]
  exact h i x hi
theorem Arr.over (h : Arr w b o k xs) {j : Nat} (hj : j + ys.length ≤ xs.length) : Arr (w.setCells b (o + j) (ints k ys)) b o k (over xs j ys) := fun i x hi => by
  rw [over_at hj] at hi
  rw [World.frozen?_setCells]
  have hth : ∀ i, i < ys.length → (w.cell? ⟨b, o + j + i, none⟩).isSome = true := fun i hi => by rw [Nat.add_assoc]; exact (h.there (j + i) (by omega)).1
  by_cases h1 : i < j
  · rw [if_pos h1] at hi
    rw [World.cell?_setCells_out _ _ _ _ _ (fun _ _ => .inl (by show o + i < o + j; omega))]
    exact h i x hi
  · rw [if_neg h1] at hi
    by_cases h2 : i < j + ys.length
    · rw [if_pos h2] at hi
      have e : o + i = o + j + (i - j) := by omega
      refine ⟨?_, h.free (by omega)⟩
      rw [e, World.cell?_setCells_in b _ _ w (fun q hq => hth q (by simpa using hq)) (i - j) (by simp; omega)]
      simp only [ints, List.getElem_map]
      rw [List.getElem?_eq_getElem (by omega)] at hi
      injection hi with hi; rw [hi]
    · rw [if_neg h2] at hi
      rw [World.cell?_setCells_out _ _ _ _ _ (fun _ _ => .inr (by show o + j + (ints k ys).length ≤ o + i; simp; omega))]
      exact h i x hi
theorem Arr.all (h : Arr w b o k xs) (hj : ys.length = xs.length) : Arr (w.setCells b o (ints k ys)) b o k ys := by
  have h0 : Proofs.Ytdfalneiapeegaa.over xs 0 ys = ys := by
    have : xs.drop ys.length = [] := List.drop_eq_nil_of_le (by omega)
    simp [Proofs.Ytdfalneiapeegaa.over, this]
  have := h.over (j := 0) (ys := ys) (by omega)
  rw [h0] at this
  exact this
theorem Arr.past (h : Arr w b o k xs) (vs : List Value) (hp : b' ≠ b ∨ o' + vs.length ≤ o ∨ o + xs.length ≤ o') : Arr (w.setCells b' o' vs) b o k xs := fun i x hi => by
  have hl := (List.getElem?_eq_some_iff.1 hi).1
  rw [World.frozen?_setCells, World.cell?_setCells_out _ _ _ _ _ (fun e _ => by simp at e; subst e; simp; omega)]
  exact h i x hi
/-- A new row of zeros. -/
theorem Arr.made (w : World) (k : IntKind) (xs : List Int) (t : TypeId) : Arr (w.alloc (.cells (ints k xs).toArray t)) w.heap.size 0 k xs := fun i x hi => by
  rw [Nat.zero_add]
  refine ⟨?_, World.frozen?_alloc_new w _ t i⟩
  rw [World.cell?_alloc_new]
  simp [ints, hi]
/-- A part of a new block. -/
theorem Arr.madeAt (w : World) (k : IntKind) (xs : List Int) (t : TypeId) (cs : Array Value) (o : Nat) (h : ∀ i x, xs[i]? = some x → cs[o + i]? = some (.int k x)) : Arr (w.alloc (.cells cs t)) w.heap.size o k xs := fun i x hi => by
  refine ⟨?_, World.frozen?_alloc_new w _ t _⟩
  rw [World.cell?_alloc_new]
  exact h i x hi

theorem Only.refl (b : Nat) (w : World) : Only b w w := ⟨rfl, rfl, rfl, Nat.le_refl _, fun _ _ _ => rfl⟩
theorem Only.trans {a c : World} (h : Only b a w) (h' : Only b w c) : Only b a c :=
  ⟨h'.os.trans h.os, h'.tape.trans h.tape, h'.output.trans h.output, Nat.le_trans h.size h'.size, fun i hi hn => (h'.block i (Nat.lt_of_lt_of_le hi h.size) hn).trans (h.block i hi hn)⟩
theorem Only.of (h : Below w.heap.size w w') (b : Nat) : Only b w w' := ⟨h.os, h.tape, h.output, h.size, fun k hk _ => h.block k hk⟩
theorem Only.below {B : Nat} (h : Only b w w') (hB : B ≤ b) (hs : B ≤ w.heap.size) : Below B w w' := ⟨h.os, h.tape, h.output, h.size, fun k hk => h.block k (by omega) (by omega)⟩
theorem Only.drew {a : World} (h : Only b a w) : Only b a w.drew := ⟨h.os, h.tape, h.output, h.size, h.block⟩
theorem Only.drewN {a : World} (h : Only b a w) (n : Nat) : Only b a (w.drewN n) := ⟨h.os, h.tape, h.output, h.size, h.block⟩
theorem Only.alloc {a : World} (h : Only b a w) (ob : Obj) : Only b a (w.alloc ob) :=
  h.trans ⟨rfl, rfl, rfl, by simp, fun k hk _ => Below.heap_alloc _ _ _ hk⟩
theorem Only.setCell {a : World} (h : Only b a w) {p : Addr} (hp : p.block = b ∨ a.heap.size ≤ p.block) (v : Value) : Only b a (w.setCell p v) :=
  ⟨h.os, h.tape, h.output, by simp [World.setCell]; exact h.size, fun k hk hn => (Below.heap_setCell _ _ _ _ (by rcases hp with e | e <;> omega)).trans (h.block k hk hn)⟩
theorem setCells_frame (g : Nat) : ∀ (vs : List Value) (o : Nat) (w : World), (w.setCells g o vs).os = w.os ∧ (w.setCells g o vs).tape = w.tape ∧ (w.setCells g o vs).output = w.output ∧ (w.setCells g o vs).heap.size = w.heap.size ∧ ∀ k, k ≠ g → (w.setCells g o vs).heap[k]? = w.heap[k]?
  | [], _, _ => ⟨rfl, rfl, rfl, rfl, fun _ _ => rfl⟩
  | v :: r, o, w => by
    obtain ⟨h1, h2, h3, h4, h5⟩ := setCells_frame g r (o + 1) (w.setCell ⟨g, o, none⟩ v)
    rw [World.setCells]
    exact ⟨h1, h2, h3, h4.trans (by simp [World.setCell]), fun k hk => (h5 k hk).trans (Below.heap_setCell _ _ _ _ hk)⟩
theorem setCells_size (w : World) (g o : Nat) (vs : List Value) : (w.setCells g o vs).heap.size = w.heap.size := (setCells_frame g vs o w).2.2.2.1
theorem Only.setCells {a : World} (h : Only b a w) {g : Nat} (hp : g = b ∨ a.heap.size ≤ g) (o : Nat) (vs : List Value) : Only b a (w.setCells g o vs) := by
  obtain ⟨h1, h2, h3, h4, h5⟩ := setCells_frame g vs o w
  exact ⟨h1.trans h.os, h2.trans h.tape, h3.trans h.output, by rw [h4]; exact h.size, fun k hk hn => (h5 k (by rcases hp with e | e <;> omega)).trans (h.block k hk hn)⟩
theorem Below.setCells {B : Nat} {a : World} (h : Below B a w) {g : Nat} (hp : B ≤ g) (o : Nat) (vs : List Value) : Below B a (w.setCells g o vs) := by
  obtain ⟨h1, h2, h3, h4, h5⟩ := setCells_frame g vs o w
  exact h.trans ⟨h1, h2, h3, by rw [h4]; exact Nat.le_refl _, fun k hk => h5 k (by omega)⟩
theorem Nums.only {A : Option Addr} (h : Nums w k A xs) (hb : Only b w w') (hA : ∀ g o s, A = some ⟨g, o, s⟩ → g ≠ b) : Nums w' k A xs := fun hp => by
  obtain ⟨g, off, e, hlt, hc⟩ := h hp
  exact ⟨g, off, e, Nat.lt_of_lt_of_le hlt hb.size, fun i hi => (World.cell?_of_block (a := ⟨g, off + i, none⟩) (hb.block g hlt (hA g off none e))).trans (hc i hi)⟩
end
/-- One result, a row in memory. -/
theorem results_row {P : Program} {fn : Func} {p : Tmp} {ty : TypeId} (h : fn.results = #[.cell p ty]) (tmps : Array Value) (w : World) (b o : Nat) (hp : tmps.getD p undef = .pointer (some ⟨b, o, none⟩))
    (cs : List Value) (d : TypeDesc) (hc : w.rangeAt b o cs) (hu : P.underlying ty = some d) (hd : d.isRow = true) (hi : (P.info? ty).map (·.size) = some cs.length) :
    (results fn tmps).run P w = .ok (.agg cs.toArray) w := by
  simp only [results, h]
  have hp2 : tmps[p]?.getD undef = .pointer (some ⟨b, o, none⟩) := by rw [← hp]; simp
  simp [hp2, asAddr, run_loadVar_mid w b o ty cs d hc hu hd hi]
theorem ret_rows {P : Program} {fn : Func} {R : Ending → World → Prop} {a : Act} {w : World} {p : Tmp} {ty : TypeId} (h : fn.results = #[.cell p ty]) (b o : Nat) (hp : a.tmps.getD p undef = .pointer (some ⟨b, o, none⟩))
    (cs : List Value) (d : TypeDesc) (hc : w.rangeAt b o cs) (hu : P.underlying ty = some d) (hd : d.isRow = true) (hi : (P.info? ty).map (·.size) = some cs.length) (hf : a.defers = [])
    (hR : R (.returned (.agg cs.toArray)) w) : bodyPost P fn R .ret a w :=
  bodyPost_ret (results_row h a.tmps w b o hp cs d hc hu hd hi) hf hR
/-- An element of an array value, of one cell. -/
theorem run_index_row {P : Program} {w : World} (t e : TypeId) (n : Nat) (cs : List Value) (kk : IntKind) (i : Nat) (v : Value) (d : TypeDesc) (h : P.underlying t = some (.array n e)) (hd : P.underlying e = some d) (hr : d.isRow = false)
    (hs : (P.info? e).map (·.size) = some 1) (hi : i < n) (hv : cs[i]? = some v) : (Instr.index t (.agg cs.toArray) (.int kk (i : Int))).run P w = .ok v w := by
  have hn : (0 : Int) ≤ i ∧ (i : Int) < (n : Int) := by omega
  have hag : (isAgg e).run P w = .ok false w := by
    unfold isAgg
    rw [Sem.run_bind, run_underlying hd w]
    cases d <;> simp_all
  cases hq : P.info? e with
  | none => simp [hq] at hs
  | some j =>
    have hj : j.size = 1 := by simpa [hq] using hs
    have hni : ¬ n ≤ i := by omega
    simp [Instr.index, run_underlying h, asIntOf, hni, part, hag, sizeOf, typeInfo, hq, hj, hv]
/-- The rest of a row: at what address it lies, and that the slice expression gives it. -/
theorem nums_from {P : Program} {w : World} {k : IntKind} {A : Option Addr} {xs : List Int} (h : Nums w k A xs) (T e : TypeId) (hT : P.underlying T = some (.slice e)) (hs : (P.info? e).map (·.size) = some 1) (c n : Nat) (hn : n ≤ xs.length) (hp : 0 < xs.length) (hcap : xs.length ≤ c) :
    ∃ A', (∀ W : World, (Instr.slice T (.slice A xs.length c) (some (.int .i64 (n : Int))) none none).run P W = .ok (.slice A' (xs.length - n) (c - n)) W) ∧ Nums w k A' (xs.drop n) ∧ (∀ g o s, A = some ⟨g, o, s⟩ → ∃ o', A' = some ⟨g, o', s⟩) := by
  obtain ⟨b, off, rfl, hlt, hc⟩ := h hp
  have hT2 : P.underlying T = some (.slice (P.elem T)) := by rw [hT]; simp [Program.elem, hT]
  have he : P.elem T = e := by simp [Program.elem, hT]
  have hsz : ∀ W : World, (sizeOf e).run P W = .ok 1 W := fun W => by
    cases hq : P.info? e with
    | none => simp [hq] at hs
    | some j =>
      have hj : j.size = 1 := by simpa [hq] using hs
      simp [sizeOf, typeInfo, hq, hj]
  have hrun : ∀ W : World, (Instr.slice T (.slice (some ⟨b, off, none⟩) xs.length c) (some (.int .i64 (n : Int))) none none).run P W = .ok (sliced (some ⟨b, off, none⟩) n xs.length c 1) W := fun W => by
    rw [run_slice_l W T (some ⟨b, off, none⟩) xs.length c hT2 .i64 (n : Int) (by omega) (by omega), he, hsz]
    simp [Result.andThen]
  by_cases hcn : c = n
  · refine ⟨some ⟨b, off, none⟩, fun W => ?_, fun hp2 => ?_, fun g o s e => ?_⟩
    · rw [hrun]; simp [sliced, hcn]
    · simp at hp2; omega
    · injection e with e; injection e with e1 e2 e3; subst e1; subst e3; exact ⟨off, rfl⟩
  · have hadd : (⟨b, off, none⟩ : Addr).add n = ⟨b, off + n, none⟩ := Addr.add_mid b off n
    refine ⟨some ⟨b, off + n, none⟩, fun W => ?_, fun hp2 => ⟨b, off + n, rfl, hlt, fun i hi => ?_⟩, fun g o s e => ?_⟩
    · rw [hrun]; simp [sliced, hcn, hadd]
    · rw [List.length_drop] at hi
      rw [Nat.add_assoc, hc (n + i) (by omega)]
      simp [List.getD]
    · injection e with e; injection e with e1 e2 e3; subst e1; subst e3; exact ⟨off + n, rfl⟩
end Go.Proofs.Ytdfalneiapeegaa
