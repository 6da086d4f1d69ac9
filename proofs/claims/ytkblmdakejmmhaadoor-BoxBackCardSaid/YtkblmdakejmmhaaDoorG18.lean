/- Texts of this proof, laid together: MRow, VMath, MApp, MCopy. -/
import Derived.Test.YtkblmdakejmmhaaDoorG17
import Derived.Test.YtkblmdakejmmhaaDoorG1
import Derived.Great.BuildSlice
import Derived.Test.YtkblmdakejmmhaaDoorG4
import Derived.Laws.IdiomCopy
/- Cells of any values in memory, and steps of regions over them. No program is named. -/
namespace Go.Proofs.YtkblmdakejmmhaaDoor
open Go Go.RowKit

/-- From offset o on block b holds vs, and may be written. -/
def Rw (w : World) (b o : Nat) (vs : List Value) : Prop := ∀ i v, vs[i]? = some v → w.cell? ⟨b, o + i, none⟩ = some v ∧ w.frozen? ⟨b, o + i, none⟩ = false
section
variable {w w' : World} {b o o' : Nat} {vs us : List Value}
set_option maxRecDepth 50000 in
theorem Rw.range (h : Rw w b o vs) : w.rangeAt b o vs := fun j v hv => (h j v hv).1
set_option maxRecDepth 50000 in
theorem Rw.there (h : Rw w b o vs) : w.there b o vs.length := fun j hj => ⟨by rw [(h j vs[j] (by simp [hj])).1]; rfl, (h j vs[j] (by simp [hj])).2⟩
set_option maxRecDepth 50000 in
theorem Rw.of (h1 : w.rangeAt b o vs) (h2 : w.there b o vs.length) : Rw w b o vs := fun i v hi => ⟨h1 i v hi, (h2 i (List.getElem?_eq_some_iff.1 hi).1).2⟩
set_option maxRecDepth 50000 in
theorem Rw.same (h : Rw w b o vs) (he : w'.heap[b]? = w.heap[b]?) : Rw w' b o vs := fun i v hi => by
  rw [World.cell?_of_block (a := ⟨b, o + i, none⟩) he, World.frozen?_of_block (a := ⟨b, o + i, none⟩) he]
  exact h i v hi
set_option maxRecDepth 50000 in
theorem Rw.next (h : Rw w b o vs) (hb : Below w.heap.size w w') : Rw w' b o vs := fun i v hi => h.same (hb.block b (World.block_lt_of_cell? w _ (h i v hi).1)) i v hi
set_option maxRecDepth 50000 in
theorem Rw.left (h : Rw w b o (vs ++ us)) : Rw w b o vs := fun i v hi => h i v (by rw [List.getElem?_append_left (List.getElem?_eq_some_iff.1 hi).1]; exact hi)
set_option maxRecDepth 50000 in
theorem Rw.right (h : Rw w b o (vs ++ us)) (e : o' = o + vs.length) : Rw w b o' us := fun i v hi => by
  have h1 := h (vs.length + i) v (by rw [List.getElem?_append_right (by omega), Nat.add_sub_cancel_left]; exact hi)
  rwa [← Nat.add_assoc, ← e] at h1
set_option maxRecDepth 50000 in
theorem Rw.stored (h : Rw w b o vs) (e : us.length = vs.length) : Rw (w.setCells b o us) b o us := by
  have ht : w.there b o us.length := by rw [e]; exact h.there
  exact Rw.of (World.rangeAt_setCells_same w b o us ht) (World.there_setCells ht b o us)
set_option maxRecDepth 50000 in
theorem Rw.roomA (h : Rw w b o vs) (e : us.length = vs.length) : w.there b o us.toArray.size := by
  have := h.there
  rw [← e] at this
  exact this
set_option maxRecDepth 50000 in
theorem Rw.storedA (h : Rw w b o vs) (e : us.length = vs.length) : Rw (w.setCells b o us.toArray.toList) b o us := h.stored e
set_option maxRecDepth 50000 in
theorem szV {P : Program} {T m : Nat} {z : Value} (h : (P.info? T).map (fun i => (i.zero, i.size)) = some (some z, m)) (hv : vs.length = m) : (P.info? T).map (·.size) = some vs.length := by
  cases hc : P.info? T with
  | none => rw [hc] at h; simp at h
  | some i =>
    rw [hc] at h
    simp only [Option.map_some, Option.some.injEq, Prod.mk.injEq] at h
    simp [h.2, hv]
set_option maxRecDepth 50000 in
theorem szA {P : Program} {T m : Nat} {z : Value} (h : (P.info? T).map (fun i => (i.zero, i.size)) = some (some z, m)) (hv : vs.length = m) : (P.info? T).map (·.size) = some vs.toArray.size := szV h hv
set_option maxRecDepth 50000 in
theorem il {k : IntKind} {l : List Int} {m : Nat} (h : l.length = m) : (ints k l).length = m := by rw [ints_length]; exact h
set_option maxRecDepth 50000 in
theorem Rw.new (w : World) (vs : List Value) (T : TypeId) : Rw (w.alloc (.cells vs.toArray T)) w.heap.size 0 vs := fun i v hi => by
  rw [Nat.zero_add, World.cell?_alloc_new, World.frozen?_alloc_new]
  exact ⟨by simpa using hi, rfl⟩
set_option maxRecDepth 50000 in
theorem Arr.rw {k : IntKind} {xs : List Int} (h : Arr w b o k xs) : Rw w b o (ints k xs) := Rw.of h.range (by rw [ints_length]; exact h.there)
set_option maxRecDepth 50000 in
theorem Rw.arr {k : IntKind} {xs : List Int} (h : Rw w b o (ints k xs)) : Arr w b o k xs := Arr.of h.range (by have := h.there; rwa [ints_length] at this)
set_option maxRecDepth 50000 in
theorem Rw.nums {k : IntKind} {xs : List Int} (h : Rw w b o (ints k xs)) : Nums w k (some ⟨b, o, none⟩) xs := h.arr.nums
set_option maxRecDepth 50000 in
theorem ints_app (k : IntKind) (xs ys : List Int) : ints k (xs ++ ys) = ints k xs ++ ints k ys := by simp [ints]
set_option maxRecDepth 50000 in
theorem Rw.lo {k : IntKind} {xs ys : List Int} (h : Rw w b o (ints k (xs ++ ys))) : Rw w b o (ints k xs) := by rw [ints_app] at h; exact h.left
set_option maxRecDepth 50000 in
theorem Rw.hi {k : IntKind} {xs ys : List Int} (h : Rw w b o (ints k (xs ++ ys))) (e : o' = o + xs.length) : Rw w b o' (ints k ys) := by rw [ints_app] at h; exact h.right (by rw [ints_length]; exact e)
set_option maxRecDepth 50000 in
theorem Nums.range {k : IntKind} {xs : List Int} (h : Nums w k (some ⟨b, o, none⟩) xs) : w.rangeAt b o (ints k xs) := fun j v hv => by
  simp only [ints, List.getElem?_map, Option.map_eq_some_iff] at hv
  obtain ⟨x, hx, rfl⟩ := hv
  have hj := (List.getElem?_eq_some_iff.1 hx).1
  obtain ⟨b', off, e1, hlt, hc⟩ := h (by omega)
  injection e1 with e1
  injection e1 with e1 e2
  subst e1 e2
  rw [hc j hj]
  simp [List.getD, hx]
end
/-- A new block with these cells. -/
def IsZV (base : Nat) (zs : List Value) : Value → World → Prop := fun v w => ∃ b, v = .pointer (some ⟨b, 0, none⟩) ∧ base ≤ b ∧ Rw w b 0 zs
set_option maxRecDepth 50000 in
theorem IsZV.grows (base : Nat) (zs : List Value) : Grows (IsZV base zs) := fun _ _ _ ⟨b, h1, h0, h2⟩ hb => ⟨b, h1, h0, h2.next hb⟩
/-- A new row with these cells. -/
def IsRowV (base k : Nat) (vs : List Value) : Value → World → Prop := fun v w => ∃ b, v = .slice (some ⟨b, 0, none⟩) k k ∧ base ≤ b ∧ Rw w b 0 vs
set_option maxRecDepth 50000 in
theorem IsRowV.grows (base k : Nat) (vs : List Value) : Grows (IsRowV base k vs) := fun _ _ _ ⟨b, h1, h0, h2⟩ hb => ⟨b, h1, h0, h2.next hb⟩
/-- A row of the call's own, of numbers. -/
def IsOwn (base : Nat) (e : TypeId) (k : IntKind) (xs : List Int) : Value → World → Prop := fun v w => ∃ A c, v = .slice A xs.length c ∧ Owns w base e k v xs
section
variable {P : Program} {ops : Array Oper} {md : Region.Mode} {W : World} {a0 : Act} {n : Nat} {al : Nat → Bool} {S : Nat → Value → World → Prop} {Q : Exit → Act → World → Prop} {i : Nat} {o : Oper}
/-- What is told of an operand's value. -/
def KnowsW (ops : Array Oper) (md : Region.Mode) (W : World) (a0 : Act) (n : Nat) (S : Nat → Value → World → Prop) (i : Nat) (x : Operand) (R : Value → World → Prop) : Prop := ∀ (a : Act) (w : World), Cl W w → Fr ops n a0 a → Dp ops md n S i a w → R (a.eval x) w
set_option maxRecDepth 50000 in
theorem knowsW_in (j d : Nat) {R : Value → World → Prop} (hj : j < n) (hw : Region.waitsFor md ops i j = true) (hd : dstOf ops j = some d) (hS : S j = R) : KnowsW ops md W a0 n S i (.tmp d) R := fun a w _ _ hdp => by
  have h := hdp j d hj hw hd
  rw [hS] at h
  exact h
set_option maxRecDepth 50000 in
theorem step_ldV (hal : al i = false) (hg : GuardOn ops md n S i o) {T : TypeId} {x : Operand} {b f : Nat} {vs : List Value} {d : TypeDesc} (h : ∀ w, Cl W w → w.rangeAt b f vs) (ho : o.op = .load T x) (hU : P.underlying T = some d) (hR : d.isRow = true) (hs : (P.info? T).map (·.size) = some vs.length) (hS : S i = Is (.agg vs.toArray)) (hx : Knows ops md W a0 n S i x (.pointer (some ⟨b, f, none⟩))) : StepOk P ops md W a0 n al S Q i o :=
  step_run hal hg fun a w hw hf hd => ⟨_, ex_load T x ho b f (hx a w hw hf hd) vs d (h w hw) hU hR hs, by rw [hS]; exact rfl⟩
set_option maxRecDepth 50000 in
theorem ex_allocV {T : TypeId} {zs : List Value} {m : Nat} (hI : (P.info? T).map (fun i => (i.zero, i.size)) = some (some (.agg zs.toArray), m)) (ev : Operand → Value) (o : Oper) (ho : o.op = .alloc T) (w : World) : (execOp ev o).run P w = .ok (.value (.pointer (some ⟨w.heap.size, 0, none⟩))) (w.alloc (.cells zs.toArray T)) := by
  obtain ⟨z, s⟩ := zero_of_info hI
  unfold execOp
  simp only [ho]
  go_simp
set_option maxRecDepth 50000 in
theorem step_allocV (hg : GuardOn ops md n S i o) {T : TypeId} {zs : List Value} {m : Nat} (hI : (P.info? T).map (fun i => (i.zero, i.size)) = some (some (.agg zs.toArray), m)) (ho : o.op = .alloc T) (hS : S i = IsZV W.heap.size zs) : StepOk P ops md W a0 n al S Q i o :=
  step_alloc hg (fun ev w => ex_allocV hI ev o ho w) fun w hw => by rw [hS]; exact ⟨w.heap.size, rfl, Below.size hw, Rw.new w zs T⟩
set_option maxRecDepth 50000 in
/-- One operand, and one value that it gives in every world. -/
theorem step_one (hal : al i = false) (hg : GuardOn ops md n S i o) {x : Operand} {u v : Value} (hr : ∀ (ev : Operand → Value) w, ev x = u → (∀ c, ev (.const c) = c) → (execOp ev o).run P w = .ok (.value v) w) (hS : S i = Is v) (hx : Knows ops md W a0 n S i x u) : StepOk P ops md W a0 n al S Q i o :=
  step_run hal hg fun a w hw hf hd => ⟨v, hr a.eval w (hx a w hw hf hd) (fun _ => rfl), by rw [hS]; exact rfl⟩
set_option maxRecDepth 50000 in
theorem step_two (hal : al i = false) (hg : GuardOn ops md n S i o) {x y : Operand} {u t v : Value} (hr : ∀ (ev : Operand → Value) w, ev x = u → ev y = t → (∀ c, ev (.const c) = c) → (execOp ev o).run P w = .ok (.value v) w) (hS : S i = Is v) (hx : Knows ops md W a0 n S i x u) (hy : Knows ops md W a0 n S i y t) : StepOk P ops md W a0 n al S Q i o :=
  step_run hal hg fun a w hw hf hd => ⟨v, hr a.eval w (hx a w hw hf hd) (hy a w hw hf hd) (fun _ => rfl), by rw [hS]; exact rfl⟩
set_option maxRecDepth 50000 in
theorem step_mvP (hal : al i = false) (hg : GuardOn ops md n S i o) {x : Operand} {v : Value} (ho : o.op = .move x) (hS : S i = Is v) (hk : Knows ops md W a0 n S i x v) : StepOk P ops md W a0 n al S Q i o :=
  step_one hal hg (fun ev w h _ => by unfold execOp; simp only [ho, h]; rfl) hS hk
set_option maxRecDepth 50000 in
theorem step_asgP (hal : al i = false) (hg : GuardOn ops md n S i o) {x : Operand} {v : Value} (ho : o.op = .assign x) (hS : S i = Is v) (hk : Knows ops md W a0 n S i x v) : StepOk P ops md W a0 n al S Q i o :=
  step_one hal hg (fun ev w h _ => by unfold execOp; simp only [ho, h]; rfl) hS hk
set_option maxRecDepth 50000 in
theorem step_copyW (hal : al i = false) (hg : GuardOn ops md n S i o) (j d : Nat) {R : Value → World → Prop} (ho : o.op = .move (.tmp d) ∨ o.op = .assign (.tmp d)) (hS : S i = R) (hj : j < n) (hw : Region.waitsFor md ops i j = true) (hd : dstOf ops j = some d) (hSj : S j = R) : StepOk P ops md W a0 n al S Q i o :=
  step_run hal hg fun a w _ _ hdp => ⟨a.eval (.tmp d), by
    unfold execOp
    rcases ho with ho | ho <;> simp only [ho] <;> rfl, by
    have h := hdp j d hj hw hd
    rw [hSj] at h
    rw [hS]; exact h⟩
set_option maxRecDepth 50000 in
/-- A struct or array of given parts. -/
theorem step_buildP (hal : al i = false) (hg : GuardOn ops md n S i o) {T : TypeId} {parts : Array (Nat × Operand)} {pv : List (Nat × Value)} {cs : Array Value} (ho : o.op = .build T parts) (hb : P.built T pv = some cs) (hS : S i = Is (.agg cs))
    (hv : ∀ (a : Act) (w : World), Cl W w → Fr ops n a0 a → Dp ops md n S i a w → (parts.map fun (i, x) => (i, a.eval x)).toList = pv) : StepOk P ops md W a0 n al S Q i o :=
  step_run hal hg fun a w hw hf hd => ⟨.agg cs, by
    have h := hv a w hw hf hd
    have hr := run_build (P := P) w T (parts.map fun (i, x) => (i, a.eval x)) cs (by rw [h]; exact hb)
    unfold execOp
    simp only [ho, Sem.run_bind, hr, Result.andThen_ok, Sem.run_pure], by rw [hS]; exact rfl⟩
set_option maxRecDepth 50000 in
/-- The number of elements of a slice. -/
theorem step_len (hal : al i = false) (hg : GuardOn ops md n S i o) {T : TypeId} (hT : P.underlying T = some (.slice (P.elem T))) {x : Operand} {A : Option Addr} {m c : Nat} (ho : o.op = .call { callee := .builtin .len, args := #[x], argTypes := #[T] }) (hS : S i = Is (.int .i64 (m : Int))) (hk : Knows ops md W a0 n S i x (.slice A m c)) : StepOk P ops md W a0 n al S Q i o :=
  step_one hal hg (fun ev w h _ => by
    have hrun := run_len_slice w T o.type A m c hT
    unfold execOp
    simp only [ho, resolve, invoke, builtin, Sem.run_bind, Sem.run_pure, Result.andThen_ok, List.map_toArray, List.map_cons, List.map_nil, h, hrun]
    rfl) hS hk
set_option maxRecDepth 50000 in
/-- A number, compared with a constant. -/
theorem step_eqC (hal : al i = false) (hg : GuardOn ops md n S i o) {T : Nat} {x : Operand} {c a : Int} {b : Bool} (ho : o.op = .binOp .eql T x (.const (.int .i64 c)) T) (hT : P.underlying T = some (.int .i64)) (hS : S i = Is (.bool b)) (hb : (a == c) = b) (h1 : Knows ops md W a0 n S i x (.int .i64 a)) : StepOk P ops md W a0 n al S Q i o :=
  step_one hal hg (fun ev w h hc => by
    have h2 := hc (.int .i64 c)
    subst hb
    unfold execOp
    simp only [ho, h, h2]
    go_simp) hS h1
set_option maxRecDepth 50000 in
theorem ex_slA {T : TypeId} (hT : P.underlying T = some (.array (P.arrayLen T) (P.elem T))) (hz : ∀ w, (sizeOf (P.elem T)).run P w = .ok 1 w) {m : Nat} (hm : P.arrayLen T = m) {x : Operand} (ho : o.op = .slice T x none none none) {b f : Nat} (ev : Operand → Value) (w : World) (hx : ev x = .pointer (some ⟨b, f, none⟩)) (_ : ∀ c, ev (.const c) = c) : (execOp ev o).run P w = .ok (.value (.slice (some ⟨b, f, none⟩) m m)) w := by
  subst hm
  unfold execOp
  simp only [ho, hx, Option.map_none, Sem.run_bind, run_sliceAt_array_all w T ⟨b, f, none⟩ hT, hz, Result.andThen_ok, Sem.run_pure]
  simp [slicedAt, Addr.add_mid]
set_option maxRecDepth 50000 in
theorem ex_slAh {T : TypeId} (hT : P.underlying T = some (.array (P.arrayLen T) (P.elem T))) (hz : ∀ w, (sizeOf (P.elem T)).run P w = .ok 1 w) {m h : Nat} (hm : P.arrayLen T = m) (hh : h ≤ m) {x : Operand} (ho : o.op = .slice T x none (some (.const (.int .i64 (h : Int)))) none) {b f : Nat} (ev : Operand → Value) (w : World) (hx : ev x = .pointer (some ⟨b, f, none⟩)) (hc : ∀ c, ev (.const c) = c) : (execOp ev o).run P w = .ok (.value (.slice (some ⟨b, f, none⟩) h m)) w := by
  subst hm
  unfold execOp
  simp only [ho, hx, Option.map_none, Option.map_some, hc, Sem.run_bind, run_sliceAt_array_h w T ⟨b, f, none⟩ hT .i64 (h : Int) (by omega) (by omega), hz, Result.andThen_ok, Sem.run_pure]
  simp [slicedAt, Addr.add_mid]
set_option maxRecDepth 50000 in
theorem ex_slAl {T : TypeId} (hT : P.underlying T = some (.array (P.arrayLen T) (P.elem T))) (hz : ∀ w, (sizeOf (P.elem T)).run P w = .ok 1 w) {m l f' k : Nat} (hm : P.arrayLen T = m) (hl : l < m) {x : Operand} (ho : o.op = .slice T x (some (.const (.int .i64 (l : Int)))) none none) {b f : Nat} (hf : f' = f + l) (hk : k = m - l) (ev : Operand → Value) (w : World) (hx : ev x = .pointer (some ⟨b, f, none⟩)) (hc : ∀ c, ev (.const c) = c) : (execOp ev o).run P w = .ok (.value (.slice (some ⟨b, f', none⟩) k k)) w := by
  subst hm hf hk
  unfold execOp
  simp only [ho, hx, Option.map_none, Option.map_some, hc, Sem.run_bind, run_sliceAt_array_l w T ⟨b, f, none⟩ hT .i64 (l : Int) (by omega) (by omega), hz, Result.andThen_ok, Sem.run_pure]
  have : ¬ P.arrayLen T = l := by omega
  simp [slicedAt, Addr.add_mid, this]
-- slices of slices
set_option maxRecDepth 50000 in
theorem ex_slSh {T : TypeId} (hT : P.underlying T = some (.slice (P.elem T))) (hz : ∀ w, (sizeOf (P.elem T)).run P w = .ok 1 w) {m c h : Nat} (hh : h ≤ c) {x : Operand} (ho : o.op = .slice T x none (some (.const (.int .i64 (h : Int)))) none) {A : Option Addr} (hA : A ≠ none ∨ 0 < 1) (ev : Operand → Value) (w : World) (hx : ev x = .slice A m c) (hc : ∀ c, ev (.const c) = c) : (execOp ev o).run P w = .ok (.value (.slice A h c)) w := by
  unfold execOp
  simp only [ho, hx, Option.map_none, Option.map_some, hc, Sem.run_bind, run_sliceAt_slice w T _ _ _ _ hT, run_slice_h w T A m c hT .i64 (h : Int) (by omega) (by omega), hz, Result.andThen_ok, Sem.run_pure]
  cases A with
  | none => simp [sliced]
  | some a =>
    have : a.add 0 = a := by unfold Addr.add; simp
    simp [sliced, this]
set_option maxRecDepth 50000 in
theorem ex_slSl {T : TypeId} (hT : P.underlying T = some (.slice (P.elem T))) (hz : ∀ w, (sizeOf (P.elem T)).run P w = .ok 1 w) {m c l f' m' c' : Nat} (hl : l ≤ m) (hlc : l < c) {x : Operand} (ho : o.op = .slice T x (some (.const (.int .i64 (l : Int)))) none none) {b f : Nat} (hf : f' = f + l) (hm : m' = m - l) (hcc : c' = c - l) (ev : Operand → Value) (w : World) (hx : ev x = .slice (some ⟨b, f, none⟩) m c) (hc : ∀ c, ev (.const c) = c) : (execOp ev o).run P w = .ok (.value (.slice (some ⟨b, f', none⟩) m' c')) w := by
  subst hf hm hcc
  unfold execOp
  simp only [ho, hx, Option.map_none, Option.map_some, hc, Sem.run_bind, run_sliceAt_slice w T _ _ _ _ hT, run_slice_l w T (some ⟨b, f, none⟩) m c hT .i64 (l : Int) (by omega) (by omega), hz, Result.andThen_ok, Sem.run_pure]
  have : ¬ c = l := by omega
  simp [sliced, Addr.add_mid, this]
set_option maxRecDepth 50000 in
theorem ex_arrP {T e : TypeId} {k : Nat} (hT : P.underlying T = some (.array k e)) {m c : Nat} (hk : k ≤ m) {x : Operand} (ho : o.op = .sliceToArrayPointer T x) {A : Option Addr} (ev : Operand → Value) (w : World) (hx : ev x = .slice A m c) (_ : ∀ c, ev (.const c) = c) : (execOp ev o).run P w = .ok (.value (.pointer A)) w := by
  unfold execOp
  simp only [ho, hx, Sem.run_bind, run_arrayAt w T e k A m c hT hk, Result.andThen_ok, Sem.run_pure]
set_option maxRecDepth 50000 in
theorem ex_fld {T k : Nat} {x : Operand} (ho : o.op = .fieldAddr T x k) {b f b' f' : Nat} (hr : ∀ w, (Instr.fieldAt T (.pointer (some ⟨b, f, none⟩)) k).run P w = .ok (.pointer (some ⟨b', f', none⟩)) w) (ev : Operand → Value) (w : World) (hx : ev x = .pointer (some ⟨b, f, none⟩)) (_ : ∀ c, ev (.const c) = c) : (execOp ev o).run P w = .ok (.value (.pointer (some ⟨b', f', none⟩))) w := by
  unfold execOp
  simp only [ho, hx, Sem.run_bind, hr, Result.andThen_ok, Sem.run_pure]
set_option maxRecDepth 50000 in
theorem ex_nilc {x : Operand} (ho : o.op = .nilCheck x) {a : Addr} (ev : Operand → Value) (w : World) (hx : ev x = .pointer (some a)) (_ : ∀ c, ev (.const c) = c) : (execOp ev o).run P w = .ok (.value (.pointer (some a))) w := by
  unfold execOp
  simp only [ho, hx]
  rfl
set_option maxRecDepth 50000 in
/-- A slice literal. -/
theorem step_bsl (hg : GuardOn ops md n S i o) {T e : TypeId} {k s : Nat} {z : Value} {parts : Array (Nat × Operand)} {pv : List (Nat × Value)} {vs : List Value} (ho : o.op = .buildSlice T k parts) (hu : P.underlying T = some (.slice e)) (hI : (P.info? e).map (fun i => (i.zero, i.size)) = some (some z, s)) (hsmall : ¬ k * s > 2 ^ 24) (hpos : ¬ k * s = 0)
    (hf : Instr.fill (fun i => some (i * s, s)) ((Array.range (k * s)).map (z.cells[· % z.cells.size]!)) pv = some vs.toArray) (hS : S i = IsRowV W.heap.size k vs)
    (hv : ∀ (a : Act) (w : World), Cl W w → Fr ops n a0 a → Dp ops md n S i a w → (parts.map fun (i, x) => (i, a.eval x)).toList = pv) : StepOk P ops md W a0 n al S Q i o := fun a w hw hf' hd => by
  rw [if_pos (hg.wanted hd)]
  cases hq : P.info? e with
  | none => rw [hq] at hI; simp at hI
  | some ie =>
    rw [hq] at hI
    simp only [Option.map_some, Option.some.injEq, Prod.mk.injEq] at hI
    obtain ⟨hz, rfl⟩ := hI
    refine wp_buildSlice T e k parts ho vs.toArray ie z hu hq hz hsmall hpos (by rw [hv a w hw hf' hd]; exact hf) ?_
    refine ⟨_, rfl, ?_, below_new w _, fun _ => ⟨_, rfl, Nat.le_refl _, by simp⟩⟩
    rw [hS]
    exact ⟨w.heap.size, rfl, Below.size hw, Rw.new w vs e⟩
set_option maxRecDepth 50000 in
theorem parts1 {x : Operand} {u : Value} (hx : Knows ops md W a0 n S i x u) : ∀ (a : Act) (w : World), Cl W w → Fr ops n a0 a → Dp ops md n S i a w → (#[(0, x)].map fun ((i : Nat), (x : Operand)) => (i, a.eval x)).toList = [(0, u)] := fun a w hw hf hd => by
  have h := hx a w hw hf hd
  simp [h]
set_option maxRecDepth 50000 in
theorem ex_fnP {ev : Operand → Value} {o : Oper} {f : FuncId} {xs : Array Operand} {ts : Array TypeId} (hf : ev (.func f) = .func (.func f) #[] #[]) (hc : ∀ vs w, (callFunc f vs).run P w = .ok (.enter f vs) w) (ho : o.op = .call { callee := .value (.func f), args := xs, argTypes := ts }) (vs : Array Value) (hv : xs.map ev = vs) (w : World) : (execOp ev o).run P w = .ok (.enter f vs) w := by
  subst hv
  unfold execOp
  simp only [ho]
  go_simp
set_option maxRecDepth 50000 in
/-- A call that returns one value in every world that grew out of this one. -/
theorem step_cw (hal : al i = false) (hg : GuardOn ops md n S i o) {f : FuncId} {xs : Array Operand} {ts : Array TypeId} {v : Value} (ho : o.op = .call { callee := .value (.func f), args := xs, argTypes := ts }) (hcf : ∀ vs w, (callFunc f vs).run P w = .ok (.enter f vs) w)
    (hS : S i = Is v) (hv : ∀ (a : Act) (w : World), Cl W w → Fr ops n a0 a → Dp ops md n S i a w → ∃ vs, xs.map a.eval = vs ∧ Calls P f vs w fun e w' => e = .returned v ∧ Below w.heap.size w w') : StepOk P ops md W a0 n al S Q i o :=
  step_call hal hg fun a w hw hf hd => by
    obtain ⟨vs, h1, h2⟩ := hv a w hw hf hd
    refine ⟨f, vs, ?_, h2.mono fun _ _ ⟨he, hb⟩ => ⟨v, he, by rw [hS]; exact rfl, hb⟩⟩
    exact ex_fnP rfl hcf ho vs h1 w
end
end Go.Proofs.YtkblmdakejmmhaaDoor

/- Tags and derived keys, as lists of bytes. -/
namespace Go.Proofs.YtkblmdakejmmhaaDoor
open Go Go.RowKit

/-- A byte combined with another. -/
def vx (x c : Int) : Int := bits .xor .u8 x c
set_option maxRecDepth 50000 in
theorem vx_bd (x c : Int) : 0 ≤ vx x c ∧ vx x c < 256 := by
  show 0 ≤ IntKind.u8.wrap _ ∧ IntKind.u8.wrap _ < 256
  rw [IntKind.wrap_u8]
  omega
set_option maxRecDepth 50000 in
theorem hz_len (n : Nat) : (hzeros n).length = n := by simp [hzeros]
set_option maxRecDepth 50000 in
theorem HByt.app {a b : List Int} (h : HByt a) (k : HByt b) : HByt (a ++ b) := fun x hx => by
  rcases List.mem_append.1 hx with e | e
  · exact h x e
  · exact k x e
def vxl (c : Int) (l : List Int) : List Int := l.map fun x => vx x c
set_option maxRecDepth 50000 in
theorem vxl_len (c : Int) (l : List Int) : (vxl c l).length = l.length := by simp [vxl]
set_option maxRecDepth 50000 in
theorem vxl_byt (c : Int) (l : List Int) : HByt (vxl c l) := fun x hx => by
  simp only [vxl, List.mem_map] at hx
  obtain ⟨y, _, rfl⟩ := hx
  exact vx_bd _ _
set_option maxRecDepth 50000 in
theorem hash_len (m : List Int) : (hash m).length = 64 := by
  unfold hash
  rw [splitB_length]; rfl
set_option maxRecDepth 50000 in
theorem hash_byt (m : List Int) : HByt (hash m) := splitB_byt _ _ _
/-- The key that fills a block. -/
def keyV (key : List Int) : List Int := if 128 < key.length then hash key else key
set_option maxRecDepth 50000 in
theorem keyV_le (key : List Int) : (keyV key).length ≤ 128 := by
  unfold keyV
  split
  · rw [hash_len]; omega
  · omega
/-- The block of a key. -/
def fillV (key : List Int) : List Int := keyV key ++ hzeros (128 - (keyV key).length)
set_option maxRecDepth 50000 in
theorem fillV_len (key : List Int) : (fillV key).length = 128 := by
  unfold fillV
  have := keyV_le key
  rw [List.length_append, hz_len]; omega
def inV (key : List Int) : List Int := vxl 54 (fillV key)
def outV (key : List Int) : List Int := vxl 92 (fillV key)
set_option maxRecDepth 50000 in
theorem inV_len (key : List Int) : (inV key).length = 128 := by unfold inV; rw [vxl_len, fillV_len]
set_option maxRecDepth 50000 in
theorem outV_len (key : List Int) : (outV key).length = 128 := by unfold outV; rw [vxl_len, fillV_len]
set_option maxRecDepth 50000 in
theorem inV_byt (key : List Int) : HByt (inV key) := vxl_byt _ _
set_option maxRecDepth 50000 in
theorem outV_byt (key : List Int) : HByt (outV key) := vxl_byt _ _
/-- The tag of bytes under a key. -/
def tagV (key b : List Int) : List Int := hash (outV key ++ hash (inV key ++ b))
set_option maxRecDepth 50000 in
theorem tagV_len (key b : List Int) : (tagV key b).length = 64 := hash_len _
set_option maxRecDepth 50000 in
theorem tagV_byt (key b : List Int) : HByt (tagV key b) := hash_byt _
/-- A context, behind its number of bytes. -/
def ctxV (c : List Int) : List Int := splitB true 4 [(c.length : Int)] ++ c
def textV (label : List Int) (cs : List (List Int)) : List Int := splitB true 1 [(label.length : Int)] ++ label ++ (cs.map ctxV).flatten
/-- A derived key. -/
def keyD (src label : List Int) (cs : List (List Int)) : List Int := (tagV src (textV label cs)).take 32
set_option maxRecDepth 50000 in
theorem keyD_len (src label : List Int) (cs : List (List Int)) : (keyD src label cs).length = 32 := by
  unfold keyD
  rw [List.length_take, tagV_len]; rfl
set_option maxRecDepth 50000 in
theorem keyD_byt (src label : List Int) (cs : List (List Int)) : HByt (keyD src label cs) := (tagV_byt _ _).take _
def REG : List Int := [114, 101, 103, 114, 101, 115, 115]
def ITM : List Int := [105, 116, 101, 109]
def nextV (s : List Int) : List Int := keyD s REG []
def itemV (s : List Int) : List Int := keyD s ITM []
/-- So many steps back. -/
def backV (s : List Int) : Nat → List Int
  | 0 => s
  | n + 1 => nextV (backV s n)
end Go.Proofs.YtkblmdakejmmhaaDoor

/- A slice without room is appended to; a slice as an array. No program is named. -/
namespace Go.Proofs.YtkblmdakejmmhaaDoor
open Go Go.RowKit

/-- A slice of known cells, from a block's beginning on. -/
def IsSlV (m : Nat) (vs : List Value) : Value → World → Prop := fun v w => ∃ b c, v = .slice (some ⟨b, 0, none⟩) m c ∧ m ≤ c ∧ Rw w b 0 vs
/-- A pointer to known cells. -/
def IsPt (vs : List Value) : Value → World → Prop := fun v w => ∃ b f, v = .pointer (some ⟨b, f, none⟩) ∧ Rw w b f vs
section
variable {P : Program} {ops : Array Oper} {md : Region.Mode} {W : World} {a0 : Act} {n : Nat} {al : Nat → Bool} {S : Nat → Value → World → Prop} {Q : Exit → Act → World → Prop} {i : Nat} {o : Oper}
end
end Go.Proofs.YtkblmdakejmmhaaDoor

/- Numbers are copied into a row that may be written; operands that are slices of numbers. No program is named. -/
namespace Go.Proofs.YtkblmdakejmmhaaDoor
open Go Go.RowKit

set_option maxRecDepth 50000 in
theorem wpList_copyR {P : Program} {w : World} {ops : Array Oper} {rest : List Oper} {o : Oper} {a : Act} {Q : Exit → Act → World → Prop} (hgd : o.guard = none) (d s : Operand) (dT sT : TypeId) (ho : o.op = .call { callee := .builtin .copy, args := #[d, s], argTypes := #[dT, sT] }) {elem : TypeId} (hu : P.underlying dT = some (.slice elem)) (hs : (P.info? elem).map (·.size) = some 1)
    {b f m c c' : Nat} {A : Option Addr} {k : IntKind} {old : List Value} {xs : List Int} (hd : a.eval d = .slice (some ⟨b, f, none⟩) m c) (hsl : a.eval s = .slice A m c') (hR : Rw w b f old) (hl : old.length = m) (hx : xs.length = m) (hp : 0 < m) (hX : Nums w k A xs)
    (h : wpList P ops Q rest (a.put o.dst (.int .i64 (m : Int))) (w.setCells b f (ints k xs).toArray.toList)) : wpList P ops Q (o :: rest) a w := by
  obtain ⟨b2, f2, hA, hlt, hc⟩ := hX (by omega)
  subst hA
  have ht := hR.there
  have hrun := run_copy_cells (P := P) w dT sT o.type elem b f m c ⟨b2, f2, none⟩ m c' (ints k xs) hu hs (by rw [ints_length, hx]; exact (Nat.min_self m).symm) (fun j v hv => by
    simp only [ints, List.getElem?_map, Option.map_eq_some_iff] at hv
    obtain ⟨x, hxx, rfl⟩ := hv
    have hj := (List.getElem?_eq_some_iff.1 hxx).1
    rw [Addr.add_mid, hc j hj, List.getD_eq_getElem?_getD, hxx]; rfl) (fun j hj => (ht j (by rw [ints_length] at hj; omega)).1) (fun j hj => (ht j (by rw [ints_length] at hj; omega)).2) (ints_one k xs)
  rw [ints_length, hx] at hrun
  refine wpList_plain hgd fun K hK => ?_
  unfold Oper.wp execOp
  simp only [ho, resolve, invoke, builtin, Sem.run_bind, Sem.run_pure, Result.andThen_ok, List.map_toArray, List.map_cons, List.map_nil, hd, hsl, hrun]
  exact hK _ _ h
section
variable {P : Program} {ops : Array Oper} {md : Region.Mode} {W : World} {a0 : Act} {n : Nat} {S : Nat → Value → World → Prop} {i : Nat}
end
end Go.Proofs.YtkblmdakejmmhaaDoor
