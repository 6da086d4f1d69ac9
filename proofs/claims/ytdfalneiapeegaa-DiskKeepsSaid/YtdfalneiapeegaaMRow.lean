/- Cells of any values in memory, and steps of regions over them. No program is named. -/
import Derived.Test.YtdfalneiapeegaaGrowR
import Derived.Test.YtdfalneiapeegaaArr
import Derived.Great.BuildSlice
namespace Go.Proofs.Ytdfalneiapeegaa
open Go Go.RowKit

/-- From offset o on block b holds vs, and may be written. -/
def Rw (w : World) (b o : Nat) (vs : List Value) : Prop := ∀ i v, vs[i]? = some v → w.cell? ⟨b, o + i, none⟩ = some v ∧ w.frozen? ⟨b, o + i, none⟩ = false
section
variable {w w' : World} {b o o' : Nat} {vs us : List Value}
theorem Rw.range (h : Rw w b o vs) : w.rangeAt b o vs := fun j v hv => (h j v hv).1
theorem Rw.there (h : Rw w b o vs) : w.there b o vs.length := fun j hj => ⟨by rw [(h j vs[j] (by simp [hj])).1]; rfl, (h j vs[j] (by simp [hj])).2⟩
theorem Rw.of (h1 : w.rangeAt b o vs) (h2 : w.there b o vs.length) : Rw w b o vs := fun i v hi => ⟨h1 i v hi, (h2 i (List.getElem?_eq_some_iff.1 hi).1).2⟩
theorem Rw.lt (h : Rw w b o vs) (hp : 0 < vs.length) : b < w.heap.size := World.block_lt_of_cell? w _ (h 0 vs[0] (by simp [hp])).1
theorem Rw.same (h : Rw w b o vs) (he : w'.heap[b]? = w.heap[b]?) : Rw w' b o vs := fun i v hi => by
  rw [World.cell?_of_block (a := ⟨b, o + i, none⟩) he, World.frozen?_of_block (a := ⟨b, o + i, none⟩) he]
  exact h i v hi
theorem Rw.next (h : Rw w b o vs) (hb : Below w.heap.size w w') : Rw w' b o vs := fun i v hi => h.same (hb.block b (World.block_lt_of_cell? w _ (h i v hi).1)) i v hi
theorem Rw.grown {row : Option Nat} (h : Rw w b o vs) (hb : w.grownBy w' row) (hr : row ≠ some b) : Rw w' b o vs := fun i v hi => h.same (hb.block b (World.block_lt_of_cell? w _ (h i v hi).1) (fun e => hr e.symm)) i v hi
theorem Rw.left (h : Rw w b o (vs ++ us)) : Rw w b o vs := fun i v hi => h i v (by rw [List.getElem?_append_left (List.getElem?_eq_some_iff.1 hi).1]; exact hi)
theorem Rw.right (h : Rw w b o (vs ++ us)) (e : o' = o + vs.length) : Rw w b o' us := fun i v hi => by
  have h1 := h (vs.length + i) v (by rw [List.getElem?_append_right (by omega), Nat.add_sub_cancel_left]; exact hi)
  rwa [← Nat.add_assoc, ← e] at h1
theorem Rw.past (h : Rw w b o vs) {b' : Nat} (hne : b' ≠ b) (o' : Nat) (us : List Value) : Rw (w.setCells b' o' us) b o vs := fun i v hi => by
  rw [World.frozen?_setCells, World.cell?_setCells_out _ _ _ _ _ (fun e _ => absurd e.symm hne)]
  exact h i v hi
theorem Rw.stored (h : Rw w b o vs) (e : us.length = vs.length) : Rw (w.setCells b o us) b o us := by
  have ht : w.there b o us.length := by rw [e]; exact h.there
  exact Rw.of (World.rangeAt_setCells_same w b o us ht) (World.there_setCells ht b o us)
theorem Rw.roomA (h : Rw w b o vs) (e : us.length = vs.length) : w.there b o us.toArray.size := by
  have := h.there
  rw [← e] at this
  exact this
theorem Rw.storedA (h : Rw w b o vs) (e : us.length = vs.length) : Rw (w.setCells b o us.toArray.toList) b o us := h.stored e
theorem Rw.pastA (h : Rw w b o vs) {b' : Nat} (hne : b' ≠ b) (o' : Nat) (us : List Value) : Rw (w.setCells b' o' us.toArray.toList) b o vs := h.past hne o' us
theorem szV {P : Program} {T m : Nat} {z : Value} (h : (P.info? T).map (fun i => (i.zero, i.size)) = some (some z, m)) (hv : vs.length = m) : (P.info? T).map (·.size) = some vs.length := by
  cases hc : P.info? T with
  | none => rw [hc] at h; simp at h
  | some i =>
    rw [hc] at h
    simp only [Option.map_some, Option.some.injEq, Prod.mk.injEq] at h
    simp [h.2, hv]
theorem szA {P : Program} {T m : Nat} {z : Value} (h : (P.info? T).map (fun i => (i.zero, i.size)) = some (some z, m)) (hv : vs.length = m) : (P.info? T).map (·.size) = some vs.toArray.size := szV h hv
theorem il {k : IntKind} {l : List Int} {m : Nat} (h : l.length = m) : (ints k l).length = m := by rw [ints_length]; exact h
theorem Rw.new (w : World) (vs : List Value) (T : TypeId) : Rw (w.alloc (.cells vs.toArray T)) w.heap.size 0 vs := fun i v hi => by
  rw [Nat.zero_add, World.cell?_alloc_new, World.frozen?_alloc_new]
  exact ⟨by simpa using hi, rfl⟩
theorem Arr.rw {k : IntKind} {xs : List Int} (h : Arr w b o k xs) : Rw w b o (ints k xs) := Rw.of h.range (by rw [ints_length]; exact h.there)
theorem Rw.arr {k : IntKind} {xs : List Int} (h : Rw w b o (ints k xs)) : Arr w b o k xs := Arr.of h.range (by have := h.there; rwa [ints_length] at this)
theorem Rw.nums {k : IntKind} {xs : List Int} (h : Rw w b o (ints k xs)) : Nums w k (some ⟨b, o, none⟩) xs := h.arr.nums
theorem ints_app (k : IntKind) (xs ys : List Int) : ints k (xs ++ ys) = ints k xs ++ ints k ys := by simp [ints]
theorem Rw.lo {k : IntKind} {xs ys : List Int} (h : Rw w b o (ints k (xs ++ ys))) : Rw w b o (ints k xs) := by rw [ints_app] at h; exact h.left
theorem Rw.hi {k : IntKind} {xs ys : List Int} (h : Rw w b o (ints k (xs ++ ys))) (e : o' = o + xs.length) : Rw w b o' (ints k ys) := by rw [ints_app] at h; exact h.right (by rw [ints_length]; exact e)
/-- A part of a row, from offset j on. -/
theorem Nums.from {k : IntKind} {xs ys : List Int} (h : Nums w k (some ⟨b, o, none⟩) (xs ++ ys)) (e : o' = o + xs.length) : Nums w k (some ⟨b, o', none⟩) ys := fun hp => by
  obtain ⟨b', off, e1, hlt, hc⟩ := h (by simp; omega)
  injection e1 with e1
  injection e1 with e1 e2
  subst e1 e2
  refine ⟨b, o', rfl, hlt, fun i hi => ?_⟩
  have := hc (xs.length + i) (by simp; omega)
  rw [← Nat.add_assoc, ← e] at this
  rw [this, List.getD_eq_getElem?_getD, List.getD_eq_getElem?_getD, List.getElem?_append_right (by omega), Nat.add_sub_cancel_left]
theorem Nums.first {k : IntKind} {A : Option Addr} {xs ys : List Int} (h : Nums w k A (xs ++ ys)) : Nums w k A xs := fun hp => by
  obtain ⟨b', off, e1, hlt, hc⟩ := h (by simp; omega)
  refine ⟨b', off, e1, hlt, fun i hi => ?_⟩
  rw [hc i (by simp; omega), List.getD_eq_getElem?_getD, List.getD_eq_getElem?_getD, List.getElem?_append_left hi]
theorem Nums.range {k : IntKind} {xs : List Int} (h : Nums w k (some ⟨b, o, none⟩) xs) : w.rangeAt b o (ints k xs) := fun j v hv => by
  simp only [ints, List.getElem?_map, Option.map_eq_some_iff] at hv
  obtain ⟨x, hx, rfl⟩ := hv
  have hj := (List.getElem?_eq_some_iff.1 hx).1
  obtain ⟨b', off, e1, hlt, hc⟩ := h (by omega)
  injection e1 with e1
  injection e1 with e1 e2
  subst e1 e2
  rw [hc j hj]
  simp [List.getD, hx]
end
/-- A new block with these cells. -/
def IsZV (base : Nat) (zs : List Value) : Value → World → Prop := fun v w => ∃ b, v = .pointer (some ⟨b, 0, none⟩) ∧ base ≤ b ∧ Rw w b 0 zs
theorem IsZV.grows (base : Nat) (zs : List Value) : Grows (IsZV base zs) := fun _ _ _ ⟨b, h1, h0, h2⟩ hb => ⟨b, h1, h0, h2.next hb⟩
theorem IsZV.keeps (base : Nat) (zs : List Value) : Keeps true (IsZV base zs) := fun v w w' row ⟨b, h1, h0, h2⟩ hb hr => ⟨b, h1, h0, h2.grown hb fun e => hr rfl b e (by rw [h1]; rfl)⟩
/-- A new row with these cells. -/
def IsRowV (base k : Nat) (vs : List Value) : Value → World → Prop := fun v w => ∃ b, v = .slice (some ⟨b, 0, none⟩) k k ∧ base ≤ b ∧ Rw w b 0 vs
theorem IsRowV.grows (base k : Nat) (vs : List Value) : Grows (IsRowV base k vs) := fun _ _ _ ⟨b, h1, h0, h2⟩ hb => ⟨b, h1, h0, h2.next hb⟩
theorem IsRowV.keeps (base k : Nat) (vs : List Value) : Keeps true (IsRowV base k vs) := fun v w w' row ⟨b, h1, h0, h2⟩ hb hr => ⟨b, h1, h0, h2.grown hb fun e => hr rfl b e (by rw [h1]; rfl)⟩
theorem Is.keeps (b : Bool) (v : Value) : Keeps b (Is v) := fun _ _ _ _ h _ _ => h
/-- A row of the call's own, of numbers. -/
def IsOwn (base : Nat) (e : TypeId) (k : IntKind) (xs : List Int) : Value → World → Prop := fun v w => ∃ A c, v = .slice A xs.length c ∧ Owns w base e k v xs
theorem IsOwn.keeps (base : Nat) (e : TypeId) (k : IntKind) (xs : List Int) : Keeps true (IsOwn base e k xs) := fun v w w' row ⟨A, c, h1, h2⟩ hb hr => ⟨A, c, h1, h2.keep fun g hg => hb.block g (h2.lt g hg).2 (fun e => hr rfl g e.symm (by
  rw [h1] at hg ⊢
  cases A with
  | none => cases hg
  | some a => exact hg))⟩
theorem IsOwn.grows (base : Nat) (e : TypeId) (k : IntKind) (xs : List Int) : Grows (IsOwn base e k xs) := fun _ _ _ ⟨A, c, h1, h2⟩ hb => ⟨A, c, h1, h2.stay hb⟩

section
variable {P : Program} {ops : Array Oper} {md : Region.Mode} {W : World} {a0 : Act} {n : Nat} {al : Nat → Bool} {S : Nat → Value → World → Prop} {Q : Exit → Act → World → Prop} {i : Nat} {o : Oper}
/-- What is told of an operand's value. -/
def KnowsW (ops : Array Oper) (md : Region.Mode) (W : World) (a0 : Act) (n : Nat) (S : Nat → Value → World → Prop) (i : Nat) (x : Operand) (R : Value → World → Prop) : Prop := ∀ (a : Act) (w : World), Cl W w → Fr ops n a0 a → Dp ops md n S i a w → R (a.eval x) w
theorem knowsW_in (j d : Nat) {R : Value → World → Prop} (hj : j < n) (hw : Region.waitsFor md ops i j = true) (hd : dstOf ops j = some d) (hS : S j = R) : KnowsW ops md W a0 n S i (.tmp d) R := fun a w _ _ hdp => by
  have h := hdp j d hj hw hd
  rw [hS] at h
  exact h
theorem Knows.w {x : Operand} {v : Value} (h : Knows ops md W a0 n S i x v) : KnowsW ops md W a0 n S i x (Is v) := fun a w hw hf hd => h a w hw hf hd
theorem KnowsW.and {x : Operand} {R R' : Value → World → Prop} (h : KnowsW ops md W a0 n S i x R) (hR : ∀ v w, Cl W w → R v w → R' v w) : KnowsW ops md W a0 n S i x R' := fun a w hw hf hd => hR _ _ hw (h a w hw hf hd)
theorem step_ldV (hal : al i = false) (hg : GuardOn ops md n S i o) {T : TypeId} {x : Operand} {b f : Nat} {vs : List Value} {d : TypeDesc} (h : ∀ w, Cl W w → w.rangeAt b f vs) (ho : o.op = .load T x) (hU : P.underlying T = some d) (hR : d.isRow = true) (hs : (P.info? T).map (·.size) = some vs.length) (hS : S i = Is (.agg vs.toArray)) (hx : Knows ops md W a0 n S i x (.pointer (some ⟨b, f, none⟩))) : StepOk P ops md W a0 n al S Q i o :=
  step_run hal hg fun a w hw hf hd => ⟨_, ex_load T x ho b f (hx a w hw hf hd) vs d (h w hw) hU hR hs, by rw [hS]; exact rfl⟩
/-- The cells of what an operation before it made. -/
theorem step_ldW (hal : al i = false) (hg : GuardOn ops md n S i o) {T : TypeId} {x : Operand} {vs : List Value} {d : TypeDesc} (ho : o.op = .load T x) (hU : P.underlying T = some d) (hR : d.isRow = true) (hs : (P.info? T).map (·.size) = some vs.length) (hS : S i = Is (.agg vs.toArray)) (hx : KnowsW ops md W a0 n S i x (fun v w => ∃ b f, v = .pointer (some ⟨b, f, none⟩) ∧ w.rangeAt b f vs)) : StepOk P ops md W a0 n al S Q i o :=
  step_run hal hg fun a w hw hf hd => by
    obtain ⟨b, f, h1, h2⟩ := hx a w hw hf hd
    exact ⟨_, ex_load T x ho b f h1 vs d h2 hU hR hs, by rw [hS]; exact rfl⟩
theorem ex_allocV {T : TypeId} {zs : List Value} {m : Nat} (hI : (P.info? T).map (fun i => (i.zero, i.size)) = some (some (.agg zs.toArray), m)) (ev : Operand → Value) (o : Oper) (ho : o.op = .alloc T) (w : World) : (execOp ev o).run P w = .ok (.value (.pointer (some ⟨w.heap.size, 0, none⟩))) (w.alloc (.cells zs.toArray T)) := by
  obtain ⟨z, s⟩ := zero_of_info hI
  unfold execOp
  simp only [ho]
  go_simp
theorem step_allocV (hg : GuardOn ops md n S i o) {T : TypeId} {zs : List Value} {m : Nat} (hI : (P.info? T).map (fun i => (i.zero, i.size)) = some (some (.agg zs.toArray), m)) (ho : o.op = .alloc T) (hS : S i = IsZV W.heap.size zs) : StepOk P ops md W a0 n al S Q i o :=
  step_alloc hg (fun ev w => ex_allocV hI ev o ho w) fun w hw => by rw [hS]; exact ⟨w.heap.size, rfl, Below.size hw, Rw.new w zs T⟩
/-- One operand, and one value that it gives in every world. -/
theorem step_one (hal : al i = false) (hg : GuardOn ops md n S i o) {x : Operand} {u v : Value} (hr : ∀ (ev : Operand → Value) w, ev x = u → (∀ c, ev (.const c) = c) → (execOp ev o).run P w = .ok (.value v) w) (hS : S i = Is v) (hx : Knows ops md W a0 n S i x u) : StepOk P ops md W a0 n al S Q i o :=
  step_run hal hg fun a w hw hf hd => ⟨v, hr a.eval w (hx a w hw hf hd) (fun _ => rfl), by rw [hS]; exact rfl⟩
theorem step_two (hal : al i = false) (hg : GuardOn ops md n S i o) {x y : Operand} {u t v : Value} (hr : ∀ (ev : Operand → Value) w, ev x = u → ev y = t → (∀ c, ev (.const c) = c) → (execOp ev o).run P w = .ok (.value v) w) (hS : S i = Is v) (hx : Knows ops md W a0 n S i x u) (hy : Knows ops md W a0 n S i y t) : StepOk P ops md W a0 n al S Q i o :=
  step_run hal hg fun a w hw hf hd => ⟨v, hr a.eval w (hx a w hw hf hd) (hy a w hw hf hd) (fun _ => rfl), by rw [hS]; exact rfl⟩
theorem step_mvP (hal : al i = false) (hg : GuardOn ops md n S i o) {x : Operand} {v : Value} (ho : o.op = .move x) (hS : S i = Is v) (hk : Knows ops md W a0 n S i x v) : StepOk P ops md W a0 n al S Q i o :=
  step_one hal hg (fun ev w h _ => by unfold execOp; simp only [ho, h]; rfl) hS hk
theorem step_asgP (hal : al i = false) (hg : GuardOn ops md n S i o) {x : Operand} {v : Value} (ho : o.op = .assign x) (hS : S i = Is v) (hk : Knows ops md W a0 n S i x v) : StepOk P ops md W a0 n al S Q i o :=
  step_one hal hg (fun ev w h _ => by unfold execOp; simp only [ho, h]; rfl) hS hk
theorem step_copyW (hal : al i = false) (hg : GuardOn ops md n S i o) (j d : Nat) {R : Value → World → Prop} (ho : o.op = .move (.tmp d) ∨ o.op = .assign (.tmp d)) (hS : S i = R) (hj : j < n) (hw : Region.waitsFor md ops i j = true) (hd : dstOf ops j = some d) (hSj : S j = R) : StepOk P ops md W a0 n al S Q i o :=
  step_run hal hg fun a w _ _ hdp => ⟨a.eval (.tmp d), by
    unfold execOp
    rcases ho with ho | ho <;> simp only [ho] <;> rfl, by
    have h := hdp j d hj hw hd
    rw [hSj] at h
    rw [hS]; exact h⟩
/-- A struct or array of given parts. -/
theorem step_buildP (hal : al i = false) (hg : GuardOn ops md n S i o) {T : TypeId} {parts : Array (Nat × Operand)} {pv : List (Nat × Value)} {cs : Array Value} (ho : o.op = .build T parts) (hb : P.built T pv = some cs) (hS : S i = Is (.agg cs))
    (hv : ∀ (a : Act) (w : World), Cl W w → Fr ops n a0 a → Dp ops md n S i a w → (parts.map fun (i, x) => (i, a.eval x)).toList = pv) : StepOk P ops md W a0 n al S Q i o :=
  step_run hal hg fun a w hw hf hd => ⟨.agg cs, by
    have h := hv a w hw hf hd
    have hr := run_build (P := P) w T (parts.map fun (i, x) => (i, a.eval x)) cs (by rw [h]; exact hb)
    unfold execOp
    simp only [ho, Sem.run_bind, hr, Result.andThen_ok, Sem.run_pure], by rw [hS]; exact rfl⟩
theorem partsN : ∀ (a : Act) (w : World), Cl W w → Fr ops n a0 a → Dp ops md n S i a w → ((#[] : Array (Nat × Operand)).map fun (i, x) => (i, a.eval x)).toList = [] := fun _ _ _ _ _ => by simp
/-- The number of elements of a slice. -/
theorem step_len (hal : al i = false) (hg : GuardOn ops md n S i o) {T : TypeId} (hT : P.underlying T = some (.slice (P.elem T))) {x : Operand} {A : Option Addr} {m c : Nat} (ho : o.op = .call { callee := .builtin .len, args := #[x], argTypes := #[T] }) (hS : S i = Is (.int .i64 (m : Int))) (hk : Knows ops md W a0 n S i x (.slice A m c)) : StepOk P ops md W a0 n al S Q i o :=
  step_one hal hg (fun ev w h _ => by
    have hrun := run_len_slice w T o.type A m c hT
    unfold execOp
    simp only [ho, resolve, invoke, builtin, Sem.run_bind, Sem.run_pure, Result.andThen_ok, List.map_toArray, List.map_cons, List.map_nil, h, hrun]
    rfl) hS hk
/-- Two arrays of numbers, compared. -/
theorem step_eqA (hal : al i = false) (hg : GuardOn ops md n S i o) {T e m : Nat} {k : IntKind} {x y : Operand} {xs ys : List Int} {b : Bool} (ho : o.op = .binOp .eql T x y T) (hT : P.underlying T = some (.array m e) ∧ P.underlying e = some (.int k) ∧ (P.info? e).map (·.size) = some 1 ∧ P.eqGuardType P.depth T = false) (hx : xs.length = m) (hy : ys.length = m) (hb : decide (xs = ys) = b) (hS : S i = Is (.bool b)) (h1 : Knows ops md W a0 n S i x (.agg (ints k xs).toArray)) (h2 : Knows ops md W a0 n S i y (.agg (ints k ys).toArray)) : StepOk P ops md W a0 n al S Q i o :=
  step_two hal hg (fun ev w h1 h2 _ => by
    have he := arr_eq_run (P := P) T e m k xs ys hT.1 hT.2.1 hT.2.2.1 hx hy 9998 w
    have heg := hT.2.2.2
    rw [hb] at he
    unfold execOp
    simp only [ho, h1, h2]
    go_simp) hS h1 h2
theorem step_neA (hal : al i = false) (hg : GuardOn ops md n S i o) {T e m : Nat} {k : IntKind} {x y : Operand} {xs ys : List Int} {b : Bool} (ho : o.op = .binOp .neq T x y T) (hT : P.underlying T = some (.array m e) ∧ P.underlying e = some (.int k) ∧ (P.info? e).map (·.size) = some 1 ∧ P.eqGuardType P.depth T = false) (hx : xs.length = m) (hy : ys.length = m) (hb : decide (xs = ys) = b) (hS : S i = Is (.bool (!b))) (h1 : Knows ops md W a0 n S i x (.agg (ints k xs).toArray)) (h2 : Knows ops md W a0 n S i y (.agg (ints k ys).toArray)) : StepOk P ops md W a0 n al S Q i o :=
  step_two hal hg (fun ev w h1 h2 _ => by
    have he := arr_eq_run (P := P) T e m k xs ys hT.1 hT.2.1 hT.2.2.1 hx hy 9998 w
    have heg := hT.2.2.2
    rw [hb] at he
    unfold execOp
    simp only [ho, h1, h2]
    go_simp) hS h1 h2
/-- A number, compared with a constant. -/
theorem step_eqC (hal : al i = false) (hg : GuardOn ops md n S i o) {T : Nat} {x : Operand} {c a : Int} {b : Bool} (ho : o.op = .binOp .eql T x (.const (.int .i64 c)) T) (hT : P.underlying T = some (.int .i64)) (hS : S i = Is (.bool b)) (hb : (a == c) = b) (h1 : Knows ops md W a0 n S i x (.int .i64 a)) : StepOk P ops md W a0 n al S Q i o :=
  step_one hal hg (fun ev w h hc => by
    have h2 := hc (.int .i64 c)
    subst hb
    unfold execOp
    simp only [ho, h, h2]
    go_simp) hS h1
theorem step_neC (hal : al i = false) (hg : GuardOn ops md n S i o) {T : Nat} {x : Operand} {c a : Int} {b : Bool} (ho : o.op = .binOp .neq T x (.const (.int .i64 c)) T) (hT : P.underlying T = some (.int .i64)) (hS : S i = Is (.bool b)) (hb : (!(a == c)) = b) (h1 : Knows ops md W a0 n S i x (.int .i64 a)) : StepOk P ops md W a0 n al S Q i o :=
  step_one hal hg (fun ev w h hc => by
    have h2 := hc (.int .i64 c)
    subst hb
    unfold execOp
    simp only [ho, h, h2]
    go_simp
    rfl) hS h1
-- slices of arrays
theorem ex_slA {T : TypeId} (hT : P.underlying T = some (.array (P.arrayLen T) (P.elem T))) (hz : ∀ w, (sizeOf (P.elem T)).run P w = .ok 1 w) {m : Nat} (hm : P.arrayLen T = m) {x : Operand} (ho : o.op = .slice T x none none none) {b f : Nat} (ev : Operand → Value) (w : World) (hx : ev x = .pointer (some ⟨b, f, none⟩)) (_ : ∀ c, ev (.const c) = c) : (execOp ev o).run P w = .ok (.value (.slice (some ⟨b, f, none⟩) m m)) w := by
  subst hm
  unfold execOp
  simp only [ho, hx, Option.map_none, Sem.run_bind, run_sliceAt_array_all w T ⟨b, f, none⟩ hT, hz, Result.andThen_ok, Sem.run_pure]
  simp [slicedAt, Addr.add_mid]
theorem ex_slAh {T : TypeId} (hT : P.underlying T = some (.array (P.arrayLen T) (P.elem T))) (hz : ∀ w, (sizeOf (P.elem T)).run P w = .ok 1 w) {m h : Nat} (hm : P.arrayLen T = m) (hh : h ≤ m) {x : Operand} (ho : o.op = .slice T x none (some (.const (.int .i64 (h : Int)))) none) {b f : Nat} (ev : Operand → Value) (w : World) (hx : ev x = .pointer (some ⟨b, f, none⟩)) (hc : ∀ c, ev (.const c) = c) : (execOp ev o).run P w = .ok (.value (.slice (some ⟨b, f, none⟩) h m)) w := by
  subst hm
  unfold execOp
  simp only [ho, hx, Option.map_none, Option.map_some, hc, Sem.run_bind, run_sliceAt_array_h w T ⟨b, f, none⟩ hT .i64 (h : Int) (by omega) (by omega), hz, Result.andThen_ok, Sem.run_pure]
  simp [slicedAt, Addr.add_mid]
theorem ex_slAl {T : TypeId} (hT : P.underlying T = some (.array (P.arrayLen T) (P.elem T))) (hz : ∀ w, (sizeOf (P.elem T)).run P w = .ok 1 w) {m l f' k : Nat} (hm : P.arrayLen T = m) (hl : l < m) {x : Operand} (ho : o.op = .slice T x (some (.const (.int .i64 (l : Int)))) none none) {b f : Nat} (hf : f' = f + l) (hk : k = m - l) (ev : Operand → Value) (w : World) (hx : ev x = .pointer (some ⟨b, f, none⟩)) (hc : ∀ c, ev (.const c) = c) : (execOp ev o).run P w = .ok (.value (.slice (some ⟨b, f', none⟩) k k)) w := by
  subst hm hf hk
  unfold execOp
  simp only [ho, hx, Option.map_none, Option.map_some, hc, Sem.run_bind, run_sliceAt_array_l w T ⟨b, f, none⟩ hT .i64 (l : Int) (by omega) (by omega), hz, Result.andThen_ok, Sem.run_pure]
  have : ¬ P.arrayLen T = l := by omega
  simp [slicedAt, Addr.add_mid, this]
-- slices of slices
theorem ex_slSh {T : TypeId} (hT : P.underlying T = some (.slice (P.elem T))) (hz : ∀ w, (sizeOf (P.elem T)).run P w = .ok 1 w) {m c h : Nat} (hh : h ≤ c) {x : Operand} (ho : o.op = .slice T x none (some (.const (.int .i64 (h : Int)))) none) {A : Option Addr} (hA : A ≠ none ∨ 0 < 1) (ev : Operand → Value) (w : World) (hx : ev x = .slice A m c) (hc : ∀ c, ev (.const c) = c) : (execOp ev o).run P w = .ok (.value (.slice A h c)) w := by
  unfold execOp
  simp only [ho, hx, Option.map_none, Option.map_some, hc, Sem.run_bind, run_sliceAt_slice w T _ _ _ _ hT, run_slice_h w T A m c hT .i64 (h : Int) (by omega) (by omega), hz, Result.andThen_ok, Sem.run_pure]
  cases A with
  | none => simp [sliced]
  | some a =>
    have : a.add 0 = a := by unfold Addr.add; simp
    simp [sliced, this]
theorem ex_slSl {T : TypeId} (hT : P.underlying T = some (.slice (P.elem T))) (hz : ∀ w, (sizeOf (P.elem T)).run P w = .ok 1 w) {m c l f' m' c' : Nat} (hl : l ≤ m) (hlc : l < c) {x : Operand} (ho : o.op = .slice T x (some (.const (.int .i64 (l : Int)))) none none) {b f : Nat} (hf : f' = f + l) (hm : m' = m - l) (hcc : c' = c - l) (ev : Operand → Value) (w : World) (hx : ev x = .slice (some ⟨b, f, none⟩) m c) (hc : ∀ c, ev (.const c) = c) : (execOp ev o).run P w = .ok (.value (.slice (some ⟨b, f', none⟩) m' c')) w := by
  subst hf hm hcc
  unfold execOp
  simp only [ho, hx, Option.map_none, Option.map_some, hc, Sem.run_bind, run_sliceAt_slice w T _ _ _ _ hT, run_slice_l w T (some ⟨b, f, none⟩) m c hT .i64 (l : Int) (by omega) (by omega), hz, Result.andThen_ok, Sem.run_pure]
  have : ¬ c = l := by omega
  simp [sliced, Addr.add_mid, this]
theorem ex_arrP {T e : TypeId} {k : Nat} (hT : P.underlying T = some (.array k e)) {m c : Nat} (hk : k ≤ m) {x : Operand} (ho : o.op = .sliceToArrayPointer T x) {A : Option Addr} (ev : Operand → Value) (w : World) (hx : ev x = .slice A m c) (_ : ∀ c, ev (.const c) = c) : (execOp ev o).run P w = .ok (.value (.pointer A)) w := by
  unfold execOp
  simp only [ho, hx, Sem.run_bind, run_arrayAt w T e k A m c hT hk, Result.andThen_ok, Sem.run_pure]
theorem ex_fld {T k : Nat} {x : Operand} (ho : o.op = .fieldAddr T x k) {b f b' f' : Nat} (hr : ∀ w, (Instr.fieldAt T (.pointer (some ⟨b, f, none⟩)) k).run P w = .ok (.pointer (some ⟨b', f', none⟩)) w) (ev : Operand → Value) (w : World) (hx : ev x = .pointer (some ⟨b, f, none⟩)) (_ : ∀ c, ev (.const c) = c) : (execOp ev o).run P w = .ok (.value (.pointer (some ⟨b', f', none⟩))) w := by
  unfold execOp
  simp only [ho, hx, Sem.run_bind, hr, Result.andThen_ok, Sem.run_pure]
theorem ex_nilc {x : Operand} (ho : o.op = .nilCheck x) {a : Addr} (ev : Operand → Value) (w : World) (hx : ev x = .pointer (some a)) (_ : ∀ c, ev (.const c) = c) : (execOp ev o).run P w = .ok (.value (.pointer (some a))) w := by
  unfold execOp
  simp only [ho, hx]
  rfl
/-- A slice literal. -/
theorem step_bsl (hg : GuardOn ops md n S i o) {T e : TypeId} {k s : Nat} {z : Value} {parts : Array (Nat × Operand)} {pv : List (Nat × Value)} {vs : List Value} (ho : o.op = .buildSlice T k parts) (hu : P.underlying T = some (.slice e)) (hI : (P.info? e).map (fun i => (i.zero, i.size)) = some (some z, s)) (hsmall : ¬ k * s > 2 ^ 24) (hpos : ¬ k * s = 0)
    (hf : Instr.fill (fun i => some (i * s, s)) ((Array.range (k * s)).map (z.cells[· % z.cells.size]!)) pv = some vs.toArray) (hS : S i = IsRowV W.heap.size k vs)
    (hv : ∀ (a : Act) (w : World), Cl W w → Fr ops n a0 a → Dp ops md n S i a w → (parts.map fun (i, x) => (i, a.eval x)).toList = pv) : StepOk P ops md W a0 n al S Q i o := fun a w hw hf' hd => by
  rw [if_pos (hg.wanted hd)]
  cases hq : P.info? e with
  | none => rw [hq] at hI; simp at hI
  | some ie =>
    rw [hq] at hI
    simp only [Option.map_some, Option.some.injEq, Prod.mk.injEq] at hI
    obtain ⟨hz, rfl⟩ := hI
    refine wp_buildSlice T e k parts ho vs.toArray ie z hu hq hz hsmall hpos (by rw [hv a w hw hf' hd]; exact hf) ?_
    refine ⟨_, rfl, ?_, below_new w _, fun _ => ⟨_, rfl, Nat.le_refl _, by simp⟩⟩
    rw [hS]
    exact ⟨w.heap.size, rfl, Below.size hw, Rw.new w vs e⟩
theorem parts1 {x : Operand} {u : Value} (hx : Knows ops md W a0 n S i x u) : ∀ (a : Act) (w : World), Cl W w → Fr ops n a0 a → Dp ops md n S i a w → (#[(0, x)].map fun ((i : Nat), (x : Operand)) => (i, a.eval x)).toList = [(0, u)] := fun a w hw hf hd => by
  have h := hx a w hw hf hd
  simp [h]
theorem parts2 {x y : Operand} {u t : Value} (hx : Knows ops md W a0 n S i x u) (hy : Knows ops md W a0 n S i y t) : ∀ (a : Act) (w : World), Cl W w → Fr ops n a0 a → Dp ops md n S i a w → (#[(0, x), (1, y)].map fun ((i : Nat), (x : Operand)) => (i, a.eval x)).toList = [(0, u), (1, t)] := fun a w hw hf hd => by
  have h := hx a w hw hf hd
  have h2 := hy a w hw hf hd
  simp [h, h2]
theorem parts3 {x y z : Operand} {u t v : Value} (hx : Knows ops md W a0 n S i x u) (hy : Knows ops md W a0 n S i y t) (hz : Knows ops md W a0 n S i z v) : ∀ (a : Act) (w : World), Cl W w → Fr ops n a0 a → Dp ops md n S i a w → (#[(0, x), (1, y), (2, z)].map fun ((i : Nat), (x : Operand)) => (i, a.eval x)).toList = [(0, u), (1, t), (2, v)] := fun a w hw hf hd => by
  have h := hx a w hw hf hd
  have h2 := hy a w hw hf hd
  have h3 := hz a w hw hf hd
  simp [h, h2, h3]
/-- An empty slice literal: a row of the call's own. -/
theorem step_bsl0 (hg : GuardOn ops md n S i o) {T e : TypeId} {k : IntKind} (ho : o.op = .buildSlice T 0 #[]) (hu : P.underlying T = some (.slice e)) (hI : (P.info? e).map (fun i => (i.zero, i.size)) = some (some (.int k 0), 1)) (hS : S i = IsOwn W.heap.size e k []) : StepOk P ops md W a0 n al S Q i o := fun a w hw hf' hd => by
  rw [if_pos (hg.wanted hd)]
  cases hq : P.info? e with
  | none => rw [hq] at hI; simp at hI
  | some ie =>
    rw [hq] at hI
    simp only [Option.map_some, Option.some.injEq, Prod.mk.injEq] at hI
    obtain ⟨hz, hs⟩ := hI
    have hr : (Instr.buildSlice T 0 #[]).run P w = .ok (.slice (some ⟨w.heap.size, 0, none⟩) 0 0) (w.alloc (.cells #[] e)) := by
      simp [Instr.buildSlice, run_underlying hu, sizeOf, typeInfo, hq, newRow, Instr.fill]
      congr 2
      exact Array.ext (by simp) fun i h => by simp at h
    unfold Oper.wp execOp
    simp only [ho, List.map_toArray, List.map_nil, Sem.run_bind, hr, Result.andThen_ok, Sem.run_pure]
    refine ⟨_, rfl, ?_, below_new w _, fun _ => ⟨_, rfl, Nat.le_refl _, by simp⟩⟩
    rw [hS]
    exact ⟨_, _, rfl, World.ownsRow_made w #[] 0 (Below.size hw) (Nat.zero_le _) rfl⟩
/-- A struct or array in a new block. -/
theorem step_boxV (hg : GuardOn ops md n S i o) {T : TypeId} {x : Operand} {vs : List Value} (ho : o.op = .box T x) (hS : S i = IsZV W.heap.size vs) (hx : Knows ops md W a0 n S i x (.agg vs.toArray)) : StepOk P ops md W a0 n al S Q i o := fun a w hw hf hd => by
  rw [if_pos (hg.wanted hd)]
  have h := hx a w hw hf hd
  have hr : (execOp a.eval o).run P w = .ok (.value (.pointer (some ⟨w.heap.size, 0, none⟩))) (w.alloc (.cells vs.toArray T)) := by
    unfold execOp
    simp only [ho, h]
    simp [Instr.box, newVar, newRow, Value.cells]
  unfold Oper.wp
  rw [hr, Oper.upon_value]
  refine ⟨_, rfl, ?_, below_new w _, fun _ => ⟨_, rfl, Nat.le_refl _, by simp⟩⟩
  rw [hS]
  exact ⟨w.heap.size, rfl, Below.size hw, Rw.new w vs T⟩
theorem ex_fnP {ev : Operand → Value} {o : Oper} {f : FuncId} {xs : Array Operand} {ts : Array TypeId} (hf : ev (.func f) = .func (.func f) #[] #[]) (hc : ∀ vs w, (callFunc f vs).run P w = .ok (.enter f vs) w) (ho : o.op = .call { callee := .value (.func f), args := xs, argTypes := ts }) (vs : Array Value) (hv : xs.map ev = vs) (w : World) : (execOp ev o).run P w = .ok (.enter f vs) w := by
  subst hv
  unfold execOp
  simp only [ho]
  go_simp
/-- A call that returns one value in every world that grew out of this one. -/
theorem step_cw (hal : al i = false) (hg : GuardOn ops md n S i o) {f : FuncId} {xs : Array Operand} {ts : Array TypeId} {v : Value} (ho : o.op = .call { callee := .value (.func f), args := xs, argTypes := ts }) (hcf : ∀ vs w, (callFunc f vs).run P w = .ok (.enter f vs) w)
    (hS : S i = Is v) (hv : ∀ (a : Act) (w : World), Cl W w → Fr ops n a0 a → Dp ops md n S i a w → ∃ vs, xs.map a.eval = vs ∧ Calls P f vs w fun e w' => e = .returned v ∧ Below w.heap.size w w') : StepOk P ops md W a0 n al S Q i o :=
  step_call hal hg fun a w hw hf hd => by
    obtain ⟨vs, h1, h2⟩ := hv a w hw hf hd
    refine ⟨f, vs, ?_, h2.mono fun _ _ ⟨he, hb⟩ => ⟨v, he, by rw [hS]; exact rfl, hb⟩⟩
    exact ex_fnP rfl hcf ho vs h1 w
/-- Numbers are appended to the row that an operation before it made, which nothing else reads. -/
theorem step_appG {pre : Nat → Option Nat} (hg : o.guard = none) {s x : Operand} {t e : TypeId} {k : IntKind} {bytes : Nat} (j d : Nat) {xs ys zs : List Int} (hs : s = .tmp d) (ho : o.op = .call { callee := .builtin .append, args := #[s, x], argTypes := #[t, t] })
    (ht : P.underlying t = some (.slice e)) (hinf : (P.info? e).map (fun i => (i.zero, i.size, i.bytes)) = some (some (.int k 0), 1, bytes)) (hbt : 0 < bytes) (hpre : pre i = some j) (hj : j < n) (hw : Region.waitsFor md ops i j = true) (hd : dstOf ops j = some d) (hSj : S j = IsOwn W.heap.size e k xs) (hzs : zs = xs ++ ys)
    (h63 : (xs.length + ys.length) * bytes ≤ 140737488355328) (hS : S i = IsOwn W.heap.size e k zs) (hx : KnowsW ops md W a0 n S i x (fun v w => ∃ B c, v = .slice B ys.length c ∧ Nums w k B ys)) : StepG P ops md W a0 n al pre S Q i o := fun a w hcl hf hdp => by
  subst hs hzs
  have h1 := hdp j d hj hw hd
  rw [hSj] at h1
  obtain ⟨A, c, hA, hO⟩ := h1
  obtain ⟨B, c', hB, hN⟩ := hx a w hcl hf hdp
  have hwn : Region.wanted o (yielded ops a.tmps) = true := by simp [Region.wanted, hg]
  rw [if_pos hwn]
  have hrow : rowOf ops pre a i = (Value.slice A xs.length c).ownBlock := by
    unfold rowOf
    rw [hpre, Option.bind_some, hd, Option.bind_some, hA]
    cases A <;> rfl
  rw [hA] at hO
  refine wp_app (.tmp d) x t ho W.heap.size e k bytes ht hinf hbt A xs.length c xs hA hO B c' ys hB hN h63 (Below.size hcl) fun A' n' c'' w' hO' hG => ?_
  have hn' := hO'.len
  refine ⟨_, rfl, ?_, by rw [hrow]; exact hG.1, fun _ b hb => ?_⟩
  · rw [hS]
    exact ⟨A', c'', by rw [hn'], by rw [hn'] at hO'; rw [hn']; exact hO'⟩
  · have hb2 : (Value.slice A' n' c'').ownBlock = some b := by
      cases A' with
      | none => cases hb
      | some a' => exact hb
    refine ⟨?_, (hO'.lt b hb2).2⟩
    rw [hrow]
    rcases hG.2 with h | h
    · exact .inr (by rw [← h]; exact hb2)
    · exact .inl (h b hb2)
end
end Go.Proofs.Ytdfalneiapeegaa
