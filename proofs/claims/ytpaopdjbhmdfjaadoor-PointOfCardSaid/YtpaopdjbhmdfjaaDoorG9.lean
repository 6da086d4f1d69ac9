/- Texts of this proof, laid together: QBox, QInv, QOf. -/
import Derived.Test.YtpaopdjbhmdfjaaDoorPArithM
/- The reference's points: three rows of digits; boxes that hold them, and steps of regions over them. -/
namespace Go.Proofs.YtpaopdjbhmdfjaaDoor
open Go Go.RowKit

/-- The value is a slice. -/
def IsSl (v : Value) : Prop := ∃ A n c, v = .slice A n c
/-- A box of three slices; nothing in its block is a number. -/
structure RB (w : World) (b : Nat) (vs : List Value) : Prop where
  len : vs.length = 3
  sl : ∀ v ∈ vs, IsSl v
  cells : ∀ i v, vs[i]? = some v → w.cell? ⟨b, i, none⟩ = some v ∧ w.frozen? ⟨b, i, none⟩ = false
  no : ∀ j k x, w.cell? ⟨b, j, none⟩ ≠ some (.int k x)
theorem sl_one {vs : List Value} (h : ∀ v ∈ vs, IsSl v) : vs.toArray.all (·.oneCell') = true := all_oneCell_toArray fun v hv => by
  obtain ⟨A, n, c, rfl⟩ := h v hv
  rfl
section
variable {w w' : World} {b : Nat} {vs : List Value}
theorem RB.lt (h : RB w b vs) : b < w.heap.size := by
  have hl := h.len
  exact World.block_lt_of_cell? w ⟨b, 0, none⟩ (h.cells 0 vs[0] (by simp [hl])).1
theorem RB.same (h : RB w b vs) (he : w'.heap[b]? = w.heap[b]?) : RB w' b vs := by
  obtain ⟨h1, h2, h3, h4⟩ := h
  refine ⟨h1, h2, fun i v hv => ?_, fun j k x => ?_⟩
  · have := h3 i v hv
    unfold World.cell? World.frozen? at *
    simp only [he]
    exact this
  · have := h4 j k x
    unfold World.cell? at *
    simp only [he]
    exact this
theorem RB.next (h : RB w b vs) (hb : Below w.heap.size w w') : RB w' b vs := h.same (hb.block b h.lt)
theorem RB.range (h : RB w b vs) : w.rangeAt b 0 vs := fun j v hv => by
  rw [Nat.zero_add]; exact (h.cells j v hv).1
theorem RB.there (h : RB w b vs) : w.there b 0 vs.length := fun j hj => by
  rw [Nat.zero_add]
  exact ⟨by rw [(h.cells j vs[j] (by simp [hj])).1]; rfl, (h.cells j vs[j] (by simp [hj])).2⟩
theorem RB.room (h : RB w b vs) {us : List Value} (e : us.length = 3) : w.there b 0 us.toArray.size := by
  have := h.there
  rw [h.len] at this
  simpa [e] using this
theorem RB.stored (h : RB w b vs) {us : List Value} (e : us.length = 3) (hs : ∀ v ∈ us, IsSl v) : RB (w.setCells b 0 us.toArray.toList) b us := by
  have hl := h.len
  have hth : ∀ q, q < us.length → (w.cell? ⟨b, 0 + q, none⟩).isSome = true := fun q hq => by
    rw [Nat.zero_add, (h.cells q vs[q] (by simp)).1]; rfl
  have e2 : us.toArray.toList = us := by simp
  rw [e2]
  refine ⟨e, hs, fun i v hv => ?_, fun j k x => ?_⟩
  · have hi := (List.getElem?_eq_some_iff.1 hv).1
    have h1 := World.cell?_setCells_in b us 0 w hth i hi
    rw [Nat.zero_add] at h1
    rw [World.frozen?_setCells]
    refine ⟨?_, (h.cells i vs[i] (by simp)).2⟩
    rw [h1]
    rw [List.getElem?_eq_getElem hi] at hv
    exact hv
  · by_cases hj : j < us.length
    · have h1 := World.cell?_setCells_in b us 0 w hth j hj
      rw [Nat.zero_add] at h1
      rw [h1]
      intro hx
      obtain ⟨A, n, c, hv⟩ := hs us[j] (List.getElem_mem hj)
      rw [hv] at hx
      cases hx
    · rw [World.cell?_setCells_out _ _ _ _ _ (fun _ _ => .inr (by show 0 + us.length ≤ j; omega))]
      exact h.no j k x
theorem RB.pastAt (h : RB w b vs) {b' : Nat} (o : Nat) (us : List Value) (hb : b' ≠ b) : RB (w.setCells b' o us) b vs :=
  h.same ((setCells_frame b' us o w).2.2.2.2 b (Ne.symm hb))
theorem RB.cell (h : RB w b vs) {p : Addr} {v : Value} (hp : p.block ≠ b) : RB (w.setCell p v) b vs :=
  h.same (Below.heap_setCell _ _ _ _ (Ne.symm hp))
theorem RB.new (w : World) (vs : List Value) (T : TypeId) (e : vs.length = 3) (hs : ∀ v ∈ vs, IsSl v) : RB (w.alloc (.cells vs.toArray T)) w.heap.size vs := by
  refine ⟨e, hs, fun i v hv => ⟨?_, World.frozen?_alloc_new w _ T i⟩, fun j k x => ?_⟩
  · rw [World.cell?_alloc_new]; simpa using hv
  · rw [World.cell?_alloc_new]
    intro hx
    have hm : (Value.int k x) ∈ vs := by
      have : vs[j]? = some (.int k x) := by simpa using hx
      exact List.mem_of_getElem? this
    obtain ⟨A, n, c, hv⟩ := hs _ hm
    cases hv
/-- Rows of numbers lie apart from it. -/
theorem RB.apart (h : RB w b vs) {k : IntKind} {A : Option Addr} {xs : List Int} (hA : Nums w k A xs) (hp : 0 < xs.length) : ∀ g o s, A = some ⟨g, o, s⟩ → b ≠ g := fun g o s e hbg => by
  obtain ⟨g2, off, e2, _, hc⟩ := hA hp
  rw [e] at e2
  injection e2 with e2
  injection e2 with e3 _ _
  subst e3
  subst hbg
  exact h.no _ _ _ (hc 0 hp)
theorem RB.row (h : RB w b vs) {A : Option Addr} {ys : List Nat} {m : Nat} (hy : Hid (Rp ys m)) (hA : Nums w .i64 A (nl ys)) (us : List Value) : Nums (w.setCells b 0 us) .i64 A (nl ys) :=
  nums_past hA us (h.apart hA (by rw [nl_length, hy.out.1]; omega))
end
/-- The value of a point. -/
def pv3 (A B C : Option Addr) (a b c : Nat) : List Value := [.slice A 16 a, .slice B 16 b, .slice C 16 c]
theorem pv3_len (A B C : Option Addr) (a b c : Nat) : (pv3 A B C a b c).length = 3 := rfl
theorem pv3_sl (A B C : Option Addr) (a b c : Nat) : ∀ v ∈ pv3 A B C a b c, IsSl v := fun v hv => by
  simp only [pv3, List.mem_cons, List.not_mem_nil, or_false] at hv
  rcases hv with rfl | rfl | rfl <;> exact ⟨_, _, _, rfl⟩
def nil3 : List Value := [.slice none 0 0, .slice none 0 0, .slice none 0 0]
theorem nil3_sl : ∀ v ∈ nil3, IsSl v := fun v hv => by
  simp only [nil3, List.mem_cons, List.not_mem_nil, or_false] at hv
  rcases hv with rfl | rfl | rfl <;> exact ⟨_, _, _, rfl⟩
theorem inf47 : (Tryd.prog.info? 47).map (fun i => (i.zero, i.size)) = some (some (.agg nil3.toArray), 3) := by kernel_rfl
theorem l47 {q : List Value} (h : q.length = 3) : (Tryd.prog.info? 47).map (·.size) = some q.length := by
  have hi := inf47
  cases hc : Tryd.prog.info? 47 with
  | none => rw [hc] at hi; simp at hi
  | some i =>
    rw [hc] at hi
    simp only [Option.map_some, Option.some.injEq, Prod.mk.injEq] at hi
    simp [hi.2, h]
theorem a47 {q : List Value} (h : q.length = 3) : (Tryd.prog.info? 47).map (·.size) = some q.toArray.size := by
  have := l47 h
  simpa using this
theorem built47 (A B C : Option Addr) (a b c : Nat) : Tryd.prog.built 47 [(0, .slice A 16 a), (1, .slice B 16 b), (2, .slice C 16 c)] = some (pv3 A B C a b c).toArray := by kernel_rfl
/-- Digits of a number, wherever they lie. -/
def IsN (m : Nat) : Value → World → Prop := fun v w => ∃ A c ys, v = .slice A 16 c ∧ Hid (Rp ys m) ∧ Nums w .i64 A (nl ys)
theorem IsN.grows (m : Nat) : Grows (IsN m) := fun _ _ _ ⟨A, c, ys, h1, h2, h3⟩ hb => ⟨A, c, ys, h1, h2, h3.below hb⟩
/-- A point of digits. -/
def IsP (c : C3 NT.PN) : Value → World → Prop := fun v w => ∃ A B C a b d x y z, v = .agg (pv3 A B C a b d).toArray ∧ Hid (Rp x c.x.val) ∧ Hid (Rp y c.y.val) ∧ Hid (Rp z c.z.val) ∧ Nums w .i64 A (nl x) ∧ Nums w .i64 B (nl y) ∧ Nums w .i64 C (nl z)
theorem IsP.next {c : C3 NT.PN} {v : Value} {w w' : World} (h : IsP c v w) (hb : Below w.heap.size w w') : IsP c v w' := by
  obtain ⟨A, B, C, a, b, d, x, y, z, h0, h1, h2, h3, h4, h5, h6⟩ := h
  exact ⟨A, B, C, a, b, d, x, y, z, h0, h1, h2, h3, h4.below hb, h5.below hb, h6.below hb⟩
theorem IsP.grows (c : C3 NT.PN) : Grows (IsP c) := fun _ _ _ h hb => h.next hb
def IsZ47 (base : Nat) : Value → World → Prop := fun v w => ∃ b, v = .pointer (some ⟨b, 0, none⟩) ∧ base ≤ b ∧ RB w b nil3
theorem IsZ47.grows (base : Nat) : Grows (IsZ47 base) := fun _ _ _ ⟨b, h1, h0, h2⟩ hb => ⟨b, h1, h0, h2.next hb⟩
section
variable {ops : Array Oper} {md : Region.Mode} {W : World} {a0 : Act} {n : Nat} {al : Nat → Bool} {S : Nat → Value → World → Prop} {Q : Exit → Act → World → Prop} {i : Nat} {o : Oper} {b : Nat} {vs : List Value}
theorem alloc47 (ev : Operand → Value) (o : Oper) (ho : o.op = .alloc 47) (w : World) : (execOp ev o).run Tryd.prog w = .ok (.value (.pointer (some ⟨w.heap.size, 0, none⟩))) (w.alloc (.cells nil3.toArray 47)) := by
  obtain ⟨z, s⟩ := zero_of_info inf47
  generalize nil3 = zs at *
  unfold execOp
  simp only [ho]
  go_simp
theorem step_alloc47 (hg : GuardOn ops md n S i o) (ho : o.op = .alloc 47) (hS : S i = IsZ47 W.heap.size) : StepOk Tryd.prog ops md W a0 n al S Q i o :=
  step_alloc hg (fun ev w => alloc47 ev o ho w) fun w hw => by rw [hS]; exact ⟨w.heap.size, rfl, Below.size hw, RB.new w _ 47 rfl nil3_sl⟩
theorem step_rb (hal : al i = false) (hg : GuardOn ops md n S i o) (h : RB W b vs) (t : Tmp) (ho : o.op = .load 47 (.tmp t)) (hB : notDst ops n t = true) (hx : a0.eval (.tmp t) = .pointer (some ⟨b, 0, none⟩)) (hS : S i = Is (.agg vs.toArray)) : StepOk Tryd.prog ops md W a0 n al S Q i o :=
  step_run hal hg fun a w hw hf _ => ⟨_, ex_load 47 (.tmp t) ho b 0 ((eval_out hf t hB).trans hx) vs _ (h.next hw).range Tryd.underlying47 rfl (l47 h.len), by rw [hS]; exact rfl⟩
theorem step_fr0 (hal : al i = false) (hg : GuardOn ops md n S i o) {x : Operand} (ho : o.op = .fieldAddr 47 x 0) (hS : S i = Is (.pointer (some ⟨b, 0, none⟩))) (hk : Knows ops md W a0 n S i x (.pointer (some ⟨b, 0, none⟩))) : StepOk Tryd.prog ops md W a0 n al S Q i o :=
  step_run hal hg fun a w hw hf hd => ⟨.pointer (some ⟨b, 0, none⟩), by
    have h := hk a w hw hf hd
    revert h
    generalize a.eval = ev
    intro h
    unfold execOp
    simp only [ho, h]
    go_simp, by rw [hS]; exact rfl⟩
theorem step_fr1 (hal : al i = false) (hg : GuardOn ops md n S i o) {x : Operand} (ho : o.op = .fieldAddr 47 x 1) (hS : S i = Is (.pointer (some ⟨b, 1, none⟩))) (hk : Knows ops md W a0 n S i x (.pointer (some ⟨b, 0, none⟩))) : StepOk Tryd.prog ops md W a0 n al S Q i o :=
  step_run hal hg fun a w hw hf hd => ⟨.pointer (some ⟨b, 1, none⟩), by
    have h := hk a w hw hf hd
    revert h
    generalize a.eval = ev
    intro h
    unfold execOp
    simp only [ho, h]
    go_simp, by rw [hS]; exact rfl⟩
theorem step_fr2 (hal : al i = false) (hg : GuardOn ops md n S i o) {x : Operand} (ho : o.op = .fieldAddr 47 x 2) (hS : S i = Is (.pointer (some ⟨b, 2, none⟩))) (hk : Knows ops md W a0 n S i x (.pointer (some ⟨b, 0, none⟩))) : StepOk Tryd.prog ops md W a0 n al S Q i o :=
  step_run hal hg fun a w hw hf hd => ⟨.pointer (some ⟨b, 2, none⟩), by
    have h := hk a w hw hf hd
    revert h
    generalize a.eval = ev
    intro h
    unfold execOp
    simp only [ho, h]
    go_simp, by rw [hS]; exact rfl⟩
theorem step_ld32 (hal : al i = false) (hg : GuardOn ops md n S i o) {x : Operand} {j : Nat} {A : Option Addr} {m c : Nat} (h : RB W b vs) (hv : vs[j]? = some (.slice A m c)) (ho : o.op = .load 32 x) (hS : S i = Is (.slice A m c)) (hx : Knows ops md W a0 n S i x (.pointer (some ⟨b, j, none⟩))) : StepOk Tryd.prog ops md W a0 n al S Q i o :=
  step_run hal hg fun a w hw hf hd => ⟨.slice A m c, by
    have h1 := hx a w hw hf hd
    have hc := ((h.next hw).cells j _ hv).1
    revert h1
    generalize a.eval = ev
    intro h1
    unfold execOp
    simp only [ho, h1]
    go_simp, by rw [hS]; exact rfl⟩
theorem step_make47 (hal : al i = false) (hg : GuardOn ops md n S i o) {x y z : Operand} {c : C3 NT.PN} (ho : o.op = .build 47 #[(0, x), (1, y), (2, z)]) (hS : S i = IsP c) (hx : KnowsR ops md W a0 n S i x c.x.val) (hy : KnowsR ops md W a0 n S i y c.y.val) (hz : KnowsR ops md W a0 n S i z c.z.val) : StepOk Tryd.prog ops md W a0 n al S Q i o :=
  step_run hal hg fun a w hw hf hd => by
    obtain ⟨A, ca, x1, h1, h2, h3⟩ := hx a w hw hf hd
    obtain ⟨B, cb, y1, k1, k2, k3⟩ := hy a w hw hf hd
    obtain ⟨C, cc, z1, j1, j2, j3⟩ := hz a w hw hf hd
    refine ⟨.agg (pv3 A B C ca cb cc).toArray, ?_, by rw [hS]; exact ⟨A, B, C, ca, cb, cc, x1, y1, z1, rfl, h2, k2, j2, h3, k3, j3⟩⟩
    revert h1 k1 j1
    generalize a.eval = ev
    intro h1 k1 j1
    have h := run_build (P := Tryd.prog) w 47 #[(0, ev x), (1, ev y), (2, ev z)] _ (by rw [h1, k1, j1]; exact built47 A B C ca cb cc)
    unfold execOp
    simp only [ho, Sem.run_bind]
    simp only [List.map_toArray, List.map_cons, List.map_nil, h, Result.andThen_ok, Sem.run_pure]
theorem knowsN_in (j d : Nat) {m : Nat} (hj : j < n) (hw : Region.waitsFor md ops i j = true) (hd : dstOf ops j = some d) (hS : S j = IsN m) : KnowsR ops md W a0 n S i (.tmp d) m := fun a w _ _ hdp => by
  have h := hdp j d hj hw hd
  rw [hS] at h
  obtain ⟨A, c, ys, h1, h2, h3⟩ := h
  exact ⟨A, c, ys, h1, h2.out, h3⟩
end
/-- What a call returns that gives digits of a number. -/
def RN (m : Nat) (w : World) (e : Ending) (w' : World) : Prop := ∃ A c ys, e = .returned (.slice A 16 c) ∧ Hid (Rp ys m) ∧ Nums w' .i64 A (nl ys) ∧ Below w.heap.size w w'
theorem ROut.rn {m : Nat} {w : World} {e : Ending} {w' : World} (h : ROut m w e w') : RN m w e w' := by
  obtain ⟨A, c, ys, he, hy, hN, hb⟩ := h
  exact ⟨A, c, ys, he, hy, hN.nums, hb⟩
section
variable {ops : Array Oper} {md : Region.Mode} {W : World} {a0 : Act} {n : Nat} {al : Nat → Bool} {S : Nat → Value → World → Prop} {Q : Exit → Act → World → Prop} {i : Nat} {o : Oper} {b : Nat} {vs : List Value}
/-- A call that returns digits. -/
theorem step_rn (hal : al i = false) (hg : GuardOn ops md n S i o) {f : FuncId} {xs : Array Operand} {ts : Array TypeId} {m : Nat} (ho : o.op = .call { callee := .value (.func f), args := xs, argTypes := ts }) (hcf : ∀ vs w, (callFunc f vs).run Tryd.prog w = .ok (.enter f vs) w)
    (hS : S i = IsN m) (hv : ∀ (a : Act) (w : World), Cl W w → Fr ops n a0 a → Dp ops md n S i a w → ∃ vs, xs.map a.eval = vs ∧ Calls Tryd.prog f vs w (RN m w)) : StepOk Tryd.prog ops md W a0 n al S Q i o :=
  step_call hal hg fun a w hw hf hd => by
    obtain ⟨vs, h1, h2⟩ := hv a w hw hf hd
    refine ⟨f, vs, ex_fn rfl hcf ho vs h1 w, h2.mono fun _ w' ⟨A, c, ys, he, hy, hN, hb⟩ => ⟨_, he, ?_, hb⟩⟩
    rw [hS]
    exact ⟨A, c, ys, rfl, hy, hN⟩
theorem step_copyN (hal : al i = false) (hg : GuardOn ops md n S i o) (j d : Nat) {m : Nat} (ho : o.op = .move (.tmp d) ∨ o.op = .assign (.tmp d)) (hS : S i = IsN m) (hj : j < n) (hw : Region.waitsFor md ops i j = true) (hd : dstOf ops j = some d) (hSj : S j = IsN m) : StepOk Tryd.prog ops md W a0 n al S Q i o :=
  step_run hal hg fun a w _ _ hdp => ⟨a.eval (.tmp d), ex_copy ho w, by
    have h := hdp j d hj hw hd
    rw [hSj] at h
    rw [hS]; exact h⟩
theorem rn1 {f : FuncId} {x : Operand} {m r : Nat} (hx : KnowsR ops md W a0 n S i x m) (hc : ∀ {A : Option Addr} {cA : Nat} {a : List Nat} {w : World}, Rp a m → Nums w .i64 A (nl a) → Calls Tryd.prog f #[.slice A 16 cA] w (RN r w)) :
    ∀ (a : Act) (w : World), Cl W w → Fr ops n a0 a → Dp ops md n S i a w → ∃ vs, #[x].map a.eval = vs ∧ Calls Tryd.prog f vs w (RN r w) := fun a w hw hf hd => by
  obtain ⟨A, c, ys, h1, h2, h3⟩ := hx a w hw hf hd
  refine ⟨_, rfl, ?_⟩
  rw [map1, h1]
  exact hc h2 h3
theorem rn2 {f : FuncId} {x y : Operand} {m k r : Nat} (hx : KnowsR ops md W a0 n S i x m) (hy : KnowsR ops md W a0 n S i y k) (hc : ∀ {A B : Option Addr} {cA cB : Nat} {a b : List Nat} {w : World}, Rp a m → Rp b k → Nums w .i64 A (nl a) → Nums w .i64 B (nl b) → Calls Tryd.prog f #[.slice A 16 cA, .slice B 16 cB] w (RN r w)) :
    ∀ (a : Act) (w : World), Cl W w → Fr ops n a0 a → Dp ops md n S i a w → ∃ vs, #[x, y].map a.eval = vs ∧ Calls Tryd.prog f vs w (RN r w) := fun a w hw hf hd => by
  obtain ⟨A, c, ys, h1, h2, h3⟩ := hx a w hw hf hd
  obtain ⟨B, d, zs, k1, k2, k3⟩ := hy a w hw hf hd
  refine ⟨_, rfl, ?_⟩
  rw [map2, h1, k1]
  exact hc h2 k2 h3 k3
/-- An operand that holds a point. -/
def KnowsP (ops : Array Oper) (md : Region.Mode) (W : World) (a0 : Act) (n : Nat) (S : Nat → Value → World → Prop) (i : Nat) (x : Operand) (c : C3 NT.PN) : Prop := ∀ (a : Act) (w : World), Cl W w → Fr ops n a0 a → Dp ops md n S i a w → IsP c (a.eval x) w
theorem knowsP_in (j d : Nat) {c : C3 NT.PN} (hj : j < n) (hw : Region.waitsFor md ops i j = true) (hd : dstOf ops j = some d) (hS : S j = IsP c) : KnowsP ops md W a0 n S i (.tmp d) c := fun a w _ _ hdp => by
  have h := hdp j d hj hw hd
  rw [hS] at h
  exact h
theorem Knows.p {x : Operand} {c : C3 NT.PN} {v : Value} (h : Knows ops md W a0 n S i x v) (hP : IsP c v W) : KnowsP ops md W a0 n S i x c := fun a w hw hf hd => by
  rw [h a w hw hf hd]; exact hP.next hw
end

section
variable {A B : Option Addr} {cA cB : Nat} {x y : List Nat} {w : World} {a b : Fin NT.PN}
theorem rf_add (hx : Rp x a.val) (hy : Rp y b.val) (hA : Nums w .i64 A (nl x)) (hB : Nums w .i64 B (nl y)) : Calls Tryd.prog 20 #[.slice A 16 cA, .slice B 16 cB] w (RN (a + b).val w) := (radd_walk hx hy hA hB).mono fun _ _ h => h.rn
theorem rf_mul (hx : Rp x a.val) (hy : Rp y b.val) (hA : Nums w .i64 A (nl x)) (hB : Nums w .i64 B (nl y)) : Calls Tryd.prog 16 #[.slice A 16 cA, .slice B 16 cB] w (RN (a * b).val w) := (rmul_walk hx hy hA hB).mono fun _ _ h => h.rn
theorem rf_sub (hx : Rp x a.val) (hy : Rp y b.val) (hA : Nums w .i64 A (nl x)) (hB : Nums w .i64 B (nl y)) : Calls Tryd.prog 17 #[.slice A 16 cA, .slice B 16 cB] w (RN (a - b).val w) := by
  have h := rsub_walk (cA := cA) (cB := cB) hx hy a.isLt b.isLt hA hB
  rw [sub_val] at h
  exact h.mono fun _ _ h => h.rn
theorem rf_small (m : Nat) (hm : m < 65536) (w : World) : Calls Tryd.prog 18 #[.int .i64 (m : Int)] w (RN m w) := (rsmall_out m hm w).mono fun _ _ h => h.rn
theorem rf_p (w : World) : Calls Tryd.prog 15 #[] w (RN NT.PN w) := (rp_out w).mono fun _ _ h => h.rn
theorem rf_less {m k : Nat} (hx : Rp x m) (hy : Rp y k) (hle : k ≤ m) (hA : Nums w .i64 A (nl x)) (hB : Nums w .i64 B (nl y)) : Calls Tryd.prog 53 #[.slice A 16 cA, .slice B 16 cB] w (RN (m - k) w) := by
  refine (le_any A B cA cB 16 x y w hx.1 hy.1 (by omega) hx.2.1 hy.2.1 (by rw [hx.2.2, hy.2.2]; exact hle) hA hB).mono ?_
  rintro e w' ⟨A', c, ys, he, hys, hN, hb⟩
  exact ⟨A', c, ys, he, hid ⟨hys.out.1, hys.out.2.1, by rw [hys.out.2.2, hx.2.2, hy.2.2]⟩, hN.nums, hb⟩
theorem rf_pow {bs : List Int} (hx : Rp x a.val) (hl : bs.length = 32) (hb : Byt bs) (hA : Nums w .i64 A (nl x)) : Calls Tryd.prog 54 #[.slice A 16 cA, .agg (ints .u8 bs).toArray] w (RN (a.val ^ (bv bs).toNat % NT.PN) w) := (rpower_walk hx a.isLt hl hb hA).mono fun _ _ h => h.rn
end
end Go.Proofs.YtpaopdjbhmdfjaaDoor

/- The reference's Inverse, D, Of, On, Add. -/
namespace Go.Proofs.YtpaopdjbhmdfjaaDoor
open Go Go.RowKit

theorem cg15 (vs : Array Value) (w : World) : (callFunc 15 vs).run Tryd.prog w = .ok (.enter 15 vs) w := by go_simp

set_option maxRecDepth 4000 in
set_option maxHeartbeats 16000000 in
theorem inv_core {a : Fin NT.PN} {k : Nat} {Aa : Option Addr} {ca : Nat} {ya : List Nat} {w0 : World} (Ha : Hid (Rp ya a.val)) (Ma : Nums w0 .i64 Aa (nl ya))
    (k53 : ∀ {A B : Option Addr} {cA cB : Nat} {x y : List Nat} {w : World}, Rp x NT.PN → Rp y 2 → Nums w .i64 A (nl x) → Nums w .i64 B (nl y) → Calls Tryd.prog 53 #[.slice A 16 cA, .slice B 16 cB] w (RN k w))
    (k54 : ∀ {A : Option Addr} {cA : Nat} {x : List Nat} {w : World}, Rp x a.val → Nums w .i64 A (nl x) → Calls Tryd.prog 54 #[.slice A 16 cA, .agg (ints .u8 (rbytes k)).toArray] w (RN (iv a).val w)) : Calls Tryd.prog 19 #[.slice Aa 16 ca] w0 (RN (iv a).val w0) := by
  have hW := Below.refl w0.heap.size w0
  go_enter Tryd.func19, Tryd.ntmps19
  go_upto_region 1 with (fail)
  have s0 := hW.size
  refine region_seq2 7 9 (fun _ => false) [Is (.slice Aa 16 ca), IsN NT.PN, IsN 2, IsN k, Is (.agg (ints .u8 (rbytes k)).toArray), IsN (iv a).val, IsN (iv a).val] [3, 4, 5, 6, 7, 8, 2] (by kernel_rfl) (by kernel_rfl) (Nat.le_of_eq rfl) (grows_cons (Is.grows _) (grows_cons (IsN.grows _) (grows_cons (IsN.grows _) (grows_cons (IsN.grows _) (grows_cons (Is.grows _) (grows_cons (IsN.grows _) (grows_cons (IsN.grows _) grows_nil)))))))
    ⟨step_mv rfl (.inl rfl) rfl rfl (knows_out 0 (by kernel_rfl) rfl),
     step_rn rfl (.inl rfl) rfl cg15 rfl (fun a w hw hf hd => ⟨#[], by simp, rf_p w⟩),
     step_rn rfl (.inl rfl) rfl cf17 rfl (fun a w hw hf hd => ⟨_, rfl, by rw [map1]; exact rf_small 2 (by decide) w⟩),
     step_rn rfl (.inl rfl) rfl cg53 rfl (rn2 (knowsN_in 1 4 (by decide) (by kernel_rfl) rfl rfl) (knowsN_in 2 5 (by decide) (by kernel_rfl) rfl rfl) (fun h1 h2 h3 h4 => k53 h1 h2 h3 h4)),
     step_rbytes rfl (.inl rfl) rfl cf12 rfl (knowsN_in 3 6 (by decide) (by kernel_rfl) rfl rfl),
     step_rn rfl (.inl rfl) rfl cf26 rfl (fun a_ w hw hf hd => ⟨_, by rw [map2, (knows_in 0 3 (by decide) (by kernel_rfl) rfl rfl) a_ w hw hf hd, (knows_in 4 7 (by decide) (by kernel_rfl) rfl rfl) a_ w hw hf hd], k54 Ha.out (Ma.below hw)⟩),
     step_copyN rfl (.inl rfl) 5 8 (.inr rfl) rfl (by decide) (by kernel_rfl) rfl rfl, trivial⟩ ?_
  intro val w1 hw hS hap hla
  have e3 : val 3 = (.slice Aa 16 ca) := hS 0 3 (by decide) rfl
  obtain ⟨A4, c4, y4, e4, H4, M4⟩ := hS 1 4 (by decide) rfl
  obtain ⟨A5, c5, y5, e5, H5, M5⟩ := hS 2 5 (by decide) rfl
  obtain ⟨A6, c6, y6, e6, H6, M6⟩ := hS 3 6 (by decide) rfl
  have e7 : val 7 = (.agg (ints .u8 (rbytes k)).toArray) := hS 4 7 (by decide) rfl
  obtain ⟨A8, c8, y8, e8, H8, M8⟩ := hS 5 8 (by decide) rfl
  obtain ⟨A2, c2, y2, e2, H2, M2⟩ := hS 6 2 (by decide) rfl
  simp only [putVals, List.foldl_cons, List.foldl_nil, List.drop_succ_cons, List.drop_zero, Act.put, List.setIfInBounds_toArray, List.set_cons_succ, List.set_cons_zero, e3, e4, e5, e6, e7, e8, e2]
  clear hS hap hla e3 e4 e5 e6 e7 e8 e2 
  replace Ma := Ma.below hw
  replace hW := hW.trans (Below.mono hw hW.size)
  clear hw
  go_wp2_with (fail)
  go_ret
  exact ⟨A2, c2, y2, rfl, H2, M2, hW⟩
theorem pow_inv {a : Fin NT.PN} {k N : Nat} (hk : NT.PN - 2 = k) (h : k = N) : a.val ^ N % NT.PN = (iv a).val := by
  rw [iv_val, hk, h]
theorem rf_inv {a : Fin NT.PN} {A : Option Addr} {cA : Nat} {x : List Nat} {w : World} (hx : Rp x a.val) (hA : Nums w .i64 A (nl x)) : Calls Tryd.prog 19 #[.slice A 16 cA] w (RN (iv a).val w) := by
  obtain ⟨k, hk⟩ : ∃ k, NT.PN - 2 = k := ⟨_, rfl⟩
  have hkl : k < 65536 ^ 16 := by rw [← hk]; decide
  refine inv_core (k := k) (hid hx) hA (fun h1 h2 h3 h4 => ?_) (fun h1 h2 => ?_)
  · rw [← hk]
    exact rf_less h1 h2 (by decide) h3 h4
  · have e := pow_inv (a := a) hk (bn_rbytes hkl).symm
    rw [← e]
    exact rf_pow h1 (rbytes_length k) (rbytes_byt k) h2

def DA : List Nat := 56129 :: 1 :: List.replicate 14 0
def DB : List Nat := 56130 :: 1 :: List.replicate 14 0
theorem da_rp : Rp DA (121665 : Fin NT.PN).val := ⟨rfl, digs_dec (by decide), by decide⟩
theorem db_rp : Rp DB (121666 : Fin NT.PN).val := ⟨rfl, digs_dec (by decide), by decide⟩
theorem d_alg {n : Nat} [NeZero n] {d c e v : Fin n} (h : d * e = -c) (hv : e * v = 1) : 0 - c * v = d := by
  have h1 : d * (e * v) = -c * v := by rw [← h]; grind
  rw [hv] at h1
  clear h hv
  grind
theorem d_dec : dF * 121666 = -121665 := Fin.ext (by decide +kernel)
theorem ne_dec : (121666 : Fin NT.PN) ≠ 0 := fun h => by
  have := congrArg Fin.val h
  exact absurd this (by decide)
theorem dF_is : (0 : Fin NT.PN) - (121665 : Fin NT.PN) * iv 121666 = dF := d_alg d_dec (iv_mul ne_dec)

set_option maxRecDepth 4000 in
set_option maxHeartbeats 16000000 in
theorem rf_d (w00 : World) : Calls Tryd.prog 21 #[] w00 (RN dF.val w00) := by
  obtain ⟨z0, hz0⟩ : ∃ z, z = List.replicate 16 (0 : Nat) := ⟨_, rfl⟩
  have hmk : ∀ w : World, (Instr.makeSlice 32 (.int .i64 16) (.int .i64 16)).run Tryd.prog w = .ok (.slice (some ⟨w.heap.size, 0, none⟩) 16 16) (w.alloc (.cells (ints .i64 (nl z0)).toArray 3)) := by
    rw [hz0]; exact make28 16 (by omega)
  have HA1 := hid da_rp
  have HA2 := hid db_rp
  have E1 : Hid (((ints .i64 (nl z0)).set 0 (.int .i64 56129)).set 1 (.int .i64 1) = ints .i64 (nl DA)) := hid (by rw [hz0]; rfl)
  have E2 : Hid (((ints .i64 (nl z0)).set 0 (.int .i64 56130)).set 1 (.int .i64 1) = ints .i64 (nl DB)) := hid (by rw [hz0]; rfl)
  have hzl : (nl z0).length = 16 := by rw [hz0]; decide
  clear hz0
  go_enter Tryd.func21, Tryd.ntmps21
  go_upto_region 7 with (fail)
  rw [E1.out, E2.out]
  have M1 := ((Arr.made w00 .i64 (nl DA) 3).alloc (.cells (ints .i64 (nl DB)).toArray 3)).nums
  have M2 := (Arr.made (w00.alloc (.cells (ints .i64 (nl DA)).toArray 3)) .i64 (nl DB) 3).nums
  have hW := (below_new w00 (.cells (ints .i64 (nl DA)).toArray 3)).alloc (by simp) (.cells (ints .i64 (nl DB)).toArray 3)
  simp only [World.size_alloc] at M2
  clear hmk hzl E1 E2
  generalize (w00.alloc (.cells (ints .i64 (nl DA)).toArray 3)).alloc (.cells (ints .i64 (nl DB)).toArray 3) = w0 at *
  have s0 := hW.size
  refine region_seq2 7 19 (fun _ => false) [IsN ((0 : Fin NT.PN)).val, Is (.slice (some ⟨w00.heap.size, 0, none⟩) 16 16), Is (.slice (some ⟨w00.heap.size + 1, 0, none⟩) 16 16), IsN ((iv (121666 : Fin NT.PN))).val, IsN (((121665 : Fin NT.PN) * (iv (121666 : Fin NT.PN)) : Fin NT.PN)).val, IsN (((0 : Fin NT.PN) - ((121665 : Fin NT.PN) * (iv (121666 : Fin NT.PN)) : Fin NT.PN) : Fin NT.PN)).val, IsN (((0 : Fin NT.PN) - ((121665 : Fin NT.PN) * (iv (121666 : Fin NT.PN)) : Fin NT.PN) : Fin NT.PN)).val] [13, 14, 15, 16, 17, 18, 0] (by kernel_rfl) (by kernel_rfl) (Nat.le_of_eq rfl) (grows_cons (IsN.grows _) (grows_cons (Is.grows _) (grows_cons (Is.grows _) (grows_cons (IsN.grows _) (grows_cons (IsN.grows _) (grows_cons (IsN.grows _) (grows_cons (IsN.grows _) grows_nil)))))))
    ⟨step_rn rfl (.inl rfl) rfl cf17 rfl (fun a w hw hf hd => ⟨_, rfl, by rw [map1]; exact rf_small 0 (by decide) w⟩),
     step_mv rfl (.inl rfl) rfl rfl (knows_out 1 (by kernel_rfl) rfl),
     step_mv rfl (.inl rfl) rfl rfl (knows_out 2 (by kernel_rfl) rfl),
     step_rn rfl (.inl rfl) rfl cg19 rfl (rn1 ((knows_in 2 15 (by decide) (by kernel_rfl) rfl rfl).r HA2 M2) (fun h1 h2 => rf_inv h1 h2)),
     step_rn rfl (.inl rfl) rfl cf23 rfl (rn2 ((knows_in 1 14 (by decide) (by kernel_rfl) rfl rfl).r HA1 M1) (knowsN_in 3 16 (by decide) (by kernel_rfl) rfl rfl) (fun h1 h2 h3 h4 => rf_mul h1 h2 h3 h4)),
     step_rn rfl (.inl rfl) rfl cf21 rfl (rn2 (knowsN_in 0 13 (by decide) (by kernel_rfl) rfl rfl) (knowsN_in 4 17 (by decide) (by kernel_rfl) rfl rfl) (fun h1 h2 h3 h4 => rf_sub h1 h2 h3 h4)),
     step_copyN rfl (.inl rfl) 5 18 (.inr rfl) rfl (by decide) (by kernel_rfl) rfl rfl, trivial⟩ ?_
  intro val w1 hw hS hap hla
  obtain ⟨A13, c13, y13, e13, H13, M13⟩ := hS 0 13 (by decide) rfl
  have e14 : val 14 = (.slice (some ⟨w00.heap.size, 0, none⟩) 16 16) := hS 1 14 (by decide) rfl
  have e15 : val 15 = (.slice (some ⟨w00.heap.size + 1, 0, none⟩) 16 16) := hS 2 15 (by decide) rfl
  obtain ⟨A16, c16, y16, e16, H16, M16⟩ := hS 3 16 (by decide) rfl
  obtain ⟨A17, c17, y17, e17, H17, M17⟩ := hS 4 17 (by decide) rfl
  obtain ⟨A18, c18, y18, e18, H18, M18⟩ := hS 5 18 (by decide) rfl
  obtain ⟨A0, c0, y0, e0, H0, M0⟩ := hS 6 0 (by decide) rfl
  simp only [putVals, List.foldl_cons, List.foldl_nil, List.drop_succ_cons, List.drop_zero, Act.put, List.setIfInBounds_toArray, List.set_cons_succ, List.set_cons_zero, e13, e14, e15, e16, e17, e18, e0]
  clear hS hap hla e13 e14 e15 e16 e17 e18 e0 
  replace M1 := M1.below hw
  replace M2 := M2.below hw
  replace hW := hW.trans (Below.mono hw hW.size)
  clear hw
  go_wp2_with (fail)
  go_ret
  rw [dF_is] at H0
  exact ⟨A0, c0, y0, rfl, H0, M0, hW⟩
end Go.Proofs.YtpaopdjbhmdfjaaDoor

/- The reference's Of, On, Add, Bytes. -/
namespace Go.Proofs.YtpaopdjbhmdfjaaDoor
open Go Go.RowKit

set_option maxRecDepth 4000 in
set_option maxHeartbeats 16000000 in
theorem rf_of {a b : Fin NT.PN} {W : World} {Ap : Option Addr} {cp : Nat} {yp : List Nat} (Hp : Hid (Rp yp a.val)) (Mp : Nums W .i64 Ap (nl yp)) {Aq : Option Addr} {cq : Nat} {yq : List Nat} (Hq : Hid (Rp yq b.val)) (Mq : Nums W .i64 Aq (nl yq)) : Calls Tryd.prog 56 #[.slice Ap 16 cp, .slice Aq 16 cq] W (fun e w' => ∃ v, e = .returned v ∧ IsP ⟨a, b, 1⟩ v w' ∧ Below W.heap.size W w') := by
  obtain ⟨z47, s47⟩ := zero_of_info inf47
  have h4 := RB.new W nil3 47 rfl nil3_sl
  have hW := below_new W (.cells nil3.toArray 47)
  replace Mp := Mp.below hW
  replace Mq := Mq.below hW
  go_enter Tryd.func56, Tryd.ntmps56
  go_upto_region 1 with (fail)
  generalize W.alloc (.cells nil3.toArray 47) = w0 at *
  have s0 := hW.size
  refine region_seq2 4 9 (fun _ => false) [Is (.slice Ap 16 cp), Is (.slice Aq 16 cq), IsN ((1 : Fin NT.PN)).val, IsP ⟨a, b, (1 : Fin NT.PN)⟩] [5, 6, 7, 8] (by kernel_rfl) (by kernel_rfl) (Nat.le_of_eq rfl) (grows_cons (Is.grows _) (grows_cons (Is.grows _) (grows_cons (IsN.grows _) (grows_cons (IsP.grows _) grows_nil))))
    ⟨step_mv rfl (.inl rfl) rfl rfl (knows_out 0 (by kernel_rfl) rfl),
     step_mv rfl (.inl rfl) rfl rfl (knows_out 1 (by kernel_rfl) rfl),
     step_rn rfl (.inl rfl) rfl cf17 rfl (fun a w hw hf hd => ⟨_, rfl, by rw [map1]; exact rf_small 1 (by decide) w⟩),
     step_make47 (c := ⟨a, b, (1 : Fin NT.PN)⟩) rfl (.inl rfl) rfl rfl ((knows_in 0 5 (by decide) (by kernel_rfl) rfl rfl).r Hp Mp) ((knows_in 1 6 (by decide) (by kernel_rfl) rfl rfl).r Hq Mq) (knowsN_in 2 7 (by decide) (by kernel_rfl) rfl rfl), trivial⟩ ?_
  intro val w1 hw hS hap hla
  have e5 : val 5 = (.slice Ap 16 cp) := hS 0 5 (by decide) rfl
  have e6 : val 6 = (.slice Aq 16 cq) := hS 1 6 (by decide) rfl
  obtain ⟨A7, c7, y7, e7, H7, M7⟩ := hS 2 7 (by decide) rfl
  obtain ⟨A8, B8, C8, a8, b_8, d8, x8, y8, z8, e8, Hx8, Hy8, Hz8, Mx8, My8, Mz8⟩ := hS 3 8 (by decide) rfl
  simp only [putVals, List.foldl_cons, List.foldl_nil, List.drop_succ_cons, List.drop_zero, Act.put, List.setIfInBounds_toArray, List.set_cons_succ, List.set_cons_zero, e5, e6, e7, e8]
  clear hS hap hla e5 e6 e7 e8 
  replace h4 := h4.next hw
  replace Mp := Mp.below hw
  replace Mq := Mq.below hw
  replace hW := hW.trans (Below.mono hw hW.size)
  clear hw
  have R4 := h4.room (us := (pv3 A8 B8 C8 a8 b_8 d8)) rfl
  replace Mp := h4.row Hp Mp (pv3 A8 B8 C8 a8 b_8 d8).toArray.toList
  replace Mq := h4.row Hq Mq (pv3 A8 B8 C8 a8 b_8 d8).toArray.toList
  replace M7 := h4.row H7 M7 (pv3 A8 B8 C8 a8 b_8 d8).toArray.toList
  replace Mx8 := h4.row Hx8 Mx8 (pv3 A8 B8 C8 a8 b_8 d8).toArray.toList
  replace My8 := h4.row Hy8 My8 (pv3 A8 B8 C8 a8 b_8 d8).toArray.toList
  replace Mz8 := h4.row Hz8 Mz8 (pv3 A8 B8 C8 a8 b_8 d8).toArray.toList
  replace h4 := h4.stored (us := (pv3 A8 B8 C8 a8 b_8 d8)) rfl (pv3_sl _ _ _ _ _ _)
  replace hW := Below.setCells hW (g := W.heap.size) (by omega) 0 (pv3 A8 B8 C8 a8 b_8 d8).toArray.toList
  with_reducible refine wpList_store_mid (op := ⟨none, .store 47 (.tmp 4) (.tmp 8), _, _, _, _⟩) rfl 47 (.tmp 4) (.tmp 8) rfl W.heap.size 0 (pv3 A8 B8 C8 a8 b_8 d8).toArray rfl rfl R4 (a47 rfl) (sl_one (pv3_sl _ _ _ _ _ _)) ?_
  generalize (w1.setCells W.heap.size 0 (pv3 A8 B8 C8 a8 b_8 d8).toArray.toList) = w2 at *
  clear R4
  go_wp2_with (fail)
  exact ret_rows rfl W.heap.size 0 rfl (pv3 A8 B8 C8 a8 b_8 d8) _ h4.range Tryd.underlying47 rfl (l47 rfl) rfl ⟨_, rfl, ⟨_, _, _, _, _, _, x8, y8, z8, rfl, Hx8, Hy8, Hz8, Mx8, My8, Mz8⟩, hW⟩
set_option maxRecDepth 4000 in
set_option maxHeartbeats 16000000 in
theorem rf_on {a b : Fin NT.PN} {w0 : World} (hon : b * b - a * a = 1 + dF * (a * a * (b * b))) {Ap : Option Addr} {cp : Nat} {yp : List Nat} (Hp : Hid (Rp yp a.val)) (Mp : Nums w0 .i64 Ap (nl yp)) {Aq : Option Addr} {cq : Nat} {yq : List Nat} (Hq : Hid (Rp yq b.val)) (Mq : Nums w0 .i64 Aq (nl yq)) : Calls Tryd.prog 28 #[.slice Ap 16 cp, .slice Aq 16 cq] w0 fun e w' => e = .returned (.bool true) ∧ Below w0.heap.size w0 w' := by
  have hW := Below.refl w0.heap.size w0
  replace Mp := Mp.below hW
  replace Mq := Mq.below hW
  go_enter Tryd.func28, Tryd.ntmps28
  go_upto_region 1 with (fail)
  have s0 := hW.size
  refine region_seq2 4 24 (fun _ => false) [Is (.slice Ap 16 cp), Is (.slice Ap 16 cp), IsN ((a * a : Fin NT.PN)).val, IsN ((a * a : Fin NT.PN)).val] [7, 8, 9, 5] (by kernel_rfl) (by kernel_rfl) (Nat.le_of_eq rfl) (grows_cons (Is.grows _) (grows_cons (Is.grows _) (grows_cons (IsN.grows _) (grows_cons (IsN.grows _) grows_nil))))
    ⟨step_mv rfl (.inl rfl) rfl rfl (knows_out 0 (by kernel_rfl) rfl),
     step_mv rfl (.inl rfl) rfl rfl (knows_out 0 (by kernel_rfl) rfl),
     step_rn rfl (.inl rfl) rfl cf23 rfl (rn2 ((knows_in 0 7 (by decide) (by kernel_rfl) rfl rfl).r Hp Mp) ((knows_in 1 8 (by decide) (by kernel_rfl) rfl rfl).r Hp Mp) (fun h1 h2 h3 h4 => rf_mul h1 h2 h3 h4)),
     step_copyN rfl (.inl rfl) 2 9 (.inr rfl) rfl (by decide) (by kernel_rfl) rfl rfl, trivial⟩ ?_
  intro val w1 hw hS hap hla
  have e7 : val 7 = (.slice Ap 16 cp) := hS 0 7 (by decide) rfl
  have e8 : val 8 = (.slice Ap 16 cp) := hS 1 8 (by decide) rfl
  obtain ⟨A9, c9, y9, e9, H9, M9⟩ := hS 2 9 (by decide) rfl
  obtain ⟨A5, c5, y5, e5, H5, M5⟩ := hS 3 5 (by decide) rfl
  simp only [putVals, List.foldl_cons, List.foldl_nil, List.drop_succ_cons, List.drop_zero, Act.put, List.setIfInBounds_toArray, List.set_cons_succ, List.set_cons_zero, e7, e8, e9, e5]
  clear hS hap hla e7 e8 e9 e5 H9 M9
  replace Mp := Mp.below hw
  replace Mq := Mq.below hw
  replace hW := hW.trans (Below.mono hw hW.size)
  clear hw
  go_upto_region 2 with (fail)
  have s1 := hW.size
  refine region_seq2 4 24 (fun _ => false) [Is (.slice Aq 16 cq), Is (.slice Aq 16 cq), IsN ((b * b : Fin NT.PN)).val, IsN ((b * b : Fin NT.PN)).val] [10, 11, 12, 6] (by kernel_rfl) (by kernel_rfl) (Nat.le_of_eq rfl) (grows_cons (Is.grows _) (grows_cons (Is.grows _) (grows_cons (IsN.grows _) (grows_cons (IsN.grows _) grows_nil))))
    ⟨step_mv rfl (.inl rfl) rfl rfl (knows_out 1 (by kernel_rfl) rfl),
     step_mv rfl (.inl rfl) rfl rfl (knows_out 1 (by kernel_rfl) rfl),
     step_rn rfl (.inl rfl) rfl cf23 rfl (rn2 ((knows_in 0 10 (by decide) (by kernel_rfl) rfl rfl).r Hq Mq) ((knows_in 1 11 (by decide) (by kernel_rfl) rfl rfl).r Hq Mq) (fun h1 h2 h3 h4 => rf_mul h1 h2 h3 h4)),
     step_copyN rfl (.inl rfl) 2 12 (.inr rfl) rfl (by decide) (by kernel_rfl) rfl rfl, trivial⟩ ?_
  intro val w2 hw hS hap hla
  have e10 : val 10 = (.slice Aq 16 cq) := hS 0 10 (by decide) rfl
  have e11 : val 11 = (.slice Aq 16 cq) := hS 1 11 (by decide) rfl
  obtain ⟨A12, c12, y12, e12, H12, M12⟩ := hS 2 12 (by decide) rfl
  obtain ⟨A6, c6, y6, e6, H6, M6⟩ := hS 3 6 (by decide) rfl
  simp only [putVals, List.foldl_cons, List.foldl_nil, List.drop_succ_cons, List.drop_zero, Act.put, List.setIfInBounds_toArray, List.set_cons_succ, List.set_cons_zero, e10, e11, e12, e6]
  clear hS hap hla e10 e11 e12 e6 H12 M12
  replace Mp := Mp.below hw
  replace Mq := Mq.below hw
  replace M5 := M5.below hw
  replace hW := hW.trans (Below.mono hw hW.size)
  clear hw
  go_upto_region 3 with (fail)
  have s2 := hW.size
  refine region_seq2 12 24 (fun _ => false) [Is (.slice A6 16 c6), Is (.slice A5 16 c5), IsN (((b * b : Fin NT.PN) - (a * a : Fin NT.PN) : Fin NT.PN)).val, IsN ((1 : Fin NT.PN)).val, IsN (dF).val, Is (.slice A5 16 c5), Is (.slice A6 16 c6), IsN (((a * a : Fin NT.PN) * (b * b : Fin NT.PN) : Fin NT.PN)).val, IsN ((dF * ((a * a : Fin NT.PN) * (b * b : Fin NT.PN) : Fin NT.PN) : Fin NT.PN)).val, IsN (((1 : Fin NT.PN) + (dF * ((a * a : Fin NT.PN) * (b * b : Fin NT.PN) : Fin NT.PN) : Fin NT.PN) : Fin NT.PN)).val, Is (.bool (decide ((((b * b : Fin NT.PN) - (a * a : Fin NT.PN) : Fin NT.PN)).val = (((1 : Fin NT.PN) + (dF * ((a * a : Fin NT.PN) * (b * b : Fin NT.PN) : Fin NT.PN) : Fin NT.PN) : Fin NT.PN)).val))), Is (.bool (decide ((((b * b : Fin NT.PN) - (a * a : Fin NT.PN) : Fin NT.PN)).val = (((1 : Fin NT.PN) + (dF * ((a * a : Fin NT.PN) * (b * b : Fin NT.PN) : Fin NT.PN) : Fin NT.PN) : Fin NT.PN)).val)))] [13, 14, 15, 16, 17, 18, 19, 20, 21, 22, 23, 4] (by kernel_rfl) (by kernel_rfl) (Nat.le_of_eq rfl) (grows_cons (Is.grows _) (grows_cons (Is.grows _) (grows_cons (IsN.grows _) (grows_cons (IsN.grows _) (grows_cons (IsN.grows _) (grows_cons (Is.grows _) (grows_cons (Is.grows _) (grows_cons (IsN.grows _) (grows_cons (IsN.grows _) (grows_cons (IsN.grows _) (grows_cons (Is.grows _) (grows_cons (Is.grows _) grows_nil))))))))))))
    ⟨step_mv rfl (.inl rfl) rfl rfl (knows_out 6 (by kernel_rfl) rfl),
     step_mv rfl (.inl rfl) rfl rfl (knows_out 5 (by kernel_rfl) rfl),
     step_rn rfl (.inl rfl) rfl cf21 rfl (rn2 ((knows_in 0 13 (by decide) (by kernel_rfl) rfl rfl).r H6 M6) ((knows_in 1 14 (by decide) (by kernel_rfl) rfl rfl).r H5 M5) (fun h1 h2 h3 h4 => rf_sub h1 h2 h3 h4)),
     step_rn rfl (.inl rfl) rfl cf17 rfl (fun a w hw hf hd => ⟨_, rfl, by rw [map1]; exact rf_small 1 (by decide) w⟩),
     step_rn rfl (.inl rfl) rfl cg21 rfl (fun a w hw hf hd => ⟨#[], by simp, rf_d w⟩),
     step_mv rfl (.inl rfl) rfl rfl (knows_out 5 (by kernel_rfl) rfl),
     step_mv rfl (.inl rfl) rfl rfl (knows_out 6 (by kernel_rfl) rfl),
     step_rn rfl (.inl rfl) rfl cf23 rfl (rn2 ((knows_in 5 18 (by decide) (by kernel_rfl) rfl rfl).r H5 M5) ((knows_in 6 19 (by decide) (by kernel_rfl) rfl rfl).r H6 M6) (fun h1 h2 h3 h4 => rf_mul h1 h2 h3 h4)),
     step_rn rfl (.inl rfl) rfl cf23 rfl (rn2 (knowsN_in 4 17 (by decide) (by kernel_rfl) rfl rfl) (knowsN_in 7 20 (by decide) (by kernel_rfl) rfl rfl) (fun h1 h2 h3 h4 => rf_mul h1 h2 h3 h4)),
     step_rn rfl (.inl rfl) rfl cf19 rfl (rn2 (knowsN_in 3 16 (by decide) (by kernel_rfl) rfl rfl) (knowsN_in 8 21 (by decide) (by kernel_rfl) rfl rfl) (fun h1 h2 h3 h4 => rf_add h1 h2 h3 h4)),
     step_rsame rfl (.inl rfl) rfl cf15 rfl (knowsN_in 2 15 (by decide) (by kernel_rfl) rfl rfl) (knowsN_in 9 22 (by decide) (by kernel_rfl) rfl rfl),
     step_asg rfl (.inl rfl) rfl rfl (knows_in 10 23 (by decide) (by kernel_rfl) rfl rfl), trivial⟩ ?_
  intro val w3 hw hS hap hla
  have e13 : val 13 = (.slice A6 16 c6) := hS 0 13 (by decide) rfl
  have e14 : val 14 = (.slice A5 16 c5) := hS 1 14 (by decide) rfl
  obtain ⟨A15, c15, y15, e15, H15, M15⟩ := hS 2 15 (by decide) rfl
  obtain ⟨A16, c16, y16, e16, H16, M16⟩ := hS 3 16 (by decide) rfl
  obtain ⟨A17, c17, y17, e17, H17, M17⟩ := hS 4 17 (by decide) rfl
  have e18 : val 18 = (.slice A5 16 c5) := hS 5 18 (by decide) rfl
  have e19 : val 19 = (.slice A6 16 c6) := hS 6 19 (by decide) rfl
  obtain ⟨A20, c20, y20, e20, H20, M20⟩ := hS 7 20 (by decide) rfl
  obtain ⟨A21, c21, y21, e21, H21, M21⟩ := hS 8 21 (by decide) rfl
  obtain ⟨A22, c22, y22, e22, H22, M22⟩ := hS 9 22 (by decide) rfl
  have e23 : val 23 = (.bool (decide ((((b * b : Fin NT.PN) - (a * a : Fin NT.PN) : Fin NT.PN)).val = (((1 : Fin NT.PN) + (dF * ((a * a : Fin NT.PN) * (b * b : Fin NT.PN) : Fin NT.PN) : Fin NT.PN) : Fin NT.PN)).val))) := hS 10 23 (by decide) rfl
  have e4 : val 4 = (.bool (decide ((((b * b : Fin NT.PN) - (a * a : Fin NT.PN) : Fin NT.PN)).val = (((1 : Fin NT.PN) + (dF * ((a * a : Fin NT.PN) * (b * b : Fin NT.PN) : Fin NT.PN) : Fin NT.PN) : Fin NT.PN)).val))) := hS 11 4 (by decide) rfl
  simp only [putVals, List.foldl_cons, List.foldl_nil, List.drop_succ_cons, List.drop_zero, Act.put, List.setIfInBounds_toArray, List.set_cons_succ, List.set_cons_zero, e13, e14, e15, e16, e17, e18, e19, e20, e21, e22, e23, e4]
  clear hS hap hla e13 e14 e15 e16 e17 e18 e19 e20 e21 e22 e23 e4 H15 M15 H16 M16 H17 M17 H20 M20 H21 M21 H22 M22
  replace Mp := Mp.below hw
  replace Mq := Mq.below hw
  replace M5 := M5.below hw
  replace M6 := M6.below hw
  replace hW := hW.trans (Below.mono hw hW.size)
  clear hw
  go_wp2_with (fail)
  go_ret
  exact ⟨by rw [decide_eq_true (congrArg Fin.val hon)]; rfl, hW⟩
end Go.Proofs.YtpaopdjbhmdfjaaDoor
