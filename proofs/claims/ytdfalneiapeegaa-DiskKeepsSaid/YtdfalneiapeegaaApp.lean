/- A row of numbers is appended to a row of the call's own, wherever it lies; what then has turned. No program is named. -/
import Derived.Test.YtdfalneiapeegaaBase
import Derived.Maps.AppendAt
import Derived.Maps.Range
import Derived.Deep.AppendLies
import Derived.WideShapes
namespace Go.Proofs.Ytdfalneiapeegaa
open Go.RowKit Go.WideShapes Go.ChangeShapes

theorem len_app {α : Type} (a b : List α) : (a ++ b).length = a.length + b.length := List.length_append

/-- From w to w' nothing old has turned but the row v, and the row is now v': the same block, or a new one. -/
def Grew (w w' : World) (v v' : Value) : Prop := w.grownBy w' v.ownBlock ∧ (v'.ownBlock = v.ownBlock ∨ ∀ g, v'.ownBlock = some g → w.heap.size ≤ g)
theorem Grew.refl (w : World) (v : Value) : Grew w w v v := ⟨World.grownBy.refl w _, .inl rfl⟩
theorem Grew.trans {a b c : World} {v v' v'' : Value} (h : Grew a b v v') (k : Grew b c v' v'') : Grew a c v v'' := by
  refine ⟨h.1.andThen k.1 (fun j hj => ?_), ?_⟩
  · rcases h.2 with e | e
    · exact .inr (by rw [← e, hj])
    · exact .inl (e j hj)
  · rcases k.2 with e | e
    · rcases h.2 with e2 | e2
      · exact .inl (e.trans e2)
      · exact .inr fun g hg => e2 g (by rw [← e, hg])
    · exact .inr fun g hg => Nat.le_trans h.1.size (e g hg)
theorem grown_of_below {w w' : World} (h : Below w.heap.size w w') (row : Option Nat) : w.grownBy w' row := ⟨h.os, h.tape, h.output, h.size, fun k hk _ => h.block k hk⟩
/-- New memory ahead of it. -/
theorem Grew.after {a b c : World} {v v' : Value} (h : Below a.heap.size a b) (k : Grew b c v v') : Grew a c v v' := by
  refine ⟨(grown_of_below h _).andThen k.1 (fun j hj => .inr hj), ?_⟩
  rcases k.2 with e | e
  · exact .inl e
  · exact .inr fun g hg => Nat.le_trans h.size (e g hg)
/-- New memory behind it. -/
theorem Grew.before {a b c : World} {v v' : Value} (k : Grew a b v v') (h : Below b.heap.size b c) : Grew a c v v' :=
  ⟨k.1.andThen (grown_of_below h none) (fun j hj => by cases hj), k.2⟩
theorem Grew.below {w w' : World} {v v' : Value} {base : Nat} (h : Grew w w' v v') (hb : base ≤ w.heap.size) (hv : ∀ g, v.ownBlock = some g → base ≤ g) : Below base w w' :=
  (Below.refl base w).grown h.1 hb hv
theorem Grew.cell {w w' : World} {v v' : Value} (h : Grew w w' v v') {p : Addr} (hp : p.block < w.heap.size) (hne : v.ownBlock ≠ some p.block) : w'.cell? p = w.cell? p :=
  World.cell?_of_block (h.1.block p.block hp (fun e => hne e.symm))

section
variable {P : Program} {w : World} {base : Nat} {e : TypeId} {k : IntKind}

theorem run_app_nil (t ty : TypeId) (bytes : Nat) (ht : P.underlying t = some (.slice e)) (hinf : (P.info? e).map (fun i => (i.zero, i.size, i.bytes)) = some (some (.int k 0), 1, bytes))
    (v : Value) (xs : List Int) (hown : Owns w base e k v xs) (c : Nat) : (Builtin.append_ #[t, t] ty #[v, .slice none 0 c]).run P w = .ok v w := by
  obtain ⟨i, hi, _, _, _⟩ := info_parts hinf
  rcases hown.2 with ⟨rfl, _⟩ | ⟨g, cap, cur, rfl, _, _, hnc, _⟩
  · simp [Builtin.append_, run_underlying ht, sizeOf, typeInfo, hi, Builtin.lenOf, Builtin.firstCells]
  · simp [Builtin.append_, run_underlying ht, sizeOf, typeInfo, hi, Builtin.lenOf, Builtin.firstCells, hnc, storeCells]

theorem run_app (t ty : TypeId) (bytes : Nat) (ht : P.underlying t = some (.slice e)) (hinf : (P.info? e).map (fun i => (i.zero, i.size, i.bytes)) = some (some (.int k 0), 1, bytes)) (hbt : 0 < bytes)
    (A : Option Addr) (n c : Nat) (xs : List Int) (hown : Owns w base e k (.slice A n c) xs) (B : Option Addr) (d : Nat) (ys : List Int) (hB : Nums w k B ys)
    (h63 : (xs.length + ys.length) * bytes ≤ 140737488355328) (hbase : base ≤ w.heap.size) :
    ∃ A' n' c' w', (Builtin.append_ #[t, t] ty #[.slice A n c, .slice B ys.length d]).run P w = .ok (.slice A' n' c') w' ∧ Owns w' base e k (.slice A' n' c') (xs ++ ys) ∧ Grew w w' (.slice A n c) (.slice A' n' c') := by
  by_cases h0 : ys.length = 0 ∧ B = none
  · obtain ⟨h1, rfl⟩ := h0
    obtain rfl := List.eq_nil_of_length_eq_zero h1
    exact ⟨A, n, c, w, run_app_nil t ty bytes ht hinf _ xs hown d, by rw [List.append_nil]; exact hown, Grew.refl _ _⟩
  · obtain ⟨i, hi, hz, hsize, hby⟩ := info_parts hinf
    have hm : xs.length + ys.length ≤ maxLen := by
      have : xs.length + ys.length ≤ (xs.length + ys.length) * bytes := Nat.le_mul_of_pos_right _ hbt
      unfold maxLen; omega
    obtain ⟨ad, rfl⟩ : ∃ ad, B = some ad := by
      cases B with
      | some ad => exact ⟨ad, rfl⟩
      | none =>
        exfalso
        have hp : 0 < ys.length := by
          rcases Nat.eq_zero_or_pos ys.length with h | h
          · exact absurd ⟨h, rfl⟩ h0
          · exact h
        obtain ⟨b, off, he, _⟩ := hB hp
        cases he
    obtain ⟨v', w', hrun, h2, h3, _, h5⟩ := run_append_own_at (P := P) w base t ty e i (.int k 0) 1 bytes ht hi hz hsize hby rfl (by omega) (.slice A n c) xs.length (xs.map (Value.int k)) hown ad ys.length d (ys.map (Value.int k)) (by simp)
      (fun j u hu => by
        have hj : j < ys.length := by have := (List.getElem?_eq_some_iff.1 hu).1; simpa using this
        obtain ⟨b, off, he, _, hc⟩ := hB (by omega)
        injection he with he
        subst he
        rw [add_plain, hc j hj]
        simp [hj] at hu
        simp [hj, ← hu]) (fun u hu => by
        obtain ⟨y, _, rfl⟩ := List.mem_map.1 hu
        rfl) hm h63 hbase
    have hform : ∃ A' n' c', v' = .slice A' n' c' := by
      rcases h2.2 with ⟨hv, _⟩ | ⟨g, cap, cur, hv, _⟩
      · exact ⟨_, _, _, hv⟩
      · exact ⟨_, _, _, hv⟩
    obtain ⟨A', n', c', rfl⟩ := hform
    refine ⟨A', n', c', w', hrun, ?_, h3, ?_⟩
    · unfold Owns
      rw [List.map_append, List.length_append]
      exact h2
    · rcases h5 with h | h
      · exact .inl h
      · exact .inr fun g hg => by rw [h] at hg; injection hg with hg; omega

theorem wp_app {o : Oper} {a : Act} {K : Act → World → Prop} {Q : Exit → Act → World → Prop} (s x : Operand) (t : TypeId)
    (ho : o.op = .call { callee := .builtin .append, args := #[s, x], argTypes := #[t, t] }) (base : Nat) (e : TypeId) (k : IntKind) (bytes : Nat) (ht : P.underlying t = some (.slice e))
    (hinf : (P.info? e).map (fun i => (i.zero, i.size, i.bytes)) = some (some (.int k 0), 1, bytes)) (hbt : 0 < bytes) (A : Option Addr) (n c : Nat) (xs : List Int) (hs : a.eval s = .slice A n c)
    (hown : Owns w base e k (.slice A n c) xs) (B : Option Addr) (d : Nat) (ys : List Int) (hx : a.eval x = .slice B ys.length d) (hB : Nums w k B ys) (h63 : (xs.length + ys.length) * bytes ≤ 140737488355328) (hbase : base ≤ w.heap.size)
    (h : ∀ A' n' c' w', Owns w' base e k (.slice A' n' c') (xs ++ ys) → Grew w w' (.slice A n c) (.slice A' n' c') → K (a.put o.dst (.slice A' n' c')) w') : o.wp P a w K Q := by
  obtain ⟨A', n', c', w', hrun, h2, h3⟩ := run_app (P := P) t o.type bytes ht hinf hbt A n c xs hown B d ys hB h63 hbase
  unfold Oper.wp execOp
  simp only [ho, resolve, invoke, builtin, Sem.run_bind, Sem.run_pure, Result.andThen_ok, List.map_toArray, List.map_cons, List.map_nil, hs, hx, hrun]
  exact h A' n' c' w' h2 h3

theorem app_nums {ops : Array Oper} {rest : List Oper} {o : Oper} {a : Act} {Q : Exit → Act → World → Prop} (hgd : o.guard = none) (s x : Operand) (t : TypeId)
    (ho : o.op = .call { callee := .builtin .append, args := #[s, x], argTypes := #[t, t] }) (base : Nat) (e : TypeId) (k : IntKind) (bytes : Nat) (ht : P.underlying t = some (.slice e))
    (hinf : (P.info? e).map (fun i => (i.zero, i.size, i.bytes)) = some (some (.int k 0), 1, bytes)) (hbt : 0 < bytes) (A : Option Addr) (n c : Nat) (xs : List Int) (hs : a.eval s = .slice A n c)
    (hown : Owns w base e k (.slice A n c) xs) (B : Option Addr) (d : Nat) (ys : List Int) (hx : a.eval x = .slice B ys.length d) (hB : Nums w k B ys) (h63 : (xs.length + ys.length) * bytes ≤ 140737488355328) (hbase : base ≤ w.heap.size)
    (h : ∀ A' n' c' w', Owns w' base e k (.slice A' n' c') (xs ++ ys) → Grew w w' (.slice A n c) (.slice A' n' c') → wpList P ops Q rest (a.put o.dst (.slice A' n' c')) w') : wpList P ops Q (o :: rest) a w :=
  wpList_plain hgd fun _ hK => wp_app s x t ho base e k bytes ht hinf hbt A n c xs hs hown B d ys hx hB h63 hbase fun A' n' c' w' h2 h3 => hK _ _ (h A' n' c' w' h2 h3)

theorem step_app {ops : Array Oper} {o : Oper} {a : Act} {K : Act → World → Prop} {Q : Exit → Act → World → Prop} {E : Prop} (hgd : o.guard = none) (s x : Operand) (t : TypeId)
    (ho : o.op = .call { callee := .builtin .append, args := #[s, x], argTypes := #[t, t] }) (base : Nat) (e : TypeId) (k : IntKind) (bytes : Nat) (ht : P.underlying t = some (.slice e))
    (hinf : (P.info? e).map (fun i => (i.zero, i.size, i.bytes)) = some (some (.int k 0), 1, bytes)) (hbt : 0 < bytes) (A : Option Addr) (n c : Nat) (xs : List Int) (hs : a.eval s = .slice A n c)
    (hown : Owns w base e k (.slice A n c) xs) (B : Option Addr) (d : Nat) (ys : List Int) (hx : a.eval x = .slice B ys.length d) (hB : Nums w k B ys) (h63 : (xs.length + ys.length) * bytes ≤ 140737488355328) (hbase : base ≤ w.heap.size)
    (h : ∀ A' n' c' w', Owns w' base e k (.slice A' n' c') (xs ++ ys) → Grew w w' (.slice A n c) (.slice A' n' c') → K (a.put o.dst (.slice A' n' c')) w') :
    if Region.wanted o (yielded ops a.tmps) = true then Oper.wp P o a w K Q else E := by
  have hw : Region.wanted o (yielded ops a.tmps) = true := by simp [Region.wanted, hgd]
  rw [if_pos hw]
  exact wp_app s x t ho base e k bytes ht hinf hbt A n c xs hs hown B d ys hx hB h63 hbase h
end

theorem Owns.stay {w w' : World} {base : Nat} {e : TypeId} {k : IntKind} {v : Value} {xs : List Int} (h : Owns w base e k v xs) (hb : Below w.heap.size w w') : Owns w' base e k v xs := by
  refine ⟨h.1, ?_⟩
  rcases h.2 with h2 | ⟨g, cap, cur, hv, hg, hh, r⟩
  · exact .inl h2
  · refine .inr ⟨g, cap, cur, hv, hg, (hb.block g ?_).trans hh, r⟩
    rcases Nat.lt_or_ge g w.heap.size with hlt | hge
    · exact hlt
    · rw [Array.getElem?_eq_none hge] at hh; cases hh

theorem Owns.keep {w w' : World} {base : Nat} {e : TypeId} {k : IntKind} {v : Value} {xs : List Int} (h : Owns w base e k v xs) (hh : ∀ g, v.ownBlock = some g → w'.heap[g]? = w.heap[g]?) : Owns w' base e k v xs := by
  refine ⟨h.1, ?_⟩
  rcases h.2 with h2 | ⟨g, cap, cur, hv, hg, hc, r⟩
  · exact .inl h2
  · exact .inr ⟨g, cap, cur, hv, hg, (hh g (by rw [hv]; rfl)).trans hc, r⟩
theorem Owns.set {w : World} {base : Nat} {e : TypeId} {k : IntKind} {v : Value} {xs : List Int} (h : Owns w base e k v xs) (p : Addr) (u : Value) (hne : ∀ g, v.ownBlock = some g → g ≠ p.block) : Owns (w.setCell p u) base e k v xs :=
  h.keep fun g hg => Below.heap_setCell w p u g (hne g hg)
theorem NumsF.set {lo : Nat} {w : World} {k : IntKind} {A : Option Addr} {xs : List Int} (h : NumsF lo w k A xs) (p : Addr) (u : Value) (hp : p.block < lo) : NumsF lo (w.setCell p u) k A xs := fun hx => by
  obtain ⟨b, off, e, h1, hlt, hc⟩ := h hx
  refine ⟨b, off, e, h1, ?_, fun i hi => ?_⟩
  · simpa [World.setCell] using hlt
  · rw [World.cell?_setCell_other _ _ _ _ (fun e => by subst e; exact absurd hp (by simp; omega))]
    exact hc i hi

/-- Fresh memory is not turned by an append to an older row. -/
theorem NumsF.far {lo : Nat} {w w' : World} {k : IntKind} {A : Option Addr} {xs : List Int} {v v' : Value} (h : NumsF lo w k A xs) (hv : ∀ g, v.ownBlock = some g → g < lo) {w0 : World} (hw : Below w.heap.size w w0) (hG : Grew w0 w' v v') : NumsF lo w' k A xs := fun hp => by
  obtain ⟨b, off, e, h1, hlt, hc⟩ := h hp
  have hs := hw.size
  refine ⟨b, off, e, h1, Nat.lt_of_lt_of_le hlt (Nat.le_trans hs hG.1.size), fun i hi => ?_⟩
  rw [hG.cell (p := ⟨b, off + i, none⟩) (Nat.lt_of_lt_of_le hlt hs) (fun e => by have := hv b e; omega), hw.cell (p := ⟨b, off + i, none⟩) hlt]
  exact hc i hi

/-- A row that was just written out. -/
theorem Owns.new (w : World) (base : Nat) (e : TypeId) (k : IntKind) (xs : List Int) (hb : base ≤ w.heap.size) (hm : xs.length ≤ maxLen) : Owns (w.alloc (.cells (xs.map (Value.int k)).toArray e)) base e k (.slice (some ⟨w.heap.size, 0, none⟩) xs.length xs.length) xs := by
  refine ⟨by simp, .inr ⟨w.heap.size, xs.length, (xs.map (Value.int k)).toArray, rfl, hb, heap_alloc_new w _, Nat.le_refl _, hm, by simp, by simp [List.take_of_length_le]⟩⟩

/-- A block of one number that was just laid. -/
theorem nums_one (w : World) (k : IntKind) (x : Int) (t : TypeId) : Nums (w.alloc (.cells #[.int k x] t)) k (some ⟨w.heap.size, 0, none⟩) [x] := fun _ =>
  ⟨w.heap.size, 0, rfl, by simp, fun i hi => by
    have : i = 0 := by simp at hi; exact hi
    subst this
    go_simp⟩
theorem nums_two (w : World) (k : IntKind) (x y : Int) (t : TypeId) : Nums (w.alloc (.cells #[.int k x, .int k y] t)) k (some ⟨w.heap.size, 0, none⟩) [x, y] := fun _ =>
  ⟨w.heap.size, 0, rfl, by simp, fun i hi => by
    have : i = 0 ∨ i = 1 := by simp at hi; omega
    rcases this with rfl | rfl <;> go_simp⟩
end Go.Proofs.Ytdfalneiapeegaa
