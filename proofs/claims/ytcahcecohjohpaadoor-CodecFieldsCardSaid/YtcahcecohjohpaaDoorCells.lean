/- Structs in boxes and short lists, told cell by cell; the calls that copy them. -/
import Derived.Test.YtcahcecohjohpaaDoorKnow
import Derived.Great.BuildSlice
namespace Go.Proofs.YtcahcecohjohpaaDoor
open Go Go.RowKit

theorem partsV_less : ∀ (v : V) (room deep : Int), 0 ≤ room → partsV v room deep ≤ room - 1
  | .mk k n b l, room, deep, h => by
    unfold partsV
    split
    · omega
    · have := partsL_bd l (room - 1) (deep - 1) (by omega)
      omega
theorem partsL_len : ∀ (l : List V) (room deep : Int), -1 ≤ room → 0 ≤ partsL l room deep → (l.length : Int) ≤ room
  | [], room, deep, h, h0 => by unfold partsL at h0; simpa using h0
  | x :: l, room, deep, h, h0 => by
    unfold partsL at h0
    split at h0
    · omega
    · have h1 := partsV_bd x room deep h
      have h2 := partsV_less x room deep (by omega)
      have h3 := partsL_len l (partsV x room deep) deep (by omega) h0
      rw [List.length_cons]
      omega
theorem few_len {k n : Int} {b : List Int} {l : List V} (h : fewV (.mk k n b l) = true) : l.length ≤ 199 ∧ b.length ≤ 2000 := by
  have h0 : 0 ≤ partsV (.mk k n b l) 200 30 := by unfold fewV at h; simpa using h
  unfold partsV at h0
  split at h0
  · omega
  · rename_i hc
    have := partsL_len l _ _ (by omega) h0
    omega

/-- Cells in a block, that may be written. -/
def Row (w : World) (b : Nat) (cs : List Value) : Prop := ∀ i v, cs[i]? = some v → w.cell? ⟨b, i, none⟩ = some v ∧ w.frozen? ⟨b, i, none⟩ = false
section
variable {w w' : World} {b : Nat} {cs : List Value}
theorem Row.range (h : Row w b cs) : w.rangeAt b 0 cs := fun i v hi => by rw [Nat.zero_add]; exact (h i v hi).1
theorem Row.at_ (h : Row w b cs) {i : Nat} {v : Value} (hi : cs[i]? = some v) : w.cell? ⟨b, i, none⟩ = some v := (h i v hi).1
theorem Row.lt (h : Row w b cs) (hp : 0 < cs.length) : b < w.heap.size := World.block_lt_of_cell? w _ (h 0 cs[0] (by simp [hp])).1
theorem Row.there (h : Row w b cs) : w.there b 0 cs.length := fun j hj => ⟨by rw [Nat.zero_add, (h j cs[j] (by simp [hj])).1]; rfl, by rw [Nat.zero_add]; exact (h j cs[j] (by simp [hj])).2⟩
theorem Row.of (h1 : w.rangeAt b 0 cs) (h2 : w.there b 0 cs.length) : Row w b cs := fun i v hi => by
  have h3 := h1 i v hi
  have h4 := (h2 i (List.getElem?_eq_some_iff.1 hi).1).2
  rw [Nat.zero_add] at h3 h4
  exact ⟨h3, h4⟩
theorem Row.below {B : Nat} (h : Row w b cs) (hb : Below B w w') (hB : b < B) : Row w' b cs := fun i v hi => by
  have e := hb.block b hB
  rw [World.cell?_of_block (a := ⟨b, i, none⟩) e, World.frozen?_of_block (a := ⟨b, i, none⟩) e]
  exact h i v hi
theorem Row.next (h : Row w b cs) (hp : 0 < cs.length) (hb : Below w.heap.size w w') : Row w' b cs := h.below hb (h.lt hp)
theorem Row.past (h : Row w b cs) {g : Nat} (vs : List Value) (hg : g ≠ b) : Row (w.setCells g 0 vs) b cs := Row.of (World.rangeAt_setCells_apart h.range g 0 vs (.inl (Ne.symm hg))) (World.there_setCells h.there g 0 vs)
theorem Row.stored (h : Row w b cs) {vs : List Value} (e : vs.length = cs.length) : Row (w.setCells b 0 vs) b vs := Row.of (World.rangeAt_setCells_same w b 0 vs (by rw [e]; exact h.there)) (by have := World.there_setCells h.there b 0 vs; rwa [← e] at this)
theorem Row.made (w : World) (cs : List Value) (t : TypeId) : Row (w.alloc (.cells cs.toArray t)) w.heap.size cs := fun i v hi => by
  refine ⟨?_, World.frozen?_alloc_new w _ t i⟩
  rw [World.cell?_alloc_new]
  simp [hi]
end
def zer : List Value := [.int .i64 0, .int .i64 0, .slice none 0 0, .slice none 0 0]
def IsZ25 (base : Nat) : Value → World → Prop := fun v w => ∃ b, v = .pointer (some ⟨b, 0, none⟩) ∧ base ≤ b ∧ Row w b zer
theorem IsZ25.grows (base : Nat) : Grows (IsZ25 base) := fun _ _ _ ⟨b, h1, h0, h2⟩ hb => ⟨b, h1, h0, h2.next (by decide) hb⟩
theorem info25s : (Tryd.prog.info? 25).map (·.size) = some 4 := by kernel_rfl
/-- Two structs, one behind the other. -/
def SL2 (base : Nat) (cs : List Value) : Value → World → Prop := fun u w => ∃ g, u = .slice (some ⟨g, 0, none⟩) 2 2 ∧ base ≤ g ∧ Row w g cs
theorem SL2.grows (base : Nat) (cs : List Value) (hp : 0 < cs.length) : Grows (SL2 base cs) := fun _ _ _ ⟨g, h1, h0, h2⟩ hb => ⟨g, h1, h0, h2.next hp hb⟩
/-- A made list of two structs. -/
def LB2 (base : Nat) (cs : List Value) : Value → World → Prop := fun u w => ∃ g d, u = .agg #[.int .i64 3, .int .i64 0, .slice none 0 0, .slice (some ⟨g, 0, none⟩) 2 d] ∧ base ≤ g ∧ g < w.heap.size ∧ w.rangeAt g 0 cs
theorem LB2.grows (base : Nat) (cs : List Value) : Grows (LB2 base cs) := fun _ _ _ ⟨g, d, h1, h0, hl, h2⟩ hb => ⟨g, d, h1, h0, Nat.lt_of_lt_of_le hl hb.size, fun i v hi => by
  rw [Below.cell hb (p := ⟨g, 0 + i, none⟩) hl]; exact h2 i v hi⟩
/-- Made bytes. -/
def RB2 (base : Nat) (xs : List Int) : Value → World → Prop := fun u w => ∃ B d, u = .agg #[.int .i64 2, .int .i64 0, .slice B xs.length d, .slice none 0 0] ∧ NumsF base w .u8 B xs
theorem RB2.grows (base : Nat) (xs : List Int) : Grows (RB2 base xs) := fun _ _ _ ⟨B, d, h1, h2⟩ hb => ⟨B, d, h1, h2.stay hb⟩
def cellsOf4 (k n : Int) (b : List Int) (l : List V) (A B : Option Addr) (c d : Nat) : List Value := [.int .i64 k, .int .i64 n, .slice A b.length c, .slice B l.length d]
section
variable {ops : Array Oper} {md : Region.Mode} {W : World} {a0 : Act} {n : Nat} {al : Nat → Bool} {S : Nat → Value → World → Prop} {Q : Exit → Act → World → Prop} {i : Nat} {o : Oper} {b : Nat}
theorem alloc25 (ev : Operand → Value) (o : Oper) (ho : o.op = .alloc 25) (w : World) : (execOp ev o).run Tryd.prog w = .ok (.value (.pointer (some ⟨w.heap.size, 0, none⟩))) (w.alloc (.cells zer.toArray 25)) := by
  have hi := info25
  cases hc : Tryd.prog.info? 25 with
  | none => rw [hc] at hi; simp at hi
  | some it =>
    rw [hc] at hi
    simp only [Option.map_some, Option.some.injEq, Prod.mk.injEq] at hi
    unfold execOp
    simp only [ho]
    go_simp
    rfl
theorem step_alloc25 (hg : GuardOn ops md n S i o) (ho : o.op = .alloc 25) (hS : S i = IsZ25 W.heap.size) : StepOk Tryd.prog ops md W a0 n al S Q i o :=
  step_alloc hg (fun ev w => alloc25 ev o ho w) fun w hw => by rw [hS]; exact ⟨w.heap.size, rfl, Below.size hw, Row.made w zer 25⟩
theorem step_load25 (hal : al i = false) (hg : GuardOn ops md n S i o) {x : Operand} {cs : List Value} (h : Row W b cs) (hl : cs.length = 4) (ho : o.op = .load 25 x) (hS : S i = Is (.agg cs.toArray)) (hx : Knows ops md W a0 n S i x (.pointer (some ⟨b, 0, none⟩))) : StepOk Tryd.prog ops md W a0 n al S Q i o :=
  step_run hal hg fun a w hw hf hd => ⟨_, ex_load 25 x ho b 0 (hx a w hw hf hd) cs _ (h.next (by omega) hw).range Tryd.underlying25 rfl (by rw [info25s, hl]), by rw [hS]; exact rfl⟩
/-- A field's address, and what lies there. -/
theorem step_fa (hal : al i = false) (hg : GuardOn ops md n S i o) {x : Operand} (j : Nat) (hj : j < 4) (ho : o.op = .fieldAddr 25 x j) (hS : S i = Is (.pointer (some ⟨b, j, none⟩))) (hx : Knows ops md W a0 n S i x (.pointer (some ⟨b, 0, none⟩))) : StepOk Tryd.prog ops md W a0 n al S Q i o :=
  step_run hal hg fun a w hw hf hd => ⟨.pointer (some ⟨b, j, none⟩), by
    have h := hx a w hw hf hd
    revert h
    generalize a.eval = ev
    intro h
    unfold execOp
    simp only [ho, h]
    have hc : j = 0 ∨ j = 1 ∨ j = 2 ∨ j = 3 := by omega
    rcases hc with e | e | e | e <;> subst e <;> go_simp, by rw [hS]; exact rfl⟩
theorem step_int (hal : al i = false) (hg : GuardOn ops md n S i o) {x : Operand} {cs : List Value} (h : Row W b cs) {j : Nat} {v : Int} (hj : cs[j]? = some (.int .i64 v)) (ho : o.op = .load 3 x) (hS : S i = Is (.int .i64 v)) (hx : Knows ops md W a0 n S i x (.pointer (some ⟨b, j, none⟩))) : StepOk Tryd.prog ops md W a0 n al S Q i o :=
  step_run hal hg fun a w hw hf hd => ⟨.int .i64 v, by
    have hh := hx a w hw hf hd
    have hl := (List.getElem?_eq_some_iff.1 hj).1
    have hcc := (h.next (by omega) hw).at_ hj
    revert hh
    generalize a.eval = ev
    intro hh
    unfold execOp
    simp only [ho, hh]
    go_simp, by rw [hS]; exact rfl⟩
theorem step_bytes (hal : al i = false) (hg : GuardOn ops md n S i o) {x : Operand} {cs : List Value} (h : Row W b cs) {j : Nat} {A : Option Addr} {k m : Nat} (hj : cs[j]? = some (.slice A k m)) (ho : o.op = .load 22 x) (hS : S i = Is (.slice A k m)) (hx : Knows ops md W a0 n S i x (.pointer (some ⟨b, j, none⟩))) : StepOk Tryd.prog ops md W a0 n al S Q i o :=
  step_run hal hg fun a w hw hf hd => ⟨.slice A k m, by
    have hh := hx a w hw hf hd
    have hl := (List.getElem?_eq_some_iff.1 hj).1
    have hcc := (h.next (by omega) hw).at_ hj
    revert hh
    generalize a.eval = ev
    intro hh
    unfold execOp
    simp only [ho, hh]
    go_simp, by rw [hS]; exact rfl⟩
theorem step_list (hal : al i = false) (hg : GuardOn ops md n S i o) {x : Operand} {cs : List Value} (h : Row W b cs) {j : Nat} {A : Option Addr} {k m : Nat} (hj : cs[j]? = some (.slice A k m)) (ho : o.op = .load 23 x) (hS : S i = Is (.slice A k m)) (hx : Knows ops md W a0 n S i x (.pointer (some ⟨b, j, none⟩))) : StepOk Tryd.prog ops md W a0 n al S Q i o :=
  step_run hal hg fun a w hw hf hd => ⟨.slice A k m, by
    have hh := hx a w hw hf hd
    have hl := (List.getElem?_eq_some_iff.1 hj).1
    have hcc := (h.next (by omega) hw).at_ hj
    revert hh
    generalize a.eval = ev
    intro hh
    unfold execOp
    simp only [ho, hh]
    go_simp, by rw [hS]; exact rfl⟩
theorem step_len23 (hal : al i = false) (hg : GuardOn ops md n S i o) {x : Operand} {A : Option Addr} {k m : Nat} (ho : o.op = .call { callee := .builtin .len, args := #[x], argTypes := #[23] }) (hS : S i = Is (.int .i64 (k : Int))) (hx : Knows ops md W a0 n S i x (.slice A k m)) : StepOk Tryd.prog ops md W a0 n al S Q i o :=
  step_run hal hg fun a w hw hf hd => ⟨.int .i64 (k : Int), by
    have hh := hx a w hw hf hd
    revert hh
    generalize a.eval = ev
    intro hh
    unfold execOp
    simp only [ho]
    simp
    go_simp, by rw [hS]; exact rfl⟩
theorem step_len40 (hal : al i = false) (hg : GuardOn ops md n S i o) {x : Operand} {A : Option Addr} {k m : Nat} (ho : o.op = .call { callee := .builtin .len, args := #[x], argTypes := #[40] }) (hS : S i = Is (.int .i64 (k : Int))) (hx : Knows ops md W a0 n S i x (.slice A k m)) : StepOk Tryd.prog ops md W a0 n al S Q i o :=
  step_run hal hg fun a w hw hf hd => ⟨.int .i64 (k : Int), by
    have hh := hx a w hw hf hd
    revert hh
    generalize a.eval = ev
    intro hh
    unfold execOp
    simp only [ho]
    simp
    go_simp, by rw [hS]; exact rfl⟩
/-- Comparisons of numbers. -/
theorem step_neI (hal : al i = false) (hg : GuardOn ops md n S i o) {x y : Operand} {p q : Int} {r : Bool} (ho : o.op = .binOp .neq 3 x y 3) (hS : S i = Is (.bool r)) (hr : r = (p != q)) (hx : Knows ops md W a0 n S i x (.int .i64 p)) (hy : Knows ops md W a0 n S i y (.int .i64 q)) : StepOk Tryd.prog ops md W a0 n al S Q i o :=
  step_run hal hg fun a w hw hf hd => ⟨.bool r, by
    have h1 := hx a w hw hf hd
    have h2 := hy a w hw hf hd
    rw [hr]
    revert h1 h2
    generalize a.eval = ev
    intro h1 h2
    unfold execOp
    simp only [ho, h1, h2]
    go_simp, by rw [hS]; exact rfl⟩
theorem step_gtI (hal : al i = false) (hg : GuardOn ops md n S i o) {x y : Operand} {p q : Int} {r : Bool} (ho : o.op = .binOp .gtr 3 x y 3) (hS : S i = Is (.bool r)) (hr : r = decide (q < p)) (hx : Knows ops md W a0 n S i x (.int .i64 p)) (hy : Knows ops md W a0 n S i y (.int .i64 q)) : StepOk Tryd.prog ops md W a0 n al S Q i o :=
  step_run hal hg fun a w hw hf hd => ⟨.bool r, by
    have h1 := hx a w hw hf hd
    have h2 := hy a w hw hf hd
    rw [hr]
    revert h1 h2
    generalize a.eval = ev
    intro h1 h2
    unfold execOp
    simp only [ho, h1, h2]
    go_simp, by rw [hS]; exact rfl⟩
theorem step_eqB (hal : al i = false) (hg : GuardOn ops md n S i o) {x y : Operand} {p q r : Bool} (ho : o.op = .binOp .eql 4 x y 4) (hS : S i = Is (.bool r)) (hr : r = (p == q)) (hx : Knows ops md W a0 n S i x (.bool p)) (hy : Knows ops md W a0 n S i y (.bool q)) : StepOk Tryd.prog ops md W a0 n al S Q i o :=
  step_run hal hg fun a w hw hf hd => ⟨.bool r, by
    have h1 := hx a w hw hf hd
    have h2 := hy a w hw hf hd
    rw [hr]
    revert h1 h2
    generalize a.eval = ev
    intro h1 h2
    unfold execOp
    simp only [ho, h1, h2]
    cases p <;> cases q <;> go_simp, by rw [hS]; exact rfl⟩
theorem step_neB (hal : al i = false) (hg : GuardOn ops md n S i o) {x y : Operand} {p q r : Bool} (ho : o.op = .binOp .neq 4 x y 4) (hS : S i = Is (.bool r)) (hr : r = (p != q)) (hx : Knows ops md W a0 n S i x (.bool p)) (hy : Knows ops md W a0 n S i y (.bool q)) : StepOk Tryd.prog ops md W a0 n al S Q i o :=
  step_run hal hg fun a w hw hf hd => ⟨.bool r, by
    have h1 := hx a w hw hf hd
    have h2 := hy a w hw hf hd
    rw [hr]
    revert h1 h2
    generalize a.eval = ev
    intro h1 h2
    unfold execOp
    simp only [ho, h1, h2]
    cases p <;> cases q <;> go_simp, by rw [hS]; exact rfl⟩
end
end Go.Proofs.YtcahcecohjohpaaDoor
