/- Texts laid together. -/
import Derived.Test.YthpibkpljakeeaaGreatDoorSwapM
import Derived.Test.YthpibkpljakeeaaGreatDoorG7
namespace Go.Proofs.YthpibkpljakeeaaGreatDoor
open Go Go.RowKit
theorem len16 {l : List Int} (h : l.length = 16) : ∃ a0 a1 a2 a3 a4 a5 a6 a7 a8 a9 a10 a11 a12 a13 a14 a15 : Int, l = [a0, a1, a2, a3, a4, a5, a6, a7, a8, a9, a10, a11, a12, a13, a14, a15] := by
 refine ⟨l.getD 0 0, l.getD 1 0, l.getD 2 0, l.getD 3 0, l.getD 4 0, l.getD 5 0, l.getD 6 0, l.getD 7 0, l.getD 8 0, l.getD 9 0, l.getD 10 0, l.getD 11 0, l.getD 12 0, l.getD 13 0, l.getD 14 0, l.getD 15 0, List.ext_getElem? fun i => ?_⟩
 by_cases hi : i < 16
 · have : i = 0 ∨ i = 1 ∨ i = 2 ∨ i = 3 ∨ i = 4 ∨ i = 5 ∨ i = 6 ∨ i = 7 ∨ i = 8 ∨ i = 9 ∨ i = 10 ∨ i = 11 ∨ i = 12 ∨ i = 13 ∨ i = 14 ∨ i = 15 := by omega
   rcases this with e | e | e | e | e | e | e | e | e | e | e | e | e | e | e | e <;> subst e <;> exact getD_some (by omega)
 · rw [List.getElem?_eq_none (by omega), List.getElem?_eq_none (by simp; omega)]
def B2 (w : World) (b : Nat) (l : List Int) : Prop := Arr w b 0 .i64 l ∧ l.length = 32
section
variable {w w' : World} {b : Nat} {l : List Int}
end
def IsZ2 (base : Nat) : Value → World → Prop := fun v w => ∃ b, v = .pointer (some ⟨b, 0, none⟩) ∧ base ≤ b ∧ B2 w b (zeros 32)
def IsZ22 (base : Nat) : Value → World → Prop := fun v w => ∃ b, v = .pointer (some ⟨b, 0, none⟩) ∧ base ≤ b ∧ By w b (zeros 32)
theorem IsZ22.grows (base : Nat) : Grows (IsZ22 base) := fun _ _ _ ⟨b, h1, h0, h2⟩ hb => ⟨b, h1, h0, h2.next hb⟩
section
variable {ops : Array Oper} {md : Region.Mode} {W : World} {a0 : Act} {n : Nat} {al : Nat → Bool} {S : Nat → Value → World → Prop} {Q : Exit → Act → World → Prop} {i : Nat} {o : Oper} {b : Nat} {l : List Int}
theorem alloc22 (ev : Operand → Value) (o : Oper) (ho : o.op = .alloc 22) (w : World) : (execOp ev o).run Tryz.prog w = .ok (.value (.pointer (some ⟨w.heap.size, 0, none⟩))) (w.alloc (.cells (ints .u8 (zeros 32)).toArray 22)) := by
 obtain ⟨z, s⟩ := zero_of_info inf22
 unfold execOp
 simp only [ho]
 go_simp
theorem step_alloc22 (hg : GuardOn ops md n S i o) (ho : o.op = .alloc 22) (hS : S i = IsZ22 W.heap.size) : StepOk Tryz.prog ops md W a0 n al S Q i o :=
 step_alloc hg (fun ev w => alloc22 ev o ho w) fun w hw => by rw [hS]; exact ⟨w.heap.size, rfl, Below.size hw, By.new w _ (zeros_len 32)⟩
theorem step_part (hal : al i = false) (hg : GuardOn ops md n S i o) {x : Operand} {f : Nat} (h : Arr W b f .i64 l) (hl : l.length = 16) (ho : o.op = .load 44 x) (hS : S i = Is (.agg (ints .i64 l).toArray)) (hk : Knows ops md W a0 n S i x (.pointer (some ⟨b, f, none⟩))) : StepOk Tryz.prog ops md W a0 n al S Q i o :=
 step_run hal hg fun a w hw hf hd => ⟨_, ex_load 44 x ho b f (hk a w hw hf hd) (ints .i64 l) _ (h.below hw (h.lt (by omega))).range Tryz.underlying44 rfl (l26 hl), by rw [hS]; exact rfl⟩
theorem three_args {x y z : Operand} {u v t : Value} (hx : Knows ops md W a0 n S i x u) (hy : Knows ops md W a0 n S i y v) (hz : Knows ops md W a0 n S i z t) : ∀ (a : Act) (w : World), Cl W w → Fr ops n a0 a → Dp ops md n S i a w → #[x, y, z].map a.eval = #[u, v, t] := fun a w hw hf hd => by
 have e : #[x, y, z].map a.eval = #[a.eval x, a.eval y, a.eval z] := by simp
 rw [e, hx a w hw hf hd, hy a w hw hf hd, hz a w hw hf hd]
end
theorem By.room {w : World} {b : Nat} {l : List Int} (h : By w b l) {l' : List Int} (e : l'.length = 32) : w.there b 0 (ints .u8 l').toArray.size := h.1.room (by rw [e, h.2])
theorem By.stored {w : World} {b : Nat} {l : List Int} (h : By w b l) {l' : List Int} (e : l'.length = 32) : By (w.setCells b 0 (ints .u8 l').toArray.toList) b l' := ⟨h.1.stored (by rw [e, h.2]), e⟩
section
variable {P : Program} {ops : Array Oper} {md : Region.Mode} {W : World} {a0 : Act} {n : Nat} {al : Nat → Bool} {S : Nat → Value → World → Prop}
def earlyB (md : Region.Mode) (ops : Array Oper) (n M : Nat) : Bool :=
 decide (n + 1 < ops.size) && Region.chainB md ops n && backB md ops && dstB ops n M && Region.seqB md ops (ops.size - n) n (headArr n ops.size) && (List.range n).all (fun i => Region.waitsFor md ops (n + 1) i)
def Free (P : Program) (ops : Array Oper) (md : Region.Mode) (W : World) (a0 : Act) (n : Nat) (S : Nat → Value → World → Prop) (i : Nat) (o : Oper) : Prop :=
 o.guard = none ∧ ∀ a w, Cl W w → Fr ops n a0 a → Dp ops md n S i a w → ∃ v, (execOp a.eval o).run P w = .ok (.value v) w ∧ ∀ w', S i v w'
end
end Go.Proofs.YthpibkpljakeeaaGreatDoor
