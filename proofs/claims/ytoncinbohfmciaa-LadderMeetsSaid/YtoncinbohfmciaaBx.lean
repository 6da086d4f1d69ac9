/- Boxes that hold an element, calls that return a value, and regions over them. -/
import Derived.Test.YtoncinbohfmciaaInv
namespace Go.Proofs.Ytoncinbohfmciaa
open Go.RowKit

/-- The call returns v, whatever the world, and changes nothing that was there. -/
def CallsTo (f : FuncId) (args : Array Value) (v : Value) : Prop := ∀ w, Calls Try.prog f args w fun e w' => e = .returned v ∧ Below w.heap.size w w'
/-- A block with an element. -/
def Bx (w : World) (b : Nat) (l : List Int) : Prop := Arr w b 0 .i64 l ∧ l.length = 16
/-- A block with bytes. -/
def By (w : World) (b : Nat) (l : List Int) : Prop := Arr w b 0 .u8 l ∧ l.length = 32
section
variable {w w' W : World} {b : Nat} {l : List Int}
theorem Bx.lt (h : Bx w b l) : b < w.heap.size := h.1.lt (by rw [h.2]; omega)
theorem By.lt (h : By w b l) : b < w.heap.size := h.1.lt (by rw [h.2]; omega)
theorem Bx.next (h : Bx w b l) (hb : Below w.heap.size w w') : Bx w' b l := ⟨h.1.below hb h.lt, h.2⟩
theorem By.next (h : By w b l) (hb : Below w.heap.size w w') : By w' b l := ⟨h.1.below hb h.lt, h.2⟩
theorem Bx.range (h : Bx w b l) : w.rangeAt b 0 (ints .i64 l) := h.1.range
theorem By.range (h : By w b l) : w.rangeAt b 0 (ints .u8 l) := h.1.range
theorem Bx.room (h : Bx w b l) {l' : List Int} (e : l'.length = 16) : w.there b 0 (ints .i64 l').toArray.size := h.1.room (by rw [e, h.2])
theorem Bx.stored (h : Bx w b l) {l' : List Int} (e : l'.length = 16) : Bx (w.setCells b 0 (ints .i64 l').toArray.toList) b l' := ⟨h.1.stored (by rw [e, h.2]), e⟩
theorem Bx.past (h : Bx w b l) {b' : Nat} (vs : List Value) (hb : b' ≠ b) : Bx (w.setCells b' 0 vs) b l := ⟨h.1.past vs (.inl hb), h.2⟩
end
/-- A new block, stored at once. -/
theorem put_new (w : World) (l : List Int) (hl : l.length = 16) :
    (w.alloc (.cells (ints .i64 (zeros 16)).toArray 41)).there w.heap.size 0 (ints .i64 l).toArray.size ∧ Bx ((w.alloc (.cells (ints .i64 (zeros 16)).toArray 41)).setCells w.heap.size 0 (ints .i64 l).toArray.toList) w.heap.size l ∧
    Below w.heap.size w ((w.alloc (.cells (ints .i64 (zeros 16)).toArray 41)).setCells w.heap.size 0 (ints .i64 l).toArray.toList) := by
  have hP := Arr.made w .i64 (zeros 16) 41
  exact ⟨hP.room (by rw [zeros_len]; exact hl), ⟨hP.stored (by rw [zeros_len]; exact hl), hl⟩, Below.setCells (below_new _ _) (Nat.le_refl _) _ _⟩
theorem qs_el {ops : Array Oper} {W : World} {Q : Act → Prop} {a : Act} {o : Oper} {rest : List Oper} {b : Nat} {l : List Int} (h : Bx W b l) (x : Operand) (hw : Region.wanted o (yielded ops a.tmps) = true) (ho : o.op = .load 41 x) (hx : a.eval x = .pointer (some ⟨b, 0, none⟩))
    (hk : wpQuiet Try.prog ops (Cl W) Q rest (a.put o.dst (.agg (ints .i64 l).toArray))) : wpQuiet Try.prog ops (Cl W) Q (o :: rest) a :=
  qs_read (.agg (ints .i64 l).toArray) hw (fun _ hw' => ex_load 41 x ho b 0 hx (ints .i64 l) _ (h.next hw').range Try.underlying41 rfl (l26 h.2)) hk
theorem qs_by {ops : Array Oper} {W : World} {Q : Act → Prop} {a : Act} {o : Oper} {rest : List Oper} {b : Nat} {l : List Int} (h : By W b l) (x : Operand) (hw : Region.wanted o (yielded ops a.tmps) = true) (ho : o.op = .load 22 x) (hx : a.eval x = .pointer (some ⟨b, 0, none⟩))
    (hk : wpQuiet Try.prog ops (Cl W) Q rest (a.put o.dst (.agg (ints .u8 l).toArray))) : wpQuiet Try.prog ops (Cl W) Q (o :: rest) a :=
  qs_read (.agg (ints .u8 l).toArray) hw (fun _ hw' => ex_load 22 x ho b 0 hx (ints .u8 l) _ (h.next hw').range Try.underlying22 rfl (l22 h.2)) hk
theorem qs_to {ops : Array Oper} {W : World} {Q : Act → Prop} {a : Act} {o : Oper} {rest : List Oper} {f : FuncId} {args : Array Value} {v : Value} (h : CallsTo f args v) (hw : Region.wanted o (yielded ops a.tmps) = true) (hr : ∀ w, (execOp a.eval o).run Try.prog w = .ok (.enter f args) w)
    (hk : wpQuiet Try.prog ops (Cl W) Q rest (a.put o.dst v)) : wpQuiet Try.prog ops (Cl W) Q (o :: rest) a := qs_callB v f args hw hr (fun w => h w) hk
end Go.Proofs.Ytoncinbohfmciaa
