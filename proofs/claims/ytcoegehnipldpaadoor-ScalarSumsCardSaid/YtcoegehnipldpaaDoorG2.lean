/- Texts of this proof, laid together: Equal, Inv, Bx. -/
import Derived.Test.YtcoegehnipldpaaDoorG1
import Derived.Test.YtcoegehnipldpaaDoorQsM
/- Whether two elements are equal. -/
namespace Go.Proofs.YtcoegehnipldpaaDoor
open Go.RowKit

end Go.Proofs.YtcoegehnipldpaaDoor

/- Numbers with ones; inverses. -/
namespace Go.Proofs.YtcoegehnipldpaaDoor
open Go.RowKit

def onesL (a b : Int) : List Int := a :: (List.replicate 30 255 ++ [b])
theorem onesL_length (a b : Int) : (onesL a b).length = 32 := by simp [onesL]
def full : List Int := List.replicate 32 255
def invL (xs : List Int) : List Int := powL xs (onesL 235 127) 256
theorem onesL_byt {a b : Int} (ha : 0 ≤ a ∧ a < 256) (hb : 0 ≤ b ∧ b < 256) : Byt (onesL a b) := fun x hx => by
  simp only [onesL, List.mem_cons, List.mem_append, List.mem_replicate, List.not_mem_nil, or_false] at hx
  rcases hx with rfl | ⟨_, rfl⟩ | rfl <;> omega
theorem invL_el {xs : List Int} (hx : El xs) : El (invL xs) := powL_el hx 256
end Go.Proofs.YtcoegehnipldpaaDoor

/- Boxes that hold an element, calls that return a value, and regions over them. -/
namespace Go.Proofs.YtcoegehnipldpaaDoor
open Go.RowKit

/-- The call returns v, whatever the world, and changes nothing that was there. -/
def CallsTo (f : FuncId) (args : Array Value) (v : Value) : Prop := ∀ w, Calls Tryd.prog f args w fun e w' => e = .returned v ∧ Below w.heap.size w w'
/-- A block with an element. -/
def Bx (w : World) (b : Nat) (l : List Int) : Prop := Arr w b 0 .i64 l ∧ l.length = 16
/-- A block with bytes. -/
def By (w : World) (b : Nat) (l : List Int) : Prop := Arr w b 0 .u8 l ∧ l.length = 32
section
variable {w w' W : World} {b : Nat} {l : List Int}
theorem Bx.lt (h : Bx w b l) : b < w.heap.size := h.1.lt (by rw [h.2]; omega)
theorem By.lt (h : By w b l) : b < w.heap.size := h.1.lt (by rw [h.2]; omega)
theorem Bx.next (h : Bx w b l) (hb : Below w.heap.size w w') : Bx w' b l := ⟨h.1.below hb h.lt, h.2⟩
theorem By.next (h : By w b l) (hb : Below w.heap.size w w') : By w' b l := ⟨h.1.below hb h.lt, h.2⟩
theorem Bx.range (h : Bx w b l) : w.rangeAt b 0 (ints .i64 l) := h.1.range
theorem By.range (h : By w b l) : w.rangeAt b 0 (ints .u8 l) := h.1.range
theorem Bx.room (h : Bx w b l) {l' : List Int} (e : l'.length = 16) : w.there b 0 (ints .i64 l').toArray.size := h.1.room (by rw [e, h.2])
theorem Bx.stored (h : Bx w b l) {l' : List Int} (e : l'.length = 16) : Bx (w.setCells b 0 (ints .i64 l').toArray.toList) b l' := ⟨h.1.stored (by rw [e, h.2]), e⟩
theorem Bx.past (h : Bx w b l) {b' : Nat} (vs : List Value) (hb : b' ≠ b) : Bx (w.setCells b' 0 vs) b l := ⟨h.1.past vs (.inl hb), h.2⟩
end
theorem qs_by {ops : Array Oper} {W : World} {Q : Act → Prop} {a : Act} {o : Oper} {rest : List Oper} {b : Nat} {l : List Int} (h : By W b l) (x : Operand) (hw : Region.wanted o (yielded ops a.tmps) = true) (ho : o.op = .load 23 x) (hx : a.eval x = .pointer (some ⟨b, 0, none⟩))
    (hk : wpQuiet Tryd.prog ops (Cl W) Q rest (a.put o.dst (.agg (ints .u8 l).toArray))) : wpQuiet Tryd.prog ops (Cl W) Q (o :: rest) a :=
  qs_read (.agg (ints .u8 l).toArray) hw (fun _ hw' => ex_load 23 x ho b 0 hx (ints .u8 l) _ (h.next hw').range Tryd.underlying23 rfl (l22 h.2)) hk
theorem qs_to {ops : Array Oper} {W : World} {Q : Act → Prop} {a : Act} {o : Oper} {rest : List Oper} {f : FuncId} {args : Array Value} {v : Value} (h : CallsTo f args v) (hw : Region.wanted o (yielded ops a.tmps) = true) (hr : ∀ w, (execOp a.eval o).run Tryd.prog w = .ok (.enter f args) w)
    (hk : wpQuiet Tryd.prog ops (Cl W) Q rest (a.put o.dst v)) : wpQuiet Tryd.prog ops (Cl W) Q (o :: rest) a := qs_callB v f args hw hr (fun w => h w) hk
end Go.Proofs.YtcoegehnipldpaaDoor
