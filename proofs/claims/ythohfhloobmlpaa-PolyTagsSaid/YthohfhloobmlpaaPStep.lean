/- Calls as steps; the fields of what keeps a block; types for regions. -/
import Derived.Test.YthohfhloobmlpaaPLow
namespace Go.Proofs.Ythohfhloobmlpaa
open Go Go.RowKit

def CallsTo (f : FuncId) (args : Array Value) (v : Value) : Prop := ∀ w, Calls Try.prog f args w fun e w' => e = .returned v ∧ Below w.heap.size w w'
section
variable {ops : Array Oper} {md : Region.Mode} {W : World} {a0 : Act} {n : Nat} {al : Nat → Bool} {S : Nat → Value → World → Prop} {Q : Exit → Act → World → Prop} {i : Nat} {o : Oper}
theorem step_to (hal : al i = false) (hg : GuardOn ops md n S i o) {f : FuncId} {xs : Array Operand} {ts : Array TypeId} {vs : Array Value} {v : Value} (ho : o.op = .call { callee := .value (.func f), args := xs, argTypes := ts }) (hcf : ∀ vs w, (callFunc f vs).run Try.prog w = .ok (.enter f vs) w)
    (hc : CallsTo f vs v) (hS : S i = Is v) (hv : ∀ (a : Act) (w : World), Cl W w → Fr ops n a0 a → Dp ops md n S i a w → xs.map a.eval = vs) : StepOk Try.prog ops md W a0 n al S Q i o :=
  step_call hal hg fun a w hw hf hd => ⟨f, vs, ex_fn rfl hcf ho vs (hv a w hw hf hd) w, (hc w).mono fun _ _ ⟨he, hb⟩ => ⟨v, he, by rw [hS]; exact rfl, hb⟩⟩
theorem no_args : ∀ (a : Act) (w : World), Cl W w → Fr ops n a0 a → Dp ops md n S i a w → (#[] : Array Operand).map a.eval = #[] := fun _ _ _ _ _ => by simp
end
theorem cx6 (vs : Array Value) (w : World) : (callFunc 6 vs).run Try.prog w = .ok (.enter 6 vs) w := by go_simp
theorem cx7 (vs : Array Value) (w : World) : (callFunc 7 vs).run Try.prog w = .ok (.enter 7 vs) w := by go_simp
theorem cx8 (vs : Array Value) (w : World) : (callFunc 8 vs).run Try.prog w = .ok (.enter 8 vs) w := by go_simp
theorem cx9 (vs : Array Value) (w : World) : (callFunc 9 vs).run Try.prog w = .ok (.enter 9 vs) w := by go_simp
theorem cx10 (vs : Array Value) (w : World) : (callFunc 10 vs).run Try.prog w = .ok (.enter 10 vs) w := by go_simp
theorem cx11 (vs : Array Value) (w : World) : (callFunc 11 vs).run Try.prog w = .ok (.enter 11 vs) w := by go_simp
theorem cx12 (vs : Array Value) (w : World) : (callFunc 12 vs).run Try.prog w = .ok (.enter 12 vs) w := by go_simp
theorem cx13 (vs : Array Value) (w : World) : (callFunc 13 vs).run Try.prog w = .ok (.enter 13 vs) w := by go_simp
theorem cx14 (vs : Array Value) (w : World) : (callFunc 14 vs).run Try.prog w = .ok (.enter 14 vs) w := by go_simp
theorem cx15 (vs : Array Value) (w : World) : (callFunc 15 vs).run Try.prog w = .ok (.enter 15 vs) w := by go_simp
theorem cx16 (vs : Array Value) (w : World) : (callFunc 16 vs).run Try.prog w = .ok (.enter 16 vs) w := by go_simp
theorem cx17 (vs : Array Value) (w : World) : (callFunc 17 vs).run Try.prog w = .ok (.enter 17 vs) w := by go_simp
theorem cx18 (vs : Array Value) (w : World) : (callFunc 18 vs).run Try.prog w = .ok (.enter 18 vs) w := by go_simp
theorem cx19 (vs : Array Value) (w : World) : (callFunc 19 vs).run Try.prog w = .ok (.enter 19 vs) w := by go_simp
theorem cx20 (vs : Array Value) (w : World) : (callFunc 20 vs).run Try.prog w = .ok (.enter 20 vs) w := by go_simp
theorem cx28 (vs : Array Value) (w : World) : (callFunc 28 vs).run Try.prog w = .ok (.enter 28 vs) w := by go_simp
theorem fldT0 (b : Nat) : ∀ w, (Instr.fieldAt 56 (.pointer (some ⟨b, 0, none⟩)) 0).run Try.prog w = .ok (.pointer (some ⟨b, 0, none⟩)) w := fun w => by go_simp
theorem fldT1 (b : Nat) : ∀ w, (Instr.fieldAt 56 (.pointer (some ⟨b, 0, none⟩)) 1).run Try.prog w = .ok (.pointer (some ⟨b, 17, none⟩)) w := fun w => by go_simp
theorem fldT2 (b : Nat) : ∀ w, (Instr.fieldAt 56 (.pointer (some ⟨b, 0, none⟩)) 2).run Try.prog w = .ok (.pointer (some ⟨b, 34, none⟩)) w := fun w => by go_simp
theorem fldT3 (b : Nat) : ∀ w, (Instr.fieldAt 56 (.pointer (some ⟨b, 0, none⟩)) 3).run Try.prog w = .ok (.pointer (some ⟨b, 51, none⟩)) w := fun w => by go_simp
theorem zv (k : IntKind) (m : Nat) : (ints k (zeros m)).length = m := il (zeros_len m)
theorem ua22 : Try.prog.underlying 22 = some (.array (Try.prog.arrayLen 22) (Try.prog.elem 22)) := by kernel_rfl
theorem ua25 : Try.prog.underlying 25 = some (.array (Try.prog.arrayLen 25) (Try.prog.elem 25)) := by kernel_rfl
theorem ua33 : Try.prog.underlying 33 = some (.array (Try.prog.arrayLen 33) (Try.prog.elem 33)) := by kernel_rfl
theorem ua41 : Try.prog.underlying 41 = some (.array (Try.prog.arrayLen 41) (Try.prog.elem 41)) := by kernel_rfl
theorem ua23 : Try.prog.underlying 23 = some (.slice (Try.prog.elem 23)) := by kernel_rfl
theorem ze22 : ∀ w, (sizeOf (Try.prog.elem 22)).run Try.prog w = .ok 1 w := fun w => by kernel_rfl
theorem ze25 : ∀ w, (sizeOf (Try.prog.elem 25)).run Try.prog w = .ok 1 w := fun w => by kernel_rfl
theorem ze33 : ∀ w, (sizeOf (Try.prog.elem 33)).run Try.prog w = .ok 1 w := fun w => by kernel_rfl
theorem ze41 : ∀ w, (sizeOf (Try.prog.elem 41)).run Try.prog w = .ok 1 w := fun w => by kernel_rfl
theorem ze23 : ∀ w, (sizeOf (Try.prog.elem 23)).run Try.prog w = .ok 1 w := fun w => by kernel_rfl
theorem eqt22 : Try.prog.underlying 22 = some (.array 17 5) ∧ Try.prog.underlying 5 = some (.int .u8) ∧ (Try.prog.info? 5).map (·.size) = some 1 ∧ Try.prog.eqGuardType Try.prog.depth 22 = false := ⟨by kernel_rfl, by kernel_rfl, by kernel_rfl, by kernel_rfl⟩
theorem eqt25 : Try.prog.underlying 25 = some (.array 17 5) ∧ Try.prog.underlying 5 = some (.int .u8) ∧ (Try.prog.info? 5).map (·.size) = some 1 ∧ Try.prog.eqGuardType Try.prog.depth 25 = false := ⟨by kernel_rfl, by kernel_rfl, by kernel_rfl, by kernel_rfl⟩
theorem eqt33 : Try.prog.underlying 33 = some (.array 16 5) ∧ Try.prog.underlying 5 = some (.int .u8) ∧ (Try.prog.info? 5).map (·.size) = some 1 ∧ Try.prog.eqGuardType Try.prog.depth 33 = false := ⟨by kernel_rfl, by kernel_rfl, by kernel_rfl, by kernel_rfl⟩
theorem infSl : (Try.prog.info? 23).map (fun i => (i.zero, i.size)) = some (some (.slice none 0 0), 1) := by kernel_rfl
theorem infB : (Try.prog.info? 5).map (fun i => (i.zero, i.size)) = some (some (.int .u8 0), 1) := by kernel_rfl
theorem infB3 : (Try.prog.info? 5).map (fun i => (i.zero, i.size, i.bytes)) = some (some (.int .u8 0), 1, 1) := by kernel_rfl
theorem c_add {xs ys : List Int} (hl : xs.length = 17) (hl2 : ys.length = 17) (hb : Byt xs) (hb2 : Byt ys) : CallsTo 11 #[.agg (ints .u8 xs).toArray, .agg (ints .u8 ys).toArray] (.agg (ints .u8 (pb ((bn xs + bn ys) % PN))).toArray) := fun w => add_any xs ys w hl hl2 hb hb2
theorem c_mul {xs ys : List Int} (hl : xs.length = 17) (hl2 : ys.length = 17) (hb : Byt xs) (hb2 : Byt ys) : CallsTo 13 #[.agg (ints .u8 xs).toArray, .agg (ints .u8 ys).toArray] (.agg (ints .u8 (pb (bn xs * bn ys % PN))).toArray) := fun w => mul_any xs ys w hl hl2 hb hb2
theorem c_bytes {xs : List Int} (hl : xs.length = 17) (hb : Byt xs) : CallsTo 9 #[.agg (ints .u8 xs).toArray] (.agg (ints .u8 (pb (bn xs % PN))).toArray) := fun w => bytes_any xs w hl hb
theorem c_clamp {xs : List Int} (hl : xs.length = 16) (hb : Byt xs) : CallsTo 15 #[.agg (ints .u8 xs).toArray] (.agg (ints .u8 (clampL xs)).toArray) := fun w => clamp_any xs w hl hb
theorem c_low {xs ys : List Int} (hl : xs.length = 17) (hl2 : ys.length = 16) (hb : Byt xs) (hb2 : Byt ys) : CallsTo 28 #[.agg (ints .u8 xs).toArray, .agg (ints .u8 ys).toArray] (.agg (ints .u8 (lb (bn xs + bn ys))).toArray) := fun w => low_any xs ys w hl hl2 hb hb2
end Go.Proofs.Ythohfhloobmlpaa
