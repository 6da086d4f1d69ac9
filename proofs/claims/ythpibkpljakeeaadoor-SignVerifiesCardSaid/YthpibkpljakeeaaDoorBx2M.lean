import Derived.Test.YthpibkpljakeeaaDoorG2
import Derived.Test.YthpibkpljakeeaaDoorFloatM
namespace Go.Proofs.YthpibkpljakeeaaDoor
open Go.RowKit
section
variable {P : Program} {ops : Array Oper} {W : World} {Q : Act → Prop} {a : Act} {o : Oper} {rest : List Oper}
theorem qc_nil (h : Q a) : wpC P ops W Q [] a := h
theorem qc_read (v : Value) (hw : Region.wanted o (yielded ops a.tmps) = true) (hr : ∀ w, Cl W w → (execOp a.eval o).run P w = .ok (.value v) w) (h : wpC P ops W Q rest (a.put o.dst v)) : wpC P ops W Q (o :: rest) a :=
 ⟨v, fun _ hW' => .inl ⟨hw, fun w hw' => by unfold Oper.quietAt; rw [hr w (hW'.trans hw')]; exact ⟨rfl, rfl⟩⟩, h⟩
theorem qc_callB (v : Value) (f : FuncId) (args : Array Value) (hw : Region.wanted o (yielded ops a.tmps) = true) (hr : ∀ w, (execOp a.eval o).run P w = .ok (.enter f args) w)
   (hc : ∀ w, Calls P f args w fun e w' => e = .returned v ∧ Below w.heap.size w w') (h : wpC P ops W Q rest (a.put o.dst v)) : wpC P ops W Q (o :: rest) a :=
 ⟨v, fun _ _ => .inl ⟨hw, fun w hw' => by unfold Oper.quietAt; rw [hr]; exact ⟨rfl, (hc w).mono fun _ _ ⟨he, hb⟩ => ⟨he, hw'.next hb⟩⟩⟩, h⟩
end
section
variable {ops : Array Oper} {W : World} {Q : Act → Prop} {a : Act} {o : Oper} {rest : List Oper} {b : Nat} {l : List Int}
theorem qc_el (h : Bx W b l) (x : Operand) (hw : Region.wanted o (yielded ops a.tmps) = true) (ho : o.op = .load 29 x) (hx : a.eval x = .pointer (some ⟨b, 0, none⟩))
   (hk : wpC Tryd.prog ops W Q rest (a.put o.dst (.agg (ints .i64 l).toArray))) : wpC Tryd.prog ops W Q (o :: rest) a :=
 qc_read (.agg (ints .i64 l).toArray) hw (fun _ hw' => ex_load 29 x ho b 0 hx (ints .i64 l) _ (h.next hw').range Tryd.underlying29 rfl (l26 h.2)) hk
theorem qc_to {f : FuncId} {args : Array Value} {v : Value} (h : CallsTo f args v) (hw : Region.wanted o (yielded ops a.tmps) = true) (hr : ∀ w, (execOp a.eval o).run Tryd.prog w = .ok (.enter f args) w)
   (hk : wpC Tryd.prog ops W Q rest (a.put o.dst v)) : wpC Tryd.prog ops W Q (o :: rest) a := qc_callB v f args hw hr (fun w => h w) hk
end
theorem arr_of_block {w : World} {b : Nat} {k : IntKind} {xs : List Int} {T : TypeId} (h : w.heap[b]? = some (.cells (ints k xs).toArray T)) : Arr w b 0 k xs := fun i x hi => by
 rw [Nat.zero_add]
 unfold World.cell? World.frozen?
 simp [h, ints, hi]
def zob : Obj := .cells (ints .i64 (zeros 16)).toArray 29
theorem bx_of_block {w : World} {b : Nat} (h : w.heap[b]? = some zob) : Bx w b (zeros 16) := ⟨arr_of_block h, rfl⟩
theorem alloc26 (ev : Operand → Value) (o : Oper) (ho : o.op = .alloc 29) (w : World) : (execOp ev o).run Tryd.prog w = .ok (.value (.pointer (some ⟨w.heap.size, 0, none⟩))) (w.alloc zob) := by
 obtain ⟨z26, s26⟩ := zero_of_info inf26
 unfold execOp
 simp only [ho]
 go_simp
 rfl
def isAlloc (T : TypeId) (o : Oper) : Bool := match o.op with
 | .alloc t => t == T
 | _ => false
theorem isAlloc_op {T : TypeId} {o : Oper} (h : isAlloc T o = true) : o.op = .alloc T := by
 unfold isAlloc at h
 split at h
 · rename_i t ht
   rw [ht, show t = T by simpa using h]
 · cases h
def allocsB (T : TypeId) (ops : Array Oper) (As : List (Nat × Tmp)) : Bool := As.all fun x => match ops[x.1]? with
 | some o => isAlloc T o
 | none => false
theorem filterMap_some (l : List Oper) (ks : List Nat) (h : ks.all (fun k => decide (k < l.length)) = true) : (ks.map fun k => l.toArray[k]?) = (ks.filterMap fun k => l[k]?).map some := by
 induction ks with
 | nil => rfl
 | cons k ks ih =>
   simp only [List.all_cons, Bool.and_eq_true, decide_eq_true_eq] at h
   have e : l[k]? = some l[k] := by simp [h.1]
   rw [List.map_cons, List.filterMap_cons, ih h.2]
   simp [e]
def Tail26 (l : List Oper) (n : Nat) (As : List (Nat × Tmp)) (W : World) (Q : Exit → Act → World → Prop) (a' : Act) : Prop :=
 ∀ (B : Tmp → Nat) (w' : World), Cl W w' → (∀ x ∈ As, W.heap.size ≤ B x.2 ∧ Bx w' (B x.2) (zeros 16)) → (∀ x ∈ As, ∀ y ∈ As, B x.2 = B y.2 → x.2 = y.2) →
     wpList Tryd.prog l.toArray Q (l.drop n) (putAll ((As.map (·.2)).map fun d => (d, B d)) a') w'
theorem region_float26 {id : Nat} {Q : Exit → Act → World → Prop} {a : Act} {W : World} {l : List Oper} (n : Nat) (As : List (Nat × Tmp)) (ks : List Nat)
   (hB : floatF .any l.toArray n As ks = true) (hT : allocsB 29 l.toArray As = true) (hk : ks.all (fun k => decide (k < l.length)) = true)
   (h : wpC Tryd.prog l.toArray W (Tail26 l n As W Q) (ks.filterMap fun k => l[k]?) a) : (Code.region id l.toArray true).wp Tryd.prog Q a W := by
 refine region_float n As (fun _ => zob) ks _ (by kernel_rfl) hB (filterMap_some l ks hk) (fun x hx o ho ev w => ?_) ?_
 · have h1 := List.all_eq_true.1 hT x hx
   rw [ho] at h1
   exact alloc26 ev o (isAlloc_op h1) w
 · have mono : ∀ (Q1 Q2 : Act → Prop) (hQ : ∀ a, Q1 a → Q2 a) (hd : List Oper) (a : Act), wpC Tryd.prog l.toArray W Q1 hd a → wpC Tryd.prog l.toArray W Q2 hd a := by
     intro Q1 Q2 hQ hd
     induction hd with
     | nil => exact fun a h => hQ a h
     | cons o r ih => exact fun a ⟨v, h1, h2⟩ => ⟨v, h1, ih _ h2⟩
   refine mono _ _ (fun a' ha B w' hw hx hi => ha B w' hw (fun x hxm => ?_) hi) _ _ h
   obtain ⟨h1, _, h3⟩ := hx x hxm
   exact ⟨h1, bx_of_block h3⟩
end Go.Proofs.YthpibkpljakeeaaDoor
