/- Texts laid together. -/
import Derived.Test.YthpibkpljakeeaaDoorG10
import Derived.Test.YthpibkpljakeeaaDoorPBaseM
import Derived.Test.YthpibkpljakeeaaDoorG8
namespace Go.Proofs.YthpibkpljakeeaaDoor
open Go Go.RowKit
def pt (x y z t : List Int) : List Int := x ++ (y ++ (z ++ t))
theorem inf28 : (Tryd.prog.info? 31).map (fun i => (i.zero, i.size)) = some (some (.agg (ints .i64 (zeros 64)).toArray), 64) := by kernel_rfl
theorem l28 {q : List Int} (h : q.length = 64) : (Tryd.prog.info? 31).map (·.size) = some (ints .i64 q).length := (siz inf28 h).1
theorem a28 {q : List Int} (h : q.length = 64) : (Tryd.prog.info? 31).map (·.size) = some (ints .i64 q).toArray.size := (siz inf28 h).2
theorem pt_len {x y z t : List Int} (hx : x.length = 16) (hy : y.length = 16) (hz : z.length = 16) (ht : t.length = 16) : (pt x y z t).length = 64 := by simp [pt, hx, hy, hz, ht]
theorem built28 {x y z t : List Int} (hx : x.length = 16) (hy : y.length = 16) (hz : z.length = 16) (ht : t.length = 16) : Tryd.prog.built 31 [(0, .agg (ints .i64 x).toArray), (1, .agg (ints .i64 y).toArray), (2, .agg (ints .i64 z).toArray), (3, .agg (ints .i64 t).toArray)] = some (ints .i64 (pt x y z t)).toArray := by
 obtain ⟨a0, a1, a2, a3, a4, a5, a6, a7, a8, a9, a10, a11, a12, a13, a14, a15, rfl⟩ := len16 hx
 obtain ⟨b0, b1, b2, b3, b4, b5, b6, b7, b8, b9, b10, b11, b12, b13, b14, b15, rfl⟩ := len16 hy
 obtain ⟨c0, c1, c2, c3, c4, c5, c6, c7, c8, c9, c10, c11, c12, c13, c14, c15, rfl⟩ := len16 hz
 obtain ⟨d0, d1, d2, d3, d4, d5, d6, d7, d8, d9, d10, d11, d12, d13, d14, d15, rfl⟩ := len16 ht
 kernel_rfl
theorem built28z : Tryd.prog.built 31 [] = some (ints .i64 (zeros 64)).toArray := by kernel_rfl
def B4 (w : World) (b : Nat) (l : List Int) : Prop := Arr w b 0 .i64 l ∧ l.length = 64
theorem Arr.cutL {w : World} {b o : Nat} {k : IntKind} {l m : List Int} (h : Arr w b o k (l ++ m)) : Arr w b o k l := fun i v hi => by
 have hl := (List.getElem?_eq_some_iff.1 hi).1
 exact h i v (by rw [List.getElem?_append_left hl]; exact hi)
theorem Arr.cutR {w : World} {b o o' : Nat} {k : IntKind} {l m : List Int} (h : Arr w b o k (l ++ m)) (e : o' = o + l.length) : Arr w b o' k m := fun i v hi => by
 have h1 := h (l.length + i) v (by rw [List.getElem?_append_right (by omega), Nat.add_sub_cancel_left]; exact hi)
 rwa [← Nat.add_assoc, ← e] at h1
section
variable {w w' : World} {b : Nat} {l x y z t : List Int}
theorem B4.lt (h : B4 w b l) : b < w.heap.size := h.1.lt (by rw [h.2]; omega)
theorem B4.next (h : B4 w b l) (hb : Below w.heap.size w w') : B4 w' b l := ⟨h.1.below hb h.lt, h.2⟩
theorem B4.range (h : B4 w b l) : w.rangeAt b 0 (ints .i64 l) := h.1.range
theorem B4.room (h : B4 w b l) {l' : List Int} (e : l'.length = 64) : w.there b 0 (ints .i64 l').toArray.size := h.1.room (by rw [e, h.2])
theorem B4.stored (h : B4 w b l) {l' : List Int} (e : l'.length = 64) : B4 (w.setCells b 0 (ints .i64 l').toArray.toList) b l' := ⟨h.1.stored (by rw [e, h.2]), e⟩
theorem B4.past (h : B4 w b l) {b' : Nat} (vs : List Value) (hb : b' ≠ b) : B4 (w.setCells b' 0 vs) b l := ⟨h.1.past vs (.inl hb), h.2⟩
theorem B4.new (w : World) (l : List Int) (h : l.length = 64) : B4 (w.alloc (.cells (ints .i64 l).toArray 31)) w.heap.size l := ⟨Arr.made w .i64 l 31, h⟩
theorem B4.p0 (h : B4 w b (pt x y z t)) : Arr w b 0 .i64 x := h.1.cutL
theorem B4.p1 (h : B4 w b (pt x y z t)) (hx : x.length = 16) : Arr w b 16 .i64 y := (h.1.cutR (by omega)).cutL
theorem B4.p2 (h : B4 w b (pt x y z t)) (hx : x.length = 16) (hy : y.length = 16) : Arr w b 32 .i64 z := ((h.1.cutR (o' := 16) (by omega)).cutR (by omega)).cutL
theorem B4.p3 (h : B4 w b (pt x y z t)) (hx : x.length = 16) (hy : y.length = 16) (hz : z.length = 16) : Arr w b 48 .i64 t := ((h.1.cutR (o' := 16) (by omega)).cutR (o' := 32) (by omega)).cutR (by omega)
end
theorem over_at0 {x m y : List Int} (hx : x.length = 16) (hy : y.length = 16) : over (x ++ m) 0 y = y ++ m := by simp [over, hx, hy]
theorem over_app {x m y : List Int} {j j' : Nat} (e : j = x.length + j') : over (x ++ m) j y = x ++ over m j' y := by
 subst e
 unfold over
 rw [List.take_append, List.drop_append, List.take_of_length_le (by omega), List.drop_eq_nil_of_le (by omega : x.length ≤ x.length + j' + y.length), show x.length + j' - x.length = j' by omega, show x.length + j' + y.length - x.length = j' + y.length by omega]
 simp
section
variable {w : World} {b : Nat} {x y z t v : List Int}
theorem B4.put (h : B4 w b (pt x y z t)) {j : Nat} {l' : List Int} (hv : v.length = 16) (hj : j + 16 ≤ 64) (e : over (pt x y z t) j v = l') (hl : l'.length = 64) : B4 (w.setCells b j (ints .i64 v).toArray.toList) b l' := by
 have h1 := h.1.over (j := j) (ys := v) (by rw [h.2, hv]; omega)
 rw [e, Nat.zero_add] at h1
 exact ⟨by simpa using h1, hl⟩
theorem B4.put0 (h : B4 w b (pt x y z t)) (hx : x.length = 16) (hy : y.length = 16) (hz : z.length = 16) (ht : t.length = 16) (hv : v.length = 16) : B4 (w.setCells b 0 (ints .i64 v).toArray.toList) b (pt v y z t) :=
 h.put hv (by omega) (over_at0 hx hv) (pt_len hv hy hz ht)
theorem B4.put1 (h : B4 w b (pt x y z t)) (hx : x.length = 16) (hy : y.length = 16) (hz : z.length = 16) (ht : t.length = 16) (hv : v.length = 16) : B4 (w.setCells b 16 (ints .i64 v).toArray.toList) b (pt x v z t) :=
 h.put hv (by omega) (by unfold pt; rw [over_app (j' := 0) (by omega), over_at0 hy hv]) (pt_len hx hv hz ht)
theorem B4.put2 (h : B4 w b (pt x y z t)) (hx : x.length = 16) (hy : y.length = 16) (hz : z.length = 16) (ht : t.length = 16) (hv : v.length = 16) : B4 (w.setCells b 32 (ints .i64 v).toArray.toList) b (pt x y v t) :=
 h.put hv (by omega) (by unfold pt; rw [over_app (j' := 16) (by omega), over_app (j' := 0) (by omega), over_at0 hz hv]) (pt_len hx hy hv ht)
theorem B4.put3 (h : B4 w b (pt x y z t)) (hx : x.length = 16) (hy : y.length = 16) (hz : z.length = 16) (ht : t.length = 16) (hv : v.length = 16) : B4 (w.setCells b 48 (ints .i64 v).toArray.toList) b (pt x y z v) :=
 h.put hv (by omega) (by
   unfold pt
   rw [over_app (j' := 32) (by omega), over_app (j' := 16) (by omega), over_app (j' := 0) (by omega)]
   have e : over t 0 v = v := by simp [over, ht, hv]
   rw [e]) (pt_len hx hy hz hv)
end
def Lies (w : World) (g : Nat) (l : List Int) : Prop := g < w.heap.size ∧ ∀ i x, l[i]? = some x → w.cell? ⟨g, i, none⟩ = some (.int .u8 x)
theorem Lies.next {w w' : World} {g : Nat} {l : List Int} (h : Lies w g l) (hb : Below w.heap.size w w') : Lies w' g l :=
 ⟨Nat.lt_of_lt_of_le h.1 hb.size, fun i x hi => (World.cell?_of_block (a := ⟨g, i, none⟩) (hb.block g h.1)).trans (h.2 i x hi)⟩
theorem Lies.range {w : World} {g : Nat} {l : List Int} (h : Lies w g l) : w.rangeAt g 0 (ints .u8 l) := fun j v hv => by
 simp only [ints, List.getElem?_map, Option.map_eq_some_iff] at hv
 obtain ⟨x, hx, rfl⟩ := hv
 rw [Nat.zero_add]; exact h.2 j x hx
def BXL : List Int := [26, 213, 37, 143, 96, 45, 86, 201, 178, 167, 37, 149, 96, 199, 44, 105, 92, 220, 214, 253, 49, 226, 164, 192, 254, 83, 110, 205, 211, 54, 105, 33]
def BYL : List Int := [88, 102, 102, 102, 102, 102, 102, 102, 102, 102, 102, 102, 102, 102, 102, 102, 102, 102, 102, 102, 102, 102, 102, 102, 102, 102, 102, 102, 102, 102, 102, 102]
def DL : List Int := [163, 120, 89, 19, 202, 77, 235, 117, 171, 216, 65, 65, 77, 10, 112, 0, 152, 232, 121, 119, 121, 64, 199, 140, 115, 254, 111, 43, 238, 108, 3, 82]
theorem bxl_len : BXL.length = 32 := rfl
theorem byl_len : BYL.length = 32 := rfl
theorem dl_len : DL.length = 32 := rfl
theorem byt_dec {l : List Int} (h : l.all (fun v => decide (0 ≤ v ∧ v < 256)) = true) : Byt l := fun x hx => by
 have := List.all_eq_true.1 h x hx
 simpa using this
theorem bxl_byt : Byt BXL := byt_dec (by decide)
theorem byl_byt : Byt BYL := byt_dec (by decide)
theorem dl_byt : Byt DL := byt_dec (by decide)
theorem bxl_bn : bn BXL = bxN := by decide +kernel
theorem byl_bn : bn BYL = byN := by decide +kernel
theorem dl_bn : bn DL = dN := by decide +kernel
structure TabsP (w : World) : Prop where
 bx : Lies w 0 BXL
 bY : Lies w 1 BYL
 d : Lies w 2 DL
theorem TabsP.next {w w' : World} (h : TabsP w) (hb : Below w.heap.size w w') : TabsP w' := ⟨h.bx.next hb, h.bY.next hb, h.d.next hb⟩
theorem TabsP.alloc {w : World} (h : TabsP w) (ob : Obj) : TabsP (w.alloc ob) := h.next (below_new w ob)
def CallsP (f : FuncId) (args : Array Value) (v : Value) : Prop := ∀ w, TabsP w → Calls Tryd.prog f args w fun e w' => e = .returned v ∧ Below w.heap.size w w'
def IsZ4 (base : Nat) : Value → World → Prop := fun v w => ∃ b, v = .pointer (some ⟨b, 0, none⟩) ∧ base ≤ b ∧ B4 w b (zeros 64)
theorem IsZ4.grows (base : Nat) : Grows (IsZ4 base) := fun _ _ _ ⟨b, h1, h0, h2⟩ hb => ⟨b, h1, h0, h2.next hb⟩
section
variable {ops : Array Oper} {md : Region.Mode} {W : World} {a0 : Act} {n : Nat} {al : Nat → Bool} {S : Nat → Value → World → Prop} {Q : Exit → Act → World → Prop} {i : Nat} {o : Oper} {b : Nat} {l : List Int}
theorem alloc28 (ev : Operand → Value) (o : Oper) (ho : o.op = .alloc 31) (w : World) : (execOp ev o).run Tryd.prog w = .ok (.value (.pointer (some ⟨w.heap.size, 0, none⟩))) (w.alloc (.cells (ints .i64 (zeros 64)).toArray 31)) := by
 obtain ⟨z, s⟩ := zero_of_info inf28
 generalize zeros 64 = zs at *
 unfold execOp
 simp only [ho]
 go_simp
theorem step_alloc28 (hg : GuardOn ops md n S i o) (ho : o.op = .alloc 31) (hS : S i = IsZ4 W.heap.size) : StepOk Tryd.prog ops md W a0 n al S Q i o :=
 step_alloc hg (fun ev w => alloc28 ev o ho w) fun w hw => by rw [hS]; exact ⟨w.heap.size, rfl, Below.size hw, B4.new w _ (zeros_len 64)⟩
theorem step_pt (hal : al i = false) (hg : GuardOn ops md n S i o) (h : B4 W b l) (t : Tmp) (ho : o.op = .load 31 (.tmp t)) (hB : notDst ops n t = true) (hx : a0.eval (.tmp t) = .pointer (some ⟨b, 0, none⟩)) (hS : S i = Is (.agg (ints .i64 l).toArray)) : StepOk Tryd.prog ops md W a0 n al S Q i o :=
 step_run hal hg fun a w hw hf _ => ⟨_, ex_load 31 (.tmp t) ho b 0 ((eval_out hf t hB).trans hx) (ints .i64 l) _ (h.next hw).range Tryd.underlying31 rfl (l28 h.2), by rw [hS]; exact rfl⟩
theorem step_glob (hal : al i = false) (hg : GuardOn ops md n S i o) {g : Nat} (h : Lies W g l) (hl : l.length = 32) (ho : o.op = .load 22 (.global g)) (he : ∀ a : Act, a.eval (.global g) = .pointer (some ⟨g, 0, none⟩)) (hS : S i = Is (.agg (ints .u8 l).toArray)) : StepOk Tryd.prog ops md W a0 n al S Q i o :=
 step_run hal hg fun a w hw _ _ => ⟨_, ex_load 22 (.global g) ho g 0 (he a) (ints .u8 l) _ (h.next hw).range Tryd.underlying22 rfl (l22 hl), by rw [hS]; exact rfl⟩
theorem step_fp0 (hal : al i = false) (hg : GuardOn ops md n S i o) {x : Operand} (ho : o.op = .fieldAddr 31 x 0) (hS : S i = Is (.pointer (some ⟨b, 0, none⟩))) (hk : Knows ops md W a0 n S i x (.pointer (some ⟨b, 0, none⟩))) : StepOk Tryd.prog ops md W a0 n al S Q i o :=
 step_run hal hg fun a w hw hf hd => ⟨.pointer (some ⟨b, 0, none⟩), by
   have h := hk a w hw hf hd
   revert h
   generalize a.eval = ev
   intro h
   unfold execOp
   simp only [ho, h]
   go_simp, by rw [hS]; exact rfl⟩
theorem step_fp1 (hal : al i = false) (hg : GuardOn ops md n S i o) {x : Operand} (ho : o.op = .fieldAddr 31 x 1) (hS : S i = Is (.pointer (some ⟨b, 16, none⟩))) (hk : Knows ops md W a0 n S i x (.pointer (some ⟨b, 0, none⟩))) : StepOk Tryd.prog ops md W a0 n al S Q i o :=
 step_run hal hg fun a w hw hf hd => ⟨.pointer (some ⟨b, 16, none⟩), by
   have h := hk a w hw hf hd
   revert h
   generalize a.eval = ev
   intro h
   unfold execOp
   simp only [ho, h]
   go_simp, by rw [hS]; exact rfl⟩
theorem step_fp2 (hal : al i = false) (hg : GuardOn ops md n S i o) {x : Operand} (ho : o.op = .fieldAddr 31 x 2) (hS : S i = Is (.pointer (some ⟨b, 32, none⟩))) (hk : Knows ops md W a0 n S i x (.pointer (some ⟨b, 0, none⟩))) : StepOk Tryd.prog ops md W a0 n al S Q i o :=
 step_run hal hg fun a w hw hf hd => ⟨.pointer (some ⟨b, 32, none⟩), by
   have h := hk a w hw hf hd
   revert h
   generalize a.eval = ev
   intro h
   unfold execOp
   simp only [ho, h]
   go_simp, by rw [hS]; exact rfl⟩
theorem step_fp3 (hal : al i = false) (hg : GuardOn ops md n S i o) {x : Operand} (ho : o.op = .fieldAddr 31 x 3) (hS : S i = Is (.pointer (some ⟨b, 48, none⟩))) (hk : Knows ops md W a0 n S i x (.pointer (some ⟨b, 0, none⟩))) : StepOk Tryd.prog ops md W a0 n al S Q i o :=
 step_run hal hg fun a w hw hf hd => ⟨.pointer (some ⟨b, 48, none⟩), by
   have h := hk a w hw hf hd
   revert h
   generalize a.eval = ev
   intro h
   unfold execOp
   simp only [ho, h]
   go_simp, by rw [hS]; exact rfl⟩
theorem step_make28 (hal : al i = false) (hg : GuardOn ops md n S i o) {x y z t : Operand} {u v p q : List Int} (ho : o.op = .build 31 #[(0, x), (1, y), (2, z), (3, t)]) (hu : u.length = 16) (hv : v.length = 16) (hp : p.length = 16) (hq : q.length = 16) (hS : S i = Is (.agg (ints .i64 (pt u v p q)).toArray)) (hx : Knows ops md W a0 n S i x (.agg (ints .i64 u).toArray)) (hy : Knows ops md W a0 n S i y (.agg (ints .i64 v).toArray)) (hz : Knows ops md W a0 n S i z (.agg (ints .i64 p).toArray)) (ht : Knows ops md W a0 n S i t (.agg (ints .i64 q).toArray)) : StepOk Tryd.prog ops md W a0 n al S Q i o :=
 step_run hal hg fun a w hw hf hd => ⟨.agg (ints .i64 (pt u v p q)).toArray, by
   have h1 := hx a w hw hf hd
   have h2 := hy a w hw hf hd
   have h3 := hz a w hw hf hd
   have h4 := ht a w hw hf hd
   revert h1 h2 h3 h4
   generalize a.eval = ev
   intro h1 h2 h3 h4
   have h := run_build (P := Tryd.prog) w 31 #[(0, ev x), (1, ev y), (2, ev z), (3, ev t)] _ (by rw [h1, h2, h3, h4]; exact built28 hu hv hp hq)
   unfold execOp
   simp only [ho, Sem.run_bind]
   simp only [List.map_toArray, List.map_cons, List.map_nil, h, Result.andThen_ok, Sem.run_pure], by rw [hS]; exact rfl⟩
theorem step_none28 (hal : al i = false) (hg : GuardOn ops md n S i o) (ho : o.op = .build 31 #[]) (hS : S i = Is (.agg (ints .i64 (zeros 64)).toArray)) : StepOk Tryd.prog ops md W a0 n al S Q i o :=
 step_run hal hg fun a w hw hf hd => ⟨.agg (ints .i64 (zeros 64)).toArray, by
   generalize a.eval = ev
   have h := run_build (P := Tryd.prog) w 31 #[] _ built28z
   unfold execOp
   simp only [ho, Sem.run_bind]
   simp only [List.map_toArray, List.map_nil, h, Result.andThen_ok, Sem.run_pure], by rw [hS]; exact rfl⟩
theorem step_toP (hal : al i = false) (hg : GuardOn ops md n S i o) {f : FuncId} {xs : Array Operand} {ts : Array TypeId} {vs : Array Value} {v : Value} (ho : o.op = .call { callee := .value (.func f), args := xs, argTypes := ts }) (hcf : ∀ vs w, (callFunc f vs).run Tryd.prog w = .ok (.enter f vs) w)
   (hT : TabsP W) (hc : CallsP f vs v) (hS : S i = Is v) (hv : ∀ (a : Act) (w : World), Cl W w → Fr ops n a0 a → Dp ops md n S i a w → xs.map a.eval = vs) : StepOk Tryd.prog ops md W a0 n al S Q i o :=
 step_call hal hg fun a w hw hf hd => ⟨f, vs, ex_fn rfl hcf ho vs (hv a w hw hf hd) w, (hc w (hT.next hw)).mono fun _ _ ⟨he, hb⟩ => ⟨v, he, by rw [hS]; exact rfl, hb⟩⟩
theorem no_args : ∀ (a : Act) (w : World), Cl W w → Fr ops n a0 a → Dp ops md n S i a w → (#[] : Array Operand).map a.eval = #[] := fun _ _ _ _ _ => by simp
end
theorem cg41 (vs : Array Value) (w : World) : (callFunc 27 vs).run Tryd.prog w = .ok (.enter 27 vs) w := by go_simp
theorem cg11 (vs : Array Value) (w : World) : (callFunc 13 vs).run Tryd.prog w = .ok (.enter 13 vs) w := by go_simp
theorem cg19 (vs : Array Value) (w : World) : (callFunc 40 vs).run Tryd.prog w = .ok (.enter 40 vs) w := by go_simp
theorem cg21 (vs : Array Value) (w : World) : (callFunc 35 vs).run Tryd.prog w = .ok (.enter 35 vs) w := by go_simp
theorem cg26 (vs : Array Value) (w : World) : (callFunc 11 vs).run Tryd.prog w = .ok (.enter 11 vs) w := by go_simp
theorem cg27 (vs : Array Value) (w : World) : (callFunc 12 vs).run Tryd.prog w = .ok (.enter 12 vs) w := by go_simp
theorem cg29 (vs : Array Value) (w : World) : (callFunc 48 vs).run Tryd.prog w = .ok (.enter 48 vs) w := by go_simp
theorem cg30 (vs : Array Value) (w : World) : (callFunc 10 vs).run Tryd.prog w = .ok (.enter 10 vs) w := by go_simp
theorem cg31 (vs : Array Value) (w : World) : (callFunc 38 vs).run Tryd.prog w = .ok (.enter 38 vs) w := by go_simp
theorem cg38 (vs : Array Value) (w : World) : (callFunc 24 vs).run Tryd.prog w = .ok (.enter 24 vs) w := by go_simp
theorem cg42 (vs : Array Value) (w : World) : (callFunc 28 vs).run Tryd.prog w = .ok (.enter 28 vs) w := by go_simp
theorem cg44 (vs : Array Value) (w : World) : (callFunc 47 vs).run Tryd.prog w = .ok (.enter 47 vs) w := by go_simp
theorem cg47 (vs : Array Value) (w : World) : (callFunc 45 vs).run Tryd.prog w = .ok (.enter 45 vs) w := by go_simp
theorem cg50 (vs : Array Value) (w : World) : (callFunc 46 vs).run Tryd.prog w = .ok (.enter 46 vs) w := by go_simp
theorem cg51 (vs : Array Value) (w : World) : (callFunc 49 vs).run Tryd.prog w = .ok (.enter 49 vs) w := by go_simp
theorem cg56 (vs : Array Value) (w : World) : (callFunc 36 vs).run Tryd.prog w = .ok (.enter 36 vs) w := by go_simp
theorem cg14 (vs : Array Value) (w : World) : (callFunc 29 vs).run Tryd.prog w = .ok (.enter 29 vs) w := by go_simp
theorem cg53 (vs : Array Value) (w : World) : (callFunc 71 vs).run Tryd.prog w = .ok (.enter 71 vs) w := by go_simp
@[reducible] def Nf (x : List Int) (a : Fin NT.PN) : Prop := Nm x a.val
theorem Nf.len {x : List Int} {a : Fin NT.PN} (h : Nf x a) : x.length = 16 := h.1.len
theorem iv_ex (a : Fin NT.PN) : ∃ b : Fin NT.PN, b.val = a.val ^ (NT.PN - 2) % NT.PN := ⟨⟨_, Nat.mod_lt _ pn_pos'⟩, rfl⟩
noncomputable def iv (a : Fin NT.PN) : Fin NT.PN := (iv_ex a).choose
theorem iv_val (a : Fin NT.PN) : (iv a).val = a.val ^ (NT.PN - 2) % NT.PN := (iv_ex a).choose_spec
theorem iv_mul {a : Fin NT.PN} (h : a ≠ 0) : a * iv a = 1 := by
 have hf := fermat_inv (fin_pos h) a.isLt
 rw [← iv_val] at hf
 have h1 := ph_one hf
 rw [ph_mul, ph_self, ph_self] at h1
 exact h1
section
variable {x y bs : List Int} {a b : Fin NT.PN}
theorem nf_add (h : Nf x a) (k : Nf y b) : ∃ v, CallsTo 44 #[.agg (ints .i64 x).toArray, .agg (ints .i64 y).toArray] (.agg (ints .i64 v).toArray) ∧ Nf v (a + b) := ⟨_, c_add h.1 k.1, h.add k⟩
theorem nf_mul (h : Nf x a) (k : Nf y b) : ∃ v, CallsTo 43 #[.agg (ints .i64 x).toArray, .agg (ints .i64 y).toArray] (.agg (ints .i64 v).toArray) ∧ Nf v (a * b) := ⟨_, c_mul h.1 k.1, h.mul k⟩
theorem sub_val (a b : Fin NT.PN) : (a.val + NT.PN - b.val) % NT.PN = (a - b).val := by
 have h := ph_sub (n := NT.PN) (a := a.val) (b := b.val) b.isLt
 rw [ph_self, ph_self] at h
 rw [← h]; rfl
theorem nf_sub (h : Nf x a) (k : Nf y b) : ∃ v, CallsTo 42 #[.agg (ints .i64 x).toArray, .agg (ints .i64 y).toArray] (.agg (ints .i64 v).toArray) ∧ Nf v (a - b) := ⟨_, c_sub h.1 k.1, by
 have := h.sub k
 rwa [sub_val] at this⟩
theorem nf_neg (h : Nf x a) : ∃ v, CallsTo 27 #[.agg (ints .i64 x).toArray] (.agg (ints .i64 v).toArray) ∧ Nf v (0 - a) := ⟨_, c_neg h.1, by
 have := h.neg
 rwa [show (0 : Nat) = (0 : Fin NT.PN).val from rfl, sub_val] at this⟩
theorem nf_inv (h : Nf x a) : ∃ v, CallsTo 50 #[.agg (ints .i64 x).toArray] (.agg (ints .i64 v).toArray) ∧ Nf v (iv a) := ⟨_, c_inv h.1, by
 have := h.inv
 rwa [← iv_val] at this⟩
theorem nf_zero : ∃ v, CallsTo 26 #[.int .i64 0] (.agg (ints .i64 v).toArray) ∧ Nf v 0 := ⟨_, c_small 0, Nm.small 0 (by decide)⟩
theorem nf_one : ∃ v, CallsTo 26 #[.int .i64 1] (.agg (ints .i64 v).toArray) ∧ Nf v 1 := ⟨_, c_small 1, Nm.small 1 (by decide)⟩
theorem nf_zeros : Nf (zeros 16) 0 := Nm.zeros
theorem ofL_is (hl : bs.length = 32) (hb : Byt bs) (h7 : bs.getD 31 0 < 128) : ofL bs = dgs bs := by
 have h1 := dgs_at bs (i := 15) (by omega)
 have e : (dgs bs).getD 15 0 = bs.getD 30 0 + 256 * bs.getD 31 0 := by rw [List.getD_eq_getElem?_getD, h1]; rfl
 have a1 := hb.at_ (i := 30) (x := bs.getD 30 0) (by rw [List.getD_eq_getElem?_getD, List.getElem?_eq_getElem (by omega)]; rfl)
 have a2 := hb.at_ (i := 31) (x := bs.getD 31 0) (by rw [List.getD_eq_getElem?_getD, List.getElem?_eq_getElem (by omega)]; rfl)
 unfold ofL
 rw [e, Int.emod_eq_of_lt (by omega) (by omega)]
 apply List.ext_getElem?
 intro i
 by_cases hi : 15 = i
 · subst hi
   rw [List.getElem?_set_self (by rw [dgs_length]; omega), h1]
 · rw [List.getElem?_set_ne hi]
theorem ofL_nm (hl : bs.length = 32) (hb : Byt bs) (h7 : bs.getD 31 0 < 128) : Nm (ofL bs) (bn bs % NT.PN) := by
 refine .mk (ofL_el hb) ?_
 rw [ofL_is hl hb h7, dgs_pr hl, pr_ev, Int.natCast_emod, pn_int, bn_int hb]
theorem nf_of (hl : bs.length = 32) (hb : Byt bs) (h7 : bs.getD 31 0 < 128) : ∃ v, CallsTo 22 #[.agg (ints .u8 bs).toArray] (.agg (ints .i64 v).toArray) ∧ Nf v (ph NT.PN (bn bs)) := ⟨_, c_of hl hb, ofL_nm hl hb h7⟩
theorem nf_equal (h : Nf x a) (k : Nf y b) : CallsTo 25 #[.agg (ints .i64 x).toArray, .agg (ints .i64 y).toArray] (.bool (decide (a = b))) := by
 have h1 := h.equal k
 rwa [decide_eq_decide.2 (Fin.val_inj (a := a) (b := b))] at h1
theorem nf_same (h : Nf x a) (k : Nf y b) (e : a = b) : CallsTo 25 #[.agg (ints .i64 x).toArray, .agg (ints .i64 y).toArray] (.bool true) := by
 have h1 := nf_equal h k
 rwa [decide_eq_true e] at h1
theorem nf_other (h : Nf x a) (k : Nf y b) (e : a ≠ b) : CallsTo 25 #[.agg (ints .i64 x).toArray, .agg (ints .i64 y).toArray] (.bool false) := by
 have h1 := nf_equal h k
 rwa [decide_eq_false e] at h1
end
def Pn (l : List Int) (c : C4 NT.PN) : Prop := ∃ x y z t, l = pt x y z t ∧ Nf x c.x ∧ Nf y c.y ∧ Nf z c.z ∧ Nf t c.t
theorem Pn.len {l : List Int} {c : C4 NT.PN} (h : Pn l c) : l.length = 64 := by
 obtain ⟨x, y, z, t, rfl, h1, h2, h3, h4⟩ := h
 exact pt_len h1.len h2.len h3.len h4.len
end Go.Proofs.YthpibkpljakeeaaDoor
