/- Texts laid together. -/
import Derived.Test.YthpibkpljakeeaaGreatDoorG13
import Derived.Test.YthpibkpljakeeaaGreatDoorG7
import Derived.Test.YthpibkpljakeeaaGreatDoorSMathM
namespace Go.Proofs.YthpibkpljakeeaaGreatDoor
open Go Go.RowKit
def IsSl (v : Value) : Prop := ∃ A n c, v = .slice A n c
structure RB (w : World) (b : Nat) (vs : List Value) : Prop where
 len : vs.length = 3
 sl : ∀ v ∈ vs, IsSl v
 cells : ∀ i v, vs[i]? = some v → w.cell? ⟨b, i, none⟩ = some v ∧ w.frozen? ⟨b, i, none⟩ = false
 no : ∀ j k x, w.cell? ⟨b, j, none⟩ ≠ some (.int k x)
theorem sl_one {vs : List Value} (h : ∀ v ∈ vs, IsSl v) : vs.toArray.all (·.oneCell') = true := all_oneCell_toArray fun v hv => by
 obtain ⟨A, n, c, rfl⟩ := h v hv
 rfl
section
variable {w w' : World} {b : Nat} {vs : List Value}
theorem RB.lt (h : RB w b vs) : b < w.heap.size := by
 have hl := h.len
 exact World.block_lt_of_cell? w ⟨b, 0, none⟩ (h.cells 0 vs[0] (by simp [hl])).1
theorem RB.same (h : RB w b vs) (he : w'.heap[b]? = w.heap[b]?) : RB w' b vs := by
 obtain ⟨h1, h2, h3, h4⟩ := h
 refine ⟨h1, h2, fun i v hv => ?_, fun j k x => ?_⟩
 · have := h3 i v hv
   unfold World.cell? World.frozen? at *
   simp only [he]
   exact this
 · have := h4 j k x
   unfold World.cell? at *
   simp only [he]
   exact this
theorem RB.next (h : RB w b vs) (hb : Below w.heap.size w w') : RB w' b vs := h.same (hb.block b h.lt)
theorem RB.range (h : RB w b vs) : w.rangeAt b 0 vs := fun j v hv => by
 rw [Nat.zero_add]; exact (h.cells j v hv).1
theorem RB.there (h : RB w b vs) : w.there b 0 vs.length := fun j hj => by
 rw [Nat.zero_add]
 exact ⟨by rw [(h.cells j vs[j] (by simp [hj])).1]; rfl, (h.cells j vs[j] (by simp [hj])).2⟩
theorem RB.room (h : RB w b vs) {us : List Value} (e : us.length = 3) : w.there b 0 us.toArray.size := by
 have := h.there
 rw [h.len] at this
 simpa [e] using this
theorem RB.stored (h : RB w b vs) {us : List Value} (e : us.length = 3) (hs : ∀ v ∈ us, IsSl v) : RB (w.setCells b 0 us.toArray.toList) b us := by
 have hl := h.len
 have hth : ∀ q, q < us.length → (w.cell? ⟨b, 0 + q, none⟩).isSome = true := fun q hq => by
   rw [Nat.zero_add, (h.cells q vs[q] (by simp)).1]; rfl
 have e2 : us.toArray.toList = us := by simp
 rw [e2]
 refine ⟨e, hs, fun i v hv => ?_, fun j k x => ?_⟩
 · have hi := (List.getElem?_eq_some_iff.1 hv).1
   have h1 := World.cell?_setCells_in b us 0 w hth i hi
   rw [Nat.zero_add] at h1
   rw [World.frozen?_setCells]
   refine ⟨?_, (h.cells i vs[i] (by simp)).2⟩
   rw [h1]
   rw [List.getElem?_eq_getElem hi] at hv
   exact hv
 · by_cases hj : j < us.length
   · have h1 := World.cell?_setCells_in b us 0 w hth j hj
     rw [Nat.zero_add] at h1
     rw [h1]
     intro hx
     obtain ⟨A, n, c, hv⟩ := hs us[j] (List.getElem_mem hj)
     rw [hv] at hx
     cases hx
   · rw [World.cell?_setCells_out _ _ _ _ _ (fun _ _ => .inr (by show 0 + us.length ≤ j; omega))]
     exact h.no j k x
theorem RB.pastAt (h : RB w b vs) {b' : Nat} (o : Nat) (us : List Value) (hb : b' ≠ b) : RB (w.setCells b' o us) b vs :=
 h.same ((setCells_frame b' us o w).2.2.2.2 b (Ne.symm hb))
theorem RB.cell (h : RB w b vs) {p : Addr} {v : Value} (hp : p.block ≠ b) : RB (w.setCell p v) b vs :=
 h.same (Below.heap_setCell _ _ _ _ (Ne.symm hp))
theorem RB.new (w : World) (vs : List Value) (T : TypeId) (e : vs.length = 3) (hs : ∀ v ∈ vs, IsSl v) : RB (w.alloc (.cells vs.toArray T)) w.heap.size vs := by
 refine ⟨e, hs, fun i v hv => ⟨?_, World.frozen?_alloc_new w _ T i⟩, fun j k x => ?_⟩
 · rw [World.cell?_alloc_new]; simpa using hv
 · rw [World.cell?_alloc_new]
   intro hx
   have hm : (Value.int k x) ∈ vs := by
     have : vs[j]? = some (.int k x) := by simpa using hx
     exact List.mem_of_getElem? this
   obtain ⟨A, n, c, hv⟩ := hs _ hm
   cases hv
theorem RB.apart (h : RB w b vs) {k : IntKind} {A : Option Addr} {xs : List Int} (hA : Nums w k A xs) (hp : 0 < xs.length) : ∀ g o s, A = some ⟨g, o, s⟩ → b ≠ g := fun g o s e hbg => by
 obtain ⟨g2, off, e2, _, hc⟩ := hA hp
 rw [e] at e2
 injection e2 with e2
 injection e2 with e3 _ _
 subst e3
 subst hbg
 exact h.no _ _ _ (hc 0 hp)
theorem RB.row (h : RB w b vs) {A : Option Addr} {ys : List Nat} {m : Nat} (hy : Hid (Rp ys m)) (hA : Nums w .i64 A (nl ys)) (us : List Value) : Nums (w.setCells b 0 us) .i64 A (nl ys) :=
 nums_past hA us (h.apart hA (by rw [nl_length, hy.out.1]; omega))
end
def pv3 (A B C : Option Addr) (a b c : Nat) : List Value := [.slice A 16 a, .slice B 16 b, .slice C 16 c]
theorem pv3_sl (A B C : Option Addr) (a b c : Nat) : ∀ v ∈ pv3 A B C a b c, IsSl v := fun v hv => by
 simp only [pv3, List.mem_cons, List.not_mem_nil, or_false] at hv
 rcases hv with rfl | rfl | rfl <;> exact ⟨_, _, _, rfl⟩
def nil3 : List Value := [.slice none 0 0, .slice none 0 0, .slice none 0 0]
theorem nil3_sl : ∀ v ∈ nil3, IsSl v := fun v hv => by
 simp only [nil3, List.mem_cons, List.not_mem_nil, or_false] at hv
 rcases hv with rfl | rfl | rfl <;> exact ⟨_, _, _, rfl⟩
theorem inf47 : (Tryz.prog.info? 57).map (fun i => (i.zero, i.size)) = some (some (.agg nil3.toArray), 3) := by kernel_rfl
theorem l47 {q : List Value} (h : q.length = 3) : (Tryz.prog.info? 57).map (·.size) = some q.length := by
 have hi := inf47
 cases hc : Tryz.prog.info? 57 with
 | none => rw [hc] at hi; simp at hi
 | some i =>
   rw [hc] at hi
   simp only [Option.map_some, Option.some.injEq, Prod.mk.injEq] at hi
   simp [hi.2, h]
theorem a47 {q : List Value} (h : q.length = 3) : (Tryz.prog.info? 57).map (·.size) = some q.toArray.size := by
 have := l47 h
 simpa using this
theorem built47 (A B C : Option Addr) (a b c : Nat) : Tryz.prog.built 57 [(0, .slice A 16 a), (1, .slice B 16 b), (2, .slice C 16 c)] = some (pv3 A B C a b c).toArray := by kernel_rfl
def IsN (m : Nat) : Value → World → Prop := fun v w => ∃ A c ys, v = .slice A 16 c ∧ Hid (Rp ys m) ∧ Nums w .i64 A (nl ys)
theorem IsN.grows (m : Nat) : Grows (IsN m) := fun _ _ _ ⟨A, c, ys, h1, h2, h3⟩ hb => ⟨A, c, ys, h1, h2, h3.below hb⟩
def IsP (c : C3 NT.PN) : Value → World → Prop := fun v w => ∃ A B C a b d x y z, v = .agg (pv3 A B C a b d).toArray ∧ Hid (Rp x c.x.val) ∧ Hid (Rp y c.y.val) ∧ Hid (Rp z c.z.val) ∧ Nums w .i64 A (nl x) ∧ Nums w .i64 B (nl y) ∧ Nums w .i64 C (nl z)
theorem IsP.next {c : C3 NT.PN} {v : Value} {w w' : World} (h : IsP c v w) (hb : Below w.heap.size w w') : IsP c v w' := by
 obtain ⟨A, B, C, a, b, d, x, y, z, h0, h1, h2, h3, h4, h5, h6⟩ := h
 exact ⟨A, B, C, a, b, d, x, y, z, h0, h1, h2, h3, h4.below hb, h5.below hb, h6.below hb⟩
theorem IsP.grows (c : C3 NT.PN) : Grows (IsP c) := fun _ _ _ h hb => h.next hb
def IsZ47 (base : Nat) : Value → World → Prop := fun v w => ∃ b, v = .pointer (some ⟨b, 0, none⟩) ∧ base ≤ b ∧ RB w b nil3
section
variable {ops : Array Oper} {md : Region.Mode} {W : World} {a0 : Act} {n : Nat} {al : Nat → Bool} {S : Nat → Value → World → Prop} {Q : Exit → Act → World → Prop} {i : Nat} {o : Oper} {b : Nat} {vs : List Value}
theorem step_rb (hal : al i = false) (hg : GuardOn ops md n S i o) (h : RB W b vs) (t : Tmp) (ho : o.op = .load 57 (.tmp t)) (hB : notDst ops n t = true) (hx : a0.eval (.tmp t) = .pointer (some ⟨b, 0, none⟩)) (hS : S i = Is (.agg vs.toArray)) : StepOk Tryz.prog ops md W a0 n al S Q i o :=
 step_run hal hg fun a w hw hf _ => ⟨_, ex_load 57 (.tmp t) ho b 0 ((eval_out hf t hB).trans hx) vs _ (h.next hw).range Tryz.underlying57 rfl (l47 h.len), by rw [hS]; exact rfl⟩
theorem step_fr0 (hal : al i = false) (hg : GuardOn ops md n S i o) {x : Operand} (ho : o.op = .fieldAddr 57 x 0) (hS : S i = Is (.pointer (some ⟨b, 0, none⟩))) (hk : Knows ops md W a0 n S i x (.pointer (some ⟨b, 0, none⟩))) : StepOk Tryz.prog ops md W a0 n al S Q i o :=
 step_run hal hg fun a w hw hf hd => ⟨.pointer (some ⟨b, 0, none⟩), by
   have h := hk a w hw hf hd
   revert h
   generalize a.eval = ev
   intro h
   unfold execOp
   simp only [ho, h]
   go_simp, by rw [hS]; exact rfl⟩
theorem step_fr1 (hal : al i = false) (hg : GuardOn ops md n S i o) {x : Operand} (ho : o.op = .fieldAddr 57 x 1) (hS : S i = Is (.pointer (some ⟨b, 1, none⟩))) (hk : Knows ops md W a0 n S i x (.pointer (some ⟨b, 0, none⟩))) : StepOk Tryz.prog ops md W a0 n al S Q i o :=
 step_run hal hg fun a w hw hf hd => ⟨.pointer (some ⟨b, 1, none⟩), by
   have h := hk a w hw hf hd
   revert h
   generalize a.eval = ev
   intro h
   unfold execOp
   simp only [ho, h]
   go_simp, by rw [hS]; exact rfl⟩
theorem step_fr2 (hal : al i = false) (hg : GuardOn ops md n S i o) {x : Operand} (ho : o.op = .fieldAddr 57 x 2) (hS : S i = Is (.pointer (some ⟨b, 2, none⟩))) (hk : Knows ops md W a0 n S i x (.pointer (some ⟨b, 0, none⟩))) : StepOk Tryz.prog ops md W a0 n al S Q i o :=
 step_run hal hg fun a w hw hf hd => ⟨.pointer (some ⟨b, 2, none⟩), by
   have h := hk a w hw hf hd
   revert h
   generalize a.eval = ev
   intro h
   unfold execOp
   simp only [ho, h]
   go_simp, by rw [hS]; exact rfl⟩
theorem step_ld32 (hal : al i = false) (hg : GuardOn ops md n S i o) {x : Operand} {j : Nat} {A : Option Addr} {m c : Nat} (h : RB W b vs) (hv : vs[j]? = some (.slice A m c)) (ho : o.op = .load 55 x) (hS : S i = Is (.slice A m c)) (hx : Knows ops md W a0 n S i x (.pointer (some ⟨b, j, none⟩))) : StepOk Tryz.prog ops md W a0 n al S Q i o :=
 step_run hal hg fun a w hw hf hd => ⟨.slice A m c, by
   have h1 := hx a w hw hf hd
   have hc := ((h.next hw).cells j _ hv).1
   revert h1
   generalize a.eval = ev
   intro h1
   unfold execOp
   simp only [ho, h1]
   go_simp, by rw [hS]; exact rfl⟩
theorem step_make47 (hal : al i = false) (hg : GuardOn ops md n S i o) {x y z : Operand} {c : C3 NT.PN} (ho : o.op = .build 57 #[(0, x), (1, y), (2, z)]) (hS : S i = IsP c) (hx : KnowsR ops md W a0 n S i x c.x.val) (hy : KnowsR ops md W a0 n S i y c.y.val) (hz : KnowsR ops md W a0 n S i z c.z.val) : StepOk Tryz.prog ops md W a0 n al S Q i o :=
 step_run hal hg fun a w hw hf hd => by
   obtain ⟨A, ca, x1, h1, h2, h3⟩ := hx a w hw hf hd
   obtain ⟨B, cb, y1, k1, k2, k3⟩ := hy a w hw hf hd
   obtain ⟨C, cc, z1, j1, j2, j3⟩ := hz a w hw hf hd
   refine ⟨.agg (pv3 A B C ca cb cc).toArray, ?_, by rw [hS]; exact ⟨A, B, C, ca, cb, cc, x1, y1, z1, rfl, h2, k2, j2, h3, k3, j3⟩⟩
   revert h1 k1 j1
   generalize a.eval = ev
   intro h1 k1 j1
   have h := run_build (P := Tryz.prog) w 57 #[(0, ev x), (1, ev y), (2, ev z)] _ (by rw [h1, k1, j1]; exact built47 A B C ca cb cc)
   unfold execOp
   simp only [ho, Sem.run_bind]
   simp only [List.map_toArray, List.map_cons, List.map_nil, h, Result.andThen_ok, Sem.run_pure]
theorem knowsN_in (j d : Nat) {m : Nat} (hj : j < n) (hw : Region.waitsFor md ops i j = true) (hd : dstOf ops j = some d) (hS : S j = IsN m) : KnowsR ops md W a0 n S i (.tmp d) m := fun a w _ _ hdp => by
 have h := hdp j d hj hw hd
 rw [hS] at h
 obtain ⟨A, c, ys, h1, h2, h3⟩ := h
 exact ⟨A, c, ys, h1, h2.out, h3⟩
end
def RN (m : Nat) (w : World) (e : Ending) (w' : World) : Prop := ∃ A c ys, e = .returned (.slice A 16 c) ∧ Hid (Rp ys m) ∧ Nums w' .i64 A (nl ys) ∧ Below w.heap.size w w'
theorem ROut.rn {m : Nat} {w : World} {e : Ending} {w' : World} (h : ROut m w e w') : RN m w e w' := by
 obtain ⟨A, c, ys, he, hy, hN, hb⟩ := h
 exact ⟨A, c, ys, he, hy, hN.nums, hb⟩
section
variable {ops : Array Oper} {md : Region.Mode} {W : World} {a0 : Act} {n : Nat} {al : Nat → Bool} {S : Nat → Value → World → Prop} {Q : Exit → Act → World → Prop} {i : Nat} {o : Oper} {b : Nat} {vs : List Value}
theorem step_rn (hal : al i = false) (hg : GuardOn ops md n S i o) {f : FuncId} {xs : Array Operand} {ts : Array TypeId} {m : Nat} (ho : o.op = .call { callee := .value (.func f), args := xs, argTypes := ts }) (hcf : ∀ vs w, (callFunc f vs).run Tryz.prog w = .ok (.enter f vs) w)
   (hS : S i = IsN m) (hv : ∀ (a : Act) (w : World), Cl W w → Fr ops n a0 a → Dp ops md n S i a w → ∃ vs, xs.map a.eval = vs ∧ Calls Tryz.prog f vs w (RN m w)) : StepOk Tryz.prog ops md W a0 n al S Q i o :=
 step_call hal hg fun a w hw hf hd => by
   obtain ⟨vs, h1, h2⟩ := hv a w hw hf hd
   refine ⟨f, vs, ex_fn rfl hcf ho vs h1 w, h2.mono fun _ w' ⟨A, c, ys, he, hy, hN, hb⟩ => ⟨_, he, ?_, hb⟩⟩
   rw [hS]
   exact ⟨A, c, ys, rfl, hy, hN⟩
theorem step_copyN (hal : al i = false) (hg : GuardOn ops md n S i o) (j d : Nat) {m : Nat} (ho : o.op = .move (.tmp d) ∨ o.op = .assign (.tmp d)) (hS : S i = IsN m) (hj : j < n) (hw : Region.waitsFor md ops i j = true) (hd : dstOf ops j = some d) (hSj : S j = IsN m) : StepOk Tryz.prog ops md W a0 n al S Q i o :=
 step_run hal hg fun a w _ _ hdp => ⟨a.eval (.tmp d), ex_copy ho w, by
   have h := hdp j d hj hw hd
   rw [hSj] at h
   rw [hS]; exact h⟩
theorem rn1 {f : FuncId} {x : Operand} {m r : Nat} (hx : KnowsR ops md W a0 n S i x m) (hc : ∀ {A : Option Addr} {cA : Nat} {a : List Nat} {w : World}, Rp a m → Nums w .i64 A (nl a) → Calls Tryz.prog f #[.slice A 16 cA] w (RN r w)) :
   ∀ (a : Act) (w : World), Cl W w → Fr ops n a0 a → Dp ops md n S i a w → ∃ vs, #[x].map a.eval = vs ∧ Calls Tryz.prog f vs w (RN r w) := fun a w hw hf hd => by
 obtain ⟨A, c, ys, h1, h2, h3⟩ := hx a w hw hf hd
 refine ⟨_, rfl, ?_⟩
 rw [map1, h1]
 exact hc h2 h3
theorem rn2 {f : FuncId} {x y : Operand} {m k r : Nat} (hx : KnowsR ops md W a0 n S i x m) (hy : KnowsR ops md W a0 n S i y k) (hc : ∀ {A B : Option Addr} {cA cB : Nat} {a b : List Nat} {w : World}, Rp a m → Rp b k → Nums w .i64 A (nl a) → Nums w .i64 B (nl b) → Calls Tryz.prog f #[.slice A 16 cA, .slice B 16 cB] w (RN r w)) :
   ∀ (a : Act) (w : World), Cl W w → Fr ops n a0 a → Dp ops md n S i a w → ∃ vs, #[x, y].map a.eval = vs ∧ Calls Tryz.prog f vs w (RN r w) := fun a w hw hf hd => by
 obtain ⟨A, c, ys, h1, h2, h3⟩ := hx a w hw hf hd
 obtain ⟨B, d, zs, k1, k2, k3⟩ := hy a w hw hf hd
 refine ⟨_, rfl, ?_⟩
 rw [map2, h1, k1]
 exact hc h2 k2 h3 k3
def KnowsP (ops : Array Oper) (md : Region.Mode) (W : World) (a0 : Act) (n : Nat) (S : Nat → Value → World → Prop) (i : Nat) (x : Operand) (c : C3 NT.PN) : Prop := ∀ (a : Act) (w : World), Cl W w → Fr ops n a0 a → Dp ops md n S i a w → IsP c (a.eval x) w
theorem knowsP_in (j d : Nat) {c : C3 NT.PN} (hj : j < n) (hw : Region.waitsFor md ops i j = true) (hd : dstOf ops j = some d) (hS : S j = IsP c) : KnowsP ops md W a0 n S i (.tmp d) c := fun a w _ _ hdp => by
 have h := hdp j d hj hw hd
 rw [hS] at h
 exact h
theorem Knows.p {x : Operand} {c : C3 NT.PN} {v : Value} (h : Knows ops md W a0 n S i x v) (hP : IsP c v W) : KnowsP ops md W a0 n S i x c := fun a w hw hf hd => by
 rw [h a w hw hf hd]; exact hP.next hw
end
section
variable {A B : Option Addr} {cA cB : Nat} {x y : List Nat} {w : World} {a b : Fin NT.PN}
theorem rf_add (hx : Rp x a.val) (hy : Rp y b.val) (hA : Nums w .i64 A (nl x)) (hB : Nums w .i64 B (nl y)) : Calls Tryz.prog 90 #[.slice A 16 cA, .slice B 16 cB] w (RN (a + b).val w) := (radd_walk hx hy hA hB).mono fun _ _ h => h.rn
theorem rf_mul (hx : Rp x a.val) (hy : Rp y b.val) (hA : Nums w .i64 A (nl x)) (hB : Nums w .i64 B (nl y)) : Calls Tryz.prog 52 #[.slice A 16 cA, .slice B 16 cB] w (RN (a * b).val w) := (rmul_walk hx hy hA hB).mono fun _ _ h => h.rn
theorem rf_sub (hx : Rp x a.val) (hy : Rp y b.val) (hA : Nums w .i64 A (nl x)) (hB : Nums w .i64 B (nl y)) : Calls Tryz.prog 89 #[.slice A 16 cA, .slice B 16 cB] w (RN (a - b).val w) := by
 have h := rsub_walk (cA := cA) (cB := cB) hx hy a.isLt b.isLt hA hB
 rw [sub_val] at h
 exact h.mono fun _ _ h => h.rn
theorem rf_small (m : Nat) (hm : m < 65536) (w : World) : Calls Tryz.prog 56 #[.int .i64 (m : Int)] w (RN m w) := (rsmall_out m hm w).mono fun _ _ h => h.rn
theorem rf_p (w : World) : Calls Tryz.prog 87 #[] w (RN NT.PN w) := (rp_out w).mono fun _ _ h => h.rn
theorem rf_less {m k : Nat} (hx : Rp x m) (hy : Rp y k) (hle : k ≤ m) (hA : Nums w .i64 A (nl x)) (hB : Nums w .i64 B (nl y)) : Calls Tryz.prog 86 #[.slice A 16 cA, .slice B 16 cB] w (RN (m - k) w) := by
 refine (le_any A B cA cB 16 x y w hx.1 hy.1 (by omega) hx.2.1 hy.2.1 (by rw [hx.2.2, hy.2.2]; exact hle) hA hB).mono ?_
 rintro e w' ⟨A', c, ys, he, hys, hN, hb⟩
 exact ⟨A', c, ys, he, hid ⟨hys.out.1, hys.out.2.1, by rw [hys.out.2.2, hx.2.2, hy.2.2]⟩, hN.nums, hb⟩
theorem rf_pow {bs : List Int} (hx : Rp x a.val) (hl : bs.length = 32) (hb : Byt bs) (hA : Nums w .i64 A (nl x)) : Calls Tryz.prog 85 #[.slice A 16 cA, .agg (ints .u8 bs).toArray] w (RN (a.val ^ (bv bs).toNat % NT.PN) w) := (rpower_walk hx a.isLt hl hb hA).mono fun _ _ h => h.rn
end
set_option maxHeartbeats 16000000
set_option maxRecDepth 4000
open Go Go.RowKit
theorem cg15 (vs : Array Value) (w : World) : (callFunc 87 vs).run Tryz.prog w = .ok (.enter 87 vs) w := by go_simp
theorem inv_core {a : Fin NT.PN} {k : Nat} {Aa : Option Addr} {ca : Nat} {ya : List Nat} {w0 : World} (Ha : Hid (Rp ya a.val)) (Ma : Nums w0 .i64 Aa (nl ya))
   (k53 : ∀ {A B : Option Addr} {cA cB : Nat} {x y : List Nat} {w : World}, Rp x NT.PN → Rp y 2 → Nums w .i64 A (nl x) → Nums w .i64 B (nl y) → Calls Tryz.prog 86 #[.slice A 16 cA, .slice B 16 cB] w (RN k w))
   (k54 : ∀ {A : Option Addr} {cA : Nat} {x : List Nat} {w : World}, Rp x a.val → Nums w .i64 A (nl x) → Calls Tryz.prog 85 #[.slice A 16 cA, .agg (ints .u8 (rbytes k)).toArray] w (RN (iv a).val w)) : Calls Tryz.prog 51 #[.slice Aa 16 ca] w0 (RN (iv a).val w0) := by
 have hW := Below.refl w0.heap.size w0
 go_enter Tryz.func51, Tryz.ntmps51
 go_upto_region 1 with (fail)
 have s0 := hW.size
 refine rSeq 7 9 (fun _ => false) [Is (.slice Aa 16 ca), IsN NT.PN, IsN 2, IsN k, Is (.agg (ints .u8 (rbytes k)).toArray), IsN (iv a).val, IsN (iv a).val] [3, 4, 5, 6, 7, 8, 2] (gC (grows_cons (IsN.grows _) (grows_cons (IsN.grows _) (grows_cons (IsN.grows _) (gC (grows_cons (IsN.grows _) (grows_cons (IsN.grows _) grows_nil)))))))
   ⟨step_mv rfl (.inl rfl) rfl rfl (kO 0 rfl),
    step_rn rfl (.inl rfl) rfl cg15 rfl (fun a w hw hf hd => ⟨#[], by simp, rf_p w⟩),
    step_rn rfl (.inl rfl) rfl cf17 rfl (fun a w hw hf hd => ⟨_, rfl, by rw [map1]; exact rf_small 2 (by decide) w⟩),
    step_rn rfl (.inl rfl) rfl cg53 rfl (rn2 (knowsN_in 1 4 (by decide) (by kernel_rfl) rfl rfl) (knowsN_in 2 5 (by decide) (by kernel_rfl) rfl rfl) (fun h1 h2 h3 h4 => k53 h1 h2 h3 h4)),
    step_rbytes rfl (.inl rfl) rfl cf12 rfl (knowsN_in 3 6 (by decide) (by kernel_rfl) rfl rfl),
    step_rn rfl (.inl rfl) rfl cf26 rfl (fun a_ w hw hf hd => ⟨_, by rw [map2, (kI 0 3 rfl rfl) a_ w hw hf hd, (kI 4 7 rfl rfl) a_ w hw hf hd], k54 Ha.out (Ma.below hw)⟩),
    step_copyN rfl (.inl rfl) 5 8 (.inr rfl) rfl (by decide) (by kernel_rfl) rfl rfl, trivial⟩ ?_
 intro val w1 hw hS hap hla
 obtain ⟨A4, c4, y4, e4, H4, M4⟩ := hS 1 4 (by decide) rfl
 obtain ⟨A5, c5, y5, e5, H5, M5⟩ := hS 2 5 (by decide) rfl
 obtain ⟨A6, c6, y6, e6, H6, M6⟩ := hS 3 6 (by decide) rfl
 obtain ⟨A8, c8, y8, e8, H8, M8⟩ := hS 5 8 (by decide) rfl
 obtain ⟨A2, c2, y2, e2, H2, M2⟩ := hS 6 2 (by decide) rfl
 simp only [pA, pB, pC, pD, pE, Act.put, pG, pH, pI, eVal hS 0 3 rfl rfl, e4, e5, e6, eVal hS 4 7 rfl rfl, e8, e2]
 clear hS hap hla e4 e5 e6 e8 e2
 replace Ma := Ma.below hw
 replace hW := bT hW hw
 clear hw
 go_wp2_with (fail)
 go_ret
 exact ⟨A2, c2, y2, rfl, H2, M2, hW⟩
theorem pow_inv {a : Fin NT.PN} {k N : Nat} (hk : NT.PN - 2 = k) (h : k = N) : a.val ^ N % NT.PN = (iv a).val := by
 rw [iv_val, hk, h]
theorem rf_inv {a : Fin NT.PN} {A : Option Addr} {cA : Nat} {x : List Nat} {w : World} (hx : Rp x a.val) (hA : Nums w .i64 A (nl x)) : Calls Tryz.prog 51 #[.slice A 16 cA] w (RN (iv a).val w) := by
 obtain ⟨k, hk⟩ : ∃ k, NT.PN - 2 = k := ⟨_, rfl⟩
 have hkl : k < 65536 ^ 16 := by rw [← hk]; decide
 refine inv_core (k := k) (hid hx) hA (fun h1 h2 h3 h4 => ?_) (fun h1 h2 => ?_)
 · rw [← hk]
   exact rf_less h1 h2 (by decide) h3 h4
 · have e := pow_inv (a := a) hk (bn_rbytes hkl).symm
   rw [← e]
   exact rf_pow h1 (rbytes_length k) (rbytes_byt k) h2
def DA : List Nat := 56129 :: 1 :: List.replicate 14 0
def DB : List Nat := 56130 :: 1 :: List.replicate 14 0
theorem da_rp : Rp DA (121665 : Fin NT.PN).val := ⟨rfl, digs_dec (by decide), by decide⟩
theorem db_rp : Rp DB (121666 : Fin NT.PN).val := ⟨rfl, digs_dec (by decide), by decide⟩
theorem d_alg {n : Nat} [NeZero n] {d c e v : Fin n} (h : d * e = -c) (hv : e * v = 1) : 0 - c * v = d := by
 have h1 : d * (e * v) = -c * v := by rw [← h]; grind
 rw [hv] at h1
 clear h hv
 grind
theorem d_dec : dF * 121666 = -121665 := Fin.ext (by decide +kernel)
theorem ne_dec : (121666 : Fin NT.PN) ≠ 0 := fun h => by
 have := congrArg Fin.val h
 exact absurd this (by decide)
theorem dF_is : (0 : Fin NT.PN) - (121665 : Fin NT.PN) * iv 121666 = dF := d_alg d_dec (iv_mul ne_dec)
theorem rf_d (w00 : World) : Calls Tryz.prog 54 #[] w00 (RN dF.val w00) := by
 obtain ⟨z0, hz0⟩ : ∃ z, z = List.replicate 16 (0 : Nat) := ⟨_, rfl⟩
 have hmk : ∀ w : World, (Instr.makeSlice 55 (.int .i64 16) (.int .i64 16)).run Tryz.prog w = .ok (.slice (some ⟨w.heap.size, 0, none⟩) 16 16) (w.alloc (.cells (ints .i64 (nl z0)).toArray 3)) := by
   rw [hz0]; exact make28 16 (by omega)
 have HA1 := hid da_rp
 have HA2 := hid db_rp
 have E1 : Hid (((ints .i64 (nl z0)).set 0 (.int .i64 56129)).set 1 (.int .i64 1) = ints .i64 (nl DA)) := hid (by rw [hz0]; rfl)
 have E2 : Hid (((ints .i64 (nl z0)).set 0 (.int .i64 56130)).set 1 (.int .i64 1) = ints .i64 (nl DB)) := hid (by rw [hz0]; rfl)
 have hzl : (nl z0).length = 16 := by rw [hz0]; decide
 clear hz0
 go_enter Tryz.func54, Tryz.ntmps54
 go_upto_region 7 with (fail)
 rw [E1.out, E2.out]
 have M1 := ((Arr.made w00 .i64 (nl DA) 3).alloc (.cells (ints .i64 (nl DB)).toArray 3)).nums
 have M2 := (Arr.made (w00.alloc (.cells (ints .i64 (nl DA)).toArray 3)) .i64 (nl DB) 3).nums
 have hW := (below_new w00 (.cells (ints .i64 (nl DA)).toArray 3)).alloc (by simp) (.cells (ints .i64 (nl DB)).toArray 3)
 simp only [World.size_alloc] at M2
 clear hmk hzl E1 E2
 generalize (w00.alloc (.cells (ints .i64 (nl DA)).toArray 3)).alloc (.cells (ints .i64 (nl DB)).toArray 3) = w0 at *
 have s0 := hW.size
 refine rSeq 7 19 (fun _ => false) [IsN ((0 : Fin NT.PN)).val, Is (.slice (some ⟨w00.heap.size, 0, none⟩) 16 16), Is (.slice (some ⟨w00.heap.size + 1, 0, none⟩) 16 16), IsN ((iv (121666 : Fin NT.PN))).val, IsN (((121665 : Fin NT.PN) * (iv (121666 : Fin NT.PN)) : Fin NT.PN)).val, IsN (((0 : Fin NT.PN) - ((121665 : Fin NT.PN) * (iv (121666 : Fin NT.PN)) : Fin NT.PN) : Fin NT.PN)).val, IsN (((0 : Fin NT.PN) - ((121665 : Fin NT.PN) * (iv (121666 : Fin NT.PN)) : Fin NT.PN) : Fin NT.PN)).val] [13, 14, 15, 16, 17, 18, 0] (grows_cons (IsN.grows _) (gC (gC (grows_cons (IsN.grows _) (grows_cons (IsN.grows _) (grows_cons (IsN.grows _) (grows_cons (IsN.grows _) grows_nil)))))))
   ⟨step_rn rfl (.inl rfl) rfl cf17 rfl (fun a w hw hf hd => ⟨_, rfl, by rw [map1]; exact rf_small 0 (by decide) w⟩),
    step_mv rfl (.inl rfl) rfl rfl (kO 1 rfl),
    step_mv rfl (.inl rfl) rfl rfl (kO 2 rfl),
    step_rn rfl (.inl rfl) rfl cg19 rfl (rn1 ((kI 2 15 rfl rfl).r HA2 M2) (fun h1 h2 => rf_inv h1 h2)),
    step_rn rfl (.inl rfl) rfl cf23 rfl (rn2 ((kI 1 14 rfl rfl).r HA1 M1) (knowsN_in 3 16 (by decide) (by kernel_rfl) rfl rfl) (fun h1 h2 h3 h4 => rf_mul h1 h2 h3 h4)),
    step_rn rfl (.inl rfl) rfl cf21 rfl (rn2 (knowsN_in 0 13 (by decide) (by kernel_rfl) rfl rfl) (knowsN_in 4 17 (by decide) (by kernel_rfl) rfl rfl) (fun h1 h2 h3 h4 => rf_sub h1 h2 h3 h4)),
    step_copyN rfl (.inl rfl) 5 18 (.inr rfl) rfl (by decide) (by kernel_rfl) rfl rfl, trivial⟩ ?_
 intro val w1 hw hS hap hla
 obtain ⟨A13, c13, y13, e13, H13, M13⟩ := hS 0 13 (by decide) rfl
 obtain ⟨A16, c16, y16, e16, H16, M16⟩ := hS 3 16 (by decide) rfl
 obtain ⟨A17, c17, y17, e17, H17, M17⟩ := hS 4 17 (by decide) rfl
 obtain ⟨A18, c18, y18, e18, H18, M18⟩ := hS 5 18 (by decide) rfl
 obtain ⟨A0, c0, y0, e0, H0, M0⟩ := hS 6 0 (by decide) rfl
 simp only [pA, pB, pC, pD, pE, Act.put, pG, pH, pI, e13, eVal hS 1 14 rfl rfl, eVal hS 2 15 rfl rfl, e16, e17, e18, e0]
 clear hS hap hla e13 e16 e17 e18 e0
 replace M1 := M1.below hw
 replace M2 := M2.below hw
 replace hW := bT hW hw
 clear hw
 go_wp2_with (fail)
 go_ret
 rw [dF_is] at H0
 exact ⟨A0, c0, y0, rfl, H0, M0, hW⟩
set_option maxRecDepth 4000 in
set_option maxHeartbeats 16000000 in
theorem rf_of {a b : Fin NT.PN} {W : World} {Ap : Option Addr} {cp : Nat} {yp : List Nat} (Hp : Hid (Rp yp a.val)) (Mp : Nums W .i64 Ap (nl yp)) {Aq : Option Addr} {cq : Nat} {yq : List Nat} (Hq : Hid (Rp yq b.val)) (Mq : Nums W .i64 Aq (nl yq)) : Calls Tryz.prog 55 #[.slice Ap 16 cp, .slice Aq 16 cq] W (fun e w' => ∃ v, e = .returned v ∧ IsP ⟨a, b, 1⟩ v w' ∧ Below W.heap.size W w') := by
 obtain ⟨z47, s47⟩ := zero_of_info inf47
 have h4 := RB.new W nil3 57 rfl nil3_sl
 have hW := below_new W (.cells nil3.toArray 57)
 replace Mp := Mp.below hW
 replace Mq := Mq.below hW
 go_enter Tryz.func55, Tryz.ntmps55
 go_upto_region 1 with (fail)
 generalize W.alloc (.cells nil3.toArray 57) = w0 at *
 have s0 := hW.size
 refine rSeq 4 9 (fun _ => false) [Is (.slice Ap 16 cp), Is (.slice Aq 16 cq), IsN ((1 : Fin NT.PN)).val, IsP ⟨a, b, (1 : Fin NT.PN)⟩] [5, 6, 7, 8] (gC (gC (grows_cons (IsN.grows _) (grows_cons (IsP.grows _) grows_nil))))
   ⟨step_mv rfl (.inl rfl) rfl rfl (kO 0 rfl),
    step_mv rfl (.inl rfl) rfl rfl (kO 1 rfl),
    step_rn rfl (.inl rfl) rfl cf17 rfl (fun a w hw hf hd => ⟨_, rfl, by rw [map1]; exact rf_small 1 (by decide) w⟩),
    step_make47 (c := ⟨a, b, (1 : Fin NT.PN)⟩) rfl (.inl rfl) rfl rfl ((kI 0 5 rfl rfl).r Hp Mp) ((kI 1 6 rfl rfl).r Hq Mq) (knowsN_in 2 7 (by decide) (by kernel_rfl) rfl rfl), trivial⟩ ?_
 intro val w1 hw hS hap hla
 obtain ⟨A7, c7, y7, e7, H7, M7⟩ := hS 2 7 (by decide) rfl
 obtain ⟨A8, B8, C8, a8, b_8, d8, x8, y8, z8, e8, Hx8, Hy8, Hz8, Mx8, My8, Mz8⟩ := hS 3 8 (by decide) rfl
 simp only [pA, pB, pC, pD, pE, Act.put, pG, pH, pI, eVal hS 0 5 rfl rfl, eVal hS 1 6 rfl rfl, e7, e8]
 clear hS hap hla e7 e8
 replace h4 := h4.next hw
 replace Mp := Mp.below hw
 replace Mq := Mq.below hw
 replace hW := bT hW hw
 clear hw
 have R4 := h4.room (us := (pv3 A8 B8 C8 a8 b_8 d8)) rfl
 replace Mp := h4.row Hp Mp (pv3 A8 B8 C8 a8 b_8 d8).toArray.toList
 replace Mq := h4.row Hq Mq (pv3 A8 B8 C8 a8 b_8 d8).toArray.toList
 replace M7 := h4.row H7 M7 (pv3 A8 B8 C8 a8 b_8 d8).toArray.toList
 replace Mx8 := h4.row Hx8 Mx8 (pv3 A8 B8 C8 a8 b_8 d8).toArray.toList
 replace My8 := h4.row Hy8 My8 (pv3 A8 B8 C8 a8 b_8 d8).toArray.toList
 replace Mz8 := h4.row Hz8 Mz8 (pv3 A8 B8 C8 a8 b_8 d8).toArray.toList
 replace h4 := h4.stored (us := (pv3 A8 B8 C8 a8 b_8 d8)) rfl (pv3_sl _ _ _ _ _ _)
 replace hW := Below.setCells hW (g := W.heap.size) (by omega) 0 (pv3 A8 B8 C8 a8 b_8 d8).toArray.toList
 with_reducible refine wpList_store_mid (op := ⟨none, .store 57 (.tmp 4) (.tmp 8), _, _, _, _⟩) rfl 57 (.tmp 4) (.tmp 8) rfl W.heap.size 0 (pv3 A8 B8 C8 a8 b_8 d8).toArray rfl rfl R4 (a47 rfl) (sl_one (pv3_sl _ _ _ _ _ _)) ?_
 generalize (w1.setCells W.heap.size 0 (pv3 A8 B8 C8 a8 b_8 d8).toArray.toList) = w2 at *
 clear R4
 go_wp2_with (fail)
 exact ret_rows rfl W.heap.size 0 rfl (pv3 A8 B8 C8 a8 b_8 d8) _ h4.range Tryz.underlying57 rfl (l47 rfl) rfl ⟨_, rfl, ⟨_, _, _, _, _, _, x8, y8, z8, rfl, Hx8, Hy8, Hz8, Mx8, My8, Mz8⟩, hW⟩
set_option maxRecDepth 4000 in
set_option maxHeartbeats 16000000 in
theorem rf_padd {c c' : C3 NT.PN} {d : Fin NT.PN} {W : World} {Ap Bp Cp : Option Addr} {ap b_p dp : Nat} {xp yp zp : List Nat} (Hxp : Hid (Rp xp c.x.val)) (Hyp : Hid (Rp yp c.y.val)) (Hzp : Hid (Rp zp c.z.val)) (Mxp : Nums W .i64 Ap (nl xp)) (Myp : Nums W .i64 Bp (nl yp)) (Mzp : Nums W .i64 Cp (nl zp)) {Aq Bq Cq : Option Addr} {aq b_q dq : Nat} {xq yq zq : List Nat} (Hxq : Hid (Rp xq c'.x.val)) (Hyq : Hid (Rp yq c'.y.val)) (Hzq : Hid (Rp zq c'.z.val)) (Mxq : Nums W .i64 Aq (nl xq)) (Myq : Nums W .i64 Bq (nl yq)) (Mzq : Nums W .i64 Cq (nl zq)) {Ad : Option Addr} {cd : Nat} {yd : List Nat} (Hd : Hid (Rp yd d.val)) (Md : Nums W .i64 Ad (nl yd)) : Calls Tryz.prog 57 #[.agg (pv3 Ap Bp Cp ap b_p dp).toArray, .agg (pv3 Aq Bq Cq aq b_q dq).toArray, .slice Ad 16 cd] W (fun e w' => ∃ v, e = .returned v ∧ IsP (add3 d c c') v w' ∧ Below W.heap.size W w') := by
 obtain ⟨z47, s47⟩ := zero_of_info inf47
 have h3 := ((RB.new W (pv3 Ap Bp Cp ap b_p dp) 57 rfl (pv3_sl _ _ _ _ _ _)).next (below_new _ (.cells (pv3 Aq Bq Cq aq b_q dq).toArray 57))).next (below_new _ (.cells nil3.toArray 57))
 have h4 := (RB.new (W.alloc (.cells (pv3 Ap Bp Cp ap b_p dp).toArray 57)) (pv3 Aq Bq Cq aq b_q dq) 57 rfl (pv3_sl _ _ _ _ _ _)).next (below_new _ (.cells nil3.toArray 57))
 have h6 := RB.new ((W.alloc (.cells (pv3 Ap Bp Cp ap b_p dp).toArray 57)).alloc (.cells (pv3 Aq Bq Cq aq b_q dq).toArray 57)) nil3 57 rfl nil3_sl
 have hW := ((below_new W (.cells (pv3 Ap Bp Cp ap b_p dp).toArray 57)).alloc (by simp) (.cells (pv3 Aq Bq Cq aq b_q dq).toArray 57)).alloc (by simp; omega) (.cells nil3.toArray 57)
 simp only [World.size_alloc] at h4 h6
 replace Mxp := Mxp.below hW
 replace Myp := Myp.below hW
 replace Mzp := Mzp.below hW
 replace Mxq := Mxq.below hW
 replace Myq := Myq.below hW
 replace Mzq := Mzq.below hW
 replace Md := Md.below hW
 go_enter Tryz.func57, Tryz.ntmps57
 go_upto_region 1 with (fail)
 generalize ((W.alloc (.cells (pv3 Ap Bp Cp ap b_p dp).toArray 57)).alloc (.cells (pv3 Aq Bq Cq aq b_q dq).toArray 57)).alloc (.cells nil3.toArray 57) = w0 at *
 have s0 := hW.size
 refine rSeq 6 75 (fun _ => false) [Is (.pointer (some ⟨W.heap.size, 2, none⟩)), Is (.slice Cp 16 dp), Is (.pointer (some ⟨(W.heap.size + 1), 2, none⟩)), Is (.slice Cq 16 dq), IsN ((c.z * c'.z : Fin NT.PN)).val, IsN ((c.z * c'.z : Fin NT.PN)).val] [15, 16, 17, 18, 19, 7] (gC (gC (gC (gC (grows_cons (IsN.grows _) (grows_cons (IsN.grows _) grows_nil))))))
   ⟨step_fr2 rfl (.inl rfl) rfl rfl (kO 3 rfl),
    step_ld32 rfl (.inl rfl) h3 rfl rfl rfl (kI 0 15 rfl rfl),
    step_fr2 rfl (.inl rfl) rfl rfl (kO 4 rfl),
    step_ld32 rfl (.inl rfl) h4 rfl rfl rfl (kI 2 17 rfl rfl),
    step_rn rfl (.inl rfl) rfl cf23 rfl (rn2 ((kI 1 16 rfl rfl).r Hzp Mzp) ((kI 3 18 rfl rfl).r Hzq Mzq) (fun h1 h2 h3 h4 => rf_mul h1 h2 h3 h4)),
    step_copyN rfl (.inl rfl) 4 19 (.inr rfl) rfl (by decide) (by kernel_rfl) rfl rfl, trivial⟩ ?_
 intro val w1 hw hS hap hla
 have e15 := eVal hS 0 15 rfl rfl
 have e16 := eVal hS 1 16 rfl rfl
 have e17 := eVal hS 2 17 rfl rfl
 have e18 := eVal hS 3 18 rfl rfl
 obtain ⟨A19, c19, y19, e19, H19, M19⟩ := hS 4 19 (by decide) rfl
 obtain ⟨A7, c7, y7, e7, H7, M7⟩ := hS 5 7 (by decide) rfl
 simp only [pA, pB, pC, pD, pE, Act.put, pG, pH, pI, e15, e16, e17, e18, e19, e7]
 clear hS hap hla e15 e16 e17 e18 e19 e7 H19 M19
 replace h3 := h3.next hw
 replace h4 := h4.next hw
 replace h6 := h6.next hw
 replace Mxp := Mxp.below hw
 replace Myp := Myp.below hw
 replace Mzp := Mzp.below hw
 replace Mxq := Mxq.below hw
 replace Myq := Myq.below hw
 replace Mzq := Mzq.below hw
 replace Md := Md.below hw
 replace hW := bT hW hw
 clear hw
 go_upto_region 2 with (fail)
 have s1 := hW.size
 refine rSeq 4 75 (fun _ => false) [Is (.slice A7 16 c7), Is (.slice A7 16 c7), IsN (((c.z * c'.z : Fin NT.PN) * (c.z * c'.z : Fin NT.PN) : Fin NT.PN)).val, IsN (((c.z * c'.z : Fin NT.PN) * (c.z * c'.z : Fin NT.PN) : Fin NT.PN)).val] [20, 21, 22, 8] (gC (gC (grows_cons (IsN.grows _) (grows_cons (IsN.grows _) grows_nil))))
   ⟨step_mv rfl (.inl rfl) rfl rfl (kO 7 rfl),
    step_mv rfl (.inl rfl) rfl rfl (kO 7 rfl),
    step_rn rfl (.inl rfl) rfl cf23 rfl (rn2 ((kI 0 20 rfl rfl).r H7 M7) ((kI 1 21 rfl rfl).r H7 M7) (fun h1 h2 h3 h4 => rf_mul h1 h2 h3 h4)),
    step_copyN rfl (.inl rfl) 2 22 (.inr rfl) rfl (by decide) (by kernel_rfl) rfl rfl, trivial⟩ ?_
 intro val w2 hw hS hap hla
 have e20 := eVal hS 0 20 rfl rfl
 have e21 := eVal hS 1 21 rfl rfl
 obtain ⟨A22, c22, y22, e22, H22, M22⟩ := hS 2 22 (by decide) rfl
 obtain ⟨A8, c8, y8, e8, H8, M8⟩ := hS 3 8 (by decide) rfl
 simp only [pA, pB, pC, pD, pE, Act.put, pG, pH, pI, e20, e21, e22, e8]
 clear hS hap hla e20 e21 e22 e8 H22 M22
 replace h3 := h3.next hw
 replace h4 := h4.next hw
 replace h6 := h6.next hw
 replace Mxp := Mxp.below hw
 replace Myp := Myp.below hw
 replace Mzp := Mzp.below hw
 replace Mxq := Mxq.below hw
 replace Myq := Myq.below hw
 replace Mzq := Mzq.below hw
 replace Md := Md.below hw
 replace M7 := M7.below hw
 replace hW := bT hW hw
 clear hw
 go_upto_region 3 with (fail)
 have s2 := hW.size
 refine rSeq 6 75 (fun _ => false) [Is (.pointer (some ⟨W.heap.size, 0, none⟩)), Is (.slice Ap 16 ap), Is (.pointer (some ⟨(W.heap.size + 1), 0, none⟩)), Is (.slice Aq 16 aq), IsN ((c.x * c'.x : Fin NT.PN)).val, IsN ((c.x * c'.x : Fin NT.PN)).val] [23, 24, 25, 26, 27, 9] (gC (gC (gC (gC (grows_cons (IsN.grows _) (grows_cons (IsN.grows _) grows_nil))))))
   ⟨step_fr0 rfl (.inl rfl) rfl rfl (kO 3 rfl),
    step_ld32 rfl (.inl rfl) h3 rfl rfl rfl (kI 0 23 rfl rfl),
    step_fr0 rfl (.inl rfl) rfl rfl (kO 4 rfl),
    step_ld32 rfl (.inl rfl) h4 rfl rfl rfl (kI 2 25 rfl rfl),
    step_rn rfl (.inl rfl) rfl cf23 rfl (rn2 ((kI 1 24 rfl rfl).r Hxp Mxp) ((kI 3 26 rfl rfl).r Hxq Mxq) (fun h1 h2 h3 h4 => rf_mul h1 h2 h3 h4)),
    step_copyN rfl (.inl rfl) 4 27 (.inr rfl) rfl (by decide) (by kernel_rfl) rfl rfl, trivial⟩ ?_
 intro val w3 hw hS hap hla
 have e23 := eVal hS 0 23 rfl rfl
 have e24 := eVal hS 1 24 rfl rfl
 have e25 := eVal hS 2 25 rfl rfl
 have e26 := eVal hS 3 26 rfl rfl
 obtain ⟨A27, c27, y27, e27, H27, M27⟩ := hS 4 27 (by decide) rfl
 obtain ⟨A9, c9, y9, e9, H9, M9⟩ := hS 5 9 (by decide) rfl
 simp only [pA, pB, pC, pD, pE, Act.put, pG, pH, pI, e23, e24, e25, e26, e27, e9]
 clear hS hap hla e23 e24 e25 e26 e27 e9 H27 M27
 replace h3 := h3.next hw
 replace h4 := h4.next hw
 replace h6 := h6.next hw
 replace Mxp := Mxp.below hw
 replace Myp := Myp.below hw
 replace Mzp := Mzp.below hw
 replace Mxq := Mxq.below hw
 replace Myq := Myq.below hw
 replace Mzq := Mzq.below hw
 replace Md := Md.below hw
 replace M7 := M7.below hw
 replace M8 := M8.below hw
 replace hW := bT hW hw
 clear hw
 go_upto_region 4 with (fail)
 have s3 := hW.size
 refine rSeq 6 75 (fun _ => false) [Is (.pointer (some ⟨W.heap.size, 1, none⟩)), Is (.slice Bp 16 b_p), Is (.pointer (some ⟨(W.heap.size + 1), 1, none⟩)), Is (.slice Bq 16 b_q), IsN ((c.y * c'.y : Fin NT.PN)).val, IsN ((c.y * c'.y : Fin NT.PN)).val] [28, 29, 30, 31, 32, 10] (gC (gC (gC (gC (grows_cons (IsN.grows _) (grows_cons (IsN.grows _) grows_nil))))))
   ⟨step_fr1 rfl (.inl rfl) rfl rfl (kO 3 rfl),
    step_ld32 rfl (.inl rfl) h3 rfl rfl rfl (kI 0 28 rfl rfl),
    step_fr1 rfl (.inl rfl) rfl rfl (kO 4 rfl),
    step_ld32 rfl (.inl rfl) h4 rfl rfl rfl (kI 2 30 rfl rfl),
    step_rn rfl (.inl rfl) rfl cf23 rfl (rn2 ((kI 1 29 rfl rfl).r Hyp Myp) ((kI 3 31 rfl rfl).r Hyq Myq) (fun h1 h2 h3 h4 => rf_mul h1 h2 h3 h4)),
    step_copyN rfl (.inl rfl) 4 32 (.inr rfl) rfl (by decide) (by kernel_rfl) rfl rfl, trivial⟩ ?_
 intro val w4 hw hS hap hla
 have e28 := eVal hS 0 28 rfl rfl
 have e29 := eVal hS 1 29 rfl rfl
 have e30 := eVal hS 2 30 rfl rfl
 have e31 := eVal hS 3 31 rfl rfl
 obtain ⟨A32, c32, y32, e32, H32, M32⟩ := hS 4 32 (by decide) rfl
 obtain ⟨A10, c10, y10, e10, H10, M10⟩ := hS 5 10 (by decide) rfl
 simp only [pA, pB, pC, pD, pE, Act.put, pG, pH, pI, e28, e29, e30, e31, e32, e10]
 clear hS hap hla e28 e29 e30 e31 e32 e10 H32 M32
 replace h3 := h3.next hw
 replace h4 := h4.next hw
 replace h6 := h6.next hw
 replace Mxp := Mxp.below hw
 replace Myp := Myp.below hw
 replace Mzp := Mzp.below hw
 replace Mxq := Mxq.below hw
 replace Myq := Myq.below hw
 replace Mzq := Mzq.below hw
 replace Md := Md.below hw
 replace M7 := M7.below hw
 replace M8 := M8.below hw
 replace M9 := M9.below hw
 replace hW := bT hW hw
 clear hw
 go_upto_region 5 with (fail)
 have s4 := hW.size
 refine rSeq 6 75 (fun _ => false) [Is (.slice Ad 16 cd), Is (.slice A9 16 c9), Is (.slice A10 16 c10), IsN (((c.x * c'.x : Fin NT.PN) * (c.y * c'.y : Fin NT.PN) : Fin NT.PN)).val, IsN ((d * ((c.x * c'.x : Fin NT.PN) * (c.y * c'.y : Fin NT.PN) : Fin NT.PN) : Fin NT.PN)).val, IsN ((d * ((c.x * c'.x : Fin NT.PN) * (c.y * c'.y : Fin NT.PN) : Fin NT.PN) : Fin NT.PN)).val] [33, 34, 35, 36, 37, 11] (gC (gC (gC (grows_cons (IsN.grows _) (grows_cons (IsN.grows _) (grows_cons (IsN.grows _) grows_nil))))))
   ⟨step_mv rfl (.inl rfl) rfl rfl (kO 2 rfl),
    step_mv rfl (.inl rfl) rfl rfl (kO 9 rfl),
    step_mv rfl (.inl rfl) rfl rfl (kO 10 rfl),
    step_rn rfl (.inl rfl) rfl cf23 rfl (rn2 ((kI 1 34 rfl rfl).r H9 M9) ((kI 2 35 rfl rfl).r H10 M10) (fun h1 h2 h3 h4 => rf_mul h1 h2 h3 h4)),
    step_rn rfl (.inl rfl) rfl cf23 rfl (rn2 ((kI 0 33 rfl rfl).r Hd Md) (knowsN_in 3 36 (by decide) (by kernel_rfl) rfl rfl) (fun h1 h2 h3 h4 => rf_mul h1 h2 h3 h4)),
    step_copyN rfl (.inl rfl) 4 37 (.inr rfl) rfl (by decide) (by kernel_rfl) rfl rfl, trivial⟩ ?_
 intro val w5 hw hS hap hla
 have e33 := eVal hS 0 33 rfl rfl
 have e34 := eVal hS 1 34 rfl rfl
 have e35 := eVal hS 2 35 rfl rfl
 obtain ⟨A36, c36, y36, e36, H36, M36⟩ := hS 3 36 (by decide) rfl
 obtain ⟨A37, c37, y37, e37, H37, M37⟩ := hS 4 37 (by decide) rfl
 obtain ⟨A11, c11, y11, e11, H11, M11⟩ := hS 5 11 (by decide) rfl
 simp only [pA, pB, pC, pD, pE, Act.put, pG, pH, pI, e33, e34, e35, e36, e37, e11]
 clear hS hap hla e33 e34 e35 e36 e37 e11 H36 M36 H37 M37
 replace h3 := h3.next hw
 replace h4 := h4.next hw
 replace h6 := h6.next hw
 replace Mxp := Mxp.below hw
 replace Myp := Myp.below hw
 replace Mzp := Mzp.below hw
 replace Mxq := Mxq.below hw
 replace Myq := Myq.below hw
 replace Mzq := Mzq.below hw
 replace Md := Md.below hw
 replace M7 := M7.below hw
 replace M8 := M8.below hw
 replace M9 := M9.below hw
 replace M10 := M10.below hw
 replace hW := bT hW hw
 clear hw
 go_upto_region 6 with (fail)
 have s5 := hW.size
 refine rSeq 4 75 (fun _ => false) [Is (.slice A8 16 c8), Is (.slice A11 16 c11), IsN ((((c.z * c'.z : Fin NT.PN) * (c.z * c'.z : Fin NT.PN) : Fin NT.PN) - (d * ((c.x * c'.x : Fin NT.PN) * (c.y * c'.y : Fin NT.PN) : Fin NT.PN) : Fin NT.PN) : Fin NT.PN)).val, IsN ((((c.z * c'.z : Fin NT.PN) * (c.z * c'.z : Fin NT.PN) : Fin NT.PN) - (d * ((c.x * c'.x : Fin NT.PN) * (c.y * c'.y : Fin NT.PN) : Fin NT.PN) : Fin NT.PN) : Fin NT.PN)).val] [38, 39, 40, 12] (gC (gC (grows_cons (IsN.grows _) (grows_cons (IsN.grows _) grows_nil))))
   ⟨step_mv rfl (.inl rfl) rfl rfl (kO 8 rfl),
    step_mv rfl (.inl rfl) rfl rfl (kO 11 rfl),
    step_rn rfl (.inl rfl) rfl cf21 rfl (rn2 ((kI 0 38 rfl rfl).r H8 M8) ((kI 1 39 rfl rfl).r H11 M11) (fun h1 h2 h3 h4 => rf_sub h1 h2 h3 h4)),
    step_copyN rfl (.inl rfl) 2 40 (.inr rfl) rfl (by decide) (by kernel_rfl) rfl rfl, trivial⟩ ?_
 intro val w6 hw hS hap hla
 have e38 := eVal hS 0 38 rfl rfl
 have e39 := eVal hS 1 39 rfl rfl
 obtain ⟨A40, c40, y40, e40, H40, M40⟩ := hS 2 40 (by decide) rfl
 obtain ⟨A12, c12, y12, e12, H12, M12⟩ := hS 3 12 (by decide) rfl
 simp only [pA, pB, pC, pD, pE, Act.put, pG, pH, pI, e38, e39, e40, e12]
 clear hS hap hla e38 e39 e40 e12 H40 M40
 replace h3 := h3.next hw
 replace h4 := h4.next hw
 replace h6 := h6.next hw
 replace Mxp := Mxp.below hw
 replace Myp := Myp.below hw
 replace Mzp := Mzp.below hw
 replace Mxq := Mxq.below hw
 replace Myq := Myq.below hw
 replace Mzq := Mzq.below hw
 replace Md := Md.below hw
 replace M7 := M7.below hw
 replace M8 := M8.below hw
 replace M9 := M9.below hw
 replace M10 := M10.below hw
 replace M11 := M11.below hw
 replace hW := bT hW hw
 clear hw
 go_upto_region 7 with (fail)
 have s6 := hW.size
 refine rSeq 4 75 (fun _ => false) [Is (.slice A8 16 c8), Is (.slice A11 16 c11), IsN ((((c.z * c'.z : Fin NT.PN) * (c.z * c'.z : Fin NT.PN) : Fin NT.PN) + (d * ((c.x * c'.x : Fin NT.PN) * (c.y * c'.y : Fin NT.PN) : Fin NT.PN) : Fin NT.PN) : Fin NT.PN)).val, IsN ((((c.z * c'.z : Fin NT.PN) * (c.z * c'.z : Fin NT.PN) : Fin NT.PN) + (d * ((c.x * c'.x : Fin NT.PN) * (c.y * c'.y : Fin NT.PN) : Fin NT.PN) : Fin NT.PN) : Fin NT.PN)).val] [41, 42, 43, 13] (gC (gC (grows_cons (IsN.grows _) (grows_cons (IsN.grows _) grows_nil))))
   ⟨step_mv rfl (.inl rfl) rfl rfl (kO 8 rfl),
    step_mv rfl (.inl rfl) rfl rfl (kO 11 rfl),
    step_rn rfl (.inl rfl) rfl cf19 rfl (rn2 ((kI 0 41 rfl rfl).r H8 M8) ((kI 1 42 rfl rfl).r H11 M11) (fun h1 h2 h3 h4 => rf_add h1 h2 h3 h4)),
    step_copyN rfl (.inl rfl) 2 43 (.inr rfl) rfl (by decide) (by kernel_rfl) rfl rfl, trivial⟩ ?_
 intro val w7 hw hS hap hla
 have e41 := eVal hS 0 41 rfl rfl
 have e42 := eVal hS 1 42 rfl rfl
 obtain ⟨A43, c43, y43, e43, H43, M43⟩ := hS 2 43 (by decide) rfl
 obtain ⟨A13, c13, y13, e13, H13, M13⟩ := hS 3 13 (by decide) rfl
 simp only [pA, pB, pC, pD, pE, Act.put, pG, pH, pI, e41, e42, e43, e13]
 clear hS hap hla e41 e42 e43 e13 H43 M43
 replace h3 := h3.next hw
 replace h4 := h4.next hw
 replace h6 := h6.next hw
 replace Mxp := Mxp.below hw
 replace Myp := Myp.below hw
 replace Mzp := Mzp.below hw
 replace Mxq := Mxq.below hw
 replace Myq := Myq.below hw
 replace Mzq := Mzq.below hw
 replace Md := Md.below hw
 replace M7 := M7.below hw
 replace M8 := M8.below hw
 replace M9 := M9.below hw
 replace M10 := M10.below hw
 replace M11 := M11.below hw
 replace M12 := M12.below hw
 replace hW := bT hW hw
 clear hw
 go_wp2_with (fail)
 have s7 := hW.size
 refine rSpec 15 75 (fun _ => false) [Is (.pointer (some ⟨W.heap.size, 0, none⟩)), Is (.slice Ap 16 ap), Is (.pointer (some ⟨W.heap.size, 1, none⟩)), Is (.slice Bp 16 b_p), IsN ((c.x + c.y : Fin NT.PN)).val, Is (.pointer (some ⟨(W.heap.size + 1), 0, none⟩)), Is (.slice Aq 16 aq), Is (.pointer (some ⟨(W.heap.size + 1), 1, none⟩)), Is (.slice Bq 16 b_q), IsN ((c'.x + c'.y : Fin NT.PN)).val, IsN (((c.x + c.y : Fin NT.PN) * (c'.x + c'.y : Fin NT.PN) : Fin NT.PN)).val, Is (.slice A9 16 c9), IsN ((((c.x + c.y : Fin NT.PN) * (c'.x + c'.y : Fin NT.PN) : Fin NT.PN) - (c.x * c'.x : Fin NT.PN) : Fin NT.PN)).val, Is (.slice A10 16 c10), IsN (((((c.x + c.y : Fin NT.PN) * (c'.x + c'.y : Fin NT.PN) : Fin NT.PN) - (c.x * c'.x : Fin NT.PN) : Fin NT.PN) - (c.y * c'.y : Fin NT.PN) : Fin NT.PN)).val] [44, 45, 46, 47, 48, 49, 50, 51, 52, 53, 54, 55, 56, 57, 58] (gC (gC (gC (gC (grows_cons (IsN.grows _) (gC (gC (gC (gC (grows_cons (IsN.grows _) (grows_cons (IsN.grows _) (gC (grows_cons (IsN.grows _) (gC (grows_cons (IsN.grows _) grows_nil)))))))))))))))
   ⟨step_fr0 rfl (.inl rfl) rfl rfl (kO 3 rfl),
    step_ld32 rfl (.inl rfl) h3 rfl rfl rfl (kI 0 44 rfl rfl),
    step_fr1 rfl (.inl rfl) rfl rfl (kO 3 rfl),
    step_ld32 rfl (.inl rfl) h3 rfl rfl rfl (kI 2 46 rfl rfl),
    step_rn rfl (.inl rfl) rfl cf19 rfl (rn2 ((kI 1 45 rfl rfl).r Hxp Mxp) ((kI 3 47 rfl rfl).r Hyp Myp) (fun h1 h2 h3 h4 => rf_add h1 h2 h3 h4)),
    step_fr0 rfl (.inl rfl) rfl rfl (kO 4 rfl),
    step_ld32 rfl (.inl rfl) h4 rfl rfl rfl (kI 5 49 rfl rfl),
    step_fr1 rfl (.inl rfl) rfl rfl (kO 4 rfl),
    step_ld32 rfl (.inl rfl) h4 rfl rfl rfl (kI 7 51 rfl rfl),
    step_rn rfl (.inl rfl) rfl cf19 rfl (rn2 ((kI 6 50 rfl rfl).r Hxq Mxq) ((kI 8 52 rfl rfl).r Hyq Myq) (fun h1 h2 h3 h4 => rf_add h1 h2 h3 h4)),
    step_rn rfl (.inl rfl) rfl cf23 rfl (rn2 (knowsN_in 4 48 (by decide) (by kernel_rfl) rfl rfl) (knowsN_in 9 53 (by decide) (by kernel_rfl) rfl rfl) (fun h1 h2 h3 h4 => rf_mul h1 h2 h3 h4)),
    step_mv rfl (.inl rfl) rfl rfl (kO 9 rfl),
    step_rn rfl (.inl rfl) rfl cf21 rfl (rn2 (knowsN_in 10 54 (by decide) (by kernel_rfl) rfl rfl) ((kI 11 55 rfl rfl).r H9 M9) (fun h1 h2 h3 h4 => rf_sub h1 h2 h3 h4)),
    step_mv rfl (.inl rfl) rfl rfl (kO 10 rfl),
    step_rn rfl (.inl rfl) rfl cf21 rfl (rn2 (knowsN_in 12 56 (by decide) (by kernel_rfl) rfl rfl) ((kI 13 57 rfl rfl).r H10 M10) (fun h1 h2 h3 h4 => rf_sub h1 h2 h3 h4)), trivial⟩ ?_
 intro val w8 hw hS hap hla
 have e44 := eVal hS 0 44 rfl rfl
 have e45 := eVal hS 1 45 rfl rfl
 have e46 := eVal hS 2 46 rfl rfl
 have e47 := eVal hS 3 47 rfl rfl
 obtain ⟨A48, c48, y48, e48, H48, M48⟩ := hS 4 48 (by decide) rfl
 have e49 := eVal hS 5 49 rfl rfl
 have e50 := eVal hS 6 50 rfl rfl
 have e51 := eVal hS 7 51 rfl rfl
 have e52 := eVal hS 8 52 rfl rfl
 obtain ⟨A53, c53, y53, e53, H53, M53⟩ := hS 9 53 (by decide) rfl
 obtain ⟨A54, c54, y54, e54, H54, M54⟩ := hS 10 54 (by decide) rfl
 have e55 := eVal hS 11 55 rfl rfl
 obtain ⟨A56, c56, y56, e56, H56, M56⟩ := hS 12 56 (by decide) rfl
 have e57 := eVal hS 13 57 rfl rfl
 obtain ⟨A58, c58, y58, e58, H58, M58⟩ := hS 14 58 (by decide) rfl
 simp only [pA, pB, pC, pD, pE, Act.put, pG, pH, pI, e44, e45, e46, e47, e48, e49, e50, e51, e52, e53, e54, e55, e56, e57, e58]
 clear hS hap hla e44 e45 e46 e47 e48 e49 e50 e51 e52 e53 e54 e55 e56 e57 e58 H48 M48 H53 M53 H54 M54 H56 M56
 replace h3 := h3.next hw
 replace h4 := h4.next hw
 replace h6 := h6.next hw
 replace Mxp := Mxp.below hw
 replace Myp := Myp.below hw
 replace Mzp := Mzp.below hw
 replace Mxq := Mxq.below hw
 replace Myq := Myq.below hw
 replace Mzq := Mzq.below hw
 replace Md := Md.below hw
 replace M7 := M7.below hw
 replace M8 := M8.below hw
 replace M9 := M9.below hw
 replace M10 := M10.below hw
 replace M11 := M11.below hw
 replace M12 := M12.below hw
 replace M13 := M13.below hw
 replace hW := bT hW hw
 clear hw
 go_upto_region 9 with (fail)
 have s8 := hW.size
 refine rSeq 16 75 (fun _ => false) [Is (.slice A7 16 c7), Is (.slice A12 16 c12), Is (.slice A58 16 c58), IsN (((((c.z * c'.z : Fin NT.PN) * (c.z * c'.z : Fin NT.PN) : Fin NT.PN) - (d * ((c.x * c'.x : Fin NT.PN) * (c.y * c'.y : Fin NT.PN) : Fin NT.PN) : Fin NT.PN) : Fin NT.PN) * ((((c.x + c.y : Fin NT.PN) * (c'.x + c'.y : Fin NT.PN) : Fin NT.PN) - (c.x * c'.x : Fin NT.PN) : Fin NT.PN) - (c.y * c'.y : Fin NT.PN) : Fin NT.PN) : Fin NT.PN)).val, IsN (((c.z * c'.z : Fin NT.PN) * ((((c.z * c'.z : Fin NT.PN) * (c.z * c'.z : Fin NT.PN) : Fin NT.PN) - (d * ((c.x * c'.x : Fin NT.PN) * (c.y * c'.y : Fin NT.PN) : Fin NT.PN) : Fin NT.PN) : Fin NT.PN) * ((((c.x + c.y : Fin NT.PN) * (c'.x + c'.y : Fin NT.PN) : Fin NT.PN) - (c.x * c'.x : Fin NT.PN) : Fin NT.PN) - (c.y * c'.y : Fin NT.PN) : Fin NT.PN) : Fin NT.PN) : Fin NT.PN)).val, Is (.slice A7 16 c7), Is (.slice A13 16 c13), Is (.slice A10 16 c10), Is (.slice A9 16 c9), IsN (((c.y * c'.y : Fin NT.PN) + (c.x * c'.x : Fin NT.PN) : Fin NT.PN)).val, IsN (((((c.z * c'.z : Fin NT.PN) * (c.z * c'.z : Fin NT.PN) : Fin NT.PN) + (d * ((c.x * c'.x : Fin NT.PN) * (c.y * c'.y : Fin NT.PN) : Fin NT.PN) : Fin NT.PN) : Fin NT.PN) * ((c.y * c'.y : Fin NT.PN) + (c.x * c'.x : Fin NT.PN) : Fin NT.PN) : Fin NT.PN)).val, IsN (((c.z * c'.z : Fin NT.PN) * ((((c.z * c'.z : Fin NT.PN) * (c.z * c'.z : Fin NT.PN) : Fin NT.PN) + (d * ((c.x * c'.x : Fin NT.PN) * (c.y * c'.y : Fin NT.PN) : Fin NT.PN) : Fin NT.PN) : Fin NT.PN) * ((c.y * c'.y : Fin NT.PN) + (c.x * c'.x : Fin NT.PN) : Fin NT.PN) : Fin NT.PN) : Fin NT.PN)).val, Is (.slice A12 16 c12), Is (.slice A13 16 c13), IsN (((((c.z * c'.z : Fin NT.PN) * (c.z * c'.z : Fin NT.PN) : Fin NT.PN) - (d * ((c.x * c'.x : Fin NT.PN) * (c.y * c'.y : Fin NT.PN) : Fin NT.PN) : Fin NT.PN) : Fin NT.PN) * (((c.z * c'.z : Fin NT.PN) * (c.z * c'.z : Fin NT.PN) : Fin NT.PN) + (d * ((c.x * c'.x : Fin NT.PN) * (c.y * c'.y : Fin NT.PN) : Fin NT.PN) : Fin NT.PN) : Fin NT.PN) : Fin NT.PN)).val, IsP ⟨((c.z * c'.z : Fin NT.PN) * ((((c.z * c'.z : Fin NT.PN) * (c.z * c'.z : Fin NT.PN) : Fin NT.PN) - (d * ((c.x * c'.x : Fin NT.PN) * (c.y * c'.y : Fin NT.PN) : Fin NT.PN) : Fin NT.PN) : Fin NT.PN) * ((((c.x + c.y : Fin NT.PN) * (c'.x + c'.y : Fin NT.PN) : Fin NT.PN) - (c.x * c'.x : Fin NT.PN) : Fin NT.PN) - (c.y * c'.y : Fin NT.PN) : Fin NT.PN) : Fin NT.PN) : Fin NT.PN), ((c.z * c'.z : Fin NT.PN) * ((((c.z * c'.z : Fin NT.PN) * (c.z * c'.z : Fin NT.PN) : Fin NT.PN) + (d * ((c.x * c'.x : Fin NT.PN) * (c.y * c'.y : Fin NT.PN) : Fin NT.PN) : Fin NT.PN) : Fin NT.PN) * ((c.y * c'.y : Fin NT.PN) + (c.x * c'.x : Fin NT.PN) : Fin NT.PN) : Fin NT.PN) : Fin NT.PN), ((((c.z * c'.z : Fin NT.PN) * (c.z * c'.z : Fin NT.PN) : Fin NT.PN) - (d * ((c.x * c'.x : Fin NT.PN) * (c.y * c'.y : Fin NT.PN) : Fin NT.PN) : Fin NT.PN) : Fin NT.PN) * (((c.z * c'.z : Fin NT.PN) * (c.z * c'.z : Fin NT.PN) : Fin NT.PN) + (d * ((c.x * c'.x : Fin NT.PN) * (c.y * c'.y : Fin NT.PN) : Fin NT.PN) : Fin NT.PN) : Fin NT.PN) : Fin NT.PN)⟩] [59, 60, 61, 62, 63, 64, 65, 66, 67, 68, 69, 70, 71, 72, 73, 74] (gC (gC (gC (grows_cons (IsN.grows _) (grows_cons (IsN.grows _) (gC (gC (gC (gC (grows_cons (IsN.grows _) (grows_cons (IsN.grows _) (grows_cons (IsN.grows _) (gC (gC (grows_cons (IsN.grows _) (grows_cons (IsP.grows _) grows_nil))))))))))))))))
   ⟨step_mv rfl (.inl rfl) rfl rfl (kO 7 rfl),
    step_mv rfl (.inl rfl) rfl rfl (kO 12 rfl),
    step_mv rfl (.inl rfl) rfl rfl (kO 14 rfl),
    step_rn rfl (.inl rfl) rfl cf23 rfl (rn2 ((kI 1 60 rfl rfl).r H12 M12) ((kI 2 61 rfl rfl).r H58 M58) (fun h1 h2 h3 h4 => rf_mul h1 h2 h3 h4)),
    step_rn rfl (.inl rfl) rfl cf23 rfl (rn2 ((kI 0 59 rfl rfl).r H7 M7) (knowsN_in 3 62 (by decide) (by kernel_rfl) rfl rfl) (fun h1 h2 h3 h4 => rf_mul h1 h2 h3 h4)),
    step_mv rfl (.inl rfl) rfl rfl (kO 7 rfl),
    step_mv rfl (.inl rfl) rfl rfl (kO 13 rfl),
    step_mv rfl (.inl rfl) rfl rfl (kO 10 rfl),
    step_mv rfl (.inl rfl) rfl rfl (kO 9 rfl),
    step_rn rfl (.inl rfl) rfl cf19 rfl (rn2 ((kI 7 66 rfl rfl).r H10 M10) ((kI 8 67 rfl rfl).r H9 M9) (fun h1 h2 h3 h4 => rf_add h1 h2 h3 h4)),
    step_rn rfl (.inl rfl) rfl cf23 rfl (rn2 ((kI 6 65 rfl rfl).r H13 M13) (knowsN_in 9 68 (by decide) (by kernel_rfl) rfl rfl) (fun h1 h2 h3 h4 => rf_mul h1 h2 h3 h4)),
    step_rn rfl (.inl rfl) rfl cf23 rfl (rn2 ((kI 5 64 rfl rfl).r H7 M7) (knowsN_in 10 69 (by decide) (by kernel_rfl) rfl rfl) (fun h1 h2 h3 h4 => rf_mul h1 h2 h3 h4)),
    step_mv rfl (.inl rfl) rfl rfl (kO 12 rfl),
    step_mv rfl (.inl rfl) rfl rfl (kO 13 rfl),
    step_rn rfl (.inl rfl) rfl cf23 rfl (rn2 ((kI 12 71 rfl rfl).r H12 M12) ((kI 13 72 rfl rfl).r H13 M13) (fun h1 h2 h3 h4 => rf_mul h1 h2 h3 h4)),
    step_make47 (c := ⟨((c.z * c'.z : Fin NT.PN) * ((((c.z * c'.z : Fin NT.PN) * (c.z * c'.z : Fin NT.PN) : Fin NT.PN) - (d * ((c.x * c'.x : Fin NT.PN) * (c.y * c'.y : Fin NT.PN) : Fin NT.PN) : Fin NT.PN) : Fin NT.PN) * ((((c.x + c.y : Fin NT.PN) * (c'.x + c'.y : Fin NT.PN) : Fin NT.PN) - (c.x * c'.x : Fin NT.PN) : Fin NT.PN) - (c.y * c'.y : Fin NT.PN) : Fin NT.PN) : Fin NT.PN) : Fin NT.PN), ((c.z * c'.z : Fin NT.PN) * ((((c.z * c'.z : Fin NT.PN) * (c.z * c'.z : Fin NT.PN) : Fin NT.PN) + (d * ((c.x * c'.x : Fin NT.PN) * (c.y * c'.y : Fin NT.PN) : Fin NT.PN) : Fin NT.PN) : Fin NT.PN) * ((c.y * c'.y : Fin NT.PN) + (c.x * c'.x : Fin NT.PN) : Fin NT.PN) : Fin NT.PN) : Fin NT.PN), ((((c.z * c'.z : Fin NT.PN) * (c.z * c'.z : Fin NT.PN) : Fin NT.PN) - (d * ((c.x * c'.x : Fin NT.PN) * (c.y * c'.y : Fin NT.PN) : Fin NT.PN) : Fin NT.PN) : Fin NT.PN) * (((c.z * c'.z : Fin NT.PN) * (c.z * c'.z : Fin NT.PN) : Fin NT.PN) + (d * ((c.x * c'.x : Fin NT.PN) * (c.y * c'.y : Fin NT.PN) : Fin NT.PN) : Fin NT.PN) : Fin NT.PN) : Fin NT.PN)⟩) rfl (.inl rfl) rfl rfl (knowsN_in 4 63 (by decide) (by kernel_rfl) rfl rfl) (knowsN_in 11 70 (by decide) (by kernel_rfl) rfl rfl) (knowsN_in 14 73 (by decide) (by kernel_rfl) rfl rfl), trivial⟩ ?_
 intro val w9 hw hS hap hla
 obtain ⟨A62, c62, y62, e62, H62, M62⟩ := hS 3 62 (by decide) rfl
 obtain ⟨A63, c63, y63, e63, H63, M63⟩ := hS 4 63 (by decide) rfl
 obtain ⟨A68, c68, y68, e68, H68, M68⟩ := hS 9 68 (by decide) rfl
 obtain ⟨A69, c69, y69, e69, H69, M69⟩ := hS 10 69 (by decide) rfl
 obtain ⟨A70, c70, y70, e70, H70, M70⟩ := hS 11 70 (by decide) rfl
 obtain ⟨A73, c73, y73, e73, H73, M73⟩ := hS 14 73 (by decide) rfl
 obtain ⟨A74, B74, C74, a74, b_74, d74, x74, y74, z74, e74, Hx74, Hy74, Hz74, Mx74, My74, Mz74⟩ := hS 15 74 (by decide) rfl
 simp only [pA, pB, pC, pD, pE, Act.put, pG, pH, pI, eVal hS 0 59 rfl rfl, eVal hS 1 60 rfl rfl, eVal hS 2 61 rfl rfl, e62, e63, eVal hS 5 64 rfl rfl, eVal hS 6 65 rfl rfl, eVal hS 7 66 rfl rfl, eVal hS 8 67 rfl rfl, e68, e69, e70, eVal hS 12 71 rfl rfl, eVal hS 13 72 rfl rfl, e73, e74]
 clear hS hap hla e62 e63 e68 e69 e70 e73 e74
 replace h3 := h3.next hw
 replace h4 := h4.next hw
 replace h6 := h6.next hw
 replace Mxp := Mxp.below hw
 replace Myp := Myp.below hw
 replace Mzp := Mzp.below hw
 replace Mxq := Mxq.below hw
 replace Myq := Myq.below hw
 replace Mzq := Mzq.below hw
 replace Md := Md.below hw
 replace M7 := M7.below hw
 replace M8 := M8.below hw
 replace M9 := M9.below hw
 replace M10 := M10.below hw
 replace M11 := M11.below hw
 replace M12 := M12.below hw
 replace M13 := M13.below hw
 replace M58 := M58.below hw
 replace hW := bT hW hw
 clear hw
 have R6 := h6.room (us := (pv3 A74 B74 C74 a74 b_74 d74)) rfl
 replace h3 := h3.pastAt 0 (b' := (W.heap.size + 1 + 1)) (pv3 A74 B74 C74 a74 b_74 d74).toArray.toList (by omega)
 replace h4 := h4.pastAt 0 (b' := (W.heap.size + 1 + 1)) (pv3 A74 B74 C74 a74 b_74 d74).toArray.toList (by omega)
 replace Mxp := h6.row Hxp Mxp (pv3 A74 B74 C74 a74 b_74 d74).toArray.toList
 replace Myp := h6.row Hyp Myp (pv3 A74 B74 C74 a74 b_74 d74).toArray.toList
 replace Mzp := h6.row Hzp Mzp (pv3 A74 B74 C74 a74 b_74 d74).toArray.toList
 replace Mxq := h6.row Hxq Mxq (pv3 A74 B74 C74 a74 b_74 d74).toArray.toList
 replace Myq := h6.row Hyq Myq (pv3 A74 B74 C74 a74 b_74 d74).toArray.toList
 replace Mzq := h6.row Hzq Mzq (pv3 A74 B74 C74 a74 b_74 d74).toArray.toList
 replace Md := h6.row Hd Md (pv3 A74 B74 C74 a74 b_74 d74).toArray.toList
 replace M7 := h6.row H7 M7 (pv3 A74 B74 C74 a74 b_74 d74).toArray.toList
 replace M8 := h6.row H8 M8 (pv3 A74 B74 C74 a74 b_74 d74).toArray.toList
 replace M9 := h6.row H9 M9 (pv3 A74 B74 C74 a74 b_74 d74).toArray.toList
 replace M10 := h6.row H10 M10 (pv3 A74 B74 C74 a74 b_74 d74).toArray.toList
 replace M11 := h6.row H11 M11 (pv3 A74 B74 C74 a74 b_74 d74).toArray.toList
 replace M12 := h6.row H12 M12 (pv3 A74 B74 C74 a74 b_74 d74).toArray.toList
 replace M13 := h6.row H13 M13 (pv3 A74 B74 C74 a74 b_74 d74).toArray.toList
 replace M58 := h6.row H58 M58 (pv3 A74 B74 C74 a74 b_74 d74).toArray.toList
 replace M62 := h6.row H62 M62 (pv3 A74 B74 C74 a74 b_74 d74).toArray.toList
 replace M63 := h6.row H63 M63 (pv3 A74 B74 C74 a74 b_74 d74).toArray.toList
 replace M68 := h6.row H68 M68 (pv3 A74 B74 C74 a74 b_74 d74).toArray.toList
 replace M69 := h6.row H69 M69 (pv3 A74 B74 C74 a74 b_74 d74).toArray.toList
 replace M70 := h6.row H70 M70 (pv3 A74 B74 C74 a74 b_74 d74).toArray.toList
 replace M73 := h6.row H73 M73 (pv3 A74 B74 C74 a74 b_74 d74).toArray.toList
 replace Mx74 := h6.row Hx74 Mx74 (pv3 A74 B74 C74 a74 b_74 d74).toArray.toList
 replace My74 := h6.row Hy74 My74 (pv3 A74 B74 C74 a74 b_74 d74).toArray.toList
 replace Mz74 := h6.row Hz74 Mz74 (pv3 A74 B74 C74 a74 b_74 d74).toArray.toList
 replace h6 := h6.stored (us := (pv3 A74 B74 C74 a74 b_74 d74)) rfl (pv3_sl _ _ _ _ _ _)
 replace hW := Below.setCells hW (g := (W.heap.size + 1 + 1)) (by omega) 0 (pv3 A74 B74 C74 a74 b_74 d74).toArray.toList
 with_reducible refine wpList_store_mid (op := ⟨none, .store 57 (.tmp 6) (.tmp 74), _, _, _, _⟩) rfl 57 (.tmp 6) (.tmp 74) rfl (W.heap.size + 1 + 1) 0 (pv3 A74 B74 C74 a74 b_74 d74).toArray rfl rfl R6 (a47 rfl) (sl_one (pv3_sl _ _ _ _ _ _)) ?_
 generalize (w9.setCells (W.heap.size + 1 + 1) 0 (pv3 A74 B74 C74 a74 b_74 d74).toArray.toList) = w10 at *
 clear R6
 go_wp2_with (fail)
 exact ret_rows rfl (W.heap.size + 1 + 1) 0 rfl (pv3 A74 B74 C74 a74 b_74 d74) _ h6.range Tryz.underlying57 rfl (l47 rfl) rfl ⟨_, rfl, ⟨_, _, _, _, _, _, x74, y74, z74, rfl, Hx74, Hy74, Hz74, Mx74, My74, Mz74⟩, hW⟩
set_option maxHeartbeats 16000000
set_option maxRecDepth 4000
open Go Go.RowKit
theorem dig0_lt (m : Nat) : dig0 m < 65536 := Nat.mod_lt _ (by omega)
theorem wrap_u8 (x : Int) (h : 0 ≤ x ∧ x < 256) : IntKind.u8.wrap x = x := by
 have key : ∀ n : Fin 256, IntKind.u8.wrap (n.val : Int) = (n.val : Int) := by decide +kernel
 have := key ⟨x.toNat, by omega⟩
 have e : (x.toNat : Int) = x := Int.toNat_of_nonneg h.1
 simpa [e] using this
theorem rbytes_odd {c : C3 NT.PN} {W : World} {bs m : List Int} (hbs : Hid (rbytes (c.y * iv c.z).val = bs)) (hbl : bs.length = 32) (lm : m.length = 32) (hb : 0 ≤ bs.getD 31 0 ∧ bs.getD 31 0 < 128) (hm : bs.set 31 (bs.getD 31 0 + 128) = m) (hodd : dig0 (c.x * iv c.z).val % 2 = 1) {Ap Bp Cp : Option Addr} {ap b_p dp : Nat} {xp yp zp : List Nat} (Hxp : Hid (Rp xp c.x.val)) (Hyp : Hid (Rp yp c.y.val)) (Hzp : Hid (Rp zp c.z.val)) (Mxp : Nums W .i64 Ap (nl xp)) (Myp : Nums W .i64 Bp (nl yp)) (Mzp : Nums W .i64 Cp (nl zp)) : Calls Tryz.prog 23 #[.agg (pv3 Ap Bp Cp ap b_p dp).toArray] W fun e w' => e = .returned (.agg (ints .u8 m).toArray) ∧ Below W.heap.size W w' := by
 obtain ⟨z22, s22⟩ := zero_of_info inf22
 have h1 := (RB.new W (pv3 Ap Bp Cp ap b_p dp) 57 rfl (pv3_sl _ _ _ _ _ _)).next (below_new _ (.cells (ints .u8 (zeros 32)).toArray 22))
 have h2 := By.new (W.alloc (.cells (pv3 Ap Bp Cp ap b_p dp).toArray 57)) (zeros 32) (zeros_len 32)
 have hW := (below_new W (.cells (pv3 Ap Bp Cp ap b_p dp).toArray 57)).alloc (by simp) (.cells (ints .u8 (zeros 32)).toArray 22)
 simp only [World.size_alloc] at h2
 replace Mxp := Mxp.below hW
 replace Myp := Myp.below hW
 replace Mzp := Mzp.below hW
 go_enter Tryz.func23, Tryz.ntmps23
 go_upto_region 1 with (fail)
 generalize (W.alloc (.cells (pv3 Ap Bp Cp ap b_p dp).toArray 57)).alloc (.cells (ints .u8 (zeros 32)).toArray 22) = w0 at *
 have s0 := hW.size
 refine rSeq 4 28 (fun _ => false) [Is (.pointer (some ⟨W.heap.size, 2, none⟩)), Is (.slice Cp 16 dp), IsN ((iv c.z)).val, IsN ((iv c.z)).val] [6, 7, 8, 3] (gC (gC (grows_cons (IsN.grows _) (grows_cons (IsN.grows _) grows_nil))))
   ⟨step_fr2 rfl (.inl rfl) rfl rfl (kO 1 rfl),
    step_ld32 rfl (.inl rfl) h1 rfl rfl rfl (kI 0 6 rfl rfl),
    step_rn rfl (.inl rfl) rfl cg19 rfl (rn1 ((kI 1 7 rfl rfl).r Hzp Mzp) (fun h1 h2 => rf_inv h1 h2)),
    step_copyN rfl (.inl rfl) 2 8 (.inr rfl) rfl (by decide) (by kernel_rfl) rfl rfl, trivial⟩ ?_
 intro val w1 hw hS hap hla
 have e6 := eVal hS 0 6 rfl rfl
 have e7 := eVal hS 1 7 rfl rfl
 obtain ⟨A8, c8, y8, e8, H8, M8⟩ := hS 2 8 (by decide) rfl
 obtain ⟨A3, c3, y3, e3, H3, M3⟩ := hS 3 3 (by decide) rfl
 simp only [pA, pB, pC, pD, pE, Act.put, pG, pH, pI, e6, e7, e8, e3]
 clear hS hap hla e6 e7 e8 e3 H8 M8
 replace h1 := h1.next hw
 replace h2 := h2.next hw
 replace Mxp := Mxp.below hw
 replace Myp := Myp.below hw
 replace Mzp := Mzp.below hw
 replace hW := bT hW hw
 clear hw
 go_upto_region 2 with (fail)
 have s1 := hW.size
 refine rSeq 5 28 (fun _ => false) [Is (.pointer (some ⟨W.heap.size, 0, none⟩)), Is (.slice Ap 16 ap), Is (.slice A3 16 c3), IsN ((c.x * (iv c.z) : Fin NT.PN)).val, IsN ((c.x * (iv c.z) : Fin NT.PN)).val] [9, 10, 11, 12, 4] (gC (gC (gC (grows_cons (IsN.grows _) (grows_cons (IsN.grows _) grows_nil)))))
   ⟨step_fr0 rfl (.inl rfl) rfl rfl (kO 1 rfl),
    step_ld32 rfl (.inl rfl) h1 rfl rfl rfl (kI 0 9 rfl rfl),
    step_mv rfl (.inl rfl) rfl rfl (kO 3 rfl),
    step_rn rfl (.inl rfl) rfl cf23 rfl (rn2 ((kI 1 10 rfl rfl).r Hxp Mxp) ((kI 2 11 rfl rfl).r H3 M3) (fun h1 h2 h3 h4 => rf_mul h1 h2 h3 h4)),
    step_copyN rfl (.inl rfl) 3 12 (.inr rfl) rfl (by decide) (by kernel_rfl) rfl rfl, trivial⟩ ?_
 intro val w2 hw hS hap hla
 have e9 := eVal hS 0 9 rfl rfl
 have e10 := eVal hS 1 10 rfl rfl
 have e11 := eVal hS 2 11 rfl rfl
 obtain ⟨A12, c12, y12, e12, H12, M12⟩ := hS 3 12 (by decide) rfl
 obtain ⟨A4, c4, y4, e4, H4, M4⟩ := hS 4 4 (by decide) rfl
 simp only [pA, pB, pC, pD, pE, Act.put, pG, pH, pI, e9, e10, e11, e12, e4]
 clear hS hap hla e9 e10 e11 e12 e4 H12 M12
 replace h1 := h1.next hw
 replace h2 := h2.next hw
 replace Mxp := Mxp.below hw
 replace Myp := Myp.below hw
 replace Mzp := Mzp.below hw
 replace M3 := M3.below hw
 replace hW := bT hW hw
 clear hw
 go_upto_region 3 with (fail)
 have lt2 := h2.lt
 have s2 := hW.size
 refine rSeq 6 28 (fun i => i == 5) [Is (.pointer (some ⟨W.heap.size, 1, none⟩)), Is (.slice Bp 16 b_p), Is (.slice A3 16 c3), IsN ((c.y * (iv c.z) : Fin NT.PN)).val, Is (.agg (ints .u8 bs).toArray), IsZ22 w2.heap.size] [13, 14, 15, 16, 17, 5] (gC (gC (gC (grows_cons (IsN.grows _) (gC (grows_cons (IsZ22.grows _) grows_nil))))))
   ⟨step_fr1 rfl (.inl rfl) rfl rfl (kO 1 rfl),
    step_ld32 rfl (.inl rfl) h1 rfl rfl rfl (kI 0 13 rfl rfl),
    step_mv rfl (.inl rfl) rfl rfl (kO 3 rfl),
    step_rn rfl (.inl rfl) rfl cf23 rfl (rn2 ((kI 1 14 rfl rfl).r Hyp Myp) ((kI 2 15 rfl rfl).r H3 M3) (fun h1 h2 h3 h4 => rf_mul h1 h2 h3 h4)),
    step_rbytesQ rfl (.inl rfl) rfl cf12 hbs.out rfl (knowsN_in 3 16 (by decide) (by kernel_rfl) rfl rfl),
    step_alloc22 (.inl rfl) rfl rfl, trivial⟩ ?_
 intro val w3 hw hS hap hla
 have e13 := eVal hS 0 13 rfl rfl
 have e14 := eVal hS 1 14 rfl rfl
 have e15 := eVal hS 2 15 rfl rfl
 obtain ⟨A16, c16, y16, e16, H16, M16⟩ := hS 3 16 (by decide) rfl
 have e17 := eVal hS 4 17 rfl rfl
 obtain ⟨b5, e5, L5, Z5⟩ := hS 5 5 (by decide) rfl
 simp only [pA, pB, pC, pD, pE, Act.put, pG, pH, pI, e13, e14, e15, e16, e17, e5]
 clear hS hap hla e13 e14 e15 e16 e17 e5 H16 M16
 have LL5 := hid hbl
 have R5 := Z5.room (l' := bs) hbl
 have hB5 := Z5.stored (l' := bs) hbl
 have hu := Below.setCells hw L5 0 (ints .u8 bs).toArray.toList
 replace h1 := h1.next hu
 replace h2 := h2.next hu
 replace Mxp := Mxp.below hu
 replace Myp := Myp.below hu
 replace Mzp := Mzp.below hu
 replace M3 := M3.below hu
 replace M4 := M4.below hu
 replace hW := bT hW hu
 clear hu
 with_reducible refine wpList_store_mid (op := ⟨none, .store 22 (.tmp 5) (.tmp 17), _, _, _, _⟩) rfl 22 (.tmp 5) (.tmp 17) rfl b5 0 (ints .u8 bs).toArray rfl rfl R5 (a22 LL5.out) (ints_all _ _) ?_
 generalize (w3.setCells b5 0 (ints .u8 bs).toArray.toList) = w4 at *
 clear hw R5 LL5 Z5
 have w5_ : W.heap.size ≤ b5 := by omega
 have n52 : b5 ≠ W.heap.size + 1 := by omega
 obtain ⟨g, o, hA4, _, cA⟩ := M4.num (by rw [nl_length, H4.out.1]; omega)
 subst hA4
 have c0 := cA 0 _ H4.out.first
 rw [show o + 0 = o from rfl] at c0
 clear cA M4 H4 Mxp Myp Mzp h1
 have q0 := dig0_lt (c.x * iv c.z).val
 have ho' := hodd
 generalize dig0 (c.x * iv c.z).val = q at *
 have htm : Int.tmod (q : Int) 2 = 1 := by
   rw [Int.tmod_eq_emod_of_nonneg (by omega)]; omega
 have q00 : (0 : Int) ≤ q := by omega
 clear ho' hodd
 obtain ⟨x, cx, fx, HX⟩ := hB5.1.spot (i := 31) (by rw [hbl]; omega)
 rw [Nat.zero_add] at cx fx
 have hx31 : bs.getD 31 0 = x := by simp [List.getD, HX.out]
 rw [hx31] at hb hm
 have hmk : IntKind.u8.wrap (x + 128) = x + 128 := wrap_u8 _ (by omega)
 have hD1 := hB5.1.set 31 (x + 128)
 rw [Nat.zero_add, hm] at hD1
 have hR1 := h2.1.apart (p := ⟨b5, 31, none⟩) (.int .u8 (x + 128)) (.inl n52)
 have hW1 := hW.setCell (p := ⟨b5, 31, none⟩) w5_ (.int .u8 (x + 128))
 have hs1 := hR1.room (k' := .u8) (l' := m) (by rw [zeros_len]; exact lm)
 have hR2 := hR1.stored (l' := m) (by rw [zeros_len]; exact lm)
 have hW2 := Below.setCells hW1 (g := W.heap.size + 1) (by omega) 0 (ints .u8 m).toArray.toList
 have LM := hid lm
 clear hm hx31 HX hb hB5 h2 hW hR1 hW1 lm hbl hbs
 go_wp2_with (first
   | (with_reducible refine wpList_load_mid (op := ⟨some 27, .load 22 (.tmp 5), _, _, _, _⟩) rfl 22 (.tmp 5) rfl b5 0 rfl (ints .u8 m) _ (hD1.range) Tryz.underlying22 rfl (l22 LM.out) ?_)
   | (with_reducible refine wpList_store_mid (op := ⟨none, .store 22 (.tmp 2) (.tmp 27), _, _, _, _⟩) rfl 22 (.tmp 2) (.tmp 27) rfl (W.heap.size + 1) 0 (ints .u8 m).toArray rfl rfl hs1 (a22 LM.out) (ints_all _ _) ?_))
 exact ret_rows rfl (W.heap.size + 1) 0 rfl (ints .u8 m) _ hR2.range Tryz.underlying22 rfl (l22 LM.out) rfl ⟨rfl, hW2⟩
theorem rbytes_even {c : C3 NT.PN} {W : World} {bs m : List Int} (hbs : Hid (rbytes (c.y * iv c.z).val = bs)) (hbl : bs.length = 32) (lm : m.length = 32) (hm : bs = m) (hodd : dig0 (c.x * iv c.z).val % 2 = 0) {Ap Bp Cp : Option Addr} {ap b_p dp : Nat} {xp yp zp : List Nat} (Hxp : Hid (Rp xp c.x.val)) (Hyp : Hid (Rp yp c.y.val)) (Hzp : Hid (Rp zp c.z.val)) (Mxp : Nums W .i64 Ap (nl xp)) (Myp : Nums W .i64 Bp (nl yp)) (Mzp : Nums W .i64 Cp (nl zp)) : Calls Tryz.prog 23 #[.agg (pv3 Ap Bp Cp ap b_p dp).toArray] W fun e w' => e = .returned (.agg (ints .u8 m).toArray) ∧ Below W.heap.size W w' := by
 obtain ⟨z22, s22⟩ := zero_of_info inf22
 have h1 := (RB.new W (pv3 Ap Bp Cp ap b_p dp) 57 rfl (pv3_sl _ _ _ _ _ _)).next (below_new _ (.cells (ints .u8 (zeros 32)).toArray 22))
 have h2 := By.new (W.alloc (.cells (pv3 Ap Bp Cp ap b_p dp).toArray 57)) (zeros 32) (zeros_len 32)
 have hW := (below_new W (.cells (pv3 Ap Bp Cp ap b_p dp).toArray 57)).alloc (by simp) (.cells (ints .u8 (zeros 32)).toArray 22)
 simp only [World.size_alloc] at h2
 replace Mxp := Mxp.below hW
 replace Myp := Myp.below hW
 replace Mzp := Mzp.below hW
 go_enter Tryz.func23, Tryz.ntmps23
 go_upto_region 1 with (fail)
 generalize (W.alloc (.cells (pv3 Ap Bp Cp ap b_p dp).toArray 57)).alloc (.cells (ints .u8 (zeros 32)).toArray 22) = w0 at *
 have s0 := hW.size
 refine rSeq 4 28 (fun _ => false) [Is (.pointer (some ⟨W.heap.size, 2, none⟩)), Is (.slice Cp 16 dp), IsN ((iv c.z)).val, IsN ((iv c.z)).val] [6, 7, 8, 3] (gC (gC (grows_cons (IsN.grows _) (grows_cons (IsN.grows _) grows_nil))))
   ⟨step_fr2 rfl (.inl rfl) rfl rfl (kO 1 rfl),
    step_ld32 rfl (.inl rfl) h1 rfl rfl rfl (kI 0 6 rfl rfl),
    step_rn rfl (.inl rfl) rfl cg19 rfl (rn1 ((kI 1 7 rfl rfl).r Hzp Mzp) (fun h1 h2 => rf_inv h1 h2)),
    step_copyN rfl (.inl rfl) 2 8 (.inr rfl) rfl (by decide) (by kernel_rfl) rfl rfl, trivial⟩ ?_
 intro val w1 hw hS hap hla
 have e6 := eVal hS 0 6 rfl rfl
 have e7 := eVal hS 1 7 rfl rfl
 obtain ⟨A8, c8, y8, e8, H8, M8⟩ := hS 2 8 (by decide) rfl
 obtain ⟨A3, c3, y3, e3, H3, M3⟩ := hS 3 3 (by decide) rfl
 simp only [pA, pB, pC, pD, pE, Act.put, pG, pH, pI, e6, e7, e8, e3]
 clear hS hap hla e6 e7 e8 e3 H8 M8
 replace h1 := h1.next hw
 replace h2 := h2.next hw
 replace Mxp := Mxp.below hw
 replace Myp := Myp.below hw
 replace Mzp := Mzp.below hw
 replace hW := bT hW hw
 clear hw
 go_upto_region 2 with (fail)
 have s1 := hW.size
 refine rSeq 5 28 (fun _ => false) [Is (.pointer (some ⟨W.heap.size, 0, none⟩)), Is (.slice Ap 16 ap), Is (.slice A3 16 c3), IsN ((c.x * (iv c.z) : Fin NT.PN)).val, IsN ((c.x * (iv c.z) : Fin NT.PN)).val] [9, 10, 11, 12, 4] (gC (gC (gC (grows_cons (IsN.grows _) (grows_cons (IsN.grows _) grows_nil)))))
   ⟨step_fr0 rfl (.inl rfl) rfl rfl (kO 1 rfl),
    step_ld32 rfl (.inl rfl) h1 rfl rfl rfl (kI 0 9 rfl rfl),
    step_mv rfl (.inl rfl) rfl rfl (kO 3 rfl),
    step_rn rfl (.inl rfl) rfl cf23 rfl (rn2 ((kI 1 10 rfl rfl).r Hxp Mxp) ((kI 2 11 rfl rfl).r H3 M3) (fun h1 h2 h3 h4 => rf_mul h1 h2 h3 h4)),
    step_copyN rfl (.inl rfl) 3 12 (.inr rfl) rfl (by decide) (by kernel_rfl) rfl rfl, trivial⟩ ?_
 intro val w2 hw hS hap hla
 have e9 := eVal hS 0 9 rfl rfl
 have e10 := eVal hS 1 10 rfl rfl
 have e11 := eVal hS 2 11 rfl rfl
 obtain ⟨A12, c12, y12, e12, H12, M12⟩ := hS 3 12 (by decide) rfl
 obtain ⟨A4, c4, y4, e4, H4, M4⟩ := hS 4 4 (by decide) rfl
 simp only [pA, pB, pC, pD, pE, Act.put, pG, pH, pI, e9, e10, e11, e12, e4]
 clear hS hap hla e9 e10 e11 e12 e4 H12 M12
 replace h1 := h1.next hw
 replace h2 := h2.next hw
 replace Mxp := Mxp.below hw
 replace Myp := Myp.below hw
 replace Mzp := Mzp.below hw
 replace M3 := M3.below hw
 replace hW := bT hW hw
 clear hw
 go_upto_region 3 with (fail)
 have lt2 := h2.lt
 have s2 := hW.size
 refine rSeq 6 28 (fun i => i == 5) [Is (.pointer (some ⟨W.heap.size, 1, none⟩)), Is (.slice Bp 16 b_p), Is (.slice A3 16 c3), IsN ((c.y * (iv c.z) : Fin NT.PN)).val, Is (.agg (ints .u8 bs).toArray), IsZ22 w2.heap.size] [13, 14, 15, 16, 17, 5] (gC (gC (gC (grows_cons (IsN.grows _) (gC (grows_cons (IsZ22.grows _) grows_nil))))))
   ⟨step_fr1 rfl (.inl rfl) rfl rfl (kO 1 rfl),
    step_ld32 rfl (.inl rfl) h1 rfl rfl rfl (kI 0 13 rfl rfl),
    step_mv rfl (.inl rfl) rfl rfl (kO 3 rfl),
    step_rn rfl (.inl rfl) rfl cf23 rfl (rn2 ((kI 1 14 rfl rfl).r Hyp Myp) ((kI 2 15 rfl rfl).r H3 M3) (fun h1 h2 h3 h4 => rf_mul h1 h2 h3 h4)),
    step_rbytesQ rfl (.inl rfl) rfl cf12 hbs.out rfl (knowsN_in 3 16 (by decide) (by kernel_rfl) rfl rfl),
    step_alloc22 (.inl rfl) rfl rfl, trivial⟩ ?_
 intro val w3 hw hS hap hla
 have e13 := eVal hS 0 13 rfl rfl
 have e14 := eVal hS 1 14 rfl rfl
 have e15 := eVal hS 2 15 rfl rfl
 obtain ⟨A16, c16, y16, e16, H16, M16⟩ := hS 3 16 (by decide) rfl
 have e17 := eVal hS 4 17 rfl rfl
 obtain ⟨b5, e5, L5, Z5⟩ := hS 5 5 (by decide) rfl
 simp only [pA, pB, pC, pD, pE, Act.put, pG, pH, pI, e13, e14, e15, e16, e17, e5]
 clear hS hap hla e13 e14 e15 e16 e17 e5 H16 M16
 have LL5 := hid hbl
 have R5 := Z5.room (l' := bs) hbl
 have hB5 := Z5.stored (l' := bs) hbl
 have hu := Below.setCells hw L5 0 (ints .u8 bs).toArray.toList
 replace h1 := h1.next hu
 replace h2 := h2.next hu
 replace Mxp := Mxp.below hu
 replace Myp := Myp.below hu
 replace Mzp := Mzp.below hu
 replace M3 := M3.below hu
 replace M4 := M4.below hu
 replace hW := bT hW hu
 clear hu
 with_reducible refine wpList_store_mid (op := ⟨none, .store 22 (.tmp 5) (.tmp 17), _, _, _, _⟩) rfl 22 (.tmp 5) (.tmp 17) rfl b5 0 (ints .u8 bs).toArray rfl rfl R5 (a22 LL5.out) (ints_all _ _) ?_
 generalize (w3.setCells b5 0 (ints .u8 bs).toArray.toList) = w4 at *
 clear hw R5 LL5 Z5
 have w5_ : W.heap.size ≤ b5 := by omega
 have n52 : b5 ≠ W.heap.size + 1 := by omega
 obtain ⟨g, o, hA4, _, cA⟩ := M4.num (by rw [nl_length, H4.out.1]; omega)
 subst hA4
 have c0 := cA 0 _ H4.out.first
 rw [show o + 0 = o from rfl] at c0
 clear cA M4 H4 Mxp Myp Mzp h1
 have q0 := dig0_lt (c.x * iv c.z).val
 have ho' := hodd
 generalize dig0 (c.x * iv c.z).val = q at *
 have htm : Int.tmod (q : Int) 2 = 0 := by
   rw [Int.tmod_eq_emod_of_nonneg (by omega)]; omega
 have q00 : (0 : Int) ≤ q := by omega
 clear ho' hodd
 subst hm
 have hD1 := hB5.1
 have hs1 := h2.1.room (k' := .u8) (l' := bs) (by rw [zeros_len]; exact lm)
 have hR2 := h2.1.stored (l' := bs) (by rw [zeros_len]; exact lm)
 have hW2 := Below.setCells hW (g := W.heap.size + 1) (by omega) 0 (ints .u8 bs).toArray.toList
 have LM := hid lm
 clear hB5 h2 hW lm hbl hbs
 go_wp2_with (first
   | (with_reducible refine wpList_load_mid (op := ⟨some 27, .load 22 (.tmp 5), _, _, _, _⟩) rfl 22 (.tmp 5) rfl b5 0 rfl (ints .u8 bs) _ (hD1.range) Tryz.underlying22 rfl (l22 LM.out) ?_)
   | (with_reducible refine wpList_store_mid (op := ⟨none, .store 22 (.tmp 2) (.tmp 27), _, _, _, _⟩) rfl 22 (.tmp 2) (.tmp 27) rfl (W.heap.size + 1) 0 (ints .u8 bs).toArray rfl rfl hs1 (a22 LM.out) (ints_all _ _) ?_))
 exact ret_rows rfl (W.heap.size + 1) 0 rfl (ints .u8 bs) _ hR2.range Tryz.underlying22 rfl (l22 LM.out) rfl ⟨rfl, hW2⟩
theorem rp_add {c c' : C3 NT.PN} {d : Fin NT.PN} {v v' : Value} {A : Option Addr} {cd : Nat} {y : List Nat} {w : World} (h : IsP c v w) (h' : IsP c' v' w) (hy : Rp y d.val) (hN : Nums w .i64 A (nl y)) : Calls Tryz.prog 57 #[v, v', .slice A 16 cd] w fun e w' => ∃ u, e = .returned u ∧ IsP (add3 d c c') u w' ∧ Below w.heap.size w w' := by
 obtain ⟨_, _, _, _, _, _, _, _, _, rfl, h1, h2, h3, h4, h5, h6⟩ := h
 obtain ⟨_, _, _, _, _, _, _, _, _, rfl, k1, k2, k3, k4, k5, k6⟩ := h'
 exact rf_padd h1 h2 h3 h4 h5 h6 k1 k2 k3 k4 k5 k6 (hid hy) hN
theorem rp_bytes {c : C3 NT.PN} {v : Value} {w : World} (h : IsP c v w) : Calls Tryz.prog 23 #[v] w fun e w' => e = .returned (.agg (ints .u8 (pbytes (c.y * iv c.z).val (oddB (c.x * iv c.z).val))).toArray) ∧ Below w.heap.size w w' := by
 obtain ⟨_, _, _, _, _, _, _, _, _, rfl, h1, h2, h3, h4, h5, h6⟩ := h
 have hb := rb_top (c.y * iv c.z).isLt
 rcases Nat.mod_two_eq_zero_or_one (dig0 (c.x * iv c.z).val) with e | e
 · have ho : oddB (c.x * iv c.z).val = false := by unfold oddB; rw [e]; rfl
   rw [ho]
   exact rbytes_even (hid rfl) (rbytes_length _) (pbytes_len _ _) rfl e h1 h2 h3 h4 h5 h6
 · have ho : oddB (c.x * iv c.z).val = true := by unfold oddB; rw [e]; rfl
   rw [ho]
   exact rbytes_odd (hid rfl) (rbytes_length _) (pbytes_len _ _) hb rfl e h1 h2 h3 h4 h5 h6
set_option maxHeartbeats 2000000
set_option maxRecDepth 4000
open Go.RowKit
theorem le_own (A B : Option Addr) (cA cB L : Nat) (l m : List Nat) (w : World) (hl : l.length = L) (hm : m.length = L) (hn : L ≤ 1000) (dl : Digs l) (dm : Digs m) (hle : dv m ≤ dv l) (hA : Nums w .i64 A (nl l)) (hB : Nums w .i64 B (nl m)) :
   Calls Tryz.prog 86 #[.slice A L cA, .slice B L cB] w fun e w' => ∃ A' c ys, e = .returned (.slice A' L c) ∧ Hid (ys.length = L ∧ Digs ys ∧ dv ys = dv l - dv m) ∧ Owns w' w.heap.size 3 .i64 (.slice A' L c) (nl ys) ∧ Below w.heap.size w w' := by
 have HL := hid hl
 have HM := hid hm
 have DL := hid dl
 have DM := hid dm
 have HLE := hid hle
 clear dl dm hl hm hle
 go_enter Tryz.func86, Tryz.ntmps86
 go_wp2
 go_loopw [5, 6, 7] (fun v b i wr => ∃ (k : Nat) (ys : List Nat) (bo : Nat) (R : Option Addr) (n c : Nat), k ≤ L ∧ v = .slice R n c ∧ b = .int .i64 bo ∧ i = .int .i64 k ∧ Hid (LessI l m ys bo k) ∧ Owns wr w.heap.size 3 .i64 (.slice R n c) (nl ys) ∧ Below w.heap.size w wr) (fun _ _ i _ => L - (intOf i).toNat)
 case atStart => exact ⟨0, [], 0, none, 0, 0, Nat.zero_le _, rfl, rfl, rfl, hid ⟨rfl, fun v hv => by simp at hv, by omega, by simp [dv]⟩, Owns.none_ _ _ _ _, Below.refl _ _⟩
 case round =>
   obtain ⟨k, ys, bo, R, n, c, hk, rfl, rfl, rfl, HI, hO, hb⟩ := hrel
   by_cases hlt : k < L
   · have hsz := hb.size
     have hil : k < l.length := by rw [HL.out]; omega
     have him : k < m.length := by rw [HM.out]; omega
     obtain ⟨g, o, rfl, _, cA0⟩ := (hA.below hb).num (by rw [nl_length, HL.out]; omega)
     obtain ⟨g2, o2, rfl, _, cB0⟩ := (hB.below hb).num (by rw [nl_length, HM.out]; omega)
     have cl := cA0 k _ (nl_at hil)
     have cm := cB0 k _ (nl_at him)
     have hx := getD_dig DL.out k
     have hy := getD_dig DM.out k
     have hbo := HI.out.2.2.1
     have HS : Hid (∀ d bo', d < 65536 → bo' ≤ 1 → d + m.getD k 0 + bo = l.getD k 0 + 65536 * bo' → LessI l m (ys ++ [d]) bo' (k + 1)) := hid fun d bo' h1 h2 h3 => HI.out.step hil him h1 h2 h3
     have HY : Hid ((nl ys).length = k) := hid (by rw [nl_length]; exact HI.out.1)
     clear cA0 cB0 hil him
     generalize l.getD k 0 = x at *
     generalize m.getD k 0 = y at *
     have k0 : (0 : Int) ≤ k := by omega
     have k1 : (k : Int) < L := by omega
     have w1 : IntKind.i64.wrap ((x : Int) - y) = (x : Int) - y := IntWalk.i64_in _ (by omega)
     have w2 : IntKind.i64.wrap ((x : Int) - y - bo) = (x : Int) - y - bo := IntWalk.i64_in _ (by omega)
     by_cases hneg : x < y + bo
     · obtain ⟨d, hd⟩ : ∃ d : Nat, d = x + 65536 - (y + bo) := ⟨_, rfl⟩
       have hz : (x : Int) - y - bo = (d : Int) - 65536 := by omega
       have hdl : d < 65536 := by omega
       have HT := hid (HS.out d 1 hdl (by omega) (by omega))
       have hdn : (d : Int) - 65536 < 0 := by omega
       have hdw : IntKind.i64.wrap ((d : Int) - 65536 + 65536) = d := by rw [IntWalk.i64_in _ (by omega)]; omega
       rw [hz] at w2
       clear HS hneg hd hx hy hbo hdl
       go_wp2
       go_quiet (fail)
       clear w1 w2 hz
       go_wp2_with (at_builtin; refine app_one _ rfl (.tmp 30) (.tmp 32) 55 rfl w.heap.size 3 .i64 8 Tryz.underlying55 Tryz.info3 R n c (nl ys) rfl (hO.drewN _) _ 1 rfl (by rw [HY.out]; omega) (by omega) (by simpa using hsz) ?_; intro A' n' c' w2 hO2 hb2)
       go_roundw
       case rel => exact ⟨k + 1, ys ++ [d], 1, A', n', c', by omega, rfl, rfl, by go_num, HT, by rw [← nl_snoc]; exact hO2, (below_drewN hb nq).trans hb2⟩
       case measure => simp [intOf]; omega
     · obtain ⟨d, hd⟩ : ∃ d : Nat, d = x - (y + bo) := ⟨_, rfl⟩
       have hz : (x : Int) - y - bo = (d : Int) := by omega
       have hdl : d < 65536 := by omega
       have HT := hid (HS.out d 0 hdl (by omega) (by omega))
       have hdn : ¬ (d : Int) < 0 := by omega
       rw [hz] at w2
       clear HS hneg hd hx hy hbo hdl
       go_wp2
       go_quiet (fail)
       clear w1 w2 hz
       go_wp2_with (at_builtin; refine app_one _ rfl (.tmp 30) (.tmp 32) 55 rfl w.heap.size 3 .i64 8 Tryz.underlying55 Tryz.info3 R n c (nl ys) rfl (hO.drewN _) _ 1 rfl (by rw [HY.out]; omega) (by omega) (by simpa using hsz) ?_; intro A' n' c' w2 hO2 hb2)
       go_roundw
       case rel => exact ⟨k + 1, ys ++ [d], 0, A', n', c', by omega, rfl, rfl, by go_num, HT, by rw [← nl_snoc]; exact hO2, (below_drewN hb nq).trans hb2⟩
       case measure => simp [intOf]; omega
   · have e : k = L := by omega
     subst e
     have hm := hO.len
     rw [nl_length, HI.out.1] at hm
     subst hm
     have HE : Hid (dv ys = dv l - dv m) := hid (HI.out.end_ HL.out HM.out HLE.out)
     go_wp2
     go_ret
     exact ⟨R, c, ys, rfl, hid ⟨HI.out.1, HI.out.2.1, HE.out⟩, hO, hb⟩
def MulI (m c : Nat) (xs zs : List Nat) (cy j : Nat) : Prop := zs.length = xs.length ∧ Digs zs ∧ cy < m ∧ dv zs + cy * 65536 ^ j + dv (xs.take j) = dv xs + m * dv (xs.take j) + c ∧ ∀ i, j ≤ i → zs[i]? = xs[i]?
theorem MulI.start {m c : Nat} {xs : List Nat} (hx : Digs xs) (hc : c < m) : MulI m c xs xs c 0 := ⟨rfl, hx, hc, by simp [dv], fun _ _ => rfl⟩
theorem MulI.step {m c : Nat} {xs zs : List Nat} {cy j n : Nat} (h : MulI m c xs zs cy j) (hx : Digs xs) (hj : j < xs.length) (hn : n = m * xs.getD j 0 + cy) : MulI m c xs (zs.set j (n % 65536)) (n / 65536) (j + 1) := by
 obtain ⟨h1, h2, h3, h4, h5⟩ := h
 have g : xs[j]? = some (xs.getD j 0) := by rw [List.getD_eq_getElem?_getD, List.getElem?_eq_getElem hj]; rfl
 have hd := getD_dig hx j
 refine ⟨by simp [h1], set_digs h2 _ _ (Nat.mod_lt _ (by omega)), ?_, ?_, fun i hi => ?_⟩
 · have : m * xs.getD j 0 ≤ m * 65535 := Nat.mul_le_mul_left _ (by omega)
   rw [Nat.div_lt_iff_lt_mul (by omega)]
   omega
 · have h6 := dv_set zs j (n % 65536) _ ((h5 j (Nat.le_refl _)).trans g)
   rw [dv_take_succ xs j _ g]
   have h7 := Nat.div_add_mod n 65536
   generalize xs.getD j 0 = x at *
   generalize n % 65536 = r at *
   generalize n / 65536 = q at *
   rw [Nat.pow_succ]
   generalize 65536 ^ j = P at *
   have h8 : (65536 * q + r) * P = (m * x + cy) * P := by rw [h7, hn]
   have h9 : q * (P * 65536) = 65536 * q * P := by rw [Nat.mul_comm P, ← Nat.mul_assoc, Nat.mul_comm q]
   rw [Nat.add_mul, Nat.add_mul, Nat.mul_assoc m] at h8
   rw [h9, Nat.mul_add]
   omega
 · rw [List.getElem?_set_ne (by omega)]; exact h5 i (by omega)
theorem MulI.end_ {m c : Nat} {xs zs : List Nat} {cy L : Nat} (h : MulI m c xs zs cy L) (hL : xs.length = L) (hm : m * dv xs + c < 65536 ^ L) : zs.length = L ∧ Digs zs ∧ dv zs = m * dv xs + c := by
 obtain ⟨h1, h2, h3, h4, h5⟩ := h
 rw [List.take_of_length_le (by omega)] at h4
 refine ⟨by omega, h2, ?_⟩
 have hc : cy = 0 := by
   by_cases h0 : cy = 0
   · exact h0
   · exfalso
     have : 1 * 65536 ^ L ≤ cy * 65536 ^ L := Nat.mul_le_mul_right _ (by omega)
     omega
 rw [hc] at h4
 omega
def SD : List Nat := [50, 55, 55, 52, 50, 51, 49, 55, 55, 55, 55, 51, 55, 50, 51, 53, 51, 53, 51, 53, 56, 53, 49, 57, 51, 55, 55, 57, 48, 56, 56, 51, 54, 52, 56, 52, 57, 51]
def pv (k : Nat) : Nat := (SD.take k).foldl (fun v d => 10 * v + (d - 48)) 0
theorem pv_step {k : Nat} (h : k < 38) : pv (k + 1) = 10 * pv k + (SD.getD k 0 - 48) := by
 unfold pv
 rw [List.take_add_one, List.foldl_append]
 have : SD[k]? = some (SD.getD k 0) := by rw [List.getD_eq_getElem?_getD, List.getElem?_eq_getElem h]; rfl
 rw [this]; rfl
theorem sd_at : ∀ k, k < 38 → 48 ≤ SD.getD k 0 ∧ SD.getD k 0 ≤ 57 := by
 have h : ∀ k : Fin 38, 48 ≤ SD.getD k.val 0 ∧ SD.getD k.val 0 ≤ 57 := by decide
 exact fun k hk => h ⟨k, hk⟩
theorem pv_lt : ∀ k, k ≤ 38 → pv k < 10 ^ k
 | 0, _ => by decide
 | k + 1, h => by
   have h1 := pv_lt k (by omega)
   have h2 := sd_at k (by omega)
   rw [pv_step (by omega), Nat.pow_succ]
   omega
theorem pv_all : dv ((dgN (pv 38) 16).set 15 ((dgN (pv 38) 16).getD 15 0 + 4096)) = QN ∧ (dgN (pv 38) 16).set 15 ((dgN (pv 38) 16).getD 15 0 + 4096) = dgN QN 16 ∧ (dgN (pv 38) 16).getD 15 0 = 0 := by decide +kernel
abbrev SB : ByteArray := { data := #[50, 55, 55, 52, 50, 51, 49, 55, 55, 55, 55, 51, 55, 50, 51, 53, 51, 53, 51, 53, 56, 53, 49, 57, 51, 55, 55, 57, 48, 56, 56, 51, 54, 52, 56, 52, 57, 51] }
theorem sb_size : SB.size = 38 := rfl
theorem sb_at (k : Nat) (hk : k < 38) (w : World) : (Instr.index 9 (.string SB) (.int .i64 (k : Int))).run Tryz.prog w = .ok (.int .u8 ((SD.getD k 0 : Nat) : Int)) w := by
 rw [run_index_string (P := Tryz.prog) w 9 SB .i64 (k : Int) Tryz.underlying9, dif_pos ⟨by omega, by rw [sb_size]; omega⟩]
 congr 2
 have h : ∀ k : Fin 38, ((SB[k.val]'(by rw [sb_size]; exact k.isLt)).toNat : Int) = ((SD.getD k.val 0 : Nat) : Int) := by decide +kernel
 exact h ⟨k, hk⟩
theorem q_walk (w : World) : Calls Tryz.prog 91 #[] w fun e w' => ∃ g c, e = .returned (.slice (some ⟨g, 0, none⟩) 16 c) ∧ Owns w' w.heap.size 3 .i64 (.slice (some ⟨g, 0, none⟩) 16 c) (nl (dgN QN 16)) ∧ Below w.heap.size w w' := by
 have HSB : Hid (∀ k : Nat, k < 38 → ∀ w, (Instr.index 9 (.string { data := #[50, 55, 55, 52, 50, 51, 49, 55, 55, 55, 55, 51, 55, 50, 51, 53, 51, 53, 51, 53, 56, 53, 49, 57, 51, 55, 55, 57, 48, 56, 56, 51, 54, 52, 56, 52, 57, 51] }) (.int .i64 (k : Int))).run Tryz.prog w = .ok (.int .u8 ((SD.getD k 0 : Nat) : Int)) w) := hid sb_at
 have HSZ : ({ data := #[50, 55, 55, 52, 50, 51, 49, 55, 55, 55, 55, 51, 55, 50, 51, 53, 51, 53, 51, 53, 56, 53, 49, 57, 51, 55, 55, 57, 48, 56, 56, 51, 54, 52, 56, 52, 57, 51] } : ByteArray).size = 38 := sb_size
 obtain ⟨z16, hz⟩ : ∃ z, z = List.replicate 16 0 := ⟨_, rfl⟩
 have hmk : ∀ w : World, (Instr.makeSlice 55 (.int .i64 16) (.int .i64 16)).run Tryz.prog w = .ok (.slice (some ⟨w.heap.size, 0, none⟩) 16 16) (w.alloc (.cells (ints .i64 (nl z16)).toArray 3)) := by rw [hz]; exact make28 16 (by omega)
 have HO : Hid (Owns (w.alloc (.cells (ints .i64 (nl z16)).toArray 3)) w.heap.size 3 .i64 (.slice (some ⟨w.heap.size, 0, none⟩) 16 16) (nl (dgN (pv 0) 16))) := by rw [hz]; exact hid (Owns.new w w.heap.size 3 .i64 (nl (List.replicate 16 0)) (Nat.le_refl _) (by simp [maxLen]))
 have hW := below_new w (.cells (ints .i64 (nl z16)).toArray 3)
 clear hz
 have HPV := hid (fun k => @pv_lt k)
 have HPS : Hid (∀ k, k < 38 → pv (k + 1) = 10 * pv k + (SD.getD k 0 - 48)) := hid fun k h => pv_step h
 have HD : Hid (∀ k, k < 38 → 48 ≤ SD.getD k 0 ∧ SD.getD k 0 ≤ 57) := hid sd_at
 have HALL := hid pv_all
 go_enter Tryz.func91, Tryz.ntmps91
 go_wp2
 have HP0 : Hid (pv 0 < 10 ^ 0) := hid (HPV.out 0 (by omega))
 clear hmk
 generalize w.alloc (.cells (ints .i64 (nl z16)).toArray 3) = W0 at *
 generalize ({ data := #[50, 55, 55, 52, 50, 51, 49, 55, 55, 55, 55, 51, 55, 50, 51, 53, 51, 53, 51, 53, 56, 53, 49, 57, 51, 55, 55, 57, 48, 56, 56, 51, 54, 52, 56, 52, 57, 51] } : ByteArray) = sb at *
 go_loopw [3] (fun i wr => ∃ k : Nat, k ≤ 38 ∧ i = .int .i64 k ∧ Owns wr w.heap.size 3 .i64 (.slice (some ⟨w.heap.size, 0, none⟩) 16 16) (nl (dgN (pv k) 16)) ∧ Below w.heap.size w wr) (fun i _ => 38 - (intOf i).toNat)
 case atStart => exact ⟨0, by omega, rfl, HO.out, hW⟩
 case round =>
   clear HO hW
   obtain ⟨k, hk, rfl, hO, hW⟩ := hrel
   rename World => W1
   by_cases hlt : k < 38
   · have hix := HSB.out k hlt
     have hd := HD.out k hlt
     have HPN := hid (HPS.out k hlt)
     have HPK := hid (HPV.out k hk)
     have HPK1 := hid (HPV.out (k + 1) (by omega))
     generalize SD.getD k 0 = x at *
     obtain ⟨hXL, hXD, hXV⟩ := dgN_rp 16 (pv k) (by have := HPK.out; have : 10 ^ k ≤ 10 ^ 38 := Nat.pow_le_pow_right (by omega) hk; omega)
     have HX := hid (And.intro hXL (And.intro hXD hXV))
     have HNX : Hid (∀ zs, zs.length = 16 ∧ Digs zs ∧ dv zs = pv (k + 1) → zs = dgN (pv (k + 1)) 16) := hid fun zs h => (show Rp zs (pv (k + 1)) from h).eq
     have HLT : Hid (10 * pv k + (x - 48) < 65536 ^ 16) := hid (by have h1 := HPK1.out; rw [HPN.out] at h1; have : 10 ^ (k + 1) ≤ 10 ^ 38 := Nat.pow_le_pow_right (by omega) (by omega); omega)
     obtain ⟨p1, hp1⟩ : ∃ p1, pv (k + 1) = p1 := ⟨_, rfl⟩
     rw [hp1] at HPN HPK1 HNX
     have HP1 := hid hp1
     clear hp1
     generalize dgN (pv k) 16 = xs at *
     obtain ⟨c, hc⟩ : ∃ c, c = x - 48 := ⟨_, rfl⟩
     rw [← hc] at HPN HLT
     have HMI := hid (MulI.start (m := 10) (c := c) HX.out.2.1 (by omega))
     have hx64 : IntKind.i64.wrap (x : Int) = (x : Int) := IntWalk.i64_in _ (by omega)
     have hxc : IntKind.i64.wrap ((x : Int) - 48) = (c : Int) := by rw [IntWalk.i64_in _ (by omega)]; omega
     have k0 : (0 : Int) ≤ k := by omega
     have k38 : (k : Int) < 38 := by omega
     have HC := hid hc
     clear hXL hXD hXV hd hc
     go_wp2
     go_loopw [4, 5] (fun v j wr => ∃ (m cy : Nat) (zs : List Nat), m ≤ 16 ∧ j = .int .i64 m ∧ v = .int .i64 cy ∧ Hid (MulI 10 c xs zs cy m) ∧ Owns wr w.heap.size 3 .i64 (.slice (some ⟨w.heap.size, 0, none⟩) 16 16) (nl zs) ∧ Below w.heap.size w wr) (fun _ j _ => 16 - (intOf j).toNat)
     case atStart => exact ⟨0, c, xs, by omega, rfl, rfl, HMI, hO, hW⟩
     case round =>
       clear hO hW HMI
       obtain ⟨m, cy, zs, hm, rfl, rfl, HI, hO, hW⟩ := hrel
       rename World => W2
       by_cases hlt2 : m < 16
       · have hzl : (nl zs).length = 16 := by rw [nl_length, HI.out.1]; exact HX.out.1
         have hzm : zs[m]? = some (xs.getD m 0) := by rw [HI.out.2.2.2.2 m (Nat.le_refl _), List.getD_eq_getElem?_getD, List.getElem?_eq_getElem (by rw [HX.out.1]; exact hlt2)]; rfl
         obtain ⟨y, cy0, fy0, HY⟩ := hO.spot (j := m) (by rw [hzl]; exact hlt2)
         have hyx : y = ((xs.getD m 0 : Nat) : Int) := by
           have h := HY.out
           unfold nl at h
           rw [List.getElem?_map, hzm] at h
           exact (Option.some.inj h).symm
         subst hyx
         have hdx := getD_dig HX.out.2.1 m
         have hcy := HI.out.2.2.1
         obtain ⟨n, hn⟩ : ∃ n, n = 10 * xs.getD m 0 + cy := ⟨_, rfl⟩
         have HN := hid (HI.out.step HX.out.2.1 (by rw [HX.out.1]; exact hlt2) hn)
         generalize xs.getD m 0 = x0 at *
         have w1 : IntKind.i64.wrap (10 * (x0 : Int)) = 10 * (x0 : Int) := IntWalk.i64_in _ (by omega)
         have w2 : IntKind.i64.wrap (10 * (x0 : Int) + cy) = (n : Int) := by rw [IntWalk.i64_in _ (by omega)]; omega
         have hnm : (n : Int) % 65536 = ((n % 65536 : Nat) : Int) := by omega
         have hnd : (n : Int) / 65536 = ((n / 65536 : Nat) : Int) := by omega
         have hnt : Int.tmod (n : Int) 65536 = ((n % 65536 : Nat) : Int) := by rw [Int.tmod_eq_emod_of_nonneg (by omega)]; omega
         have hnq : Int.tdiv (n : Int) 65536 = ((n / 65536 : Nat) : Int) := by rw [Int.tdiv_eq_ediv_of_nonneg (by omega)]; omega
         have HNB : Hid (n / 65536 < 10) := hid (by omega)
         have hO9 := hO.store m ((n % 65536 : Nat) : Int)
         rw [nl_set] at hO9
         generalize n % 65536 = r at *
         generalize n / 65536 = q at *
         have hqw : IntKind.i64.wrap (q : Int) = (q : Int) := IntWalk.i64_in _ (by have := HNB.out; omega)
         have hrw : IntKind.i64.wrap (r : Int) = (r : Int) := IntWalk.i64_in _ (by omega)
         have hW9 := hW.setCell (p := ⟨w.heap.size, m, none⟩) (Nat.le_refl _) (.int .i64 (r : Int))
         have m0 : (0 : Int) ≤ m := by omega
         have m16 : (m : Int) < 16 := by omega
         clear hn HY hdx hcy hzl hzm HI
         go_wp2
         go_roundw
         case rel => exact ⟨m + 1, q, zs.set m r, by omega, by go_num, rfl, HN, hO9, hW9⟩
         case measure => simp [intOf]; omega
       · have e : m = 16 := by omega
         subst e
         have HE : Hid (zs = dgN p1 16) := hid (HNX.out zs (by
           have h := HI.out.end_ HX.out.1 (by rw [HX.out.2.2]; exact HLT.out)
           rw [HX.out.2.2, ← HPN.out] at h
           exact h))
         rw [HE.out] at hO
         clear HI
         go_wp2
         go_roundw
         case rel => exact ⟨k + 1, by omega, by go_num, (by rw [HP1.out]; exact hO), hW⟩
         case measure => simp [intOf]; omega
   · have e : k = 38 := by omega
     rw [e] at hO
     have hk38 : ¬ (k : Int) < 38 := by omega
     have HA := hid HALL.out
     have HXL : Hid ((dgN (pv 38) 16).length = 16) := hid (dgN_length _ _)
     clear e HPV HPS HD HSB HALL hlt
     generalize dgN (pv 38) 16 = xs at *
     obtain ⟨y, cy0, fy0, HY⟩ := hO.spot (j := 15) (by rw [nl_length, HXL.out]; omega)
     have hyx : y = 0 := by
       have h := HY.out
       unfold nl at h
       have h3 := HA.out.2.2
       rw [List.getD_eq_getElem?_getD] at h3
       rw [List.getElem?_map] at h
       cases hx : xs[15]? with
       | none => rw [hx] at h; cases h
       | some v =>
         rw [hx] at h h3
         simp at h h3
         omega
     subst hyx
     have hO9 := hO.store 15 ((4096 : Nat) : Int)
     have HS := hid HA.out.2.1
     rw [HA.out.2.2, Nat.zero_add] at HS
     rw [nl_set, HS.out] at hO9
     have hW9 := hW.setCell (p := ⟨w.heap.size, 15, none⟩) (Nat.le_refl _) (.int .i64 4096)
     clear HA HY HS
     go_wp2
     go_ret
     exact ⟨w.heap.size, 16, rfl, hO9, hW9⟩
section
variable {ops : Array Oper} {md : Region.Mode} {W : World} {a0 : Act} {n : Nat} {al : Nat → Bool} {S : Nat → Value → World → Prop} {Q : Exit → Act → World → Prop} {i : Nat} {o : Oper}
theorem step_rp (hal : al i = false) (hg : GuardOn ops md n S i o) {f : FuncId} {xs : Array Operand} {ts : Array TypeId} {c : C3 NT.PN} (ho : o.op = .call { callee := .value (.func f), args := xs, argTypes := ts }) (hcf : ∀ vs w, (callFunc f vs).run Tryz.prog w = .ok (.enter f vs) w)
   (hS : S i = IsP c) (hv : ∀ (a : Act) (w : World), Cl W w → Fr ops n a0 a → Dp ops md n S i a w → ∃ vs, xs.map a.eval = vs ∧ Calls Tryz.prog f vs w fun e w' => ∃ v, e = .returned v ∧ IsP c v w' ∧ Below w.heap.size w w') : StepOk Tryz.prog ops md W a0 n al S Q i o :=
 step_call hal hg fun a w hw hf hd => by
   obtain ⟨vs, h1, h2⟩ := hv a w hw hf hd
   refine ⟨f, vs, ex_fn rfl hcf ho vs h1 w, h2.mono fun _ w' ⟨v, he, hP, hb⟩ => ⟨v, he, ?_, hb⟩⟩
   rw [hS]; exact hP
end
def BD : List Nat := [49, 53, 49, 49, 50, 50, 50, 49, 51, 52, 57, 53, 51, 53, 52, 48, 48, 55, 55, 50, 53, 48, 49, 49, 53, 49, 52, 48, 57, 53, 56, 56, 53, 51, 49, 53, 49, 49, 52, 53, 52, 48, 49, 50, 54, 57, 51, 48, 52, 49, 56, 53, 55, 50, 48, 54, 48, 52, 54, 49, 49, 51, 50, 56, 51, 57, 52, 57, 56, 52, 55, 55, 54, 50, 50, 48, 50]
def bvN (k : Nat) : Nat := (BD.take k).foldl (fun v d => 10 * v + (d - 48)) 0
theorem bvN_step {k : Nat} (h : k < 77) : bvN (k + 1) = 10 * bvN k + (BD.getD k 0 - 48) := by
 unfold bvN
 rw [List.take_add_one, List.foldl_append]
 have : BD[k]? = some (BD.getD k 0) := by rw [List.getD_eq_getElem?_getD, List.getElem?_eq_getElem h]; rfl
 rw [this]; rfl
theorem bd_at : ∀ k, k < 77 → 48 ≤ BD.getD k 0 ∧ BD.getD k 0 ≤ 57 := by
 have h : ∀ k : Fin 77, 48 ≤ BD.getD k.val 0 ∧ BD.getD k.val 0 ≤ 57 := by decide +kernel
 exact fun k hk => h ⟨k, hk⟩
theorem bvN_lt : ∀ k, k ≤ 77 → bvN k < 10 ^ k
 | 0, _ => by decide
 | k + 1, h => by
   have h1 := bvN_lt k (by omega)
   have h2 := bd_at k (by omega)
   rw [bvN_step (by omega), Nat.pow_succ]
   omega
theorem bvN_all : bvN 77 = bxN := by decide +kernel
theorem ten_lt : (10 : Nat) ^ 77 < 65536 ^ 16 := by decide +kernel
abbrev BB : ByteArray := { data := #[49, 53, 49, 49, 50, 50, 50, 49, 51, 52, 57, 53, 51, 53, 52, 48, 48, 55, 55, 50, 53, 48, 49, 49, 53, 49, 52, 48, 57, 53, 56, 56, 53, 51, 49, 53, 49, 49, 52, 53, 52, 48, 49, 50, 54, 57, 51, 48, 52, 49, 56, 53, 55, 50, 48, 54, 48, 52, 54, 49, 49, 51, 50, 56, 51, 57, 52, 57, 56, 52, 55, 55, 54, 50, 50, 48, 50] }
theorem bb_size : BB.size = 77 := rfl
theorem bb_at (k : Nat) (hk : k < 77) (w : World) : (Instr.index 9 (.string BB) (.int .i64 (k : Int))).run Tryz.prog w = .ok (.int .u8 ((BD.getD k 0 : Nat) : Int)) w := by
 rw [run_index_string (P := Tryz.prog) w 9 BB .i64 (k : Int) Tryz.underlying9, dif_pos ⟨by omega, by rw [bb_size]; omega⟩]
 congr 2
 have h : ∀ k : Fin 77, ((BB[k.val]'(by rw [bb_size]; exact k.isLt)).toNat : Int) = ((BD.getD k.val 0 : Nat) : Int) := by decide +kernel
 exact h ⟨k, hk⟩
theorem four_alg {n : Nat} [NeZero n] {y v : Fin n} (h : y * 5 = 4) (hv : 5 * v = 1) : 4 * v = y := by
 have h1 : y * (5 * v) = 4 * v := by rw [← h]; grind
 rw [hv] at h1
 clear h hv
 grind
theorem by_is : (4 : Fin NT.PN) * iv 5 = byF := four_alg (Fin.ext (by decide +kernel)) (iv_mul fun h => by
 have := congrArg Fin.val h
 exact absurd this (by decide))
section
variable {ops : Array Oper} {md : Region.Mode} {W : World} {a0 : Act} {n : Nat} {S : Nat → Value → World → Prop} {i : Nat}
theorem rp2 {f : FuncId} {x y : Operand} {m k : Nat} {c : C3 NT.PN} (hx : KnowsR ops md W a0 n S i x m) (hy : KnowsR ops md W a0 n S i y k) (hc : ∀ {A B : Option Addr} {cA cB : Nat} {a b : List Nat} {w : World}, Rp a m → Rp b k → Nums w .i64 A (nl a) → Nums w .i64 B (nl b) → Calls Tryz.prog f #[.slice A 16 cA, .slice B 16 cB] w fun e w' => ∃ v, e = .returned v ∧ IsP c v w' ∧ Below w.heap.size w w') :
   ∀ (a : Act) (w : World), Cl W w → Fr ops n a0 a → Dp ops md n S i a w → ∃ vs, #[x, y].map a.eval = vs ∧ Calls Tryz.prog f vs w fun e w' => ∃ v, e = .returned v ∧ IsP c v w' ∧ Below w.heap.size w w' := fun a w hw hf hd => by
 obtain ⟨A, c, ys, h1, h2, h3⟩ := hx a w hw hf hd
 obtain ⟨B, d, zs, k1, k2, k3⟩ := hy a w hw hf hd
 refine ⟨_, rfl, ?_⟩
 rw [map2, h1, k1]
 exact hc h2 k2 h3 k3
end
set_option maxRecDepth 4000 in
set_option maxHeartbeats 16000000 in
theorem rf_base (w : World) : Calls Tryz.prog 25 #[] w fun e w' => ∃ v, e = .returned v ∧ IsP ⟨bxF, byF, 1⟩ v w' ∧ Below w.heap.size w w' := by
 have HSB : Hid (∀ k : Nat, k < 77 → ∀ w, (Instr.index 9 (.string { data := #[49, 53, 49, 49, 50, 50, 50, 49, 51, 52, 57, 53, 51, 53, 52, 48, 48, 55, 55, 50, 53, 48, 49, 49, 53, 49, 52, 48, 57, 53, 56, 56, 53, 51, 49, 53, 49, 49, 52, 53, 52, 48, 49, 50, 54, 57, 51, 48, 52, 49, 56, 53, 55, 50, 48, 54, 48, 52, 54, 49, 49, 51, 50, 56, 51, 57, 52, 57, 56, 52, 55, 55, 54, 50, 50, 48, 50] }) (.int .i64 (k : Int))).run Tryz.prog w = .ok (.int .u8 ((BD.getD k 0 : Nat) : Int)) w) := hid bb_at
 have HSZ : ({ data := #[49, 53, 49, 49, 50, 50, 50, 49, 51, 52, 57, 53, 51, 53, 52, 48, 48, 55, 55, 50, 53, 48, 49, 49, 53, 49, 52, 48, 57, 53, 56, 56, 53, 51, 49, 53, 49, 49, 52, 53, 52, 48, 49, 50, 54, 57, 51, 48, 52, 49, 56, 53, 55, 50, 48, 54, 48, 52, 54, 49, 49, 51, 50, 56, 51, 57, 52, 57, 56, 52, 55, 55, 54, 50, 50, 48, 50] } : ByteArray).size = 77 := bb_size
 obtain ⟨z47, s47⟩ := zero_of_info inf47
 have h0 := RB.new w nil3 57 rfl nil3_sl
 have hW0 := below_new w (.cells nil3.toArray 57)
 have hsz0 : (w.alloc (.cells nil3.toArray 57)).heap.size = w.heap.size + 1 := by simp
 obtain ⟨z16, hz⟩ : ∃ z, z = List.replicate 16 0 := ⟨_, rfl⟩
 have hmk : ∀ w : World, (Instr.makeSlice 55 (.int .i64 16) (.int .i64 16)).run Tryz.prog w = .ok (.slice (some ⟨w.heap.size, 0, none⟩) 16 16) (w.alloc (.cells (ints .i64 (nl z16)).toArray 3)) := by rw [hz]; exact make28 16 (by omega)
 have HO : Hid (Owns ((w.alloc (.cells nil3.toArray 57)).alloc (.cells (ints .i64 (nl z16)).toArray 3)) (w.heap.size + 1) 3 .i64 (.slice (some ⟨w.heap.size + 1, 0, none⟩) 16 16) (nl (dgN (bvN 0) 16))) := by
   rw [hz, ← hsz0]; exact hid (Owns.new _ _ 3 .i64 (nl (List.replicate 16 0)) (Nat.le_refl _) (by simp [maxLen]))
 have h0b := h0.next (below_new _ (.cells (ints .i64 (nl z16)).toArray 3))
 have hW := hW0.alloc (by simp) (.cells (ints .i64 (nl z16)).toArray 3)
 clear hz h0 hW0
 have HPV := hid (fun k => @bvN_lt k)
 have HPS : Hid (∀ k, k < 77 → bvN (k + 1) = 10 * bvN k + (BD.getD k 0 - 48)) := hid fun k h => bvN_step h
 have HD : Hid (∀ k, k < 77 → 48 ≤ BD.getD k 0 ∧ BD.getD k 0 ≤ 57) := hid bd_at
 have HALL := hid bvN_all
 have HTEN := hid ten_lt
 have HX2 : Hid (Rp (dgN bxN 16) bxF.val) := by
   rw [bx_val]
   exact hid (dgN_rp 16 bxN (Nat.lt_trans bx_lt (by decide)))
 go_enter Tryz.func25, Tryz.ntmps25
 go_wp2
 have HP0 : Hid (bvN 0 < 10 ^ 0) := hid (HPV.out 0 (by omega))
 clear hmk
 generalize (w.alloc (.cells nil3.toArray 57)).alloc (.cells (ints .i64 (nl z16)).toArray 3) = W0 at *
 generalize ({ data := #[49, 53, 49, 49, 50, 50, 50, 49, 51, 52, 57, 53, 51, 53, 52, 48, 48, 55, 55, 50, 53, 48, 49, 49, 53, 49, 52, 48, 57, 53, 56, 56, 53, 51, 49, 53, 49, 49, 52, 53, 52, 48, 49, 50, 54, 57, 51, 48, 52, 49, 56, 53, 55, 50, 48, 54, 48, 52, 54, 49, 49, 51, 50, 56, 51, 57, 52, 57, 56, 52, 55, 55, 54, 50, 50, 48, 50] } : ByteArray) = sb at *
 go_loopw [3] (fun i wr => ∃ k : Nat, k ≤ 77 ∧ i = .int .i64 k ∧ Owns wr (w.heap.size + 1) 3 .i64 (.slice (some ⟨w.heap.size + 1, 0, none⟩) 16 16) (nl (dgN (bvN k) 16)) ∧ RB wr w.heap.size nil3 ∧ Below w.heap.size w wr) (fun i _ => 77 - (intOf i).toNat)
 case atStart => exact ⟨0, by omega, rfl, HO.out, h0b, hW⟩
 case round =>
   clear HO hW h0b
   obtain ⟨k, hk, rfl, hO, h0, hW⟩ := hrel
   rename World => W1
   by_cases hlt : k < 77
   · have hix := HSB.out k hlt
     have hd := HD.out k hlt
     have HPN := hid (HPS.out k hlt)
     have HPK := hid (HPV.out k hk)
     have HPK1 := hid (HPV.out (k + 1) (by omega))
     generalize BD.getD k 0 = x at *
     obtain ⟨hXL, hXD, hXV⟩ := dgN_rp 16 (bvN k) (Nat.lt_of_lt_of_le (Nat.lt_of_lt_of_le HPK.out (Nat.pow_le_pow_right (by omega) hk)) (Nat.le_of_lt HTEN.out))
     have HX := hid (And.intro hXL (And.intro hXD hXV))
     have HNX : Hid (∀ zs, zs.length = 16 ∧ Digs zs ∧ dv zs = bvN (k + 1) → zs = dgN (bvN (k + 1)) 16) := hid fun zs h => (show Rp zs (bvN (k + 1)) from h).eq
     have HLT : Hid (10 * bvN k + (x - 48) < 65536 ^ 16) := hid (by
       have h1 := HPK1.out
       rw [HPN.out] at h1
       exact Nat.lt_of_lt_of_le (Nat.lt_of_lt_of_le h1 (Nat.pow_le_pow_right (by omega) (by omega))) (Nat.le_of_lt HTEN.out))
     obtain ⟨p1, hp1⟩ : ∃ p1, bvN (k + 1) = p1 := ⟨_, rfl⟩
     rw [hp1] at HPN HPK1 HNX
     have HP1 := hid hp1
     clear hp1
     generalize dgN (bvN k) 16 = xs at *
     obtain ⟨c, hc⟩ : ∃ c, c = x - 48 := ⟨_, rfl⟩
     rw [← hc] at HPN HLT
     have HMI := hid (MulI.start (m := 10) (c := c) HX.out.2.1 (by omega))
     have hx64 : IntKind.i64.wrap (x : Int) = (x : Int) := IntWalk.i64_in _ (by omega)
     have hxc : IntKind.i64.wrap ((x : Int) - 48) = (c : Int) := by rw [IntWalk.i64_in _ (by omega)]; omega
     have k0 : (0 : Int) ≤ k := by omega
     have k38 : (k : Int) < 77 := by omega
     have HC := hid hc
     clear hXL hXD hXV hd hc
     go_wp2
     go_loopw [4, 5] (fun v j wr => ∃ (m cy : Nat) (zs : List Nat), m ≤ 16 ∧ j = .int .i64 m ∧ v = .int .i64 cy ∧ Hid (MulI 10 c xs zs cy m) ∧ Owns wr (w.heap.size + 1) 3 .i64 (.slice (some ⟨w.heap.size + 1, 0, none⟩) 16 16) (nl zs) ∧ RB wr w.heap.size nil3 ∧ Below w.heap.size w wr) (fun _ j _ => 16 - (intOf j).toNat)
     case atStart => exact ⟨0, c, xs, by omega, rfl, rfl, HMI, hO, h0, hW⟩
     case round =>
       clear hO hW HMI h0
       obtain ⟨m, cy, zs, hm, rfl, rfl, HI, hO, h0, hW⟩ := hrel
       rename World => W2
       by_cases hlt2 : m < 16
       · have hzl : (nl zs).length = 16 := by rw [nl_length, HI.out.1]; exact HX.out.1
         have hzm : zs[m]? = some (xs.getD m 0) := by rw [HI.out.2.2.2.2 m (Nat.le_refl _), List.getD_eq_getElem?_getD, List.getElem?_eq_getElem (by rw [HX.out.1]; exact hlt2)]; rfl
         obtain ⟨y, cy0, fy0, HY⟩ := hO.spot (j := m) (by rw [hzl]; exact hlt2)
         have hyx : y = ((xs.getD m 0 : Nat) : Int) := by
           have h := HY.out
           unfold nl at h
           rw [List.getElem?_map, hzm] at h
           exact (Option.some.inj h).symm
         subst hyx
         have hdx := getD_dig HX.out.2.1 m
         have hcy := HI.out.2.2.1
         obtain ⟨n, hn⟩ : ∃ n, n = 10 * xs.getD m 0 + cy := ⟨_, rfl⟩
         have HN := hid (HI.out.step HX.out.2.1 (by rw [HX.out.1]; exact hlt2) hn)
         generalize xs.getD m 0 = x0 at *
         have w1 : IntKind.i64.wrap (10 * (x0 : Int)) = 10 * (x0 : Int) := IntWalk.i64_in _ (by omega)
         have w2 : IntKind.i64.wrap (10 * (x0 : Int) + cy) = (n : Int) := by rw [IntWalk.i64_in _ (by omega)]; omega
         have hnm : (n : Int) % 65536 = ((n % 65536 : Nat) : Int) := by omega
         have hnd : (n : Int) / 65536 = ((n / 65536 : Nat) : Int) := by omega
         have hnt : Int.tmod (n : Int) 65536 = ((n % 65536 : Nat) : Int) := by rw [Int.tmod_eq_emod_of_nonneg (by omega)]; omega
         have hnq : Int.tdiv (n : Int) 65536 = ((n / 65536 : Nat) : Int) := by rw [Int.tdiv_eq_ediv_of_nonneg (by omega)]; omega
         have HNB : Hid (n / 65536 < 10) := hid (by omega)
         have hO9 := hO.store m ((n % 65536 : Nat) : Int)
         rw [nl_set] at hO9
         generalize n % 65536 = r at *
         generalize n / 65536 = q at *
         have hqw : IntKind.i64.wrap (q : Int) = (q : Int) := IntWalk.i64_in _ (by have := HNB.out; omega)
         have hrw : IntKind.i64.wrap (r : Int) = (r : Int) := IntWalk.i64_in _ (by omega)
         have hW9 := hW.setCell (p := ⟨w.heap.size + 1, m, none⟩) (by show w.heap.size ≤ w.heap.size + 1; omega) (.int .i64 (r : Int))
         have h09 := h0.cell (p := ⟨w.heap.size + 1, m, none⟩) (v := .int .i64 (r : Int)) (by show w.heap.size + 1 ≠ w.heap.size; omega)
         have m0 : (0 : Int) ≤ m := by omega
         have m16 : (m : Int) < 16 := by omega
         clear hn HY hdx hcy hzl hzm HI
         go_wp2
         go_roundw
         case rel => exact ⟨m + 1, q, zs.set m r, by omega, by go_num, rfl, HN, hO9, h09, hW9⟩
         case measure => simp [intOf]; omega
       · have e : m = 16 := by omega
         subst e
         have HE : Hid (zs = dgN p1 16) := hid (HNX.out zs (by
           have h := HI.out.end_ HX.out.1 (by rw [HX.out.2.2]; exact HLT.out)
           rw [HX.out.2.2, ← HPN.out] at h
           exact h))
         rw [HE.out] at hO
         clear HI
         go_wp2
         go_roundw
         case rel => exact ⟨k + 1, by omega, by go_num, (by rw [HP1.out]; exact hO), h0, hW⟩
         case measure => simp [intOf]; omega
   · have e : k = 77 := by omega
     rw [e, HALL.out] at hO
     have hk38 : ¬ (k : Int) < 77 := by omega
     have M2 := hO.nums
     clear e HPV HPS HD HSB HALL hlt hO HTEN HP0
     go_upto_region 13 with (fail)
     generalize hw0 : W1 = w0 at *
     clear hw0
     have s0 := hW.size
     refine rSeq 6 43 (fun _ => false) [Is (.slice (some ⟨w.heap.size + 1, 0, none⟩) 16 16), IsN ((4 : Fin NT.PN)).val, IsN ((5 : Fin NT.PN)).val, IsN ((iv (5 : Fin NT.PN))).val, IsN (((4 : Fin NT.PN) * (iv (5 : Fin NT.PN)) : Fin NT.PN)).val, IsP ⟨bxF, byF, 1⟩] [37, 38, 39, 40, 41, 42] (gC (grows_cons (IsN.grows _) (grows_cons (IsN.grows _) (grows_cons (IsN.grows _) (grows_cons (IsN.grows _) (grows_cons (IsP.grows _) grows_nil))))))
       ⟨step_mv rfl (.inl rfl) rfl rfl (kO 2 rfl),
        step_rn rfl (.inl rfl) rfl cf17 rfl (fun a w hw hf hd => ⟨_, rfl, by rw [map1]; exact rf_small 4 (by decide) w⟩),
        step_rn rfl (.inl rfl) rfl cf17 rfl (fun a w hw hf hd => ⟨_, rfl, by rw [map1]; exact rf_small 5 (by decide) w⟩),
        step_rn rfl (.inl rfl) rfl cg19 rfl (rn1 (knowsN_in 2 39 (by decide) (by kernel_rfl) rfl rfl) (fun h1 h2 => rf_inv h1 h2)),
        step_rn rfl (.inl rfl) rfl cf23 rfl (rn2 (knowsN_in 1 38 (by decide) (by kernel_rfl) rfl rfl) (knowsN_in 3 40 (by decide) (by kernel_rfl) rfl rfl) (fun h1 h2 h3 h4 => rf_mul h1 h2 h3 h4)),
        step_rp rfl (.inl rfl) rfl cg56 rfl (rp2 ((kI 0 37 rfl rfl).r HX2 M2) (knowsN_in 4 41 (by decide) (by kernel_rfl) rfl rfl) (fun h1 h2 h3 h4 => by rw [by_is] at h2; exact rf_of (hid h1) h3 (hid h2) h4)), trivial⟩ ?_
     intro val w1 hw hS hap hla
     obtain ⟨A38, c38, y38, e38, H38, M38⟩ := hS 1 38 (by decide) rfl
     obtain ⟨A39, c39, y39, e39, H39, M39⟩ := hS 2 39 (by decide) rfl
     obtain ⟨A40, c40, y40, e40, H40, M40⟩ := hS 3 40 (by decide) rfl
     obtain ⟨A41, c41, y41, e41, H41, M41⟩ := hS 4 41 (by decide) rfl
     obtain ⟨A42, B42, C42, a42, b_42, d42, x42, y42, z42, e42, Hx42, Hy42, Hz42, Mx42, My42, Mz42⟩ := hS 5 42 (by decide) rfl
     simp only [pA, pB, pC, pD, pE, Act.put, pG, pH, pI, eVal hS 0 37 rfl rfl, e38, e39, e40, e41, e42]
     clear hS hap hla e38 e39 e40 e41 e42
     replace h0 := h0.next hw
     replace M2 := M2.below hw
     replace hW := bT hW hw
     clear hw
     have R0 := h0.room (us := (pv3 A42 B42 C42 a42 b_42 d42)) rfl
     replace M2 := h0.row HX2 M2 (pv3 A42 B42 C42 a42 b_42 d42).toArray.toList
     replace M38 := h0.row H38 M38 (pv3 A42 B42 C42 a42 b_42 d42).toArray.toList
     replace M39 := h0.row H39 M39 (pv3 A42 B42 C42 a42 b_42 d42).toArray.toList
     replace M40 := h0.row H40 M40 (pv3 A42 B42 C42 a42 b_42 d42).toArray.toList
     replace M41 := h0.row H41 M41 (pv3 A42 B42 C42 a42 b_42 d42).toArray.toList
     replace Mx42 := h0.row Hx42 Mx42 (pv3 A42 B42 C42 a42 b_42 d42).toArray.toList
     replace My42 := h0.row Hy42 My42 (pv3 A42 B42 C42 a42 b_42 d42).toArray.toList
     replace Mz42 := h0.row Hz42 Mz42 (pv3 A42 B42 C42 a42 b_42 d42).toArray.toList
     replace h0 := h0.stored (us := (pv3 A42 B42 C42 a42 b_42 d42)) rfl (pv3_sl _ _ _ _ _ _)
     replace hW := Below.setCells hW (g := w.heap.size) (by omega) 0 (pv3 A42 B42 C42 a42 b_42 d42).toArray.toList
     with_reducible refine wpList_store_mid (op := ⟨none, .store 57 (.tmp 0) (.tmp 42), _, _, _, _⟩) rfl 57 (.tmp 0) (.tmp 42) rfl w.heap.size 0 (pv3 A42 B42 C42 a42 b_42 d42).toArray rfl rfl R0 (a47 rfl) (sl_one (pv3_sl _ _ _ _ _ _)) ?_
     generalize (w1.setCells w.heap.size 0 (pv3 A42 B42 C42 a42 b_42 d42).toArray.toList) = w2 at *
     clear R0
     go_wp2_with (fail)
     exact ret_rows rfl w.heap.size 0 rfl (pv3 A42 B42 C42 a42 b_42 d42) _ h0.range Tryz.underlying57 rfl (l47 rfl) rfl ⟨_, rfl, ⟨_, _, _, _, _, _, x42, y42, z42, rfl, Hx42, Hy42, Hz42, Mx42, My42, Mz42⟩, hW⟩
theorem RB.isp {w : World} {b : Nat} {vs : List Value} (h : RB w b vs) {c : C3 NT.PN} {v : Value} (hI : IsP c v w) (us : List Value) : IsP c v (w.setCells b 0 us) := by
 obtain ⟨A, B, C, a, b', d, x, y, z, h0, h1, h2, h3, h4, h5, h6⟩ := hI
 exact ⟨A, B, C, a, b', d, x, y, z, h0, h1, h2, h3, h.row h1 h4 us, h.row h2 h5 us, h.row h3 h6 us⟩
def PBox (w : World) (b : Nat) (c : C3 NT.PN) : Prop := ∃ A B C a b' d, RB w b (pv3 A B C a b' d) ∧ IsP c (.agg (pv3 A B C a b' d).toArray) w
theorem IsP.box {w : World} {c : C3 NT.PN} {v : Value} (h : IsP c v w) : ∃ A B C a b' d, v = .agg (pv3 A B C a b' d).toArray ∧ IsP c (.agg (pv3 A B C a b' d).toArray) w := by
 obtain ⟨A, B, C, a, b', d, x, y, z, h0, h1⟩ := h
 exact ⟨A, B, C, a, b', d, h0, A, B, C, a, b', d, x, y, z, rfl, h1⟩
section
variable {ops : Array Oper} {md : Region.Mode} {W : World} {a0 : Act} {n : Nat} {S : Nat → Value → World → Prop} {i : Nat}
theorem rp3 {f : FuncId} {x y z : Operand} {m : Nat} {c c' c2 : C3 NT.PN} (hx : KnowsP ops md W a0 n S i x c) (hy : KnowsP ops md W a0 n S i y c') (hz : KnowsR ops md W a0 n S i z m)
   (hc : ∀ {v v' : Value} {A : Option Addr} {cd : Nat} {a : List Nat} {w : World}, IsP c v w → IsP c' v' w → Rp a m → Nums w .i64 A (nl a) → Calls Tryz.prog f #[v, v', .slice A 16 cd] w fun e w' => ∃ v, e = .returned v ∧ IsP c2 v w' ∧ Below w.heap.size w w') :
   ∀ (a : Act) (w : World), Cl W w → Fr ops n a0 a → Dp ops md n S i a w → ∃ vs, #[x, y, z].map a.eval = vs ∧ Calls Tryz.prog f vs w fun e w' => ∃ v, e = .returned v ∧ IsP c2 v w' ∧ Below w.heap.size w w' := fun a w hw hf hd => by
 obtain ⟨A, cd, ys, h1, h2, h3⟩ := hz a w hw hf hd
 refine ⟨_, rfl, ?_⟩
 have e : #[x, y, z].map a.eval = #[a.eval x, a.eval y, a.eval z] := by simp
 rw [e, h1]
 exact hc (hx a w hw hf hd) (hy a w hw hf hd) h2 h3
end
section
variable {P : Edw.Pt NT.PN}
theorem out_one (hP : Edw.On eF P) {N t : Nat} (h : N / 2 ^ t % 2 = 1) : Edw.add eF (Edw.mul eF (N % 2 ^ t) P) (Edw.mul eF (2 ^ t) P) = Edw.mul eF (N % 2 ^ (t + 1)) P := by
 rw [← Edw.mul_add pn_fld ns_e hP, Nat.mod_pow_succ, h, Nat.mul_one]
theorem out_zero {N t : Nat} (h : N / 2 ^ t % 2 = 0) : N % 2 ^ (t + 1) = N % 2 ^ t := by
 rw [Nat.mod_pow_succ, h, Nat.mul_zero, Nat.add_zero]
theorem two_more (hP : Edw.On eF P) {t : Nat} : Edw.add eF (Edw.mul eF (2 ^ t) P) (Edw.mul eF (2 ^ t) P) = Edw.mul eF (2 ^ (t + 1)) P := by
 rw [dbl_mul pn_fld ns_e hP, Nat.pow_succ, Nat.mul_comm]
theorem rep_sum {c c' : C3 NT.PN} (hP : Edw.On eF P) {j k : Nat} (h : Rep3 iF c (Edw.mul eF j P)) (h' : Rep3 iF c' (Edw.mul eF k P)) : Rep3 iF (add3 dF c c') (Edw.add eF (Edw.mul eF j P) (Edw.mul eF k P)) :=
 rep3_add pn_fld ns_e i_sq de (Edw.mul_on pn_fld ns_e hP j) (Edw.mul_on pn_fld ns_e hP k) h h'
end
theorem bv_high : ∀ (l : List Int) (n : Nat), Byt l → (∀ j, n ≤ j → j < l.length → l.getD j 0 = 0) → bv l < 256 ^ n
 | [], n, _, _ => Int.pow_pos (by omega)
 | a :: l, 0, hb, h => by
   have ih := bv_high l 0 (fun x hx => hb x (List.mem_cons_of_mem _ hx)) (fun j _ hj => by
     have := h (j + 1) (by omega) (by simp; omega)
     simpa using this)
   have h0 := (bv_bd l (fun x hx => hb x (List.mem_cons_of_mem _ hx))).1
   have ha : a = 0 := by
     have := h 0 (by omega) (by simp)
     simpa using this
   rw [Int.pow_zero] at ih ⊢
   show a + 256 * bv l < 1
   omega
 | a :: l, n + 1, hb, h => by
   have ih := bv_high l n (fun x hx => hb x (List.mem_cons_of_mem _ hx)) (fun j hn hj => by
     have := h (j + 1) (by omega) (by simp; omega)
     simpa using this)
   have ha := hb a (List.mem_cons_self ..)
   rw [Int.pow_succ]
   show a + 256 * bv l < 256 ^ n * 256
   omega
theorem all_low {nb : List Int} {l : Nat} (hb : Byt nb) (h : ∀ j, l ≤ j → j < nb.length → nb.getD j 0 = 0) : (bv nb).toNat % 2 ^ (8 * l) = (bv nb).toNat := by
 have h1 := bv_high nb l hb h
 have h2 := (bv_bd nb hb).1
 have e : ((256 : Int) ^ l) = ((2 ^ (8 * l) : Nat) : Int) := by
   rw [Nat.pow_mul, Int.natCast_pow]; rfl
 rw [e] at h1
 exact Nat.mod_eq_of_lt (by generalize 2 ^ (8 * l) = M at *; omega)
set_option maxRecDepth 4000 in
set_option maxHeartbeats 16000000 in
theorem rmul_coreP {c : C3 NT.PN} {P : Edw.Pt NT.PN} {nb : List Int} {W : World} (ln : nb.length = 32) (HB : Hid (Byt nb)) (HR : Hid (Rep3 iF c P)) (HP : Hid (Edw.On eF P)) {Ap Bp Cp : Option Addr} {ap b_p dp : Nat} (Ip : IsP c (.agg (pv3 Ap Bp Cp ap b_p dp).toArray) W) :
   Calls Tryz.prog 24 #[.agg (pv3 Ap Bp Cp ap b_p dp).toArray, .agg (ints .u8 nb).toArray] W fun e w' => ∃ u c', e = .returned u ∧ IsP c' u w' ∧ Rep3 iF c' (Edw.mul eF (bv nb).toNat P) ∧ Below W.heap.size W w' := by
 obtain ⟨z47, s47⟩ := zero_of_info inf47
 have h2 := ((RB.new W (pv3 Ap Bp Cp ap b_p dp) 57 rfl (pv3_sl _ _ _ _ _ _)).next (below_new _ (.cells (ints .u8 nb).toArray 22))).next (below_new _ (.cells nil3.toArray 57))
 have h3 := (By.new (W.alloc (.cells (pv3 Ap Bp Cp ap b_p dp).toArray 57)) nb ln).next (below_new _ (.cells nil3.toArray 57))
 have h4 := RB.new ((W.alloc (.cells (pv3 Ap Bp Cp ap b_p dp).toArray 57)).alloc (.cells (ints .u8 nb).toArray 22)) nil3 57 rfl nil3_sl
 have hW := ((below_new W (.cells (pv3 Ap Bp Cp ap b_p dp).toArray 57)).alloc (by simp) (.cells (ints .u8 nb).toArray 22)).alloc (by simp; omega) (.cells nil3.toArray 57)
 simp only [World.size_alloc] at h3 h4
 replace Ip := Ip.next hW
 go_enter Tryz.func24, Tryz.ntmps24
 go_upto_region 1 with (fail)
 generalize ((W.alloc (.cells (pv3 Ap Bp Cp ap b_p dp).toArray 57)).alloc (.cells (ints .u8 nb).toArray 22)).alloc (.cells nil3.toArray 57) = w0 at *
 have s0 := hW.size
 refine rSeq 2 53 (fun _ => false) [IsN (dF).val, IsN (dF).val] [12, 5] (grows_cons (IsN.grows _) (grows_cons (IsN.grows _) grows_nil))
   ⟨step_rn rfl (.inl rfl) rfl cg21 rfl (fun a w hw hf hd => ⟨#[], by simp, rf_d w⟩),
    step_copyN rfl (.inl rfl) 0 12 (.inr rfl) rfl (by decide) (by kernel_rfl) rfl rfl, trivial⟩ ?_
 intro val w1 hw hS hap hla
 obtain ⟨A12, c12, y12, e12, H12, M12⟩ := hS 0 12 (by decide) rfl
 obtain ⟨A5, c5, y5, e5, H5, M5⟩ := hS 1 5 (by decide) rfl
 simp only [pA, pB, pC, pD, pE, Act.put, pG, pH, pI, e12, e5]
 clear hS hap hla e12 e5 H12 M12
 replace h2 := h2.next hw
 replace h3 := h3.next hw
 replace h4 := h4.next hw
 replace Ip := Ip.next hw
 replace hW := bT hW hw
 clear hw
 go_upto_region 2 with (fail)
 have s1 := hW.size
 refine rSeq 3 53 (fun _ => false) [IsN ((0 : Fin NT.PN)).val, IsN ((1 : Fin NT.PN)).val, IsP ⟨0, 1, 1⟩] [13, 14, 15] (grows_cons (IsN.grows _) (grows_cons (IsN.grows _) (grows_cons (IsP.grows _) grows_nil)))
   ⟨step_rn rfl (.inl rfl) rfl cf17 rfl (fun a w hw hf hd => ⟨_, rfl, by rw [map1]; exact rf_small 0 (by decide) w⟩),
    step_rn rfl (.inl rfl) rfl cf17 rfl (fun a w hw hf hd => ⟨_, rfl, by rw [map1]; exact rf_small 1 (by decide) w⟩),
    step_rp rfl (.inl rfl) rfl cg56 rfl (rp2 (knowsN_in 0 13 (by decide) (by kernel_rfl) rfl rfl) (knowsN_in 1 14 (by decide) (by kernel_rfl) rfl rfl) (fun h1 h2 h3 h4 => rf_of (hid h1) h3 (hid h2) h4)), trivial⟩ ?_
 intro val w2 hw hS hap hla
 obtain ⟨A13, c13, y13, e13, H13, M13⟩ := hS 0 13 (by decide) rfl
 obtain ⟨A14, c14, y14, e14, H14, M14⟩ := hS 1 14 (by decide) rfl
 obtain ⟨A15, B15, C15, a15, b_15, d15, x15, y15, z15, e15, Hx15, Hy15, Hz15, Mx15, My15, Mz15⟩ := hS 2 15 (by decide) rfl
 simp only [pA, pB, pC, pD, pE, Act.put, pG, pH, pI, e13, e14, e15]
 clear hS hap hla e13 e14 e15
 replace h2 := h2.next hw
 replace h3 := h3.next hw
 replace h4 := h4.next hw
 replace Ip := Ip.next hw
 replace M5 := M5.below hw
 replace hW := bT hW hw
 clear hw
 have hn := RB.new w2 nil3 57 rfl nil3_sl
 have Rn := hn.room (us := (pv3 A15 B15 C15 a15 b_15 d15)) rfl
 have bn_ := below_new w2 (.cells nil3.toArray 57)
 have lt2 := h2.lt
 have lt3 := h3.lt
 have lt4 := h4.lt
 have I15 : IsP ⟨0, 1, 1⟩ (.agg (pv3 A15 B15 C15 a15 b_15 d15).toArray) w2 := ⟨_, _, _, _, _, _, x15, y15, z15, rfl, Hx15, Hy15, Hz15, Mx15, My15, Mz15⟩
 replace I15 := hn.isp (I15.next bn_) (pv3 A15 B15 C15 a15 b_15 d15).toArray.toList
 replace Ip := hn.isp (Ip.next bn_) (pv3 A15 B15 C15 a15 b_15 d15).toArray.toList
 replace M5 := hn.row H5 (M5.below bn_) (pv3 A15 B15 C15 a15 b_15 d15).toArray.toList
 replace h2 := (h2.next bn_).pastAt (b' := w2.heap.size) 0 (pv3 A15 B15 C15 a15 b_15 d15).toArray.toList (by omega)
 replace h3 := (h3.next bn_).past (b' := w2.heap.size) (pv3 A15 B15 C15 a15 b_15 d15).toArray.toList (by omega)
 replace h4 := (h4.next bn_).pastAt (b' := w2.heap.size) 0 (pv3 A15 B15 C15 a15 b_15 d15).toArray.toList (by omega)
 have h6 := hn.stored (us := (pv3 A15 B15 C15 a15 b_15 d15)) rfl (pv3_sl _ _ _ _ _ _)
 replace hW := Below.setCells (hW.trans (Below.mono bn_ hW.size)) (g := w2.heap.size) hW.size 0 (pv3 A15 B15 C15 a15 b_15 d15).toArray.toList
 have w6_ : W.heap.size + 1 + 1 < w2.heap.size := lt4
 clear Mx15 My15 Mz15 bn_ hn M13 M14 lt2 lt3 lt4
 go_wp2_with (first
   | (with_reducible refine wpList_store_mid (op := ⟨none, .store 57 (.tmp 6) (.tmp 15), _, _, _, _⟩) rfl 57 (.tmp 6) (.tmp 15) rfl w2.heap.size 0 (pv3 A15 B15 C15 a15 b_15 d15).toArray rfl rfl Rn (a47 rfl) (sl_one (pv3_sl _ _ _ _ _ _)) ?_; generalize (w2.alloc (.cells nil3.toArray 57)).setCells w2.heap.size 0 (pv3 A15 B15 C15 a15 b_15 d15).toArray.toList = w30 at *))
 clear Rn
 generalize w2.heap.size = b6 at *
 have hp : PBox w30 W.heap.size c := ⟨_, _, _, _, _, _, h2, Ip⟩
 have ho : PBox w30 b6 ⟨0, 1, 1⟩ := ⟨_, _, _, _, _, _, h6, I15⟩
 have HLN := hid ln
 clear h2 Ip h6 I15 Hx15 Hy15 Hz15 H13 H14
 go_loopw [7, 8] (fun v i wr => ∃ (k l : Nat), k ≤ 32 ∧ l ≤ k ∧ i = .int .i64 k ∧ v = .int .i64 l ∧ Hid (∀ j, l ≤ j → j < k → nb.getD j 0 = 0) ∧ PBox wr W.heap.size c ∧ PBox wr b6 ⟨0, 1, 1⟩ ∧ By wr (W.heap.size + 1) nb ∧ RB wr (W.heap.size + 1 + 1) nil3 ∧ Nums wr .i64 A5 (nl y5) ∧ Below W.heap.size W wr) (fun _ i _ => 32 - (intOf i).toNat)
 case atStart => exact ⟨0, 0, by omega, by omega, rfl, rfl, hid (fun j h1 h2 => by omega), hp, ho, h3, h4, M5, hW⟩
 case round =>
   clear hp ho h3 h4 M5 hW
   obtain ⟨k, l, hk, hlk, rfl, rfl, HZ, hp, ho, h3, h4, M5, hW⟩ := hrel
   rename World => w31
   by_cases hlt : k < 32
   · have k0 : (0 : Int) ≤ k := by omega
     have k32 : (k : Int) < 32 := by omega
     obtain ⟨x, cx, _, HX⟩ := h3.1.spot (i := k) (by rw [HLN.out]; omega)
     rw [Nat.zero_add] at cx
     have hxb := HB.out.at_ HX.out
     have HXD : Hid (nb.getD k 0 = x) := hid (by simp [List.getD, HX.out])
     have hkw : IntKind.i64.wrap ((k : Int) + 1) = ((k + 1 : Nat) : Int) := by rw [IntWalk.i64_in _ (by omega)]; omega
     clear HX
     by_cases hx0 : 0 < x
     · clear hxb
       go_wp2
       go_roundw
       case rel => exact ⟨k + 1, k + 1, by omega, by omega, by go_num, by go_num, hid (fun j h1 h2 => by omega), hp, ho, h3, h4, M5, hW⟩
       case measure => simp [intOf]; omega
     · have hx1 : x = 0 := by omega
       subst hx1
       clear hxb hx0
       go_wp2
       go_roundw
       case rel =>
         refine ⟨k + 1, l, by omega, by omega, by go_num, rfl, hid (fun j h1 h2 => ?_), hp, ho, h3, h4, M5, hW⟩
         by_cases hj : j = k
         · rw [hj]; exact HXD.out
         · exact HZ.out j h1 (by omega)
       case measure => simp [intOf]; omega
   · have e : k = 32 := by omega
     rw [e] at HZ
     have hk32 : ¬ (k : Int) < 32 := by omega
     have HFIN : Hid ((bv nb).toNat % 2 ^ (8 * l) = (bv nb).toNat) := hid (all_low HB.out (fun j h1 h2 => HZ.out j h1 (by rw [HLN.out] at h2; exact h2)))
     have hl32 : l ≤ 32 := by omega
     have HRO : Hid (Rep3 iF ⟨0, 1, 1⟩ (Edw.mul eF ((bv nb).toNat % 2 ^ (8 * 0)) P)) := hid (by
       rw [Nat.mul_zero, Nat.pow_zero, Nat.mod_one]
       exact rep3_nought pn_fld i_sq)
     have HRP : Hid (Rep3 iF c (Edw.mul eF (2 ^ (8 * 0)) P)) := hid (by
       rw [Nat.mul_zero, Nat.pow_zero, Edw.mul_one pn_fld ns_e HP.out]
       exact HR.out)
     clear e HZ hlk hk hlt
     go_wp2
     go_loopw [9] (fun i wr => ∃ (k : Nat) (cp co : C3 NT.PN), k ≤ l ∧ i = .int .i64 k ∧ Hid (Rep3 iF co (Edw.mul eF ((bv nb).toNat % 2 ^ (8 * k)) P)) ∧ Hid (Rep3 iF cp (Edw.mul eF (2 ^ (8 * k)) P)) ∧ PBox wr W.heap.size cp ∧ PBox wr b6 co ∧ By wr (W.heap.size + 1) nb ∧ RB wr (W.heap.size + 1 + 1) nil3 ∧ Nums wr .i64 A5 (nl y5) ∧ Below W.heap.size W wr) (fun i _ => l - (intOf i).toNat)
     case atStart => exact ⟨0, c, ⟨0, 1, 1⟩, by omega, rfl, HRO, HRP, hp, ho, h3, h4, M5, hW⟩
     case round =>
       clear hp ho h3 h4 M5 hW HRO HRP hk32
       obtain ⟨i, cp, co, hi, rfl, HRO, HRP, hp, ho, h3, h4, M5, hW⟩ := hrel
       rename World => w32
       by_cases hlt : i < l
       · obtain ⟨x', cx, _, HX'⟩ := h3.1.spot (i := i) (by rw [HLN.out]; omega)
         rw [Nat.zero_add] at cx
         have hx' := HB.out.at_ HX'.out
         obtain ⟨x, rfl⟩ := Int.eq_ofNat_of_zero_le hx'.1
         have hx : x < 256 := by omega
         have HBT : Hid (∀ k, k < 8 → (bv nb).toNat / 2 ^ (8 * i + k) % 2 = x / 2 ^ k % 2) := hid fun k hk => byte_bit HB.out i k x hk HX'.out
         have i0 : (0 : Int) ≤ i := by omega
         have i1 : (i : Int) < l := by omega
         have i32 : (i : Int) < 32 := by omega
         have hxw : IntKind.i64.wrap (x : Int) = x := IntWalk.i64_in _ (by omega)
         have hiw : IntKind.i64.wrap ((i : Int) + 1) = ((i + 1 : Nat) : Int) := by rw [IntWalk.i64_in _ (by omega)]; omega
         clear hx' HX'
         go_wp2
         go_loopw [10, 11] (fun cv j wr => ∃ (k cc : Nat) (cp co : C3 NT.PN), k ≤ 8 ∧ j = .int .i64 k ∧ cv = .int .i64 cc ∧ cc < 256 ∧ Hid (cc = x / 2 ^ k) ∧ Hid (Rep3 iF co (Edw.mul eF ((bv nb).toNat % 2 ^ (8 * i + k)) P)) ∧ Hid (Rep3 iF cp (Edw.mul eF (2 ^ (8 * i + k)) P)) ∧ PBox wr W.heap.size cp ∧ PBox wr b6 co ∧ By wr (W.heap.size + 1) nb ∧ RB wr (W.heap.size + 1 + 1) nil3 ∧ Nums wr .i64 A5 (nl y5) ∧ Below W.heap.size W wr) (fun _ j _ => 8 - (intOf j).toNat)
         case atStart => exact ⟨0, x, cp, co, by omega, rfl, rfl, hx, hid (by simp), HRO, HRP, hp, ho, h3, h4, M5, hW⟩
         case round =>
           clear hp ho h3 h4 M5 hW HRO HRP cx hlt
           obtain ⟨k, cc, cp, co, hk, rfl, rfl, hcc, HC, HRO, HRP, hp, ho, h3, h4, M5, hW⟩ := hrel
           rename World => w40
           by_cases hlt : k < 8
           · have HBK : Hid ((bv nb).toNat / 2 ^ (8 * i + k) % 2 = cc % 2) := hid (by rw [HBT.out k hlt, HC.out])
             have HC2 : Hid (cc / 2 = x / 2 ^ (k + 1)) := hid (by rw [HC.out, Nat.pow_succ, Nat.div_div_eq_div_mul])
             have HCV : Hid (Value.int .i64 ((cc : Int) / 2) = Value.int .i64 ((cc / 2 : Nat) : Int)) := hid (by congr 1)
             have k0 : (0 : Int) ≤ k := by omega
             have k8 : (k : Int) < 8 := by omega
             have hkw : IntKind.i64.wrap ((k : Int) + 1) = ((k + 1 : Nat) : Int) := by rw [IntWalk.i64_in _ (by omega)]; omega
             obtain ⟨Ap, Bp, Cp, ap, b_p, dp, h2, Ip⟩ := hp
             obtain ⟨Ao, Bo, Co, ao, b_o, do_, h6, Io⟩ := ho
             have HR2 := hid (rep_sum HP.out HRP.out HRP.out)
             rw [two_more HP.out] at HR2
             by_cases hbit : cc % 2 = 1
             · have hbe : ((cc : Int) % 2 == 1) = true := by simp; omega
               have HRO2 := hid (rep_sum HP.out HRO.out HRP.out)
               rw [out_one HP.out (HBK.out.trans hbit)] at HRO2
               go_upto_region 17 with (fail)
               have s40 := hW.size
               refine rSeq 4 53 (fun _ => false) [Is (.agg (pv3 Ao Bo Co ao b_o do_).toArray), Is (.agg (pv3 Ap Bp Cp ap b_p dp).toArray), Is (.slice A5 16 c5), IsP (add3 dF co cp)] [42, 43, 44, 45] (gC (gC (gC (grows_cons (IsP.grows _) grows_nil))))
                 ⟨step_rb rfl (.inl rfl) h6 6 rfl (by kernel_rfl) rfl rfl,
                  step_rb rfl (.inl rfl) h2 2 rfl (by kernel_rfl) rfl rfl,
                  step_mv rfl (.inl rfl) rfl rfl (kO 5 rfl),
                  step_rp rfl (.inl rfl) rfl cg31 rfl (rp3 ((kI 0 42 rfl rfl).p Io) ((kI 1 43 rfl rfl).p Ip) ((kI 2 44 rfl rfl).r H5 M5) (fun h1 h2 h3 h4 => rp_add h1 h2 h3 h4)), trivial⟩ ?_
               intro val w41 hw hS hap hla
               obtain ⟨A45, B45, C45, a45, b_45, d45, x45, y45, z45, e45, Hx45, Hy45, Hz45, Mx45, My45, Mz45⟩ := hS 3 45 (by decide) rfl
               simp only [pA, pB, pC, pD, pE, Act.put, pG, pH, pI, eVal hS 0 42 rfl rfl, eVal hS 1 43 rfl rfl, eVal hS 2 44 rfl rfl, e45]
               clear hS hap hla e45
               replace h2 := h2.next hw
               replace h3 := h3.next hw
               replace h4 := h4.next hw
               replace h6 := h6.next hw
               replace Ip := Ip.next hw
               replace Io := Io.next hw
               replace M5 := M5.below hw
               replace hW := bT hW hw
               clear hw
               have Io2 : IsP (add3 dF co cp) (.agg (pv3 A45 B45 C45 a45 b_45 d45).toArray) w41 := ⟨_, _, _, _, _, _, x45, y45, z45, rfl, Hx45, Hy45, Hz45, Mx45, My45, Mz45⟩
               have R6 := h6.room (us := (pv3 A45 B45 C45 a45 b_45 d45)) rfl
               replace Io2 := h6.isp Io2 (pv3 A45 B45 C45 a45 b_45 d45).toArray.toList
               replace Ip := h6.isp Ip (pv3 A45 B45 C45 a45 b_45 d45).toArray.toList
               replace M5 := h6.row H5 M5 (pv3 A45 B45 C45 a45 b_45 d45).toArray.toList
               replace h2 := h2.pastAt 0 (b' := b6) (pv3 A45 B45 C45 a45 b_45 d45).toArray.toList (by omega)
               replace h3 := h3.past (b' := b6) (pv3 A45 B45 C45 a45 b_45 d45).toArray.toList (by omega)
               replace h4 := h4.pastAt 0 (b' := b6) (pv3 A45 B45 C45 a45 b_45 d45).toArray.toList (by omega)
               replace h6 := h6.stored (us := (pv3 A45 B45 C45 a45 b_45 d45)) rfl (pv3_sl _ _ _ _ _ _)
               replace hW := Below.setCells hW (g := b6) (by omega) 0 (pv3 A45 B45 C45 a45 b_45 d45).toArray.toList
               clear Mx45 My45 Mz45 Hx45 Hy45 Hz45
               with_reducible refine wpList_store_mid (op := ⟨none, .store 57 (.tmp 6) (.tmp 45), _, _, _, _⟩) rfl 57 (.tmp 6) (.tmp 45) rfl b6 0 (pv3 A45 B45 C45 a45 b_45 d45).toArray rfl rfl R6 (a47 rfl) (sl_one (pv3_sl _ _ _ _ _ _)) ?_
               generalize (w41.setCells b6 0 (pv3 A45 B45 C45 a45 b_45 d45).toArray.toList) = w42 at *
               clear R6
               clear Io
               go_upto_region 18 with (fail)
               have s42 := hW.size
               refine rSeq 4 53 (fun _ => false) [Is (.agg (pv3 Ap Bp Cp ap b_p dp).toArray), Is (.agg (pv3 Ap Bp Cp ap b_p dp).toArray), Is (.slice A5 16 c5), IsP (add3 dF cp cp)] [46, 47, 48, 49] (gC (gC (gC (grows_cons (IsP.grows _) grows_nil))))
                 ⟨step_rb rfl (.inl rfl) h2 2 rfl (by kernel_rfl) rfl rfl,
                  step_rb rfl (.inl rfl) h2 2 rfl (by kernel_rfl) rfl rfl,
                  step_mv rfl (.inl rfl) rfl rfl (kO 5 rfl),
                  step_rp rfl (.inl rfl) rfl cg31 rfl (rp3 ((kI 0 46 rfl rfl).p Ip) ((kI 1 47 rfl rfl).p Ip) ((kI 2 48 rfl rfl).r H5 M5) (fun h1 h2 h3 h4 => rp_add h1 h2 h3 h4)), trivial⟩ ?_
               intro val w43 hw hS hap hla
               obtain ⟨A49, B49, C49, a49, b_49, d49, x49, y49, z49, e49, Hx49, Hy49, Hz49, Mx49, My49, Mz49⟩ := hS 3 49 (by decide) rfl
               simp only [pA, pB, pC, pD, pE, Act.put, pG, pH, pI, eVal hS 0 46 rfl rfl, eVal hS 1 47 rfl rfl, eVal hS 2 48 rfl rfl, e49]
               clear hS hap hla e49
               replace h2 := h2.next hw
               replace h3 := h3.next hw
               replace h4 := h4.next hw
               replace h6 := h6.next hw
               replace Ip := Ip.next hw
               replace M5 := M5.below hw
               replace Io2 := Io2.next hw
               replace hW := bT hW hw
               clear hw
               have Ip2 : IsP (add3 dF cp cp) (.agg (pv3 A49 B49 C49 a49 b_49 d49).toArray) w43 := ⟨_, _, _, _, _, _, x49, y49, z49, rfl, Hx49, Hy49, Hz49, Mx49, My49, Mz49⟩
               have R2 := h2.room (us := (pv3 A49 B49 C49 a49 b_49 d49)) rfl
               replace Ip2 := h2.isp Ip2 (pv3 A49 B49 C49 a49 b_49 d49).toArray.toList
               replace Io2 := h2.isp Io2 (pv3 A49 B49 C49 a49 b_49 d49).toArray.toList
               replace M5 := h2.row H5 M5 (pv3 A49 B49 C49 a49 b_49 d49).toArray.toList
               replace h3 := h3.past (b' := W.heap.size) (pv3 A49 B49 C49 a49 b_49 d49).toArray.toList (by omega)
               replace h4 := h4.pastAt 0 (b' := W.heap.size) (pv3 A49 B49 C49 a49 b_49 d49).toArray.toList (by omega)
               replace h6 := h6.pastAt 0 (b' := W.heap.size) (pv3 A49 B49 C49 a49 b_49 d49).toArray.toList (by omega)
               replace h2 := h2.stored (us := (pv3 A49 B49 C49 a49 b_49 d49)) rfl (pv3_sl _ _ _ _ _ _)
               replace hW := Below.setCells hW (g := W.heap.size) (by omega) 0 (pv3 A49 B49 C49 a49 b_49 d49).toArray.toList
               clear Mx49 My49 Mz49 Hx49 Hy49 Hz49
               with_reducible refine wpList_store_mid (op := ⟨none, .store 57 (.tmp 2) (.tmp 49), _, _, _, _⟩) rfl 57 (.tmp 2) (.tmp 49) rfl W.heap.size 0 (pv3 A49 B49 C49 a49 b_49 d49).toArray rfl rfl R2 (a47 rfl) (sl_one (pv3_sl _ _ _ _ _ _)) ?_
               generalize (w43.setCells W.heap.size 0 (pv3 A49 B49 C49 a49 b_49 d49).toArray.toList) = w44 at *
               clear R2
               clear Ip
               go_wp2
               go_roundw
               case rel => exact ⟨k + 1, cc / 2, _, _, by omega, by go_num, HCV.out, by omega, HC2, HRO2, HR2, ⟨_, _, _, _, _, _, h2, Ip2⟩, ⟨_, _, _, _, _, _, h6, Io2⟩, h3, h4, M5, hW⟩
               case measure => simp [intOf]; omega
             · have hbe : ((cc : Int) % 2 == 1) = false := by simp; omega
               have HRO2 := HRO
               rw [← out_zero (N := (bv nb).toNat) (t := 8 * i + k) (by rw [HBK.out]; omega)] at HRO2
               go_upto_region 18 with (fail)
               have s40 := hW.size
               refine rSeq 4 53 (fun _ => false) [Is (.agg (pv3 Ap Bp Cp ap b_p dp).toArray), Is (.agg (pv3 Ap Bp Cp ap b_p dp).toArray), Is (.slice A5 16 c5), IsP (add3 dF cp cp)] [46, 47, 48, 49] (gC (gC (gC (grows_cons (IsP.grows _) grows_nil))))
                 ⟨step_rb rfl (.inl rfl) h2 2 rfl (by kernel_rfl) rfl rfl,
                  step_rb rfl (.inl rfl) h2 2 rfl (by kernel_rfl) rfl rfl,
                  step_mv rfl (.inl rfl) rfl rfl (kO 5 rfl),
                  step_rp rfl (.inl rfl) rfl cg31 rfl (rp3 ((kI 0 46 rfl rfl).p Ip) ((kI 1 47 rfl rfl).p Ip) ((kI 2 48 rfl rfl).r H5 M5) (fun h1 h2 h3 h4 => rp_add h1 h2 h3 h4)), trivial⟩ ?_
               intro val w41 hw hS hap hla
               obtain ⟨A49, B49, C49, a49, b_49, d49, x49, y49, z49, e49, Hx49, Hy49, Hz49, Mx49, My49, Mz49⟩ := hS 3 49 (by decide) rfl
               simp only [pA, pB, pC, pD, pE, Act.put, pG, pH, pI, eVal hS 0 46 rfl rfl, eVal hS 1 47 rfl rfl, eVal hS 2 48 rfl rfl, e49]
               clear hS hap hla e49
               replace h2 := h2.next hw
               replace h3 := h3.next hw
               replace h4 := h4.next hw
               replace h6 := h6.next hw
               replace Ip := Ip.next hw
               replace Io := Io.next hw
               replace M5 := M5.below hw
               replace hW := bT hW hw
               clear hw
               have Ip2 : IsP (add3 dF cp cp) (.agg (pv3 A49 B49 C49 a49 b_49 d49).toArray) w41 := ⟨_, _, _, _, _, _, x49, y49, z49, rfl, Hx49, Hy49, Hz49, Mx49, My49, Mz49⟩
               have R2 := h2.room (us := (pv3 A49 B49 C49 a49 b_49 d49)) rfl
               replace Ip2 := h2.isp Ip2 (pv3 A49 B49 C49 a49 b_49 d49).toArray.toList
               replace Io := h2.isp Io (pv3 A49 B49 C49 a49 b_49 d49).toArray.toList
               replace M5 := h2.row H5 M5 (pv3 A49 B49 C49 a49 b_49 d49).toArray.toList
               replace h3 := h3.past (b' := W.heap.size) (pv3 A49 B49 C49 a49 b_49 d49).toArray.toList (by omega)
               replace h4 := h4.pastAt 0 (b' := W.heap.size) (pv3 A49 B49 C49 a49 b_49 d49).toArray.toList (by omega)
               replace h6 := h6.pastAt 0 (b' := W.heap.size) (pv3 A49 B49 C49 a49 b_49 d49).toArray.toList (by omega)
               replace h2 := h2.stored (us := (pv3 A49 B49 C49 a49 b_49 d49)) rfl (pv3_sl _ _ _ _ _ _)
               replace hW := Below.setCells hW (g := W.heap.size) (by omega) 0 (pv3 A49 B49 C49 a49 b_49 d49).toArray.toList
               clear Mx49 My49 Mz49 Hx49 Hy49 Hz49
               with_reducible refine wpList_store_mid (op := ⟨none, .store 57 (.tmp 2) (.tmp 49), _, _, _, _⟩) rfl 57 (.tmp 2) (.tmp 49) rfl W.heap.size 0 (pv3 A49 B49 C49 a49 b_49 d49).toArray rfl rfl R2 (a47 rfl) (sl_one (pv3_sl _ _ _ _ _ _)) ?_
               generalize (w41.setCells W.heap.size 0 (pv3 A49 B49 C49 a49 b_49 d49).toArray.toList) = w42 at *
               clear R2
               clear Ip
               go_wp2
               go_roundw
               case rel => exact ⟨k + 1, cc / 2, _, _, by omega, by go_num, HCV.out, by omega, HC2, HRO2, HR2, ⟨_, _, _, _, _, _, h2, Ip2⟩, ⟨_, _, _, _, _, _, h6, Io⟩, h3, h4, M5, hW⟩
               case measure => simp [intOf]; omega
           · have e : k = 8 := by omega
             have e8 : 8 * i + k = 8 * (i + 1) := by omega
             rw [e8] at HRO HRP
             have hk8 : ¬ (k : Int) < 8 := by omega
             clear e8 e
             go_wp2
             go_roundw
             case rel => exact ⟨i + 1, cp, co, by omega, by go_num, HRO, HRP, hp, ho, h3, h4, M5, hW⟩
             case measure => simp [intOf]; omega
       · have e : i = l := by omega
         rw [e, HFIN.out] at HRO
         have hil : ¬ (i : Int) < l := by omega
         obtain ⟨Ao, Bo, Co, ao, b_o, do_, h6, Io⟩ := ho
         clear e hp h3 HRP hlt hi
         have VR := h4.room (us := (pv3 Ao Bo Co ao b_o do_)) rfl
         have Io2 := h4.isp Io (pv3 Ao Bo Co ao b_o do_).toArray.toList
         have h9 := h4.stored (us := (pv3 Ao Bo Co ao b_o do_)) rfl (pv3_sl _ _ _ _ _ _)
         replace hW := Below.setCells hW (g := W.heap.size + 1 + 1) (by omega) 0 (pv3 Ao Bo Co ao b_o do_).toArray.toList
         clear h4 Io
         go_wp2_with (first
           | (with_reducible refine wpList_load_mid (op := ⟨some 52, .load 57 (.tmp 6), _, _, _, _⟩) rfl 57 (.tmp 6) rfl b6 0 rfl (pv3 Ao Bo Co ao b_o do_) _ (h6.range) Tryz.underlying57 rfl (l47 rfl) ?_)
           | (with_reducible refine wpList_store_mid (op := ⟨none, .store 57 (.tmp 4) (.tmp 52), _, _, _, _⟩) rfl 57 (.tmp 4) (.tmp 52) rfl (W.heap.size + 1 + 1) 0 (pv3 Ao Bo Co ao b_o do_).toArray rfl rfl VR (a47 rfl) (sl_one (pv3_sl _ _ _ _ _ _)) ?_))
         refine ret_rows rfl (W.heap.size + 1 + 1) 0 rfl (pv3 Ao Bo Co ao b_o do_) _ h9.range Tryz.underlying57 rfl (l47 rfl) rfl ?_
         first | exact ⟨_, rfl, co, Io2, HRO.out, hW⟩ | exact ⟨_, co, rfl, Io2, HRO.out, hW⟩
def IsQ (P : Edw.Pt NT.PN) : Value → World → Prop := fun v w => ∃ c, IsP c v w ∧ Rep3 iF c P
theorem IsQ.next {P : Edw.Pt NT.PN} {v : Value} {w w' : World} (h : IsQ P v w) (hb : Below w.heap.size w w') : IsQ P v w' := by
 obtain ⟨c, h1, h2⟩ := h
 exact ⟨c, h1.next hb, h2⟩
theorem IsQ.grows (P : Edw.Pt NT.PN) : Grows (IsQ P) := fun _ _ _ h hb => h.next hb
theorem rq_mul {P : Edw.Pt NT.PN} (hP : Edw.On eF P) {v : Value} {w : World} {nb : List Int} (h : IsQ P v w) (ln : nb.length = 32) (hb : Byt nb) : Calls Tryz.prog 24 #[v, .agg (ints .u8 nb).toArray] w fun e w' => ∃ u, e = .returned u ∧ IsQ (Edw.mul eF (bn nb) P) u w' ∧ Below w.heap.size w w' := by
 obtain ⟨c, h1, h2⟩ := h
 obtain ⟨A, B, C, a, b, d, rfl, h3⟩ := h1.box
 refine (rmul_coreP ln (hid hb) (hid h2) (hid hP) h3).mono ?_
 rintro e w' ⟨u, c', he, hu, hr, hB⟩
 exact ⟨u, he, ⟨c', hu, hr⟩, hB⟩
theorem rq_bytes {P : Edw.Pt NT.PN} {v : Value} {w : World} (h : IsQ P v w) : Calls Tryz.prog 23 #[v] w fun e w' => e = .returned (.agg (ints .u8 (bytesP P)).toArray) ∧ Below w.heap.size w w' := by
 obtain ⟨c, h1, h2⟩ := h
 have h3 := rp_bytes h1
 obtain ⟨e1, e2⟩ := rep3_aff h2 (iv_mul h2.nz)
 rw [e1, e2] at h3
 exact h3
theorem base_q {v : Value} {w : World} (h : IsP ⟨bxF, byF, 1⟩ v w) : IsQ baseP v w := ⟨_, h, rep3_of pn_fld i_sq bxF byF⟩
section
variable {ops : Array Oper} {md : Region.Mode} {W : World} {a0 : Act} {n : Nat} {al : Nat → Bool} {S : Nat → Value → World → Prop} {Q : Exit → Act → World → Prop} {i : Nat} {o : Oper}
def KnowsQ (ops : Array Oper) (md : Region.Mode) (W : World) (a0 : Act) (n : Nat) (S : Nat → Value → World → Prop) (i : Nat) (x : Operand) (P : Edw.Pt NT.PN) : Prop := ∀ (a : Act) (w : World), Cl W w → Fr ops n a0 a → Dp ops md n S i a w → IsQ P (a.eval x) w
theorem knowsQ_in (j d : Nat) {P : Edw.Pt NT.PN} (hj : j < n) (hw : Region.waitsFor md ops i j = true) (hd : dstOf ops j = some d) (hS : S j = IsQ P) : KnowsQ ops md W a0 n S i (.tmp d) P := fun a w _ _ hdp => by
 have h := hdp j d hj hw hd
 rw [hS] at h
 exact h
theorem step_rq (hal : al i = false) (hg : GuardOn ops md n S i o) {f : FuncId} {xs : Array Operand} {ts : Array TypeId} {P : Edw.Pt NT.PN} (ho : o.op = .call { callee := .value (.func f), args := xs, argTypes := ts }) (hcf : ∀ vs w, (callFunc f vs).run Tryz.prog w = .ok (.enter f vs) w)
   (hS : S i = IsQ P) (hv : ∀ (a : Act) (w : World), Cl W w → Fr ops n a0 a → Dp ops md n S i a w → ∃ vs, xs.map a.eval = vs ∧ Calls Tryz.prog f vs w fun e w' => ∃ v, e = .returned v ∧ IsQ P v w' ∧ Below w.heap.size w w') : StepOk Tryz.prog ops md W a0 n al S Q i o :=
 step_call hal hg fun a w hw hf hd => by
   obtain ⟨vs, h1, h2⟩ := hv a w hw hf hd
   refine ⟨f, vs, ex_fn rfl hcf ho vs h1 w, h2.mono fun _ w' ⟨v, he, hP, hb⟩ => ⟨v, he, ?_, hb⟩⟩
   rw [hS]; exact hP
theorem step_qmul (hal : al i = false) (hg : GuardOn ops md n S i o) {x y : Operand} {ts : Array TypeId} {P R : Edw.Pt NT.PN} {nb : List Int} (hP : Edw.On eF P) (ln : nb.length = 32) (hb : Byt nb) (hR : Edw.mul eF (bn nb) P = R) (ho : o.op = .call { callee := .value (.func 24), args := #[x, y], argTypes := ts })
   (hS : S i = IsQ R) (hx : KnowsQ ops md W a0 n S i x P) (hy : Knows ops md W a0 n S i y (.agg (ints .u8 nb).toArray)) : StepOk Tryz.prog ops md W a0 n al S Q i o :=
 step_rq hal hg ho cg30 hS fun a w hw hf hd => ⟨_, rfl, by
   rw [map2, hy a w hw hf hd, ← hR]
   exact rq_mul hP (hx a w hw hf hd) ln hb⟩
theorem step_qbytes (hal : al i = false) (hg : GuardOn ops md n S i o) {x : Operand} {ts : Array TypeId} {P : Edw.Pt NT.PN} {l : List Int} (hl : bytesP P = l) (ho : o.op = .call { callee := .value (.func 23), args := #[x], argTypes := ts })
   (hS : S i = Is (.agg (ints .u8 l).toArray)) (hx : KnowsQ ops md W a0 n S i x P) : StepOk Tryz.prog ops md W a0 n al S Q i o :=
 step_call hal hg fun a w hw hf hd => ⟨23, #[a.eval x], ex_fn rfl cg27 ho _ (map1 _ _) w, (rq_bytes (hx a w hw hf hd)).mono fun _ _ ⟨he, hb⟩ => ⟨_, he, by rw [hS, ← hl]; exact rfl, hb⟩⟩
theorem step_qbase (hal : al i = false) (hg : GuardOn ops md n S i o) {ts : Array TypeId} (ho : o.op = .call { callee := .value (.func 25), args := #[], argTypes := ts }) (hS : S i = IsP ⟨bxF, byF, 1⟩) : StepOk Tryz.prog ops md W a0 n al S Q i o :=
 step_rp hal hg ho cg26 hS fun a w hw hf hd => ⟨#[], by simp, rf_base w⟩
end
def oneL : List Int := 1 :: zeros 31
end Go.Proofs.YthpibkpljakeeaaGreatDoor
