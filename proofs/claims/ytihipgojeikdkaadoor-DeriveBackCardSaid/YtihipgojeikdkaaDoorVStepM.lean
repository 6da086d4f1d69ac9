/- Steps of regions: parts of a text as predicates, slice literals of parts, hashes and tags of parts. -/
import Derived.Test.YtihipgojeikdkaaDoorG2
import Derived.Test.YtihipgojeikdkaaDoorVCombM
import Derived.Test.YtihipgojeikdkaaDoorSpec2
namespace Go.Proofs.YtihipgojeikdkaaDoor
open Go Go.RowKit

/-- A part of a text: so many bytes, with room. -/
def IsPart (n : Nat) (l : List Int) : Value → World → Prop := fun v w => ∃ B d, v = .slice B n d ∧ n ≤ d ∧ Nums w .u8 B l
theorem IsPart.grows (n : Nat) (l : List Int) : Grows (IsPart n l) := fun _ _ _ ⟨B, d, h1, h2, h3⟩ hb => ⟨B, d, h1, h2, h3.below hb⟩
/-- Parts that make up a text. -/
def IsPs (m : Nat) (T : List Int) : Value → World → Prop := fun v w => ∃ PA pc ps, v = .slice PA m pc ∧ ps.length = m ∧ Parts w PA ps ∧ (∀ q ∈ ps, PartOk w q) ∧ flat ps = T
theorem IsPs.grows (m : Nat) (T : List Int) : Grows (IsPs m T) := fun _ _ _ ⟨PA, pc, ps, h1, h2, h3, h4, h5⟩ hb => ⟨PA, pc, ps, h1, h2, h3.below hb, fun q hq => (h4 q hq).below hb, h5⟩
/-- A part's length, and that it is bytes. -/
def PL (n : Nat) (l : List Int) : Prop := l.length = n ∧ n ≤ 1000 ∧ HByt l
section
variable {ops : Array Oper} {md : Region.Mode} {W : World} {a0 : Act} {n : Nat} {al : Nat → Bool} {S : Nat → Value → World → Prop} {Q : Exit → Act → World → Prop} {i : Nat} {o : Oper}
theorem Knows.part {x : Operand} {A : Option Addr} {q c : Nat} {l : List Int} (h : Knows ops md W a0 n S i x (.slice A q c)) (hc : q ≤ c) (hN : ∀ w, Cl W w → Nums w .u8 A l) : KnowsW ops md W a0 n S i x (IsPart q l) := fun a w hw hf hd => ⟨A, c, h a w hw hf hd, hc, hN w hw⟩
/-- A call, told by what is true of its value. -/
theorem step_callR (hal : al i = false) (hg : GuardOn ops md n S i o) {R : Value → World → Prop} {f : FuncId} {xs : Array Operand} {ts : Array TypeId} (ho : o.op = .call { callee := .value (.func f), args := xs, argTypes := ts }) (hcf : ∀ vs w, (callFunc f vs).run Tryd.prog w = .ok (.enter f vs) w)
    (hS : S i = R) (hv : ∀ (a : Act) (w : World), Cl W w → Fr ops n a0 a → Dp ops md n S i a w → ∃ vs, xs.map a.eval = vs ∧ Calls Tryd.prog f vs w fun e w' => ∃ v, e = .returned v ∧ R v w' ∧ Below w.heap.size w w') : StepOk Tryd.prog ops md W a0 n al S Q i o :=
  step_call hal hg fun a w hw hf hd => by
    obtain ⟨vs, h1, h2⟩ := hv a w hw hf hd
    refine ⟨f, vs, ?_, h2.mono fun _ _ ⟨v, he, hr, hb⟩ => ⟨v, he, by rw [hS]; exact hr, hb⟩⟩
    exact ex_fnP rfl hcf ho vs h1 w
theorem part_at {w : World} {q : Nat} {l : List Int} {v : Value} (h : IsPart q l v w) (hp : PL q l) : ∃ p : Option Addr × Nat × List Int, v = .slice p.1 p.2.2.length p.2.1 ∧ PartOk w p ∧ p.2.2 = l := by
  obtain ⟨B, d, h1, h2, h3⟩ := h
  obtain ⟨h4, h5, h6⟩ := hp
  exact ⟨(B, d, l), by rw [h1, ← h4], ⟨h3, by rw [← h4] at h2; exact h2, by show l.length ≤ 1000; omega, h6⟩, rfl⟩
/-- A slice literal of one part. -/
theorem step_lit1 (hal : al i = false) (hg : GuardOn ops md n S i o) {x1 : Operand} {q1 : Nat} {l1 T : List Int} (ho : o.op = .buildSlice 29 1 #[(0, x1)])
    (p1 : PL q1 l1) (hT : l1 = T) (hS : S i = IsPs 1 T)
    (h1 : KnowsW ops md W a0 n S i x1 (IsPart q1 l1)) : StepOk Tryd.prog ops md W a0 n al S Q i o := fun a w hw hf' hd => by
  rw [if_pos (hg.wanted hd)]
  obtain ⟨r1, e1, o1, t1⟩ := part_at (h1 a w hw hf' hd) p1
  have hI := infSlV
  cases hq : Tryd.prog.info? 22 with
  | none => rw [hq] at hI; simp at hI
  | some ie =>
    rw [hq] at hI
    simp only [Option.map_some, Option.some.injEq, Prod.mk.injEq] at hI
    obtain ⟨hz, hs1, _⟩ := hI
    have hfill : ∀ (A1 : Option Addr) (n1 c1 : Nat), Instr.fill (fun i => some (i * 1, 1)) ((Array.range (1 * 1)).map (fun i => (Value.slice none 0 0).cells[i % (Value.slice none 0 0).cells.size]!)) [(0, Value.slice A1 n1 c1)] = some #[Value.slice A1 n1 c1] := fun A1 n1 c1 => by kernel_rfl
    have hv : (#[(0, x1)].map fun ((i : Nat), (x : Operand)) => (i, a.eval x)).toList = [(0, a.eval x1)] := by simp
    rw [e1] at hv
    refine wp_buildSlice 29 22 1 _ ho _ ie _ (by kernel_rfl) hq hz (by rw [hs1]; decide) (by rw [hs1]; decide) (by rw [hs1]; rw [hv]; exact hfill _ _ _) ?_
    refine ⟨_, rfl, ?_, below_new w _, fun e => by rw [hal] at e; cases e⟩
    rw [hS]
    have hb := below_new w (.cells #[.slice r1.1 r1.2.2.length r1.2.1] 22)
    refine ⟨_, 1, [r1], rfl, rfl, fun _ => ⟨w.heap.size, 0, rfl, by simp, fun j q hj => ?_⟩, fun q hq => ?_, ?_⟩
    · rw [Nat.zero_add, World.cell?_alloc_new]
      have hj6 := (List.getElem?_eq_some_iff.1 hj).1
      have : j = 0 := by simp at hj6; omega
      rcases this with rfl <;> (simp at hj; subst hj; rfl)
    · simp only [List.mem_cons, List.not_mem_nil, or_false] at hq
      subst hq
      exact o1.below hb
    · simp only [flat, List.map_cons, List.map_nil, List.flatten_cons, List.flatten_nil, List.append_nil, t1]
      exact hT
/-- A slice literal of two parts. -/
theorem step_lit2 (hal : al i = false) (hg : GuardOn ops md n S i o) {x1 x2 : Operand} {q1 q2 : Nat} {l1 l2 T : List Int} (ho : o.op = .buildSlice 29 2 #[(0, x1), (1, x2)])
    (p1 : PL q1 l1) (p2 : PL q2 l2) (hT : l1 ++ (l2) = T) (hS : S i = IsPs 2 T)
    (h1 : KnowsW ops md W a0 n S i x1 (IsPart q1 l1)) (h2 : KnowsW ops md W a0 n S i x2 (IsPart q2 l2)) : StepOk Tryd.prog ops md W a0 n al S Q i o := fun a w hw hf' hd => by
  rw [if_pos (hg.wanted hd)]
  obtain ⟨r1, e1, o1, t1⟩ := part_at (h1 a w hw hf' hd) p1
  obtain ⟨r2, e2, o2, t2⟩ := part_at (h2 a w hw hf' hd) p2
  have hI := infSlV
  cases hq : Tryd.prog.info? 22 with
  | none => rw [hq] at hI; simp at hI
  | some ie =>
    rw [hq] at hI
    simp only [Option.map_some, Option.some.injEq, Prod.mk.injEq] at hI
    obtain ⟨hz, hs1, _⟩ := hI
    have hfill : ∀ (A1 A2 : Option Addr) (n1 n2 c1 c2 : Nat), Instr.fill (fun i => some (i * 1, 1)) ((Array.range (2 * 1)).map (fun i => (Value.slice none 0 0).cells[i % (Value.slice none 0 0).cells.size]!)) [(0, Value.slice A1 n1 c1), (1, Value.slice A2 n2 c2)] = some #[Value.slice A1 n1 c1, Value.slice A2 n2 c2] := fun A1 A2 n1 n2 c1 c2 => by kernel_rfl
    have hv : (#[(0, x1), (1, x2)].map fun ((i : Nat), (x : Operand)) => (i, a.eval x)).toList = [(0, a.eval x1), (1, a.eval x2)] := by simp
    rw [e1, e2] at hv
    refine wp_buildSlice 29 22 2 _ ho _ ie _ (by kernel_rfl) hq hz (by rw [hs1]; decide) (by rw [hs1]; decide) (by rw [hs1]; rw [hv]; exact hfill _ _ _ _ _ _) ?_
    refine ⟨_, rfl, ?_, below_new w _, fun e => by rw [hal] at e; cases e⟩
    rw [hS]
    have hb := below_new w (.cells #[.slice r1.1 r1.2.2.length r1.2.1, .slice r2.1 r2.2.2.length r2.2.1] 22)
    refine ⟨_, 2, [r1, r2], rfl, rfl, fun _ => ⟨w.heap.size, 0, rfl, by simp, fun j q hj => ?_⟩, fun q hq => ?_, ?_⟩
    · rw [Nat.zero_add, World.cell?_alloc_new]
      have hj6 := (List.getElem?_eq_some_iff.1 hj).1
      have : j = 0 ∨ j = 1 := by simp at hj6; omega
      rcases this with rfl | rfl <;> (simp at hj; subst hj; rfl)
    · simp only [List.mem_cons, List.not_mem_nil, or_false] at hq
      rcases hq with rfl | rfl
      · exact o1.below hb
      · exact o2.below hb
    · simp only [flat, List.map_cons, List.map_nil, List.flatten_cons, List.flatten_nil, List.append_nil, t1, t2]
      exact hT
theorem cxSum (vs : Array Value) (w : World) : (callFunc 20 vs).run Tryd.prog w = .ok (.enter 20 vs) w := by go_simp
theorem cxComb (vs : Array Value) (w : World) : (callFunc 22 vs).run Tryd.prog w = .ok (.enter 22 vs) w := by go_simp
/-- The hash of parts. -/
theorem step_sumP (hal : al i = false) (hg : GuardOn ops md n S i o) {x : Operand} {ts : Array TypeId} {r T : List Int} {q : Nat} (ho : o.op = .call { callee := .value (.func 20), args := #[x], argTypes := ts }) (hT : TabsH W) (hq2 : q ≤ 1000) (hl : T.length ≤ 100000) (hr : hash T = r) (hS : S i = Is (.agg (ints .u8 r).toArray))
    (hx : KnowsW ops md W a0 n S i x (IsPs q T)) : StepOk Tryd.prog ops md W a0 n al S Q i o :=
  step_call hal hg fun a w hw hf hd => by
    obtain ⟨PA, pc, ps, h1, h2, h3, h4, h5⟩ := hx a w hw hf hd
    refine ⟨20, #[.slice PA q pc], ex_fn rfl cxSum ho _ (by rw [map1, h1]) w, (vsum PA pc q ps T r w (hT.next hw) h3 h4 (hid h2) hq2 (hid h5) (hid hl) (hid hr)).mono fun e w' ⟨he, hbl⟩ => ⟨_, he, by rw [hS]; exact rfl, hbl⟩⟩
theorem step_comb (hal : al i = false) (hg : GuardOn ops md n S i o) {x y : Operand} {ts : Array TypeId} {b r : List Int} {c : Int} (ho : o.op = .call { callee := .value (.func 22), args := #[x, y], argTypes := ts }) (hl : b.length = 128) (hr : vxl c b = r) (hS : S i = IsPart 128 r)
    (hx : Knows ops md W a0 n S i x (.agg (ints .u8 b).toArray)) (hy : Knows ops md W a0 n S i y (.int .u8 c)) : StepOk Tryd.prog ops md W a0 n al S Q i o :=
  step_callR hal hg ho cxComb hS fun a w hw hf hd => ⟨_, by rw [map2, hx a w hw hf hd, hy a w hw hf hd], (comb_any b c w (hid hl)).mono fun e w' ⟨g, he, _, hA, hb⟩ => ⟨_, he, ⟨some ⟨g, 0, none⟩, 128, rfl, Nat.le_refl _, by rw [← hr]; exact hA.nums⟩, hb⟩⟩
end
theorem zvH (k : IntKind) (m : Nat) : (ints k (hzeros m)).length = m := il (hz_len m)
theorem uaV32 : Tryd.prog.underlying 30 = some (.array (Tryd.prog.arrayLen 30) (Tryd.prog.elem 30)) := by kernel_rfl
theorem uaV64 : Tryd.prog.underlying 25 = some (.array (Tryd.prog.arrayLen 25) (Tryd.prog.elem 25)) := by kernel_rfl
theorem uaV128 : Tryd.prog.underlying 46 = some (.array (Tryd.prog.arrayLen 46) (Tryd.prog.elem 46)) := by kernel_rfl
theorem uaVs : Tryd.prog.underlying 22 = some (.slice (Tryd.prog.elem 22)) := by kernel_rfl
theorem uaVss : Tryd.prog.underlying 29 = some (.slice (Tryd.prog.elem 29)) := by kernel_rfl
theorem zeV32 : ∀ w, (sizeOf (Tryd.prog.elem 30)).run Tryd.prog w = .ok 1 w := fun w => by kernel_rfl
theorem zeV64 : ∀ w, (sizeOf (Tryd.prog.elem 25)).run Tryd.prog w = .ok 1 w := fun w => by kernel_rfl
theorem zeV128 : ∀ w, (sizeOf (Tryd.prog.elem 46)).run Tryd.prog w = .ok 1 w := fun w => by kernel_rfl
theorem zeVs : ∀ w, (sizeOf (Tryd.prog.elem 22)).run Tryd.prog w = .ok 1 w := fun w => by kernel_rfl
theorem eqV32 : Tryd.prog.underlying 30 = some (.array 32 5) ∧ Tryd.prog.underlying 5 = some (.int .u8) ∧ (Tryd.prog.info? 5).map (·.size) = some 1 ∧ Tryd.prog.eqGuardType Tryd.prog.depth 30 = false := ⟨by kernel_rfl, by kernel_rfl, by kernel_rfl, by kernel_rfl⟩
theorem eqV64 : Tryd.prog.underlying 25 = some (.array 64 5) ∧ Tryd.prog.underlying 5 = some (.int .u8) ∧ (Tryd.prog.info? 5).map (·.size) = some 1 ∧ Tryd.prog.eqGuardType Tryd.prog.depth 25 = false := ⟨by kernel_rfl, by kernel_rfl, by kernel_rfl, by kernel_rfl⟩
theorem infVs : (Tryd.prog.info? 22).map (fun i => (i.zero, i.size)) = some (some (.slice none 0 0), 1) := by kernel_rfl
theorem infVb : (Tryd.prog.info? 5).map (fun i => (i.zero, i.size)) = some (some (.int .u8 0), 1) := by kernel_rfl
end Go.Proofs.YtihipgojeikdkaaDoor
