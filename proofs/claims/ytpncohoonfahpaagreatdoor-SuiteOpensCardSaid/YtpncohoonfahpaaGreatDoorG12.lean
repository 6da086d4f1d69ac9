/- Texts of this proof, laid together: VCat, VComb, VStep. -/
import Derived.Test.YtpncohoonfahpaaGreatDoorG11
import Derived.Test.YtpncohoonfahpaaGreatDoorG9
import Derived.Test.YtpncohoonfahpaaGreatDoorSpec2M
/- slices.Concat of one part and of a row of parts. -/
namespace Go.Proofs.YtpncohoonfahpaaGreatDoor
open Go Go.RowKit

def CatS (n : Nat) (v i : Value) : Prop := (i = .int .i64 0 ∧ v = .int .i64 0) ∨ (i = .int .i64 1 ∧ v = .int .i64 1) ∨ (i = .int .i64 2 ∧ v = .int .i64 (1 + n))
def CatW (w0 : World) (B : Nat) (q : Part) (ps : List Part) (v i : Value) (w : World) : Prop := ∃ A m c, v = .slice A m c ∧ ((i = .int .i64 0 ∧ OwnsP w B (.slice A m c) []) ∨ (i = .int .i64 1 ∧ OwnsP w B (.slice A m c) [q]) ∨ (i = .int .i64 2 ∧ OwnsP w B (.slice A m c) ([q] ++ ps))) ∧ Below B w0 w
set_option maxRecDepth 50000 in
set_option maxHeartbeats 4000000 in
theorem cat_any (g n c1 pc : Nat) (A1 PA : Option Addr) (q : Part) (ps : List Part) (w : World) (hg : g < w.heap.size) (h0 : w.cell? ⟨g, 0, none⟩ = some (.slice A1 1 c1)) (h1 : w.cell? ⟨g, 1, none⟩ = some (.slice PA n pc)) (hP1 : Parts w A1 [q]) (hP : Parts w PA ps) (hn : Hid (ps.length = n)) (hn2 : n ≤ 500) :
    Calls Tryz.prog 205 #[.slice (some ⟨g, 0, none⟩) 2 2] w fun e w' => ∃ A c, e = .returned (.slice A (1 + n) c) ∧ OwnsP w' w.heap.size (.slice A (1 + n) c) ([q] ++ ps) ∧ Below w.heap.size w w' := by
  have n0 : (0 : Int) ≤ n := by omega
  have n1 : (n : Int) ≤ 500 := by omega
  have hneg : ¬ ((1 : Int) + (n : Int) < 0) := by omega
  go_enter Tryz.func205, Tryz.ntmps205
  go_wp2
  go_loopw [3, 11] (fun v i wr => CatS n v i ∧ wr = w) (fun _ i _ => 2 - (intOf i).toNat)
  case atStart => exact ⟨.inl ⟨rfl, rfl⟩, rfl⟩
  case round =>
    obtain ⟨hC, rfl⟩ := hrel
    rcases hC with ⟨rfl, rfl⟩ | ⟨rfl, rfl⟩ | ⟨rfl, rfl⟩
    · go_wp2
      go_roundw
      case rel => exact ⟨.inr (.inl ⟨rfl, rfl⟩), trivial⟩
      case measure => simp [intOf]
    · go_wp2
      go_roundw
      case rel => exact ⟨.inr (.inr ⟨rfl, by go_num⟩), trivial⟩
      case measure => simp [intOf]
    · go_wp2_with (go_at_call 230; refine (grow_any (1 + n) _ (by omega) (by omega)).mono ?_; rintro e w1 ⟨A0, c0, rfl, hO0, hb1⟩)
      go_loopw [6, 27] (fun v i w2 => CatW w1 wr.heap.size q ps v i w2) (fun _ i _ => 2 - (intOf i).toNat)
      case atStart => exact ⟨A0, 0, c0, rfl, .inl ⟨rfl, hO0⟩, Below.refl _ _⟩
      case round =>
        obtain ⟨A, m, c, rfl, hC, hb⟩ := hrel
        rename World => w2
        have hbb : Below wr.heap.size wr w2 := hb1.trans hb
        have k0 := (hbb.cell (p := ⟨g, 0, none⟩) hg).trans h0
        have k1 := (hbb.cell (p := ⟨g, 1, none⟩) hg).trans h1
        have hQ1 := hP1.below hbb
        have hQ := hP.below hbb
        clear h0 h1 hP1 hP
        rcases hC with ⟨rfl, hO⟩ | ⟨rfl, hO⟩ | ⟨rfl, hO⟩
        · go_wp2_with (at_builtin; refine app_parts rfl (.tmp 31) (.tmp 32) rfl wr.heap.size A m c [] rfl hO A1 1 c1 [q] rfl rfl hQ1 (by simp) hbb.size ?_; intro A' n' c' w3 hO3 hG)
          go_roundw
          case rel => exact ⟨A', n', c', rfl, .inr (.inl ⟨rfl, hO3⟩), hb.trans (hG.below hbb.size fun g e => (hO.lt g e).1)⟩
          case measure => simp [intOf]
        · go_wp2_with (at_builtin; refine app_parts rfl (.tmp 31) (.tmp 32) rfl wr.heap.size A m c [q] rfl hO PA n pc ps rfl hn.out hQ (by simp; omega) hbb.size ?_; intro A' n' c' w3 hO3 hG)
          go_roundw
          case rel => exact ⟨A', n', c', rfl, .inr (.inr ⟨rfl, hO3⟩), hb.trans (hG.below hbb.size fun g e => (hO.lt g e).1)⟩
          case measure => simp [intOf]
        · have hm := hO.len
          rw [List.length_append, hn.out, List.length_singleton] at hm
          subst hm
          go_wp2
          go_ret
          exact ⟨A, c, rfl, hO, hbb⟩
end Go.Proofs.YtpncohoonfahpaaGreatDoor

/- combine: a block of which each byte is combined with another one. -/
namespace Go.Proofs.YtpncohoonfahpaaGreatDoor
open Go Go.RowKit

/-- Combined as far as k. -/
def mixV (c : Int) (b : List Int) (k : Nat) : List Int := vxl c (b.take k) ++ b.drop k
set_option maxRecDepth 50000 in
theorem mixV_zero (c : Int) (b : List Int) : mixV c b 0 = b := by simp [mixV, vxl]
set_option maxRecDepth 50000 in
theorem mixV_len (c : Int) (b : List Int) (k : Nat) : (mixV c b k).length = b.length := by
  unfold mixV
  rw [List.length_append, vxl_len, ← List.length_append, List.take_append_drop]
set_option maxRecDepth 50000 in
theorem mixV_end (c : Int) (b : List Int) (k : Nat) (h : b.length ≤ k) : mixV c b k = vxl c b := by
  unfold mixV
  rw [List.take_of_length_le h, List.drop_eq_nil_of_le h, List.append_nil]
set_option maxRecDepth 50000 in
theorem mixV_at (c : Int) (b : List Int) (k : Nat) {x : Int} (h : b[k]? = some x) : (mixV c b k)[k]? = some x := by
  have hk := (List.getElem?_eq_some_iff.1 h).1
  unfold mixV
  rw [List.getElem?_append_right (by rw [vxl_len, List.length_take]; omega), vxl_len, List.length_take, Nat.min_eq_left (by omega), Nat.sub_self, List.getElem?_drop]
  exact h
set_option maxRecDepth 50000 in
theorem mixV_set (c : Int) (b : List Int) (k : Nat) {x : Int} (h : b[k]? = some x) : (mixV c b k).set k (vx x c) = mixV c b (k + 1) := by
  obtain ⟨hk, hx⟩ := List.getElem?_eq_some_iff.1 h
  have hl : (vxl c (b.take k)).length = k := by rw [vxl_len, List.length_take]; omega
  unfold mixV
  rw [List.set_append, if_neg (by omega), hl, Nat.sub_self, List.drop_eq_getElem_cons hk, hx, List.set_cons_zero, take_succ_at h]
  simp [vxl]
set_option maxRecDepth 50000 in
set_option maxHeartbeats 2000000 in
theorem comb_any (b : List Int) (c : Int) (w : World) (hl : Hid (b.length = 128)) :
    Calls Tryz.prog 206 #[.agg (ints .u8 b).toArray, .int .u8 c] w fun e w' => ∃ g, e = .returned (.slice (some ⟨g, 0, none⟩) 128 128) ∧ w.heap.size ≤ g ∧ Arr w' g 0 .u8 (vxl c b) ∧ Below w.heap.size w w' := by
  have hA := Arr.made w .u8 b 176
  have hW := below_new w (.cells (ints .u8 b).toArray 176)
  go_enter Tryz.func206, Tryz.ntmps206
  go_wp2
  generalize w.alloc (.cells (ints .u8 b).toArray 176) = W at *
  go_loopw [6] (fun i wr => ∃ k : Nat, k ≤ 128 ∧ i = .int .i64 k ∧ Below w.heap.size w wr ∧ Arr wr w.heap.size 0 .u8 (mixV c b k)) (fun i _ => 128 - (intOf i).toNat)
  case atStart => exact ⟨0, Nat.zero_le _, rfl, hW, by rw [mixV_zero]; exact hA⟩
  case round =>
    clear hA hW
    obtain ⟨k, hk, rfl, hW, hA⟩ := hrel
    by_cases hlt : k < 128
    · obtain ⟨x, hx⟩ : ∃ x, b[k]? = some x := ⟨b[k]'(by rw [hl.out]; exact hlt), by simp [hl.out, hlt]⟩
      have hx1 := hA.at_ (mixV_at c b k hx)
      have hf := hA.free (i := k) (by rw [mixV_len, hl.out]; exact hlt)
      rw [Nat.zero_add] at hx1 hf
      have HX := hid (mixV_set c b k hx)
      obtain ⟨y, hy⟩ : ∃ y, bits .xor .u8 x c = y := ⟨_, rfl⟩
      have hyx : vx x c = y := hy
      rw [hyx] at HX
      have k0 : (0 : Int) ≤ k := by omega
      have k1 : (k : Int) < 128 := by omega
      clear hyx hx
      go_wp2
      go_roundw
      case rel =>
        have h := hA.set k y
        rw [HX.out, Nat.zero_add] at h
        exact ⟨k + 1, by omega, by go_num, hW.setCell (Nat.le_refl _) _, h⟩
      case measure => simp [intOf]; omega
    · have e : k = 128 := by omega
      subst e
      rw [mixV_end c b 128 (by rw [hl.out]; omega)] at hA
      go_wp2
      go_ret
      exact ⟨_, rfl, Nat.le_refl _, hA, hW⟩
end Go.Proofs.YtpncohoonfahpaaGreatDoor

/- Steps of regions: parts of a text as predicates, slice literals of parts, hashes and tags of parts. -/
namespace Go.Proofs.YtpncohoonfahpaaGreatDoor
open Go Go.RowKit

/-- A part of a text: so many bytes, with room. -/
def IsPart (n : Nat) (l : List Int) : Value → World → Prop := fun v w => ∃ B d, v = .slice B n d ∧ n ≤ d ∧ Nums w .u8 B l
set_option maxRecDepth 50000 in
theorem IsPart.grows (n : Nat) (l : List Int) : Grows (IsPart n l) := fun _ _ _ ⟨B, d, h1, h2, h3⟩ hb => ⟨B, d, h1, h2, h3.below hb⟩
/-- Parts that make up a text. -/
def IsPs (m : Nat) (T : List Int) : Value → World → Prop := fun v w => ∃ PA pc ps, v = .slice PA m pc ∧ ps.length = m ∧ Parts w PA ps ∧ (∀ q ∈ ps, PartOk w q) ∧ flat ps = T
set_option maxRecDepth 50000 in
theorem IsPs.grows (m : Nat) (T : List Int) : Grows (IsPs m T) := fun _ _ _ ⟨PA, pc, ps, h1, h2, h3, h4, h5⟩ hb => ⟨PA, pc, ps, h1, h2, h3.below hb, fun q hq => (h4 q hq).below hb, h5⟩
/-- A part's length, and that it is bytes. -/
def PL (n : Nat) (l : List Int) : Prop := l.length = n ∧ n ≤ 1000 ∧ HByt l
section
variable {ops : Array Oper} {md : Region.Mode} {W : World} {a0 : Act} {n : Nat} {al : Nat → Bool} {S : Nat → Value → World → Prop} {Q : Exit → Act → World → Prop} {i : Nat} {o : Oper}
set_option maxRecDepth 50000 in
theorem Knows.part {x : Operand} {A : Option Addr} {q c : Nat} {l : List Int} (h : Knows ops md W a0 n S i x (.slice A q c)) (hc : q ≤ c) (hN : ∀ w, Cl W w → Nums w .u8 A l) : KnowsW ops md W a0 n S i x (IsPart q l) := fun a w hw hf hd => ⟨A, c, h a w hw hf hd, hc, hN w hw⟩
set_option maxRecDepth 50000 in
/-- A call, told by what is true of its value. -/
theorem step_callR (hal : al i = false) (hg : GuardOn ops md n S i o) {R : Value → World → Prop} {f : FuncId} {xs : Array Operand} {ts : Array TypeId} (ho : o.op = .call { callee := .value (.func f), args := xs, argTypes := ts }) (hcf : ∀ vs w, (callFunc f vs).run Tryz.prog w = .ok (.enter f vs) w)
    (hS : S i = R) (hv : ∀ (a : Act) (w : World), Cl W w → Fr ops n a0 a → Dp ops md n S i a w → ∃ vs, xs.map a.eval = vs ∧ Calls Tryz.prog f vs w fun e w' => ∃ v, e = .returned v ∧ R v w' ∧ Below w.heap.size w w') : StepOk Tryz.prog ops md W a0 n al S Q i o :=
  step_call hal hg fun a w hw hf hd => by
    obtain ⟨vs, h1, h2⟩ := hv a w hw hf hd
    refine ⟨f, vs, ?_, h2.mono fun _ _ ⟨v, he, hr, hb⟩ => ⟨v, he, by rw [hS]; exact hr, hb⟩⟩
    exact ex_fnP rfl hcf ho vs h1 w
set_option maxRecDepth 50000 in
theorem part_at {w : World} {q : Nat} {l : List Int} {v : Value} (h : IsPart q l v w) (hp : PL q l) : ∃ p : Option Addr × Nat × List Int, v = .slice p.1 p.2.2.length p.2.1 ∧ PartOk w p ∧ p.2.2 = l := by
  obtain ⟨B, d, h1, h2, h3⟩ := h
  obtain ⟨h4, h5, h6⟩ := hp
  exact ⟨(B, d, l), by rw [h1, ← h4], ⟨h3, by rw [← h4] at h2; exact h2, by show l.length ≤ 1000; omega, h6⟩, rfl⟩
set_option maxRecDepth 50000 in
/-- A slice literal of one part. -/
theorem step_lit1 (hal : al i = false) (hg : GuardOn ops md n S i o) {x1 : Operand} {q1 : Nat} {l1 T : List Int} (ho : o.op = .buildSlice 57 1 #[(0, x1)])
    (p1 : PL q1 l1) (hT : l1 = T) (hS : S i = IsPs 1 T)
    (h1 : KnowsW ops md W a0 n S i x1 (IsPart q1 l1)) : StepOk Tryz.prog ops md W a0 n al S Q i o := fun a w hw hf' hd => by
  rw [if_pos (hg.wanted hd)]
  obtain ⟨r1, e1, o1, t1⟩ := part_at (h1 a w hw hf' hd) p1
  have hI := infSlV
  cases hq : Tryz.prog.info? 23 with
  | none => rw [hq] at hI; simp at hI
  | some ie =>
    rw [hq] at hI
    simp only [Option.map_some, Option.some.injEq, Prod.mk.injEq] at hI
    obtain ⟨hz, hs1, _⟩ := hI
    have hfill : ∀ (A1 : Option Addr) (n1 c1 : Nat), Instr.fill (fun i => some (i * 1, 1)) ((Array.range (1 * 1)).map (fun i => (Value.slice none 0 0).cells[i % (Value.slice none 0 0).cells.size]!)) [(0, Value.slice A1 n1 c1)] = some #[Value.slice A1 n1 c1] := fun A1 n1 c1 => by kernel_rfl
    have hv : (#[(0, x1)].map fun ((i : Nat), (x : Operand)) => (i, a.eval x)).toList = [(0, a.eval x1)] := by simp
    rw [e1] at hv
    refine wp_buildSlice 57 23 1 _ ho _ ie _ (by kernel_rfl) hq hz (by rw [hs1]; decide) (by rw [hs1]; decide) (by rw [hs1]; rw [hv]; exact hfill _ _ _) ?_
    refine ⟨_, rfl, ?_, below_new w _, fun e => by rw [hal] at e; cases e⟩
    rw [hS]
    have hb := below_new w (.cells #[.slice r1.1 r1.2.2.length r1.2.1] 23)
    refine ⟨_, 1, [r1], rfl, rfl, fun _ => ⟨w.heap.size, 0, rfl, by simp, fun j q hj => ?_⟩, fun q hq => ?_, ?_⟩
    · rw [Nat.zero_add, World.cell?_alloc_new]
      have hj6 := (List.getElem?_eq_some_iff.1 hj).1
      have : j = 0 := by simp at hj6; omega
      rcases this with rfl <;> (simp at hj; subst hj; rfl)
    · simp only [List.mem_cons, List.not_mem_nil, or_false] at hq
      subst hq
      exact o1.below hb
    · simp only [flat, List.map_cons, List.map_nil, List.flatten_cons, List.flatten_nil, List.append_nil, t1]
      exact hT
set_option maxRecDepth 50000 in
/-- A slice literal of two parts. -/
theorem step_lit2 (hal : al i = false) (hg : GuardOn ops md n S i o) {x1 x2 : Operand} {q1 q2 : Nat} {l1 l2 T : List Int} (ho : o.op = .buildSlice 57 2 #[(0, x1), (1, x2)])
    (p1 : PL q1 l1) (p2 : PL q2 l2) (hT : l1 ++ (l2) = T) (hS : S i = IsPs 2 T)
    (h1 : KnowsW ops md W a0 n S i x1 (IsPart q1 l1)) (h2 : KnowsW ops md W a0 n S i x2 (IsPart q2 l2)) : StepOk Tryz.prog ops md W a0 n al S Q i o := fun a w hw hf' hd => by
  rw [if_pos (hg.wanted hd)]
  obtain ⟨r1, e1, o1, t1⟩ := part_at (h1 a w hw hf' hd) p1
  obtain ⟨r2, e2, o2, t2⟩ := part_at (h2 a w hw hf' hd) p2
  have hI := infSlV
  cases hq : Tryz.prog.info? 23 with
  | none => rw [hq] at hI; simp at hI
  | some ie =>
    rw [hq] at hI
    simp only [Option.map_some, Option.some.injEq, Prod.mk.injEq] at hI
    obtain ⟨hz, hs1, _⟩ := hI
    have hfill : ∀ (A1 A2 : Option Addr) (n1 n2 c1 c2 : Nat), Instr.fill (fun i => some (i * 1, 1)) ((Array.range (2 * 1)).map (fun i => (Value.slice none 0 0).cells[i % (Value.slice none 0 0).cells.size]!)) [(0, Value.slice A1 n1 c1), (1, Value.slice A2 n2 c2)] = some #[Value.slice A1 n1 c1, Value.slice A2 n2 c2] := fun A1 A2 n1 n2 c1 c2 => by kernel_rfl
    have hv : (#[(0, x1), (1, x2)].map fun ((i : Nat), (x : Operand)) => (i, a.eval x)).toList = [(0, a.eval x1), (1, a.eval x2)] := by simp
    rw [e1, e2] at hv
    refine wp_buildSlice 57 23 2 _ ho _ ie _ (by kernel_rfl) hq hz (by rw [hs1]; decide) (by rw [hs1]; decide) (by rw [hs1]; rw [hv]; exact hfill _ _ _ _ _ _) ?_
    refine ⟨_, rfl, ?_, below_new w _, fun e => by rw [hal] at e; cases e⟩
    rw [hS]
    have hb := below_new w (.cells #[.slice r1.1 r1.2.2.length r1.2.1, .slice r2.1 r2.2.2.length r2.2.1] 23)
    refine ⟨_, 2, [r1, r2], rfl, rfl, fun _ => ⟨w.heap.size, 0, rfl, by simp, fun j q hj => ?_⟩, fun q hq => ?_, ?_⟩
    · rw [Nat.zero_add, World.cell?_alloc_new]
      have hj6 := (List.getElem?_eq_some_iff.1 hj).1
      have : j = 0 ∨ j = 1 := by simp at hj6; omega
      rcases this with rfl | rfl <;> (simp at hj; subst hj; rfl)
    · simp only [List.mem_cons, List.not_mem_nil, or_false] at hq
      rcases hq with rfl | rfl
      · exact o1.below hb
      · exact o2.below hb
    · simp only [flat, List.map_cons, List.map_nil, List.flatten_cons, List.flatten_nil, List.append_nil, t1, t2]
      exact hT
set_option maxRecDepth 50000 in
theorem cxSum (vs : Array Value) (w : World) : (callFunc 104 vs).run Tryz.prog w = .ok (.enter 104 vs) w := by go_simp
set_option maxRecDepth 50000 in
theorem cxComb (vs : Array Value) (w : World) : (callFunc 206 vs).run Tryz.prog w = .ok (.enter 206 vs) w := by go_simp
set_option maxRecDepth 50000 in
/-- The hash of parts. -/
theorem step_sumP (hal : al i = false) (hg : GuardOn ops md n S i o) {x : Operand} {ts : Array TypeId} {r T : List Int} {q : Nat} (ho : o.op = .call { callee := .value (.func 104), args := #[x], argTypes := ts }) (hT : TabsH W) (hq2 : q ≤ 1000) (hl : T.length ≤ 100000) (hr : hash T = r) (hS : S i = Is (.agg (ints .u8 r).toArray))
    (hx : KnowsW ops md W a0 n S i x (IsPs q T)) : StepOk Tryz.prog ops md W a0 n al S Q i o :=
  step_call hal hg fun a w hw hf hd => by
    obtain ⟨PA, pc, ps, h1, h2, h3, h4, h5⟩ := hx a w hw hf hd
    refine ⟨104, #[.slice PA q pc], ex_fn rfl cxSum ho _ (by rw [map1, h1]) w, (vsum PA pc q ps T r w (hT.next hw) h3 h4 (hid h2) hq2 (hid h5) (hid hl) (hid hr)).mono fun e w' ⟨he, hbl⟩ => ⟨_, he, by rw [hS]; exact rfl, hbl⟩⟩
set_option maxRecDepth 50000 in
theorem step_comb (hal : al i = false) (hg : GuardOn ops md n S i o) {x y : Operand} {ts : Array TypeId} {b r : List Int} {c : Int} (ho : o.op = .call { callee := .value (.func 206), args := #[x, y], argTypes := ts }) (hl : b.length = 128) (hr : vxl c b = r) (hS : S i = IsPart 128 r)
    (hx : Knows ops md W a0 n S i x (.agg (ints .u8 b).toArray)) (hy : Knows ops md W a0 n S i y (.int .u8 c)) : StepOk Tryz.prog ops md W a0 n al S Q i o :=
  step_callR hal hg ho cxComb hS fun a w hw hf hd => ⟨_, by rw [map2, hx a w hw hf hd, hy a w hw hf hd], (comb_any b c w (hid hl)).mono fun e w' ⟨g, he, _, hA, hb⟩ => ⟨_, he, ⟨some ⟨g, 0, none⟩, 128, rfl, Nat.le_refl _, by rw [← hr]; exact hA.nums⟩, hb⟩⟩
end
set_option maxRecDepth 50000 in
theorem zvH (k : IntKind) (m : Nat) : (ints k (hzeros m)).length = m := il (hz_len m)
set_option maxRecDepth 50000 in
theorem uaV32 : Tryz.prog.underlying 22 = some (.array (Tryz.prog.arrayLen 22) (Tryz.prog.elem 22)) := by kernel_rfl
set_option maxRecDepth 50000 in
theorem uaV64 : Tryz.prog.underlying 38 = some (.array (Tryz.prog.arrayLen 38) (Tryz.prog.elem 38)) := by kernel_rfl
set_option maxRecDepth 50000 in
theorem uaV128 : Tryz.prog.underlying 176 = some (.array (Tryz.prog.arrayLen 176) (Tryz.prog.elem 176)) := by kernel_rfl
set_option maxRecDepth 50000 in
theorem uaVs : Tryz.prog.underlying 23 = some (.slice (Tryz.prog.elem 23)) := by kernel_rfl
set_option maxRecDepth 50000 in
theorem uaVss : Tryz.prog.underlying 57 = some (.slice (Tryz.prog.elem 57)) := by kernel_rfl
set_option maxRecDepth 50000 in
theorem zeV32 : ∀ w, (sizeOf (Tryz.prog.elem 22)).run Tryz.prog w = .ok 1 w := fun w => by kernel_rfl
set_option maxRecDepth 50000 in
theorem zeV64 : ∀ w, (sizeOf (Tryz.prog.elem 38)).run Tryz.prog w = .ok 1 w := fun w => by kernel_rfl
set_option maxRecDepth 50000 in
theorem zeV128 : ∀ w, (sizeOf (Tryz.prog.elem 176)).run Tryz.prog w = .ok 1 w := fun w => by kernel_rfl
set_option maxRecDepth 50000 in
theorem zeVs : ∀ w, (sizeOf (Tryz.prog.elem 23)).run Tryz.prog w = .ok 1 w := fun w => by kernel_rfl
set_option maxRecDepth 50000 in
theorem eqV32 : Tryz.prog.underlying 22 = some (.array 32 5) ∧ Tryz.prog.underlying 5 = some (.int .u8) ∧ (Tryz.prog.info? 5).map (·.size) = some 1 ∧ Tryz.prog.eqGuardType Tryz.prog.depth 22 = false := ⟨by kernel_rfl, by kernel_rfl, by kernel_rfl, by kernel_rfl⟩
set_option maxRecDepth 50000 in
theorem eqV64 : Tryz.prog.underlying 38 = some (.array 64 5) ∧ Tryz.prog.underlying 5 = some (.int .u8) ∧ (Tryz.prog.info? 5).map (·.size) = some 1 ∧ Tryz.prog.eqGuardType Tryz.prog.depth 38 = false := ⟨by kernel_rfl, by kernel_rfl, by kernel_rfl, by kernel_rfl⟩
set_option maxRecDepth 50000 in
theorem infVs : (Tryz.prog.info? 23).map (fun i => (i.zero, i.size)) = some (some (.slice none 0 0), 1) := by kernel_rfl
set_option maxRecDepth 50000 in
theorem infVb : (Tryz.prog.info? 5).map (fun i => (i.zero, i.size)) = some (some (.int .u8 0), 1) := by kernel_rfl
end Go.Proofs.YtpncohoonfahpaaGreatDoor
