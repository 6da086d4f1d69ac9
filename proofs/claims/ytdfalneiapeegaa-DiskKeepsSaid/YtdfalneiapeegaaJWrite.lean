/- A write, by the document. -/
import Derived.Test.YtdfalneiapeegaaJRead
namespace Go.Proofs.Ytdfalneiapeegaa
open Go Go.RowKit Go.Maps

def IsE (base : Nat) : Value → World → Prop := fun v w => ∃ b, v = .slice (some ⟨b, 0, none⟩) 0 0 ∧ base ≤ b ∧ b < w.heap.size
def IsTx (base : Nat) (xs : List Int) : Value → World → Prop := fun v w => ∃ b c, v = .slice (some ⟨b, 0, none⟩) 64 c ∧ base ≤ b ∧ b < w.heap.size ∧ Rw w b 0 (ints .u8 xs)
def IsAgg (base : Nat) (pre : List Value) (xs : List Int) : Value → World → Prop := fun v w => ∃ b c, v = .agg (pre ++ [Value.slice (some ⟨b, 0, none⟩) 64 c]).toArray ∧ base ≤ b ∧ b < w.heap.size ∧ Rw w b 0 (ints .u8 xs)
def IsRow1 (base : Nat) (pre : List Value) (xs : List Int) : Value → World → Prop := fun v w => ∃ g b c, v = .slice (some ⟨g, 0, none⟩) 1 1 ∧ Rw w g 0 (pre ++ [.slice (some ⟨b, 0, none⟩) 64 c]) ∧ base ≤ b ∧ b < w.heap.size ∧ Rw w b 0 (ints .u8 xs)
theorem IsE.grows (base : Nat) : Grows (IsE base) := fun _ _ _ ⟨b, h1, h2, h3⟩ hb => ⟨b, h1, h2, Nat.lt_of_lt_of_le h3 hb.size⟩
theorem IsTx.grows (base : Nat) (xs : List Int) : Grows (IsTx base xs) := fun _ _ _ ⟨b, c, h1, h2, h3, h4⟩ hb => ⟨b, c, h1, h2, Nat.lt_of_lt_of_le h3 hb.size, h4.next hb⟩
theorem IsAgg.grows (base : Nat) (pre : List Value) (xs : List Int) : Grows (IsAgg base pre xs) := fun _ _ _ ⟨b, c, h1, h2, h3, h4⟩ hb => ⟨b, c, h1, h2, Nat.lt_of_lt_of_le h3 hb.size, h4.next hb⟩
theorem IsRow1.grows (base : Nat) (pre : List Value) (xs : List Int) : Grows (IsRow1 base pre xs) := fun _ _ _ ⟨g, b, c, h1, h0, h2, h3, h4⟩ hb => ⟨g, b, c, h1, h0.next hb, h2, Nat.lt_of_lt_of_le h3 hb.size, h4.next hb⟩
theorem app_empty {P : Program} {w : World} {t ty e : TypeId} {k : IntKind} {bytes : Nat} (ht : P.underlying t = some (.slice e)) (hinf : (P.info? e).map (fun i => (i.zero, i.size, i.bytes)) = some (some (.int k 0), 1, bytes)) {b l c : Nat} {B : Option Addr} {ys : List Int}
    (hl : ys.length = l) (hp : 0 < l) (hys : Nums w k B ys) (h63 : l * bytes ≤ 140737488355328) (hbt : 0 < bytes) :
    ∃ c' w', (Builtin.append_ #[t, t] ty #[.slice (some ⟨b, 0, none⟩) 0 0, .slice B l c]).run P w = .ok (.slice (some ⟨w.heap.size, 0, none⟩) l c') w' ∧ l ≤ c' ∧ Rw w' w.heap.size 0 (ints k ys) ∧ Below w.heap.size w w' ∧ w.heap.size < w'.heap.size := by
  obtain ⟨i, hi, hz, hsize, hby⟩ := info_parts hinf
  subst hl
  have hmx : ys.length ≤ maxLen := by
    have : ys.length ≤ ys.length * bytes := Nat.le_mul_of_pos_right _ hbt
    unfold maxLen; omega
  obtain ⟨bb, ff, hB, hlt, hc⟩ := hys hp
  subst hB
  have hrun := run_append_grow (P := P) w t ty e i (.int k 0) ht hi hz ⟨b, 0, none⟩ 0 0 [] (by simp) (fun j v hv => by simp at hv) ⟨bb, ff, none⟩ ys.length c (ys.map (Value.int k)) (by rw [hsize]; simp) (fun j v hv => by
      rw [List.getElem?_map, Option.map_eq_some_iff] at hv
      obtain ⟨x, hx, rfl⟩ := hv
      have hj := (List.getElem?_eq_some_iff.1 hx).1
      rw [Addr.add_mid, hc j hj, List.getD_eq_getElem?_getD, hx]; rfl) (by omega) (by simp only [maxLen] at hmx; omega) (by rw [hby]; exact growslice_fits (by omega) (by rw [Nat.zero_add]; exact h63))
  rw [Nat.zero_add] at hrun
  refine ⟨_, _, hrun, grownCap_ge _ _ _ _, ?_, ((Below.refl _ _).drew).alloc (Nat.le_refl _) _, by simp⟩
  intro j v hv
  rw [Nat.zero_add]
  have h1 := World.cell?_alloc_new (w := w.drew) (([] : List Value).toArray ++ (ys.map (Value.int k)).toArray ++ Builtin.zeroCells (Value.int k 0).cells (grownCap w ys.length 0 e - ys.length)) e j
  have h2 := World.frozen?_alloc_new (w := w.drew) (([] : List Value).toArray ++ (ys.map (Value.int k)).toArray ++ Builtin.zeroCells (Value.int k 0).cells (grownCap w ys.length 0 e - ys.length)) e j
  refine ⟨h1.trans ?_, h2⟩
  have hj := (List.getElem?_eq_some_iff.1 hv).1
  rw [ints_length] at hj
  rw [Array.getElem?_append_left (by simp; omega), ← hv]
  simp [ints]
section
variable {P : Program} {ops : Array Oper} {md : Region.Mode} {W : World} {a0 : Act} {n : Nat} {al : Nat → Bool} {S : Nat → Value → World → Prop} {Q : Exit → Act → World → Prop} {i : Nat} {o : Oper}
theorem step_bslE (hg : GuardOn ops md n S i o) {T e : TypeId} {k : IntKind} (ho : o.op = .buildSlice T 0 #[]) (hu : P.underlying T = some (.slice e)) (hI : (P.info? e).map (fun i => (i.zero, i.size)) = some (some (.int k 0), 1)) (hS : S i = IsE W.heap.size) : StepOk P ops md W a0 n al S Q i o := fun a w hw hf' hd => by
  rw [if_pos (hg.wanted hd)]
  cases hq : P.info? e with
  | none => rw [hq] at hI; simp at hI
  | some ie =>
    rw [hq] at hI
    simp only [Option.map_some, Option.some.injEq, Prod.mk.injEq] at hI
    obtain ⟨hz, hs⟩ := hI
    have hr : (Instr.buildSlice T 0 #[]).run P w = .ok (.slice (some ⟨w.heap.size, 0, none⟩) 0 0) (w.alloc (.cells #[] e)) := by
      simp [Instr.buildSlice, run_underlying hu, sizeOf, typeInfo, hq, newRow, Instr.fill]
      congr 2
      exact Array.ext (by simp) fun i h => by simp at h
    unfold Oper.wp execOp
    simp only [ho, List.map_toArray, List.map_nil, Sem.run_bind, hr, Result.andThen_ok, Sem.run_pure]
    refine ⟨_, rfl, ?_, below_new w _, fun _ => ⟨_, rfl, Nat.le_refl _, by simp⟩⟩
    rw [hS]
    exact ⟨_, rfl, Below.size hw, by simp⟩
/-- Numbers are appended to an empty literal. -/
theorem step_appE (hg : GuardOn ops md n S i o) {s x : Operand} {t e : TypeId} {bytes : Nat} (ho : o.op = .call { callee := .builtin .append, args := #[s, x], argTypes := #[t, t] }) (ht : P.underlying t = some (.slice e)) (hinf : (P.info? e).map (fun i => (i.zero, i.size, i.bytes)) = some (some (.int .u8 0), 1, bytes)) (hbt : bytes = 1) {c : Nat} {B : Option Addr} {ys : List Int}
    (hl : ys.length = 64) {SS : Nat → Prop} (hys : ∀ w, Cl W w → NumsS SS w .u8 B ys) (hS : S i = IsTx W.heap.size ys) (h1 : KnowsW ops md W a0 n S i s (IsE W.heap.size)) (h2 : Knows ops md W a0 n S i x (.slice B 64 c)) : StepOk P ops md W a0 n al S Q i o := fun a w hw hf hd => by
  rw [if_pos (hg.wanted hd)]
  subst hbt
  obtain ⟨b, e1, _, _⟩ := h1 a w hw hf hd
  have hN : Nums w .u8 B ys := fun hp => by
    obtain ⟨b, off, e, _, hc⟩ := hys w hw hp
    refine ⟨b, off, e, World.block_lt_of_cell? w _ (hc 0 hp), hc⟩
  obtain ⟨c', w', hrun, hc', hR, hb, hlt⟩ := app_empty (w := w) (b := b) (ty := o.type) (c := c) ht hinf hl (by decide) hN (by decide) (by decide)
  have e2 := h2 a w hw hf hd
  unfold Oper.wp execOp
  simp only [ho, resolve, invoke, builtin, Sem.run_bind, Sem.run_pure, Result.andThen_ok, List.map_toArray, List.map_cons, List.map_nil, e1, e2, hrun]
  exact ⟨_, rfl, by rw [hS]; exact ⟨_, c', rfl, Below.size hw, hlt, hR⟩, hb, fun _ => ⟨_, rfl, Nat.le_refl _, hlt⟩⟩
/-- A struct of a number and of a slice that was made before it. -/
theorem step_buildWr (P : Program) {ops : Array Oper} {md : Region.Mode} {W : World} {a0 : Act} {n : Nat} {al : Nat → Bool} {S : Nat → Value → World → Prop} {Q : Exit → Act → World → Prop} {i : Nat} {o : Oper} (hal : al i = false) (hg : GuardOn ops md n S i o) {T : TypeId} {x y : Operand} {u : Value} {xs : List Int} (ho : o.op = .build T #[(0, x), (1, y)]) (hb : ∀ A c, P.built T [(0, u), (1, .slice A 64 c)] = some #[u, .slice A 64 c]) (hS : S i = IsAgg W.heap.size [u] xs)
    (hx : Knows ops md W a0 n S i x u) (hy : KnowsW ops md W a0 n S i y (IsTx W.heap.size xs)) : StepOk P ops md W a0 n al S Q i o :=
  step_run hal hg fun a w hw hf hd => by
    obtain ⟨b, c, e1, h1, h2, h3⟩ := hy a w hw hf hd
    have e0 := hx a w hw hf hd
    refine ⟨.agg #[u, .slice (some ⟨b, 0, none⟩) 64 c], ?_, by rw [hS]; exact ⟨b, c, rfl, h1, h2, h3⟩⟩
    have hr := run_build (P := P) w T #[(0, u), (1, .slice (some ⟨b, 0, none⟩) 64 c)] #[u, .slice (some ⟨b, 0, none⟩) 64 c] (hb _ _)
    unfold execOp
    simp only [ho, List.map_toArray, List.map_cons, List.map_nil, e0, e1, Sem.run_bind, hr, Result.andThen_ok, Sem.run_pure]
/-- A slice literal of one such struct. -/
theorem step_bslW (hg : GuardOn ops md n S i o) {T e : TypeId} {s : Nat} {z : Value} {x : Operand} {u : Value} {xs : List Int} (ho : o.op = .buildSlice T 1 #[(0, x)]) (hu : P.underlying T = some (.slice e)) (hI : (P.info? e).map (fun i => (i.zero, i.size)) = some (some z, s)) (hsmall : ¬ 1 * s > 2 ^ 24) (hpos : ¬ 1 * s = 0)
    (hf : ∀ v : Value, Instr.fill (fun i => some (i * s, s)) ((Array.range (1 * s)).map (z.cells[· % z.cells.size]!)) [(0, .agg #[u, v])] = some #[u, v]) (hS : S i = IsRow1 W.heap.size [u] xs)
    (hx : KnowsW ops md W a0 n S i x (IsAgg W.heap.size [u] xs)) : StepOk P ops md W a0 n al S Q i o := fun a w hw hf' hd => by
  rw [if_pos (hg.wanted hd)]
  obtain ⟨b, c, e1, h1, h2, h3⟩ := hx a w hw hf' hd
  cases hq : P.info? e with
  | none => rw [hq] at hI; simp at hI
  | some ie =>
    rw [hq] at hI
    simp only [Option.map_some, Option.some.injEq, Prod.mk.injEq] at hI
    obtain ⟨hz, rfl⟩ := hI
    refine wp_buildSlice T e 1 #[(0, x)] ho #[u, .slice (some ⟨b, 0, none⟩) 64 c] ie z hu hq hz hsmall hpos (by simp only [List.map_toArray, List.map_cons, List.map_nil, e1]; exact hf _) ?_
    have hR := Rw.new w [u, .slice (some ⟨b, 0, none⟩) 64 c] e
    refine ⟨_, rfl, ?_, below_new w _, fun _ => ⟨_, rfl, Nat.le_refl _, by simp⟩⟩
    rw [hS]
    exact ⟨w.heap.size, b, c, rfl, hR, h1, by simp; omega, h3.next (below_new w _)⟩
end
theorem infU8 : (Try.prog.info? 5).map (fun i => (i.zero, i.size)) = some (some (.int .u8 0), 1) := by kernel_rfl
theorem infU8b : (Try.prog.info? 5).map (fun i => (i.zero, i.size, i.bytes)) = some (some (.int .u8 0), 1, 1) := by kernel_rfl
theorem infRw : (Try.prog.info? 73).map (fun i => (i.zero, i.size)) = some (some (.agg #[.int .i64 0, .slice none 0 0]), 2) := by kernel_rfl
theorem infRwb : (Try.prog.info? 73).map (fun i => (i.zero, i.size, i.bytes)) = some (some (.agg #[.int .i64 0, .slice none 0 0]), 2, 32) := by kernel_rfl
section
variable {B : Nat → Prop} {w w3 : World} {q n : Nat} {AK : Option Addr} {cK : Nat} {AW A' : Option Addr} {cW c' : Nat} {ps ws : List Value} {K : List (List Int)} {W : List (Nat × List Int)} {f : Int} {off : Bool} {li : Int} {x : Nat × List Int} {bb cb : Nat}
/-- One more write waits. -/
theorem RT.pend (h : RT B w q n AK cK AW cW ps ws K W f off li) (hx : x.1 < n ∧ x.2.length = 64) (hbb : ¬ footR q AK AW bb) (hbl : bb < w.heap.size) (hRb : Rw w bb 0 (ints .u8 x.2)) (hg : w.grownBy w3 (Value.slice AW W.length cW).ownBlock) (hr : w3.ownsRow 0 73 2 (.slice A' (W.length + 1) c') (W.length + 1) (ws ++ ([.int .i64 (x.1 : Nat)] ++ [.slice (some ⟨bb, 0, none⟩) 64 cb]))) (ho : (Value.slice A' (W.length + 1) c').ownBlock = (Value.slice AW W.length cW).ownBlock ∨ (Value.slice A' (W.length + 1) c').ownBlock = some w.heap.size) :
    RT (fun b => B b ∨ b = bb) (w3.setCell ⟨q, 1, none⟩ (.slice A' (W.length + 1) c')) q n AK cK A' c' ps (ws ++ ([.int .i64 (x.1 : Nat)] ++ [.slice (some ⟨bb, 0, none⟩) 64 cb])) K (W ++ [x]) f off li ∧ Chg (footR q AK AW) w (w3.setCell ⟨q, 1, none⟩ (.slice A' (W.length + 1) c')) ∧ (∀ b, footR q AK A' b → footR q AK AW b ∨ (w.heap.size ≤ b ∧ b < (w3.setCell ⟨q, 1, none⟩ (.slice A' (W.length + 1) c')).heap.size)) ∧ Blk w3 q 53 [.slice AK n cK, .slice AW W.length cW, .int .i64 f, .bool off, .int .i64 li] := by
  have hp3 := h.blk.grown hg (blk_ne h.blk h.rW (by decide))
  have rK3 := h.rK.kept hg (row_ne h.rK h.rW (by decide))
  have e : (W ++ [x]).length = W.length + 1 := by simp
  have hC : Chg (footR q AK AW) w (w3.setCell ⟨q, 1, none⟩ (.slice A' (W.length + 1) c')) := ((Chg.refl _ w).grown hg (fun g e => .inl (.inr (.inr (by rw [← e]; exact (own00 _ _ _).symm))))).setCell (p := ⟨q, 1, none⟩) (.inl (.inl rfl)) _
  have hB : ∀ b, B b ∨ b = bb → (w3.setCell ⟨q, 1, none⟩ (.slice A' (W.length + 1) c')).heap[b]? = w.heap[b]? := fun b hb => by
    rcases hb with hb | rfl
    · exact hC.block b (h.dis b hb).2 (h.dis b hb).1
    · exact hC.block b hbl hbb
  have ho' : (Value.slice A' 0 0).ownBlock = (Value.slice AW 0 0).ownBlock ∨ (Value.slice A' 0 0).ownBlock = some w.heap.size := by
    rw [own00, own00 AW] at ho
    exact ho
  have hft : ∀ b, footR q AK A' b → footR q AK AW b ∨ b = w.heap.size := fun b hb => by
    rcases hb with h1 | h1 | h1
    · exact .inl (.inl h1)
    · exact .inl (.inr (.inl h1))
    · rcases ho' with h2 | h2
      · exact .inl (.inr (.inr (h2.symm.trans h1)))
      · rw [h2] at h1; injection h1 with h1; exact .inr h1.symm
  have hwl : ws.length = W.length * 2 := h.rW.1
  refine ⟨⟨by rw [e]; exact hp3.set 1 _, row_setC rK3 hp3 (by decide) 1 _, by rw [e]; exact row_setC hr hp3 (by decide) 1 _, h.nK, h.sK, h.wW.app hx, (h.tK.more fun b hb => .inl hb).keep hB, fun j y hj => ?_, fun b hb => ⟨fun hf => ?_, ?_⟩⟩, hC, fun b hb => ?_, hp3⟩
  · by_cases hjl : j < W.length
    · rw [List.getElem?_append_left hjl] at hj
      obtain ⟨A, c, h1, h2, h3⟩ := h.tW j y hj
      exact ⟨A, c, by rw [List.getElem?_append_left (by omega)]; exact h1, by rw [List.getElem?_append_left (by omega)]; exact h2, (h3.sub fun b hb => .inl hb).keep hB⟩
    · have hj0 : j = W.length := by have := (List.getElem?_eq_some_iff.1 hj).1; simp at this; omega
      subst hj0
      rw [List.getElem?_append_right (Nat.le_refl _), Nat.sub_self] at hj
      simp at hj
      subst hj
      refine ⟨some ⟨bb, 0, none⟩, cb, ?_, ?_, ?_⟩
      · rw [List.getElem?_append_right (by omega), show W.length * 2 - ws.length = 0 by omega]; rfl
      · rw [List.getElem?_append_right (by omega), show W.length * 2 + 1 - ws.length = 1 by omega]; rfl
      · have h0 : NumsS (fun b => B b ∨ b = bb) w .u8 (some ⟨bb, 0, none⟩) x.2 := fun hp => ⟨bb, 0, rfl, .inr rfl, fun i hi => (hRb i _ (by simp [ints, hi])).1⟩
        exact h0.keep hB
  · rcases hft b hf with h1 | h1
    · rcases hb with h2 | rfl
      · exact (h.dis b h2).1 h1
      · exact hbb h1
    · rcases hb with h2 | rfl
      · have := (h.dis b h2).2; omega
      · omega
  · rw [setCell_size]
    rcases hb with h2 | rfl
    · exact Nat.lt_of_lt_of_le (h.dis b h2).2 hg.size
    · exact Nat.lt_of_lt_of_le hbl hg.size
  · have hlt : b < (w3.setCell ⟨q, 1, none⟩ (.slice A' (W.length + 1) c')).heap.size := by
      rcases hb with rfl | h1 | h1
      · rw [setCell_size]; exact hp3.lt
      · rw [setCell_size]; exact rowlt rK3 b (by rw [← h1]; exact own00 _ _ _)
      · rw [setCell_size]; exact rowlt hr b (by rw [← h1]; exact own00 _ _ _)
    rcases hft b hb with h1 | h1
    · exact .inl h1
    · exact .inr ⟨by omega, hlt⟩
end
set_option maxHeartbeats 4000000 in
theorem rwrite_core (B : Nat → Prop) (q n N : Nat) (AK : Option Addr) (cK : Nat) (AW : Option Addr) (cW : Nat) (ps ws : List Value) (K : List (List Int)) (W : List (Nat × List Int)) (f fu li : Int) (A : Option Addr) (cA : Nat) (xs : List Int) (w : World)
    (hT : RT B w q n AK cK AW cW ps ws K W f false li) (hf : Hid (f = fu)) (h0 : Hid (-1 ≤ fu)) (h9 : Hid (fu ≤ 9223372036854775807)) (hN : N < n) (hWl : W.length ≤ 900) (HX : Hid (xs.length = 64)) (hA0 : Nums w .u8 A xs) (er fB : Int) (oB : Bool) (hoB : Hid ((burnD ⟨K, W ++ [(N, xs)], fu, false, li⟩).off = oB)) (hfB : Hid ((burnD ⟨K, W ++ [(N, xs)], fu, false, li⟩).fu = fB)) (her : Hid (er = if oB = true then 30 else 0)) :
    Calls Try.prog 26 #[.pointer (some ⟨q, 0, none⟩), .int .i64 N, .slice A 64 cA] w fun e w' => e = .returned (.int .i64 er) ∧ (∃ A' c' ws' f' bb, RT (fun b => B b ∨ b = bb) w' q n AK cK A' c' ps ws' K (W ++ [(N, xs)]) f' oB li ∧ (oB = false → f' = fB) ∧ (w.heap.size ≤ bb ∧ bb < w'.heap.size) ∧ ∀ b, footR q AK A' b → footR q AK AW b ∨ (w.heap.size ≤ b ∧ b < w'.heap.size)) ∧ Chg (footR q AK AW) w w' := by
  have c0 := hT.blk.cell (i := 0) rfl
  have c3 := hT.blk.cell (i := 3) rfl
  have hA : NumsS (fun b => b < w.heap.size ∧ True) w .u8 A xs := fun hp => by
    obtain ⟨b, off, e, hb, hc⟩ := hA0 hp
    exact ⟨b, off, e, ⟨hb, trivial⟩, hc⟩
  have e0 : decide ((N : Int) < 0) = false := decide_eq_false (by omega)
  have e1 : ¬ (n : Int) ≤ N := by omega
  have e2 : (N : Int) < n := by omega
  have HN := hid hN
  clear hA0 hN
  go_enter Try.func26, Try.ntmps26
  go_upto_region 7 with (fail)
  clear c0 c3 e0 e1 e2
  refine region_evt 12 11 41 [false, true, true, true, true, true, true, true, true, true, true, false] [Is (Value.pointer (some ⟨q, 0, none⟩)), Is (Value.pointer (some ⟨q, 0, none⟩)), Is (Value.pointer (some ⟨q, 0, none⟩)), Is (Value.pointer (some ⟨q, 1, none⟩)), Is (Value.slice AW W.length cW), Is (Value.int .i64 (N : Nat)), IsE w.heap.size, Is (Value.slice A 64 cA), IsTx w.heap.size xs, IsAgg w.heap.size [.int .i64 (N : Nat)] xs, IsRow1 w.heap.size [.int .i64 (N : Nat)] xs, (fun _ _ => True)] [25, 26, 27, 28, 29, 30, 31, 32, 33, 34, 35, 36] (fun w0 u w1 => ∃ b c, AppR 73 2 (.slice AW W.length cW) W.length ws ([.int .i64 (N : Nat)] ++ [.slice (some ⟨b, 0, none⟩) 64 c]) w0 u w1 ∧ w.heap.size ≤ b ∧ b < w0.heap.size ∧ Rw w0 b 0 (ints .u8 xs)) (by kernel_rfl) (by kernel_rfl) (by kernel_rfl) (Nat.le_of_eq rfl) (grows_cons (Is.grows _) (grows_cons (Is.grows _) (grows_cons (Is.grows _) (grows_cons (Is.grows _) (grows_cons (Is.grows _) (grows_cons (Is.grows _) (grows_cons (IsE.grows _) (grows_cons (Is.grows _) (grows_cons (IsTx.grows _ _) (grows_cons (IsAgg.grows _ _ _) (grows_cons (IsRow1.grows _ _ _) (grows_cons (fun _ _ _ _ _ => trivial) grows_nil))))))))))))
    ⟨.inr (.inr ⟨rfl, pure_ex (Value.pointer (some ⟨q, 0, none⟩)) rfl rfl (fun a w0 ww hw hf hd => by
   have h0 : a.eval (.tmp 0) = Value.pointer (some ⟨q, 0, none⟩) := ((knows_out 0 (by kernel_rfl) rfl) : Knows _ _ _ _ _ _ 0 _ _) a w0 hw hf hd
   revert h0
   generalize a.eval = ev
   intro h0
   unfold execOp
   simp only [h0]
   go_simp)⟩),
     .inr (.inl ⟨rfl, step_ex _ rfl (.inl rfl) rfl (fun a ww hw hf hd => by
   have h0 : a.eval (.tmp 0) = Value.pointer (some ⟨q, 0, none⟩) := ((knows_out 0 (by kernel_rfl) rfl) : Knows _ _ _ _ _ _ 1 _ _) a ww hw hf hd
   revert h0
   generalize a.eval = ev
   intro h0
   unfold execOp
   simp only [h0]
   go_simp)⟩),
     .inr (.inl ⟨rfl, step_ex _ rfl (.inl rfl) rfl (fun a ww hw hf hd => by
   have h26 : a.eval (.tmp 26) = Value.pointer (some ⟨q, 0, none⟩) := ((knows_in 1 26 (by decide) (by kernel_rfl) rfl rfl) : Knows _ _ _ _ _ _ 2 _ _) a ww hw hf hd
   revert h26
   generalize a.eval = ev
   intro h26
   unfold execOp
   simp only [h26]
   go_simp)⟩),
     .inr (.inl ⟨rfl, step_ex _ rfl (.inl rfl) rfl (fun a ww hw hf hd => by
   have h27 : a.eval (.tmp 27) = Value.pointer (some ⟨q, 0, none⟩) := ((knows_in 2 27 (by decide) (by kernel_rfl) rfl rfl) : Knows _ _ _ _ _ _ 3 _ _) a ww hw hf hd
   revert h27
   generalize a.eval = ev
   intro h27
   unfold execOp
   simp only [h27]
   go_simp)⟩),
     .inr (.inl ⟨rfl, step_ex _ rfl (.inl rfl) rfl (fun a ww hw hf hd => by
   have h28 : a.eval (.tmp 28) = Value.pointer (some ⟨q, 1, none⟩) := ((knows_in 3 28 (by decide) (by kernel_rfl) rfl rfl) : Knows _ _ _ _ _ _ 4 _ _) a ww hw hf hd
   have f0 : ww.cell? ⟨q, 1, none⟩ = some (Value.slice AW W.length cW) := (hT.next hw).blk.cell (i := 1) rfl
   revert h28
   generalize a.eval = ev
   intro h28
   unfold execOp
   simp only [h28]
   go_simp)⟩),
     .inr (.inl ⟨rfl, step_ex _ rfl (.inl rfl) rfl (fun a ww hw hf hd => by
   have h1 : a.eval (.tmp 1) = Value.int .i64 (N : Nat) := ((knows_out 1 (by kernel_rfl) rfl) : Knows _ _ _ _ _ _ 5 _ _) a ww hw hf hd
   revert h1
   generalize a.eval = ev
   intro h1
   unfold execOp
   simp only [h1]
   go_simp)⟩),
     .inr (.inl ⟨rfl, step_bslE (.inl rfl) rfl Try.underlying32 infU8 rfl⟩),
     .inr (.inl ⟨rfl, step_ex _ rfl (.inl rfl) rfl (fun a ww hw hf hd => by
   have h2 : a.eval (.tmp 2) = Value.slice A 64 cA := ((knows_out 2 (by kernel_rfl) rfl) : Knows _ _ _ _ _ _ 7 _ _) a ww hw hf hd
   revert h2
   generalize a.eval = ev
   intro h2
   unfold execOp
   simp only [h2]
   go_simp)⟩),
     .inr (.inl ⟨rfl, step_appE (.inl rfl) rfl Try.underlying32 infU8b (by decide) HX.out (fun ww hw => hA.keep (fun b hb => hw.block b hb.1)) rfl (knowsW_in 6 31 (by decide) (by kernel_rfl) rfl rfl) (knows_in 7 32 (by decide) (by kernel_rfl) rfl rfl)⟩),
     .inr (.inl ⟨rfl, step_buildWr (Try.prog) rfl (.inl rfl) rfl (fun A c => by kernel_rfl) rfl (knows_in 5 30 (by decide) (by kernel_rfl) rfl rfl) (knowsW_in 8 33 (by decide) (by kernel_rfl) rfl rfl)⟩),
     .inr (.inl ⟨rfl, step_bslW (.inl rfl) rfl Try.underlying51 infRw (by decide) (by decide) (fun v => by kernel_rfl) rfl (knowsW_in 9 34 (by decide) (by kernel_rfl) rfl rfl)⟩),
     .inl rfl, trivial⟩ _ rfl rfl ?_ ?_
  · intro a ww hw hf hd
    have h29 : a.eval (.tmp 29) = Value.slice AW W.length cW := hd 4 29 (by decide) (by kernel_rfl) rfl
    obtain ⟨g, b, c, hb1, hb2, hb3, hb4, hb5⟩ := hd 10 35 (by decide) (by kernel_rfl) rfl
    refine Oper.wp_mono ?_ (evt_app rfl rfl Try.underlying51 infRwb rfl (by decide) (by decide) (hT.next hw).rW h29 ⟨g, hb1, hb2⟩ rfl (by simp [Value.oneCell']) (by omega))
    rintro a' w' ⟨u, rfl, hu⟩
    exact ⟨u, rfl, b, c, hu, hb3, hb4, hb5⟩
  intro val W2 W3 hw hS hR
  have e25 : val 25 = Value.pointer (some ⟨q, 0, none⟩) := hS 0 25 (by decide) (by decide) rfl
  have e26 : val 26 = Value.pointer (some ⟨q, 0, none⟩) := hS 1 26 (by decide) (by decide) rfl
  have e27 : val 27 = Value.pointer (some ⟨q, 0, none⟩) := hS 2 27 (by decide) (by decide) rfl
  have e28 : val 28 = Value.pointer (some ⟨q, 1, none⟩) := hS 3 28 (by decide) (by decide) rfl
  have e29 : val 29 = Value.slice AW W.length cW := hS 4 29 (by decide) (by decide) rfl
  have e30 : val 30 = Value.int .i64 (N : Nat) := hS 5 30 (by decide) (by decide) rfl
  have e32 : val 32 = Value.slice A 64 cA := hS 7 32 (by decide) (by decide) rfl
  have hR := hR 36 rfl
  obtain ⟨bb, cb, ⟨A36, c36, e36, hl36, hm36, hr36, hg36, ho36⟩, hbb, hbb2, hRb⟩ := hR
  rw [e36] at hr36 ho36
  simp only [putVals, List.foldl_cons, List.foldl_nil, List.drop_succ_cons, List.drop_zero, Act.put, List.setIfInBounds_toArray, List.set_cons_succ, List.set_cons_zero, e25, e26, e27, e28, e29, e30, e32, e36]
  generalize val 31 = g31
  generalize val 33 = g33
  generalize val 34 = g34
  generalize val 35 = g35
  clear e25 e26 e27 e28 e29 e30 e32 e36 hS
  have hT2 := hT.next hw
  have hnf : ¬ footR q AK AW bb := fun e => by have := hT.lt bb e; omega
  obtain ⟨hT4, hC4, hf4, hp3⟩ := hT2.pend (x := (N, xs)) ⟨HN.out, HX.out⟩ hnf hbb2 hRb hg36 hr36 ho36
  have x1 := hp3.free 1
  have c1 := hp3.cell (i := 1) rfl
  have hz2 := hw.size
  have hC5 := (Chg.of hw (footR q AK AW)).trans hC4 (fun b _ hb => hb)
  obtain ⟨W4, hW4⟩ : ∃ W4, W3.setCell ⟨q, 1, none⟩ (.slice A36 (W.length + 1) c36) = W4 := ⟨_, rfl⟩
  rw [hW4] at hT4 hC4 hf4 hC5
  have hbb4 := Nat.lt_of_lt_of_le hbb2 hC4.size
  have HW4 := hid hW4
  have HF4 := hid hf4
  have HBB := hid (And.intro hbb hbb4)
  clear hT hT2 hnf hp3 hg36 hr36 ho36 hW4 hw hC4 hf4 hA hRb hbb hbb2 hbb4
  go_upto_region 8 with (fail)
  rw [HW4.out]
  clear HW4 x1 c1
  generalize hcs : ws ++ ([.int .i64 (N : Nat)] ++ [.slice (some ⟨bb, 0, none⟩) 64 cb]) = ws' at hT4
  clear hcs
  have HB := rburn_any hT4 hf.out h0.out h9.out
  clear hT4
  rw [hoB.out, hfB.out] at HB
  clear hoB hfB
  cases oB with
  | true =>
    obtain rfl : er = 30 := her.out
    go_wp2_with (go_at_call 38; refine HB.mono ?_; rintro e w7 ⟨rfl, ⟨f', hT7, hf7⟩, hC8⟩)
    go_ret
    have hs8 := hC8.size
    refine ⟨rfl, ⟨A36, c36, ws', f', bb, hT7, hf7, ⟨HBB.out.1, by have := HBB.out.2; omega⟩, fun b hb => ?_⟩, hC5.trans hC8 (fun b _ hb => .inl hb)⟩
    rcases HF4.out b hb with h1 | h1
    · exact .inl h1
    · exact .inr ⟨by omega, by omega⟩
  | false =>
    obtain rfl : er = 0 := her.out
    go_wp2_with (go_at_call 38; refine HB.mono ?_; rintro e w7 ⟨rfl, ⟨f', hT7, hf7⟩, hC8⟩)
    go_ret
    have hs8 := hC8.size
    refine ⟨rfl, ⟨A36, c36, ws', f', bb, hT7, (by first | exact hf7 trivial | exact hf7), ⟨HBB.out.1, by have := HBB.out.2; omega⟩, fun b hb => ?_⟩, hC5.trans hC8 (fun b _ hb => .inl hb)⟩
    rcases HF4.out b hb with h1 | h1
    · exact .inl h1
    · exact .inr ⟨by omega, by omega⟩
set_option maxHeartbeats 2000000 in
theorem rwrite_any (F B : Nat → Prop) (q m : Nat) (D : DK) (n : Int) (A : Option Addr) (cA : Nat) (xs : List Int) (w : World) (h : RS F B w q D) (hD : Dok m D) (hm : m ≤ 900) (hA : Nums w .u8 A xs) :
    Calls Try.prog 26 #[.pointer (some ⟨q, 0, none⟩), .int .i64 n, .slice A xs.length cA] w fun e w' => e = .returned (.int .i64 (writeR D n xs).1) ∧ RSn F B w w' q (writeR D n xs).2 ∧ Chg F w w' := by
  obtain ⟨AK, cK, AW, cW, f, c0, c1, c2, c3, c4, x2⟩ := h.cells
  have HS := hid (fun w' (hw : w = w') => And.intro (show RSn F B w w' q D from h.same (by rw [hw]; exact Below.refl _ _)) (show Chg F w w' by rw [← hw]; exact Chg.refl F w))
  by_cases hoff : D.off = true
  · have e : writeR D n xs = (30, D) := by unfold writeR; rw [if_pos hoff]
    rw [e]
    rw [hoff] at c3
    clear h hD c0 c1 c2 c4 x2 e hoff hA
    go_enter Try.func26, Try.ntmps26
    go_wp2
    go_ret
    exact ⟨rfl, HS.out _ rfl⟩
  · have hoff' : D.off = false := by simpa using hoff
    rw [hoff'] at c3
    by_cases hr : n < 0 ∨ (D.K.length : Int) ≤ n
    · have e : writeR D n xs = (31, D) := by unfold writeR; rw [if_neg hoff, if_pos hr]
      rw [e]
      by_cases hn : n < 0
      · have e0 : decide (n < 0) = true := decide_eq_true hn
        clear h hD c1 c2 c4 x2 e hoff hoff' hr hn hA
        go_enter Try.func26, Try.ntmps26
        go_wp2
        go_ret
        exact ⟨rfl, HS.out _ rfl⟩
      · have e0 : decide (n < 0) = false := decide_eq_false hn
        have e1 : (D.K.length : Int) ≤ n := by omega
        have e2 : ¬ n < (D.K.length : Int) := by omega
        have e3 : decide ((D.K.length : Int) ≤ n) = true := decide_eq_true e1
        have e4 : decide (n < (D.K.length : Int)) = false := decide_eq_false e2
        clear h hD c1 c2 c4 x2 e hoff hoff' hr hn hA
        go_enter Try.func26, Try.ntmps26
        go_wp2
        go_ret
        exact ⟨rfl, HS.out _ rfl⟩
    · by_cases hl : xs.length = 64
      · obtain ⟨N, rfl⟩ : ∃ N : Nat, n = (N : Int) := ⟨n.toNat, by omega⟩
        have e : writeR D N xs = (errB D, burnD { D with W := D.W ++ [(N, xs)] }) := by
          unfold writeR
          rw [if_neg hoff, if_neg hr, if_neg (by omega)]
          rfl
        rw [e, hl]
        obtain ⟨AK, cK, AW, cW, ps, ws, f, hT, hf, h1, h2⟩ := h
        obtain ⟨K, W, fu, off, li⟩ := D
        dsimp only at hT hf hoff' hr hD
        subst hoff'
        refine (rwrite_core B q K.length N AK cK AW cW ps ws K W f fu li A cA xs w hT (hid (hf rfl)) (hid hD.f0) (hid hD.f1) (by omega) (Nat.le_trans hD.w1 hm) (hid hl) hA (errB ⟨K, W, fu, false, li⟩) _ _ (hid rfl) (hid rfl) (hid (burn_err ⟨K, W ++ [(N, xs)], fu, false, li⟩ rfl))).mono ?_
        rintro e w' ⟨he, ⟨A', c', ws', f', bb, hT', hf', hbb, hF'⟩, hC⟩
        refine ⟨he, RSn.mk' (AK := AK) (cK := cK) (AW := A') (cW := c') (ps := ps) (ws := ws') (f := f') (B' := fun b => B b ∨ b = bb) ?_ hf' (fun b hb => ?_) (fun b hb => ?_), hC.sub (fun b _ hb => h1 b hb)⟩
        · rw [burnD_K, burnD_W, burnD_li]
          exact hT'
        · rcases hF' b hb with h3 | h3
          · exact .inl (h1 b h3)
          · exact .inr h3
        · rcases hb with h3 | rfl
          · exact .inl h3
          · exact .inr hbb
      · have e : writeR D n xs = (2, D) := by unfold writeR; rw [if_neg hoff, if_neg hr, if_pos hl]
        rw [e]
        have e0 : decide (n < 0) = false := decide_eq_false (by omega)
        have e1 : ¬ (D.K.length : Int) ≤ n := by omega
        have e2 : n < (D.K.length : Int) := by omega
        have hl2 : ((xs.length : Int) != 64) = true := bne_iff_ne.2 (by omega)
        obtain ⟨l, hll⟩ : ∃ l, xs.length = l := ⟨_, rfl⟩
        rw [hll] at hl2 ⊢
        have hl3 : ¬ l = 64 := by omega
        clear h hD c1 c2 c4 x2 e hoff hoff' hr hl hA hll
        go_enter Try.func26, Try.ntmps26
        go_wp2
        go_ret
        exact ⟨rfl, HS.out _ rfl⟩
end Go.Proofs.Ytdfalneiapeegaa
