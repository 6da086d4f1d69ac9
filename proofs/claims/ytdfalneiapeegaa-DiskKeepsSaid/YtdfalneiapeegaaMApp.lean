/- A slice without room is appended to; a slice as an array. No program is named. -/
import Derived.Test.YtdfalneiapeegaaMRow
namespace Go.Proofs.Ytdfalneiapeegaa
open Go Go.RowKit

/-- A slice of known cells, from a block's beginning on. -/
def IsSlV (m : Nat) (vs : List Value) : Value → World → Prop := fun v w => ∃ b c, v = .slice (some ⟨b, 0, none⟩) m c ∧ m ≤ c ∧ Rw w b 0 vs
theorem IsSlV.grows (m : Nat) (vs : List Value) : Grows (IsSlV m vs) := fun _ _ _ ⟨b, c, h1, h0, h2⟩ hb => ⟨b, c, h1, h0, h2.next hb⟩
/-- A pointer to known cells. -/
def IsPt (vs : List Value) : Value → World → Prop := fun v w => ∃ b f, v = .pointer (some ⟨b, f, none⟩) ∧ Rw w b f vs
theorem IsPt.grows (vs : List Value) : Grows (IsPt vs) := fun _ _ _ ⟨b, f, h1, h2⟩ hb => ⟨b, f, h1, h2.next hb⟩
section
variable {P : Program} {ops : Array Oper} {md : Region.Mode} {W : World} {a0 : Act} {n : Nat} {al : Nat → Bool} {S : Nat → Value → World → Prop} {Q : Exit → Act → World → Prop} {i : Nat} {o : Oper}
theorem step_arrW (hal : al i = false) (hg : GuardOn ops md n S i o) {T e k m : Nat} {vs : List Value} (hT : P.underlying T = some (.array k e)) (hk : k ≤ m) {x : Operand} (ho : o.op = .sliceToArrayPointer T x) (hS : S i = IsPt vs) (hx : KnowsW ops md W a0 n S i x (IsSlV m vs)) : StepOk P ops md W a0 n al S Q i o :=
  step_run hal hg fun a w hw hf hd => by
    obtain ⟨b, c, h1, h0, h2⟩ := hx a w hw hf hd
    refine ⟨.pointer (some ⟨b, 0, none⟩), ?_, by rw [hS]; exact ⟨b, 0, rfl, h2⟩⟩
    exact ex_arrP hT hk ho a.eval w h1 (fun _ => rfl)
theorem step_ldP (hal : al i = false) (hg : GuardOn ops md n S i o) {T : TypeId} {x : Operand} {vs : List Value} {d : TypeDesc} (ho : o.op = .load T x) (hU : P.underlying T = some d) (hR : d.isRow = true) (hs : (P.info? T).map (·.size) = some vs.length) (hS : S i = Is (.agg vs.toArray)) (hx : KnowsW ops md W a0 n S i x (IsPt vs)) : StepOk P ops md W a0 n al S Q i o :=
  step_ldW hal hg ho hU hR hs hS (hx.and fun _ _ _ ⟨b, f, h1, h2⟩ => ⟨b, f, h1, h2.range⟩)
theorem app_full {w : World} {t ty e : TypeId} {k : IntKind} {bytes : Nat} (ht : P.underlying t = some (.slice e)) (hinf : (P.info? e).map (fun i => (i.zero, i.size, i.bytes)) = some (some (.int k 0), 1, bytes)) {b f m l c : Nat} {B : Option Addr} {xs ys : List Int}
    (hm : xs.length = m) (hl : ys.length = l) (hp : 0 < l) (hxs : Nums w k (some ⟨b, f, none⟩) xs) (hm0 : 0 < m) (hys : Nums w k B ys) (h63 : (m + l) * bytes ≤ 140737488355328) (hbt : 0 < bytes) :
    ∃ c' w', (Builtin.append_ #[t, t] ty #[.slice (some ⟨b, f, none⟩) m m, .slice B l c]).run P w = .ok (.slice (some ⟨w.heap.size, 0, none⟩) (m + l) c') w' ∧ m + l ≤ c' ∧ Rw w' w.heap.size 0 (ints k (xs ++ ys)) ∧ Below w.heap.size w w' ∧ w.heap.size < w'.heap.size := by
  obtain ⟨i, hi, hz, hsize, hby⟩ := info_parts hinf
  subst hm hl
  have hmx : xs.length + ys.length ≤ maxLen := by
    have : xs.length + ys.length ≤ (xs.length + ys.length) * bytes := Nat.le_mul_of_pos_right _ hbt
    unfold maxLen; omega
  obtain ⟨bb, ff, hB, hlt, hc⟩ := hys hp
  obtain ⟨b2, f2, e2, hlt2, hc2⟩ := hxs hm0
  injection e2 with e2
  injection e2 with e2 e3
  subst e2 e3
  subst hB
  have hrun := run_append_grow (P := P) w t ty e i (.int k 0) ht hi hz ⟨b, f, none⟩ xs.length xs.length (xs.map (Value.int k)) (by rw [hsize]; simp) (fun j v hv => by
      rw [List.getElem?_map, Option.map_eq_some_iff] at hv
      obtain ⟨x, hx, rfl⟩ := hv
      have hj := (List.getElem?_eq_some_iff.1 hx).1
      rw [Addr.add_mid, hc2 j hj, List.getD_eq_getElem?_getD, hx]; rfl) ⟨bb, ff, none⟩ ys.length c (ys.map (Value.int k)) (by rw [hsize]; simp) (fun j v hv => by
      rw [List.getElem?_map, Option.map_eq_some_iff] at hv
      obtain ⟨x, hx, rfl⟩ := hv
      have hj := (List.getElem?_eq_some_iff.1 hx).1
      rw [Addr.add_mid, hc j hj, List.getD_eq_getElem?_getD, hx]; rfl) (by omega) (by simp only [maxLen] at hmx; omega) (by rw [hby]; exact growslice_fits (by omega) h63)
  refine ⟨_, _, hrun, grownCap_ge _ _ _ _, ?_, ((Below.refl _ _).drew).alloc (Nat.le_refl _) _, by simp⟩
  intro j v hv
  rw [Nat.zero_add]
  have h1 := World.cell?_alloc_new (w := w.drew) ((xs.map (Value.int k)).toArray ++ (ys.map (Value.int k)).toArray ++ Builtin.zeroCells (Value.int k 0).cells (grownCap w (xs.length + ys.length) xs.length e - (xs.length + ys.length))) e j
  have h2 := World.frozen?_alloc_new (w := w.drew) ((xs.map (Value.int k)).toArray ++ (ys.map (Value.int k)).toArray ++ Builtin.zeroCells (Value.int k 0).cells (grownCap w (xs.length + ys.length) xs.length e - (xs.length + ys.length))) e j
  refine ⟨h1.trans ?_, h2⟩
  have hj := (List.getElem?_eq_some_iff.1 hv).1
  rw [ints_length, List.length_append] at hj
  rw [Array.getElem?_append_left (by simp; omega), ← hv]
  simp [ints]
/-- Numbers are appended to a slice that has no room. -/
theorem step_appF (hg : GuardOn ops md n S i o) {s x : Operand} {t e : TypeId} {k : IntKind} {bytes : Nat} (ho : o.op = .call { callee := .builtin .append, args := #[s, x], argTypes := #[t, t] }) (ht : P.underlying t = some (.slice e)) (hinf : (P.info? e).map (fun i => (i.zero, i.size, i.bytes)) = some (some (.int k 0), 1, bytes)) {b f m l c q : Nat} {B : Option Addr} {xs ys : List Int}
    (hm : xs.length = m) (hl : ys.length = l) (hm0 : 0 < m) (hp : 0 < l) (hxs : ∀ w, Cl W w → Nums w k (some ⟨b, f, none⟩) xs) (hys : ∀ w, Cl W w → Nums w k B ys) (h63 : (m + l) * bytes ≤ 140737488355328) (hbt : 0 < bytes) (hq : m + l = q) (hS : S i = IsSlV q (ints k (xs ++ ys)))
    (h1 : Knows ops md W a0 n S i s (.slice (some ⟨b, f, none⟩) m m)) (h2 : Knows ops md W a0 n S i x (.slice B l c)) : StepOk P ops md W a0 n al S Q i o := fun a w hw hf hd => by
  rw [if_pos (hg.wanted hd)]
  subst hq
  obtain ⟨c', w', hrun, hc', hR, hb, hlt⟩ := app_full (w := w) (ty := o.type) (c := c) ht hinf hm hl hp (hxs w hw) hm0 (hys w hw) h63 hbt
  have e1 := h1 a w hw hf hd
  have e2 := h2 a w hw hf hd
  unfold Oper.wp execOp
  simp only [ho, resolve, invoke, builtin, Sem.run_bind, Sem.run_pure, Result.andThen_ok, List.map_toArray, List.map_cons, List.map_nil, e1, e2, hrun]
  exact ⟨_, rfl, by rw [hS]; exact ⟨_, c', rfl, hc', hR⟩, hb, fun _ => ⟨_, rfl, Nat.le_refl _, hlt⟩⟩
end
end Go.Proofs.Ytdfalneiapeegaa
