/- A document's disk that shares its bytes with another. -/
import Derived.Test.YtdfalneiapeegaaLWhole
namespace Go.Proofs.Ytdfalneiapeegaa
open Go Go.RowKit Go.Maps

def IsBlk (base : Nat) (T : TypeId) (zs : List Value) : Value → World → Prop := fun v w => ∃ b, v = .pointer (some ⟨b, 0, none⟩) ∧ base ≤ b ∧ Blk w b T zs
theorem IsBlk.grows (base : Nat) (T : TypeId) (zs : List Value) : Grows (IsBlk base T zs) := fun _ _ _ ⟨b, h1, h0, h2⟩ hb => ⟨b, h1, h0, h2.next hb⟩
/-- What an append of m elements onto none leaves. -/
def AppM (e : TypeId) (size m : Nat) (news : List Value) (w : World) (u : Value) (w' : World) : Prop :=
  ∃ A' c', u = .slice A' m c' ∧ w'.ownsRow 0 e size u m news ∧ w.grownBy w' none ∧ (∀ g, u.ownBlock = some g → w.heap.size ≤ g)
section
variable {P : Program} {ops : Array Oper} {md : Region.Mode} {W : World} {a0 : Act} {n : Nat} {al : Nat → Bool} {S : Nat → Value → World → Prop} {Q : Exit → Act → World → Prop} {i : Nat} {o : Oper}
theorem step_boxB (hg : GuardOn ops md n S i o) {T : TypeId} {x : Operand} {vs : List Value} (ho : o.op = .box T x) (hS : S i = IsBlk W.heap.size T vs) (hx : Knows ops md W a0 n S i x (.agg vs.toArray)) : StepOk P ops md W a0 n al S Q i o := fun a w hw hf hd => by
  rw [if_pos (hg.wanted hd)]
  have h := hx a w hw hf hd
  have hr : (execOp a.eval o).run P w = .ok (.value (.pointer (some ⟨w.heap.size, 0, none⟩))) (w.alloc (.cells vs.toArray T)) := by
    unfold execOp
    simp only [ho, h]
    simp [Instr.box, newVar, newRow, Value.cells]
  unfold Oper.wp
  rw [hr, Oper.upon_value]
  refine ⟨_, rfl, ?_, below_new w _, fun _ => ⟨_, rfl, Nat.le_refl _, by simp⟩⟩
  rw [hS]
  exact ⟨w.heap.size, rfl, Below.size hw, Blk.new w T vs⟩
theorem parts234 {x y z : Operand} {u t v : Value} (hx : Knows ops md W a0 n S i x u) (hy : Knows ops md W a0 n S i y t) (hz : Knows ops md W a0 n S i z v) : ∀ (a : Act) (w : World), Cl W w → Fr ops n a0 a → Dp ops md n S i a w → (#[(2, x), (3, y), (4, z)].map fun ((i : Nat), (x : Operand)) => (i, a.eval x)).toList = [(2, u), (3, t), (4, v)] := fun a w hw hf hd => by
  simp [hx a w hw hf hd, hy a w hw hf hd, hz a w hw hf hd]
theorem evt_appM {a : Act} {w : World} (hg : o.guard = none) {s x : Operand} {t e : TypeId} {z : Value} {size bytes m c g : Nat} {news : List Value} (ho : o.op = .call { callee := .builtin .append, args := #[s, x], argTypes := #[t, t] }) (ht : P.underlying t = some (.slice e)) (hI : (P.info? e).map (fun i => (i.zero, i.size, i.bytes)) = some (some z, size, bytes)) (hzs : z.cells.size = size) (hsz : 0 < size) (hb0 : bytes ≤ 1000)
    (hs : a.eval s = .slice none 0 0) (hx : a.eval x = .slice (some ⟨g, 0, none⟩) m c) (hR : Rw w g 0 news) (hl : news.length = m * size) (h1 : ∀ u ∈ news, u.oneCell' = true) (hm : m ≤ 1000) :
    o.wp P a w (fun a' w' => ∃ u, a' = a.put o.dst u ∧ AppM e size m news w u w') Q := by
  obtain ⟨i, hi, hz, hsize, hby⟩ := info_partsT hI
  obtain ⟨u, w', hrun, h2, h3, h4, h5⟩ := run_append_own_at (P := P) w 0 t o.type e i z size bytes ht hi hz hsize hby hzs hsz (.slice none 0 0) 0 [] (World.ownsRow_nil _ _ _ _) ⟨g, 0, none⟩ m c news hl
    (fun j x hj => by
      have := (hR j x hj).1
      rw [Addr.add_mid]; exact this) h1 (by unfold maxLen; omega) (Nat.le_trans (Nat.mul_le_mul (show 0 + m ≤ 1000 by omega) hb0) (by decide)) (Nat.zero_le _)
  rw [Nat.zero_add, List.nil_append] at h2
  have hform : ∃ A' c', u = .slice A' m c' := by
    rcases h2.2 with ⟨hv, h0⟩ | ⟨g, cap, cur, hv, _⟩
    · exact ⟨none, 0, by rw [hv, h0]⟩
    · exact ⟨_, _, hv⟩
  obtain ⟨A', c', hu⟩ := hform
  unfold Oper.wp execOp
  simp only [ho, resolve, invoke, builtin, Sem.run_bind, Sem.run_pure, Result.andThen_ok, List.map_toArray, List.map_cons, List.map_nil, hs, hx, hrun]
  refine ⟨u, rfl, A', c', hu, h2, h3, fun g' hg' => ?_⟩
  rcases h5 with h | h
  · rw [h] at hg'; cases hg'
  · rw [h] at hg'; injection hg' with hg'; omega
end
section
variable {B : Nat → Prop} {w w' : World} {q qy n : Nat} {AK AK' : Option Addr} {cK cK' : Nat} {AW AW' : Option Addr} {cW cW' : Nat} {ps ws : List Value} {K : List (List Int)} {W : List (Nat × List Int)} {f : Int} {off : Bool} {li : Int}
theorem RT.ps_one (h : RT B w q n AK cK AW cW ps ws K W f off li) : ∀ u ∈ ps, u.oneCell' = true := fun u hu => by
  obtain ⟨j, hj⟩ := List.mem_iff_getElem?.1 hu
  have hl := (List.getElem?_eq_some_iff.1 hj).1
  have h1 := h.rK.1
  obtain ⟨A, c, h2, _⟩ := h.tK j _ (List.getElem?_eq_getElem (show j < K.length by have := h.nK; omega))
  rw [h2] at hj
  injection hj with hj
  rw [← hj]; rfl
theorem RT.ws_one (h : RT B w q n AK cK AW cW ps ws K W f off li) : ∀ u ∈ ws, u.oneCell' = true := fun u hu => by
  obtain ⟨j, hj⟩ := List.mem_iff_getElem?.1 hu
  have hl := (List.getElem?_eq_some_iff.1 hj).1
  have h1 := h.rW.1
  obtain ⟨A, c, h2, h3, _⟩ := h.tW (j / 2) _ (List.getElem?_eq_getElem (show j / 2 < W.length by omega))
  rcases Nat.mod_two_eq_zero_or_one j with e | e
  · rw [show j / 2 * 2 = j by omega] at h2
    rw [h2] at hj
    injection hj with hj
    rw [← hj]; rfl
  · rw [show j / 2 * 2 + 1 = j by omega] at h3
    rw [h3] at hj
    injection hj with hj
    rw [← hj]; rfl
/-- Rows of the same slices: the bytes are shared. -/
theorem RT.copy (h : RT B w q n AK cK AW cW ps ws K W f off li) (hb : Below w.heap.size w w') (hB : Blk w' qy 53 [.slice AK' n cK', .slice AW' W.length cW', .int .i64 f, .bool off, .int .i64 li]) (hp : w'.ownsRow 0 32 1 (.slice AK' n cK') n ps) (hw : w'.ownsRow 0 73 2 (.slice AW' W.length cW') W.length ws) (hlo : ∀ b, footR qy AK' AW' b → w.heap.size ≤ b) : RT B w' qy n AK' cK' AW' cW' ps ws K W f off li :=
  have hk : ∀ b, B b → w'.heap[b]? = w.heap[b]? := fun b hb' => hb.block b (h.dis b hb').2
  ⟨hB, hp, hw, h.nK, h.sK, h.wW, h.tK.keep hk, h.tW.keep hk, fun b hb' => ⟨fun e => by have := hlo b e; have := (h.dis b hb').2; omega, Nat.lt_of_lt_of_le (h.dis b hb').2 hb.size⟩⟩
end
end Go.Proofs.Ytdfalneiapeegaa
