/- Steps of regions and an append of one element, for any program. -/
import Derived.Test.YtdfalneiapeegaaTEvt
import Derived.Test.YtdfalneiapeegaaTBase
import Derived.Test.YtdfalneiapeegaaAAny
import Derived.Shelf.Abstract
namespace Go.Proofs.Ytdfalneiapeegaa
open Go Go.RowKit Go.Maps

/-! ### steps -/
section
variable {P : Program} {ops : Array Oper} {md : Region.Mode} {W : World} {a0 : Act} {n : Nat} {al : Nat → Bool} {S : Nat → Value → World → Prop} {Q : Exit → Act → World → Prop} {i : Nat} {o : Oper}
theorem step_ex (v : Value) (hal : al i = false) (hg : GuardOn ops md n S i o) (hS : S i = Is v) (h : ∀ (a : Act) (w : World), Cl W w → Fr ops n a0 a → Dp ops md n S i a w → (execOp a.eval o).run P w = .ok (.value v) w) : StepOk P ops md W a0 n al S Q i o :=
  step_run hal hg fun a w hw hf hd => ⟨v, h a w hw hf hd, by rw [hS]; exact rfl⟩
theorem pure_ex (v : Value) (hg : o.guard = none) (hS : S i = Is v) (h : ∀ (a : Act) (w0 w : World), Cl W w0 → Fr ops n a0 a → Dp ops md n S i a w0 → (execOp a.eval o).run P w = .ok (.value v) w) : PureE P ops md W a0 n S i o :=
  ⟨hg, fun a w0 w hw hf hd => ⟨v, h a w0 w hw hf hd, by rw [hS]; exact rfl⟩⟩
theorem three_args {x y z : Operand} {u v t : Value} (hx : Knows ops md W a0 n S i x u) (hy : Knows ops md W a0 n S i y v) (hz : Knows ops md W a0 n S i z t) : ∀ (a : Act) (w : World), Cl W w → Fr ops n a0 a → Dp ops md n S i a w → #[x, y, z].map a.eval = #[u, v, t] := fun a w hw hf hd => by
  simp [hx a w hw hf hd, hy a w hw hf hd, hz a w hw hf hd]
theorem calls_q {f : FuncId} {vs : Array Value} {v : Value} {w : World} (h : Calls P f vs w fun e w' => e = .returned v ∧ w = w') : Calls P f vs w fun e w' => e = .returned v ∧ Below w.heap.size w w' :=
  h.mono fun _ _ ⟨he, hw⟩ => ⟨he, by subst hw; exact Below.refl _ _⟩
/-- What an append of one element leaves. -/
def AppR (e : TypeId) (size : Nat) (v : Value) (n : Nat) (xs news : List Value) (w : World) (u : Value) (w' : World) : Prop :=
  ∃ A' c', u = .slice A' (n + 1) c' ∧ n + 1 ≤ c' ∧ c' ≤ maxLen ∧ w'.ownsRow 0 e size u (n + 1) (xs ++ news) ∧ w.grownBy w' v.ownBlock ∧ (u.ownBlock = v.ownBlock ∨ u.ownBlock = some w.heap.size)
theorem info_partsT {P : Program} {e size bytes : Nat} {z : Value} (h : (P.info? e).map (fun i => (i.zero, i.size, i.bytes)) = some (some z, size, bytes)) : ∃ i, P.info? e = some i ∧ i.zero = some z ∧ i.size = size ∧ i.bytes = bytes := by
  cases hq : P.info? e with
  | none => rw [hq] at h; simp at h
  | some i =>
    rw [hq] at h
    simp only [Option.map_some, Option.some.injEq, Prod.mk.injEq] at h
    exact ⟨i, rfl, h.1, h.2.1, h.2.2⟩
theorem run_app1 {w : World} (t ty e : TypeId) {z : Value} {size bytes : Nat} (ht : P.underlying t = some (.slice e)) (hI : (P.info? e).map (fun i => (i.zero, i.size, i.bytes)) = some (some z, size, bytes)) (hzs : z.cells.size = size) (hsz : 0 < size) (hb0 : bytes ≤ 1000)
    {v : Value} {n : Nat} {xs news : List Value} (hown : w.ownsRow 0 e size v n xs) {b : Nat} (hx : Rw w b 0 news) (hl : news.length = size) (h1 : ∀ u ∈ news, u.oneCell' = true) (hn : n ≤ 1000) :
    ∃ u w', (Builtin.append_ #[t, t] ty #[v, .slice (some ⟨b, 0, none⟩) 1 1]).run P w = .ok u w' ∧ AppR e size v n xs news w u w' := by
  obtain ⟨i, hi, hz, hsize, hby⟩ := info_partsT hI
  obtain ⟨u, w', hrun, h2, h3, h4, h5⟩ := run_append_own_at (P := P) w 0 t ty e i z size bytes ht hi hz hsize hby hzs hsz v n xs hown ⟨b, 0, none⟩ 1 1 news (by omega)
    (fun j x hj => by
      have := (hx j x hj).1
      rw [Addr.add_mid]; exact this) h1 (by unfold maxLen; omega) (Nat.le_trans (Nat.mul_le_mul (show n + 1 ≤ 1001 by omega) hb0) (by decide)) (Nat.zero_le _)
  refine ⟨u, w', hrun, ?_⟩
  rcases h2.2 with ⟨hv, h0⟩ | ⟨g, cap, cur, hv, hb, hg, hc, hm, hs, htk⟩
  · omega
  · exact ⟨_, _, hv, hc, hm, h2, h3, h5⟩
theorem evt_app {a : Act} {w : World} (hg : o.guard = none) {s x : Operand} {t e : TypeId} {z : Value} {size bytes : Nat} (ho : o.op = .call { callee := .builtin .append, args := #[s, x], argTypes := #[t, t] }) (ht : P.underlying t = some (.slice e)) (hI : (P.info? e).map (fun i => (i.zero, i.size, i.bytes)) = some (some z, size, bytes)) (hzs : z.cells.size = size) (hsz : 0 < size) (hb0 : bytes ≤ 1000)
    {v : Value} {n : Nat} {xs news : List Value} (hown : w.ownsRow 0 e size v n xs) (hs : a.eval s = v) (hx : ∃ b, a.eval x = .slice (some ⟨b, 0, none⟩) 1 1 ∧ Rw w b 0 news) (hl : news.length = size) (h1 : ∀ u ∈ news, u.oneCell' = true) (hn : n ≤ 1000) :
    o.wp P a w (fun a' w' => ∃ u, a' = a.put o.dst u ∧ AppR e size v n xs news w u w') Q := by
  obtain ⟨b, hx1, hx2⟩ := hx
  obtain ⟨u, w', hrun, hR⟩ := run_app1 t o.type e ht hI hzs hsz hb0 hown hx2 hl h1 hn
  unfold Oper.wp execOp
  simp only [ho, resolve, invoke, builtin, Sem.run_bind, Sem.run_pure, Result.andThen_ok, List.map_toArray, List.map_cons, List.map_nil, hs, hx1, hrun]
  exact ⟨u, rfl, hR⟩
end
section
variable {w : World} {e e' b1 b2 s1 s2 n1 n2 : Nat} {v v' : Value} {xs xs' : List Value}
theorem row_ne (h : w.ownsRow b1 e s1 v n1 xs) (h' : w.ownsRow b2 e' s2 v' n2 xs') (hne : e ≠ e') : v.ownBlock = none ∨ v.ownBlock ≠ v'.ownBlock := by
  rcases h.2 with ⟨rfl, _⟩ | ⟨g, cap, cur, rfl, _, hg, _⟩
  · exact .inl rfl
  · rcases h'.2 with ⟨rfl, _⟩ | ⟨g', cap', cur', rfl, _, hg', _⟩
    · exact .inr (by simp [Value.ownBlock])
    · refine .inr fun e2 => ?_
      obtain rfl : g = g' := by simpa [Value.ownBlock] using e2
      rw [hg] at hg'; cases hg'; exact hne rfl
theorem blk_ne {b t : Nat} {cs : List Value} (h : Blk w b t cs) (h' : w.ownsRow b2 e' s2 v' n2 xs') (hne : t ≠ e') : some b ≠ v'.ownBlock := by
  rcases h'.2 with ⟨rfl, _⟩ | ⟨g', cap', cur', rfl, _, hg', _⟩
  · simp [Value.ownBlock]
  · intro e2
    obtain rfl : b = g' := by simpa [Value.ownBlock] using e2
    rw [show w.heap[b]? = _ from h] at hg'; cases hg'; exact hne rfl
theorem map_ne {H : Type} {P : Program} {k b n : Nat} {R : Value → Option (DataW H × List MemPlace)} {D : DataW H} (h : w.ownsMap P k R b n D) (h' : w.ownsRow b2 e' s2 v' n2 xs') : some b ≠ v'.ownBlock := by
  obtain ⟨es, clock, hb, _⟩ := h
  rcases h'.2 with ⟨rfl, _⟩ | ⟨g', cap', cur', rfl, _, hg', _⟩
  · simp [Value.ownBlock]
  · intro e2
    obtain rfl : b = g' := by simpa [Value.ownBlock] using e2
    rw [hb] at hg'; cases hg'
theorem blk_map {H : Type} {P : Program} {k b n p t : Nat} {cs : List Value} {R : Value → Option (DataW H × List MemPlace)} {D : DataW H} (h : w.ownsMap P k R b n D) (h' : Blk w p t cs) : b ≠ p := by
  obtain ⟨es, clock, hb, _⟩ := h
  rintro rfl
  rw [show w.heap[b]? = _ from h'] at hb; cases hb
theorem Blk.grown {w' : World} {b t : Nat} {cs : List Value} {row : Option Nat} (h : Blk w b t cs) (hg : w.grownBy w' row) (hne : some b ≠ row) : Blk w' b t cs := h.same (hg.block b h.lt hne)
theorem row_setC {b : Nat} {t : TypeId} {cs : List Value} (h : w.ownsRow b1 e s1 v n1 xs) (hp : Blk w b t cs) (hne : t ≠ e) (i : Nat) (u : Value) : (w.setCell ⟨b, i, none⟩ u).ownsRow b1 e s1 v n1 xs := by
  have h1 := blk_ne hp h hne
  refine ⟨h.1, ?_⟩
  rcases h.2 with h2 | ⟨g, cap, cur, rfl, hb, hg, r⟩
  · exact .inl h2
  · exact .inr ⟨g, cap, cur, rfl, hb, (Below.heap_setCell _ _ _ _ (by rintro rfl; exact h1 rfl)).trans hg, r⟩
theorem row_next {w' : World} (h : w.ownsRow b1 e s1 v n1 xs) (hb : Below w.heap.size w w') : w'.ownsRow b1 e s1 v n1 xs := row_chg h (Chg.of hb (fun _ => False)) (fun _ _ h => h)
end
theorem map_next {H : Type} {P : Program} {k b n : Nat} {R : Value → Option (DataW H × List MemPlace)} {D : DataW H} {w w' : World} (h : w.ownsMap P k R b n D) (hb : Below w.heap.size w w') : w'.ownsMap P k R b n D := map_chg h (Chg.of hb (fun _ => False)) (fun h => h)

theorem wpList_build_eq {P : Program} {ops : Array Oper} {rest : List Oper} {o : Oper} {a : Act} {w : World} {Q : Exit → Act → World → Prop} (hg : o.guard = none) (t : TypeId) (parts : Array (Nat × Operand)) (ho : o.op = .build t parts)
    (cells : Array Value) (hf : P.built t (parts.map fun (i, x) => (i, a.eval x)).toList = some cells) (h : wpList P ops Q rest (a.put o.dst (.agg cells)) w) : wpList P ops Q (o :: rest) a w :=
  wpList_build hg t parts ho (by rw [hf]; rfl) (by rw [hf]; exact h)

end Go.Proofs.Ytdfalneiapeegaa
