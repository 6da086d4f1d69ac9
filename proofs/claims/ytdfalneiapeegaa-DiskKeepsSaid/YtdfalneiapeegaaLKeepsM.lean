/- What each sector may hold: made, put, read. -/
import Derived.Test.YtdfalneiapeegaaLKeeps
import Derived.Test.YtdfalneiapeegaaLDoes
import Derived.Test.YtdfalneiapeegaaLFuseW
import Derived.Test.YtdfalneiapeegaaArr
namespace Go.Proofs.Ytdfalneiapeegaa
open Go Go.RowKit Go.Maps

theorem NumsF.toS {lo : Nat} {w : World} {k : IntKind} {A : Option Addr} {xs : List Int} {S : Nat → Prop} (h : NumsF lo w k A xs) (hS : ∀ b, lo ≤ b → b < w.heap.size → S b) : NumsS S w k A xs := fun hp => by
  obtain ⟨b, off, e, h1, h2, hc⟩ := h hp
  exact ⟨b, off, e, hS b h1 h2, hc⟩
def mayK (K : List (List Int)) (k : Nat) : List (List (List Int)) := (List.range 8).map fun j => if j < k then [K.getD j []] else []
theorem mayK_len (K : List (List Int)) (k : Nat) : (mayK K k).length = 8 := by simp [mayK]
theorem mayK_set (K : List (List Int)) {k : Nat} (h : k < 8) : (mayK K k).set k [K.getD k []] = mayK K (k + 1) := by
  apply List.ext_getElem?
  intro j
  rw [set_get]
  by_cases hj : j < 8
  · have e1 : ∀ k, (mayK K k)[j]? = some (if j < k then [K.getD j []] else []) := fun k => by simp [mayK, hj]
    rw [e1, e1]
    by_cases e : k = j
    · subst e
      rw [if_pos ⟨rfl, by rw [mayK_len]; exact h⟩, if_pos (Nat.lt_succ_self k)]
    · rw [if_neg (fun h => e h.1)]
      by_cases e2 : j < k
      · rw [if_pos e2, if_pos (by omega)]
      · rw [if_neg e2, if_neg (by omega)]
  · rw [if_neg (fun h => hj (by have := h.2; rw [mayK_len] at this; omega)), List.getElem?_eq_none (by rw [mayK_len]; omega), List.getElem?_eq_none (by rw [mayK_len]; omega)]
theorem mayK_all (K : List (List Int)) : mayK K 8 = mays K [] := by
  apply List.map_congr_left
  intro j hj
  rw [if_pos (List.mem_range.1 hj)]
  rfl
def nil8 : List Value := [.slice none 0 0, .slice none 0 0, .slice none 0 0, .slice none 0 0, .slice none 0 0, .slice none 0 0, .slice none 0 0, .slice none 0 0]
theorem nil8_at : ∀ (j : Nat), j < 8 → nil8[j]? = some (.slice none 0 0)
  | 0, _ => rfl | 1, _ => rfl | 2, _ => rfl | 3, _ => rfl | 4, _ => rfl | 5, _ => rfl | 6, _ => rfl | 7, _ => rfl
  | n + 8, h => absurd h (by omega)
theorem nil8_all {j : Nat} {v : Value} (h : nil8[j]? = some v) : v = .slice none 0 0 := by
  have hj : j < 8 := (List.getElem?_eq_some_iff.1 h).1
  rw [nil8_at j hj] at h
  injection h with h
  exact h.symm
section
variable {F R : Nat → Prop} {lo : Nat} {w w1 : World} {ma p : Nat} {mv : List Value} {M : List (List (List Int))} {D : DK}
theorem my_new (K : List (List Int)) (w : World) (h : lo ≤ w.heap.size) : MY (fun b => lo ≤ b ∧ b < w.heap.size) (fun b => b = w.heap.size) lo (w.alloc (.cells nil8.toArray 41)) w.heap.size nil8 (mayK K 0) := by
  refine ⟨Blk.new w _ nil8, rfl, mayK_len K 0, fun j l hj => ?_, fun j v g hj hg => ?_, fun i j v v' g hij hi hj hg hg' => ?_, rfl, fun b hb => ?_⟩
  · have hj8 : j < 8 := by have := (List.getElem?_eq_some_iff.1 hj).1; rw [mayK_len] at this; exact this
    have e : l = [] := by
      have h0 : (mayK K 0)[j]? = some [] := by simp [mayK, hj8]
      rw [h0] at hj
      injection hj with hj
      exact hj.symm
    subst e
    exact ⟨none, 0, [], nil8_at j hj8, World.ownsRow_nil _ _ _ _, fun i s hi => by simp at hi⟩
  · rw [nil8_all hj] at hg; cases hg
  · rw [nil8_all hi] at hg; cases hg
  · have hb' : b = w.heap.size := hb
    subst hb'
    exact ⟨h, by simp, fun e => by have := e.2; omega⟩
/-- Behind what was put. -/
theorem my_done {R' : Nat → Prop} {mv' : List Value} {M' : List (List (List Int))} (h : MY F R lo w ma mv M) (hd : DS F w p D) (hl : lo ≤ w.heap.size) (h1 : MY F R' lo w1 ma mv' M') (hC : Chg R w w1) : (∃ R' mv', MY F R' lo w1 ma mv' M') ∧ DS F w1 p D ∧ Below lo w w1 :=
  ⟨⟨_, _, h1⟩, hd.chg hC (fun b hb e => (h.inR b e).2.2 hb), hC.below hl (fun b hb => (h.inR b hb).1)⟩
theorem my_lit (h : MY F R lo w ma mv M) (hd : DS F w p D) (hl : lo ≤ w.heap.size) (hFz : ∀ b, F b → b < w.heap.size) {j : Nat} (hj : j < 8) {B : Option Addr} {c : Nat} {s : List Int} (hs : s.length = 64) (hN : NumsS (fun b => b < w.heap.size ∧ ¬ F b ∧ ¬ R b) w .u8 B s) :
    ∃ W2 old, w.alloc (.cells #[.slice B 64 c] 32) = W2 ∧ W2.cell? ⟨ma, j, none⟩ = some old ∧ W2.frozen? ⟨ma, j, none⟩ = false ∧ ∀ w2, W2.setCell ⟨ma, j, none⟩ (.slice (some ⟨w.heap.size, 0, none⟩) 1 1) = w2 → (∃ R' mv', MY F R' lo w2 ma mv' (M.set j [s])) ∧ DS F w2 p D ∧ Below lo w w2 := by
  obtain ⟨old, ho⟩ : ∃ old, mv[j]? = some old := ⟨_, List.getElem?_eq_getElem (by rw [h.len]; exact hj)⟩
  have hr : (w.alloc (.cells #[.slice B 64 c] 32)).ownsRow 0 32 1 (.slice (some ⟨w.heap.size, 0, none⟩) 1 1) 1 [.slice B 64 c] := World.ownsRow_lit w #[.slice B 64 c] 1 (Nat.zero_le _) (by unfold maxLen; omega) rfl
  obtain ⟨hb, hput⟩ := h.put hl hFz hj ho (l' := [s]) (World.grownBy_alloc w (.cells #[.slice B 64 c] 32) old.ownBlock) hr (fun g hg => .inr (by
      have : some w.heap.size = some g := hg
      injection this with this
      omega)) (fun i s' hi => by
      have h0 : i = 0 := by have := (List.getElem?_eq_some_iff.1 hi).1; simp at this; exact this
      subst h0
      simp at hi
      subst hi
      exact ⟨B, c, by rw [hs]; rfl, hN⟩)
  refine ⟨_, old, rfl, hb.cell ho, hb.free j, fun w2 h2 => ?_⟩
  obtain ⟨h3, h4⟩ := hput w2 h2
  exact my_done h hd hl h3 h4
theorem my_app (h : MY F R lo w ma mv M) (hd : DS F w p D) (hl : lo ≤ w.heap.size) (hFz : ∀ b, F b → b < w.heap.size) {n : Nat} (hn : n < 8) {l : List (List Int)} (hM : M[n]? = some l) {A : Option Addr} {L c : Nat} {vs : List Value} (hL : l.length = L) (hm : mv[n]? = some (.slice A L c)) (hvs : ∀ (i : Nat) (s : List Int), l[i]? = some s → ∃ (B : Option Addr) (d : Nat), vs[i]? = some (.slice B s.length d) ∧ NumsS (fun b => b < w.heap.size ∧ ¬ F b ∧ ¬ R b) w .u8 B s) (hvl : vs.length = L * 1)
    {x : List Int} (hx : x.length = 64) {B : Option Addr} {d : Nat} (hN : NumsS (fun b => b < w.heap.size ∧ ¬ F b ∧ ¬ R b) w .u8 B x) {A' : Option Addr} {c' : Nat} (hr : w1.ownsRow 0 32 1 (.slice A' (L + 1) c') (L + 1) (vs ++ [.slice B 64 d])) (hg : w.grownBy w1 (Value.slice A L c).ownBlock) (ho : (Value.slice A' (L + 1) c').ownBlock = (Value.slice A L c).ownBlock ∨ (Value.slice A' (L + 1) c').ownBlock = some w.heap.size) :
    w1.cell? ⟨ma, n, none⟩ = some (.slice A L c) ∧ w1.frozen? ⟨ma, n, none⟩ = false ∧ ∀ w2, w1.setCell ⟨ma, n, none⟩ (.slice A' (L + 1) c') = w2 → (∃ R' mv', MY F R' lo w2 ma mv' (M.set n (l ++ [x]))) ∧ DS F w2 p D ∧ Below lo w w2 := by
  have e : (l ++ [x]).length = L + 1 := by simp [hL]
  rw [← e] at hr ho ⊢
  obtain ⟨hb, hput⟩ := h.put hl hFz hn hm (l' := l ++ [x]) hg hr (fun g hg => by
      rcases ho with h1 | h1
      · exact .inl (by rw [← h1]; exact hg)
      · rw [h1] at hg; injection hg with hg; exact .inr (by omega)) (fun i s hi => by
      by_cases hil : i < l.length
      · rw [List.getElem?_append_left hil] at hi
        obtain ⟨B2, d2, h1, h2⟩ := hvs i s hi
        exact ⟨B2, d2, by rw [List.getElem?_append_left (by omega)]; exact h1, h2⟩
      · have hi0 : i = l.length := by have := (List.getElem?_eq_some_iff.1 hi).1; simp at this; omega
        subst hi0
        rw [List.getElem?_append_right (Nat.le_refl _), Nat.sub_self] at hi
        simp at hi
        subst hi
        exact ⟨B, d, by rw [List.getElem?_append_right (by omega), show l.length - vs.length = 0 by omega, hx]; rfl, hN⟩)
  refine ⟨hb.cell hm, hb.free n, fun w2 h2 => ?_⟩
  obtain ⟨h3, h4⟩ := hput w2 h2
  exact my_done h hd hl h3 h4
end
theorem ds_read {F : Nat → Prop} {w : World} {p m : Nat} {D : DK} (h : DS F w p D) (hD : Dok m D) (n : Int) {e0 : Int} {xs : List Int} {l : Nat} (he : readR D n = (e0, xs)) (hl : xs.length = l) : Calls Try.prog 17 #[.pointer (some ⟨p, 0, none⟩), .int .i64 n] w fun e w' => (∃ B c, e = .returned (.tuple #[.slice B l c, .int .i64 e0]) ∧ NumsF w.heap.size w' .u8 B xs) ∧ Below w.heap.size w w' :=
  (dread_any _ p m D n w h hD).mono fun e w' ⟨B, c, h1, h2, hb⟩ => by
    rw [he] at h1 h2
    rw [hl] at h1
    exact ⟨⟨B, c, h1, h2⟩, hb⟩
/-- A literal of one slice. -/
def IsRowU (u : Value) : Value → World → Prop := fun v w => ∃ g, v = .slice (some ⟨g, 0, none⟩) 1 1 ∧ Rw w g 0 [u]
theorem IsRowU.grows (u : Value) : Grows (IsRowU u) := fun _ _ _ ⟨g, h1, h2⟩ hb => ⟨g, h1, h2.next hb⟩
section
variable {P : Program} {ops : Array Oper} {md : Region.Mode} {W : World} {a0 : Act} {n : Nat} {al : Nat → Bool} {S : Nat → Value → World → Prop} {Q : Exit → Act → World → Prop} {i : Nat} {o : Oper}
theorem step_bslV (hg : GuardOn ops md n S i o) {T e : TypeId} {s : Nat} {z : Value} {x : Operand} {u : Value} (ho : o.op = .buildSlice T 1 #[(0, x)]) (hu : P.underlying T = some (.slice e)) (hI : (P.info? e).map (fun i => (i.zero, i.size)) = some (some z, s)) (hsmall : ¬ 1 * s > 2 ^ 24) (hpos : ¬ 1 * s = 0)
    (hf : Instr.fill (fun i => some (i * s, s)) ((Array.range (1 * s)).map (z.cells[· % z.cells.size]!)) [(0, u)] = some #[u]) (hS : S i = IsRowU u)
    (hx : Knows ops md W a0 n S i x u) : StepOk P ops md W a0 n al S Q i o := fun a w hw hf' hd => by
  rw [if_pos (hg.wanted hd)]
  have e1 := hx a w hw hf' hd
  cases hq : P.info? e with
  | none => rw [hq] at hI; simp at hI
  | some ie =>
    rw [hq] at hI
    simp only [Option.map_some, Option.some.injEq, Prod.mk.injEq] at hI
    obtain ⟨hz, rfl⟩ := hI
    refine wp_buildSlice T e 1 #[(0, x)] ho #[u] ie z hu hq hz hsmall hpos (by simp only [List.map_toArray, List.map_cons, List.map_nil, e1]; exact hf) ?_
    have hR := Rw.new w [u] e
    refine ⟨_, rfl, ?_, below_new w _, fun _ => ⟨_, rfl, Nat.le_refl _, by simp⟩⟩
    rw [hS]
    exact ⟨w.heap.size, rfl, hR⟩
end
end Go.Proofs.Ytdfalneiapeegaa
