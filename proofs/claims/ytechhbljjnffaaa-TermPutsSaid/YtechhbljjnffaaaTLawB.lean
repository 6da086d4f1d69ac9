/- What both laws' walks need: the iterator, results in a box, comparisons. -/
import Derived.Test.YtechhbljjnffaaaTLawA
namespace Go.Proofs.Ytechhbljjnffaaa
open Go Go.RowKit Go.Maps
attribute [local go_sem] Oper.semAt_some

set_option maxRecDepth 50000 in
theorem rnew {B q : Nat} {W : World} (h : Blk W q 31 [.slice none 0 0, .slice none 0 0]) (hq : B ≤ q) : RS B (fun b => b = q) W q [] [] :=
  ⟨none, 0, none, 0, [], ⟨h, World.ownsRow_nil _ _ _ _, World.ownsRow_nil _ _ _ _, fun j x hj => by simp at hj⟩, fun b hb => (by
    rcases hb with h | h | h
    · exact h
    · cases h
    · cases h), fun b hb => (by subst hb; exact hq), Nat.le_trans hq (Nat.le_of_lt h.lt)⟩
set_option maxRecDepth 50000 in
theorem cxT9 : ∀ vs w, (callFunc 9 vs).run Try.prog w = .ok (.enter 9 vs) w := enters_of Try.func9 (by kernel_rfl) rfl
set_option maxRecDepth 50000 in
theorem cxT13 : ∀ vs w, (callFunc 13 vs).run Try.prog w = .ok (.enter 13 vs) w := enters_of Try.func13 (by kernel_rfl) rfl
set_option maxRecDepth 50000 in
theorem cxT14 : ∀ vs w, (callFunc 14 vs).run Try.prog w = .ok (.enter 14 vs) w := enters_of Try.func14 (by kernel_rfl) rfl
set_option maxRecDepth 50000 in
theorem cxT8 : ∀ vs w, (callFunc 8 vs).run Try.prog w = .ok (.enter 8 vs) w := enters_of Try.func8 (by kernel_rfl) rfl
set_option maxRecDepth 50000 in
theorem infDo : (Try.prog.info? 36).map (·.size) = some 6 := by kernel_rfl
set_option maxRecDepth 50000 in
theorem evt_call3 {P : Program} {o : Oper} {a : Act} {w : World} {K : Act → World → Prop} {Q : Exit → Act → World → Prop} {f : FuncId} {x y z : Operand} {u v t : Value} {ts : Array TypeId} (hop : o.op = .call { callee := .value (.func f), args := #[x, y, z], argTypes := ts }) (hcf : ∀ vs w, (callFunc f vs).run P w = .ok (.enter f vs) w)
    (hx : a.eval x = u) (hy : a.eval y = v) (hz : a.eval z = t) (h : Calls P f #[u, v, t] w fun e w' => ∃ r, e = .returned r ∧ K (a.put o.dst r) w') : o.wp P a w K Q := by
  unfold Oper.wp
  rw [ex_fnP rfl hcf hop #[u, v, t] (by simp [hx, hy, hz]) w, Oper.upon_enter]
  refine h.mono fun e w' ⟨v, he, hk⟩ => ?_
  subst he
  exact hk
/-- What holds between the rounds of the first loop. -/
structure PutsI (B p q k : Nat) (L : List T3) (X : List (List Int)) (w wr : World) : Prop where
  nL : L.length ≤ k
  nX : X.length ≤ k
  both : Both B (fun b => B < b ∧ b ≠ q + 1) wr p q L X
  b2 : Blk wr B 4 [.bool false]
  b4 : Blk wr (q + 1) 27 [.pointer (some ⟨q, 0, none⟩)]
  bel : Below B w wr
  lt : B < q
set_option maxRecDepth 50000 in
theorem PutsI.next {B p q k : Nat} {L : List T3} {X : List (List Int)} {w wr w' : World} (h : PutsI B p q k L X w wr) (hb : Below wr.heap.size wr w') : PutsI B p q k L X w w' :=
  ⟨h.nL, h.nX, h.both.next hb, h.b2.next hb, h.b4.next hb, h.bel.trans (Below.mono hb (Nat.le_of_lt h.b2.lt)), h.lt⟩
set_option maxRecDepth 50000 in
theorem PutsI.step {B p q k : Nat} {L L' : List T3} {X X' : List (List Int)} {w wr w' : World} (h : PutsI B p q k L X w wr) (hL : L'.length ≤ L.length + 1) (hX : X'.length ≤ X.length + 1) (hB : Both B (fun b => B < b ∧ b ≠ q + 1) w' p q L' X') (hc : Chg (fun b => B < b ∧ b ≠ q + 1) wr w') : PutsI B p q (k + 1) L' X' w w' :=
  ⟨by have := h.nL; omega, by have := h.nX; omega, hB, h.b2.chg hc (fun e => Nat.lt_irrefl _ e.1), h.b4.chg hc (fun e => e.2 rfl), h.bel.trans (hc.below (Nat.le_of_lt h.b2.lt) (fun b e => Nat.le_of_lt e.1)), h.lt⟩
set_option maxRecDepth 50000 in
theorem Both.rows {B : Nat} {okb : Nat → Prop} {w : World} {p q : Nat} {L : List T3} {X : List (List Int)} (h : Both B okb w p q L X) : ∃ A c AL cL, w.cell? ⟨p, 0, none⟩ = some (.bool true) ∧ w.cell? ⟨p, 1, none⟩ = some (.slice A L.length c) ∧ w.cell? ⟨q, 0, none⟩ = some (.slice AL L.length cL) ∧ TRow w A L ∧ TRow w AL L := by
  obtain ⟨Fc, Fr, hC, hR, _⟩ := h
  obtain ⟨A, c, _, _, c0, c1, _, hA, _⟩ := hC.cells
  obtain ⟨AL, cL, _, _, r0, _, hAL, _⟩ := hR.cells
  exact ⟨A, c, AL, cL, c0, c1, r0, hA, hAL⟩
set_option maxRecDepth 50000 in
theorem Both.box {B : Nat} {okb : Nat → Prop} {w : World} {p q : Nat} {L : List T3} {X : List (List Int)} (h : Both B okb w p q L X) : ∃ A c, w.cell? ⟨p, 0, none⟩ = some (.bool true) ∧ w.cell? ⟨p, 1, none⟩ = some (.slice A L.length c) ∧ TRow w A L ∧ ∀ b, A.map (·.block) = some b → b < w.heap.size := by
  obtain ⟨Fc, Fr, ⟨s, DN, DI, hT, _⟩, _⟩ := h
  refine ⟨s.AT, s.cT, hT.blk.cell (i := 0) rfl, hT.blk.cell (i := 1) rfl, trow_of hT.rT, fun b hb => rowlt hT.rT b ?_⟩
  unfold Lay.vT
  cases hA : s.AT with
  | none => rw [hA] at hb; cases hb
  | some a => rw [hA] at hb; exact hb
set_option maxRecDepth 50000 in
/-- A store into a block that came up behind both stores. -/
theorem Both.over {B t : Nat} {okb : Nat → Prop} {wr wc W : World} {p q : Nat} {L : List T3} {X : List (List Int)} (h : Both B okb wr p q L X) (ht : t = wr.heap.size) (hb : Below wr.heap.size wr wc) (hc : Chg (fun b => b = t) wc W) (hB : B ≤ wr.heap.size) : Both B okb W p q L X := by
  obtain ⟨Fc, Fr, h1, h2, h3, h4, h5⟩ := h
  subst ht
  refine ⟨Fc, Fr, (h1.next hb).chg hc (fun b hf e => ?_), (h2.next hb).chg hc (fun b hf e => ?_) (fun b e => by subst e; exact hB), h3, fun b hf => ⟨?_, (h4 b hf).2⟩, fun b hf => ⟨?_, (h5 b hf).2⟩⟩
  · subst e; exact Nat.lt_irrefl _ (h4 _ hf).1
  · subst e; exact Nat.lt_irrefl _ (h5 _ hf).1
  · exact Nat.lt_of_lt_of_le (h4 b hf).1 (Nat.le_trans hb.size hc.size)
  · exact Nat.lt_of_lt_of_le (h5 b hf).1 (Nat.le_trans hb.size hc.size)
set_option maxRecDepth 50000 in
theorem Both.text {B j : Nat} {okb : Nat → Prop} {w : World} {p q : Nat} {L : List T3} {X : List (List Int)} {x : List Int} (h : Both B okb w p q L X) (hx : X[j]? = some x) : ∃ g cX A c, w.cell? ⟨q, 1, none⟩ = some (.slice (some ⟨g, 0, none⟩) X.length cX) ∧ w.cell? ⟨g, j, none⟩ = some (.slice A x.length c) ∧ Nums w .u8 A x := by
  obtain ⟨Fc, Fr, _, ⟨AL, cL, AX, cX, ps, hT, _, _, hBw⟩, _⟩ := h
  obtain ⟨A, c, hp, hN⟩ := hT.tx j x hx
  obtain ⟨g, rfl, hc⟩ := row_cell hT.rX hp
  exact ⟨g, cX, A, c, hT.blk.cell (i := 1) rfl, hc, hN.nums hBw⟩
set_option maxRecDepth 50000 in
theorem Both.code {B : Nat} {okb : Nat → Prop} {w : World} {p q : Nat} {L : List T3} {X : List (List Int)} (h : Both B okb w p q L X) : ∃ F, CS F w p L X := by
  obtain ⟨Fc, _, h1, _⟩ := h
  exact ⟨Fc, h1⟩
set_option maxRecDepth 50000 in
theorem keeps_chg {G : Nat → Prop} {B : Nat} {W W' : World} (h : Chg G W W') (hG : ∀ b, G b → b < B) : KeepsFrom B W W' :=
  ⟨h.size, fun k o hk ho _ => (h.block k (Array.getElem?_eq_some_iff.1 ho).1 (fun e => by have := hG k e; omega)).trans ho⟩
set_option maxRecDepth 50000 in
theorem withAct {F : Fence} {n : Nat} {P : Program} {C : Code} {Q : Exit → Act → World → Prop} {a : Act} {w : World} (h : ∀ aa, aa = a → C.wpIn F n P Q aa w) : C.wpIn F n P Q a w := h a rfl
set_option maxRecDepth 50000 in
theorem results_cell1 {P : Program} {fn : Func} {p : Tmp} {ty : TypeId} (h : fn.results = #[.cell p ty]) (tmps : Array Value) (w : World) (b o : Nat) (hp : tmps.getD p undef = .pointer (some ⟨b, o, none⟩)) (v : Value) (d : TypeDesc) (hc : w.cell? ⟨b, o, none⟩ = some v) (hu : P.underlying ty = some d) (hd : d.isRow = false) :
    (results fn tmps).run P w = .ok v w := by
  simp only [results, h]
  have hp2 : tmps[p]?.getD undef = .pointer (some ⟨b, o, none⟩) := by rw [← hp]; simp
  have hag : (isAgg ty).run P w = .ok false w := by
    unfold isAgg
    rw [Sem.run_bind, run_underlying hu w]
    cases d <;> simp_all
  simp [hp2, asAddr, loadVar, Sem.run_bind, hag, hc]
set_option maxRecDepth 50000 in
/-- How the law ends. -/
theorem puts_end {R : Ending → World → Prop} {D B b : Nat} {w W : World} {ds : List Deferred} {tmps : Array Value} (hK : W.heap[D]? = some (.deferred (some []))) (hds : ds = [{ target := .collected D, args := #[] }]) (hp : tmps.getD 2 undef = .pointer (some ⟨b, 0, none⟩)) (hb : Blk W b 4 [.bool true]) (hbel : Below B w W) (hBw : B ≤ w.heap.size) (hD : w.heap.size ≤ D)
    (hR : ∀ W', Below B w W' → R (.returned (.bool true)) W') : bodyPostM Fence.wide 5 Try.prog Try.f3 R .ret { tmps := tmps, defers := ds } W := by
  subst hds
  refine ⟨by simp, .inl ⟨_, _, rfl, run_takeDeferred hK, ?_⟩⟩
  have hne : b ≠ D := fun e => by
    subst e
    rw [show W.heap[b]? = _ from hb] at hK; cases hK
  have hb2 : Blk (W.putObj D (.deferred none)) b 4 [.bool true] := (World.putObj_heap_other hne).trans hb
  exact ⟨_, results_cell1 rfl tmps _ b 0 hp (.bool true) _ (hb2.cell (i := 0) rfl) Try.underlying4 rfl, hR _ (hbel.trans (belowK_b (w := w) hBw W D _ _ (by omega) hK rfl rfl))⟩
/-- What holds between the rounds of the range over the terms. -/
structure PutsR (t7 m : Nat) (wc W : World) : Prop where
  chg : Chg (fun b => b = t7) wc W
  b7 : Blk W t7 3 [.int .i64 m]
  lt : t7 < wc.heap.size
set_option maxRecDepth 50000 in
theorem PutsR.own {n t7 : Nat} {wc : World} {B : Nat} (hB : wc.heap.size ≤ B) : OwnFrom B (fun (pre : List (Fin n)) W => upTo pre ∧ PutsR t7 pre.length wc W) := fun s X Y row ⟨hu, hs⟩ hg hr =>
  ⟨hu, hs.chg.grown hg (fun g e => .inr (by have := (hr g e).1; omega)), hs.b7.grown hg (fun e => by have := (hr _ e.symm).1; have := hs.lt; omega), hs.lt⟩
set_option maxRecDepth 50000 in
theorem PutsR.next {t7 m : Nat} {wc W W' : World} (h : PutsR t7 m wc W) (hb : Below W.heap.size W W') : PutsR t7 m wc W' := ⟨h.chg.next hb, h.b7.next hb, h.lt⟩
set_option maxRecDepth 50000 in
theorem PutsR.step {t7 m : Nat} {wc W : World} (h : PutsR t7 m wc W) : PutsR t7 (m + 1) wc (W.setCell ⟨t7, 0, none⟩ (.int .i64 ((m + 1 : Nat) : Int))) :=
  ⟨h.chg.setCell (.inl rfl) _, h.b7.set 0 _, h.lt⟩
set_option maxRecDepth 50000 in
theorem upTo_last {n : Nat} {xs : List (Fin n)} {x : Fin n} (h : upTo (xs ++ [x])) : x.val = xs.length := by
  have h2 := congrArg (fun l => l[xs.length]?) h
  simpa using h2
set_option maxRecDepth 50000 in
theorem upTo_add {n : Nat} {xs : List (Fin n)} {x : Fin n} (h : upTo xs) (hx : x.val = xs.length) : upTo (xs ++ [x]) := by
  obtain ⟨i, hi⟩ := x
  dsimp only at hx
  subst hx
  exact upTo_snoc h rfl hi
/-- The variables of a round. -/
def AxP (aa : Act) (wc : World) (L : List T3) (s1 s2 s3 s4 : Nat) (x : Fin L.length) (a' : Act) (W : World) : Prop :=
  ∃ b, wc.heap.size ≤ b ∧ Blk W b 33 (tc (L[x.val]'x.2)) ∧
    a' = { tmps := (((aa.tmps.setIfInBounds s1 (.int .i64 (x.val : Int))).setIfInBounds s2 (tv (L[x.val]'x.2))).setIfInBounds s3 (.int .i64 (x.val : Int))).setIfInBounds s4 (.pointer (some ⟨b, 0, none⟩)), defers := [] }
set_option maxRecDepth 50000 in
theorem AxP.own {aa : Act} {wc : World} {L : List T3} {s1 s2 s3 s4 : Nat} {B : Nat} (x : Fin L.length) (a' : Act) : OwnFrom B (fun (_ : Unit) W => AxP aa wc L s1 s2 s3 s4 x a' W) := fun _ X Y row ⟨b, hb, hB, ha⟩ hg hr =>
  ⟨b, hb, hB.grown hg (fun e => by
    obtain ⟨_, o, ho, hc⟩ := hr b e.symm
    rw [show X.heap[b]? = _ from hB] at ho
    cases ho
    cases hc), ha⟩
set_option maxRecDepth 50000 in
theorem NumsD.apart {B : Nat} {F : Nat → Prop} {w : World} {k : IntKind} {A : Option Addr} {xs : List Int} (h : NumsD B w k A xs) (hF : ∀ b, F b → B ≤ b) : 0 < xs.length → ∀ g o sp, A = some ⟨g, o, sp⟩ → ¬ F g := fun hp g o sp e hf => by
  obtain ⟨b, off, e2, hlt, _⟩ := h hp
  rw [e] at e2
  injection e2 with e2
  injection e2 with e2
  have := hF g hf
  subst e2
  exact absurd hlt (Nat.not_lt.2 this)
set_option maxRecDepth 50000 in
theorem putR_len {L L' : List T3} {x : Nat} {t : T3} {n e : Int} (h : PutR L x t n e L') : L'.length ≤ L.length + 1 := by
  rcases h with ⟨_, _, _, rfl⟩ | ⟨_, _, _, _, _, rfl⟩ | ⟨_, _, _, _, rfl⟩ <;> simp
set_option maxRecDepth 50000 in
theorem drawR_len {L L' : List T3} {s n e : Int} (h : DrawR L s n e L') : L'.length ≤ L.length + 1 := by
  rcases h with ⟨_, _, _, rfl⟩ | ⟨_, _, _, _, rfl⟩ | ⟨_, _, _, _, _, _, _, _, rfl⟩ <;> simp
set_option maxRecDepth 50000 in
theorem textR_len {L L' : List T3} {X X' : List (List Int)} {x : List Int} {n : Int} (h : TextR L X x n L' X') : L'.length ≤ L.length + 1 ∧ X'.length ≤ X.length + 1 := by
  rcases h with ⟨_, _, _, _, _, rfl, rfl⟩ | ⟨_, _, rfl, rfl⟩ <;> simp
end Go.Proofs.Ytechhbljjnffaaa
