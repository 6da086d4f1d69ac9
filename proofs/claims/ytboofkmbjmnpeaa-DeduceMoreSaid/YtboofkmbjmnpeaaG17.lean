/- Texts of this proof, laid together: DBuilt, TLawB. -/
import Derived.Test.YtboofkmbjmnpeaaDAddM
import Derived.Test.YtboofkmbjmnpeaaG10
/- The facts that are built term by term. -/
namespace Go.Proofs.Ytboofkmbjmnpeaa
open Go Go.RowKit Go.Maps

structure FB (T : List T3) (m : Nat) (F : List Fa) : Prop where
  len : F.length = m
  tk : ∀ (i : Nat) f, F[i]? = some f → T[i]? = some f.t ∧ f.key = keyOf3 T f.t ∧ f.kn = false ∧ f.ca = mkB f.t (cF F)
  sv : ∀ (i : Nat) f, F[i]? = some f → (∀ s ∈ f.sv, 0 ≤ s ∧ s < m) ∧ f.sv.length ≤ 3 * m
  all : ∀ (i q : Nat) f t, F[i]? = some f → T[q]? = some t → q < m → refs T t i → (q : Int) ∈ f.sv
theorem FB.zero (T : List T3) : FB T 0 [] := ⟨rfl, fun i f h => by simp at h, fun i f h => by simp at h, fun i q f t h => by simp at h⟩
theorem svTo_at : ∀ (js : List Int) (F F' : List Fa) (o : Int), SvTo F F' js o → F'.length = F.length ∧ ∀ (i : Nat) f, F[i]? = some f → ∃ A c sv', F'[i]? = some { f with A := A, c := c, sv := sv' } ∧ (∀ s ∈ f.sv, s ∈ sv') ∧ (∀ s ∈ sv', s ∈ f.sv ∨ s = o) ∧ sv'.length ≤ f.sv.length + js.length ∧ (∀ j ∈ js, j.toNat = i → o ∈ sv')
  | [], F, F', o, h => by
    obtain rfl : F' = F := h
    exact ⟨rfl, fun i f hf => ⟨f.A, f.c, f.sv, hf, fun s hs => hs, fun s hs => .inl hs, Nat.le_refl _, fun j hj => by simp at hj⟩⟩
  | j :: js, F, F', o, h => by
    obtain ⟨g, A, c, hg, h2⟩ := h
    obtain ⟨e1, e2⟩ := svTo_at js _ F' o h2
    have hj := get_lt hg
    refine ⟨by rw [e1, List.length_set], fun i f hf => ?_⟩
    by_cases e : i = j.toNat
    · subst e
      obtain rfl : g = f := Option.some.inj (hg.symm.trans hf)
      obtain ⟨A', c', sv', q1, q2, q3, q4, q5⟩ := e2 j.toNat _ (by rw [List.getElem?_set_self hj])
      dsimp only at q1 q2 q3 q4
      refine ⟨A', c', sv', q1, fun s hs => q2 s (List.mem_append_left _ hs), fun s hs => ?_, by simp at q4 ⊢; omega, fun _ _ _ => q2 o (by simp)⟩
      rcases q3 s hs with h3 | h3
      · rcases List.mem_append.1 h3 with h4 | h4
        · exact .inl h4
        · exact .inr (by simpa using h4)
      · exact .inr h3
    · obtain ⟨A', c', sv', q1, q2, q3, q4, q5⟩ := e2 i f (by rw [List.getElem?_set_ne (Ne.symm e)]; exact hf)
      refine ⟨A', c', sv', q1, q2, q3, by simp; omega, fun z hz hzi => ?_⟩
      rcases List.mem_cons.1 hz with rfl | hz
      · exact absurd hzi.symm e
      · exact q5 z hz hzi
theorem mkB_congr {T : List T3} (hW : WF T) {m : Nat} {t : T3} (ht : T[m]? = some t) {c c' : Nat → Bool} (h : ∀ q, q < m → c q = c' q) : mkB t c = mkB t c' := by
  obtain ⟨r1, r2⟩ := wf_refs hW ht
  unfold mkB
  cases h1 : isOne t.1 with
  | true =>
    obtain ⟨a, b⟩ := r1 h1
    rw [h t.2.1.toNat (by omega)]
    cases h2 : isTwo t.1 with
    | true =>
      obtain ⟨_, _, a3, a4, _⟩ := r2 h2
      rw [h t.2.2.toNat (by omega)]
    | false => simp
  | false =>
    cases h2 : isTwo t.1 with
    | true =>
      obtain ⟨a1, a2, a3, a4, _⟩ := r2 h2
      rw [h t.2.1.toNat (by omega), h t.2.2.toNat (by omega)]
    | false => simp
theorem refs_js {T : List T3} {t : T3} {i : Nat} (h : refs T t i) : (i : Int) ∈ jsOf t (keyOf3 T t) := by
  unfold jsOf
  rcases h with ⟨h1, h2⟩ | ⟨h1, h2⟩
  · have h3 : t.1 ≠ 4 ∧ ¬ (t.1 = 5 ∨ t.1 = 8) := by
      simp only [isOne, Bool.or_eq_true, beq_iff_eq] at h1
      omega
    rw [if_neg h3.1, if_neg h3.2, if_pos h1]
    simp [h2]
  · by_cases h4 : t.1 = 4
    · rw [if_pos h4]
      rcases h2 with h2 | h2 | ⟨_, h2⟩ <;> simp [h2]
    · have h5 : t.1 = 5 ∨ t.1 = 8 := by
        simp only [isTwo, Bool.or_eq_true, beq_iff_eq] at h1
        omega
      rw [if_neg h4, if_pos h5]
      rcases h2 with h2 | h2 | ⟨h3, h2⟩
      · simp [h2]
      · simp [h2]
      · have h6 : t.1 = 5 := by omega
        unfold keyOf3 at h2
        rw [if_neg h4, if_pos h6] at h2
        simp [h2]
theorem js_len (t : T3) (k : Int) : (jsOf t k).length ≤ 3 := by
  unfold jsOf
  split
  · simp
  · split
    · simp
    · split <;> simp
theorem FB.step {T : List T3} {m : Nat} {F F' : List Fa} {t : T3} (hW : WF T) (h : FB T m F) (ht : T[m]? = some t) (hs : SvTo (F ++ [newFa t (keyOf3 T t) (mkB t (cF F))]) F' (jsOf t (keyOf3 T t)) m) : FB T (m + 1) F' := by
  obtain ⟨hl, hat⟩ := svTo_at _ _ _ _ hs
  have hlen := h.len
  have hl2 : F'.length = m + 1 := by rw [hl]; simp [hlen]
  -- each fact, and where it comes from
  have src : ∀ (i : Nat) f', F'[i]? = some f' → ∃ f, (F ++ [newFa t (keyOf3 T t) (mkB t (cF F))])[i]? = some f ∧ f'.t = f.t ∧ f'.key = f.key ∧ f'.kn = f.kn ∧ f'.ca = f.ca ∧ (∀ s ∈ f.sv, s ∈ f'.sv) ∧ (∀ s ∈ f'.sv, s ∈ f.sv ∨ s = m) ∧ f'.sv.length ≤ f.sv.length + 3 ∧ (∀ j ∈ jsOf t (keyOf3 T t), j.toNat = i → (m : Int) ∈ f'.sv) := fun i f' hi => by
    have hi2 := get_lt hi
    rw [hl] at hi2
    obtain ⟨A, c, sv', q1, q2, q3, q4, q5⟩ := hat i _ (List.getElem?_eq_getElem hi2)
    rw [hi] at q1
    injection q1 with q1
    have := js_len t (keyOf3 T t)
    subst q1
    exact ⟨_, List.getElem?_eq_getElem hi2, rfl, rfl, rfl, rfl, q2, q3, by dsimp only; omega, q5⟩
  have hc : ∀ q, q < m → cF F' q = cF F q := fun q hq => by
    obtain ⟨f', hf'⟩ : ∃ f', F'[q]? = some f' := ⟨_, List.getElem?_eq_getElem (by omega)⟩
    obtain ⟨f, hf, _, _, _, e4, _⟩ := src q f' hf'
    rw [List.getElem?_append_left (by omega)] at hf
    rw [cF_at hf', cF_at hf, e4]
  refine ⟨hl2, fun i f' hi => ?_, fun i f' hi => ?_, fun i q f' u hi hu hq hr => ?_⟩
  · obtain ⟨f, hf, e1, e2, e3, e4, _⟩ := src i f' hi
    rcases get_app hf with hf | ⟨rfl, rfl⟩
    · obtain ⟨g1, g2, g3, g4⟩ := h.tk i f hf
      have := get_lt hf
      rw [e1, e2, e3, e4]
      refine ⟨g1, g2, g3, g4.trans (mkB_congr hW g1 fun q hq => (hc q (by omega)).symm)⟩
    · rw [e1, e2, e3, e4, hlen]
      refine ⟨ht, rfl, rfl, mkB_congr hW ht fun q hq => (hc q hq).symm⟩
  · obtain ⟨f, hf, _, _, _, _, _, e6, e7, _⟩ := src i f' hi
    have h0 : (∀ s ∈ f.sv, 0 ≤ s ∧ s < m) ∧ f.sv.length ≤ 3 * m := by
      rcases get_app hf with hf | ⟨rfl, rfl⟩
      · exact h.sv i f hf
      · exact ⟨fun s hs => by simp [newFa] at hs, Nat.zero_le _⟩
    refine ⟨fun s hs => ?_, by omega⟩
    rcases e6 s hs with h1 | h1
    · have := h0.1 s h1; omega
    · omega
  · obtain ⟨f, hf, _, _, _, _, e5, _, _, e8⟩ := src i f' hi
    by_cases e : q = m
    · subst e
      obtain rfl : t = u := Option.some.inj (ht.symm.trans hu)
      exact e8 _ (refs_js hr) (by simp)
    · have hqm : q < m := by omega
      obtain ⟨r1, r2⟩ := wf_refs hW hu
      have him : i < m := by
        rcases hr with ⟨a1, a2⟩ | ⟨a1, a2⟩
        · have := r1 a1; omega
        · have := r2 a1; omega
      rw [List.getElem?_append_left (by omega)] at hf
      exact e5 _ (h.all i q f u hf hu hqm hr)
theorem FB.ok {T : List T3} {F : List Fa} (hW : WF T) (h : FB T T.length F) (hT : T.length ≤ 33) : FOK T F ∧ Least T (fun _ => False) (kF F) (cF F) := by
  have hk : ∀ i, kF F i = false := fun i => by
    cases hq : F[i]? with
    | none => simp [kF, hq]
    | some f => rw [kF_at hq]; exact (h.tk i f hq).2.2.1
  have hcm : ∀ (i : Nat) t, T[i]? = some t → cF F i = mkB t (cF F) := fun i t ht => by
    have hi : i < F.length := by rw [h.len]; exact get_lt ht
    have hf : F[i]? = some F[i] := by simp [hi]
    obtain ⟨g1, _, _, g4⟩ := h.tk i _ hf
    obtain rfl := Option.some.inj (g1.symm.trans ht)
    rw [cF_at hf]; exact g4
  refine ⟨⟨h.len, fun i f hf => ⟨(h.tk i f hf).1, (h.tk i f hf).2.1⟩, fun i f hf => ⟨(h.sv i f hf).1, by have := (h.sv i f hf).2; omega⟩, fun i m f t hf ht hr => h.all i m f t hf ht (get_lt ht) hr⟩, ⟨fun _ h => h.elim, fun i hi => (by rw [hk] at hi; cases hi), fun i t ht hm => (by rw [hcm i t ht]; exact hm), fun i t _ hi => (by rw [hk] at hi; cases hi)⟩, fun k' c' hc => ⟨fun i hi => (by rw [hk] at hi; cases hi), fun i => ?_⟩⟩
  induction i using Nat.strongRecOn with
  | _ i ih =>
    intro hi
    have hl := cF_lt hi
    rw [h.len] at hl
    have ht : T[i]? = some T[i] := by simp [hl]
    rw [hcm i _ ht] at hi
    refine hc.mak i _ ht ?_
    have e : mkB T[i] (fun q => cF F q && decide (q < i)) = mkB T[i] (cF F) := mkB_congr hW ht fun q hq => by simp [hq]
    rw [← e] at hi
    exact mkB_mono (fun q hq => by
      simp only [Bool.and_eq_true, decide_eq_true_eq] at hq
      exact ih q hq.2 hq.1) hi
end Go.Proofs.Ytboofkmbjmnpeaa

/- What both laws' walks need: the iterator, results in a box, comparisons. -/
namespace Go.Proofs.Ytboofkmbjmnpeaa
open Go Go.RowKit Go.Maps
attribute [local go_sem] Oper.semAt_some

set_option maxRecDepth 50000 in
theorem rnew {B q : Nat} {W : World} (h : Blk W q 70 [.slice none 0 0, .slice none 0 0]) (hq : B ≤ q) : RS B (fun b => b = q) W q [] [] :=
  ⟨none, 0, none, 0, [], ⟨h, World.ownsRow_nil _ _ _ _, World.ownsRow_nil _ _ _ _, fun j x hj => by simp at hj⟩, fun b hb => (by
    rcases hb with h | h | h
    · exact h
    · cases h
    · cases h), fun b hb => (by subst hb; exact hq), Nat.le_trans hq (Nat.le_of_lt h.lt)⟩
set_option maxRecDepth 50000 in
theorem cxT10 : ∀ vs w, (callFunc 10 vs).run Try.prog w = .ok (.enter 10 vs) w := enters_of Try.func10 (by kernel_rfl) rfl
set_option maxRecDepth 50000 in
theorem cxT46 : ∀ vs w, (callFunc 46 vs).run Try.prog w = .ok (.enter 46 vs) w := enters_of Try.func46 (by kernel_rfl) rfl
set_option maxRecDepth 50000 in
theorem infDo : (Try.prog.info? 66).map (·.size) = some 6 := by kernel_rfl
set_option maxRecDepth 50000 in
theorem evt_call3 {P : Program} {o : Oper} {a : Act} {w : World} {K : Act → World → Prop} {Q : Exit → Act → World → Prop} {f : FuncId} {x y z : Operand} {u v t : Value} {ts : Array TypeId} (hop : o.op = .call { callee := .value (.func f), args := #[x, y, z], argTypes := ts }) (hcf : ∀ vs w, (callFunc f vs).run P w = .ok (.enter f vs) w)
    (hx : a.eval x = u) (hy : a.eval y = v) (hz : a.eval z = t) (h : Calls P f #[u, v, t] w fun e w' => ∃ r, e = .returned r ∧ K (a.put o.dst r) w') : o.wp P a w K Q := by
  unfold Oper.wp
  rw [ex_fnP rfl hcf hop #[u, v, t] (by simp [hx, hy, hz]) w, Oper.upon_enter]
  refine h.mono fun e w' ⟨v, he, hk⟩ => ?_
  subst he
  exact hk
/-- What holds between the rounds of the first loop. -/
structure PutsI (B p q k : Nat) (L : List T3) (X : List (List Int)) (w wr : World) : Prop where
  nL : L.length ≤ k
  nX : X.length ≤ k
  both : Both B (fun b => B < b ∧ b ≠ q + 1) wr p q L X
  b2 : Blk wr B 4 [.bool false]
  b4 : Blk wr (q + 1) 67 [.pointer (some ⟨q, 0, none⟩)]
  bel : Below B w wr
  lt : B < q
set_option maxRecDepth 50000 in
theorem PutsI.next {B p q k : Nat} {L : List T3} {X : List (List Int)} {w wr w' : World} (h : PutsI B p q k L X w wr) (hb : Below wr.heap.size wr w') : PutsI B p q k L X w w' :=
  ⟨h.nL, h.nX, h.both.next hb, h.b2.next hb, h.b4.next hb, h.bel.trans (Below.mono hb (Nat.le_of_lt h.b2.lt)), h.lt⟩
set_option maxRecDepth 50000 in
theorem PutsI.step {B p q k : Nat} {L L' : List T3} {X X' : List (List Int)} {w wr w' : World} (h : PutsI B p q k L X w wr) (hL : L'.length ≤ L.length + 1) (hX : X'.length ≤ X.length + 1) (hB : Both B (fun b => B < b ∧ b ≠ q + 1) w' p q L' X') (hc : Chg (fun b => B < b ∧ b ≠ q + 1) wr w') : PutsI B p q (k + 1) L' X' w w' :=
  ⟨by have := h.nL; omega, by have := h.nX; omega, hB, h.b2.chg hc (fun e => Nat.lt_irrefl _ e.1), h.b4.chg hc (fun e => e.2 rfl), h.bel.trans (hc.below (Nat.le_of_lt h.b2.lt) (fun b e => Nat.le_of_lt e.1)), h.lt⟩
set_option maxRecDepth 50000 in
theorem Both.rows {B : Nat} {okb : Nat → Prop} {w : World} {p q : Nat} {L : List T3} {X : List (List Int)} (h : Both B okb w p q L X) : ∃ A c AL cL, w.cell? ⟨p, 0, none⟩ = some (.bool true) ∧ w.cell? ⟨p, 1, none⟩ = some (.slice A L.length c) ∧ w.cell? ⟨q, 0, none⟩ = some (.slice AL L.length cL) ∧ TRow w A L ∧ TRow w AL L := by
  obtain ⟨Fc, Fr, hC, hR, _⟩ := h
  obtain ⟨A, c, _, _, c0, c1, _, hA, _⟩ := hC.cells
  obtain ⟨AL, cL, _, _, r0, _, hAL, _⟩ := hR.cells
  exact ⟨A, c, AL, cL, c0, c1, r0, hA, hAL⟩
set_option maxRecDepth 50000 in
theorem Both.box {B : Nat} {okb : Nat → Prop} {w : World} {p q : Nat} {L : List T3} {X : List (List Int)} (h : Both B okb w p q L X) : ∃ A c, w.cell? ⟨p, 0, none⟩ = some (.bool true) ∧ w.cell? ⟨p, 1, none⟩ = some (.slice A L.length c) ∧ TRow w A L ∧ ∀ b, A.map (·.block) = some b → b < w.heap.size := by
  obtain ⟨Fc, Fr, ⟨s, DN, DI, hT, _⟩, _⟩ := h
  refine ⟨s.AT, s.cT, hT.blk.cell (i := 0) rfl, hT.blk.cell (i := 1) rfl, trow_of hT.rT, fun b hb => rowlt hT.rT b ?_⟩
  unfold Lay.vT
  cases hA : s.AT with
  | none => rw [hA] at hb; cases hb
  | some a => rw [hA] at hb; exact hb
set_option maxRecDepth 50000 in
/-- A store into a block that came up behind both stores. -/
theorem Both.over {B t : Nat} {okb : Nat → Prop} {wr wc W : World} {p q : Nat} {L : List T3} {X : List (List Int)} (h : Both B okb wr p q L X) (ht : t = wr.heap.size) (hb : Below wr.heap.size wr wc) (hc : Chg (fun b => b = t) wc W) (hB : B ≤ wr.heap.size) : Both B okb W p q L X := by
  obtain ⟨Fc, Fr, h1, h2, h3, h4, h5⟩ := h
  subst ht
  refine ⟨Fc, Fr, (h1.next hb).chg hc (fun b hf e => ?_), (h2.next hb).chg hc (fun b hf e => ?_) (fun b e => by subst e; exact hB), h3, fun b hf => ⟨?_, (h4 b hf).2⟩, fun b hf => ⟨?_, (h5 b hf).2⟩⟩
  · subst e; exact Nat.lt_irrefl _ (h4 _ hf).1
  · subst e; exact Nat.lt_irrefl _ (h5 _ hf).1
  · exact Nat.lt_of_lt_of_le (h4 b hf).1 (Nat.le_trans hb.size hc.size)
  · exact Nat.lt_of_lt_of_le (h5 b hf).1 (Nat.le_trans hb.size hc.size)
set_option maxRecDepth 50000 in
theorem Both.text {B j : Nat} {okb : Nat → Prop} {w : World} {p q : Nat} {L : List T3} {X : List (List Int)} {x : List Int} (h : Both B okb w p q L X) (hx : X[j]? = some x) : ∃ g cX A c, w.cell? ⟨q, 1, none⟩ = some (.slice (some ⟨g, 0, none⟩) X.length cX) ∧ w.cell? ⟨g, j, none⟩ = some (.slice A x.length c) ∧ Nums w .u8 A x := by
  obtain ⟨Fc, Fr, _, ⟨AL, cL, AX, cX, ps, hT, _, _, hBw⟩, _⟩ := h
  obtain ⟨A, c, hp, hN⟩ := hT.tx j x hx
  obtain ⟨g, rfl, hc⟩ := row_cell hT.rX hp
  exact ⟨g, cX, A, c, hT.blk.cell (i := 1) rfl, hc, hN.nums hBw⟩
set_option maxRecDepth 50000 in
theorem Both.code {B : Nat} {okb : Nat → Prop} {w : World} {p q : Nat} {L : List T3} {X : List (List Int)} (h : Both B okb w p q L X) : ∃ F, CS F w p L X := by
  obtain ⟨Fc, _, h1, _⟩ := h
  exact ⟨Fc, h1⟩
set_option maxRecDepth 50000 in
theorem keeps_chg {G : Nat → Prop} {B : Nat} {W W' : World} (h : Chg G W W') (hG : ∀ b, G b → b < B) : KeepsFrom B W W' :=
  ⟨h.size, fun k o hk ho _ => (h.block k (Array.getElem?_eq_some_iff.1 ho).1 (fun e => by have := hG k e; omega)).trans ho⟩
set_option maxRecDepth 50000 in
theorem withAct {F : Fence} {n : Nat} {P : Program} {C : Code} {Q : Exit → Act → World → Prop} {a : Act} {w : World} (h : ∀ aa, aa = a → C.wpIn F n P Q aa w) : C.wpIn F n P Q a w := h a rfl
set_option maxRecDepth 50000 in
theorem results_cell1 {P : Program} {fn : Func} {p : Tmp} {ty : TypeId} (h : fn.results = #[.cell p ty]) (tmps : Array Value) (w : World) (b o : Nat) (hp : tmps.getD p undef = .pointer (some ⟨b, o, none⟩)) (v : Value) (d : TypeDesc) (hc : w.cell? ⟨b, o, none⟩ = some v) (hu : P.underlying ty = some d) (hd : d.isRow = false) :
    (results fn tmps).run P w = .ok v w := by
  simp only [results, h]
  have hp2 : tmps[p]?.getD undef = .pointer (some ⟨b, o, none⟩) := by rw [← hp]; simp
  have hag : (isAgg ty).run P w = .ok false w := by
    unfold isAgg
    rw [Sem.run_bind, run_underlying hu w]
    cases d <;> simp_all
  simp [hp2, asAddr, loadVar, Sem.run_bind, hag, hc]
/-- What holds between the rounds of the range over the terms. -/
structure PutsR (t7 m : Nat) (wc W : World) : Prop where
  chg : Chg (fun b => b = t7) wc W
  b7 : Blk W t7 3 [.int .i64 m]
  lt : t7 < wc.heap.size
set_option maxRecDepth 50000 in
theorem PutsR.own {n t7 : Nat} {wc : World} {B : Nat} (hB : wc.heap.size ≤ B) : OwnFrom B (fun (pre : List (Fin n)) W => upTo pre ∧ PutsR t7 pre.length wc W) := fun s X Y row ⟨hu, hs⟩ hg hr =>
  ⟨hu, hs.chg.grown hg (fun g e => .inr (by have := (hr g e).1; omega)), hs.b7.grown hg (fun e => by have := (hr _ e.symm).1; have := hs.lt; omega), hs.lt⟩
set_option maxRecDepth 50000 in
theorem PutsR.next {t7 m : Nat} {wc W W' : World} (h : PutsR t7 m wc W) (hb : Below W.heap.size W W') : PutsR t7 m wc W' := ⟨h.chg.next hb, h.b7.next hb, h.lt⟩
set_option maxRecDepth 50000 in
theorem PutsR.step {t7 m : Nat} {wc W : World} (h : PutsR t7 m wc W) : PutsR t7 (m + 1) wc (W.setCell ⟨t7, 0, none⟩ (.int .i64 ((m + 1 : Nat) : Int))) :=
  ⟨h.chg.setCell (.inl rfl) _, h.b7.set 0 _, h.lt⟩
set_option maxRecDepth 50000 in
theorem upTo_last {n : Nat} {xs : List (Fin n)} {x : Fin n} (h : upTo (xs ++ [x])) : x.val = xs.length := by
  have h2 := congrArg (fun l => l[xs.length]?) h
  simpa using h2
set_option maxRecDepth 50000 in
theorem upTo_add {n : Nat} {xs : List (Fin n)} {x : Fin n} (h : upTo xs) (hx : x.val = xs.length) : upTo (xs ++ [x]) := by
  obtain ⟨i, hi⟩ := x
  dsimp only at hx
  subst hx
  exact upTo_snoc h rfl hi
/-- The variables of a round. -/
def AxP (aa : Act) (wc : World) (L : List T3) (s1 s2 s3 s4 : Nat) (x : Fin L.length) (a' : Act) (W : World) : Prop :=
  ∃ b, wc.heap.size ≤ b ∧ Blk W b 50 (tc (L[x.val]'x.2)) ∧
    a' = { tmps := (((aa.tmps.setIfInBounds s1 (.int .i64 (x.val : Int))).setIfInBounds s2 (tv (L[x.val]'x.2))).setIfInBounds s3 (.int .i64 (x.val : Int))).setIfInBounds s4 (.pointer (some ⟨b, 0, none⟩)), defers := [] }
set_option maxRecDepth 50000 in
theorem AxP.own {aa : Act} {wc : World} {L : List T3} {s1 s2 s3 s4 : Nat} {B : Nat} (x : Fin L.length) (a' : Act) : OwnFrom B (fun (_ : Unit) W => AxP aa wc L s1 s2 s3 s4 x a' W) := fun _ X Y row ⟨b, hb, hB, ha⟩ hg hr =>
  ⟨b, hb, hB.grown hg (fun e => by
    obtain ⟨_, o, ho, hc⟩ := hr b e.symm
    rw [show X.heap[b]? = _ from hB] at ho
    cases ho
    cases hc), ha⟩
set_option maxRecDepth 50000 in
theorem NumsD.apart {B : Nat} {F : Nat → Prop} {w : World} {k : IntKind} {A : Option Addr} {xs : List Int} (h : NumsD B w k A xs) (hF : ∀ b, F b → B ≤ b) : 0 < xs.length → ∀ g o sp, A = some ⟨g, o, sp⟩ → ¬ F g := fun hp g o sp e hf => by
  obtain ⟨b, off, e2, hlt, _⟩ := h hp
  rw [e] at e2
  injection e2 with e2
  injection e2 with e2
  have := hF g hf
  subst e2
  exact absurd hlt (Nat.not_lt.2 this)
set_option maxRecDepth 50000 in
theorem putR_len {L L' : List T3} {x : Nat} {t : T3} {n e : Int} (h : PutR L x t n e L') : L'.length ≤ L.length + 1 := by
  rcases h with ⟨_, _, _, rfl⟩ | ⟨_, _, _, _, _, rfl⟩ | ⟨_, _, _, _, rfl⟩ <;> simp
set_option maxRecDepth 50000 in
theorem drawR_len {L L' : List T3} {s n e : Int} (h : DrawR L s n e L') : L'.length ≤ L.length + 1 := by
  rcases h with ⟨_, _, _, rfl⟩ | ⟨_, _, _, _, rfl⟩ | ⟨_, _, _, _, _, _, _, _, rfl⟩ <;> simp
set_option maxRecDepth 50000 in
theorem textR_len {L L' : List T3} {X X' : List (List Int)} {x : List Int} {n : Int} (h : TextR L X x n L' X') : L'.length ≤ L.length + 1 ∧ X'.length ≤ X.length + 1 := by
  rcases h with ⟨_, _, _, _, _, rfl, rfl⟩ | ⟨_, _, rfl, rfl⟩ <;> simp
end Go.Proofs.Ytboofkmbjmnpeaa
