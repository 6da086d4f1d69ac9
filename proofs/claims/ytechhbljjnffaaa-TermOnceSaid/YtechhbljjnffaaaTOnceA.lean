/- What TermOnce's walk needs. -/
import Derived.Test.YtechhbljjnffaaaTLawB
namespace Go.Proofs.Ytechhbljjnffaaa
open Go Go.RowKit Go.Maps
attribute [local go_sem] Oper.semAt_some

/-- The store between the rounds. -/
structure OS (okb : Nat → Prop) (p k : Nat) (L : List T3) (X : List (List Int)) (W6 wr : World) : Prop where
  nL : L.length ≤ k
  nX : X.length ≤ k
  code : ∃ F, CS F wr p L X ∧ ∀ b, F b → b < wr.heap.size ∧ okb b
  chg : Chg okb W6 wr
section
variable {okb : Nat → Prop} {p k : Nat} {L L' : List T3} {X X' : List (List Int)} {W6 wr w w' : World}
set_option maxRecDepth 50000 in
theorem OS.next (h : OS okb p k L X W6 wr) (hb : Below wr.heap.size wr w') : OS okb p k L X W6 w' := by
  obtain ⟨h1, h2, ⟨F, h3, h4⟩, h5⟩ := h
  exact ⟨h1, h2, ⟨F, h3.next hb, fun b hf => ⟨Nat.lt_of_lt_of_le (h4 b hf).1 hb.size, (h4 b hf).2⟩⟩, h5.next hb⟩
set_option maxRecDepth 50000 in
theorem OS.step {F : Nat → Prop} (hc : Chg okb W6 w) (h1 : L'.length ≤ k) (h2 : X'.length ≤ k) (h4 : ∀ b, F b → b < w.heap.size ∧ okb b) (hC : CS (Grw F w w') w' p L' X') (hG : Chg F w w') (hok : ∀ b, w.heap.size ≤ b → okb b) : OS okb p k L' X' W6 w' :=
  ⟨h1, h2, ⟨_, hC, fun b hb => by
    rcases hb with h | h
    · exact ⟨Nat.lt_of_lt_of_le (h4 b h).1 hG.size, (h4 b h).2⟩
    · exact ⟨h.2, hok b h.1⟩⟩, hc.trans hG (fun b _ hf => (h4 b hf).2)⟩
end
set_option maxRecDepth 50000 in
theorem get_gen (F : Nat → Prop) (p : Nat) (L : List T3) (X : List (List Int)) (n : Int) (w : World) (h : CS F w p L X) :
    Calls Try.prog 11 #[.pointer (some ⟨p, 0, none⟩), .int .i64 n] w fun e w' => ∃ (u : T3) (b : Bool), e = .returned (.tuple #[.agg #[.int .i64 u.1, .int .i64 u.2.1, .int .i64 u.2.2], .bool b]) ∧ Below w.heap.size w w' ∧ Twf u ∧ (∀ (i : Nat) t, n = i → L[i]? = some t → u = t ∧ b = true) := by
  by_cases hn : 0 ≤ n ∧ n < L.length
  · obtain ⟨m, rfl⟩ : ∃ m : Nat, n = m := ⟨n.toNat, by omega⟩
    have hm : m < L.length := by omega
    obtain ⟨t, ht⟩ : ∃ t, L[m]? = some t := ⟨L[m], by simp [hm]⟩
    obtain ⟨nx, DN, DI, hP⟩ := h.pure
    refine (get_yes F p L X m t.1 t.2.1 t.2.2 w h ht).mono fun e w' ⟨he, hb⟩ => ⟨t, true, he, hb, (hP.wf m t ht).1, fun i u hi hu => ?_⟩
    obtain rfl : m = i := by omega
    rw [ht] at hu
    exact ⟨Option.some.inj hu, rfl⟩
  · refine (get_no F p L X n w h hn).mono fun e w' ⟨he, hb⟩ => ⟨(0, 0, 0), false, he, hb, ⟨by decide, by decide, by decide⟩, fun i u hi hu => ?_⟩
    have := get_lt hu
    omega
set_option maxRecDepth 50000 in
theorem putR_cases {L L' : List T3} {x : Nat} {t : T3} {n e : Int} (h : PutR L x t n e L') : (e = 2 ∧ L' = L) ∨ (e = 0 ∧ ∃ i : Nat, n = i ∧ L'[i]? = some t) := by
  rcases h with ⟨_, _, h, h2⟩ | ⟨_, i, hi, hn, he, rfl⟩ | ⟨_, _, hn, he, rfl⟩
  · exact .inl ⟨h, h2⟩
  · exact .inr ⟨he, i, hn, hi⟩
  · exact .inr ⟨he, L.length, hn, get_new L t⟩
set_option maxRecDepth 50000 in
theorem drawR_cases {L L' : List T3} {s n e : Int} (h : DrawR L s n e L') : e = 2 ∨ e = 3 ∨ (e = 0 ∧ n = L.length ∧ (L'.length : Int) = L.length + 1) := by
  rcases h with ⟨_, _, h, _⟩ | ⟨_, _, _, h, _⟩ | ⟨_, v, _, _, _, _, hn, he, rfl⟩
  · exact .inl h
  · exact .inr (.inl h)
  · exact .inr (.inr ⟨he, hn, by simp⟩)
set_option maxRecDepth 50000 in
theorem textR_at {L L' : List T3} {X X' : List (List Int)} {x : List Int} {n : Int} (h : TextR L X x n L' X') : ∃ j i : Nat, X'[j]? = some x ∧ L'[i]? = some (9, (j : Int), 0) ∧ n = i := by
  rcases h with ⟨j, i, h1, h2, h3, rfl, rfl⟩ | ⟨_, h3, rfl, rfl⟩
  · exact ⟨j, i, h1, h2, h3⟩
  · exact ⟨X.length, L.length, get_new X x, get_new L _, h3⟩
set_option maxRecDepth 50000 in
theorem CS.box {F : Nat → Prop} {w : World} {p : Nat} {L : List T3} {X : List (List Int)} (h : CS F w p L X) : ∃ A c, w.cell? ⟨p, 0, none⟩ = some (.bool true) ∧ w.cell? ⟨p, 1, none⟩ = some (.slice A L.length c) ∧ TRow w A L ∧ ∀ b, A.map (·.block) = some b → b < w.heap.size ∧ F b := by
  obtain ⟨s, DN, DI, hT, hP, hF, hN⟩ := h
  refine ⟨s.AT, s.cT, hT.blk.cell (i := 0) rfl, hT.blk.cell (i := 1) rfl, trow_of hT.rT, fun b hb => ?_⟩
  have hv : (s.vT 0).ownBlock = some b := by
    unfold Lay.vT
    cases hA : s.AT with
    | none => rw [hA] at hb; cases hb
    | some a => rw [hA] at hb; exact hb
  have hf : foot p s b := .inr (.inr (.inr (.inl hv)))
  exact ⟨hT.lt b hf, hF b hf⟩
set_option maxRecDepth 50000 in
theorem bool_inv {v : Value} {z : D0 × List MemPlace} (h : plainElem (H := Unit) Try.prog 4 v = some z) : ∃ b, v = .bool b ∧ z.1 = .lit (.bool b) := by
  unfold plainElem at h
  rw [Try.underlying4] at h
  cases v <;> simp at h
  subst h
  exact ⟨_, rfl, rfl⟩
set_option maxRecDepth 50000 in
theorem look_bool {w : World} {m n : Nat} {DM : D0} {t : T3} (h : w.ownsMap Try.prog 33 (plainElem (H := Unit) Try.prog 4) m n DM) (ht : Twf t) : ∃ v, (Instr.lookup 53 (.map (some m)) (.agg #[.int .i64 t.1, .int .i64 t.2.1, .int .i64 t.2.2]) false).run Try.prog w = .ok (.bool v) w ∧ (v = true → has DM (tk t) = true) := by
  obtain ⟨v, ps, hrun, hv⟩ := h.lookup lawT Try.underlying53 (z := .bool false) (by kernel_rfl) (plainElem_bool Try.underlying4 false) (key_of t ht)
  obtain ⟨b, rfl, hb⟩ := bool_inv hv
  refine ⟨b, hrun, fun e => ?_⟩
  subst e
  cases hh : has DM (tk t) with
  | true => rfl
  | false =>
    dsimp only at hb
    rw [atKey_of_not_has hh] at hb
    cases hb
set_option maxRecDepth 50000 in
theorem upTo_mem {n : Nat} {xs : List (Fin n)} {x y : Fin n} (h : upTo (xs ++ [x])) (hy : y ∈ xs) : y.val ≠ x.val := by
  have hn : (List.range (xs ++ [x]).length).Nodup := List.nodup_range
  unfold upTo at h
  rw [← h, List.map_append, List.nodup_append] at hn
  exact hn.2.2 y.val (List.mem_map_of_mem hy) x.val (by simp)
/-- What holds between the rounds of the range over the terms. -/
structure OnceR (mp : Nat) (L : List T3) (wc : World) (pre : List (Fin L.length)) (W : World) : Prop where
  chg : Chg (fun b => b = mp) wc W
  map : ∃ DM : D0, W.ownsMap Try.prog 33 (plainElem (H := Unit) Try.prog 4) mp pre.length DM ∧ ∀ t, Twf t → has DM (tk t) = true → ∃ x ∈ pre, L[x.val]'x.2 = t
  lt : mp < wc.heap.size
set_option maxRecDepth 50000 in
theorem OnceR.own {mp : Nat} {L : List T3} {wc : World} {B : Nat} (hB : wc.heap.size ≤ B) : OwnFrom B (OnceR mp L wc) := fun s X Y row ⟨hc, ⟨DM, hm, hd⟩, hl⟩ hg hr =>
  ⟨hc.grown hg (fun g e => .inr (by have := (hr g e).1; omega)), ⟨DM, hm.kept hg (fun e => by have := (hr _ e.symm).1; omega), hd⟩, hl⟩
set_option maxRecDepth 50000 in
theorem OnceR.next {mp : Nat} {L : List T3} {wc W W' : World} {pre : List (Fin L.length)} (h : OnceR mp L wc pre W) (hb : Below W.heap.size W W') : OnceR mp L wc pre W' := by
  obtain ⟨hc, ⟨DM, hm, hd⟩, hl⟩ := h
  exact ⟨hc.next hb, ⟨DM, map_next hm hb, hd⟩, hl⟩
set_option maxRecDepth 50000 in
theorem OnceR.step {mp : Nat} {L : List T3} {wc W W' : World} {pre : List (Fin L.length)} {DM : D0} {t : T3} {i : Nat} (h : Chg (fun b => b = mp) wc W) (hl : mp < wc.heap.size) (hi : i < L.length) (ht : L[i]'hi = t) (htw : Twf t) (hd : ∀ t, Twf t → has DM (tk t) = true → ∃ x ∈ pre, L[x.val]'x.2 = t) (hM : W'.ownsMap Try.prog 33 (plainElem (H := Unit) Try.prog 4) mp (pre.length + 1) (DM.put (tk t) (.lit (.bool true)))) (hg : W.grownBy W' (some mp)) : OnceR mp L wc (pre ++ [⟨i, hi⟩]) W' := by
  refine ⟨h.grown hg (fun g e => .inl (by cases e; rfl)), ⟨_, by rw [List.length_append]; exact hM, fun u hu hh => ?_⟩, hl⟩
  by_cases e : u = t
  · subst e
    exact ⟨⟨i, hi⟩, by simp, ht⟩
  · rw [has_put_other (fun e2 => e (tk_inj hu htw e2))] at hh
    obtain ⟨x, hx, hxx⟩ := hd u hu hh
    exact ⟨x, by simp [hx], hxx⟩
set_option maxRecDepth 50000 in
/-- Sizes grow, below the bound. -/
theorem sz_grows {L : List T3} {t : T3} (hk : t.1 ≠ 1) (hk9 : t.1 ≠ 9) {i x : Nat} (hW : WFt i x t) (hp : ∀ z ∈ szsOf L, 1 ≤ z) (hL : i ≤ L.length) (h : szOf (szsOf L) t < 1048576) : ¬ (szOf (szsOf L) t ≤ (szsOf L).getD t.2.1.toNat 0) := by
  have g : ∀ m : Int, 0 ≤ m → m < i → 1 ≤ (szsOf L).getD m.toNat 0 := fun m h0 h1 => by
    have h2 : m.toNat < (szsOf L).length := by rw [szsOf_length]; omega
    rw [List.getD_eq_getElem?_getD, List.getElem?_eq_getElem h2]
    exact hp _ (List.getElem_mem h2)
  unfold szOf at *
  rcases hW with ⟨h1, _⟩ | ⟨h1, h2, h3, _⟩ | ⟨h1, h2, h3, h4, h5⟩ | ⟨h1, _⟩
  · exact absurd h1 hk
  · rw [if_neg (by omega), if_pos (by omega)] at *
    unfold cap20 at *
    split at * <;> omega
  · rw [if_pos h1] at *
    have := g _ h4 h5
    unfold cap20 at *
    split at * <;> omega
  · exact absurd h1 hk9
set_option maxRecDepth 50000 in
/-- How the law ends: two marks. -/
theorem once_end {R : Ending → World → Prop} {D1 D2 B : Nat} {w w1 W : World} {ds : List Deferred} {tmps : Array Value} (hK1 : W.heap[D1]? = some (.deferred (some []))) (hK2 : W.heap[D2]? = some (.deferred (some []))) (hne : D1 ≠ D2) (hds : ds = [{ target := .collected D2, args := #[] }, { target := .collected D1, args := #[] }]) (hp : tmps.getD 2 undef = .pointer (some ⟨B, 0, none⟩)) (hb : Blk W B 4 [.bool true]) (hbel : Below B w W) (hBw : B ≤ w1.heap.size) (hD1 : w1.heap.size ≤ D1) (hD2 : w1.heap.size ≤ D2)
    (hR : ∀ W', Below B w W' → R (.returned (.bool true)) W') : bodyPostM Fence.wide 5 Try.prog Try.f4 R .ret { tmps := tmps, defers := ds } W := by
  subst hds
  have hK3 : (W.putObj D2 (.deferred none)).heap[D1]? = some (.deferred (some [])) := (World.putObj_heap_other hne).trans hK1
  refine ⟨by simp, .inl ⟨_, _, rfl, run_takeDeferred hK2, ⟨by simp, .inl ⟨_, _, rfl, run_takeDeferred hK3, ?_⟩⟩⟩⟩
  have h1 : B ≠ D1 := fun e => by
    subst e
    rw [show W.heap[B]? = _ from hb] at hK1; cases hK1
  have h2 : B ≠ D2 := fun e => by
    subst e
    rw [show W.heap[B]? = _ from hb] at hK2; cases hK2
  have hb2 : Blk ((W.putObj D2 (.deferred none)).putObj D1 (.deferred none)) B 4 [.bool true] := (World.putObj_heap_other h1).trans ((World.putObj_heap_other h2).trans hb)
  exact ⟨_, results_cell1 rfl tmps _ B 0 hp (.bool true) _ (hb2.cell (i := 0) rfl) Try.underlying4 rfl, hR _ (hbel.trans ((belowK_b (w := w1) hBw W D2 _ _ hD2 hK2 rfl rfl).trans (belowK_b (w := w1) hBw _ D1 _ _ hD1 hK3 rfl rfl)))⟩
set_option maxRecDepth 50000 in
theorem once_few {R : Ending → World → Prop} {D B : Nat} {w w1 W : World} {ds : List Deferred} {tmps : Array Value} (hK : W.heap[D]? = some (.deferred (some []))) (hds : ds = [{ target := .collected D, args := #[] }]) (hp : tmps.getD 2 undef = .pointer (some ⟨B, 0, none⟩)) (hb : Blk W B 4 [.bool true]) (hbel : Below B w W) (hBw : B ≤ w1.heap.size) (hD : w1.heap.size ≤ D)
    (hR : ∀ W', Below B w W' → R (.returned (.bool true)) W') : bodyPostM Fence.wide 5 Try.prog Try.f4 R .ret { tmps := tmps, defers := ds } W := by
  subst hds
  refine ⟨by simp, .inl ⟨_, _, rfl, run_takeDeferred hK, ?_⟩⟩
  have hne : B ≠ D := fun e => by
    subst e
    rw [show W.heap[B]? = _ from hb] at hK; cases hK
  have hb2 : Blk (W.putObj D (.deferred none)) B 4 [.bool true] := (World.putObj_heap_other hne).trans hb
  exact ⟨_, results_cell1 rfl tmps _ B 0 hp (.bool true) _ (hb2.cell (i := 0) rfl) Try.underlying4 rfl, hR _ (hbel.trans (belowK_b (w := w1) hBw W D _ _ hD hK rfl rfl))⟩
end Go.Proofs.Ytechhbljjnffaaa
