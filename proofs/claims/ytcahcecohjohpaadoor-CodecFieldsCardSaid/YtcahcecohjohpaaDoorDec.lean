/- Decode. -/
import Derived.Test.YtcahcecohjohpaaDoorValue
namespace Go.Proofs.YtcahcecohjohpaaDoor
open Go.RowKit

/-- What Decode answers, the parser's answer being p. -/
def DecPost (p : Res V) (w : World) (e : Ending) (w' : World) : Prop :=
  ((∃ k n b l A c B d, p = .ok (.mk k n b l, []) ∧ e = .returned (.tuple #[.agg #[.int .i64 k, .int .i64 n, .slice A (b : List Int).length c, .slice B (l : List V).length d], .int .i64 0]) ∧ Holds (New w w') w' (.mk k n b l) A B) ∨
    (∃ er : Int, er ≠ 0 ∧ (∀ v, p ≠ .ok (v, [])) ∧ e = .returned (.tuple #[.agg #[.int .i64 0, .int .i64 0, .slice none 0 0, .slice none 0 0], .int .i64 er]))) ∧ Below w.heap.size w w'
theorem DecPost.yes {p : Res V} {w w' : World} {e : Ending} (h : DecPost p w e w') {v : V} (hp : p = .ok (v, [])) :
    ∃ k n b l A c B d, v = .mk k n b l ∧ e = .returned (.tuple #[.agg #[.int .i64 k, .int .i64 n, .slice A (b : List Int).length c, .slice B (l : List V).length d], .int .i64 0]) ∧ Holds (New w w') w' (.mk k n b l) A B ∧ Below w.heap.size w w' := by
  rcases h with ⟨⟨k, n, b, l, A, c, B, d, h1, h2, h3⟩ | ⟨er, _, h1, _⟩, hg⟩
  · rw [hp] at h1
    injection h1 with h1
    injection h1 with h1 h6
    exact ⟨k, n, b, l, A, c, B, d, h1, h2, h3, hg⟩
  · exact absurd hp (h1 v)
theorem DecPost.no {p : Res V} {w w' : World} {e : Ending} (h : DecPost p w e w') (hp : ∀ v, p ≠ .ok (v, [])) :
    ∃ er : Int, er ≠ 0 ∧ e = .returned (.tuple #[.agg #[.int .i64 0, .int .i64 0, .slice none 0 0, .slice none 0 0], .int .i64 er]) ∧ Below w.heap.size w w' := by
  rcases h with ⟨⟨k, n, b, l, A, c, B, d, h1, _⟩ | ⟨er, h0, _, h2⟩, hg⟩
  · exact absurd h1 (hp _)
  · exact ⟨er, h0, h2, hg⟩

theorem boxed2 {w W wr : World} {o : Obj} (hW : W = (w.alloc nilBox).alloc o) (hg : W.grownBy wr (some (w.heap.size + 1))) : Boxed w.heap.size wr := by
  have hs : W.heap.size = w.heap.size + 2 := by rw [hW]; simp
  have h1 : wr.heap[w.heap.size]? = W.heap[w.heap.size]? := hg.block w.heap.size (by omega) (fun e => by injection e with e; omega)
  have h2 : W.heap[w.heap.size]? = (w.alloc nilBox).heap[w.heap.size]? := by rw [hW]; exact heap_alloc_old (w.alloc nilBox) o (by simp)
  have hb := h1.trans h2
  have hx := (Box4.start w (.int .i64 0) (.int .i64 0) (.slice none 0 0) (.slice none 0 0) 25)
  obtain ⟨c0, c1, c2, c3⟩ := hx.cells
  have f := fun i => (World.frozen?_of_block (a := ⟨w.heap.size, i, none⟩) hb).trans (hx.soft i)
  exact ⟨⟨(cell_same hb).trans c0, (cell_same hb).trans c1, (cell_same hb).trans c2, (cell_same hb).trans c3⟩, ⟨f 0, f 1, f 2, f 3⟩, by have := hg.size; omega⟩
theorem dec_below {w W wr : World} {o : Obj} (hW : W = (w.alloc nilBox).alloc o) (hg : W.grownBy wr (some (w.heap.size + 1))) : Below w.heap.size w wr := by
  have hb : Below w.heap.size w W := by rw [hW]; exact (below_new w nilBox).trans ((below_new (w.alloc nilBox) o).mono (by simp))
  exact hb.grown hg hb.size (fun k hk => by injection hk with hk; omega)
theorem rd_start {w W : World} {A : Option Addr} {bs : List Int} {c : Nat} (hW : W = (w.alloc nilBox).alloc (.cells #[.slice A bs.length c] 54)) (hA : Nums w .u8 A bs) (hc : bs.length ≤ c) (hm : c ≤ maxLen) : Rd (w.heap.size + 1) w.heap.size W bs := by
  have e : (w.alloc nilBox).heap.size = w.heap.size + 1 := by simp
  have hn : W.heap[w.heap.size + 1]? = some (.cells #[.slice A bs.length c] 54) := by rw [hW, ← e]; exact heap_alloc_new _ _
  have hb : Below w.heap.size w W := by rw [hW]; exact (below_new w nilBox).trans ((below_new (w.alloc nilBox) _).mono (by simp))
  refine ⟨A, c, ?_, ?_, ?_, by omega, hA.under.stay hb, hc, hm⟩
  · simp [World.cell?, hn]
  · simp [World.frozen?, hn]
  · rw [hW]; simp

theorem dec_end {w w3 : World} (h : Below w.heap.size w w3) (v0 v1 v2 v3 : Value) (o : Obj) : Below w.heap.size w ((stored4 w3 w.heap.size v0 v1 v2 v3).alloc o) :=
  (h.trans (stored4_below w3 w.heap.size w.heap.size v0 v1 v2 v3 (Nat.le_refl _))).trans ((below_new _ o).mono (by rw [stored4_size]; exact h.size))
theorem holds_alloc {w X : World} {v : V} {A B : Option Addr} (h : Holds (New w X) X v A B) (o : Obj) : Holds (New w (X.alloc o)) (X.alloc o) v A B :=
  (h.keep (w' := X.alloc o) (fun b hb => (World.grownBy_alloc X o none).block b hb.2 (by simp))).sub (fun b hb => ⟨hb.1, by have := hb.2; simp; omega⟩)

set_option maxHeartbeats 2000000 in
theorem decode_any (A : Option Addr) (c : Nat) (bs : List Int) (w : World) (hf : Fine bs) (hl : bs.length ≤ 1048576) (hc : bs.length ≤ c) (hm : c ≤ maxLen) (hA : Nums w .u8 A bs) (ht : Tabs w) :
    Calls Tryd.prog 15 #[.slice A bs.length c] w (DecPost (parse 16 bs) w) := by
  obtain ⟨W, hW⟩ : ∃ W, W = (w.alloc nilBox).alloc (.cells #[.slice A bs.length c] 54) := ⟨_, rfl⟩
  have HW := hid hW
  have hRW := rd_start hW hA hc hm
  have htW : Tabs W := by rw [hW]; exact (ht.stay (below_new _ _)).stay (below_new _ _)
  have hD : 1 < w.heap.size := ht.1
  have hsW : W.heap.size = w.heap.size + 2 := by rw [hW]; simp
  have HSW := hid hsW
  have hlI : (bs.length : Int) ≤ 1048576 := by omega
  cases hp : parse 16 bs with
  | error er =>
    have HP := hid hp
    clear hp hsW
    go_enter Tryd.func15, Tryd.ntmps15
    go_wp2_with (go_at_call 28; change Calls _ _ _ ((w.alloc nilBox).alloc (.cells #[.slice A bs.length c] 54)) _; rw [← hW]; refine ((value_any 16 (Nat.le_refl _) (w.heap.size + 1) w.heap.size bs W hf htW hD hRW).mono fun e w' h => h.no HP.out).mono ?_; rintro e w3 ⟨he0, rfl, hg3⟩; have hE0 : (er != 0) = true := (by rw [bne_iff_ne]; exact he0); obtain ⟨⟨d0, d1, d2, d3⟩, ⟨e0, e1, e2, e3⟩, hl2⟩ := boxed2 HW.out hg3)
    exact bodyPost_ret (v := .tuple #[.agg #[.int .i64 0, .int .i64 0, .slice none 0 0, .slice none 0 0], .int .i64 er]) (by simp [results, Tryd.results15, go_sem, d0, d1, d2, d3, hl2]) rfl ⟨.inr ⟨er, he0, (fun v h => by cases h), rfl⟩, dec_end (dec_below HW.out hg3) _ _ _ _ _⟩
  | ok p =>
    obtain ⟨⟨k, n, b, l⟩, r⟩ := p
    have HP := hid hp
    clear hp hsW
    cases r with
    | nil =>
      go_enter Tryd.func15, Tryd.ntmps15
      go_wp2_with (go_at_call 28; change Calls _ _ _ ((w.alloc nilBox).alloc (.cells #[.slice A bs.length c] 54)) _; rw [← hW]; refine ((value_any 16 (Nat.le_refl _) (w.heap.size + 1) w.heap.size bs W hf htW hD hRW).mono fun e w' h => h.yes HP.out).mono ?_; rintro e w3 ⟨k1', n1', b1', l1', A1, c1, B1, d1', hv1, rfl, hR3, hB3, hH3, hg3⟩; injection hv1 with hv1 hv2 hv3 hv4; subst hv1; subst hv2; subst hv3; subst hv4; obtain ⟨⟨d0, d1, d2, d3⟩, ⟨e0, e1, e2, e3⟩, hl2⟩ := boxed2 HW.out hg3; obtain ⟨P3, m3, hc3, _⟩ := hR3)
      have hwW : w.heap.size < W.heap.size := by have := HSW.out; omega
      exact bodyPost_ret (v := .tuple #[.agg #[.int .i64 k, .int .i64 n, .slice A1 b.length c1, .slice B1 l.length d1'], .int .i64 0]) (by simp [results, Tryd.results15, go_sem, d0, d1, d2, d3, hl2]) rfl
        ⟨.inl ⟨k, n, b, l, A1, c1, B1, d1', rfl, rfl, holds_alloc (holds_store hH3 hwW) _⟩, dec_end (dec_below HW.out hg3) _ _ _ _ _⟩
    | cons x r =>
      go_enter Tryd.func15, Tryd.ntmps15
      go_wp2_with (go_at_call 28; change Calls _ _ _ ((w.alloc nilBox).alloc (.cells #[.slice A bs.length c] 54)) _; rw [← hW]; refine ((value_any 16 (Nat.le_refl _) (w.heap.size + 1) w.heap.size bs W hf htW hD hRW).mono fun e w' h => h.yes HP.out).mono ?_; rintro e w3 ⟨k1', n1', b1', l1', A1, c1, B1, d1', hv1, rfl, hR3, hB3, hH3, hg3⟩; injection hv1 with hv1 hv2 hv3 hv4; subst hv1; subst hv2; subst hv3; subst hv4; obtain ⟨⟨d0, d1, d2, d3⟩, ⟨e0, e1, e2, e3⟩, hl2⟩ := boxed2 HW.out hg3; obtain ⟨P3, m3, hc3, _⟩ := hR3)
      exact bodyPost_ret (v := .tuple #[.agg #[.int .i64 0, .int .i64 0, .slice none 0 0, .slice none 0 0], .int .i64 12]) (by simp [results, Tryd.results15, go_sem, d0, d1, d2, d3, hl2]) rfl ⟨.inr ⟨12, by decide, (fun v h => by injection h with h; injection h with h1 h2; cases h2), rfl⟩, dec_end (dec_below HW.out hg3) _ _ _ _ _⟩
end Go.Proofs.YtcahcecohjohpaaDoor
