/- The reader: a value. -/
import Derived.Test.YtcahcecohjohpaaDoorRList
import Derived.Test.YtcahcecohjohpaaDoorFields
namespace Go.Proofs.YtcahcecohjohpaaDoor
open Go.RowKit

theorem HeadPost.got {R D t : Nat} {bs : List Int} {w w' : World} {e : Ending} (h : HeadPost R D t bs w e w') {k : Int} {n : Nat} {r : List Int} (hp : headP t bs = .ok ((k, n), r)) :
    e = .returned (.tuple #[.int .i64 k, .int .i64 n, .int .i64 0]) ∧ Rd R D w' r ∧ w.grownBy w' (some R) := by
  rcases h with ⟨⟨k', n', r', h1, h2, h3⟩ | ⟨er, h1, _⟩, hg⟩
  · rw [hp] at h1
    injection h1 with h1
    injection h1 with h1 h4
    injection h1 with h1 h5
    subst h1; subst h4; subst h5
    exact ⟨h2, h3, hg⟩
  · rw [hp] at h1; cases h1
theorem HeadPost.bad {R D t : Nat} {bs : List Int} {w w' : World} {e : Ending} (h : HeadPost R D t bs w e w') {er : Int} (hp : headP t bs = .error er) :
    er ≠ 0 ∧ e = .returned (.tuple #[.int .i64 0, .int .i64 0, .int .i64 er]) ∧ w.grownBy w' (some R) := by
  rcases h with ⟨⟨k', n', r', h1, _⟩ | ⟨er', h1, h2, h3⟩, hg⟩
  · rw [hp] at h1; cases h1
  · rw [hp] at h1
    injection h1 with h1
    subst h1
    exact ⟨h2, h3, hg⟩
theorem NumPost.yes {bs : List Int} {w w' : World} {e : Ending} (h : NumPost bs w e w') {v : V} (hp : numP bs = .ok v) :
    ∃ N, v = .mk 1 N [] [] ∧ e = .returned (.tuple #[.agg #[.int .i64 1, .int .i64 N, .slice none 0 0, .slice none 0 0], .int .i64 0]) ∧ Below w.heap.size w w' := by
  rcases h with ⟨⟨N, h1, h2⟩ | ⟨er, h1, _⟩, hg⟩
  · rw [hp] at h1
    injection h1 with h1
    exact ⟨N, h1, h2, hg⟩
  · rw [hp] at h1; cases h1
theorem NumPost.no {bs : List Int} {w w' : World} {e : Ending} (h : NumPost bs w e w') {er : Int} (hp : numP bs = .error er) :
    er ≠ 0 ∧ e = .returned (.tuple #[.agg #[.int .i64 0, .int .i64 0, .slice none 0 0, .slice none 0 0], .int .i64 er]) ∧ Below w.heap.size w w' := by
  rcases h with ⟨⟨N, h1, _⟩ | ⟨er', h1, h2, h3⟩, hg⟩
  · rw [hp] at h1; cases h1
  · rw [hp] at h1
    injection h1 with h1
    subst h1
    exact ⟨h2, h3, hg⟩

theorem parse_eq (t : Nat) (bs : List Int) : parse t bs = match headP t bs with
    | .error e => .error e
    | .ok ((k, n), r) => if k = 3 then listP (t - 1) n r else bodyP k n r := by
  cases t with
  | zero =>
    unfold parse
    cases h : headP 0 bs with
    | error e => rfl
    | ok p =>
      obtain ⟨⟨k, n⟩, r⟩ := p
      have hk : k ≠ 3 := by
        unfold headP at h
        intro hk
        subst hk
        split at h
        · cases h
        · simp only at h
          split at h
          · cases h
          · rename_i h1 h2
            split at h
            · cases h
            · split at h
              · cases h
              · injection h with h
                injection h with h
                injection h with h
                exact h2 (.inr (.inr ⟨h, trivial⟩))
      simp only [if_neg hk]
  | succ t =>
    rw [parse]
    cases headP (t + 1) bs with
    | error e => rfl
    | ok p => rfl

theorem box_grown {w W w1 : World} {R : Nat} {o : Obj} (hW : W = w.alloc o) (hg : W.grownBy w1 (some R)) : w.grownBy w1 (some R) := by
  rw [hW] at hg
  exact (World.grownBy_alloc w o (some R)).trans hg
theorem far_below {w1 w2 : World} {R : Nat} (h : Below w1.heap.size w1 w2) : w1.grownBy w2 (some R) := ⟨h.os, h.tape, h.output, h.size, fun k hk _ => h.block k hk⟩

theorem holds_raw {w w2 : World} {lo : Nat} {B : Option Addr} {ys : List Int} {v0 v1 v2 v3 : Value} (h : NumsF lo w2 .u8 B ys) (hlo : w.heap.size < lo) (hb : Byt ys) (hl : ys.length ≤ maxLen) (C : Option Addr) :
    Holds (New w (stored4 w2 w.heap.size v0 v1 v2 v3)) (stored4 w2 w.heap.size v0 v1 v2 v3) (.mk 2 0 ys []) B C := by
  refine .nil (fun hp => ?_) hb hl
  obtain ⟨b, off, he, h1, h2, hc⟩ := h hp
  refine ⟨b, off, he, ⟨by omega, by rw [stored4_size]; exact h2⟩, fun i hi => ?_⟩
  exact (cell_same (stored4_heap w2 w.heap.size b v0 v1 v2 v3 (by omega))).trans (hc i hi)
theorem holds_store {w w1 w2 : World} {v : V} {A B : Option Addr} {v0 v1 v2 v3 : Value} (h : Holds (New w1 w2) w2 v A B) (hlo : w.heap.size < w1.heap.size) :
    Holds (New w (stored4 w2 w.heap.size v0 v1 v2 v3)) (stored4 w2 w.heap.size v0 v1 v2 v3) v A B :=
  (h.keep (w' := stored4 w2 w.heap.size v0 v1 v2 v3) (fun b hb => stored4_heap w2 w.heap.size b v0 v1 v2 v3 (by have := hb.1; omega))).sub (fun b hb => ⟨by have := hb.1; omega, by rw [stored4_size]; exact hb.2⟩)

def nilBox : Obj := .cells #[.int .i64 0, .int .i64 0, .slice none 0 0, .slice none 0 0] 25

/-- What the box at block p holds, and that it may be written. -/
def Boxed (p : Nat) (w : World) : Prop := (w.cell? ⟨p, 0, none⟩ = some (.int .i64 0) ∧ w.cell? ⟨p, 1, none⟩ = some (.int .i64 0) ∧ w.cell? ⟨p, 2, none⟩ = some (.slice none 0 0) ∧ w.cell? ⟨p, 3, none⟩ = some (.slice none 0 0)) ∧ (w.frozen? ⟨p, 0, none⟩ = false ∧ w.frozen? ⟨p, 1, none⟩ = false ∧ w.frozen? ⟨p, 2, none⟩ = false ∧ w.frozen? ⟨p, 3, none⟩ = false) ∧ p < w.heap.size
theorem boxed {w W wr : World} {R : Nat} (hW : W = w.alloc nilBox) (hg : W.grownBy wr (some R)) (hR : R < w.heap.size) : Boxed w.heap.size wr := by
  subst hW
  obtain ⟨h, f⟩ := box_far hg hR
  exact ⟨h, ⟨f 0, f 1, f 2, f 3⟩, Nat.lt_of_lt_of_le (by simp) hg.size⟩

set_option maxHeartbeats 2000000 in
theorem value_step (t : Nat) (ht16 : t ≤ 16) (hl : ∀ (R D n : Nat) (bs : List Int) (w : World), t ≠ 0 → n ≤ 4096 → Fine bs → Tabs w → 1 < D → Rd R D w bs → Calls Tryd.prog 42 #[.pointer (some ⟨R, 0, none⟩), .int .i64 n, .int .i64 ((t : Int) - 1)] w (ReadPost R D (listP (t - 1) n bs) w)) : ValueOK t := by
  intro R D bs w hb ht hD hR
  have hlt := hR.lt
  have h1R : 1 < R := by omega
  have hnew := below_new w nilBox
  obtain ⟨W, hW⟩ : ∃ W, W = w.alloc nilBox := ⟨_, rfl⟩
  have HW := hid hW
  have hRW : Rd R D W bs := by rw [hW]; exact hR.later hnew
  have htW : Tabs W := by rw [hW]; exact ht.stay hnew
  have hsW : W.heap.size = w.heap.size + 1 := by rw [hW]; simp
  have HSW := hid hsW
  have HE := hid (parse_eq t bs)
  cases hp : headP t bs with
  | error er =>
    have HP : Hid (parse t bs = .error er) := hid (by rw [HE.out, hp])
    have HH := hid hp
    clear hp hsW
    go_enter Tryd.func28, Tryd.ntmps28
    go_wp2_with (go_at_call 41; change Calls _ _ _ (w.alloc nilBox) _; rw [← hW]; refine ((rhead_any R D t bs W ht16 hb.1 htW hD hRW).mono fun e w' h => h.bad HH.out).mono ?_; rintro e w1 ⟨he0, rfl, hg1⟩; have hE0 : (er != 0) = true := (by rw [bne_iff_ne]; exact he0); obtain ⟨⟨d0, d1, d2, d3⟩, ⟨e0, e1, e2, e3⟩, hl2⟩ := boxed HW.out hg1 hlt.1)
    exact bodyPost_ret (v := .tuple #[.agg #[.int .i64 0, .int .i64 0, .slice none 0 0, .slice none 0 0], .int .i64 er]) (by simp [results, Tryd.results28, go_sem, d0, d1, d2, d3]) rfl ⟨.inr ⟨er, HP.out, he0, rfl⟩, grow_box HW.out hg1 _ _ _ _⟩
  | ok p =>
    obtain ⟨⟨k, n⟩, r⟩ := p
    obtain ⟨hk, hk3, hnm, hft, hbs⟩ := headP_forth hb.1 hp
    have hbr : Fine r := ⟨fun x hx => hb.1 x (by rw [hbs]; simp [hx]), by have := hb.2; rw [hbs, List.length_append] at this; omega⟩
    by_cases h3 : k = 3
    · subst h3
      have HP : Hid (parse t bs = listP (t - 1) n r) := hid (by rw [HE.out, hp]; simp only [if_pos trivial])
      have HH := hid hp
      have hn : n ≤ 4096 := by rw [show mostP 3 = 4096 from rfl] at hnm; omega
      have ht0 := hk3 rfl
      clear hp hsW hbs hk hk3 hnm hft
      have ht1 : 1 ≤ t := by omega
      cases hq : listP (t - 1) n r with
      | error er =>
        have HQ := hid hq
        clear hq
        go_enter Tryd.func28, Tryd.ntmps28
        go_wp2_with (first
          | (go_at_call 42; refine ((hl R D n r w1 ht0 hn hbr (htW.grown hg1 h1R) hD hR1).mono fun e w' h => h.no HQ.out).mono ?_; rintro e w2 ⟨he0, rfl, hg2⟩; obtain ⟨⟨d0, d1, d2, d3⟩, ⟨e0, e1, e2, e3⟩, hl2⟩ := boxed HW.out (hg1.trans hg2) hlt.1)
          | (go_at_call 41; change Calls _ _ _ (w.alloc nilBox) _; rw [← hW]; refine ((rhead_any R D t bs W ht16 hb.1 htW hD hRW).mono fun e w' h => h.got HH.out).mono ?_; rintro e w1 ⟨rfl, hR1, hg1⟩))
        exact bodyPost_ret (v := .tuple #[.agg #[.int .i64 0, .int .i64 0, .slice none 0 0, .slice none 0 0], .int .i64 er]) (by simp [results, Tryd.results28, go_sem, d0, d1, d2, d3]) rfl ⟨.inr ⟨er, by rw [HP.out, HQ.out], he0, rfl⟩, grow_box HW.out (hg1.trans hg2) _ _ _ _⟩
      | ok p2 =>
        obtain ⟨⟨k1, n1, b1, l1⟩, r2⟩ := p2
        have HQ := hid hq
        clear hq
        go_enter Tryd.func28, Tryd.ntmps28
        go_wp2_with (first
          | (go_at_call 42; refine ((hl R D n r w1 ht0 hn hbr (htW.grown hg1 h1R) hD hR1).mono fun e w' h => h.yes HQ.out).mono ?_; rintro e w2 ⟨k1', n1', b1', l1', A1, c1, B1, d1', hv1, rfl, hR2, hB2, hH2, hg2⟩; injection hv1 with hv1 hv2 hv3 hv4; subst hv1; subst hv2; subst hv3; subst hv4; obtain ⟨⟨d0, d1, d2, d3⟩, ⟨e0, e1, e2, e3⟩, hl2⟩ := boxed HW.out (hg1.trans hg2) hlt.1)
          | (go_at_call 41; change Calls _ _ _ (w.alloc nilBox) _; rw [← hW]; refine ((rhead_any R D t bs W ht16 hb.1 htW hD hRW).mono fun e w' h => h.got HH.out).mono ?_; rintro e w1 ⟨rfl, hR1, hg1⟩))
        have hw1 : w.heap.size < w1.heap.size := by have := hg1.size; have := HSW.out; omega
        exact bodyPost_ret (v := .tuple #[.agg #[.int .i64 k1, .int .i64 n1, .slice A1 b1.length c1, .slice B1 l1.length d1'], .int .i64 0]) (by simp [results, Tryd.results28, go_sem, d0, d1, d2, d3]) rfl
          ⟨.inl ⟨k1, n1, b1, l1, r2, A1, c1, B1, d1', by rw [HP.out, HQ.out], rfl, hR2.stay (stored4_below w2 w.heap.size (R + 1) _ _ _ _ hlt.1), hB2, holds_store hH2 hw1⟩, grow_box HW.out (hg1.trans hg2) _ _ _ _⟩
    · have HP : Hid (parse t bs = bodyP k n r) := hid (by rw [HE.out, hp]; simp only [if_neg h3])
      have HH := hid hp
      clear hp hsW hbs hk3
      by_cases hlen : r.length < n
      · have HQ : Hid (parse t bs = .error 10) := hid (by rw [HP.out, bodyP, if_pos hlen])
        have HLN := hid hlen
        have hk3b : (k == 3) = false := by rw [beq_eq_false_iff_ne]; exact h3
        clear hlen h3 hnm hft hk
        go_enter Tryd.func28, Tryd.ntmps28
        go_wp2_with (first
          | (go_at_call 43; refine (take_no R D r n _ hR1 HLN.out).mono ?_; rintro e w2 ⟨rfl, rfl⟩; obtain ⟨⟨d0, d1, d2, d3⟩, ⟨e0, e1, e2, e3⟩, hl2⟩ := boxed HW.out hg1 hlt.1)
          | (go_at_call 41; change Calls _ _ _ (w.alloc nilBox) _; rw [← hW]; refine ((rhead_any R D t bs W ht16 hb.1 htW hD hRW).mono fun e w' h => h.got HH.out).mono ?_; rintro e w1 ⟨rfl, hR1, hg1⟩))
        exact bodyPost_ret (v := .tuple #[.agg #[.int .i64 0, .int .i64 0, .slice none 0 0, .slice none 0 0], .int .i64 10]) (by simp [results, Tryd.results28, go_sem, d0, d1, d2, d3]) rfl ⟨.inr ⟨10, HQ.out, by decide, rfl⟩, grow_box HW.out hg1 _ _ _ _⟩
      · have HLN : Hid (n ≤ r.length) := hid (by omega)
        have hbt : Byt (r.take n) := fun x hx => hbr.1 x (List.mem_of_mem_take hx)
        have hbd : Fine (r.drop n) := ⟨fun x hx => hbr.1 x (List.mem_of_mem_drop hx), by have := hbr.2; rw [List.length_drop]; omega⟩
        have hrl := hbr.2
        rcases hk with rfl | rfl | rfl
        · have hn8 : n ≤ 8 := by rw [show mostP 1 = 8 from rfl] at hnm; omega
          have HQ : Hid (parse t bs = match numP (r.take n) with | .error e => .error e | .ok v => .ok (v, r.drop n)) := hid (by rw [HP.out, bodyP, if_neg hlen, if_neg (by decide)]; cases numP (r.take n) <;> rfl)
          have HT8 : Hid ((r.take n).length ≤ 8) := hid (by rw [List.length_take]; omega)
          clear hlen h3 hnm hft
          cases hq : numP (r.take n) with
          | error er =>
            have HN2 := hid hq
            have HQ2 : Hid (parse t bs = .error er) := hid (by rw [HQ.out, hq])
            clear hq
            go_enter Tryd.func28, Tryd.ntmps28
            go_wp2_with (first
              | (go_at_call 44; refine ((number_any P m ys _ hy8 hyb (hN.nums hDw)).mono fun e w' h => h.no hyn.out).mono ?_; rintro e w3 ⟨he0, rfl, hb3⟩; obtain ⟨⟨d0, d1, d2, d3⟩, ⟨e0, e1, e2, e3⟩, hl2⟩ := boxed HW.out ((hg1.trans hg2).trans (far_below hb3)) hlt.1)
              | (go_at_call 43; refine (take_yes R D r n _ hR1 HLN.out).mono ?_; rintro e w2 ⟨P, m, ys, rfl, HY, hN, hR2, hg2⟩; have hy8 : ys.length ≤ 8 := (by rw [HY.out]; exact HT8.out); have hyb : Byt ys := (by rw [HY.out]; exact hbt); have hyn : Hid (numP ys = .error er) := hid (by rw [HY.out]; exact HN2.out); have hDw : D ≤ w2.heap.size := (by have := hR2.lt; omega))
              | (go_at_call 41; change Calls _ _ _ (w.alloc nilBox) _; rw [← hW]; refine ((rhead_any R D t bs W ht16 hb.1 htW hD hRW).mono fun e w' h => h.got HH.out).mono ?_; rintro e w1 ⟨rfl, hR1, hg1⟩))
            exact bodyPost_ret (v := .tuple #[.agg #[.int .i64 0, .int .i64 0, .slice none 0 0, .slice none 0 0], .int .i64 er]) (by simp [results, Tryd.results28, go_sem, d0, d1, d2, d3]) rfl ⟨.inr ⟨er, HQ2.out, he0, rfl⟩, grow_box HW.out ((hg1.trans hg2).trans (far_below hb3)) _ _ _ _⟩
          | ok v =>
            have HN2 := hid hq
            have HQ2 : Hid (parse t bs = .ok (v, r.drop n)) := hid (by rw [HQ.out, hq])
            clear hq
            go_enter Tryd.func28, Tryd.ntmps28
            go_wp2_with (first
              | (go_at_call 44; refine ((number_any P m ys _ hy8 hyb (hN.nums hDw)).mono fun e w' h => h.yes hyn.out).mono ?_; rintro e w3 ⟨N, rfl, rfl, hb3⟩; obtain ⟨⟨d0, d1, d2, d3⟩, ⟨e0, e1, e2, e3⟩, hl2⟩ := boxed HW.out ((hg1.trans hg2).trans (far_below hb3)) hlt.1)
              | (go_at_call 43; refine (take_yes R D r n _ hR1 HLN.out).mono ?_; rintro e w2 ⟨P, m, ys, rfl, HY, hN, hR2, hg2⟩; have hy8 : ys.length ≤ 8 := (by rw [HY.out]; exact HT8.out); have hyb : Byt ys := (by rw [HY.out]; exact hbt); have hyn : Hid (numP ys = .ok v) := hid (by rw [HY.out]; exact HN2.out); have hDw : D ≤ w2.heap.size := (by have := hR2.lt; omega))
              | (go_at_call 41; change Calls _ _ _ (w.alloc nilBox) _; rw [← hW]; refine ((rhead_any R D t bs W ht16 hb.1 htW hD hRW).mono fun e w' h => h.got HH.out).mono ?_; rintro e w1 ⟨rfl, hR1, hg1⟩))
            exact bodyPost_ret (v := .tuple #[.agg #[.int .i64 1, .int .i64 N, .slice none 0 0, .slice none 0 0], .int .i64 0]) (by simp [results, Tryd.results28, go_sem, d0, d1, d2, d3]) rfl
              ⟨.inl ⟨1, N, [], [], r.drop n, none, 0, none, 0, HQ2.out, rfl, (hR2.later hb3).stay (stored4_below w3 w.heap.size (R + 1) _ _ _ _ hlt.1), hbd, .nil (fun h => absurd h (by simp)) (fun x hx => by cases hx) (by simp)⟩, grow_box HW.out ((hg1.trans hg2).trans (far_below hb3)) _ _ _ _⟩
        · have HQ : Hid (parse t bs = .ok (.mk 2 0 (r.take n) [], r.drop n)) := hid (by rw [HP.out, bodyP, if_neg hlen, if_pos rfl])
          have HT8 : Hid ((r.take n).length ≤ 2000000) := hid (by rw [List.length_take]; omega)
          clear hlen h3 hnm hft
          go_enter Tryd.func28, Tryd.ntmps28
          go_wp2_with (first
            | (go_at_call 21; refine (raw_any P m ys _ hy8 (hN.nums hDw)).mono ?_; rintro e w3 ⟨B3, d3', ys3, rfl, HY3, hN3, hb3⟩; obtain ⟨⟨d0, d1, d2, d3⟩, ⟨e0, e1, e2, e3⟩, hl2⟩ := boxed HW.out ((hg1.trans hg2).trans (far_below hb3)) hlt.1)
            | (go_at_call 43; refine (take_yes R D r n _ hR1 HLN.out).mono ?_; rintro e w2 ⟨P, m, ys, rfl, HY, hN, hR2, hg2⟩; have hy8 : ys.length ≤ 2000000 := (by rw [HY.out]; exact HT8.out); have hyb : Byt ys := (by rw [HY.out]; exact hbt); have hDw : D ≤ w2.heap.size := (by have := hR2.lt; omega))
            | (go_at_call 41; change Calls _ _ _ (w.alloc nilBox) _; rw [← hW]; refine ((rhead_any R D t bs W ht16 hb.1 htW hD hRW).mono fun e w' h => h.got HH.out).mono ?_; rintro e w1 ⟨rfl, hR1, hg1⟩))
          have hw2 : w.heap.size < w2.heap.size := by have := hg1.size; have := hg2.size; have := HSW.out; omega
          have hy3 : ys3.length ≤ maxLen := by rw [HY3.out]; unfold maxLen; omega
          exact bodyPost_ret (v := .tuple #[.agg #[.int .i64 2, .int .i64 0, .slice B3 ys3.length d3', .slice none 0 0], .int .i64 0]) (by simp [results, Tryd.results28, go_sem, d0, d1, d2, d3]) rfl
            ⟨.inl ⟨2, 0, ys3, [], r.drop n, B3, d3', none, 0, by rw [HQ.out, HY3.out, HY.out], rfl, (hR2.later hb3).stay (stored4_below w3 w.heap.size (R + 1) _ _ _ _ hlt.1), hbd, holds_raw hN3 hw2 (by rw [HY3.out]; exact hyb) hy3 _⟩, grow_box HW.out ((hg1.trans hg2).trans (far_below hb3)) _ _ _ _⟩
        · exact absurd rfl h3

theorem value_any : ∀ t : Nat, t ≤ 16 → ValueOK t
  | 0, _ => value_step 0 (by omega) fun _ _ _ _ _ h => absurd rfl h
  | t + 1, h => value_step (t + 1) h fun R D n bs w _ hn hb ht hD hR => by
    have e : (((t + 1 : Nat) : Int) - 1) = (t : Int) := by omega
    rw [e]
    exact rlist_any t (value_any t (by omega)) R D n bs w hn hb ht hD hR
end Go.Proofs.YtcahcecohjohpaaDoor
