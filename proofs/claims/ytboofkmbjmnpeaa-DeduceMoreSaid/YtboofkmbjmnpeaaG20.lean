/- Texts of this proof, laid together: DMd, DAwake. -/
import Derived.Test.YtboofkmbjmnpeaaG19
import Derived.Test.YtboofkmbjmnpeaaTRTextM
/- A store that things were done to, and its terms. -/
namespace Go.Proofs.Ytboofkmbjmnpeaa
open Go Go.RowKit Go.Maps

theorem WF.app {L : List T3} {t : T3} (h : WF L) (ht : t.1 = 1 ∨ t.1 = 9 ∨ (isOne t.1 = true ∧ 0 ≤ t.2.1 ∧ t.2.1 < L.length) ∨
    (isTwo t.1 = true ∧ 0 ≤ t.2.1 ∧ t.2.1 < L.length ∧ 0 ≤ t.2.2 ∧ t.2.2 < L.length ∧ (t.1 = 4 → ∃ u, L[t.2.1.toNat]? = some u ∧ 0 ≤ u.2.1 ∧ u.2.1 < t.2.1))) : WF (L ++ [t]) := fun i s hs => by
  have look : ∀ (s : T3), (s.1 = 4 → ∃ u, L[s.2.1.toNat]? = some u ∧ 0 ≤ u.2.1 ∧ u.2.1 < s.2.1) → (s.1 = 4 → ∃ u, (L ++ [t])[s.2.1.toNat]? = some u ∧ 0 ≤ u.2.1 ∧ u.2.1 < s.2.1) := fun s hs h4 => by
    obtain ⟨u, hu, h1⟩ := hs h4
    exact ⟨u, get_old hu, h1⟩
  rcases get_app hs with h1 | ⟨rfl, rfl⟩
  · rcases h i s h1 with h2 | h2 | h2 | ⟨h2, h3, h4, h5, h6, h7⟩
    · exact .inl h2
    · exact .inr (.inl h2)
    · exact .inr (.inr (.inl h2))
    · exact .inr (.inr (.inr ⟨h2, h3, h4, h5, h6, look s h7⟩))
  · rcases ht with h2 | h2 | h2 | ⟨h2, h3, h4, h5, h6, h7⟩
    · exact .inl h2
    · exact .inr (.inl h2)
    · exact .inr (.inr (.inl h2))
    · exact .inr (.inr (.inr ⟨h2, h3, h4, h5, h6, look s h7⟩))
theorem WF.put {L : List T3} {x : Nat} {t : T3} (h : WF L) (hm : mayB L x t = true) : WF (L ++ [t]) := by
  have hw := (may_wf hm).1
  refine h.app ?_
  rcases hw with ⟨h1, _⟩ | ⟨h1, h2, h3, _⟩ | ⟨h1, h2, h3, h4, h5⟩ | ⟨h1, _⟩
  · exact .inl h1
  · refine .inr (.inr (.inl ⟨?_, h2, h3⟩))
    simp only [isOne, Bool.or_eq_true, beq_iff_eq]
    omega
  · refine .inr (.inr (.inr ⟨?_, h2, h3, h4, h5, fun h6 => ?_⟩))
    · simp only [isTwo, Bool.or_eq_true, beq_iff_eq]
      omega
    · unfold mayB at hm
      rw [if_neg (by omega), if_neg (by omega), if_pos h6, Bool.and_eq_true] at hm
      have hb := hm.1
      have hl : t.2.1.toNat < L.length := by omega
      refine ⟨L[t.2.1.toNat], by simp [hl], ?_⟩
      have hk : L[t.2.1.toNat].1 = 2 := by
        have h7 := (of_decide_eq_true hb).2.2
        simpa [hl] using h7
      have hu : L[t.2.1.toNat]? = some L[t.2.1.toNat] := by simp [hl]
      have := (wf_refs h hu).1 (by rw [hk]; rfl)
      omega
  · exact .inr (.inl h1)
theorem putR_wf {L L' : List T3} {x : Nat} {t : T3} {n e : Int} (h : WF L) (hR : PutR L x t n e L') : WF L' := by
  rcases hR with ⟨_, _, _, rfl⟩ | ⟨_, _, _, _, _, rfl⟩ | ⟨hm, _, _, _, rfl⟩
  · exact h
  · exact h
  · exact h.put hm
theorem drawR_wf {L L' : List T3} {s n e : Int} (h : WF L) (hR : DrawR L s n e L') : WF L' := by
  rcases hR with ⟨_, _, _, rfl⟩ | ⟨_, _, _, _, rfl⟩ | ⟨_, _, _, _, _, _, _, _, rfl⟩
  · exact h
  · exact h
  · exact h.app (.inl rfl)
theorem textR_wf {L L' : List T3} {X X' : List (List Int)} {x : List Int} {n : Int} (h : WF L) (hR : TextR L X x n L' X') : WF L' := by
  rcases hR with ⟨_, _, _, _, _, rfl, rfl⟩ | ⟨_, _, rfl, rfl⟩
  · exact h
  · exact h.app (.inr (.inl rfl))
/-- What holds between the rounds. -/
structure MadeI (p q k : Nat) (L : List T3) (X : List (List Int)) (w wr : World) : Prop where
  nL : L.length ≤ k
  nX : X.length ≤ k
  wf : WF L
  both : Both w.heap.size (fun b => w.heap.size ≤ b) wr p q L X
  bel : Below w.heap.size w wr
section
variable {p q k : Nat} {L L' : List T3} {X X' : List (List Int)} {w wr w' : World}
theorem MadeI.next (h : MadeI p q k L X w wr) (hb : Below wr.heap.size wr w') : MadeI p q k L X w w' := ⟨h.nL, h.nX, h.wf, h.both.next hb, h.bel.trans (Below.mono hb h.bel.size)⟩
theorem MadeI.up (h : MadeI p q k L X w wr) : MadeI p q (k + 1) L X w wr := ⟨Nat.le_succ_of_le h.nL, Nat.le_succ_of_le h.nX, h.wf, h.both, h.bel⟩
theorem MadeI.step (h : MadeI p q k L X w wr) (hL : L'.length ≤ L.length + 1) (hX : X'.length ≤ X.length + 1) (hW : WF L') (hB : Both w.heap.size (fun b => w.heap.size ≤ b) w' p q L' X') (hc : Chg (fun b => w.heap.size ≤ b) wr w') : MadeI p q (k + 1) L' X' w w' :=
  ⟨by have := h.nL; omega, by have := h.nX; omega, hW, hB, h.bel.trans (hc.below h.bel.size (fun b e => e))⟩
end
/-- What Made hands back. -/
def MadeQ (w : World) (e : Ending) (w' : World) : Prop :=
  ∃ p AL cL L X Fc, e = .returned (.tuple #[.pointer (some ⟨p, 0, none⟩), .slice AL L.length cL]) ∧ CS Fc w' p L X ∧ (∀ b, Fc b → w.heap.size ≤ b ∧ b < w'.heap.size) ∧ WF L ∧ L.length ≤ 30 ∧ TRow w' AL L ∧ Below w.heap.size w w'
theorem MadeI.done {p q k : Nat} {L : List T3} {X : List (List Int)} {w wr : World} (h : MadeI p q k L X w wr) (hk : k ≤ 30) : ∃ AL cL, wr.cell? ⟨q, 0, none⟩ = some (.slice AL L.length cL) ∧ ∀ w', Below wr.heap.size wr w' → MadeQ w (.returned (.tuple #[.pointer (some ⟨p, 0, none⟩), .slice AL L.length cL])) w' := by
  obtain ⟨Fc, Fr, hC, hR, _, h4, _⟩ := h.both
  obtain ⟨AL, cL, _, _, r0, _, hAL, _⟩ := hR.cells
  exact ⟨AL, cL, r0, fun w' hb => ⟨p, AL, cL, L, X, Fc, rfl, hC.next hb, fun b hb2 => ⟨(h4 b hb2).2, Nat.lt_of_lt_of_le (h4 b hb2).1 hb.size⟩, h.wf, Nat.le_trans h.nL hk, hAL.below hb, h.bel.trans (Below.mono hb h.bel.size)⟩⟩
/-- What two calls leave, one behind the other. -/
def Two (f g : FuncId) (u v : Array Value) (d : DoV) (p q k bx : Nat) (w : World) (W : World) : Prop :=
  Calls Try.prog f u W fun e w1 => (∃ r, e = .returned r) ∧ Blk w1 bx 66 d.cells ∧ Calls Try.prog g v w1 fun e w2 => (∃ r, e = .returned r) ∧ ∃ L' X', MadeI p q (k + 1) L' X' w w2
section
variable {p q k : Nat} {L : List T3} {X : List (List Int)} {w wr W : World} {d : DoV}
theorem made_put (h : MadeI p q k L X w wr) (hb0 : Below wr.heap.size wr W) (hB : Blk W wr.heap.size 66 d.cells) (ht : Twf d.t) (hL : L.length ≤ 39) : Two 23 27 #[.pointer (some ⟨p, 0, none⟩), tv d.t] #[.pointer (some ⟨q, 0, none⟩), tv d.t] d p q k wr.heap.size w W := by
  obtain ⟨Fc, Fr, hC, hR, h3, h4, h5⟩ := h.both
  obtain ⟨nx, DN, DI, hP⟩ := hC.pure
  have hLw : ∀ (i : Nat) u, L[i]? = some u → Twf u := fun i u hi => (hP.wf i u hi).1
  have h4W : ∀ b, Fc b → b < W.heap.size ∧ w.heap.size ≤ b := fun b hb => ⟨Nat.lt_of_lt_of_le (h4 b hb).1 hb0.size, (h4 b hb).2⟩
  have h5W : ∀ b, Fr b → b < W.heap.size ∧ w.heap.size ≤ b := fun b hb => ⟨Nat.lt_of_lt_of_le (h5 b hb).1 hb0.size, (h5 b hb).2⟩
  refine (put_any Fc p L X d.t W (hC.next hb0) ht hL).mono ?_
  rintro e w1 ⟨n1, r1, L1, rfl, hR1, hC1, hG1⟩
  refine ⟨⟨_, rfl⟩, hB.chg hG1 (fun hf => absurd (h4 _ hf).1 (Nat.lt_irrefl _)), ?_⟩
  refine (rput_any w.heap.size Fr q L X d.t w1 ((hR.next hb0).chg hG1 (fun b hf hc => h3 b hc hf) (fun b hf => (h4 b hf).2)) ht hL hLw hP.nd).mono ?_
  rintro e w2 ⟨n2, r2, L2, rfl, hR2, hC2, hG2⟩
  obtain ⟨rfl, rfl, rfl⟩ := putR_eq hP.nd hR1 hR2
  have hS := Both.step h3 h4W h5W (fun b hb => Nat.le_trans (h.next hb0).bel.size hb) (fun b hb => hb) hC1 hG1 hC2 hG2
  exact ⟨⟨_, rfl⟩, L1, X, (h.next hb0).step (putR_len hR1) (Nat.le_succ _) (putR_wf h.wf hR1) hS.1 hS.2⟩
theorem made_draw (h : MadeI p q k L X w wr) (hb0 : Below wr.heap.size wr W) (hB : Blk W wr.heap.size 66 d.cells) (hL : L.length ≤ 39) (hX : X.length ≤ 39) : Two 22 28 #[.pointer (some ⟨p, 0, none⟩), .int .i64 d.num] #[.pointer (some ⟨q, 0, none⟩), .int .i64 d.num] d p q k wr.heap.size w W := by
  obtain ⟨Fc, Fr, hC, hR, h3, h4, h5⟩ := h.both
  obtain ⟨nx, DN, DI, hP⟩ := hC.pure
  have h4W : ∀ b, Fc b → b < W.heap.size ∧ w.heap.size ≤ b := fun b hb => ⟨Nat.lt_of_lt_of_le (h4 b hb).1 hb0.size, (h4 b hb).2⟩
  have h5W : ∀ b, Fr b → b < W.heap.size ∧ w.heap.size ≤ b := fun b hb => ⟨Nat.lt_of_lt_of_le (h5 b hb).1 hb0.size, (h5 b hb).2⟩
  refine (draw_any Fc p L X d.num W (hC.next hb0) hL (by omega)).mono ?_
  rintro e w1 ⟨n1, r1, L1, rfl, hR1, hC1, hG1⟩
  refine ⟨⟨_, rfl⟩, hB.chg hG1 (fun hf => absurd (h4 _ hf).1 (Nat.lt_irrefl _)), ?_⟩
  refine (rdraw_any w.heap.size Fr q L X d.num w1 ((hR.next hb0).chg hG1 (fun b hf hc => h3 b hc hf) (fun b hf => (h4 b hf).2)) hL).mono ?_
  rintro e w2 ⟨n2, r2, L2, rfl, hR2, hC2, hG2⟩
  obtain ⟨rfl, rfl, rfl⟩ := drawR_eq hR1 hR2
  have hS := Both.step h3 h4W h5W (fun b hb => Nat.le_trans (h.next hb0).bel.size hb) (fun b hb => hb) hC1 hG1 hC2 hG2
  exact ⟨⟨_, rfl⟩, L1, X, (h.next hb0).step (drawR_len hR1) (Nat.le_succ _) (drawR_wf h.wf hR1) hS.1 hS.2⟩
theorem made_text (h : MadeI p q k L X w wr) (hb0 : Below wr.heap.size wr W) (hB : Blk W wr.heap.size 66 d.cells) (hx : TByt d.x) (hx2 : d.x.length ≤ 100) (hA : NumsD w.heap.size wr .u8 d.A d.x) (hL : L.length ≤ 39) (hX : X.length ≤ 39) : Two 29 30 #[.pointer (some ⟨p, 0, none⟩), .slice d.A d.x.length d.c] #[.pointer (some ⟨q, 0, none⟩), .slice d.A d.x.length d.c] d p q k wr.heap.size w W := by
  obtain ⟨Fc, Fr, hC, hR, h3, h4, h5⟩ := h.both
  obtain ⟨nx, DN, DI, hP⟩ := hC.pure
  have hLw : ∀ (i : Nat) u, L[i]? = some u → Twf u := fun i u hi => (hP.wf i u hi).1
  have h4W : ∀ b, Fc b → b < W.heap.size ∧ w.heap.size ≤ b := fun b hb => ⟨Nat.lt_of_lt_of_le (h4 b hb).1 hb0.size, (h4 b hb).2⟩
  have h5W : ∀ b, Fr b → b < W.heap.size ∧ w.heap.size ≤ b := fun b hb => ⟨Nat.lt_of_lt_of_le (h5 b hb).1 hb0.size, (h5 b hb).2⟩
  have hBW : w.heap.size ≤ W.heap.size := (h.next hb0).bel.size
  have hA0 := hA.stay (Below.mono hb0 h.bel.size)
  refine (text_any Fc p L X d.A d.c d.x W (hC.next hb0) hx hx2 (hA0.nums hBW) (hA0.apart (fun b hb => (h4 b hb).2)) hL (by omega)).mono ?_
  rintro e w1 ⟨n1, L1, X1, rfl, hR1, hC1, hG1⟩
  refine ⟨⟨_, rfl⟩, hB.chg hG1 (fun hf => absurd (h4 _ hf).1 (Nat.lt_irrefl _)), ?_⟩
  refine (rtext_any w.heap.size Fr q L X d.A d.c d.x w1 ((hR.next hb0).chg hG1 (fun b hf hc => h3 b hc hf) (fun b hf => (h4 b hf).2)) hx2 (fun y hy => (hP.xb y hy).2) (hA0.stay (hG1.below hBW (fun b hf => (h4 b hf).2))) hL hX hLw hP.tx).mono ?_
  rintro e w2 ⟨n2, L2, X2, rfl, hR2, hC2, hG2⟩
  obtain ⟨rfl, rfl, rfl⟩ := textR_eq hP.nd hP.xn hR1 hR2
  have hS := Both.step h3 h4W h5W (fun b hb => Nat.le_trans (h.next hb0).bel.size hb) (fun b hb => hb) hC1 hG1 hC2 hG2
  exact ⟨⟨_, rfl⟩, L1, X1, (h.next hb0).step (textR_len hR1).1 (textR_len hR1).2 (textR_wf h.wf hR1) hS.1 hS.2⟩
end
set_option maxRecDepth 50000 in
set_option maxHeartbeats 8000000 in
theorem made_any (n c : Nat) (A : Option Addr) (ds : List DoV) (w : World) (hn : ds.length = n) (hn30 : n ≤ 30) (hA : DoRow w.heap.size w A ds) (hx100 : ∀ d ∈ ds, d.x.length ≤ 100) :
    Calls Try.prog 9 #[.slice A n c] w (MadeQ w) := by
  have hn2 : (n : Int) ≤ 30 := by omega
  go_enter Try.func9, Try.ntmps9
  go_upto_region 2 with (go_at_call 21; refine (new_cs _).mono ?_; rintro e w4 ⟨rfl, hb4, hC4⟩)
  obtain ⟨W5, hW5⟩ : ∃ W, w4.alloc (.cells #[.slice none 0 0, .slice none 0 0] 70) = W := ⟨_, rfl⟩
  try rw [hW5]
  obtain ⟨p, q, hp, hq, hI⟩ : ∃ p q, w.heap.size + 2 = p ∧ w4.heap.size = q ∧ MadeI p q 0 [] [] w W5 := by
    have hb5 : Below w4.heap.size w4 W5 := by rw [← hW5]; exact below_new w4 _
    have hB5 : Blk W5 w4.heap.size 70 [.slice none 0 0, .slice none 0 0] := by rw [← hW5]; exact Blk.new w4 70 [.slice none 0 0, .slice none 0 0]
    have s4 := hb4.size
    refine ⟨_, _, rfl, rfl, Nat.le_refl _, Nat.le_refl _, fun i t h => by simp at h, ⟨_, _, hC4.next hb5, (rnew hB5 s4 : RS w.heap.size _ W5 w4.heap.size [] []), fun b h1 h2 => ?_, fun b h1 => ⟨?_, h1.1⟩, fun b h1 => ⟨?_, ?_⟩⟩, hb4.trans (Below.mono hb5 s4)⟩
    · have e1 := h1.2; have e2 : b = w4.heap.size := h2; omega
    · exact Nat.lt_of_lt_of_le h1.2 hb5.size
    · have := Blk.lt hB5; subst h1; exact this
    · have h1 : b = w4.heap.size := h1
      show w.heap.size ≤ b
      omega
  rw [hp, hq]
  have HN := hid hn
  clear hW5 hp hq hb4 hC4 hn
  go_wp2
  go_loopw [13] (fun v wr => ∃ (k : Nat) (L : List T3) (X : List (List Int)), k ≤ n ∧ v = .int .i64 k ∧ MadeI p q k L X w wr) (fun v _ => n - (intOf v).toNat)
  case atStart => exact ⟨0, [], [], Nat.zero_le _, rfl, hI⟩
  case round =>
    clear hI
    obtain ⟨k, L, X, hk, rfl, hI⟩ := hrel
    by_cases hlt : k < n
    · obtain ⟨d, hd⟩ : ∃ d, ds[k]? = some d := ⟨ds[k]'(by rw [HN.out]; exact hlt), by simp [HN.out, hlt]⟩
      have hA1 := hA.next hI.bel
      obtain ⟨⟨g, o, rfl, hg, hr⟩, hdt, hdn, hdx, hdA⟩ := hA1 k d hd
      have hx2 := hx100 d (List.mem_of_getElem? hd)
      have r0 := hr 0 _ rfl
      have r1 := hr 1 _ rfl
      have r2 := hr 2 _ rfl
      have r3 := hr 3 _ rfl
      have r4 := hr 4 _ rfl
      have r5 := hr 5 _ rfl
      simp only [Nat.add_zero] at r0
      obtain ⟨W, hW7, hB, hb0⟩ := do_world d wr
      have hkn : (k : Int) < n := by omega
      have hk0 : (0 : Int) ≤ k := by omega
      have hk1 : k + 1 ≤ n := by omega
      have hI0 := hI.next hb0
      have HW7 := hid hW7
      have hL39 : L.length ≤ 39 := by have := hI.nL; omega
      have hX39 : X.length ≤ 39 := by have := hI.nX; omega
      by_cases h1 : d.kind = 1
      · have HT := hid (made_put hI hb0 hB hdt hL39)
        unfold Two tv at HT
        have y0 := hB.cell (i := 0) rfl
        have y2 := hB.cell (i := 2) rfl
        have y3 := hB.cell (i := 3) rfl
        have y4 := hB.cell (i := 4) rfl
        rw [h1] at y0
        clear hI hI0 hB hb0 hA hA1 hdA hdt hdn hdx hr hd hx2 hx100 hW7 h1 hlt hk hL39 hX39
        go_upto_region 5 with (fail)
        rw [HW7.out]
        clear r0 r1 r2 r3 r4 r5 HW7
        go_upto_region 8 with (go_at_call 23; refine HT.out.mono ?_; rintro e w1 ⟨⟨v, rfl⟩, hB1, hc2⟩)
        have HC2 := hid hc2
        have z2 := hB1.cell (i := 2) rfl
        have z3 := hB1.cell (i := 3) rfl
        have z4 := hB1.cell (i := 4) rfl
        clear hc2 HT y0 y2 y3 y4 hB1
        go_wp2_with (go_at_call 27; refine HC2.out.mono ?_; rintro e w2 ⟨⟨v2, rfl⟩, L', X', hI2⟩)
        go_roundw
        case rel => exact ⟨k + 1, L', X', hk1, by go_num, hI2⟩
        case measure => simp [intOf]; omega
      by_cases h2 : d.kind = 2
      · have HT := hid (made_draw hI hb0 hB hL39 hX39)
        unfold Two at HT
        have y0 := hB.cell (i := 0) rfl
        have y1 := hB.cell (i := 1) rfl
        rw [h2] at y0
        clear hI hI0 hB hb0 hA hA1 hdA hdt hdn hdx hr hd hx2 hx100 hW7 h1 h2 hlt hk hL39 hX39
        go_upto_region 5 with (fail)
        rw [HW7.out]
        clear r0 r1 r2 r3 r4 r5 HW7
        go_upto_region 11 with (go_at_call 22; refine HT.out.mono ?_; rintro e w1 ⟨⟨v, rfl⟩, hB1, hc2⟩)
        have HC2 := hid hc2
        have z1 := hB1.cell (i := 1) rfl
        clear hc2 HT y0 y1 hB1
        go_wp2_with (go_at_call 28; refine HC2.out.mono ?_; rintro e w2 ⟨⟨v2, rfl⟩, L', X', hI2⟩)
        go_roundw
        case rel => exact ⟨k + 1, L', X', hk1, by go_num, hI2⟩
        case measure => simp [intOf]; omega
      by_cases h3 : d.kind = 3
      · have HT := hid (made_text hI hb0 hB hdx hx2 hdA hL39 hX39)
        unfold Two at HT
        have y0 := hB.cell (i := 0) rfl
        have y5 := hB.cell (i := 5) rfl
        rw [h3] at y0
        clear hI hI0 hB hb0 hA hA1 hdA hdt hdn hdx hr hd hx2 hx100 hW7 h1 h2 h3 hlt hk hL39 hX39
        go_upto_region 5 with (fail)
        rw [HW7.out]
        clear r0 r1 r2 r3 r4 r5 HW7
        go_upto_region 14 with (go_at_call 29; refine HT.out.mono ?_; rintro e w1 ⟨⟨v, rfl⟩, hB1, hc2⟩)
        have HC2 := hid hc2
        have z5 := hB1.cell (i := 5) rfl
        clear hc2 HT y0 y5 hB1
        go_wp2_with (go_at_call 30; refine HC2.out.mono ?_; rintro e w2 ⟨⟨v2, rfl⟩, L', X', hI2⟩)
        go_roundw
        case rel => exact ⟨k + 1, L', X', hk1, by go_num, hI2⟩
        case measure => simp [intOf]; omega
      · have y0 := hB.cell (i := 0) rfl
        have e1 : (d.kind == 1) = false := beq_false_of_ne h1
        have e2 : (d.kind == 2) = false := beq_false_of_ne h2
        have e3 : (d.kind == 3) = false := beq_false_of_ne h3
        have HI := hid hI0.up
        clear hI hI0 hB hb0 hA hA1 hdA hdt hdn hdx hr hd hx2 hx100 hW7 h1 h2 h3 hlt hk hL39 hX39
        go_upto_region 5 with (fail)
        rw [HW7.out]
        clear r0 r1 r2 r3 r4 r5 HW7
        go_wp2
        go_roundw
        case rel => exact ⟨k + 1, L, X, hk1, by go_num, HI.out⟩
        case measure => simp [intOf]; omega
    · have e : k = n := by omega
      subst e
      obtain ⟨AL, cL, r0, hQ⟩ := hI.done hn30
      have HQ := hid hQ
      clear hQ hk hlt hA hx100
      go_upto_region 16 with (fail)
      go_quiet (fail)
      go_wp2
      go_ret2
      exact HQ.out _ (below_drewN (Below.refl _ _) _)
end Go.Proofs.Ytboofkmbjmnpeaa

/- The chapter's example. -/
namespace Go.Proofs.Ytboofkmbjmnpeaa
open Go Go.RowKit Go.Maps

def T0 : List T3 := [(1, 2, 0), (1, 3, 0), (5, 0, 1)]
theorem T0_at {i : Nat} {t : T3} (h : T0[i]? = some t) : (i = 0 ∧ t = (1, 2, 0)) ∨ (i = 1 ∧ t = (1, 3, 0)) ∨ (i = 2 ∧ t = (5, 0, 1)) := by
  match i, h with
  | 0, h => exact .inl ⟨rfl, (Option.some.inj h).symm⟩
  | 1, h => exact .inr (.inl ⟨rfl, (Option.some.inj h).symm⟩)
  | 2, h => exact .inr (.inr ⟨rfl, (Option.some.inj h).symm⟩)
  | n + 3, h => simp [T0] at h
theorem T0_wf : WF T0 := fun i t h => by
  rcases T0_at h with ⟨rfl, rfl⟩ | ⟨rfl, rfl⟩ | ⟨rfl, rfl⟩
  · exact .inl rfl
  · exact .inl rfl
  · exact .inr (.inr (.inr ⟨rfl, by decide, by decide, by decide, by decide, fun h => by cases h⟩))
theorem T0_one : Least T0 (Gv [2]) (fun i => i == 2) (fun i => i == 2) := by
  refine ⟨⟨fun i hi => ?_, fun i hi => hi, fun i t ht hm => ?_, fun i t ht hk hs => ?_⟩, fun k' c' hc => ⟨fun i hi => ?_, fun i hi => ?_⟩⟩
  · simp only [Gv, List.mem_singleton] at hi
    simp only [beq_iff_eq]; omega
  · rcases T0_at ht with ⟨rfl, rfl⟩ | ⟨rfl, rfl⟩ | ⟨rfl, rfl⟩
    · exact absurd hm (by decide)
    · exact absurd hm (by decide)
    · rfl
  · rcases T0_at ht with ⟨rfl, rfl⟩ | ⟨rfl, rfl⟩ | ⟨rfl, rfl⟩
    · exact absurd hk (by decide)
    · exact absurd hk (by decide)
    · exact absurd hs (by decide)
  · obtain rfl : i = 2 := by simpa using hi
    exact hc.giv 2 (by simp [Gv])
  · obtain rfl : i = 2 := by simpa using hi
    exact hc.kc 2 (hc.giv 2 (by simp [Gv]))
theorem T0_two : Least T0 (Gv [2, 0]) (fun i => decide (i < 3)) (fun i => decide (i < 3)) := by
  have key : ∀ k' c', Closed T0 (Gv [2, 0]) k' c' → ∀ i, i < 3 → k' i = true := fun k' c' hc i hi => by
    have h0 : k' 0 = true := hc.giv 0 (by simp [Gv])
    have h2 : k' 2 = true := hc.giv 2 (by simp [Gv])
    have h1 : k' 1 = true := hc.sh 2 (5, 0, 1) rfl h2 (by
      have : c' 0 = true := hc.kc 0 h0
      simp [shB, keyOf3, this])
    match i, hi with
    | 0, _ => exact h0
    | 1, _ => exact h1
    | 2, _ => exact h2
  refine ⟨⟨fun i hi => ?_, fun i hi => hi, fun i t ht _ => ?_, fun i t ht _ _ => ?_⟩, fun k' c' hc => ⟨fun i hi => key k' c' hc i (by simpa using hi), fun i hi => hc.kc i (key k' c' hc i (by simpa using hi))⟩⟩
  · simp only [Gv, List.mem_cons, List.mem_nil_iff, or_false] at hi
    simp only [decide_eq_true_eq]; omega
  · rcases T0_at ht with ⟨rfl, rfl⟩ | ⟨rfl, rfl⟩ | ⟨rfl, rfl⟩ <;> rfl
  · rcases T0_at ht with ⟨rfl, rfl⟩ | ⟨rfl, rfl⟩ | ⟨rfl, rfl⟩ <;> rfl
theorem draw_first {L' : List T3} {n e : Int} (h : DrawR [] 2 n e L') : n = 0 ∧ L' = [(1, 2, 0)] := by
  rcases h with ⟨h1, _⟩ | ⟨_, ⟨i, b, h1, _⟩, _⟩ | ⟨_, v, _, h2, _, _, h3, _, rfl⟩
  · exact absurd (by omega) h1
  · simp at h1
  · obtain rfl : v = 0 := by
      rcases h2 with h | ⟨i, h⟩
      · exact h
      · simp at h
    exact ⟨by simpa using h3, rfl⟩
theorem draw_second {L' : List T3} {n e : Int} (h : DrawR [(1, 2, 0)] 3 n e L') : n = 1 ∧ L' = [(1, 2, 0), (1, 3, 0)] := by
  have no : ∀ (i : Nat) (b : Int), [((1, 2, 0) : T3)][i]? ≠ some (1, 3, b) := fun i b h => by
    match i, h with
    | 0, h => simp at h
    | n + 1, h => simp at h
  rcases h with ⟨h1, _⟩ | ⟨_, ⟨i, b, h1, _⟩, _⟩ | ⟨_, v, _, h2, _, _, h3, _, rfl⟩
  · exact absurd (by omega) h1
  · exact absurd h1 (no i b)
  · obtain rfl : v = 0 := by
      rcases h2 with h | ⟨i, h⟩
      · exact h
      · exact absurd h (no i _)
    exact ⟨by simpa using h3, rfl⟩
theorem put_third {L' : List T3} {n e : Int} {x : Nat} (h : PutR [(1, 2, 0), (1, 3, 0)] x (5, 0, 1) n e L') : n = 2 ∧ L' = T0 := by
  rcases h with ⟨h1, _⟩ | ⟨_, i, h1, _⟩ | ⟨_, _, h1, _, rfl⟩
  · exact absurd h1 (by simp [mayB, hasB])
  · match i, h1 with
    | 0, h => simp at h
    | 1, h => simp at h
    | n + 2, h => simp at h
  · exact ⟨by simpa using h1, rfl⟩
theorem fromQ_yes {L : List T3} {gs : List Int} {w w' : World} {e : Ending} (hr : ∀ x ∈ gs, 0 ≤ x ∧ x < L.length)
    (h : Below w.heap.size w w' ∧ (((∀ x ∈ gs, 0 ≤ x ∧ x < L.length) ∧ ∃ pk, e = .returned (.tuple #[.pointer (some ⟨pk, 0, none⟩), .int .i64 0]) ∧ ∃ A c F, KR L (Gv gs) w' pk A c F ∧ ∀ b, kfoot pk A F b → w.heap.size ≤ b) ∨ (¬ (∀ x ∈ gs, 0 ≤ x ∧ x < L.length) ∧ e = .returned (.tuple #[.pointer none, .int .i64 2])))) :
    ∃ pk A c F, e = .returned (.tuple #[.pointer (some ⟨pk, 0, none⟩), .int .i64 0]) ∧ KR L (Gv gs) w' pk A c F ∧ (∀ b, kfoot pk A F b → w.heap.size ≤ b) ∧ Below w.heap.size w w' := by
  rcases h.2 with ⟨_, pk, he, A, c, F, h1, h2⟩ | ⟨h1, _⟩
  · exact ⟨pk, A, c, F, he, h1, h2, h.1⟩
  · exact absurd hr h1
set_option maxRecDepth 50000 in
set_option maxHeartbeats 4000000 in
theorem dawake_any (w : World) : Calls Try.prog 6 #[] w fun e w' => e = .returned (.bool true) ∧ Below w.heap.size w w' := by
  go_enter Try.func6, Try.ntmps6
  go_upto_region 2 with (go_at_call 21; refine (new_cs _).mono ?_; rintro e w1 ⟨rfl, hb1, hC1⟩)
  obtain ⟨p, hp⟩ : ∃ p, w.heap.size + 2 = p := ⟨_, rfl⟩
  rw [hp] at hC1 ⊢
  clear hp
  go_upto_region 3 with (go_at_call 22; refine (draw_any _ p [] [] 2 w1 hC1 (by simp) (by simp)).mono ?_; rintro e w2 ⟨n1, e1, L1, rfl, hR1, hC2, hG2⟩)
  obtain ⟨rfl, rfl⟩ := draw_first hR1
  have hb2 : Below w.heap.size w w2 := hb1.trans (hG2.below hb1.size (fun b e => e.1))
  obtain ⟨Fp2, hF2⟩ : ∃ Fp2 : Nat → Prop, (Grw (fun b => w.heap.size ≤ b ∧ b < w1.heap.size) w1 w2) = Fp2 := ⟨_, rfl⟩
  have hFg2 : ∀ b, Fp2 b → w.heap.size ≤ b := fun b hb => by
    rw [← hF2] at hb
    rcases hb with h | h
    · exact h.1
    · have := hb1.size; omega
  rw [hF2] at hC2
  clear hR1 hC1 hG2 hF2 hb1
  go_upto_region 4 with (go_at_call 22; refine (draw_any _ p _ [] 3 w2 hC2 (by simp) (by simp)).mono ?_; rintro e w3 ⟨n2, e2, L2, rfl, hR2, hC3, hG3⟩)
  obtain ⟨rfl, rfl⟩ := draw_second hR2
  have hb3 : Below w.heap.size w w3 := hb2.trans (hG3.below hb2.size hFg2)
  obtain ⟨Fp3, hF3⟩ : ∃ Fp3 : Nat → Prop, (Grw Fp2 w2 w3) = Fp3 := ⟨_, rfl⟩
  have hFg3 : ∀ b, Fp3 b → w.heap.size ≤ b := fun b hb => by
    rw [← hF3] at hb
    rcases hb with h | h
    · exact hFg2 b h
    · have := hb2.size; omega
  rw [hF3] at hC3
  clear hR2 hC2 hG3 hF3 hb2 hFg2
  have HP := hid (put_any Fp3 p [(1, 2, 0), (1, 3, 0)] [] (5, 0, 1) w3 hC3 (by simp [Twf, Lit.wf, IntKind.min, IntKind.max, IntKind.bits, IntKind.signed]) (by simp))
  unfold tv at HP
  dsimp only at HP
  go_upto_region 5 with (go_at_call 23; refine HP.out.mono ?_; rintro e w4 ⟨n3, e3, L3, rfl, hR3, hC4, hG4⟩)
  obtain ⟨rfl, rfl⟩ := put_third hR3
  have hb4 : Below w.heap.size w w4 := hb3.trans (hG4.below hb3.size hFg3)
  clear hR3 hC3 hG4 hb3 HP
  have hC4' : ∃ Fp4, CS Fp4 w4 p T0 [] := ⟨_, hC4⟩
  obtain ⟨Fp4, hC4'⟩ := hC4'
  clear hC4 hFg3
  obtain ⟨w5, hw5⟩ : ∃ W, w4.alloc (.cells #[.int .i64 2] 3) = W := ⟨_, rfl⟩
  have hb45 : Below w4.heap.size w4 w5 := by rw [← hw5]; exact below_new w4 _
  have hN1 : Nums w5 .i64 (some ⟨w4.heap.size, 0, none⟩) [2] := by rw [← hw5]; exact nums_one w4 .i64 2 3
  have HF1 := hid ((from_any Fp4 p T0 [] (some ⟨w4.heap.size, 0, none⟩) 1 1 [2] w5 T0_wf (hC4'.next hb45) rfl hN1 (by simp [T0]) (by simp)).mono (fun e w' h => fromQ_yes (by simp [T0]) h))
  have HW5 := hid hw5
  clear hw5 hN1
  go_upto_region 6 with (go_at_call 7; rw [HW5.out]; refine HF1.out.mono ?_; rintro e w6 ⟨pk, A1, c1, F1, rfl, hK1, hf1, hb56⟩)
  have hb46 : Below w4.heap.size w4 w6 := hb45.trans (Below.mono hb56 hb45.size)
  obtain ⟨w7, hw7⟩ : ∃ W, w6.alloc (.cells #[.int .i64 2, .int .i64 0] 3) = W := ⟨_, rfl⟩
  have hb67 : Below w6.heap.size w6 w7 := by rw [← hw7]; exact below_new w6 _
  have hN2 : Nums w7 .i64 (some ⟨w6.heap.size, 0, none⟩) [2, 0] := by rw [← hw7]; exact nums_two w6 .i64 2 0 3
  have HF2 := hid ((from_any Fp4 p T0 [] (some ⟨w6.heap.size, 0, none⟩) 2 2 [2, 0] w7 T0_wf (hC4'.next (hb46.trans (Below.mono hb67 hb46.size))) rfl hN2 (by simp [T0]) (by simp)).mono (fun e w' h => fromQ_yes (by simp [T0]) h))
  have HW7 := hid hw7
  have hK17 := hK1.next hb67
  have hb07 : Below w.heap.size w w7 := hb4.trans (Below.mono (hb46.trans (Below.mono hb67 hb46.size)) hb4.size)
  clear hw7 hN2 HF1 HW5 hC4' hK1 hf1 hb45 hb56 hb46 hb67 hb4
  go_upto_region 7 with (go_at_call 7; rw [HW7.out]; refine HF2.out.mono ?_; rintro e w8 ⟨pm, A2, c2, F2, rfl, hK2, hf2, hb78⟩)
  have hK18 := hK17.next hb78
  have hb08 : Below w.heap.size w w8 := hb07.trans (Below.mono hb78 hb07.size)
  have e1 : kF F1 1 = false := by rw [(hK18.least.unique T0_one).1]; rfl
  have e2 : kF F2 1 = true := by rw [(hK2.least.unique T0_two).1]; rfl
  have e3 : fl (kF F2) F2.length = [0, 1, 2] := by rw [(hK2.least.unique T0_two).1, hK2.ok.len]; rfl
  have H1 := hid (khas_any pk c1 A1 F1 1 false w8 hK18.ks (hid (by simp [e1])))
  have H2 := hid (khas_any pm c2 A2 F2 1 true w8 hK2.ks (hid (by simp [e2])))
  have H3 : Hid (Calls Try.prog 18 #[.pointer (some ⟨pm, 0, none⟩)] w8 fun e w' => ∃ A c, e = .returned (.slice A 3 c) ∧ Below w8.heap.size w8 w') := hid ((list_any pm A2 c2 F2 w8 hK2.ks (by rw [hK2.ok.len]; simp [T0])).mono (by
    rintro e w' ⟨A, n, c, rfl, hO, hb⟩
    rw [e3] at hO
    have := hO.len3
    subst this
    exact ⟨A, c, rfl, hb⟩))
  clear hK17 hK18 hK2 hf2 hb78 hb07 e1 e2 e3 HF2 HW7
  go_wp2_with (first
    | (go_at_call 14; (with_reducible refine H1.out.mono ?_); rintro e w9 ⟨rfl, rfl⟩)
    | (go_at_call 14; (with_reducible refine H2.out.mono ?_); rintro e w9 ⟨rfl, rfl⟩)
    | (go_at_call 18; refine H3.out.mono ?_; rintro e w9 ⟨A3, c3, rfl, hb89⟩))
  go_ret
  exact ⟨rfl, hb08.trans (Below.mono hb89 hb08.size)⟩
end Go.Proofs.Ytboofkmbjmnpeaa
