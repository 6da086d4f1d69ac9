/- What is done to both stores: both say the same. -/
import Derived.Test.YtechhbljjnffaaaTLawB
namespace Go.Proofs.Ytechhbljjnffaaa
open Go Go.RowKit Go.Maps
/-- What one leaves. -/
def OneQ (B : Nat) (okb : Nat → Prop) (p q : Nat) (L : List T3) (X : List (List Int)) (w : World) (e : Ending) (w' : World) : Prop :=
  e = .returned (.bool true) ∧ ∃ L' X', L'.length ≤ L.length + 1 ∧ X'.length ≤ X.length + 1 ∧ Both B okb w' p q L' X' ∧ Chg okb w w'
section
variable {B : Nat} {okb : Nat → Prop} {p q : Nat} {L : List T3} {X : List (List Int)} {w : World}
set_option maxRecDepth 50000 in
set_option maxHeartbeats 2000000 in
theorem one_put (num k a b : Int) (A : Option Addr) (c : Nat) (x : List Int) (h : Both B okb w p q L X) (ht : Twf (k, a, b)) (hL : L.length ≤ 39) (hX : X.length ≤ 39) (hok : ∀ b, w.heap.size ≤ b → okb b) (hokB : ∀ b, okb b → B ≤ b) :
    Calls Try.prog 8 #[.pointer (some ⟨p, 0, none⟩), .pointer (some ⟨q, 0, none⟩), .agg #[.int .i64 1, .int .i64 num, .int .i64 k, .int .i64 a, .int .i64 b, .slice A x.length c]] w (OneQ B okb p q L X w) := by
  obtain ⟨W, hW, hB, hb0⟩ := do_world ⟨1, num, (k, a, b), A, c, x⟩ w
  dsimp only at hW
  have h0 := h.next hb0
  obtain ⟨Fc, Fr, hC, hR, h3, h4, h5⟩ := h
  have h4W : ∀ b, Fc b → b < W.heap.size ∧ okb b := fun b hb => ⟨Nat.lt_of_lt_of_le (h4 b hb).1 hb0.size, (h4 b hb).2⟩
  have h5W : ∀ b, Fr b → b < W.heap.size ∧ okb b := fun b hb => ⟨Nat.lt_of_lt_of_le (h5 b hb).1 hb0.size, (h5 b hb).2⟩
  have hC0 := hC.next hb0
  have hR0 := hR.next hb0
  have y0 := hB.cell (i := 0) rfl
  have y2 := hB.cell (i := 2) rfl
  have y3 := hB.cell (i := 3) rfl
  have y4 := hB.cell (i := 4) rfl
  obtain ⟨nx, DN, DI, hP⟩ := hC.pure
  have hLw : ∀ (i : Nat) u, L[i]? = some u → Twf u := fun i u hi => (hP.wf i u hi).1
  dsimp only at y0 y2 y3 y4
  go_enter Try.func8, Try.ntmps8
  go_wp2_with (first
    | (go_at_call 16; refine (put_any Fc p L X (k, a, b) W hC0 ht hL).mono ?_; rintro e w1 ⟨n1, r1, L1, rfl, hR1, hC1, hG1⟩; have z2 := (hB.chg hG1 (fun hf => absurd (h4 _ hf).1 (Nat.lt_irrefl _))).cell (i := 2) rfl; have z3 := (hB.chg hG1 (fun hf => absurd (h4 _ hf).1 (Nat.lt_irrefl _))).cell (i := 3) rfl; have z4 := (hB.chg hG1 (fun hf => absurd (h4 _ hf).1 (Nat.lt_irrefl _))).cell (i := 4) rfl)
    | (go_at_call 19; refine (rput_any B Fr q L X (k, a, b) w1 (hR0.chg hG1 (fun b hf hc => h3 b hc hf) (fun b hf => hokB b (h4 b hf).2)) ht hL hLw hP.nd).mono ?_; rintro e w2 ⟨n2, r2, L2, rfl, hR2, hC2, hG2⟩; obtain ⟨rfl, rfl, rfl⟩ := putR_eq hP.nd hR1 hR2))
  go_ret
  have hS := Both.step h3 h4W h5W (fun b hb => hok b (Nat.le_trans hb0.size hb)) hokB hC1 hG1 hC2 hG2
  exact ⟨rfl, L1, X, putR_len hR1, Nat.le_succ _, hS.1, (Chg.of hb0 okb).trans hS.2 (fun _ _ h => h)⟩
set_option maxRecDepth 50000 in
set_option maxHeartbeats 2000000 in
theorem one_draw (num k a b : Int) (A : Option Addr) (c : Nat) (x : List Int) (h : Both B okb w p q L X) (hL : L.length ≤ 39) (hX : X.length ≤ 39) (hok : ∀ b, w.heap.size ≤ b → okb b) (hokB : ∀ b, okb b → B ≤ b) :
    Calls Try.prog 8 #[.pointer (some ⟨p, 0, none⟩), .pointer (some ⟨q, 0, none⟩), .agg #[.int .i64 2, .int .i64 num, .int .i64 k, .int .i64 a, .int .i64 b, .slice A x.length c]] w (OneQ B okb p q L X w) := by
  obtain ⟨W, hW, hB, hb0⟩ := do_world ⟨2, num, (k, a, b), A, c, x⟩ w
  dsimp only at hW
  have h0 := h.next hb0
  obtain ⟨Fc, Fr, hC, hR, h3, h4, h5⟩ := h
  have h4W : ∀ b, Fc b → b < W.heap.size ∧ okb b := fun b hb => ⟨Nat.lt_of_lt_of_le (h4 b hb).1 hb0.size, (h4 b hb).2⟩
  have h5W : ∀ b, Fr b → b < W.heap.size ∧ okb b := fun b hb => ⟨Nat.lt_of_lt_of_le (h5 b hb).1 hb0.size, (h5 b hb).2⟩
  have hC0 := hC.next hb0
  have hR0 := hR.next hb0
  have y0 := hB.cell (i := 0) rfl
  have y1 := hB.cell (i := 1) rfl
  obtain ⟨nx, DN, DI, hP⟩ := hC.pure
  have hLw : ∀ (i : Nat) u, L[i]? = some u → Twf u := fun i u hi => (hP.wf i u hi).1
  dsimp only at y0 y1
  go_enter Try.func8, Try.ntmps8
  go_wp2_with (first
    | (go_at_call 17; refine (draw_any Fc p L X num W hC0 hL (by omega)).mono ?_; rintro e w1 ⟨n1, r1, L1, rfl, hR1, hC1, hG1⟩; have z1 := (hB.chg hG1 (fun hf => absurd (h4 _ hf).1 (Nat.lt_irrefl _))).cell (i := 1) rfl)
    | (go_at_call 20; refine (rdraw_any B Fr q L X num w1 (hR0.chg hG1 (fun b hf hc => h3 b hc hf) (fun b hf => hokB b (h4 b hf).2)) hL).mono ?_; rintro e w2 ⟨n2, r2, L2, rfl, hR2, hC2, hG2⟩; obtain ⟨rfl, rfl, rfl⟩ := drawR_eq hR1 hR2))
  go_ret
  have hS := Both.step h3 h4W h5W (fun b hb => hok b (Nat.le_trans hb0.size hb)) hokB hC1 hG1 hC2 hG2
  exact ⟨rfl, L1, X, drawR_len hR1, Nat.le_succ _, hS.1, (Chg.of hb0 okb).trans hS.2 (fun _ _ h => h)⟩
set_option maxRecDepth 50000 in
set_option maxHeartbeats 2000000 in
theorem one_text (num k a b : Int) (A : Option Addr) (c : Nat) (x : List Int) (h : Both B okb w p q L X) (hx : TByt x) (hx2 : x.length ≤ 100) (hA : NumsD B w .u8 A x) (hL : L.length ≤ 39) (hX : X.length ≤ 39) (hok : ∀ b, w.heap.size ≤ b → okb b) (hokB : ∀ b, okb b → B ≤ b) :
    Calls Try.prog 8 #[.pointer (some ⟨p, 0, none⟩), .pointer (some ⟨q, 0, none⟩), .agg #[.int .i64 3, .int .i64 num, .int .i64 k, .int .i64 a, .int .i64 b, .slice A x.length c]] w (OneQ B okb p q L X w) := by
  obtain ⟨W, hW, hB, hb0⟩ := do_world ⟨3, num, (k, a, b), A, c, x⟩ w
  dsimp only at hW
  have h0 := h.next hb0
  obtain ⟨Fc, Fr, hC, hR, h3, h4, h5⟩ := h
  have h4W : ∀ b, Fc b → b < W.heap.size ∧ okb b := fun b hb => ⟨Nat.lt_of_lt_of_le (h4 b hb).1 hb0.size, (h4 b hb).2⟩
  have h5W : ∀ b, Fr b → b < W.heap.size ∧ okb b := fun b hb => ⟨Nat.lt_of_lt_of_le (h5 b hb).1 hb0.size, (h5 b hb).2⟩
  have hC0 := hC.next hb0
  have hR0 := hR.next hb0
  have y0 := hB.cell (i := 0) rfl
  have y5 := hB.cell (i := 5) rfl
  obtain ⟨nx, DN, DI, hP⟩ := hC.pure
  have hLw : ∀ (i : Nat) u, L[i]? = some u → Twf u := fun i u hi => (hP.wf i u hi).1
  have hBw : B ≤ w.heap.size := by obtain ⟨_, _, _, _, _, _, _, _, h⟩ := hR; exact h
  have hBW : B ≤ W.heap.size := Nat.le_trans hBw hb0.size
  have hA0 := hA.stay (Below.mono hb0 hBw)
  dsimp only at y0 y5
  go_enter Try.func8, Try.ntmps8
  go_wp2_with (first
    | (go_at_call 18; refine (text_any Fc p L X A c x W hC0 hx hx2 (hA0.nums hBW) (hA0.apart (fun b hb => hokB b (h4 b hb).2)) hL (by omega)).mono ?_; rintro e w1 ⟨n1, L1, X1, rfl, hR1, hC1, hG1⟩; have z5 := (hB.chg hG1 (fun hf => absurd (h4 _ hf).1 (Nat.lt_irrefl _))).cell (i := 5) rfl)
    | (go_at_call 21; refine (rtext_any B Fr q L X A c x w1 (hR0.chg hG1 (fun b hf hc => h3 b hc hf) (fun b hf => hokB b (h4 b hf).2)) hx2 (fun y hy => (hP.xb y hy).2) (hA0.stay (hG1.below hBW (fun b hf => hokB b (h4 b hf).2))) hL hX hLw hP.tx).mono ?_; rintro e w2 ⟨n2, L2, X2, rfl, hR2, hC2, hG2⟩; obtain ⟨rfl, rfl, rfl⟩ := textR_eq hP.nd hP.xn hR1 hR2))
  go_ret
  have hS := Both.step h3 h4W h5W (fun b hb => hok b (Nat.le_trans hb0.size hb)) hokB hC1 hG1 hC2 hG2
  exact ⟨rfl, L1, X1, (textR_len hR1).1, (textR_len hR1).2, hS.1, (Chg.of hb0 okb).trans hS.2 (fun _ _ h => h)⟩
set_option maxRecDepth 50000 in
set_option maxHeartbeats 2000000 in
theorem one_else (kind num k a b : Int) (A : Option Addr) (c : Nat) (x : List Int) (h : Both B okb w p q L X) (hk : kind ≠ 1 ∧ kind ≠ 2 ∧ kind ≠ 3) :
    Calls Try.prog 8 #[.pointer (some ⟨p, 0, none⟩), .pointer (some ⟨q, 0, none⟩), .agg #[.int .i64 kind, .int .i64 num, .int .i64 k, .int .i64 a, .int .i64 b, .slice A x.length c]] w (OneQ B okb p q L X w) := by
  obtain ⟨W, hW, hB, hb0⟩ := do_world ⟨kind, num, (k, a, b), A, c, x⟩ w
  dsimp only at hW
  have h0 := h.next hb0
  have y0 := hB.cell (i := 0) rfl
  have e1 : decide (kind = 1) = false := decide_eq_false hk.1
  have e2 : decide (kind = 2) = false := decide_eq_false hk.2.1
  have e3 : decide (kind = 3) = false := decide_eq_false hk.2.2
  dsimp only at y0
  go_enter Try.func8, Try.ntmps8
  go_wp2
  go_ret
  exact ⟨rfl, L, X, Nat.le_succ _, Nat.le_succ _, h0, Chg.of hb0 okb⟩
set_option maxRecDepth 50000 in
/-- What is done, whatever it is. -/
theorem one_any (d : DoV) (h : Both B okb w p q L X) (ht : Twf d.t) (hx : TByt d.x) (hx2 : d.x.length ≤ 100) (hA : NumsD B w .u8 d.A d.x) (hL : L.length ≤ 39) (hX : X.length ≤ 39) (hok : ∀ b, w.heap.size ≤ b → okb b) (hokB : ∀ b, okb b → B ≤ b) :
    Calls Try.prog 8 #[.pointer (some ⟨p, 0, none⟩), .pointer (some ⟨q, 0, none⟩), .agg #[.int .i64 d.kind, .int .i64 d.num, .int .i64 d.t.1, .int .i64 d.t.2.1, .int .i64 d.t.2.2, .slice d.A d.x.length d.c]] w (OneQ B okb p q L X w) := by
  obtain ⟨kind, num, ⟨k, a, b⟩, A, c, x⟩ := d
  dsimp only at ht hx hx2 hA ⊢
  by_cases h1 : kind = 1
  · subst h1; exact one_put num k a b A c x h ht hL hX hok hokB
  by_cases h2 : kind = 2
  · subst h2; exact one_draw num k a b A c x h hL hX hok hokB
  by_cases h3 : kind = 3
  · subst h3; exact one_text num k a b A c x h hx hx2 hA hL hX hok hokB
  exact one_else kind num k a b A c x h ⟨h1, h2, h3⟩
end
end Go.Proofs.Ytechhbljjnffaaa
