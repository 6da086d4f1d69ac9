/- Same of any two rows; two terms compared; the reference's store in memory; Find. -/
import Derived.Test.YtboofkmbjmnpeaaG7
import Derived.DeepKeys
namespace Go.Proofs.Ytboofkmbjmnpeaa
open Go Go.RowKit Go.Maps

set_option maxRecDepth 50000 in
theorem take_succ_at {l : List Int} {k : Nat} {x : Int} (h : l[k]? = some x) : l.take (k + 1) = l.take k ++ [x] := by
  obtain ⟨hl, e⟩ := List.getElem?_eq_some_iff.1 h
  rw [List.take_succ_eq_append_getElem hl, e]
set_option maxRecDepth 50000 in
theorem rsame_ne (A B : Option Addr) (n m c d : Nat) (w : World) (h : n ≠ m) :
    Calls Try.prog 46 #[.slice A n c, .slice B m d] w fun e w' => e = .returned (.bool false) ∧ Below w.heap.size w w' := by
  have h1 : (n : Int) ≠ (m : Int) := by omega
  have hne : decide ((n : Int) = (m : Int)) = false := decide_eq_false h1
  go_enter Try.func46, Try.ntmps46
  go_wp2
  go_ret
  exact ⟨rfl, Below.refl _ _⟩
set_option maxRecDepth 50000 in
set_option maxHeartbeats 1000000 in
theorem rsame_len (A B : Option Addr) (n c d : Nat) (xs ys : List Int) (g : Bool) (w : World) (hn : n ≤ 4096) (hx : Hid (xs.length = n)) (hy : Hid (ys.length = n)) (hg : Hid (decide (xs = ys) = g)) (hA : Nums w .u8 A xs) (hB : Nums w .u8 B ys) :
    Calls Try.prog 46 #[.slice A n c, .slice B n d] w fun e w' => e = .returned (.bool g) ∧ Below w.heap.size w w' := by
  have hn1 : (n : Int) ≤ 4096 := by omega
  clear hn
  go_enter Try.func46, Try.ntmps46
  go_wp2
  go_loopw [5] (fun i wr => ∃ k : Nat, k ≤ n ∧ i = .int .i64 k ∧ Hid (xs.take k = ys.take k) ∧ Below w.heap.size w wr) (fun i _ => n - (intOf i).toNat)
  case atStart => exact ⟨0, Nat.zero_le _, rfl, hid rfl, Below.refl _ _⟩
  case round =>
    obtain ⟨k, hk, rfl, HT, hb⟩ := hrel
    by_cases hlt : k < n
    · obtain ⟨b1, o1, x, rfl, _, hc1, H1⟩ := (hA.below hb).get (i := k) (by rw [hx.out]; exact hlt)
      obtain ⟨b2, o2, y, rfl, _, hc2, H2⟩ := (hB.below hb).get (i := k) (by rw [hy.out]; exact hlt)
      have hpos : (0 : Int) ≤ k := by omega
      have hlt' : (k : Int) < n := by omega
      by_cases hxy : x = y
      · have HT2 : Hid (xs.take (k + 1) = ys.take (k + 1)) := hid (by rw [take_succ_at H1.out, take_succ_at H2.out, HT.out, hxy])
        have hdb : (x != y) = false := by rw [hxy]; simp
        go_wp2
        go_quiet (fail)
        go_wp2
        go_roundw
        case rel => exact ⟨k + 1, by omega, by go_num, HT2, below_drewN hb _⟩
        case measure => simp [intOf]; omega
      · have hdb : (x != y) = true := bne_iff_ne.2 hxy
        have hgf : g = false := by
          rw [← hg.out]
          refine decide_eq_false fun e => hxy ?_
          have h1 := H1.out
          rw [e, H2.out] at h1
          injection h1 with h1
          exact h1.symm
        subst hgf
        go_wp2
        go_quiet (fail)
        go_wp2
        go_ret
        exact ⟨rfl, below_drewN hb _⟩
    · have e : n = k := by omega
      subst e
      have hgt : g = true := by
        rw [← hg.out]
        refine decide_eq_true ?_
        have := HT.out
        rwa [List.take_of_length_le (by rw [hx.out]; omega), List.take_of_length_le (by rw [hy.out]; omega)] at this
      subst hgt
      go_wp2
      go_ret
      exact ⟨rfl, hb⟩
set_option maxRecDepth 50000 in
theorem rsame_any (A B : Option Addr) (n m c d : Nat) (xs ys : List Int) (g : Bool) (w : World) (hn : n ≤ 4096) (hx : xs.length = n) (hy : ys.length = m) (hg : decide (xs = ys) = g) (hA : Nums w .u8 A xs) (hB : Nums w .u8 B ys) :
    Calls Try.prog 46 #[.slice A n c, .slice B m d] w fun e w' => e = .returned (.bool g) ∧ Below w.heap.size w w' := by
  by_cases h : n = m
  · subst h
    exact rsame_len A B n c d xs ys g w hn (hid hx) (hid hy) (hid hg) hA hB
  · have e : g = false := by
      rw [← hg]
      exact decide_eq_false fun e => h (by rw [← hx, ← hy, e])
    subst e
    exact rsame_ne A B n m c d w h

set_option maxRecDepth 50000 in
theorem eq_term {t u : T3} {b : Bool} (ht : Twf t) (hu : Twf u) (hb : decide (t = u) = b) (w : World) : (binOp .eql 50 (.agg (tc t).toArray) (.agg (tc u).toArray)).run Try.prog w = .ok (.bool b) w := by
  obtain ⟨r, hr, hiff⟩ := run_equal_deep (P := Try.prog) w (m := 3) (by decide) (k := 50) (by kernel_rfl) wideT (key_of t ht) (key_of u hu)
  have hr2 : (Op.equal 50 (.agg (tc t).toArray) (.agg (tc u).toArray)).run Try.prog w = .ok r w := hr
  have e : r = b := by
    rw [← hb, Bool.eq_iff_iff, decide_eq_true_iff]
    exact ⟨fun h => tk_inj ht hu (hiff.1 h), fun h => hiff.2 (by rw [h])⟩
  subst e
  unfold binOp
  dsimp only
  simp only [Sem.run_bind, hr2, Result.andThen_ok, Sem.run_pure]
set_option maxRecDepth 50000 in
theorem ne_term {t u : T3} {b : Bool} (ht : Twf t) (hu : Twf u) (hb : decide (t = u) = b) (w : World) : (binOp .neq 50 (.agg (tc t).toArray) (.agg (tc u).toArray)).run Try.prog w = .ok (.bool (!b)) w := by
  obtain ⟨r, hr, hiff⟩ := run_equal_deep (P := Try.prog) w (m := 3) (by decide) (k := 50) (by kernel_rfl) wideT (key_of t ht) (key_of u hu)
  have hr2 : (Op.equal 50 (.agg (tc t).toArray) (.agg (tc u).toArray)).run Try.prog w = .ok r w := hr
  have e : r = b := by
    rw [← hb, Bool.eq_iff_iff, decide_eq_true_iff]
    exact ⟨fun h => tk_inj ht hu (hiff.1 h), fun h => hiff.2 (by rw [h])⟩
  subst e
  unfold binOp
  dsimp only
  simp only [Sem.run_bind, hr2, Result.andThen_ok, Sem.run_pure]

set_option maxRecDepth 50000 in
theorem rng_next {w w' : World} {b o : Nat} {cs : List Value} (h : w.rangeAt b o cs) (hb : Below w.heap.size w w') : w'.rangeAt b o cs := fun j v hj => cellB (h j v hj) hb
set_option maxRecDepth 50000 in
theorem hegT : Try.prog.eqGuardType Try.prog.depth 50 = false := by kernel_rfl
set_option maxRecDepth 50000 in
theorem guard_eqT (k : BinOp) (x y : Operand) (t u : T3) (w : World) : (eqGuard k 50 x y (.agg (tc t).toArray) (.agg (tc u).toArray)).run Try.prog w = .ok () w := run_eqGuard_agg w k _ x y _ _ hegT
set_option maxRecDepth 50000 in
theorem exec_eqT {ev : Operand → Value} {op : Oper} {x y : Operand} (ho : op.op = .binOp .eql 50 x y 50) {t u : T3} {b : Bool} (hx : ev x = .agg (tc t).toArray) (hy : ev y = .agg (tc u).toArray) (ht : Twf t) (hu : Twf u) (hb : decide (t = u) = b) (w : World) : (execOp ev op).run Try.prog w = .ok (.value (.bool b)) w := by
  unfold execOp
  simp only [ho, hx, hy, Sem.run_bind, guard_eqT, Result.andThen_ok, eq_term ht hu hb, Sem.run_pure]
set_option maxRecDepth 50000 in
theorem exec_neT {ev : Operand → Value} {op : Oper} {x y : Operand} (ho : op.op = .binOp .neq 50 x y 50) {t u : T3} {b : Bool} (hx : ev x = .agg (tc t).toArray) (hy : ev y = .agg (tc u).toArray) (ht : Twf t) (hu : Twf u) (hb : decide (t = u) = b) (w : World) : (execOp ev op).run Try.prog w = .ok (.value (.bool (!b))) w := by
  unfold execOp
  simp only [ho, hx, hy, Sem.run_bind, guard_eqT, Result.andThen_ok, ne_term ht hu hb, Sem.run_pure]
set_option maxRecDepth 50000 in
theorem wpList_eqT {ops : Array Oper} {rest : List Oper} {op : Oper} {a : Act} {w : World} {Q : Exit → Act → World → Prop} (hgd : op.guard = none) (x y : Operand) (ho : op.op = .binOp .eql 50 x y 50) {t u : T3} {b : Bool} (hx : a.eval x = .agg (tc t).toArray) (hy : a.eval y = .agg (tc u).toArray) (ht : Twf t) (hu : Twf u) (hb : decide (t = u) = b)
    (h : wpList Try.prog ops Q rest (a.put op.dst (.bool b)) w) : wpList Try.prog ops Q (op :: rest) a w := by
  refine wpList_plain hgd fun _ hK => ?_
  unfold Oper.wp
  rw [exec_eqT ho hx hy ht hu hb, Oper.upon_value]
  exact hK _ _ h
/-- Texts as slices of bytes that lie below block B. -/
def TXs (B : Nat) (w : World) (ps : List Value) (X : List (List Int)) : Prop := ∀ (j : Nat) x, X[j]? = some x → ∃ A c, ps[j]? = some (.slice A x.length c) ∧ NumsD B w .u8 A x
structure RT (B : Nat) (w : World) (q : Nat) (AL : Option Addr) (cL : Nat) (AX : Option Addr) (cX : Nat) (ps : List Value) (L : List T3) (X : List (List Int)) : Prop where
  blk : Blk w q 70 [.slice AL L.length cL, .slice AX X.length cX]
  rL : w.ownsRow 0 50 3 (.slice AL L.length cL) L.length (flat L)
  rX : w.ownsRow 0 64 1 (.slice AX X.length cX) X.length ps
  tx : TXs B w ps X
def footR (q : Nat) (AL AX : Option Addr) (b : Nat) : Prop := b = q ∨ (Value.slice AL 0 0).ownBlock = some b ∨ (Value.slice AX 0 0).ownBlock = some b
set_option maxRecDepth 50000 in
theorem own00 (A : Option Addr) (n c : Nat) : (Value.slice A n c).ownBlock = (Value.slice A 0 0).ownBlock := by cases A <;> rfl
/-- The reference's store of these terms and texts; its blocks are among F, its texts lie below block B. -/
def RS (B : Nat) (F : Nat → Prop) (w : World) (q : Nat) (L : List T3) (X : List (List Int)) : Prop :=
  ∃ AL cL AX cX ps, RT B w q AL cL AX cX ps L X ∧ (∀ b, footR q AL AX b → F b) ∧ (∀ b, F b → B ≤ b) ∧ B ≤ w.heap.size
section
variable {B : Nat} {F G : Nat → Prop} {w w' : World} {q : Nat} {L : List T3} {X : List (List Int)} {AL AX : Option Addr} {cL cX : Nat} {ps : List Value}
set_option maxRecDepth 50000 in
theorem RT.lt (h : RT B w q AL cL AX cX ps L X) : ∀ b, footR q AL AX b → b < w.heap.size := fun b hb => by
  rcases hb with rfl | e | e
  · exact h.blk.lt
  · exact rowlt h.rL b (by rw [← e]; exact own00 _ _ _)
  · exact rowlt h.rX b (by rw [← e]; exact own00 _ _ _)
set_option maxRecDepth 50000 in
theorem TXs.chg (h : TXs B w ps X) (hc : Chg G w w') (hG : ∀ b, G b → B ≤ b) (hB : B ≤ w.heap.size) : TXs B w' ps X := fun j x hj => by
  obtain ⟨A, c, h1, h2⟩ := h j x hj
  refine ⟨A, c, h1, h2.stay (hc.below hB hG)⟩
set_option maxRecDepth 50000 in
theorem RT.chg (h : RT B w q AL cL AX cX ps L X) (hc : Chg G w w') (hF : ∀ b, footR q AL AX b → ¬ G b) (hG : ∀ b, G b → B ≤ b) (hB : B ≤ w.heap.size) : RT B w' q AL cL AX cX ps L X :=
  ⟨h.blk.chg hc (hF _ (.inl rfl)), row_chg h.rL hc fun g hg => hF g (.inr (.inl (by rw [← hg]; exact (own00 _ _ _).symm))), row_chg h.rX hc fun g hg => hF g (.inr (.inr (by rw [← hg]; exact (own00 _ _ _).symm))), h.tx.chg hc hG hB⟩
set_option maxRecDepth 50000 in
theorem RS.chg (h : RS B F w q L X) (hc : Chg G w w') (hF : ∀ b, F b → ¬ G b) (hG : ∀ b, G b → B ≤ b) : RS B F w' q L X := by
  obtain ⟨AL, cL, AX, cX, ps, hT, h1, h2, h3⟩ := h
  exact ⟨AL, cL, AX, cX, ps, hT.chg hc (fun b hb => hF b (h1 b hb)) hG h3, h1, h2, Nat.le_trans h3 hc.size⟩
set_option maxRecDepth 50000 in
theorem RT.next (h : RT B w q AL cL AX cX ps L X) (hb : Below w.heap.size w w') (hB : B ≤ w.heap.size) : RT B w' q AL cL AX cX ps L X := h.chg (Chg.of hb (fun _ => False)) (fun _ _ e => e) (fun _ e => e.elim) hB
set_option maxRecDepth 50000 in
theorem RS.next (h : RS B F w q L X) (hb : Below w.heap.size w w') : RS B F w' q L X := h.chg (Chg.of hb (fun _ => False)) (fun _ _ e => e) (fun _ e => e.elim)
set_option maxRecDepth 50000 in
theorem RS.sub (h : RS B F w q L X) (hs : ∀ b, b < w.heap.size → F b → G b) (hG : ∀ b, G b → B ≤ b) : RS B G w q L X := by
  obtain ⟨AL, cL, AX, cX, ps, hT, h1, h2, h3⟩ := h
  exact ⟨AL, cL, AX, cX, ps, hT, fun b hb => hs b (hT.lt b hb) (h1 b hb), hG, h3⟩
end
set_option maxRecDepth 50000 in
set_option maxHeartbeats 2000000 in
theorem find_any (q c : Nat) (A : Option Addr) (L : List T3) (t : T3) (w : World) (c00 : w.cell? ⟨q, 0, none⟩ = some (.slice A L.length c)) (hA0 : TRow w A L) (ht : Twf t) (hLw : ∀ (i : Nat) u, L[i]? = some u → Twf u) (hL : L.length ≤ 40) :
    Calls Try.prog 44 #[.pointer (some ⟨q, 0, none⟩), tv t] w fun e w' => ∃ r : Int, e = .returned (.int .i64 r) ∧ Below w.heap.size w w' ∧ ((r = -1 ∧ ∀ i : Nat, L[i]? ≠ some t) ∨ ∃ i : Nat, r = i ∧ L[i]? = some t) := by
  obtain ⟨W, hW, d0, d1, d2, hB, hB3⟩ := term_world t w
  have c0 := cellB c00 hB
  have hA1 := hA0.below hB
  have HW := hid hW
  have HB := hid hB
  have hL2 : (L.length : Int) ≤ 40 := by omega
  clear c00 hA0 hW hB hL
  unfold tv
  go_enter Try.func44, Try.ntmps44
  go_upto_region 1 with (fail)
  rw [HW.out]
  clear HW
  go_wp2
  go_loopw [5] (fun v wr => ∃ k : Nat, k ≤ L.length ∧ v = .int .i64 k ∧ Hid (∀ j : Nat, j < k → L[j]? ≠ some t) ∧ Below W.heap.size W wr) (fun v _ => L.length - (intOf v).toNat)
  case atStart => exact ⟨0, Nat.zero_le _, rfl, hid (fun j hj => absurd hj (Nat.not_lt_zero _)), Below.refl _ _⟩
  case round =>
    obtain ⟨k, hk, rfl, HK, hcl⟩ := hrel
    have c1 := cellB c0 hcl
    by_cases hlt : k < L.length
    · obtain ⟨u, hu⟩ : ∃ u, L[k]? = some u := ⟨L[k], by simp [hlt]⟩
      obtain ⟨g, hAe, hg, hcell⟩ := hA1 (by omega)
      obtain ⟨x0, x1, x2⟩ := hcell k u hu
      have hrow : Rw W g (k * 3) (tc u) ∨ True := .inr trivial
      have hkl : (k : Int) < L.length := by omega
      have hk0 : (0 : Int) ≤ k := by omega
      have hrg : W.rangeAt g (k * 3) (tc u) := fun j v hj => by
        match j, hj with
        | 0, hj => simp [tc] at hj; subst hj; exact x0
        | 1, hj => simp [tc] at hj; subst hj; exact x1
        | 2, hj => simp [tc] at hj; subst hj; exact x2
        | n + 3, hj => simp [tc] at hj
      obtain ⟨b, hb⟩ : ∃ b, decide (u = t) = b := ⟨_, rfl⟩
      have heq : ∀ ww, (binOp .eql 50 (.agg (tc u).toArray) (.agg (tc t).toArray)).run Try.prog ww = .ok (.bool b) ww := fun ww => eq_term (hLw k u hu) ht hb ww
      have HLT := hid hlt
      clear hrow hlt
      go_upto_region 4 with (fail)
      refine region_spec2 8 25 (fun _ => false) [Is (Value.pointer (some ⟨q, 0, none⟩)), Is (Value.pointer (some ⟨q, 0, none⟩)), Is (Value.pointer (some ⟨q, 0, none⟩)), Is (Value.slice A L.length c), Is (Value.int .i64 k), Is (Value.pointer (some ⟨g, k * 3, none⟩)), Is (Value.agg (tc u).toArray), Is (Value.agg (tc t).toArray)] [15, 16, 17, 18, 19, 20, 21, 22] (by kernel_rfl) (by kernel_rfl) (by kernel_rfl) (Nat.le_of_eq rfl) (grows_cons (Is.grows _) (grows_cons (Is.grows _) (grows_cons (Is.grows _) (grows_cons (Is.grows _) (grows_cons (Is.grows _) (grows_cons (Is.grows _) (grows_cons (Is.grows _) (grows_cons (Is.grows _) grows_nil))))))))
        ⟨(step_ex (Value.pointer (some ⟨q, 0, none⟩)) rfl (.inl rfl) rfl (fun a ww hw hf hd => by
               have h0 : a.eval (.tmp 0) = Value.pointer (some ⟨q, 0, none⟩) := ((knows_out 0 (by kernel_rfl) rfl) : Knows _ _ _ _ _ _ 0 _ _) a ww hw hf hd
               have hcc : ∀ c, a.eval (.const c) = c := fun _ => rfl
               revert hcc h0
               generalize a.eval = ev
               intro hcc h0
               unfold execOp
               simp only [h0, hcc]
               go_simp)),
         (step_ex (Value.pointer (some ⟨q, 0, none⟩)) rfl (.inl rfl) rfl (fun a ww hw hf hd => by
               have h15 : a.eval (.tmp 15) = Value.pointer (some ⟨q, 0, none⟩) := ((knows_in 0 15 (by decide) (by kernel_rfl) rfl rfl) : Knows _ _ _ _ _ _ 1 _ _) a ww hw hf hd
               have hcc : ∀ c, a.eval (.const c) = c := fun _ => rfl
               revert hcc h15
               generalize a.eval = ev
               intro hcc h15
               unfold execOp
               simp only [h15, hcc]
               go_simp)),
         (step_ex (Value.pointer (some ⟨q, 0, none⟩)) rfl (.inl rfl) rfl (fun a ww hw hf hd => by
               have h16 : a.eval (.tmp 16) = Value.pointer (some ⟨q, 0, none⟩) := ((knows_in 1 16 (by decide) (by kernel_rfl) rfl rfl) : Knows _ _ _ _ _ _ 2 _ _) a ww hw hf hd
               have hcc : ∀ c, a.eval (.const c) = c := fun _ => rfl
               revert hcc h16
               generalize a.eval = ev
               intro hcc h16
               unfold execOp
               simp only [h16, hcc]
               go_simp)),
         (step_ex (Value.slice A L.length c) rfl (.inl rfl) rfl (fun a ww hw hf hd => by
               have h17 : a.eval (.tmp 17) = Value.pointer (some ⟨q, 0, none⟩) := ((knows_in 2 17 (by decide) (by kernel_rfl) rfl rfl) : Knows _ _ _ _ _ _ 3 _ _) a ww hw hf hd
               have f0 : ww.cell? ⟨q, 0, none⟩ = some (Value.slice A L.length c) := cellB c1 hw
               have hcc : ∀ c, a.eval (.const c) = c := fun _ => rfl
               revert hcc h17
               generalize a.eval = ev
               intro hcc h17
               unfold execOp
               simp only [h17, hcc]
               go_simp)),
         (step_ex (Value.int .i64 k) rfl (.inl rfl) rfl (fun a ww hw hf hd => by
               have h5 : a.eval (.tmp 5) = Value.int .i64 k := ((knows_out 5 (by kernel_rfl) rfl) : Knows _ _ _ _ _ _ 4 _ _) a ww hw hf hd
               have hcc : ∀ c, a.eval (.const c) = c := fun _ => rfl
               revert hcc h5
               generalize a.eval = ev
               intro hcc h5
               unfold execOp
               simp only [h5, hcc]
               go_simp)),
         (step_ex (Value.pointer (some ⟨g, k * 3, none⟩)) rfl (.inl rfl) rfl (fun a ww hw hf hd => by
               have h18 : a.eval (.tmp 18) = Value.slice A L.length c := ((knows_in 3 18 (by decide) (by kernel_rfl) rfl rfl) : Knows _ _ _ _ _ _ 5 _ _) a ww hw hf hd
               have h19 : a.eval (.tmp 19) = Value.int .i64 k := ((knows_in 4 19 (by decide) (by kernel_rfl) rfl rfl) : Knows _ _ _ _ _ _ 5 _ _) a ww hw hf hd
               have f0 := hkl
               have f1 := hk0
               have f2 := hAe
               have hcc : ∀ c, a.eval (.const c) = c := fun _ => rfl
               revert hcc h18 h19
               generalize a.eval = ev
               intro hcc h18 h19
               unfold execOp
               simp only [h18, h19, hcc]
               go_simp)),
         (step_ldV rfl (.inl rfl) (fun _ hw => rng_next hrg (hcl.trans (Below.mono hw hcl.size))) rfl Try.underlying50 rfl (szV infT (tc_len _)) rfl (knows_in 5 20 (by decide) (by kernel_rfl) rfl rfl)),
         (step_ldV rfl (.inl rfl) (fun _ hw => ((hB3.next hcl).next hw).rw.range) rfl Try.underlying50 rfl (szV infT (tc_len _)) rfl (knows_out 3 (by kernel_rfl) rfl)), trivial⟩ ?_
      intro val W4 hw hS _ _
      have e15 : val 15 = Value.pointer (some ⟨q, 0, none⟩) := hS 0 15 (by decide) rfl
      have e16 : val 16 = Value.pointer (some ⟨q, 0, none⟩) := hS 1 16 (by decide) rfl
      have e17 : val 17 = Value.pointer (some ⟨q, 0, none⟩) := hS 2 17 (by decide) rfl
      have e18 : val 18 = Value.slice A L.length c := hS 3 18 (by decide) rfl
      have e19 : val 19 = Value.int .i64 k := hS 4 19 (by decide) rfl
      have e20 : val 20 = Value.pointer (some ⟨g, k * 3, none⟩) := hS 5 20 (by decide) rfl
      have e21 : val 21 = Value.agg (tc u).toArray := hS 6 21 (by decide) rfl
      have e22 : val 22 = Value.agg (tc t).toArray := hS 7 22 (by decide) rfl
      simp only [putVals, List.foldl_cons, List.foldl_nil, List.drop_succ_cons, List.drop_zero, Act.put, List.setIfInBounds_toArray, List.set_cons_succ, List.set_cons_zero, e15, e16, e17, e18, e19, e20, e21, e22]
      clear e15 e16 e17 e18 e19 e20 e21 e22 hS
      have hcl4 : Below W.heap.size W W4 := hcl.trans (Below.mono hw hcl.size)
      clear hcl hw
      have HF := hid (HB.out.trans (Below.mono hcl4 HB.out.size))
      refine wpList_eqT (op := ⟨some 23, .binOp .eql 50 (.tmp 21) (.tmp 22) 50, _, _, _, _⟩) rfl (.tmp 21) (.tmp 22) rfl rfl rfl (hLw k u hu) ht hb ?_
      clear heq
      cases b with
      | true =>
        have e : u = t := of_decide_eq_true hb
        have HU := hid hu
        clear hb hu
        go_wp2
        go_ret
        exact ⟨k, rfl, HF.out, .inr ⟨k, rfl, by rw [← e]; exact HU.out⟩⟩
      | false =>
        have e : u ≠ t := of_decide_eq_false hb
        have HU := hid hu
        have HE := hid e
        clear hb hu e
        go_wp2
        go_roundw
        case rel => exact ⟨k + 1, by have := HLT.out; omega, by go_num, hid (fun j hj h => by
          by_cases ej : j = k
          · subst ej; rw [HU.out] at h; injection h with h; exact HE.out h
          · exact HK.out j (by omega) h), hcl4⟩
        case measure => have := HLT.out; simp [intOf]; omega
    · have hge : ¬ (k : Int) < L.length := by omega
      have HF := hid (HB.out.trans (Below.mono hcl HB.out.size))
      have e : k = L.length := by omega
      subst e
      clear hlt hk
      go_wp2
      go_ret
      exact ⟨-1, rfl, HF.out, .inl ⟨rfl, fun i hi => HK.out i (get_lt hi) hi⟩⟩
end Go.Proofs.Ytboofkmbjmnpeaa
