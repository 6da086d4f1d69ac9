/- Put and Draw on the reference's store. -/
import Derived.Test.YtechhbljjnffaaaTRef
namespace Go.Proofs.Ytechhbljjnffaaa
open Go Go.RowKit Go.Maps

set_option maxRecDepth 50000 in
/-- The terms' row after an append of one term, stored back. -/
theorem rt_app {B : Nat} {W W' : World} {q : Nat} {AL AX A : Option Addr} {cL cX c : Nat} {ps : List Value} {L : List T3} {X : List (List Int)} {t : T3} (hT : RT B W q AL cL AX cX ps L X) (hB : ∀ b, footR q AL AX b → B ≤ b) (hBW : B ≤ W.heap.size)
    (hr : W'.ownsRow 0 33 3 (.slice A (L.length + 1) c) (L.length + 1) (flat L ++ tc t)) (hg : W.grownBy W' (Value.slice AL L.length cL).ownBlock) (ho : (Value.slice A (L.length + 1) c).ownBlock = (Value.slice AL L.length cL).ownBlock ∨ (Value.slice A (L.length + 1) c).ownBlock = some W.heap.size) :
    Blk W' q 31 [.slice AL L.length cL, .slice AX X.length cX] ∧ RT B (W'.setCell ⟨q, 0, none⟩ (.slice A (L.length + 1) c)) q A c AX cX ps (L ++ [t]) X ∧ Chg (footR q AL AX) W (W'.setCell ⟨q, 0, none⟩ (.slice A (L.length + 1) c)) ∧ (∀ b, footR q A AX b → footR q AL AX b ∨ W.heap.size ≤ b) := by
  have hl : (L ++ [t]).length = L.length + 1 := by simp
  have hf : flat (L ++ [t]) = flat L ++ tc t := by rw [flat_app, flat_one]
  have hp := hT.blk.grown hg (blk_ne hT.blk hT.rL (by decide))
  have rX := hT.rX.kept hg (row_ne hT.rX hT.rL (by decide))
  have hC : Chg (footR q AL AX) W W' := (Chg.refl _ W).grown hg (fun g e => .inl (.inr (.inl (by rw [← e]; exact (own00 _ _ _).symm))))
  have hC2 := hC.setCell (p := ⟨q, 0, none⟩) (.inl (.inl rfl)) (.slice A (L.length + 1) c)
  refine ⟨hp, ⟨by rw [hl]; exact hp.set 0 _, by rw [hl, hf]; exact row_setC hr hp (by decide) 0 _, row_setC rX hp (by decide) 0 _, hT.tx.chg hC2 hB hBW⟩, hC2, fun b hb => ?_⟩
  rcases hb with h | h | h
  · exact .inl (.inl h)
  · rcases ho with h1 | h1
    · exact .inl (.inr (.inl ((own00 _ _ _).symm.trans (h1.symm.trans ((own00 _ _ _).trans h)))))
    · have e := (own00 A (L.length + 1) c).trans h
      rw [h1] at e; injection e with e; exact .inr (by omega)
  · exact .inl (.inr (.inr h))
set_option maxRecDepth 50000 in
theorem RS.cells {B : Nat} {F : Nat → Prop} {w : World} {q : Nat} {L : List T3} {X : List (List Int)} (h : RS B F w q L X) : ∃ A c AX cX, w.cell? ⟨q, 0, none⟩ = some (.slice A L.length c) ∧ w.cell? ⟨q, 1, none⟩ = some (.slice AX X.length cX) ∧ TRow w A L ∧ L.length ≤ c ∧ c ≤ maxLen := by
  obtain ⟨AL, cL, AX, cX, ps, hT, h1, h2, h3⟩ := h
  have hc := rowcap hT.rL
  exact ⟨AL, cL, AX, cX, hT.blk.cell (i := 0) rfl, hT.blk.cell (i := 1) rfl, trow_of hT.rL, hc.1, hc.2⟩
set_option maxRecDepth 50000 in
set_option maxHeartbeats 4000000 in
theorem rput_bad (B : Nat) (F : Nat → Prop) (q : Nat) (L : List T3) (X : List (List Int)) (t : T3) (w : World) (h : RS B F w q L X) (ht : Twf t) (hL : L.length ≤ 39) (hLw : ∀ (i : Nat) u, L[i]? = some u → Twf u) (hm : mayB L X.length t = false) :
    Calls Try.prog 19 #[.pointer (some ⟨q, 0, none⟩), tv t] w fun e w' => ∃ n er L', e = .returned (.tuple #[.int .i64 n, .int .i64 er]) ∧ PutR L X.length t n er L' ∧ RS B (Grw F w w') w' q L' X ∧ Chg F w w' := by
  obtain ⟨AL, cL, AX, cX, ps, hT, hF, hFB, hBw⟩ := h
  obtain ⟨W, hW, d0, d1, d2, hB, hB3⟩ := term_world t w
  have hT1 := hT.next hB hBw
  have c0 : W.cell? ⟨q, 0, none⟩ = some (.slice AL L.length cL) := hT1.blk.cell (i := 0) rfl
  have c1 : W.cell? ⟨q, 1, none⟩ = some (.slice AX X.length cX) := hT1.blk.cell (i := 1) rfl
  have hA := trow_of hT1.rL
  have hcp := rowcap hT1.rL
  have HW := hid hW
  have HM := hid hm
  have hGB : ∀ w', Below w.heap.size w w' → ∀ b, Grw F w w' b → B ≤ b := fun w' hw b hb => by
    rcases hb with h | h
    · exact hFB b h
    · omega
  clear hW hT hm
  unfold tv
  go_enter Try.func19, Try.ntmps19
  go_upto_region 1 with (fail)
  rw [HW.out]
  go_wp2_with (go_at_call 30; refine (may_any q cL cX X.length AL AX L t _ hcp.1 hcp.2 c0 c1 hA).mono ?_; rintro e W2 ⟨rfl, hB2⟩; rw [HM.out]; have c02 := cellB c0 hB2; have hA2 := hA.below hB2; have d02 := cellB d0 hB2; have d12 := cellB d1 hB2; have d22 := cellB d2 hB2)
  go_ret2
  have hw2 : Below w.heap.size w W2 := hB.trans (hB2.mono hB.size)
  exact ⟨0, 2, L, rfl, .inl ⟨HM.out, rfl, rfl, rfl⟩, ⟨AL, cL, AX, cX, ps, hT1.next hB2 (Nat.le_trans hBw hB.size), fun b hb => .inl (hF b hb), hGB _ hw2, Nat.le_trans hBw hw2.size⟩, Chg.of hw2 F⟩
set_option maxRecDepth 50000 in
set_option maxHeartbeats 4000000 in
theorem rput_old (B : Nat) (F : Nat → Prop) (q : Nat) (L : List T3) (X : List (List Int)) (t : T3) (w : World) (h : RS B F w q L X) (ht : Twf t) (hL : L.length ≤ 39) (hLw : ∀ (i : Nat) u, L[i]? = some u → Twf u) (hm : mayB L X.length t = true) (i : Nat) (hi : L[i]? = some t) (hnd : ∀ j : Nat, L[j]? = some t → j = i) :
    Calls Try.prog 19 #[.pointer (some ⟨q, 0, none⟩), tv t] w fun e w' => ∃ n er L', e = .returned (.tuple #[.int .i64 n, .int .i64 er]) ∧ PutR L X.length t n er L' ∧ RS B (Grw F w w') w' q L' X ∧ Chg F w w' := by
  obtain ⟨AL, cL, AX, cX, ps, hT, hF, hFB, hBw⟩ := h
  obtain ⟨W, hW, d0, d1, d2, hB, hB3⟩ := term_world t w
  have hT1 := hT.next hB hBw
  have c0 : W.cell? ⟨q, 0, none⟩ = some (.slice AL L.length cL) := hT1.blk.cell (i := 0) rfl
  have c1 : W.cell? ⟨q, 1, none⟩ = some (.slice AX X.length cX) := hT1.blk.cell (i := 1) rfl
  have hA := trow_of hT1.rL
  have hcp := rowcap hT1.rL
  have HW := hid hW
  have HM := hid hm
  have hGB : ∀ w', Below w.heap.size w w' → ∀ b, Grw F w w' b → B ≤ b := fun w' hw b hb => by
    rcases hb with h | h
    · exact hFB b h
    · omega
  clear hW hT hm
  unfold tv
  go_enter Try.func19, Try.ntmps19
  go_upto_region 1 with (fail)
  rw [HW.out]
  go_wp2_with (first
    | (go_at_call 31; refine (find_any q cL AL L t _ c02 hA2 ht hLw (by omega)).mono ?_; rintro e W4 ⟨r, rfl, hB4, hr⟩; obtain rfl : r = i := (by rcases hr with ⟨_, h⟩ | ⟨j, rfl, hj⟩ <;> first | exact absurd hi (h i) | rw [hnd j hj]))
    | (go_at_call 30; refine (may_any q cL cX X.length AL AX L t _ hcp.1 hcp.2 c0 c1 hA).mono ?_; rintro e W2 ⟨rfl, hB2⟩; rw [HM.out]; have c02 := cellB c0 hB2; have hA2 := hA.below hB2; have d02 := cellB d0 hB2; have d12 := cellB d1 hB2; have d22 := cellB d2 hB2))
  go_ret2
  have hw2 : Below w.heap.size w W4 := (hB.trans (hB2.mono hB.size)).trans (hB4.mono (Nat.le_trans hB.size hB2.size))
  exact ⟨i, 0, L, rfl, .inr (.inl ⟨HM.out, i, hi, rfl, rfl, rfl⟩), ⟨AL, cL, AX, cX, ps, (hT1.next hB2 (Nat.le_trans hBw hB.size)).next hB4 (Nat.le_trans hBw (Nat.le_trans hB.size hB2.size)), fun b hb => .inl (hF b hb), hGB _ hw2, Nat.le_trans hBw hw2.size⟩, Chg.of hw2 F⟩
set_option maxRecDepth 50000 in
set_option maxHeartbeats 4000000 in
theorem rput_new (B : Nat) (F : Nat → Prop) (q : Nat) (L : List T3) (X : List (List Int)) (t : T3) (w : World) (h : RS B F w q L X) (ht : Twf t) (hL : L.length ≤ 39) (hLw : ∀ (i : Nat) u, L[i]? = some u → Twf u) (hm : mayB L X.length t = true) (hi : ∀ i : Nat, L[i]? ≠ some t) :
    Calls Try.prog 19 #[.pointer (some ⟨q, 0, none⟩), tv t] w fun e w' => ∃ n er L', e = .returned (.tuple #[.int .i64 n, .int .i64 er]) ∧ PutR L X.length t n er L' ∧ RS B (Grw F w w') w' q L' X ∧ Chg F w w' := by
  obtain ⟨AL, cL, AX, cX, ps, hT, hF, hFB, hBw⟩ := h
  obtain ⟨W, hW, d0, d1, d2, hB, hB3⟩ := term_world t w
  have hT1 := hT.next hB hBw
  have c0 : W.cell? ⟨q, 0, none⟩ = some (.slice AL L.length cL) := hT1.blk.cell (i := 0) rfl
  have c1 : W.cell? ⟨q, 1, none⟩ = some (.slice AX X.length cX) := hT1.blk.cell (i := 1) rfl
  have hA := trow_of hT1.rL
  have hcp := rowcap hT1.rL
  have HW := hid hW
  have HM := hid hm
  have hGB : ∀ w', Below w.heap.size w w' → ∀ b, Grw F w w' b → B ≤ b := fun w' hw b hb => by
    rcases hb with h | h
    · exact hFB b h
    · omega
  clear hW hT hm
  unfold tv
  go_enter Try.func19, Try.ntmps19
  go_upto_region 1 with (fail)
  rw [HW.out]
  go_upto_region 6 with (first
    | (go_at_call 31; refine (find_any q cL AL L t _ c02 hA2 ht hLw (by omega)).mono ?_; rintro e W4 ⟨r, rfl, hB4, hr⟩; obtain rfl : r = -1 := (by rcases hr with ⟨h, _⟩ | ⟨j, rfl, hj⟩ <;> first | exact h | exact absurd hj (hi j)); have c04 := cellB c02 hB4)
    | (go_at_call 30; refine (may_any q cL cX X.length AL AX L t _ hcp.1 hcp.2 c0 c1 hA).mono ?_; rintro e W2 ⟨rfl, hB2⟩; rw [HM.out]; have c02 := cellB c0 hB2; have hA2 := hA.below hB2; have d02 := cellB d0 hB2; have d12 := cellB d1 hB2; have d22 := cellB d2 hB2))
  have hz : w.heap.size ≤ W4.heap.size := Nat.le_trans hB.size (Nat.le_trans hB2.size hB4.size)
  have hT4 := (hT1.next hB2 (Nat.le_trans hBw hB.size)).next hB4 (Nat.le_trans hBw (Nat.le_trans hB.size hB2.size))
  have hB34 := (hB3.next hB2).next hB4
  have hw4 : Below w.heap.size w W4 := (hB.trans (hB2.mono hB.size)).trans (hB4.mono (Nat.le_trans hB.size hB2.size))
  clear hT1 hB3 hA hA2 c0 c1 c02 c04 d0 d1 d2 d02 d12 d22 hB hB2 hB4 hr
  refine region_evt 8 7 32 [false, true, true, true, true, true, true, false] [Is (Value.pointer (some ⟨q, 0, none⟩)), Is (Value.pointer (some ⟨q, 0, none⟩)), Is (Value.pointer (some ⟨q, 0, none⟩)), Is (Value.pointer (some ⟨q, 0, none⟩)), Is (Value.slice AL L.length cL), Is (Value.agg (tc t).toArray), IsRowV W4.heap.size 1 (tc t), (fun _ _ => True)] [21, 22, 23, 24, 25, 26, 27, 28] (AppR 33 3 (.slice AL L.length cL) L.length (flat L) (tc t)) (by kernel_rfl) (by kernel_rfl) (by kernel_rfl) (Nat.le_of_eq rfl) (grows_cons (Is.grows _) (grows_cons (Is.grows _) (grows_cons (Is.grows _) (grows_cons (Is.grows _) (grows_cons (Is.grows _) (grows_cons (Is.grows _) (grows_cons (IsRowV.grows _ _ _) (grows_cons (fun _ _ _ _ _ => trivial) grows_nil))))))))
    ⟨.inr (.inr ⟨rfl, pure_ex (Value.pointer (some ⟨q, 0, none⟩)) rfl rfl (fun a w0 ww hw hf hd => by
           have h0 : a.eval (.tmp 0) = Value.pointer (some ⟨q, 0, none⟩) := ((knows_out 0 (by kernel_rfl) rfl) : Knows _ _ _ _ _ _ 0 _ _) a w0 hw hf hd
           have hcc : ∀ c, a.eval (.const c) = c := fun _ => rfl
           revert hcc h0
           generalize a.eval = ev
           intro hcc h0
           unfold execOp
           simp only [h0, hcc]
           go_simp)⟩),
     .inr (.inl ⟨rfl, step_ex (Value.pointer (some ⟨q, 0, none⟩)) rfl (.inl rfl) rfl (fun a ww hw hf hd => by
           have h0 : a.eval (.tmp 0) = Value.pointer (some ⟨q, 0, none⟩) := ((knows_out 0 (by kernel_rfl) rfl) : Knows _ _ _ _ _ _ 1 _ _) a ww hw hf hd
           have hcc : ∀ c, a.eval (.const c) = c := fun _ => rfl
           revert hcc h0
           generalize a.eval = ev
           intro hcc h0
           unfold execOp
           simp only [h0, hcc]
           go_simp)⟩),
     .inr (.inl ⟨rfl, step_ex (Value.pointer (some ⟨q, 0, none⟩)) rfl (.inl rfl) rfl (fun a ww hw hf hd => by
           have h22 : a.eval (.tmp 22) = Value.pointer (some ⟨q, 0, none⟩) := ((knows_in 1 22 (by decide) (by kernel_rfl) rfl rfl) : Knows _ _ _ _ _ _ 2 _ _) a ww hw hf hd
           have hcc : ∀ c, a.eval (.const c) = c := fun _ => rfl
           revert hcc h22
           generalize a.eval = ev
           intro hcc h22
           unfold execOp
           simp only [h22, hcc]
           go_simp)⟩),
     .inr (.inl ⟨rfl, step_ex (Value.pointer (some ⟨q, 0, none⟩)) rfl (.inl rfl) rfl (fun a ww hw hf hd => by
           have h23 : a.eval (.tmp 23) = Value.pointer (some ⟨q, 0, none⟩) := ((knows_in 2 23 (by decide) (by kernel_rfl) rfl rfl) : Knows _ _ _ _ _ _ 3 _ _) a ww hw hf hd
           have hcc : ∀ c, a.eval (.const c) = c := fun _ => rfl
           revert hcc h23
           generalize a.eval = ev
           intro hcc h23
           unfold execOp
           simp only [h23, hcc]
           go_simp)⟩),
     .inr (.inl ⟨rfl, step_ex (Value.slice AL L.length cL) rfl (.inl rfl) rfl (fun a ww hw hf hd => by
           have h24 : a.eval (.tmp 24) = Value.pointer (some ⟨q, 0, none⟩) := ((knows_in 3 24 (by decide) (by kernel_rfl) rfl rfl) : Knows _ _ _ _ _ _ 4 _ _) a ww hw hf hd
           have f0 : ww.cell? ⟨q, 0, none⟩ = some (Value.slice AL L.length cL) := (hT4.blk.next hw).cell (i := 0) rfl
           have hcc : ∀ c, a.eval (.const c) = c := fun _ => rfl
           revert hcc h24
           generalize a.eval = ev
           intro hcc h24
           unfold execOp
           simp only [h24, hcc]
           go_simp)⟩),
     .inr (.inl ⟨rfl, step_ldV rfl (.inl rfl) (fun _ hw => (hB34.next hw).rw.range) rfl Try.underlying33 rfl (szV infT (tc_len _)) rfl (knows_out 3 (by kernel_rfl) rfl)⟩),
     .inr (.inl ⟨rfl, step_bsl (.inl rfl) rfl Try.underlying28 infT (by decide) (by decide) (vs := (tc t)) (by first | kernel_rfl | rfl) rfl (parts1 (knows_in 5 26 (by decide) (by kernel_rfl) rfl rfl))⟩),
     .inl rfl, trivial⟩ _ rfl rfl ?_ ?_
  · intro a ww hw hf hd
    have h25 : a.eval (.tmp 25) = Value.slice AL L.length cL := hd 4 25 (by decide) (by kernel_rfl) rfl
    obtain ⟨b, hb1, hb0, hb2⟩ := hd 6 27 (by decide) (by kernel_rfl) rfl
    exact evt_app rfl rfl Try.underlying28 infTb rfl (by decide) (by decide) (row_next hT4.rL hw) h25 ⟨b, hb1, hb2⟩ rfl (tc_one t) (by omega)
  intro val W2 W3 hw hS hR
  have e21 : val 21 = Value.pointer (some ⟨q, 0, none⟩) := hS 0 21 (by decide) (by decide) rfl
  have e22 : val 22 = Value.pointer (some ⟨q, 0, none⟩) := hS 1 22 (by decide) (by decide) rfl
  have e23 : val 23 = Value.pointer (some ⟨q, 0, none⟩) := hS 2 23 (by decide) (by decide) rfl
  have e24 : val 24 = Value.pointer (some ⟨q, 0, none⟩) := hS 3 24 (by decide) (by decide) rfl
  have e25 : val 25 = Value.slice AL L.length cL := hS 4 25 (by decide) (by decide) rfl
  have e26 : val 26 = Value.agg (tc t).toArray := hS 5 26 (by decide) (by decide) rfl
  have hR := hR 28 rfl
  obtain ⟨A28, c28, e28, hl28, hm28, hr28, hg28, ho28⟩ := hR
  rw [e28] at hr28 ho28
  simp only [putVals, List.foldl_cons, List.foldl_nil, List.drop_succ_cons, List.drop_zero, Act.put, List.setIfInBounds_toArray, List.set_cons_succ, List.set_cons_zero, e21, e22, e23, e24, e25, e26, e28]
  generalize val 27 = g27
  clear e21 e22 e23 e24 e25 e26 e28 hS
  have hBW4 : B ≤ W4.heap.size := Nat.le_trans hBw hz
  obtain ⟨hp, hT5, hC5, hf5⟩ := rt_app (hT4.next hw hBW4) (fun b hb => hFB b (hF b hb)) (Nat.le_trans hBW4 hw.size) hr28 hg28 ho28
  have x0 := hp.cell (i := 0) rfl
  have y0 := hp.free 0
  have hw2 : Below w.heap.size w W2 := hw4.trans (Below.mono hw hz)
  have hC6 : Chg F w (W3.setCell ⟨q, 0, none⟩ (.slice A28 (L.length + 1) c28)) := (Chg.of hw2 F).trans hC5 (fun b _ hb => hF b hb)
  obtain ⟨W7, hW7⟩ : ∃ W7, W3.setCell ⟨q, 0, none⟩ (.slice A28 (L.length + 1) c28) = W7 := ⟨_, rfl⟩
  rw [hW7] at hT5 hC6
  have HW7 := hid hW7
  clear hW7 hp hC5 hr28 hg28 ho28 hT4 hw4 hw
  clear hB34
  go_upto_region 7 with (fail)
  rw [HW7.out]
  go_wp2
  go_ret2
  refine ⟨L.length, 0, L ++ [t], rfl, .inr (.inr ⟨HM.out, hi, rfl, rfl, rfl⟩), ⟨_, _, _, _, _, hT5, fun b hb => ?_, fun b hb => ?_, Nat.le_trans hBw hC6.size⟩, hC6⟩
  · rcases hf5 b hb with h1 | h1
    · exact .inl (hF b h1)
    · exact .inr ⟨Nat.le_trans hw2.size h1, hT5.lt b hb⟩
  · rcases hb with h | h
    · exact hFB b h
    · omega
set_option maxRecDepth 50000 in
theorem rput_any (B : Nat) (F : Nat → Prop) (q : Nat) (L : List T3) (X : List (List Int)) (t : T3) (w : World) (h : RS B F w q L X) (ht : Twf t) (hL : L.length ≤ 39) (hLw : ∀ (i : Nat) u, L[i]? = some u → Twf u) (hnd : ∀ (i j : Nat) u, L[i]? = some u → L[j]? = some u → i = j) :
    Calls Try.prog 19 #[.pointer (some ⟨q, 0, none⟩), tv t] w fun e w' => ∃ n er L', e = .returned (.tuple #[.int .i64 n, .int .i64 er]) ∧ PutR L X.length t n er L' ∧ RS B (Grw F w w') w' q L' X ∧ Chg F w w' := by
  cases hm : mayB L X.length t with
  | false => exact rput_bad B F q L X t w h ht hL hLw hm
  | true =>
    by_cases hi : ∃ i : Nat, L[i]? = some t
    · obtain ⟨i, hi⟩ := hi
      exact rput_old B F q L X t w h ht hL hLw hm i hi (fun j hj => hnd j i t hj hi)
    · exact rput_new B F q L X t w h ht hL hLw hm (fun i e => hi ⟨i, e⟩)
end Go.Proofs.Ytechhbljjnffaaa
