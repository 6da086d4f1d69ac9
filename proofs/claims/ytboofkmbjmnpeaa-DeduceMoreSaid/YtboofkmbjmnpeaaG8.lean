/- Texts of this proof, laid together: TRPut, TRDraw. -/
import Derived.Test.YtboofkmbjmnpeaaTRefM
/- Put and Draw on the reference's store. -/
namespace Go.Proofs.Ytboofkmbjmnpeaa
open Go Go.RowKit Go.Maps

set_option maxRecDepth 50000 in
/-- The terms' row after an append of one term, stored back. -/
theorem rt_app {B : Nat} {W W' : World} {q : Nat} {AL AX A : Option Addr} {cL cX c : Nat} {ps : List Value} {L : List T3} {X : List (List Int)} {t : T3} (hT : RT B W q AL cL AX cX ps L X) (hB : ∀ b, footR q AL AX b → B ≤ b) (hBW : B ≤ W.heap.size)
    (hr : W'.ownsRow 0 50 3 (.slice A (L.length + 1) c) (L.length + 1) (flat L ++ tc t)) (hg : W.grownBy W' (Value.slice AL L.length cL).ownBlock) (ho : (Value.slice A (L.length + 1) c).ownBlock = (Value.slice AL L.length cL).ownBlock ∨ (Value.slice A (L.length + 1) c).ownBlock = some W.heap.size) :
    Blk W' q 70 [.slice AL L.length cL, .slice AX X.length cX] ∧ RT B (W'.setCell ⟨q, 0, none⟩ (.slice A (L.length + 1) c)) q A c AX cX ps (L ++ [t]) X ∧ Chg (footR q AL AX) W (W'.setCell ⟨q, 0, none⟩ (.slice A (L.length + 1) c)) ∧ (∀ b, footR q A AX b → footR q AL AX b ∨ W.heap.size ≤ b) := by
  have hl : (L ++ [t]).length = L.length + 1 := by simp
  have hf : flat (L ++ [t]) = flat L ++ tc t := by rw [flat_app, flat_one]
  have hp := hT.blk.grown hg (blk_ne hT.blk hT.rL (by decide))
  have rX := hT.rX.kept hg (row_ne hT.rX hT.rL (by decide))
  have hC : Chg (footR q AL AX) W W' := (Chg.refl _ W).grown hg (fun g e => .inl (.inr (.inl (by rw [← e]; exact (own00 _ _ _).symm))))
  have hC2 := hC.setCell (p := ⟨q, 0, none⟩) (.inl (.inl rfl)) (.slice A (L.length + 1) c)
  refine ⟨hp, ⟨by rw [hl]; exact hp.set 0 _, by rw [hl, hf]; exact row_setC hr hp (by decide) 0 _, row_setC rX hp (by decide) 0 _, hT.tx.chg hC2 hB hBW⟩, hC2, fun b hb => ?_⟩
  rcases hb with h | h | h
  · exact .inl (.inl h)
  · rcases ho with h1 | h1
    · exact .inl (.inr (.inl ((own00 _ _ _).symm.trans (h1.symm.trans ((own00 _ _ _).trans h)))))
    · have e := (own00 A (L.length + 1) c).trans h
      rw [h1] at e; injection e with e; exact .inr (by omega)
  · exact .inl (.inr (.inr h))
set_option maxRecDepth 50000 in
theorem RS.cells {B : Nat} {F : Nat → Prop} {w : World} {q : Nat} {L : List T3} {X : List (List Int)} (h : RS B F w q L X) : ∃ A c AX cX, w.cell? ⟨q, 0, none⟩ = some (.slice A L.length c) ∧ w.cell? ⟨q, 1, none⟩ = some (.slice AX X.length cX) ∧ TRow w A L ∧ L.length ≤ c ∧ c ≤ maxLen := by
  obtain ⟨AL, cL, AX, cX, ps, hT, h1, h2, h3⟩ := h
  have hc := rowcap hT.rL
  exact ⟨AL, cL, AX, cX, hT.blk.cell (i := 0) rfl, hT.blk.cell (i := 1) rfl, trow_of hT.rL, hc.1, hc.2⟩
set_option maxRecDepth 50000 in
set_option maxHeartbeats 4000000 in
theorem rput_bad (B : Nat) (F : Nat → Prop) (q : Nat) (L : List T3) (X : List (List Int)) (t : T3) (w : World) (h : RS B F w q L X) (ht : Twf t) (hL : L.length ≤ 39) (hLw : ∀ (i : Nat) u, L[i]? = some u → Twf u) (hm : mayB L X.length t = false) :
    Calls Try.prog 27 #[.pointer (some ⟨q, 0, none⟩), tv t] w fun e w' => ∃ n er L', e = .returned (.tuple #[.int .i64 n, .int .i64 er]) ∧ PutR L X.length t n er L' ∧ RS B (Grw F w w') w' q L' X ∧ Chg F w w' := by
  obtain ⟨AL, cL, AX, cX, ps, hT, hF, hFB, hBw⟩ := h
  obtain ⟨W, hW, d0, d1, d2, hB, hB3⟩ := term_world t w
  have hT1 := hT.next hB hBw
  have c0 : W.cell? ⟨q, 0, none⟩ = some (.slice AL L.length cL) := hT1.blk.cell (i := 0) rfl
  have c1 : W.cell? ⟨q, 1, none⟩ = some (.slice AX X.length cX) := hT1.blk.cell (i := 1) rfl
  have hA := trow_of hT1.rL
  have hcp := rowcap hT1.rL
  have HW := hid hW
  have HM := hid hm
  have hGB : ∀ w', Below w.heap.size w w' → ∀ b, Grw F w w' b → B ≤ b := fun w' hw b hb => by
    rcases hb with h | h
    · exact hFB b h
    · omega
  clear hW hT hm
  unfold tv
  go_enter Try.func27, Try.ntmps27
  go_upto_region 1 with (fail)
  rw [HW.out]
  go_wp2_with (go_at_call 43; refine (may_any q cL cX X.length AL AX L t _ hcp.1 hcp.2 c0 c1 hA).mono ?_; rintro e W2 ⟨rfl, hB2⟩; rw [HM.out]; have c02 := cellB c0 hB2; have hA2 := hA.below hB2; have d02 := cellB d0 hB2; have d12 := cellB d1 hB2; have d22 := cellB d2 hB2)
  go_ret2
  have hw2 : Below w.heap.size w W2 := hB.trans (hB2.mono hB.size)
  exact ⟨0, 2, L, rfl, .inl ⟨HM.out, rfl, rfl, rfl⟩, ⟨AL, cL, AX, cX, ps, hT1.next hB2 (Nat.le_trans hBw hB.size), fun b hb => .inl (hF b hb), hGB _ hw2, Nat.le_trans hBw hw2.size⟩, Chg.of hw2 F⟩
set_option maxRecDepth 50000 in
set_option maxHeartbeats 4000000 in
theorem rput_old (B : Nat) (F : Nat → Prop) (q : Nat) (L : List T3) (X : List (List Int)) (t : T3) (w : World) (h : RS B F w q L X) (ht : Twf t) (hL : L.length ≤ 39) (hLw : ∀ (i : Nat) u, L[i]? = some u → Twf u) (hm : mayB L X.length t = true) (i : Nat) (hi : L[i]? = some t) (hnd : ∀ j : Nat, L[j]? = some t → j = i) :
    Calls Try.prog 27 #[.pointer (some ⟨q, 0, none⟩), tv t] w fun e w' => ∃ n er L', e = .returned (.tuple #[.int .i64 n, .int .i64 er]) ∧ PutR L X.length t n er L' ∧ RS B (Grw F w w') w' q L' X ∧ Chg F w w' := by
  obtain ⟨AL, cL, AX, cX, ps, hT, hF, hFB, hBw⟩ := h
  obtain ⟨W, hW, d0, d1, d2, hB, hB3⟩ := term_world t w
  have hT1 := hT.next hB hBw
  have c0 : W.cell? ⟨q, 0, none⟩ = some (.slice AL L.length cL) := hT1.blk.cell (i := 0) rfl
  have c1 : W.cell? ⟨q, 1, none⟩ = some (.slice AX X.length cX) := hT1.blk.cell (i := 1) rfl
  have hA := trow_of hT1.rL
  have hcp := rowcap hT1.rL
  have HW := hid hW
  have HM := hid hm
  have hGB : ∀ w', Below w.heap.size w w' → ∀ b, Grw F w w' b → B ≤ b := fun w' hw b hb => by
    rcases hb with h | h
    · exact hFB b h
    · omega
  clear hW hT hm
  unfold tv
  go_enter Try.func27, Try.ntmps27
  go_upto_region 1 with (fail)
  rw [HW.out]
  go_wp2_with (first
    | (go_at_call 44; refine (find_any q cL AL L t _ c02 hA2 ht hLw (by omega)).mono ?_; rintro e W4 ⟨r, rfl, hB4, hr⟩; obtain rfl : r = i := (by rcases hr with ⟨_, h⟩ | ⟨j, rfl, hj⟩ <;> first | exact absurd hi (h i) | rw [hnd j hj]))
    | (go_at_call 43; refine (may_any q cL cX X.length AL AX L t _ hcp.1 hcp.2 c0 c1 hA).mono ?_; rintro e W2 ⟨rfl, hB2⟩; rw [HM.out]; have c02 := cellB c0 hB2; have hA2 := hA.below hB2; have d02 := cellB d0 hB2; have d12 := cellB d1 hB2; have d22 := cellB d2 hB2))
  go_ret2
  have hw2 : Below w.heap.size w W4 := (hB.trans (hB2.mono hB.size)).trans (hB4.mono (Nat.le_trans hB.size hB2.size))
  exact ⟨i, 0, L, rfl, .inr (.inl ⟨HM.out, i, hi, rfl, rfl, rfl⟩), ⟨AL, cL, AX, cX, ps, (hT1.next hB2 (Nat.le_trans hBw hB.size)).next hB4 (Nat.le_trans hBw (Nat.le_trans hB.size hB2.size)), fun b hb => .inl (hF b hb), hGB _ hw2, Nat.le_trans hBw hw2.size⟩, Chg.of hw2 F⟩
set_option maxRecDepth 50000 in
set_option maxHeartbeats 4000000 in
theorem rput_new (B : Nat) (F : Nat → Prop) (q : Nat) (L : List T3) (X : List (List Int)) (t : T3) (w : World) (h : RS B F w q L X) (ht : Twf t) (hL : L.length ≤ 39) (hLw : ∀ (i : Nat) u, L[i]? = some u → Twf u) (hm : mayB L X.length t = true) (hi : ∀ i : Nat, L[i]? ≠ some t) :
    Calls Try.prog 27 #[.pointer (some ⟨q, 0, none⟩), tv t] w fun e w' => ∃ n er L', e = .returned (.tuple #[.int .i64 n, .int .i64 er]) ∧ PutR L X.length t n er L' ∧ RS B (Grw F w w') w' q L' X ∧ Chg F w w' := by
  obtain ⟨AL, cL, AX, cX, ps, hT, hF, hFB, hBw⟩ := h
  obtain ⟨W, hW, d0, d1, d2, hB, hB3⟩ := term_world t w
  have hT1 := hT.next hB hBw
  have c0 : W.cell? ⟨q, 0, none⟩ = some (.slice AL L.length cL) := hT1.blk.cell (i := 0) rfl
  have c1 : W.cell? ⟨q, 1, none⟩ = some (.slice AX X.length cX) := hT1.blk.cell (i := 1) rfl
  have hA := trow_of hT1.rL
  have hcp := rowcap hT1.rL
  have HW := hid hW
  have HM := hid hm
  have hGB : ∀ w', Below w.heap.size w w' → ∀ b, Grw F w w' b → B ≤ b := fun w' hw b hb => by
    rcases hb with h | h
    · exact hFB b h
    · omega
  clear hW hT hm
  unfold tv
  go_enter Try.func27, Try.ntmps27
  go_upto_region 1 with (fail)
  rw [HW.out]
  go_upto_region 6 with (first
    | (go_at_call 44; refine (find_any q cL AL L t _ c02 hA2 ht hLw (by omega)).mono ?_; rintro e W4 ⟨r, rfl, hB4, hr⟩; obtain rfl : r = -1 := (by rcases hr with ⟨h, _⟩ | ⟨j, rfl, hj⟩ <;> first | exact h | exact absurd hj (hi j)); have c04 := cellB c02 hB4)
    | (go_at_call 43; refine (may_any q cL cX X.length AL AX L t _ hcp.1 hcp.2 c0 c1 hA).mono ?_; rintro e W2 ⟨rfl, hB2⟩; rw [HM.out]; have c02 := cellB c0 hB2; have hA2 := hA.below hB2; have d02 := cellB d0 hB2; have d12 := cellB d1 hB2; have d22 := cellB d2 hB2))
  have hz : w.heap.size ≤ W4.heap.size := Nat.le_trans hB.size (Nat.le_trans hB2.size hB4.size)
  have hT4 := (hT1.next hB2 (Nat.le_trans hBw hB.size)).next hB4 (Nat.le_trans hBw (Nat.le_trans hB.size hB2.size))
  have hB34 := (hB3.next hB2).next hB4
  have hw4 : Below w.heap.size w W4 := (hB.trans (hB2.mono hB.size)).trans (hB4.mono (Nat.le_trans hB.size hB2.size))
  clear hT1 hB3 hA hA2 c0 c1 c02 c04 d0 d1 d2 d02 d12 d22 hB hB2 hB4 hr
  refine region_evt 8 7 32 [false, true, true, true, true, true, true, false] [Is (Value.pointer (some ⟨q, 0, none⟩)), Is (Value.pointer (some ⟨q, 0, none⟩)), Is (Value.pointer (some ⟨q, 0, none⟩)), Is (Value.pointer (some ⟨q, 0, none⟩)), Is (Value.slice AL L.length cL), Is (Value.agg (tc t).toArray), IsRowV W4.heap.size 1 (tc t), (fun _ _ => True)] [21, 22, 23, 24, 25, 26, 27, 28] (AppR 50 3 (.slice AL L.length cL) L.length (flat L) (tc t)) (by kernel_rfl) (by kernel_rfl) (by kernel_rfl) (Nat.le_of_eq rfl) (grows_cons (Is.grows _) (grows_cons (Is.grows _) (grows_cons (Is.grows _) (grows_cons (Is.grows _) (grows_cons (Is.grows _) (grows_cons (Is.grows _) (grows_cons (IsRowV.grows _ _ _) (grows_cons (fun _ _ _ _ _ => trivial) grows_nil))))))))
    ⟨.inr (.inr ⟨rfl, pure_ex (Value.pointer (some ⟨q, 0, none⟩)) rfl rfl (fun a w0 ww hw hf hd => by
           have h0 : a.eval (.tmp 0) = Value.pointer (some ⟨q, 0, none⟩) := ((knows_out 0 (by kernel_rfl) rfl) : Knows _ _ _ _ _ _ 0 _ _) a w0 hw hf hd
           have hcc : ∀ c, a.eval (.const c) = c := fun _ => rfl
           revert hcc h0
           generalize a.eval = ev
           intro hcc h0
           unfold execOp
           simp only [h0, hcc]
           go_simp)⟩),
     .inr (.inl ⟨rfl, step_ex (Value.pointer (some ⟨q, 0, none⟩)) rfl (.inl rfl) rfl (fun a ww hw hf hd => by
           have h0 : a.eval (.tmp 0) = Value.pointer (some ⟨q, 0, none⟩) := ((knows_out 0 (by kernel_rfl) rfl) : Knows _ _ _ _ _ _ 1 _ _) a ww hw hf hd
           have hcc : ∀ c, a.eval (.const c) = c := fun _ => rfl
           revert hcc h0
           generalize a.eval = ev
           intro hcc h0
           unfold execOp
           simp only [h0, hcc]
           go_simp)⟩),
     .inr (.inl ⟨rfl, step_ex (Value.pointer (some ⟨q, 0, none⟩)) rfl (.inl rfl) rfl (fun a ww hw hf hd => by
           have h22 : a.eval (.tmp 22) = Value.pointer (some ⟨q, 0, none⟩) := ((knows_in 1 22 (by decide) (by kernel_rfl) rfl rfl) : Knows _ _ _ _ _ _ 2 _ _) a ww hw hf hd
           have hcc : ∀ c, a.eval (.const c) = c := fun _ => rfl
           revert hcc h22
           generalize a.eval = ev
           intro hcc h22
           unfold execOp
           simp only [h22, hcc]
           go_simp)⟩),
     .inr (.inl ⟨rfl, step_ex (Value.pointer (some ⟨q, 0, none⟩)) rfl (.inl rfl) rfl (fun a ww hw hf hd => by
           have h23 : a.eval (.tmp 23) = Value.pointer (some ⟨q, 0, none⟩) := ((knows_in 2 23 (by decide) (by kernel_rfl) rfl rfl) : Knows _ _ _ _ _ _ 3 _ _) a ww hw hf hd
           have hcc : ∀ c, a.eval (.const c) = c := fun _ => rfl
           revert hcc h23
           generalize a.eval = ev
           intro hcc h23
           unfold execOp
           simp only [h23, hcc]
           go_simp)⟩),
     .inr (.inl ⟨rfl, step_ex (Value.slice AL L.length cL) rfl (.inl rfl) rfl (fun a ww hw hf hd => by
           have h24 : a.eval (.tmp 24) = Value.pointer (some ⟨q, 0, none⟩) := ((knows_in 3 24 (by decide) (by kernel_rfl) rfl rfl) : Knows _ _ _ _ _ _ 4 _ _) a ww hw hf hd
           have f0 : ww.cell? ⟨q, 0, none⟩ = some (Value.slice AL L.length cL) := (hT4.blk.next hw).cell (i := 0) rfl
           have hcc : ∀ c, a.eval (.const c) = c := fun _ => rfl
           revert hcc h24
           generalize a.eval = ev
           intro hcc h24
           unfold execOp
           simp only [h24, hcc]
           go_simp)⟩),
     .inr (.inl ⟨rfl, step_ldV rfl (.inl rfl) (fun _ hw => (hB34.next hw).rw.range) rfl Try.underlying50 rfl (szV infT (tc_len _)) rfl (knows_out 3 (by kernel_rfl) rfl)⟩),
     .inr (.inl ⟨rfl, step_bsl (.inl rfl) rfl Try.underlying31 infT (by decide) (by decide) (vs := (tc t)) (by first | kernel_rfl | rfl) rfl (parts1 (knows_in 5 26 (by decide) (by kernel_rfl) rfl rfl))⟩),
     .inl rfl, trivial⟩ _ rfl rfl ?_ ?_
  · intro a ww hw hf hd
    have h25 : a.eval (.tmp 25) = Value.slice AL L.length cL := hd 4 25 (by decide) (by kernel_rfl) rfl
    obtain ⟨b, hb1, hb0, hb2⟩ := hd 6 27 (by decide) (by kernel_rfl) rfl
    exact evt_app rfl rfl Try.underlying31 infTb rfl (by decide) (by decide) (row_next hT4.rL hw) h25 ⟨b, hb1, hb2⟩ rfl (tc_one t) (by omega)
  intro val W2 W3 hw hS hR
  have e21 : val 21 = Value.pointer (some ⟨q, 0, none⟩) := hS 0 21 (by decide) (by decide) rfl
  have e22 : val 22 = Value.pointer (some ⟨q, 0, none⟩) := hS 1 22 (by decide) (by decide) rfl
  have e23 : val 23 = Value.pointer (some ⟨q, 0, none⟩) := hS 2 23 (by decide) (by decide) rfl
  have e24 : val 24 = Value.pointer (some ⟨q, 0, none⟩) := hS 3 24 (by decide) (by decide) rfl
  have e25 : val 25 = Value.slice AL L.length cL := hS 4 25 (by decide) (by decide) rfl
  have e26 : val 26 = Value.agg (tc t).toArray := hS 5 26 (by decide) (by decide) rfl
  have hR := hR 28 rfl
  obtain ⟨A28, c28, e28, hl28, hm28, hr28, hg28, ho28⟩ := hR
  rw [e28] at hr28 ho28
  simp only [putVals, List.foldl_cons, List.foldl_nil, List.drop_succ_cons, List.drop_zero, Act.put, List.setIfInBounds_toArray, List.set_cons_succ, List.set_cons_zero, e21, e22, e23, e24, e25, e26, e28]
  generalize val 27 = g27
  clear e21 e22 e23 e24 e25 e26 e28 hS
  have hBW4 : B ≤ W4.heap.size := Nat.le_trans hBw hz
  obtain ⟨hp, hT5, hC5, hf5⟩ := rt_app (hT4.next hw hBW4) (fun b hb => hFB b (hF b hb)) (Nat.le_trans hBW4 hw.size) hr28 hg28 ho28
  have x0 := hp.cell (i := 0) rfl
  have y0 := hp.free 0
  have hw2 : Below w.heap.size w W2 := hw4.trans (Below.mono hw hz)
  have hC6 : Chg F w (W3.setCell ⟨q, 0, none⟩ (.slice A28 (L.length + 1) c28)) := (Chg.of hw2 F).trans hC5 (fun b _ hb => hF b hb)
  obtain ⟨W7, hW7⟩ : ∃ W7, W3.setCell ⟨q, 0, none⟩ (.slice A28 (L.length + 1) c28) = W7 := ⟨_, rfl⟩
  rw [hW7] at hT5 hC6
  have HW7 := hid hW7
  clear hW7 hp hC5 hr28 hg28 ho28 hT4 hw4 hw
  clear hB34
  go_upto_region 7 with (fail)
  rw [HW7.out]
  go_wp2
  go_ret2
  refine ⟨L.length, 0, L ++ [t], rfl, .inr (.inr ⟨HM.out, hi, rfl, rfl, rfl⟩), ⟨_, _, _, _, _, hT5, fun b hb => ?_, fun b hb => ?_, Nat.le_trans hBw hC6.size⟩, hC6⟩
  · rcases hf5 b hb with h1 | h1
    · exact .inl (hF b h1)
    · exact .inr ⟨Nat.le_trans hw2.size h1, hT5.lt b hb⟩
  · rcases hb with h | h
    · exact hFB b h
    · omega
set_option maxRecDepth 50000 in
theorem rput_any (B : Nat) (F : Nat → Prop) (q : Nat) (L : List T3) (X : List (List Int)) (t : T3) (w : World) (h : RS B F w q L X) (ht : Twf t) (hL : L.length ≤ 39) (hLw : ∀ (i : Nat) u, L[i]? = some u → Twf u) (hnd : ∀ (i j : Nat) u, L[i]? = some u → L[j]? = some u → i = j) :
    Calls Try.prog 27 #[.pointer (some ⟨q, 0, none⟩), tv t] w fun e w' => ∃ n er L', e = .returned (.tuple #[.int .i64 n, .int .i64 er]) ∧ PutR L X.length t n er L' ∧ RS B (Grw F w w') w' q L' X ∧ Chg F w w' := by
  cases hm : mayB L X.length t with
  | false => exact rput_bad B F q L X t w h ht hL hLw hm
  | true =>
    by_cases hi : ∃ i : Nat, L[i]? = some t
    · obtain ⟨i, hi⟩ := hi
      exact rput_old B F q L X t w h ht hL hLw hm i hi (fun j hj => hnd j i t hj hi)
    · exact rput_new B F q L X t w h ht hL hLw hm (fun i e => hi ⟨i, e⟩)
end Go.Proofs.Ytboofkmbjmnpeaa

/- Draw on the reference's store. -/
namespace Go.Proofs.Ytboofkmbjmnpeaa
open Go Go.RowKit Go.Maps

set_option maxRecDepth 50000 in
set_option maxHeartbeats 1000000 in
theorem rdraw_bad (B : Nat) (F : Nat → Prop) (q : Nat) (L : List T3) (X : List (List Int)) (s : Int) (w : World) (h : RS B F w q L X) (hs : ¬ (1 ≤ s ∧ s ≤ 4)) :
    Calls Try.prog 28 #[.pointer (some ⟨q, 0, none⟩), .int .i64 s] w fun e w' => ∃ n er L', e = .returned (.tuple #[.int .i64 n, .int .i64 er]) ∧ DrawR L s n er L' ∧ RS B (Grw F w w') w' q L' X ∧ Chg F w w' := by
  have HS := hid hs
  have hr : RS B (Grw F w w) w q L X := h.sub (fun b _ hb => .inl hb) (fun b hb => by
    obtain ⟨AL, cL, AX, cX, ps, hT, hF, hFB, hBw⟩ := h
    rcases hb with h1 | h1
    · exact hFB b h1
    · omega)
  by_cases h1 : 1 ≤ s
  · have e1 : decide (s < 1) = false := decide_eq_false (by omega)
    have e2 : decide (4 < s) = true := decide_eq_true (by omega)
    clear hs h1
    go_enter Try.func28, Try.ntmps28
    go_wp2
    go_ret2
    exact ⟨0, 2, L, rfl, .inl ⟨HS.out, rfl, rfl, rfl⟩, hr, Chg.refl F w⟩
  · have e1 : decide (s < 1) = true := decide_eq_true (by omega)
    clear hs h1
    go_enter Try.func28, Try.ntmps28
    go_wp2
    go_ret2
    exact ⟨0, 2, L, rfl, .inl ⟨HS.out, rfl, rfl, rfl⟩, hr, Chg.refl F w⟩
/-- What the loop has met. -/
def DrawI (L : List T3) (s v : Int) (k : Nat) : Prop := (∀ (j : Nat) (b : Int), j < k → L[j]? = some (1, s, b) → b < v) ∧ (v = 0 ∨ ∃ i : Nat, L[i]? = some (1, s, v - 1)) ∧ 0 ≤ v ∧ v ≤ 4611686018427387904
set_option maxRecDepth 50000 in
theorem DrawI.skip {L : List T3} {s v : Int} {k : Nat} {u : T3} (h : DrawI L s v k) (hu : L[k]? = some u) (hn : ¬ (u.1 = 1 ∧ u.2.1 = s ∧ v ≤ u.2.2)) : DrawI L s v (k + 1) :=
  ⟨fun j b hj hb => by
    by_cases e : j = k
    · subst e
      rw [hu] at hb; injection hb with hb
      subst hb
      refine Int.not_le.1 fun h => hn ⟨rfl, rfl, h⟩
    · exact h.1 j b (by omega) hb, h.2⟩
set_option maxRecDepth 50000 in
theorem DrawI.take {L : List T3} {s v b : Int} {k : Nat} (h : DrawI L s v k) (hu : L[k]? = some (1, s, b)) (h1 : v ≤ b) (h2 : b < 4611686018427387904) : DrawI L s (b + 1) (k + 1) :=
  ⟨fun j c hj hc => by
    by_cases e : j = k
    · subst e
      rw [hu] at hc; injection hc with hc
      injection hc with _ hc; injection hc with _ hc
      omega
    · have := h.1 j c (by omega) hc; omega, .inr ⟨k, by rw [hu, Int.add_sub_cancel]⟩, by have := h.2.2.1; omega, by omega⟩
set_option maxRecDepth 50000 in
set_option maxHeartbeats 4000000 in
theorem rdraw_ok (B : Nat) (F : Nat → Prop) (q : Nat) (L : List T3) (X : List (List Int)) (s : Int) (w : World) (h : RS B F w q L X) (hL : L.length ≤ 39) (hs : 1 ≤ s ∧ s ≤ 4) :
    Calls Try.prog 28 #[.pointer (some ⟨q, 0, none⟩), .int .i64 s] w fun e w' => ∃ n er L', e = .returned (.tuple #[.int .i64 n, .int .i64 er]) ∧ DrawR L s n er L' ∧ RS B (Grw F w w') w' q L' X ∧ Chg F w w' := by
  have hr0 := h
  obtain ⟨AL, cL, AX, cX, ps, hT, hF, hFB, hBw⟩ := h
  have hGB : ∀ w', w.heap.size ≤ w'.heap.size → ∀ b, Grw F w w' b → B ≤ b := fun w' hw b hb => by
    rcases hb with h | h
    · exact hFB b h
    · omega
  have c0 : w.cell? ⟨q, 0, none⟩ = some (.slice AL L.length cL) := hT.blk.cell (i := 0) rfl
  have hA := trow_of hT.rL
  have e1 : decide (s < 1) = false := decide_eq_false (by omega)
  have e2 : decide (4 < s) = false := decide_eq_false (by omega)
  have HS := hid hs
  have HL := hid hL
  have HR := hid (hr0.sub (G := Grw F w w) (fun b _ hb => .inl hb) (hGB w (Nat.le_refl _)))
  have hL2 : (L.length : Int) ≤ 39 := by omega
  clear hs hL hr0
  go_enter Try.func28, Try.ntmps28
  go_wp2
  clear e1 e2
  go_loopw [6, 7] (fun b v wr => ∃ (k : Nat) (x : Int), k ≤ L.length ∧ b = .int .i64 x ∧ v = .int .i64 k ∧ Hid (DrawI L s x k) ∧ Hid (w = wr)) (fun _ v _ => L.length - (intOf v).toNat)
  case atStart => exact ⟨0, 0, Nat.zero_le _, rfl, rfl, hid ⟨fun j b hj => absurd hj (Nat.not_lt_zero _), .inl rfl, by decide, by decide⟩, hid rfl⟩
  case round =>
    obtain ⟨k, x, hk, rfl, rfl, HI, HWR⟩ := hrel
    obtain rfl := HWR.out
    clear HWR
    by_cases hlt : k < L.length
    · obtain ⟨u, hu⟩ : ∃ u, L[k]? = some u := ⟨L[k], by simp [hlt]⟩
      obtain ⟨g, rfl, hg, hcell⟩ := hA (by omega)
      obtain ⟨x0, x1, x2⟩ := hcell k u hu
      have hkl : (k : Int) < L.length := by omega
      have hk0 : (0 : Int) ≤ k := by omega
      have hm : k + 1 ≤ L.length := by omega
      have HU := hid hu
      have hx0 := HI.out.2.2
      have HX0 := hid hx0
      clear hcell hu hlt hx0
      by_cases y0 : u.1 = 1
      · have z0 : (u.1 == 1) = true := by rw [y0]; rfl
        by_cases y1 : u.2.1 = s
        · have z1 : (u.2.1 == s) = true := by rw [y1]; exact beq_self_eq_true s
          by_cases y2 : x ≤ u.2.2
          · have z2 : decide (x ≤ u.2.2) = true := decide_eq_true y2
            obtain ⟨b, hb⟩ : ∃ b, u.2.2 = b := ⟨_, rfl⟩
            have hU2 : L[k]? = some (1, s, b) := by rw [HU.out, ← y0, ← y1, ← hb]
            rw [hb] at x2 y2 z2
            by_cases y3 : 4611686018427387904 ≤ b
            · have z3 : decide (4611686018427387904 ≤ b) = true := decide_eq_true y3
              have HD : Hid (∃ (i : Nat) (b : Int), L[i]? = some (1, s, b) ∧ 4611686018427387904 ≤ b) := hid ⟨k, b, hU2, y3⟩
              clear y0 y1 y2 y3 hb hU2 hk hm
              go_wp2
              go_ret2
              exact ⟨0, 3, L, rfl, .inr (.inl ⟨HS.out, HD.out, rfl, rfl, rfl⟩), HR.out, Chg.refl F w⟩
            · have z3 : decide (4611686018427387904 ≤ b) = false := decide_eq_false y3
              have hw3 : IntKind.i64.wrap (b + 1) = b + 1 := IntWalk.i64_in _ ⟨by have := HX0.out; omega, by omega⟩
              have HD := hid (HI.out.take hU2 y2 (by omega))
              clear y0 y1 y2 y3 hb hU2 hk
              go_wp2
              go_roundw
              case rel => exact ⟨k + 1, b + 1, hm, rfl, by go_num, HD, hid trivial⟩
              case measure => simp [intOf]; omega
          · have z2 : decide (x ≤ u.2.2) = false := decide_eq_false y2
            have HD := hid (HI.out.skip HU.out (fun h => y2 h.2.2))
            clear y0 y1 y2 hk
            go_wp2
            go_roundw
            case rel => exact ⟨k + 1, x, hm, rfl, by go_num, HD, hid trivial⟩
            case measure => simp [intOf]; omega
        · have z1 : (u.2.1 == s) = false := beq_false_of_ne y1
          have HD := hid (HI.out.skip HU.out (fun h => y1 h.2.1))
          clear y0 y1 hk
          go_wp2
          go_roundw
          case rel => exact ⟨k + 1, x, hm, rfl, by go_num, HD, hid trivial⟩
          case measure => simp [intOf]; omega
      · have z0 : (u.1 == 1) = false := beq_false_of_ne y0
        have HD := hid (HI.out.skip HU.out (fun h => y0 h.1))
        clear y0 hk
        go_wp2
        go_roundw
        case rel => exact ⟨k + 1, x, hm, rfl, by go_num, HD, hid trivial⟩
        case measure => simp [intOf]; omega
    · have hge : ¬ (k : Int) < L.length := by omega
      have e : k = L.length := by omega
      subst e
      obtain ⟨g1, g2, g3⟩ := HI.out
      have HD : Hid ((∀ (i : Nat) (b : Int), L[i]? = some (1, s, b) → b < x) ∧ (x = 0 ∨ ∃ i : Nat, L[i]? = some (1, s, x - 1)) ∧ 0 ≤ x ∧ x ≤ 4611686018427387904) := hid ⟨fun i b hb => g1 i b (get_lt hb) hb, g2, g3⟩
      have ht : Twf (1, s, x) := ⟨by show (Lit.int .i64 1).wf = true; decide, by show (Lit.int .i64 s).wf = true; exact WalkArith.wf_i64 (by have := HS.out; omega), by show (Lit.int .i64 x).wf = true; exact WalkArith.wf_i64 (by omega)⟩
      have hn0 := below_new w (.cells #[.int .i64 1, .int .i64 s, .int .i64 x] 50)
      have hT6 := hT.next hn0 hBw
      have HR6 : Rw (w.alloc (.cells #[.int .i64 1, .int .i64 s, .int .i64 x] 50)) w.heap.size 0 (tc (1, s, x)) := Rw.new w (tc (1, s, x)) 50
      obtain ⟨W6, hW6⟩ : ∃ W6, w.alloc (.cells #[.int .i64 1, .int .i64 s, .int .i64 x] 50) = W6 := ⟨_, rfl⟩
      rw [hW6] at hn0 hT6 HR6
      have HW6 := hid hW6
      have hL1000 : L.length ≤ 1000 := by have := HL.out; omega
      have hB6 : B ≤ W6.heap.size := Nat.le_trans hBw hn0.size
      clear g1 g2 g3 hk hlt hA HI hW6
      go_upto_region 12 with (at_builtin; rw [HW6.out]; refine wpList_app1 rfl (.tmp 78) (.tmp 82) 31 50 rfl Try.underlying31 infTb rfl (by decide) (by decide) hT6.rL rfl w.heap.size rfl HR6 rfl (tc_one _) hL1000 ?_; rintro u W7 ⟨A7, c7, rfl, hl7, hm7, hr7, hg7, ho7⟩; obtain ⟨hp, hT8, hC8, hf8⟩ := rt_app hT6 (fun b hb => hFB b (hF b hb)) hB6 hr7 hg7 ho7; have x0 := hp.cell (i := 0) rfl; have y0 := hp.free 0)
      obtain ⟨W8, hW8⟩ : ∃ W8, W7.setCell ⟨q, 0, none⟩ (.slice A7 (L.length + 1) c7) = W8 := ⟨_, rfl⟩
      rw [hW8] at hT8 hC8 ⊢
      have hl : (L ++ [(1, s, x)]).length = L.length + 1 := by simp
      have c08 : W8.cell? ⟨q, 0, none⟩ = some (.slice A7 (L.length + 1) c7) := by have := hT8.blk.cell (i := 0) rfl; rw [hl] at this; exact this
      have hC9 : Chg F w W8 := (Chg.of hn0 F).trans hC8 (fun b _ hb => hF b hb)
      have hwl : IntKind.i64.wrap ((L.length : Int) + 1 - 1) = L.length := by rw [show (L.length : Int) + 1 - 1 = L.length by omega]; exact IntWalk.i64_in _ ⟨by omega, by omega⟩
      clear hW8 hp x0 y0 hC8 hr7 hg7 ho7 hT6 HR6 c0 hT
      go_wp2
      go_ret2
      refine ⟨L.length, 0, ?_, L ++ [(1, s, x)], .inr (.inr ⟨HS.out, x, HD.out.1, HD.out.2.1, HD.out.2.2.1, HD.out.2.2.2, rfl, rfl, rfl⟩), ⟨_, _, _, _, _, hT8, fun b hb => ?_, hGB W8 hC9.size, Nat.le_trans hBw hC9.size⟩, hC9⟩
      · first | rfl | (simp; omega)
      · rcases hf8 b hb with h1 | h1
        · exact .inl (hF b h1)
        · exact .inr ⟨Nat.le_trans hn0.size h1, hT8.lt b hb⟩
set_option maxRecDepth 50000 in
theorem rdraw_any (B : Nat) (F : Nat → Prop) (q : Nat) (L : List T3) (X : List (List Int)) (s : Int) (w : World) (h : RS B F w q L X) (hL : L.length ≤ 39) :
    Calls Try.prog 28 #[.pointer (some ⟨q, 0, none⟩), .int .i64 s] w fun e w' => ∃ n er L', e = .returned (.tuple #[.int .i64 n, .int .i64 er]) ∧ DrawR L s n er L' ∧ RS B (Grw F w w') w' q L' X ∧ Chg F w w' := by
  by_cases hs : 1 ≤ s ∧ s ≤ 4
  · exact rdraw_ok B F q L X s w h hL hs
  · exact rdraw_bad B F q L X s w h hs
end Go.Proofs.Ytboofkmbjmnpeaa
