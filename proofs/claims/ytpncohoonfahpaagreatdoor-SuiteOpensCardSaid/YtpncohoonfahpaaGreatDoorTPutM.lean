/- Put and Draw on the code's store. -/
import Derived.Test.YtpncohoonfahpaaGreatDoorTPureM
namespace Go.Proofs.YtpncohoonfahpaaGreatDoor
open Go Go.RowKit Go.Maps

/-- The code's store of these terms and texts; its blocks are among F. -/
def CS (F : Nat → Prop) (w : World) (p : Nat) (L : List T3) (X : List (List Int)) : Prop :=
  ∃ s DN DI, TS w p s (szsOf L) DN DI L X ∧ PF s.nx DN DI L X ∧ (∀ b, foot p s b → F b) ∧ s.mI ≠ s.mN
def Grw (F : Nat → Prop) (w w' : World) (b : Nat) : Prop := F b ∨ (w.heap.size ≤ b ∧ b < w'.heap.size)
set_option maxRecDepth 50000 in
theorem CS.chg {F G : Nat → Prop} {w w' : World} {p : Nat} {L : List T3} {X : List (List Int)} (h : CS F w p L X) (hc : Chg G w w') (hG : ∀ b, F b → ¬ G b) : CS F w' p L X := by
  obtain ⟨s, DN, DI, hT, hP, hF, hN⟩ := h
  exact ⟨s, DN, DI, hT.chg hc (fun b hb => hG b (hF b hb)), hP, hF, hN⟩
set_option maxRecDepth 50000 in
theorem CS.next {F : Nat → Prop} {w w' : World} {p : Nat} {L : List T3} {X : List (List Int)} (h : CS F w p L X) (hb : Below w.heap.size w w') : CS F w' p L X := h.chg (Chg.of hb (fun _ => False)) (fun _ _ h => h)
set_option maxRecDepth 50000 in
theorem CS.sub {F G : Nat → Prop} {w : World} {p : Nat} {L : List T3} {X : List (List Int)} (h : CS F w p L X) (hs : ∀ b, b < w.heap.size → F b → G b) : CS G w p L X := by
  obtain ⟨s, DN, DI, hT, hP, hF, hN⟩ := h
  exact ⟨s, DN, DI, hT, hP, fun b hb => hs b (hT.lt b hb) (hF b hb), hN⟩
set_option maxRecDepth 50000 in
theorem CS.cells {F : Nat → Prop} {w : World} {p : Nat} {L : List T3} {X : List (List Int)} (h : CS F w p L X) : ∃ A c AX cX, w.cell? ⟨p, 0, none⟩ = some (.bool true) ∧ w.cell? ⟨p, 1, none⟩ = some (.slice A L.length c) ∧ w.cell? ⟨p, 4, none⟩ = some (.slice AX X.length cX) ∧ TRow w A L ∧ L.length ≤ c ∧ c ≤ maxLen := by
  obtain ⟨s, DN, DI, hT, hP, hF, hN⟩ := h
  have h1 := rowcap hT.rT
  exact ⟨s.AT, s.cT, s.AX, s.cX, hT.blk.cell (i := 0) rfl, hT.blk.cell (i := 1) rfl, hT.blk.cell (i := 4) rfl, trow_of hT.rT, h1.1, h1.2⟩
/-- What Put answers. -/
def PutR (L : List T3) (x : Nat) (t : T3) (n e : Int) (L' : List T3) : Prop :=
  (mayB L x t = false ∧ n = 0 ∧ e = 2 ∧ L' = L) ∨ (mayB L x t = true ∧ ∃ i : Nat, L[i]? = some t ∧ n = i ∧ e = 0 ∧ L' = L) ∨ (mayB L x t = true ∧ (∀ i : Nat, L[i]? ≠ some t) ∧ n = L.length ∧ e = 0 ∧ L' = L ++ [t])
set_option maxRecDepth 50000 in
theorem look_ok {w : World} {m n : Nat} {DN : D0} {t : T3} {c : Int} (h : w.ownsMap Tryz.prog 65 (plainElem Tryz.prog 3) m n DN) (ht : Twf t) (hc : DN.atKey (tk t) (i64 0) = i64 c) :
    (Instr.lookup 121 (.map (some m)) (.agg (tc t).toArray) true).run Tryz.prog w = .ok (.tuple #[.int .i64 c, .bool (has DN (tk t))]) w := by
  obtain ⟨v, ps, hrun, hv⟩ := h.look_ok lawT Tryz.underlying121 (z := .int .i64 0) (by kernel_rfl) (plainElem_int Tryz.underlying3 (by decide)) (key_of t ht)
  obtain ⟨q, rfl, hq, _⟩ := plainElem_int_inv Tryz.underlying3 hv
  rw [hc] at hq
  injection hq with hq
  injection hq with hq
  injection hq with _ hq
  rw [hq]
  exact hrun
set_option maxRecDepth 50000 in
theorem look_plain {w : World} {m n : Nat} {DN : D0} {t : T3} {c : Int} (h : w.ownsMap Tryz.prog 65 (plainElem Tryz.prog 3) m n DN) (ht : Twf t) (hc : DN.atKey (tk t) (i64 0) = i64 c) :
    (Instr.lookup 121 (.map (some m)) (.agg (tc t).toArray) false).run Tryz.prog w = .ok (.int .i64 c) w := by
  obtain ⟨v, ps, hrun, hv⟩ := h.lookup lawT Tryz.underlying121 (z := .int .i64 0) (by kernel_rfl) (plainElem_int Tryz.underlying3 (by decide)) (key_of t ht)
  obtain ⟨q, rfl, hq, _⟩ := plainElem_int_inv Tryz.underlying3 hv
  rw [hc] at hq
  injection hq with hq
  injection hq with hq
  injection hq with _ hq
  rw [hq]
  exact hrun
set_option maxRecDepth 50000 in
set_option maxHeartbeats 4000000 in
theorem put_bad (F : Nat → Prop) (p : Nat) (L : List T3) (X : List (List Int)) (t : T3) (w : World) (h : CS F w p L X) (ht : Twf t) (hL : L.length ≤ 39) (hm : mayB L X.length t = false) :
    Calls Tryz.prog 106 #[.pointer (some ⟨p, 0, none⟩), tv t] w fun e w' => ∃ n er L', e = .returned (.tuple #[.int .i64 n, .int .i64 er]) ∧ PutR L X.length t n er L' ∧ CS (Grw F w w') w' p L' X ∧ Chg F w w' := by
  obtain ⟨s, DN, DI, hT, hP, hF, hN⟩ := h
  obtain ⟨W, hW, d0, d1, d2, hB, hB3⟩ := term_world t w
  have hT1 := hT.next hB
  have c0 : W.cell? ⟨p, 0, none⟩ = some (.bool true) := hT1.blk.cell (i := 0) rfl
  have c1 : W.cell? ⟨p, 1, none⟩ = some (.slice s.AT L.length s.cT) := hT1.blk.cell (i := 1) rfl
  have c4 : W.cell? ⟨p, 4, none⟩ = some (.slice s.AX X.length s.cX) := hT1.blk.cell (i := 4) rfl
  have hA := trow_of hT1.rT
  have hcp := rowcap hT1.rT
  have HW := hid hW
  have HM := hid hm
  clear hW hT hm
  unfold tv
  go_enter Tryz.func106, Tryz.ntmps106
  go_upto_region 1 with (fail)
  rw [HW.out]
  go_wp2_with (first
    | (go_at_call 99; refine (exists_any p _ c0).mono ?_; rintro e w2 ⟨rfl, rfl⟩)
    | (go_at_call 159; refine (takes_any p s.cT s.cX X.length s.AT s.AX L t _ hcp.1 hcp.2 c0 c1 c4 hA).mono ?_; rintro e W2 ⟨rfl, hB2⟩; rw [HM.out]))
  go_ret2
  have hw2 : Below w.heap.size w W2 := hB.trans (hB2.mono hB.size)
  exact ⟨0, 2, L, rfl, .inl ⟨HM.out, rfl, rfl, rfl⟩, ⟨s, DN, DI, hT1.next hB2, hP, fun b hb => .inl (hF b hb), hN⟩, Chg.of hw2 F⟩
set_option maxRecDepth 50000 in
set_option maxHeartbeats 4000000 in
theorem put_old (F : Nat → Prop) (p : Nat) (L : List T3) (X : List (List Int)) (t : T3) (w : World) (h : CS F w p L X) (ht : Twf t) (hL : L.length ≤ 39) (hm : mayB L X.length t = true) (i : Nat) (hi : L[i]? = some t) :
    Calls Tryz.prog 106 #[.pointer (some ⟨p, 0, none⟩), tv t] w fun e w' => ∃ n er L', e = .returned (.tuple #[.int .i64 n, .int .i64 er]) ∧ PutR L X.length t n er L' ∧ CS (Grw F w w') w' p L' X ∧ Chg F w w' := by
  obtain ⟨s, DN, DI, hT, hP, hF, hN⟩ := h
  obtain ⟨W, hW, d0, d1, d2, hB, hB3⟩ := term_world t w
  have hT1 := hT.next hB
  have c0 : W.cell? ⟨p, 0, none⟩ = some (.bool true) := hT1.blk.cell (i := 0) rfl
  have c1 : W.cell? ⟨p, 1, none⟩ = some (.slice s.AT L.length s.cT) := hT1.blk.cell (i := 1) rfl
  have c4 : W.cell? ⟨p, 4, none⟩ = some (.slice s.AX X.length s.cX) := hT1.blk.cell (i := 4) rfl
  have hA := trow_of hT1.rT
  have hcp := rowcap hT1.rT
  have HW := hid hW
  have HM := hid hm
  clear hW hT hm
  unfold tv
  go_enter Tryz.func106, Tryz.ntmps106
  go_upto_region 1 with (fail)
  rw [HW.out]
  have hc : DN.atKey (tk t) (i64 0) = i64 i := (hP.dh i t hi).2
  have hh : has DN (tk t) = true := (hP.dh i t hi).1
  go_upto_region 5 with (first
    | (go_at_call 99; refine (exists_any p _ c0).mono ?_; rintro e w2 ⟨rfl, rfl⟩)
    | (go_at_call 159; refine (takes_any p s.cT s.cX X.length s.AT s.AX L t _ hcp.1 hcp.2 c0 c1 c4 hA).mono ?_; rintro e W2 ⟨rfl, hB2⟩; rw [HM.out]))
  have hT2 := hT1.next hB2
  have hB23 := hB3.next hB2
  have hlk : ∀ ww, Cl W2 ww → (Instr.lookup 121 (.map (some s.mN)) (.agg (tc t).toArray) true).run Tryz.prog ww = .ok (.tuple #[.int .i64 i, .bool true]) ww := fun ww hw => by
    have := look_ok (map_next hT2.mN hw) ht hc
    rw [hh] at this
    exact this
  clear hT1 hB3 c0 c1 c4 hA hc hh
  refine region_spec2 10 31 (fun _ => false) [Is (Value.pointer (some ⟨p, 0, none⟩)), Is (Value.pointer (some ⟨p, 0, none⟩)), Is (Value.pointer (some ⟨p, 3, none⟩)), Is (Value.map (some s.mN)), Is (Value.agg (tc t).toArray), Is (Value.tuple #[Value.int .i64 i, Value.bool true]), Is (Value.tuple #[Value.int .i64 i, Value.bool true]), Is (Value.int .i64 i), Is (Value.bool true), Is (Value.int .i64 i)] [16, 17, 18, 19, 20, 21, 15, 22, 23, 6] (by kernel_rfl) (by kernel_rfl) (by kernel_rfl) (Nat.le_of_eq rfl) (grows_cons (Is.grows _) (grows_cons (Is.grows _) (grows_cons (Is.grows _) (grows_cons (Is.grows _) (grows_cons (Is.grows _) (grows_cons (Is.grows _) (grows_cons (Is.grows _) (grows_cons (Is.grows _) (grows_cons (Is.grows _) (grows_cons (Is.grows _) grows_nil))))))))))
    ⟨(step_ex (Value.pointer (some ⟨p, 0, none⟩)) rfl (.inl rfl) rfl (fun a ww hw hf hd => by
           have h0 : a.eval (.tmp 0) = Value.pointer (some ⟨p, 0, none⟩) := ((knows_out 0 (by kernel_rfl) rfl) : Knows _ _ _ _ _ _ 0 _ _) a ww hw hf hd
           have hcc : ∀ c, a.eval (.const c) = c := fun _ => rfl
           revert hcc h0
           generalize a.eval = ev
           intro hcc h0
           unfold execOp
           simp only [h0, hcc]
           go_simp)),
     (step_ex (Value.pointer (some ⟨p, 0, none⟩)) rfl (.inl rfl) rfl (fun a ww hw hf hd => by
           have h16 : a.eval (.tmp 16) = Value.pointer (some ⟨p, 0, none⟩) := ((knows_in 0 16 (by decide) (by kernel_rfl) rfl rfl) : Knows _ _ _ _ _ _ 1 _ _) a ww hw hf hd
           have hcc : ∀ c, a.eval (.const c) = c := fun _ => rfl
           revert hcc h16
           generalize a.eval = ev
           intro hcc h16
           unfold execOp
           simp only [h16, hcc]
           go_simp)),
     (step_ex (Value.pointer (some ⟨p, 3, none⟩)) rfl (.inl rfl) rfl (fun a ww hw hf hd => by
           have h17 : a.eval (.tmp 17) = Value.pointer (some ⟨p, 0, none⟩) := ((knows_in 1 17 (by decide) (by kernel_rfl) rfl rfl) : Knows _ _ _ _ _ _ 2 _ _) a ww hw hf hd
           have hcc : ∀ c, a.eval (.const c) = c := fun _ => rfl
           revert hcc h17
           generalize a.eval = ev
           intro hcc h17
           unfold execOp
           simp only [h17, hcc]
           go_simp)),
     (step_ex (Value.map (some s.mN)) rfl (.inl rfl) rfl (fun a ww hw hf hd => by
           have h18 : a.eval (.tmp 18) = Value.pointer (some ⟨p, 3, none⟩) := ((knows_in 2 18 (by decide) (by kernel_rfl) rfl rfl) : Knows _ _ _ _ _ _ 3 _ _) a ww hw hf hd
           have f0 : ww.cell? ⟨p, 3, none⟩ = some (Value.map (some s.mN)) := (hT2.blk.next hw).cell (i := 3) rfl
           have hcc : ∀ c, a.eval (.const c) = c := fun _ => rfl
           revert hcc h18
           generalize a.eval = ev
           intro hcc h18
           unfold execOp
           simp only [h18, hcc]
           go_simp)),
     (step_ldV rfl (.inl rfl) (fun _ hw => (hB23.next hw).rw.range) rfl Tryz.underlying65 rfl (szV infT (tc_len _)) rfl (knows_out 3 (by kernel_rfl) rfl)),
     (step_ex (Value.tuple #[Value.int .i64 i, Value.bool true]) rfl (.inl rfl) rfl (fun a ww hw hf hd => by
           have h19 : a.eval (.tmp 19) = Value.map (some s.mN) := ((knows_in 3 19 (by decide) (by kernel_rfl) rfl rfl) : Knows _ _ _ _ _ _ 5 _ _) a ww hw hf hd
           have h20 : a.eval (.tmp 20) = Value.agg (tc t).toArray := ((knows_in 4 20 (by decide) (by kernel_rfl) rfl rfl) : Knows _ _ _ _ _ _ 5 _ _) a ww hw hf hd
           have f0 := hlk ww hw
           have hcc : ∀ c, a.eval (.const c) = c := fun _ => rfl
           revert hcc h19 h20
           generalize a.eval = ev
           intro hcc h19 h20
           unfold execOp
           simp only [h19, h20, hcc]
           go_simp)),
     (step_ex (Value.tuple #[Value.int .i64 i, Value.bool true]) rfl (.inl rfl) rfl (fun a ww hw hf hd => by
           have h21 : a.eval (.tmp 21) = Value.tuple #[Value.int .i64 i, Value.bool true] := ((knows_in 5 21 (by decide) (by kernel_rfl) rfl rfl) : Knows _ _ _ _ _ _ 6 _ _) a ww hw hf hd
           have hcc : ∀ c, a.eval (.const c) = c := fun _ => rfl
           revert hcc h21
           generalize a.eval = ev
           intro hcc h21
           unfold execOp
           simp only [h21, hcc]
           go_simp)),
     (step_ex (Value.int .i64 i) rfl (.inl rfl) rfl (fun a ww hw hf hd => by
           have h15 : a.eval (.tmp 15) = Value.tuple #[Value.int .i64 i, Value.bool true] := ((knows_in 6 15 (by decide) (by kernel_rfl) rfl rfl) : Knows _ _ _ _ _ _ 7 _ _) a ww hw hf hd
           have hcc : ∀ c, a.eval (.const c) = c := fun _ => rfl
           revert hcc h15
           generalize a.eval = ev
           intro hcc h15
           unfold execOp
           simp only [h15, hcc]
           go_simp)),
     (step_ex (Value.bool true) rfl (.inl rfl) rfl (fun a ww hw hf hd => by
           have h15 : a.eval (.tmp 15) = Value.tuple #[Value.int .i64 i, Value.bool true] := ((knows_in 6 15 (by decide) (by kernel_rfl) rfl rfl) : Knows _ _ _ _ _ _ 8 _ _) a ww hw hf hd
           have hcc : ∀ c, a.eval (.const c) = c := fun _ => rfl
           revert hcc h15
           generalize a.eval = ev
           intro hcc h15
           unfold execOp
           simp only [h15, hcc]
           go_simp)),
     (step_ex (Value.int .i64 i) rfl (.inl rfl) rfl (fun a ww hw hf hd => by
           have h22 : a.eval (.tmp 22) = Value.int .i64 i := ((knows_in 7 22 (by decide) (by kernel_rfl) rfl rfl) : Knows _ _ _ _ _ _ 9 _ _) a ww hw hf hd
           have hcc : ∀ c, a.eval (.const c) = c := fun _ => rfl
           revert hcc h22
           generalize a.eval = ev
           intro hcc h22
           unfold execOp
           simp only [h22, hcc]
           go_simp)), trivial⟩ ?_
  intro val W3 hw hS _ _
  have e16 : val 16 = Value.pointer (some ⟨p, 0, none⟩) := hS 0 16 (by decide) rfl
  have e17 : val 17 = Value.pointer (some ⟨p, 0, none⟩) := hS 1 17 (by decide) rfl
  have e18 : val 18 = Value.pointer (some ⟨p, 3, none⟩) := hS 2 18 (by decide) rfl
  have e19 : val 19 = Value.map (some s.mN) := hS 3 19 (by decide) rfl
  have e20 : val 20 = Value.agg (tc t).toArray := hS 4 20 (by decide) rfl
  have e21 : val 21 = Value.tuple #[Value.int .i64 i, Value.bool true] := hS 5 21 (by decide) rfl
  have e15 : val 15 = Value.tuple #[Value.int .i64 i, Value.bool true] := hS 6 15 (by decide) rfl
  have e22 : val 22 = Value.int .i64 i := hS 7 22 (by decide) rfl
  have e23 : val 23 = Value.bool true := hS 8 23 (by decide) rfl
  have e6 : val 6 = Value.int .i64 i := hS 9 6 (by decide) rfl
  simp only [putVals, List.foldl_cons, List.foldl_nil, List.drop_succ_cons, List.drop_zero, Act.put, List.setIfInBounds_toArray, List.set_cons_succ, List.set_cons_zero, e16, e17, e18, e19, e20, e21, e15, e22, e23, e6]
  clear e16 e17 e18 e19 e20 e21 e15 e22 e23 e6 hS
  have hw2 : Below w.heap.size w W3 := (hB.trans (hB2.mono hB.size)).trans (Below.mono hw (Nat.le_trans hB.size hB2.size))
  have hT3 := hT2.next hw
  go_wp2
  go_ret2
  exact ⟨i, 0, L, rfl, .inr (.inl ⟨HM.out, i, hi, rfl, rfl, rfl⟩), ⟨s, DN, DI, hT3, hP, fun b hb => .inl (hF b hb), hN⟩, Chg.of hw2 F⟩
set_option maxRecDepth 50000 in
set_option maxHeartbeats 4000000 in
theorem put_new (F : Nat → Prop) (p : Nat) (L : List T3) (X : List (List Int)) (t : T3) (w : World) (h : CS F w p L X) (ht : Twf t) (hL : L.length ≤ 39) (hm : mayB L X.length t = true) (hi : ∀ i : Nat, L[i]? ≠ some t) :
    Calls Tryz.prog 106 #[.pointer (some ⟨p, 0, none⟩), tv t] w fun e w' => ∃ n er L', e = .returned (.tuple #[.int .i64 n, .int .i64 er]) ∧ PutR L X.length t n er L' ∧ CS (Grw F w w') w' p L' X ∧ Chg F w w' := by
  obtain ⟨s, DN, DI, hT, hP, hF, hN⟩ := h
  obtain ⟨W, hW, d0, d1, d2, hB, hB3⟩ := term_world t w
  have hT1 := hT.next hB
  have c0 : W.cell? ⟨p, 0, none⟩ = some (.bool true) := hT1.blk.cell (i := 0) rfl
  have c1 : W.cell? ⟨p, 1, none⟩ = some (.slice s.AT L.length s.cT) := hT1.blk.cell (i := 1) rfl
  have c4 : W.cell? ⟨p, 4, none⟩ = some (.slice s.AX X.length s.cX) := hT1.blk.cell (i := 4) rfl
  have hA := trow_of hT1.rT
  have hcp := rowcap hT1.rT
  have HW := hid hW
  have HM := hid hm
  clear hW hT hm
  unfold tv
  go_enter Tryz.func106, Tryz.ntmps106
  go_upto_region 1 with (fail)
  rw [HW.out]
  have hh0 : has DN (tk t) = false := by
    cases hq : has DN (tk t) with
    | false => rfl
    | true => obtain ⟨i, hi2⟩ := hP.dn t ht hq; exact absurd hi2 (hi i)
  have hc : DN.atKey (tk t) (i64 0) = i64 0 := atKey_of_not_has hh0 _
  have hh : has DN (tk t) = false := hh0
  go_upto_region 5 with (first
    | (go_at_call 99; refine (exists_any p _ c0).mono ?_; rintro e w2 ⟨rfl, rfl⟩)
    | (go_at_call 159; refine (takes_any p s.cT s.cX X.length s.AT s.AX L t _ hcp.1 hcp.2 c0 c1 c4 hA).mono ?_; rintro e W2 ⟨rfl, hB2⟩; rw [HM.out]))
  have hT2 := hT1.next hB2
  have hB23 := hB3.next hB2
  have hlk : ∀ ww, Cl W2 ww → (Instr.lookup 121 (.map (some s.mN)) (.agg (tc t).toArray) true).run Tryz.prog ww = .ok (.tuple #[.int .i64 0, .bool false]) ww := fun ww hw => by
    have := look_ok (map_next hT2.mN hw) ht hc
    rw [hh] at this
    exact this
  clear hT1 hB3 c0 c1 c4 hA hc hh
  refine region_spec2 10 31 (fun _ => false) [Is (Value.pointer (some ⟨p, 0, none⟩)), Is (Value.pointer (some ⟨p, 0, none⟩)), Is (Value.pointer (some ⟨p, 3, none⟩)), Is (Value.map (some s.mN)), Is (Value.agg (tc t).toArray), Is (Value.tuple #[Value.int .i64 0, Value.bool false]), Is (Value.tuple #[Value.int .i64 0, Value.bool false]), Is (Value.int .i64 0), Is (Value.bool false), Is (Value.int .i64 0)] [16, 17, 18, 19, 20, 21, 15, 22, 23, 6] (by kernel_rfl) (by kernel_rfl) (by kernel_rfl) (Nat.le_of_eq rfl) (grows_cons (Is.grows _) (grows_cons (Is.grows _) (grows_cons (Is.grows _) (grows_cons (Is.grows _) (grows_cons (Is.grows _) (grows_cons (Is.grows _) (grows_cons (Is.grows _) (grows_cons (Is.grows _) (grows_cons (Is.grows _) (grows_cons (Is.grows _) grows_nil))))))))))
    ⟨(step_ex (Value.pointer (some ⟨p, 0, none⟩)) rfl (.inl rfl) rfl (fun a ww hw hf hd => by
           have h0 : a.eval (.tmp 0) = Value.pointer (some ⟨p, 0, none⟩) := ((knows_out 0 (by kernel_rfl) rfl) : Knows _ _ _ _ _ _ 0 _ _) a ww hw hf hd
           have hcc : ∀ c, a.eval (.const c) = c := fun _ => rfl
           revert hcc h0
           generalize a.eval = ev
           intro hcc h0
           unfold execOp
           simp only [h0, hcc]
           go_simp)),
     (step_ex (Value.pointer (some ⟨p, 0, none⟩)) rfl (.inl rfl) rfl (fun a ww hw hf hd => by
           have h16 : a.eval (.tmp 16) = Value.pointer (some ⟨p, 0, none⟩) := ((knows_in 0 16 (by decide) (by kernel_rfl) rfl rfl) : Knows _ _ _ _ _ _ 1 _ _) a ww hw hf hd
           have hcc : ∀ c, a.eval (.const c) = c := fun _ => rfl
           revert hcc h16
           generalize a.eval = ev
           intro hcc h16
           unfold execOp
           simp only [h16, hcc]
           go_simp)),
     (step_ex (Value.pointer (some ⟨p, 3, none⟩)) rfl (.inl rfl) rfl (fun a ww hw hf hd => by
           have h17 : a.eval (.tmp 17) = Value.pointer (some ⟨p, 0, none⟩) := ((knows_in 1 17 (by decide) (by kernel_rfl) rfl rfl) : Knows _ _ _ _ _ _ 2 _ _) a ww hw hf hd
           have hcc : ∀ c, a.eval (.const c) = c := fun _ => rfl
           revert hcc h17
           generalize a.eval = ev
           intro hcc h17
           unfold execOp
           simp only [h17, hcc]
           go_simp)),
     (step_ex (Value.map (some s.mN)) rfl (.inl rfl) rfl (fun a ww hw hf hd => by
           have h18 : a.eval (.tmp 18) = Value.pointer (some ⟨p, 3, none⟩) := ((knows_in 2 18 (by decide) (by kernel_rfl) rfl rfl) : Knows _ _ _ _ _ _ 3 _ _) a ww hw hf hd
           have f0 : ww.cell? ⟨p, 3, none⟩ = some (Value.map (some s.mN)) := (hT2.blk.next hw).cell (i := 3) rfl
           have hcc : ∀ c, a.eval (.const c) = c := fun _ => rfl
           revert hcc h18
           generalize a.eval = ev
           intro hcc h18
           unfold execOp
           simp only [h18, hcc]
           go_simp)),
     (step_ldV rfl (.inl rfl) (fun _ hw => (hB23.next hw).rw.range) rfl Tryz.underlying65 rfl (szV infT (tc_len _)) rfl (knows_out 3 (by kernel_rfl) rfl)),
     (step_ex (Value.tuple #[Value.int .i64 0, Value.bool false]) rfl (.inl rfl) rfl (fun a ww hw hf hd => by
           have h19 : a.eval (.tmp 19) = Value.map (some s.mN) := ((knows_in 3 19 (by decide) (by kernel_rfl) rfl rfl) : Knows _ _ _ _ _ _ 5 _ _) a ww hw hf hd
           have h20 : a.eval (.tmp 20) = Value.agg (tc t).toArray := ((knows_in 4 20 (by decide) (by kernel_rfl) rfl rfl) : Knows _ _ _ _ _ _ 5 _ _) a ww hw hf hd
           have f0 := hlk ww hw
           have hcc : ∀ c, a.eval (.const c) = c := fun _ => rfl
           revert hcc h19 h20
           generalize a.eval = ev
           intro hcc h19 h20
           unfold execOp
           simp only [h19, h20, hcc]
           go_simp)),
     (step_ex (Value.tuple #[Value.int .i64 0, Value.bool false]) rfl (.inl rfl) rfl (fun a ww hw hf hd => by
           have h21 : a.eval (.tmp 21) = Value.tuple #[Value.int .i64 0, Value.bool false] := ((knows_in 5 21 (by decide) (by kernel_rfl) rfl rfl) : Knows _ _ _ _ _ _ 6 _ _) a ww hw hf hd
           have hcc : ∀ c, a.eval (.const c) = c := fun _ => rfl
           revert hcc h21
           generalize a.eval = ev
           intro hcc h21
           unfold execOp
           simp only [h21, hcc]
           go_simp)),
     (step_ex (Value.int .i64 0) rfl (.inl rfl) rfl (fun a ww hw hf hd => by
           have h15 : a.eval (.tmp 15) = Value.tuple #[Value.int .i64 0, Value.bool false] := ((knows_in 6 15 (by decide) (by kernel_rfl) rfl rfl) : Knows _ _ _ _ _ _ 7 _ _) a ww hw hf hd
           have hcc : ∀ c, a.eval (.const c) = c := fun _ => rfl
           revert hcc h15
           generalize a.eval = ev
           intro hcc h15
           unfold execOp
           simp only [h15, hcc]
           go_simp)),
     (step_ex (Value.bool false) rfl (.inl rfl) rfl (fun a ww hw hf hd => by
           have h15 : a.eval (.tmp 15) = Value.tuple #[Value.int .i64 0, Value.bool false] := ((knows_in 6 15 (by decide) (by kernel_rfl) rfl rfl) : Knows _ _ _ _ _ _ 8 _ _) a ww hw hf hd
           have hcc : ∀ c, a.eval (.const c) = c := fun _ => rfl
           revert hcc h15
           generalize a.eval = ev
           intro hcc h15
           unfold execOp
           simp only [h15, hcc]
           go_simp)),
     (step_ex (Value.int .i64 0) rfl (.inl rfl) rfl (fun a ww hw hf hd => by
           have h22 : a.eval (.tmp 22) = Value.int .i64 0 := ((knows_in 7 22 (by decide) (by kernel_rfl) rfl rfl) : Knows _ _ _ _ _ _ 9 _ _) a ww hw hf hd
           have hcc : ∀ c, a.eval (.const c) = c := fun _ => rfl
           revert hcc h22
           generalize a.eval = ev
           intro hcc h22
           unfold execOp
           simp only [h22, hcc]
           go_simp)), trivial⟩ ?_
  intro val W3 hw hS _ _
  have e16 : val 16 = Value.pointer (some ⟨p, 0, none⟩) := hS 0 16 (by decide) rfl
  have e17 : val 17 = Value.pointer (some ⟨p, 0, none⟩) := hS 1 17 (by decide) rfl
  have e18 : val 18 = Value.pointer (some ⟨p, 3, none⟩) := hS 2 18 (by decide) rfl
  have e19 : val 19 = Value.map (some s.mN) := hS 3 19 (by decide) rfl
  have e20 : val 20 = Value.agg (tc t).toArray := hS 4 20 (by decide) rfl
  have e21 : val 21 = Value.tuple #[Value.int .i64 0, Value.bool false] := hS 5 21 (by decide) rfl
  have e15 : val 15 = Value.tuple #[Value.int .i64 0, Value.bool false] := hS 6 15 (by decide) rfl
  have e22 : val 22 = Value.int .i64 0 := hS 7 22 (by decide) rfl
  have e23 : val 23 = Value.bool false := hS 8 23 (by decide) rfl
  have e6 : val 6 = Value.int .i64 0 := hS 9 6 (by decide) rfl
  simp only [putVals, List.foldl_cons, List.foldl_nil, List.drop_succ_cons, List.drop_zero, Act.put, List.setIfInBounds_toArray, List.set_cons_succ, List.set_cons_zero, e16, e17, e18, e19, e20, e21, e15, e22, e23, e6]
  clear e16 e17 e18 e19 e20 e21 e15 e22 e23 e6 hS
  have hw2 : Below w.heap.size w W3 := (hB.trans (hB2.mono hB.size)).trans (Below.mono hw (Nat.le_trans hB.size hB2.size))
  have hT3 := hT2.next hw
  have hB33 := hB23.next hw
  have d0 := hB33.cell (i := 0) rfl
  have d1 := hB33.cell (i := 1) rfl
  have d2 := hB33.cell (i := 2) rfl
  have hzl := szsOf_length L
  have hzb := szsOf_bd L
  have hwf := (may_wf HM.out).1
  have HP := hid (hP.put ht HM.out hi)
  have hnl := hP.nl
  have hnb := hP.nb
  clear hT2 hB23 hlk hP
  go_wp2_with (go_at_call 101; refine (add_any p s (szsOf L) DN DI L X t X.length _ hT3 ht hzl hzb (by omega) hwf hnl hnb hN).mono ?_; rintro e W4 ⟨rfl, s', hnx, hmN, hmI, hT4, hC4, hf4⟩)
  go_ret2
  have hz : w.heap.size ≤ W3.heap.size := hw2.size
  refine ⟨L.length, 0, L ++ [t], rfl, .inr (.inr ⟨HM.out, hi, rfl, rfl, rfl⟩), ⟨s', _, _, by rw [szsOf_app]; exact hT4, by rw [hnx]; exact HP.out, fun b hb => ?_, by rw [hmN, hmI]; exact hN⟩, (Chg.of hw2 F).trans hC4 (fun b _ hb => hF b hb)⟩
  rcases hf4 b hb with h1 | h1
  · exact .inl (hF b h1)
  · exact .inr ⟨Nat.le_trans hz h1, hT4.lt b hb⟩
set_option maxRecDepth 50000 in
theorem put_any (F : Nat → Prop) (p : Nat) (L : List T3) (X : List (List Int)) (t : T3) (w : World) (h : CS F w p L X) (ht : Twf t) (hL : L.length ≤ 39) :
    Calls Tryz.prog 106 #[.pointer (some ⟨p, 0, none⟩), tv t] w fun e w' => ∃ n er L', e = .returned (.tuple #[.int .i64 n, .int .i64 er]) ∧ PutR L X.length t n er L' ∧ CS (Grw F w w') w' p L' X ∧ Chg F w w' := by
  cases hm : mayB L X.length t with
  | false => exact put_bad F p L X t w h ht hL hm
  | true =>
    by_cases hi : ∃ i : Nat, L[i]? = some t
    · obtain ⟨i, hi⟩ := hi
      exact put_old F p L X t w h ht hL hm i hi
    · exact put_new F p L X t w h ht hL hm (fun i e => hi ⟨i, e⟩)
set_option maxRecDepth 50000 in
set_option maxHeartbeats 1000000 in
theorem put_nil (t : T3) (w : World) : Calls Tryz.prog 106 #[.pointer none, tv t] w fun e w' => e = .returned (.tuple #[.int .i64 0, .int .i64 1]) ∧ Below w.heap.size w w' := by
  obtain ⟨W, hW, d0, d1, d2, hB, hB3⟩ := term_world t w
  have HW := hid hW
  have HB := hid hB
  clear hW hB
  unfold tv
  go_enter Tryz.func106, Tryz.ntmps106
  go_upto_region 1 with (fail)
  rw [HW.out]
  go_wp2_with (go_at_call 99; refine (exists_nil _).mono ?_; rintro e w2 ⟨rfl, rfl⟩)
  go_ret2
  exact ⟨rfl, HB.out⟩
end Go.Proofs.YtpncohoonfahpaaGreatDoor
