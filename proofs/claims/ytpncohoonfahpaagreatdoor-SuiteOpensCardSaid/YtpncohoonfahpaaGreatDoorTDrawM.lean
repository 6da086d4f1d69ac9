/- Draw on the code's store. -/
import Derived.Test.YtpncohoonfahpaaGreatDoorTPutM
namespace Go.Proofs.YtpncohoonfahpaaGreatDoor
open Go Go.RowKit Go.Maps

/-- What Draw answers. -/
def DrawR (L : List T3) (s n e : Int) (L' : List T3) : Prop :=
  (¬ (1 ≤ s ∧ s ≤ 4) ∧ n = 0 ∧ e = 2 ∧ L' = L) ∨ ((1 ≤ s ∧ s ≤ 4) ∧ (∃ (i : Nat) (b : Int), L[i]? = some (1, s, b) ∧ 4611686018427387904 ≤ b) ∧ n = 0 ∧ e = 3 ∧ L' = L) ∨
  ((1 ≤ s ∧ s ≤ 4) ∧ ∃ v : Int, (∀ (i : Nat) (b : Int), L[i]? = some (1, s, b) → b < v) ∧ (v = 0 ∨ ∃ i : Nat, L[i]? = some (1, s, v - 1)) ∧ 0 ≤ v ∧ v ≤ 4611686018427387904 ∧ n = L.length ∧ e = 0 ∧ L' = L ++ [(1, s, v)])
set_option maxRecDepth 50000 in
theorem nxt_limit {L : List T3} {s v : Int} (h : Nxt L s v) (hv : 4611686018427387904 < v) (hv2 : v ≤ 4611686018427387905) : ∃ (i : Nat) (b : Int), L[i]? = some (1, s, b) ∧ 4611686018427387904 ≤ b := by
  rcases h.2 with h | ⟨i, b, h1, h2⟩
  · omega
  · exact ⟨i, b, h1, by split at h2 <;> omega⟩
set_option maxRecDepth 50000 in
theorem nxt_ok {L : List T3} {s v : Int} (h : Nxt L s v) (hv : v ≤ 4611686018427387904) : (∀ (i : Nat) (b : Int), L[i]? = some (1, s, b) → b < v) ∧ (v = 0 ∨ ∃ i : Nat, L[i]? = some (1, s, v - 1)) := by
  constructor
  · intro i b hi
    have := h.1 i b hi
    split at this <;> omega
  · rcases h.2 with h | ⟨i, b, h1, h2⟩
    · exact .inl h
    · refine .inr ⟨i, ?_⟩
      rw [h1]
      have : b = v - 1 := by split at h2 <;> omega
      rw [this]
set_option maxRecDepth 50000 in
theorem nx_cell {w : World} {p : Nat} {s : Lay} {zs : List Int} {DN DI : D0} {L : List T3} {X : List (List Int)} (hT : TS w p s zs DN DI L X) (hl : s.nx.length = 5) (k : Nat) (hk : k < 5) : w.cell? ⟨p, 6 + k, none⟩ = some (.int .i64 (s.nx.getD k 0)) := by
  refine hT.blk.cell (i := 6 + k) ?_
  unfold Lay.cells
  rw [List.getElem?_append_right (by simp)]
  simp [ints, List.getD, hl, hk]
set_option maxRecDepth 50000 in
set_option maxHeartbeats 2000000 in
theorem draw_bad (F : Nat → Prop) (p : Nat) (L : List T3) (X : List (List Int)) (k : Int) (w : World) (h : CS F w p L X) (hk : ¬ (1 ≤ k ∧ k ≤ 4)) :
    Calls Tryz.prog 50 #[.pointer (some ⟨p, 0, none⟩), .int .i64 k] w fun e w' => ∃ n er L', e = .returned (.tuple #[.int .i64 n, .int .i64 er]) ∧ DrawR L k n er L' ∧ CS (Grw F w w') w' p L' X ∧ Chg F w w' := by
  obtain ⟨A, c, AX, cX, c0, c1, c4, hA, hcp, hcm⟩ := h.cells
  have Hk : Hid (false = decide (1 ≤ k ∧ k ≤ 4)) := hid (decide_eq_false hk).symm
  have HK := hid hk
  clear hk
  go_enter Tryz.func50, Tryz.ntmps50
  go_wp2_with (first
    | (go_at_call 99; refine (exists_any p _ c0).mono ?_; rintro e w2 ⟨rfl, rfl⟩)
    | (go_at_call 100; refine (isSort_any k false _ Hk).mono ?_; rintro e w2 ⟨rfl, rfl⟩))
  go_ret2
  exact ⟨0, 2, L, rfl, .inl ⟨HK.out, rfl, rfl, rfl⟩, h.sub (fun b _ hb => .inl hb), Chg.refl F w⟩
set_option maxRecDepth 50000 in
set_option maxHeartbeats 2000000 in
theorem draw_1 (F : Nat → Prop) (p : Nat) (L : List T3) (X : List (List Int)) (w : World) (h : CS F w p L X) (hL : L.length ≤ 39) (hX : X.length ≤ 40) :
    Calls Tryz.prog 50 #[.pointer (some ⟨p, 0, none⟩), .int .i64 1] w fun e w' => ∃ n er L', e = .returned (.tuple #[.int .i64 n, .int .i64 er]) ∧ DrawR L 1 n er L' ∧ CS (Grw F w w') w' p L' X ∧ Chg F w w' := by
  have h0 := h
  obtain ⟨s, DN, DI, hT, hP, hF, hN⟩ := h
  have c0 : w.cell? ⟨p, 0, none⟩ = some (.bool true) := hT.blk.cell (i := 0) rfl
  have cn := nx_cell hT hP.nl 1 (by decide)
  have hnv := hP.nv 1 (by decide) (by decide)
  have hnb : 0 ≤ s.nx.getD 1 0 ∧ s.nx.getD 1 0 ≤ 4611686018427387905 := by
    have : 1 < s.nx.length := by rw [hP.nl]; decide
    rw [List.getD_eq_getElem?_getD, List.getElem?_eq_getElem this]
    exact hP.nb _ (List.getElem_mem this)
  have Hk : Hid (true = decide (1 ≤ (1 : Int) ∧ (1 : Int) ≤ 4)) := hid (by decide)
  have hs4 : (1 : Int) ≤ 1 ∧ (1 : Int) ≤ 4 := by decide
  have HS4 := hid hs4
  obtain ⟨v, hv⟩ : ∃ v, s.nx.getD 1 0 = v := ⟨_, rfl⟩
  rw [hv] at cn hnv hnb
  clear hs4 hv
  dsimp only [Nat.reduceAdd] at cn
  by_cases hlim : 4611686018427387904 < v
  · have hd : decide (4611686018427387904 < v) = true := decide_eq_true hlim
    have HL := hid (nxt_limit hnv hlim hnb.2)
    clear hnv hnb hlim
    go_enter Tryz.func50, Tryz.ntmps50
    go_wp2_with (first
      | (go_at_call 99; refine (exists_any p _ c0).mono ?_; rintro e w2 ⟨rfl, rfl⟩)
      | (go_at_call 100; refine (isSort_any 1 true _ Hk).mono ?_; rintro e w2 ⟨rfl, rfl⟩))
    go_ret2
    exact ⟨0, 3, L, rfl, .inr (.inl ⟨HS4.out, HL.out, rfl, rfl, rfl⟩), h0.sub (fun b _ hb => .inl hb), Chg.refl F w⟩
  · have hd : decide (4611686018427387904 < v) = false := decide_eq_false hlim
    have hle : v ≤ 4611686018427387904 := by omega
    have HL := hid (nxt_ok hnv hle)
    have HV := hid (show 0 ≤ v ∧ v ≤ 4611686018427387904 from ⟨hnb.1, hle⟩)
    have ht : Twf (1, (1 : Int), v) := ⟨by show (Lit.int .i64 1).wf = true; decide, by show (Lit.int .i64 1).wf = true; decide, by show (Lit.int .i64 v).wf = true; exact WalkArith.wf_i64 (by omega)⟩
    have hwf : WFt L.length X.length (1, (1 : Int), v) := .inl ⟨rfl, HS4.out.1, HS4.out.2, hnb.1⟩
    have hnew : ∀ i : Nat, L[i]? ≠ some (1, (1 : Int), v) := fun i hi => by have := HL.out.1 i v hi; omega
    have hzl := szsOf_length L
    have hzb := szsOf_bd L
    have hPA := hP.add ht hwf hnew
    have HPA : Hid (PF (updN s.nx (1, (1 : Int), v)) (DN.put (tk (1, (1 : Int), v)) (i64 L.length)) DI (L ++ [(1, (1 : Int), v)]) X) := hid (by
      obtain ⟨a1, a2, a3, a4, a5, a6, a7, a8⟩ := hPA
      refine ⟨a1, fun i u hi => ?_, a2, a3, a4, a5, a6, a7, a8, hP.iM, hP.ih, hP.id, hP.xb, hP.xn, fun j hj => ?_⟩
      · rcases get_app hi with h1 | ⟨rfl, rfl⟩
        · exact hP.wf i u h1
        · exact ⟨ht, hwf⟩
      · obtain ⟨i, hi⟩ := hP.tx j hj
        exact ⟨i, get_old hi⟩)
    have hnl := hP.nl
    have hnb2 := hP.nb
    clear hnv hnb hlim hle hPA hP hnew
    go_enter Tryz.func50, Tryz.ntmps50
    go_wp2_with (first
      | (go_at_call 99; refine (exists_any p _ c0).mono ?_; rintro e w2 ⟨rfl, rfl⟩)
      | (go_at_call 100; refine (isSort_any 1 true _ Hk).mono ?_; rintro e w2 ⟨rfl, rfl⟩)
      | (go_at_call 101; refine (add_any p s (szsOf L) DN DI L X (1, (1 : Int), v) X.length _ hT ht hzl hzb (by omega) hwf hnl hnb2 hN).mono ?_; rintro e W4 ⟨rfl, s', hnx, hmN, hmI, hT4, hC4, hf4⟩))
    go_ret2
    refine ⟨L.length, 0, L ++ [(1, (1 : Int), v)], rfl, .inr (.inr ⟨HS4.out, v, HL.out.1, HL.out.2, HV.out.1, HV.out.2, rfl, rfl, rfl⟩), ⟨s', _, _, by rw [szsOf_app]; exact hT4, by rw [hnx]; exact HPA.out, fun b hb => ?_, by rw [hmN, hmI]; exact hN⟩, hC4.sub (fun b _ hb => hF b hb)⟩
    rcases hf4 b hb with h1 | h1
    · exact .inl (hF b h1)
    · exact .inr ⟨h1, hT4.lt b hb⟩
set_option maxRecDepth 50000 in
set_option maxHeartbeats 2000000 in
theorem draw_2 (F : Nat → Prop) (p : Nat) (L : List T3) (X : List (List Int)) (w : World) (h : CS F w p L X) (hL : L.length ≤ 39) (hX : X.length ≤ 40) :
    Calls Tryz.prog 50 #[.pointer (some ⟨p, 0, none⟩), .int .i64 2] w fun e w' => ∃ n er L', e = .returned (.tuple #[.int .i64 n, .int .i64 er]) ∧ DrawR L 2 n er L' ∧ CS (Grw F w w') w' p L' X ∧ Chg F w w' := by
  have h0 := h
  obtain ⟨s, DN, DI, hT, hP, hF, hN⟩ := h
  have c0 : w.cell? ⟨p, 0, none⟩ = some (.bool true) := hT.blk.cell (i := 0) rfl
  have cn := nx_cell hT hP.nl 2 (by decide)
  have hnv := hP.nv 2 (by decide) (by decide)
  have hnb : 0 ≤ s.nx.getD 2 0 ∧ s.nx.getD 2 0 ≤ 4611686018427387905 := by
    have : 2 < s.nx.length := by rw [hP.nl]; decide
    rw [List.getD_eq_getElem?_getD, List.getElem?_eq_getElem this]
    exact hP.nb _ (List.getElem_mem this)
  have Hk : Hid (true = decide (1 ≤ (2 : Int) ∧ (2 : Int) ≤ 4)) := hid (by decide)
  have hs4 : (1 : Int) ≤ 2 ∧ (2 : Int) ≤ 4 := by decide
  have HS4 := hid hs4
  obtain ⟨v, hv⟩ : ∃ v, s.nx.getD 2 0 = v := ⟨_, rfl⟩
  rw [hv] at cn hnv hnb
  clear hs4 hv
  dsimp only [Nat.reduceAdd] at cn
  by_cases hlim : 4611686018427387904 < v
  · have hd : decide (4611686018427387904 < v) = true := decide_eq_true hlim
    have HL := hid (nxt_limit hnv hlim hnb.2)
    clear hnv hnb hlim
    go_enter Tryz.func50, Tryz.ntmps50
    go_wp2_with (first
      | (go_at_call 99; refine (exists_any p _ c0).mono ?_; rintro e w2 ⟨rfl, rfl⟩)
      | (go_at_call 100; refine (isSort_any 2 true _ Hk).mono ?_; rintro e w2 ⟨rfl, rfl⟩))
    go_ret2
    exact ⟨0, 3, L, rfl, .inr (.inl ⟨HS4.out, HL.out, rfl, rfl, rfl⟩), h0.sub (fun b _ hb => .inl hb), Chg.refl F w⟩
  · have hd : decide (4611686018427387904 < v) = false := decide_eq_false hlim
    have hle : v ≤ 4611686018427387904 := by omega
    have HL := hid (nxt_ok hnv hle)
    have HV := hid (show 0 ≤ v ∧ v ≤ 4611686018427387904 from ⟨hnb.1, hle⟩)
    have ht : Twf (1, (2 : Int), v) := ⟨by show (Lit.int .i64 1).wf = true; decide, by show (Lit.int .i64 2).wf = true; decide, by show (Lit.int .i64 v).wf = true; exact WalkArith.wf_i64 (by omega)⟩
    have hwf : WFt L.length X.length (1, (2 : Int), v) := .inl ⟨rfl, HS4.out.1, HS4.out.2, hnb.1⟩
    have hnew : ∀ i : Nat, L[i]? ≠ some (1, (2 : Int), v) := fun i hi => by have := HL.out.1 i v hi; omega
    have hzl := szsOf_length L
    have hzb := szsOf_bd L
    have hPA := hP.add ht hwf hnew
    have HPA : Hid (PF (updN s.nx (1, (2 : Int), v)) (DN.put (tk (1, (2 : Int), v)) (i64 L.length)) DI (L ++ [(1, (2 : Int), v)]) X) := hid (by
      obtain ⟨a1, a2, a3, a4, a5, a6, a7, a8⟩ := hPA
      refine ⟨a1, fun i u hi => ?_, a2, a3, a4, a5, a6, a7, a8, hP.iM, hP.ih, hP.id, hP.xb, hP.xn, fun j hj => ?_⟩
      · rcases get_app hi with h1 | ⟨rfl, rfl⟩
        · exact hP.wf i u h1
        · exact ⟨ht, hwf⟩
      · obtain ⟨i, hi⟩ := hP.tx j hj
        exact ⟨i, get_old hi⟩)
    have hnl := hP.nl
    have hnb2 := hP.nb
    clear hnv hnb hlim hle hPA hP hnew
    go_enter Tryz.func50, Tryz.ntmps50
    go_wp2_with (first
      | (go_at_call 99; refine (exists_any p _ c0).mono ?_; rintro e w2 ⟨rfl, rfl⟩)
      | (go_at_call 100; refine (isSort_any 2 true _ Hk).mono ?_; rintro e w2 ⟨rfl, rfl⟩)
      | (go_at_call 101; refine (add_any p s (szsOf L) DN DI L X (1, (2 : Int), v) X.length _ hT ht hzl hzb (by omega) hwf hnl hnb2 hN).mono ?_; rintro e W4 ⟨rfl, s', hnx, hmN, hmI, hT4, hC4, hf4⟩))
    go_ret2
    refine ⟨L.length, 0, L ++ [(1, (2 : Int), v)], rfl, .inr (.inr ⟨HS4.out, v, HL.out.1, HL.out.2, HV.out.1, HV.out.2, rfl, rfl, rfl⟩), ⟨s', _, _, by rw [szsOf_app]; exact hT4, by rw [hnx]; exact HPA.out, fun b hb => ?_, by rw [hmN, hmI]; exact hN⟩, hC4.sub (fun b _ hb => hF b hb)⟩
    rcases hf4 b hb with h1 | h1
    · exact .inl (hF b h1)
    · exact .inr ⟨h1, hT4.lt b hb⟩
set_option maxRecDepth 50000 in
set_option maxHeartbeats 2000000 in
theorem draw_3 (F : Nat → Prop) (p : Nat) (L : List T3) (X : List (List Int)) (w : World) (h : CS F w p L X) (hL : L.length ≤ 39) (hX : X.length ≤ 40) :
    Calls Tryz.prog 50 #[.pointer (some ⟨p, 0, none⟩), .int .i64 3] w fun e w' => ∃ n er L', e = .returned (.tuple #[.int .i64 n, .int .i64 er]) ∧ DrawR L 3 n er L' ∧ CS (Grw F w w') w' p L' X ∧ Chg F w w' := by
  have h0 := h
  obtain ⟨s, DN, DI, hT, hP, hF, hN⟩ := h
  have c0 : w.cell? ⟨p, 0, none⟩ = some (.bool true) := hT.blk.cell (i := 0) rfl
  have cn := nx_cell hT hP.nl 3 (by decide)
  have hnv := hP.nv 3 (by decide) (by decide)
  have hnb : 0 ≤ s.nx.getD 3 0 ∧ s.nx.getD 3 0 ≤ 4611686018427387905 := by
    have : 3 < s.nx.length := by rw [hP.nl]; decide
    rw [List.getD_eq_getElem?_getD, List.getElem?_eq_getElem this]
    exact hP.nb _ (List.getElem_mem this)
  have Hk : Hid (true = decide (1 ≤ (3 : Int) ∧ (3 : Int) ≤ 4)) := hid (by decide)
  have hs4 : (1 : Int) ≤ 3 ∧ (3 : Int) ≤ 4 := by decide
  have HS4 := hid hs4
  obtain ⟨v, hv⟩ : ∃ v, s.nx.getD 3 0 = v := ⟨_, rfl⟩
  rw [hv] at cn hnv hnb
  clear hs4 hv
  dsimp only [Nat.reduceAdd] at cn
  by_cases hlim : 4611686018427387904 < v
  · have hd : decide (4611686018427387904 < v) = true := decide_eq_true hlim
    have HL := hid (nxt_limit hnv hlim hnb.2)
    clear hnv hnb hlim
    go_enter Tryz.func50, Tryz.ntmps50
    go_wp2_with (first
      | (go_at_call 99; refine (exists_any p _ c0).mono ?_; rintro e w2 ⟨rfl, rfl⟩)
      | (go_at_call 100; refine (isSort_any 3 true _ Hk).mono ?_; rintro e w2 ⟨rfl, rfl⟩))
    go_ret2
    exact ⟨0, 3, L, rfl, .inr (.inl ⟨HS4.out, HL.out, rfl, rfl, rfl⟩), h0.sub (fun b _ hb => .inl hb), Chg.refl F w⟩
  · have hd : decide (4611686018427387904 < v) = false := decide_eq_false hlim
    have hle : v ≤ 4611686018427387904 := by omega
    have HL := hid (nxt_ok hnv hle)
    have HV := hid (show 0 ≤ v ∧ v ≤ 4611686018427387904 from ⟨hnb.1, hle⟩)
    have ht : Twf (1, (3 : Int), v) := ⟨by show (Lit.int .i64 1).wf = true; decide, by show (Lit.int .i64 3).wf = true; decide, by show (Lit.int .i64 v).wf = true; exact WalkArith.wf_i64 (by omega)⟩
    have hwf : WFt L.length X.length (1, (3 : Int), v) := .inl ⟨rfl, HS4.out.1, HS4.out.2, hnb.1⟩
    have hnew : ∀ i : Nat, L[i]? ≠ some (1, (3 : Int), v) := fun i hi => by have := HL.out.1 i v hi; omega
    have hzl := szsOf_length L
    have hzb := szsOf_bd L
    have hPA := hP.add ht hwf hnew
    have HPA : Hid (PF (updN s.nx (1, (3 : Int), v)) (DN.put (tk (1, (3 : Int), v)) (i64 L.length)) DI (L ++ [(1, (3 : Int), v)]) X) := hid (by
      obtain ⟨a1, a2, a3, a4, a5, a6, a7, a8⟩ := hPA
      refine ⟨a1, fun i u hi => ?_, a2, a3, a4, a5, a6, a7, a8, hP.iM, hP.ih, hP.id, hP.xb, hP.xn, fun j hj => ?_⟩
      · rcases get_app hi with h1 | ⟨rfl, rfl⟩
        · exact hP.wf i u h1
        · exact ⟨ht, hwf⟩
      · obtain ⟨i, hi⟩ := hP.tx j hj
        exact ⟨i, get_old hi⟩)
    have hnl := hP.nl
    have hnb2 := hP.nb
    clear hnv hnb hlim hle hPA hP hnew
    go_enter Tryz.func50, Tryz.ntmps50
    go_wp2_with (first
      | (go_at_call 99; refine (exists_any p _ c0).mono ?_; rintro e w2 ⟨rfl, rfl⟩)
      | (go_at_call 100; refine (isSort_any 3 true _ Hk).mono ?_; rintro e w2 ⟨rfl, rfl⟩)
      | (go_at_call 101; refine (add_any p s (szsOf L) DN DI L X (1, (3 : Int), v) X.length _ hT ht hzl hzb (by omega) hwf hnl hnb2 hN).mono ?_; rintro e W4 ⟨rfl, s', hnx, hmN, hmI, hT4, hC4, hf4⟩))
    go_ret2
    refine ⟨L.length, 0, L ++ [(1, (3 : Int), v)], rfl, .inr (.inr ⟨HS4.out, v, HL.out.1, HL.out.2, HV.out.1, HV.out.2, rfl, rfl, rfl⟩), ⟨s', _, _, by rw [szsOf_app]; exact hT4, by rw [hnx]; exact HPA.out, fun b hb => ?_, by rw [hmN, hmI]; exact hN⟩, hC4.sub (fun b _ hb => hF b hb)⟩
    rcases hf4 b hb with h1 | h1
    · exact .inl (hF b h1)
    · exact .inr ⟨h1, hT4.lt b hb⟩
set_option maxRecDepth 50000 in
set_option maxHeartbeats 2000000 in
theorem draw_4 (F : Nat → Prop) (p : Nat) (L : List T3) (X : List (List Int)) (w : World) (h : CS F w p L X) (hL : L.length ≤ 39) (hX : X.length ≤ 40) :
    Calls Tryz.prog 50 #[.pointer (some ⟨p, 0, none⟩), .int .i64 4] w fun e w' => ∃ n er L', e = .returned (.tuple #[.int .i64 n, .int .i64 er]) ∧ DrawR L 4 n er L' ∧ CS (Grw F w w') w' p L' X ∧ Chg F w w' := by
  have h0 := h
  obtain ⟨s, DN, DI, hT, hP, hF, hN⟩ := h
  have c0 : w.cell? ⟨p, 0, none⟩ = some (.bool true) := hT.blk.cell (i := 0) rfl
  have cn := nx_cell hT hP.nl 4 (by decide)
  have hnv := hP.nv 4 (by decide) (by decide)
  have hnb : 0 ≤ s.nx.getD 4 0 ∧ s.nx.getD 4 0 ≤ 4611686018427387905 := by
    have : 4 < s.nx.length := by rw [hP.nl]; decide
    rw [List.getD_eq_getElem?_getD, List.getElem?_eq_getElem this]
    exact hP.nb _ (List.getElem_mem this)
  have Hk : Hid (true = decide (1 ≤ (4 : Int) ∧ (4 : Int) ≤ 4)) := hid (by decide)
  have hs4 : (1 : Int) ≤ 4 ∧ (4 : Int) ≤ 4 := by decide
  have HS4 := hid hs4
  obtain ⟨v, hv⟩ : ∃ v, s.nx.getD 4 0 = v := ⟨_, rfl⟩
  rw [hv] at cn hnv hnb
  clear hs4 hv
  dsimp only [Nat.reduceAdd] at cn
  by_cases hlim : 4611686018427387904 < v
  · have hd : decide (4611686018427387904 < v) = true := decide_eq_true hlim
    have HL := hid (nxt_limit hnv hlim hnb.2)
    clear hnv hnb hlim
    go_enter Tryz.func50, Tryz.ntmps50
    go_wp2_with (first
      | (go_at_call 99; refine (exists_any p _ c0).mono ?_; rintro e w2 ⟨rfl, rfl⟩)
      | (go_at_call 100; refine (isSort_any 4 true _ Hk).mono ?_; rintro e w2 ⟨rfl, rfl⟩))
    go_ret2
    exact ⟨0, 3, L, rfl, .inr (.inl ⟨HS4.out, HL.out, rfl, rfl, rfl⟩), h0.sub (fun b _ hb => .inl hb), Chg.refl F w⟩
  · have hd : decide (4611686018427387904 < v) = false := decide_eq_false hlim
    have hle : v ≤ 4611686018427387904 := by omega
    have HL := hid (nxt_ok hnv hle)
    have HV := hid (show 0 ≤ v ∧ v ≤ 4611686018427387904 from ⟨hnb.1, hle⟩)
    have ht : Twf (1, (4 : Int), v) := ⟨by show (Lit.int .i64 1).wf = true; decide, by show (Lit.int .i64 4).wf = true; decide, by show (Lit.int .i64 v).wf = true; exact WalkArith.wf_i64 (by omega)⟩
    have hwf : WFt L.length X.length (1, (4 : Int), v) := .inl ⟨rfl, HS4.out.1, HS4.out.2, hnb.1⟩
    have hnew : ∀ i : Nat, L[i]? ≠ some (1, (4 : Int), v) := fun i hi => by have := HL.out.1 i v hi; omega
    have hzl := szsOf_length L
    have hzb := szsOf_bd L
    have hPA := hP.add ht hwf hnew
    have HPA : Hid (PF (updN s.nx (1, (4 : Int), v)) (DN.put (tk (1, (4 : Int), v)) (i64 L.length)) DI (L ++ [(1, (4 : Int), v)]) X) := hid (by
      obtain ⟨a1, a2, a3, a4, a5, a6, a7, a8⟩ := hPA
      refine ⟨a1, fun i u hi => ?_, a2, a3, a4, a5, a6, a7, a8, hP.iM, hP.ih, hP.id, hP.xb, hP.xn, fun j hj => ?_⟩
      · rcases get_app hi with h1 | ⟨rfl, rfl⟩
        · exact hP.wf i u h1
        · exact ⟨ht, hwf⟩
      · obtain ⟨i, hi⟩ := hP.tx j hj
        exact ⟨i, get_old hi⟩)
    have hnl := hP.nl
    have hnb2 := hP.nb
    clear hnv hnb hlim hle hPA hP hnew
    go_enter Tryz.func50, Tryz.ntmps50
    go_wp2_with (first
      | (go_at_call 99; refine (exists_any p _ c0).mono ?_; rintro e w2 ⟨rfl, rfl⟩)
      | (go_at_call 100; refine (isSort_any 4 true _ Hk).mono ?_; rintro e w2 ⟨rfl, rfl⟩)
      | (go_at_call 101; refine (add_any p s (szsOf L) DN DI L X (1, (4 : Int), v) X.length _ hT ht hzl hzb (by omega) hwf hnl hnb2 hN).mono ?_; rintro e W4 ⟨rfl, s', hnx, hmN, hmI, hT4, hC4, hf4⟩))
    go_ret2
    refine ⟨L.length, 0, L ++ [(1, (4 : Int), v)], rfl, .inr (.inr ⟨HS4.out, v, HL.out.1, HL.out.2, HV.out.1, HV.out.2, rfl, rfl, rfl⟩), ⟨s', _, _, by rw [szsOf_app]; exact hT4, by rw [hnx]; exact HPA.out, fun b hb => ?_, by rw [hmN, hmI]; exact hN⟩, hC4.sub (fun b _ hb => hF b hb)⟩
    rcases hf4 b hb with h1 | h1
    · exact .inl (hF b h1)
    · exact .inr ⟨h1, hT4.lt b hb⟩
set_option maxRecDepth 50000 in
theorem draw_any (F : Nat → Prop) (p : Nat) (L : List T3) (X : List (List Int)) (k : Int) (w : World) (h : CS F w p L X) (hL : L.length ≤ 39) (hX : X.length ≤ 40) :
    Calls Tryz.prog 50 #[.pointer (some ⟨p, 0, none⟩), .int .i64 k] w fun e w' => ∃ n er L', e = .returned (.tuple #[.int .i64 n, .int .i64 er]) ∧ DrawR L k n er L' ∧ CS (Grw F w w') w' p L' X ∧ Chg F w w' := by
  by_cases hk : 1 ≤ k ∧ k ≤ 4
  · have : k = 1 ∨ k = 2 ∨ k = 3 ∨ k = 4 := by omega
    rcases this with rfl | rfl | rfl | rfl
    · exact draw_1 F p L X w h hL hX
    · exact draw_2 F p L X w h hL hX
    · exact draw_3 F p L X w h hL hX
    · exact draw_4 F p L X w h hL hX
  · exact draw_bad F p L X k w h hk
set_option maxRecDepth 50000 in
set_option maxHeartbeats 1000000 in
theorem draw_nil (k : Int) (w : World) : Calls Tryz.prog 50 #[.pointer none, .int .i64 k] w fun e w' => e = .returned (.tuple #[.int .i64 0, .int .i64 1]) ∧ w = w' := by
  go_enter Tryz.func50, Tryz.ntmps50
  go_wp2_with (go_at_call 99; refine (exists_nil _).mono ?_; rintro e w2 ⟨rfl, rfl⟩)
  go_ret2
  exact ⟨rfl, rfl⟩
end Go.Proofs.YtpncohoonfahpaaGreatDoor
