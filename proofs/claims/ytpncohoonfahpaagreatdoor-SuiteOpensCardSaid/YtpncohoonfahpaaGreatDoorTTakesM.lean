/- Which terms a store takes. -/
import Derived.Test.YtpncohoonfahpaaGreatDoorTQM
import Derived.Deep.Cut
import Derived.Lib.Hide
namespace Go.Proofs.YtpncohoonfahpaaGreatDoor
open Go Go.RowKit

def hasB (L : List T3) (n : Int) : Bool := decide (0 ≤ n ∧ n < L.length)
def isB (L : List T3) (n kd : Int) : Bool := decide (0 ≤ n ∧ n < L.length ∧ (L.getD n.toNat (0, 0, 0)).1 = kd)
/-- May a term be, where there are these terms and so many texts? -/
def mayB (L : List T3) (x : Nat) (t : T3) : Bool :=
  if t.1 = 1 then decide (1 ≤ t.2.1 ∧ t.2.1 ≤ 4) && decide (0 ≤ t.2.2)
  else if t.1 = 2 ∨ t.1 = 3 ∨ t.1 = 6 ∨ t.1 = 7 then hasB L t.2.1 && decide (t.2.2 = 0)
  else if t.1 = 4 then isB L t.2.1 2 && hasB L t.2.2
  else if t.1 = 5 then hasB L t.2.1 && hasB L t.2.2
  else if t.1 = 8 then hasB L t.2.1 && isB L t.2.2 9
  else if t.1 = 9 then decide (0 ≤ t.2.1 ∧ t.2.1 < x) && decide (t.2.2 = 0)
  else if t.1 = 10 then isB L t.2.1 9 && decide (t.2.2 = 0)
  else false
set_option maxRecDepth 50000 in
theorem term_world (t : T3) (w : World) : ∃ W, w.alloc (.cells #[.int .i64 t.1, .int .i64 t.2.1, .int .i64 t.2.2] 65) = W ∧ W.cell? ⟨w.heap.size, 0, none⟩ = some (.int .i64 t.1) ∧ W.cell? ⟨w.heap.size, 1, none⟩ = some (.int .i64 t.2.1) ∧ W.cell? ⟨w.heap.size, 2, none⟩ = some (.int .i64 t.2.2) ∧ Below w.heap.size w W ∧ Blk W w.heap.size 65 (tc t) := by
  have h := Blk.new w 65 (tc t)
  exact ⟨_, rfl, h.cell rfl, h.cell rfl, h.cell rfl, below_new w _, h⟩
set_option maxRecDepth 50000 in
theorem cellB {w w' : World} {a : Addr} {v : Value} (h : w.cell? a = some v) (hb : Below w.heap.size w w') : w'.cell? a = some v := (hb.cell (World.block_lt_of_cell? w a h)).trans h
set_option maxRecDepth 50000 in
theorem TRow.below {w w' : World} {A : Option Addr} {L : List T3} (h : TRow w A L) (hb : Below w.heap.size w w') : TRow w' A L := fun hp => by
  obtain ⟨g, e, hg, hc⟩ := h hp
  exact ⟨g, e, Nat.lt_of_lt_of_le hg hb.size, fun i t hi => ⟨cellB (hc i t hi).1 hb, cellB (hc i t hi).2.1 hb, cellB (hc i t hi).2.2 hb⟩⟩
set_option maxRecDepth 50000 in
set_option maxHeartbeats 4000000 in
theorem takes_atom (p c cX x : Nat) (A AX : Option Addr) (L : List T3) (k a b : Int) (hk : k = 1) (w : World) (hc : L.length ≤ c) (hc2 : c ≤ maxLen) (c00 : w.cell? ⟨p, 0, none⟩ = some (.bool true)) (c10 : w.cell? ⟨p, 1, none⟩ = some (.slice A L.length c)) (c40 : w.cell? ⟨p, 4, none⟩ = some (.slice AX x cX)) (hA0 : TRow w A L) :
    Calls Tryz.prog 159 #[.pointer (some ⟨p, 0, none⟩), tv (k, a, b)] w fun e w' => e = .returned (.bool (mayB L x (k, a, b))) ∧ Below w.heap.size w w' := by
  obtain ⟨W, hW, d0, d1, d2, hB, _⟩ := term_world (k, a, b) w
  have c0 := cellB c00 hB
  have c1 := cellB c10 hB
  have c4 := cellB c40 hB
  have hA := hA0.below hB
  have HB := hid hB
  clear c00 c10 c40 hA0 hB
  dsimp only at hW d0 d1 d2
  have HW := hid hW
  clear hW
  unfold tv
  subst hk
  obtain ⟨u, hu⟩ : ∃ q : Bool, q = decide (1 ≤ a ∧ a ≤ 4) := ⟨_, rfl⟩
  have Hu := hid hu
  clear hu
  obtain ⟨v, hv⟩ : ∃ q : Bool, q = decide (0 ≤ b) := ⟨_, rfl⟩
  have Hv := hid hv
  clear hv
  have hm : mayB L x (1, a, b) = (u && v) := by simp only [mayB, ← Hu.out, ← Hv.out]; try rfl
  rw [hm]
  clear hm
  rcases u with _ | _ <;> rcases v with _ | _
  all_goals
    go_enter Tryz.func159, Tryz.ntmps159
    go_upto_region 1 with (fail)
    rw [HW.out]
    have Fv := Hv.out
    first | replace Fv := of_decide_eq_true Fv.symm | replace Fv := of_decide_eq_false Fv.symm
    go_wp2_with ((go_at_call 100; refine (isSort_any a _ _ Hu).mono ?_; rintro e w2 ⟨rfl, rfl⟩))
    go_ret
    exact ⟨by first | rfl | exact ret_bool (decide_eq_true Fv) | exact ret_bool (decide_eq_false (by omega)) | exact ret_bool (beq_false_of_ne (by omega)), HB.out⟩
set_option maxRecDepth 50000 in
set_option maxHeartbeats 4000000 in
theorem takes_two2 (p c cX x : Nat) (A AX : Option Addr) (L : List T3) (k a b : Int) (hk : k = 2) (w : World) (hc : L.length ≤ c) (hc2 : c ≤ maxLen) (c00 : w.cell? ⟨p, 0, none⟩ = some (.bool true)) (c10 : w.cell? ⟨p, 1, none⟩ = some (.slice A L.length c)) (c40 : w.cell? ⟨p, 4, none⟩ = some (.slice AX x cX)) (hA0 : TRow w A L) :
    Calls Tryz.prog 159 #[.pointer (some ⟨p, 0, none⟩), tv (k, a, b)] w fun e w' => e = .returned (.bool (mayB L x (k, a, b))) ∧ Below w.heap.size w w' := by
  obtain ⟨W, hW, d0, d1, d2, hB, _⟩ := term_world (k, a, b) w
  have c0 := cellB c00 hB
  have c1 := cellB c10 hB
  have c4 := cellB c40 hB
  have hA := hA0.below hB
  have HB := hid hB
  clear c00 c10 c40 hA0 hB
  dsimp only at hW d0 d1 d2
  have HW := hid hW
  clear hW
  unfold tv
  subst hk
  obtain ⟨u, hu⟩ : ∃ q : Bool, q = decide (0 ≤ a ∧ a < L.length) := ⟨_, rfl⟩
  have Hu := hid hu
  clear hu
  obtain ⟨v, hv⟩ : ∃ q : Bool, q = decide (b = 0) := ⟨_, rfl⟩
  have Hv := hid hv
  clear hv
  have hm : mayB L x (2, a, b) = (u && v) := by simp only [mayB, hasB, ← Hu.out, ← Hv.out]; try rfl
  rw [hm]
  clear hm
  rcases u with _ | _ <;> rcases v with _ | _
  all_goals
    go_enter Tryz.func159, Tryz.ntmps159
    go_upto_region 1 with (fail)
    rw [HW.out]
    have Fv := Hv.out
    first | replace Fv := of_decide_eq_true Fv.symm | replace Fv := of_decide_eq_false Fv.symm
    go_wp2_with ((go_at_call 95; refine (has_any p L.length c A a _ _ c0 c1 Hu).mono ?_; rintro e w2 ⟨rfl, rfl⟩))
    go_ret
    exact ⟨by first | rfl | exact ret_bool (decide_eq_true Fv) | exact ret_bool (decide_eq_false (by omega)) | exact ret_bool (beq_false_of_ne (by omega)), HB.out⟩
set_option maxRecDepth 50000 in
set_option maxHeartbeats 4000000 in
theorem takes_two3 (p c cX x : Nat) (A AX : Option Addr) (L : List T3) (k a b : Int) (hk : k = 3) (w : World) (hc : L.length ≤ c) (hc2 : c ≤ maxLen) (c00 : w.cell? ⟨p, 0, none⟩ = some (.bool true)) (c10 : w.cell? ⟨p, 1, none⟩ = some (.slice A L.length c)) (c40 : w.cell? ⟨p, 4, none⟩ = some (.slice AX x cX)) (hA0 : TRow w A L) :
    Calls Tryz.prog 159 #[.pointer (some ⟨p, 0, none⟩), tv (k, a, b)] w fun e w' => e = .returned (.bool (mayB L x (k, a, b))) ∧ Below w.heap.size w w' := by
  obtain ⟨W, hW, d0, d1, d2, hB, _⟩ := term_world (k, a, b) w
  have c0 := cellB c00 hB
  have c1 := cellB c10 hB
  have c4 := cellB c40 hB
  have hA := hA0.below hB
  have HB := hid hB
  clear c00 c10 c40 hA0 hB
  dsimp only at hW d0 d1 d2
  have HW := hid hW
  clear hW
  unfold tv
  subst hk
  obtain ⟨u, hu⟩ : ∃ q : Bool, q = decide (0 ≤ a ∧ a < L.length) := ⟨_, rfl⟩
  have Hu := hid hu
  clear hu
  obtain ⟨v, hv⟩ : ∃ q : Bool, q = decide (b = 0) := ⟨_, rfl⟩
  have Hv := hid hv
  clear hv
  have hm : mayB L x (3, a, b) = (u && v) := by simp only [mayB, hasB, ← Hu.out, ← Hv.out]; try rfl
  rw [hm]
  clear hm
  rcases u with _ | _ <;> rcases v with _ | _
  all_goals
    go_enter Tryz.func159, Tryz.ntmps159
    go_upto_region 1 with (fail)
    rw [HW.out]
    have Fv := Hv.out
    first | replace Fv := of_decide_eq_true Fv.symm | replace Fv := of_decide_eq_false Fv.symm
    go_wp2_with ((go_at_call 95; refine (has_any p L.length c A a _ _ c0 c1 Hu).mono ?_; rintro e w2 ⟨rfl, rfl⟩))
    go_ret
    exact ⟨by first | rfl | exact ret_bool (decide_eq_true Fv) | exact ret_bool (decide_eq_false (by omega)) | exact ret_bool (beq_false_of_ne (by omega)), HB.out⟩
set_option maxRecDepth 50000 in
set_option maxHeartbeats 4000000 in
theorem takes_two6 (p c cX x : Nat) (A AX : Option Addr) (L : List T3) (k a b : Int) (hk : k = 6) (w : World) (hc : L.length ≤ c) (hc2 : c ≤ maxLen) (c00 : w.cell? ⟨p, 0, none⟩ = some (.bool true)) (c10 : w.cell? ⟨p, 1, none⟩ = some (.slice A L.length c)) (c40 : w.cell? ⟨p, 4, none⟩ = some (.slice AX x cX)) (hA0 : TRow w A L) :
    Calls Tryz.prog 159 #[.pointer (some ⟨p, 0, none⟩), tv (k, a, b)] w fun e w' => e = .returned (.bool (mayB L x (k, a, b))) ∧ Below w.heap.size w w' := by
  obtain ⟨W, hW, d0, d1, d2, hB, _⟩ := term_world (k, a, b) w
  have c0 := cellB c00 hB
  have c1 := cellB c10 hB
  have c4 := cellB c40 hB
  have hA := hA0.below hB
  have HB := hid hB
  clear c00 c10 c40 hA0 hB
  dsimp only at hW d0 d1 d2
  have HW := hid hW
  clear hW
  unfold tv
  subst hk
  obtain ⟨u, hu⟩ : ∃ q : Bool, q = decide (0 ≤ a ∧ a < L.length) := ⟨_, rfl⟩
  have Hu := hid hu
  clear hu
  obtain ⟨v, hv⟩ : ∃ q : Bool, q = decide (b = 0) := ⟨_, rfl⟩
  have Hv := hid hv
  clear hv
  have hm : mayB L x (6, a, b) = (u && v) := by simp only [mayB, hasB, ← Hu.out, ← Hv.out]; try rfl
  rw [hm]
  clear hm
  rcases u with _ | _ <;> rcases v with _ | _
  all_goals
    go_enter Tryz.func159, Tryz.ntmps159
    go_upto_region 1 with (fail)
    rw [HW.out]
    have Fv := Hv.out
    first | replace Fv := of_decide_eq_true Fv.symm | replace Fv := of_decide_eq_false Fv.symm
    go_wp2_with ((go_at_call 95; refine (has_any p L.length c A a _ _ c0 c1 Hu).mono ?_; rintro e w2 ⟨rfl, rfl⟩))
    go_ret
    exact ⟨by first | rfl | exact ret_bool (decide_eq_true Fv) | exact ret_bool (decide_eq_false (by omega)) | exact ret_bool (beq_false_of_ne (by omega)), HB.out⟩
set_option maxRecDepth 50000 in
set_option maxHeartbeats 4000000 in
theorem takes_two7 (p c cX x : Nat) (A AX : Option Addr) (L : List T3) (k a b : Int) (hk : k = 7) (w : World) (hc : L.length ≤ c) (hc2 : c ≤ maxLen) (c00 : w.cell? ⟨p, 0, none⟩ = some (.bool true)) (c10 : w.cell? ⟨p, 1, none⟩ = some (.slice A L.length c)) (c40 : w.cell? ⟨p, 4, none⟩ = some (.slice AX x cX)) (hA0 : TRow w A L) :
    Calls Tryz.prog 159 #[.pointer (some ⟨p, 0, none⟩), tv (k, a, b)] w fun e w' => e = .returned (.bool (mayB L x (k, a, b))) ∧ Below w.heap.size w w' := by
  obtain ⟨W, hW, d0, d1, d2, hB, _⟩ := term_world (k, a, b) w
  have c0 := cellB c00 hB
  have c1 := cellB c10 hB
  have c4 := cellB c40 hB
  have hA := hA0.below hB
  have HB := hid hB
  clear c00 c10 c40 hA0 hB
  dsimp only at hW d0 d1 d2
  have HW := hid hW
  clear hW
  unfold tv
  subst hk
  obtain ⟨u, hu⟩ : ∃ q : Bool, q = decide (0 ≤ a ∧ a < L.length) := ⟨_, rfl⟩
  have Hu := hid hu
  clear hu
  obtain ⟨v, hv⟩ : ∃ q : Bool, q = decide (b = 0) := ⟨_, rfl⟩
  have Hv := hid hv
  clear hv
  have hm : mayB L x (7, a, b) = (u && v) := by simp only [mayB, hasB, ← Hu.out, ← Hv.out]; try rfl
  rw [hm]
  clear hm
  rcases u with _ | _ <;> rcases v with _ | _
  all_goals
    go_enter Tryz.func159, Tryz.ntmps159
    go_upto_region 1 with (fail)
    rw [HW.out]
    have Fv := Hv.out
    first | replace Fv := of_decide_eq_true Fv.symm | replace Fv := of_decide_eq_false Fv.symm
    go_wp2_with ((go_at_call 95; refine (has_any p L.length c A a _ _ c0 c1 Hu).mono ?_; rintro e w2 ⟨rfl, rfl⟩))
    go_ret
    exact ⟨by first | rfl | exact ret_bool (decide_eq_true Fv) | exact ret_bool (decide_eq_false (by omega)) | exact ret_bool (beq_false_of_ne (by omega)), HB.out⟩
set_option maxRecDepth 50000 in
set_option maxHeartbeats 4000000 in
theorem takes_wrap (p c cX x : Nat) (A AX : Option Addr) (L : List T3) (k a b : Int) (hk : k = 4) (w : World) (hc : L.length ≤ c) (hc2 : c ≤ maxLen) (c00 : w.cell? ⟨p, 0, none⟩ = some (.bool true)) (c10 : w.cell? ⟨p, 1, none⟩ = some (.slice A L.length c)) (c40 : w.cell? ⟨p, 4, none⟩ = some (.slice AX x cX)) (hA0 : TRow w A L) :
    Calls Tryz.prog 159 #[.pointer (some ⟨p, 0, none⟩), tv (k, a, b)] w fun e w' => e = .returned (.bool (mayB L x (k, a, b))) ∧ Below w.heap.size w w' := by
  obtain ⟨W, hW, d0, d1, d2, hB, _⟩ := term_world (k, a, b) w
  have c0 := cellB c00 hB
  have c1 := cellB c10 hB
  have c4 := cellB c40 hB
  have hA := hA0.below hB
  have HB := hid hB
  clear c00 c10 c40 hA0 hB
  dsimp only at hW d0 d1 d2
  have HW := hid hW
  clear hW
  unfold tv
  subst hk
  obtain ⟨u, hu⟩ : ∃ q : Bool, q = decide (0 ≤ a ∧ a < L.length ∧ (L.getD a.toNat (0, 0, 0)).1 = 2) := ⟨_, rfl⟩
  have Hu := hid hu
  clear hu
  obtain ⟨v, hv⟩ : ∃ q : Bool, q = decide (0 ≤ b ∧ b < L.length) := ⟨_, rfl⟩
  have Hv := hid hv
  clear hv
  have hm : mayB L x (4, a, b) = (u && v) := by simp only [mayB, hasB, isB, ← Hu.out, ← Hv.out]; try rfl
  rw [hm]
  clear hm
  rcases u with _ | _ <;> rcases v with _ | _
  all_goals
    go_enter Tryz.func159, Tryz.ntmps159
    go_upto_region 1 with (fail)
    rw [HW.out]
    go_wp2_with (first | (go_at_call 96; refine (is_any p c A L a 2 _ _ hc hc2 c0 c1 hA Hu).mono ?_; rintro e w2 ⟨rfl, rfl⟩) | (go_at_call 95; refine (has_any p L.length c A b _ _ c0 c1 Hv).mono ?_; rintro e w2 ⟨rfl, rfl⟩))
    go_ret
    exact ⟨by first | rfl | exact ret_bool (decide_eq_true Fv) | exact ret_bool (decide_eq_false (by omega)) | exact ret_bool (beq_false_of_ne (by omega)), HB.out⟩
set_option maxRecDepth 50000 in
set_option maxHeartbeats 4000000 in
theorem takes_lock (p c cX x : Nat) (A AX : Option Addr) (L : List T3) (k a b : Int) (hk : k = 5) (w : World) (hc : L.length ≤ c) (hc2 : c ≤ maxLen) (c00 : w.cell? ⟨p, 0, none⟩ = some (.bool true)) (c10 : w.cell? ⟨p, 1, none⟩ = some (.slice A L.length c)) (c40 : w.cell? ⟨p, 4, none⟩ = some (.slice AX x cX)) (hA0 : TRow w A L) :
    Calls Tryz.prog 159 #[.pointer (some ⟨p, 0, none⟩), tv (k, a, b)] w fun e w' => e = .returned (.bool (mayB L x (k, a, b))) ∧ Below w.heap.size w w' := by
  obtain ⟨W, hW, d0, d1, d2, hB, _⟩ := term_world (k, a, b) w
  have c0 := cellB c00 hB
  have c1 := cellB c10 hB
  have c4 := cellB c40 hB
  have hA := hA0.below hB
  have HB := hid hB
  clear c00 c10 c40 hA0 hB
  dsimp only at hW d0 d1 d2
  have HW := hid hW
  clear hW
  unfold tv
  subst hk
  obtain ⟨u, hu⟩ : ∃ q : Bool, q = decide (0 ≤ a ∧ a < L.length) := ⟨_, rfl⟩
  have Hu := hid hu
  clear hu
  obtain ⟨v, hv⟩ : ∃ q : Bool, q = decide (0 ≤ b ∧ b < L.length) := ⟨_, rfl⟩
  have Hv := hid hv
  clear hv
  have hm : mayB L x (5, a, b) = (u && v) := by simp only [mayB, hasB, isB, ← Hu.out, ← Hv.out]; try rfl
  rw [hm]
  clear hm
  rcases u with _ | _ <;> rcases v with _ | _
  all_goals
    go_enter Tryz.func159, Tryz.ntmps159
    go_upto_region 1 with (fail)
    rw [HW.out]
    go_wp2_with (first | (go_at_call 95; with_reducible refine (has_any p L.length c A b _ _ c0 c1 Hv).mono ?_; rintro e w2 ⟨rfl, rfl⟩) | (go_at_call 95; with_reducible refine (has_any p L.length c A a _ _ c0 c1 Hu).mono ?_; rintro e w2 ⟨rfl, rfl⟩))
    go_ret
    exact ⟨by first | rfl | exact ret_bool (decide_eq_true Fv) | exact ret_bool (decide_eq_false (by omega)) | exact ret_bool (beq_false_of_ne (by omega)), HB.out⟩
set_option maxRecDepth 50000 in
set_option maxHeartbeats 4000000 in
theorem takes_sign (p c cX x : Nat) (A AX : Option Addr) (L : List T3) (k a b : Int) (hk : k = 8) (w : World) (hc : L.length ≤ c) (hc2 : c ≤ maxLen) (c00 : w.cell? ⟨p, 0, none⟩ = some (.bool true)) (c10 : w.cell? ⟨p, 1, none⟩ = some (.slice A L.length c)) (c40 : w.cell? ⟨p, 4, none⟩ = some (.slice AX x cX)) (hA0 : TRow w A L) :
    Calls Tryz.prog 159 #[.pointer (some ⟨p, 0, none⟩), tv (k, a, b)] w fun e w' => e = .returned (.bool (mayB L x (k, a, b))) ∧ Below w.heap.size w w' := by
  obtain ⟨W, hW, d0, d1, d2, hB, _⟩ := term_world (k, a, b) w
  have c0 := cellB c00 hB
  have c1 := cellB c10 hB
  have c4 := cellB c40 hB
  have hA := hA0.below hB
  have HB := hid hB
  clear c00 c10 c40 hA0 hB
  dsimp only at hW d0 d1 d2
  have HW := hid hW
  clear hW
  unfold tv
  subst hk
  obtain ⟨u, hu⟩ : ∃ q : Bool, q = decide (0 ≤ a ∧ a < L.length) := ⟨_, rfl⟩
  have Hu := hid hu
  clear hu
  obtain ⟨v, hv⟩ : ∃ q : Bool, q = decide (0 ≤ b ∧ b < L.length ∧ (L.getD b.toNat (0, 0, 0)).1 = 9) := ⟨_, rfl⟩
  have Hv := hid hv
  clear hv
  have hm : mayB L x (8, a, b) = (u && v) := by simp only [mayB, hasB, isB, ← Hu.out, ← Hv.out]; try rfl
  rw [hm]
  clear hm
  rcases u with _ | _ <;> rcases v with _ | _
  all_goals
    go_enter Tryz.func159, Tryz.ntmps159
    go_upto_region 1 with (fail)
    rw [HW.out]
    go_wp2_with (first | (go_at_call 96; refine (is_any p c A L b 9 _ _ hc hc2 c0 c1 hA Hv).mono ?_; rintro e w2 ⟨rfl, rfl⟩) | (go_at_call 95; refine (has_any p L.length c A a _ _ c0 c1 Hu).mono ?_; rintro e w2 ⟨rfl, rfl⟩))
    go_ret
    exact ⟨by first | rfl | exact ret_bool (decide_eq_true Fv) | exact ret_bool (decide_eq_false (by omega)) | exact ret_bool (beq_false_of_ne (by omega)), HB.out⟩
set_option maxRecDepth 50000 in
set_option maxHeartbeats 4000000 in
theorem takes_digest (p c cX x : Nat) (A AX : Option Addr) (L : List T3) (k a b : Int) (hk : k = 10) (w : World) (hc : L.length ≤ c) (hc2 : c ≤ maxLen) (c00 : w.cell? ⟨p, 0, none⟩ = some (.bool true)) (c10 : w.cell? ⟨p, 1, none⟩ = some (.slice A L.length c)) (c40 : w.cell? ⟨p, 4, none⟩ = some (.slice AX x cX)) (hA0 : TRow w A L) :
    Calls Tryz.prog 159 #[.pointer (some ⟨p, 0, none⟩), tv (k, a, b)] w fun e w' => e = .returned (.bool (mayB L x (k, a, b))) ∧ Below w.heap.size w w' := by
  obtain ⟨W, hW, d0, d1, d2, hB, _⟩ := term_world (k, a, b) w
  have c0 := cellB c00 hB
  have c1 := cellB c10 hB
  have c4 := cellB c40 hB
  have hA := hA0.below hB
  have HB := hid hB
  clear c00 c10 c40 hA0 hB
  dsimp only at hW d0 d1 d2
  have HW := hid hW
  clear hW
  unfold tv
  subst hk
  obtain ⟨u, hu⟩ : ∃ q : Bool, q = decide (0 ≤ a ∧ a < L.length ∧ (L.getD a.toNat (0, 0, 0)).1 = 9) := ⟨_, rfl⟩
  have Hu := hid hu
  clear hu
  obtain ⟨v, hv⟩ : ∃ q : Bool, q = decide (b = 0) := ⟨_, rfl⟩
  have Hv := hid hv
  clear hv
  have hm : mayB L x (10, a, b) = (u && v) := by simp only [mayB, hasB, isB, ← Hu.out, ← Hv.out]; try rfl
  rw [hm]
  clear hm
  rcases u with _ | _ <;> rcases v with _ | _
  all_goals
    go_enter Tryz.func159, Tryz.ntmps159
    go_upto_region 1 with (fail)
    rw [HW.out]
    have Fv := Hv.out
    first | replace Fv := of_decide_eq_true Fv.symm | replace Fv := of_decide_eq_false Fv.symm
    go_wp2_with ((go_at_call 96; refine (is_any p c A L a 9 _ _ hc hc2 c0 c1 hA Hu).mono ?_; rintro e w2 ⟨rfl, rfl⟩))
    go_ret
    exact ⟨by first | rfl | exact ret_bool (decide_eq_true Fv) | exact ret_bool (decide_eq_false (by omega)) | exact ret_bool (beq_false_of_ne (by omega)), HB.out⟩
set_option maxRecDepth 50000 in
set_option maxHeartbeats 4000000 in
theorem takes_text (p c cX x : Nat) (A AX : Option Addr) (L : List T3) (k a b : Int) (hk : k = 9) (w : World) (hc : L.length ≤ c) (hc2 : c ≤ maxLen) (c00 : w.cell? ⟨p, 0, none⟩ = some (.bool true)) (c10 : w.cell? ⟨p, 1, none⟩ = some (.slice A L.length c)) (c40 : w.cell? ⟨p, 4, none⟩ = some (.slice AX x cX)) (hA0 : TRow w A L) :
    Calls Tryz.prog 159 #[.pointer (some ⟨p, 0, none⟩), tv (k, a, b)] w fun e w' => e = .returned (.bool (mayB L x (k, a, b))) ∧ Below w.heap.size w w' := by
  obtain ⟨W, hW, d0, d1, d2, hB, _⟩ := term_world (k, a, b) w
  have c0 := cellB c00 hB
  have c1 := cellB c10 hB
  have c4 := cellB c40 hB
  have hA := hA0.below hB
  have HB := hid hB
  clear c00 c10 c40 hA0 hB
  dsimp only at hW d0 d1 d2
  have HW := hid hW
  clear hW
  unfold tv
  subst hk
  obtain ⟨u, hu⟩ : ∃ q : Bool, q = decide (0 ≤ a ∧ a < x) := ⟨_, rfl⟩
  obtain ⟨v, hv⟩ : ∃ q : Bool, q = decide (b = 0) := ⟨_, rfl⟩
  have hm : mayB L x (9, a, b) = (u && v) := by simp only [mayB, ← hu, ← hv]; try rfl
  rw [hm]
  have hu2 := hu
  have hv2 := hv
  clear hm hu hv
  have Hu := hid hu2
  have Hv := hid hv2
  clear hu2 hv2
  by_cases h0 : 0 ≤ a
  · by_cases h1 : a < x
    · obtain rfl : u = true := by rw [Hu.out]; exact decide_eq_true ⟨h0, h1⟩
      by_cases h2 : b = 0
      · obtain rfl : v = true := by rw [Hv.out]; exact decide_eq_true h2
        clear Hu Hv
        have H2 := hid h2
        clear h2
        go_enter Tryz.func159, Tryz.ntmps159
        go_upto_region 1 with (fail)
        rw [HW.out]
        have h2 := H2.out
        go_wp2
        go_quiet (fail)
        go_wp2
        go_ret
        exact ⟨by first | rfl | exact ret_bool (by simp [*]), below_drewN HB.out _⟩
      · obtain rfl : v = false := by rw [Hv.out]; exact decide_eq_false h2
        clear Hu Hv
        have h3 : (b == 0) = false := beq_false_of_ne h2
        go_enter Tryz.func159, Tryz.ntmps159
        go_upto_region 1 with (fail)
        rw [HW.out]
        go_wp2
        go_quiet (fail)
        go_wp2
        go_ret
        exact ⟨by first | rfl | exact ret_bool (by simp [*]), below_drewN HB.out _⟩
    · obtain rfl : u = false := by rw [Hu.out]; exact decide_eq_false (fun h => h1 h.2)
      have h2 : decide (a < (x : Int)) = false := decide_eq_false h1
      clear Hu Hv
      go_enter Tryz.func159, Tryz.ntmps159
      go_upto_region 1 with (fail)
      rw [HW.out]
      go_wp2
      go_quiet (fail)
      go_wp2
      go_ret
      exact ⟨by first | rfl | exact ret_bool (by simp [*]), below_drewN HB.out _⟩
  · obtain rfl : u = false := by rw [Hu.out]; exact decide_eq_false (fun h => h0 h.1)
    have h2 : decide (0 ≤ a) = false := decide_eq_false h0
    clear Hu Hv
    go_enter Tryz.func159, Tryz.ntmps159
    go_upto_region 1 with (fail)
    rw [HW.out]
    go_wp2
    go_quiet (fail)
    go_wp2
    go_ret
    exact ⟨by first | rfl | exact ret_bool (by simp [*]), below_drewN HB.out _⟩
set_option maxRecDepth 50000 in
set_option maxHeartbeats 4000000 in
theorem takes_none (p c cX x : Nat) (A AX : Option Addr) (L : List T3) (k a b : Int) (hk : ∀ i : Int, 1 ≤ i → i ≤ 10 → k ≠ i) (w : World) :
    Calls Tryz.prog 159 #[.pointer (some ⟨p, 0, none⟩), tv (k, a, b)] w fun e w' => e = .returned (.bool (mayB L x (k, a, b))) ∧ Below w.heap.size w w' := by
  obtain ⟨W, hW, d0, d1, d2, hB, _⟩ := term_world (k, a, b) w
  have HB := hid hB
  clear hB
  dsimp only at hW d0 d1 d2
  have HW := hid hW
  clear hW
  unfold tv
  have e1 : (k == 1) = false := beq_false_of_ne (hk 1 (by decide) (by decide))
  have e2 : (k == 2) = false := beq_false_of_ne (hk 2 (by decide) (by decide))
  have e3 : (k == 3) = false := beq_false_of_ne (hk 3 (by decide) (by decide))
  have e4 : (k == 4) = false := beq_false_of_ne (hk 4 (by decide) (by decide))
  have e5 : (k == 5) = false := beq_false_of_ne (hk 5 (by decide) (by decide))
  have e6 : (k == 6) = false := beq_false_of_ne (hk 6 (by decide) (by decide))
  have e7 : (k == 7) = false := beq_false_of_ne (hk 7 (by decide) (by decide))
  have e8 : (k == 8) = false := beq_false_of_ne (hk 8 (by decide) (by decide))
  have e9 : (k == 9) = false := beq_false_of_ne (hk 9 (by decide) (by decide))
  have e10 : (k == 10) = false := beq_false_of_ne (hk 10 (by decide) (by decide))
  have hm : mayB L x (k, a, b) = false := by
    simp only [beq_eq_false_iff_ne, ne_eq] at e1 e2 e3 e4 e5 e6 e7 e8 e9 e10
    simp [mayB, e1, e2, e3, e4, e5, e6, e7, e8, e9, e10]
  rw [hm]
  clear hm hk
  go_enter Tryz.func159, Tryz.ntmps159
  go_upto_region 1 with (fail)
  rw [HW.out]
  go_wp2
  go_ret
  exact ⟨rfl, HB.out⟩
set_option maxRecDepth 50000 in
set_option maxHeartbeats 4000000 in
theorem takes_any (p c cX x : Nat) (A AX : Option Addr) (L : List T3) (t : T3) (w : World) (hc : L.length ≤ c) (hc2 : c ≤ maxLen) (c00 : w.cell? ⟨p, 0, none⟩ = some (.bool true)) (c10 : w.cell? ⟨p, 1, none⟩ = some (.slice A L.length c)) (c40 : w.cell? ⟨p, 4, none⟩ = some (.slice AX x cX)) (hA0 : TRow w A L) :
    Calls Tryz.prog 159 #[.pointer (some ⟨p, 0, none⟩), tv t] w fun e w' => e = .returned (.bool (mayB L x t)) ∧ Below w.heap.size w w' := by
  obtain ⟨k, a, b⟩ := t
  by_cases h : 1 ≤ k ∧ k ≤ 10
  · have : k = 1 ∨ k = 2 ∨ k = 3 ∨ k = 4 ∨ k = 5 ∨ k = 6 ∨ k = 7 ∨ k = 8 ∨ k = 9 ∨ k = 10 := by omega
    rcases this with e | e | e | e | e | e | e | e | e | e
    · exact takes_atom p c cX x A AX L k a b e w hc hc2 c00 c10 c40 hA0
    · exact takes_two2 p c cX x A AX L k a b e w hc hc2 c00 c10 c40 hA0
    · exact takes_two3 p c cX x A AX L k a b e w hc hc2 c00 c10 c40 hA0
    · exact takes_wrap p c cX x A AX L k a b e w hc hc2 c00 c10 c40 hA0
    · exact takes_lock p c cX x A AX L k a b e w hc hc2 c00 c10 c40 hA0
    · exact takes_two6 p c cX x A AX L k a b e w hc hc2 c00 c10 c40 hA0
    · exact takes_two7 p c cX x A AX L k a b e w hc hc2 c00 c10 c40 hA0
    · exact takes_sign p c cX x A AX L k a b e w hc hc2 c00 c10 c40 hA0
    · exact takes_text p c cX x A AX L k a b e w hc hc2 c00 c10 c40 hA0
    · exact takes_digest p c cX x A AX L k a b e w hc hc2 c00 c10 c40 hA0
  · exact takes_none p c cX x A AX L k a b (fun i h1 h2 e => h ⟨by omega, by omega⟩) w
end Go.Proofs.YtpncohoonfahpaaGreatDoor
