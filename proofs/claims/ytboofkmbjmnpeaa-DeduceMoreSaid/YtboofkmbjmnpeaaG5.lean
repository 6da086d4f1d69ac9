/- Texts of this proof, laid together: TR, TMay. -/
import Derived.Test.YtboofkmbjmnpeaaTTakesM
import Derived.Deep.Cut
/- What the reference's store is asked: is there a term of a number, of a kind. -/
namespace Go.Proofs.Ytboofkmbjmnpeaa
open Go Go.RowKit

set_option maxRecDepth 50000 in
set_option maxHeartbeats 2000000 in
theorem rhas0_any (q n c : Nat) (A : Option Addr) (k : Int) (b : Bool) (w : World) (c0 : w.cell? ⟨q, 0, none⟩ = some (.slice A n c)) (hb : Hid (b = decide (0 ≤ k ∧ k < n))) :
    Calls Try.prog 51 #[.pointer (some ⟨q, 0, none⟩), .int .i64 k, .int .i64 0] w fun e w' => e = .returned (.bool b) ∧ w = w' := by
  by_cases h0 : 0 ≤ k
  · have h3 : decide (k < 0) = false := decide_eq_false (by omega)
    by_cases h1 : k < n
    · obtain rfl : b = true := by rw [hb.out]; exact decide_eq_true ⟨h0, h1⟩
      have h2 : decide ((n : Int) ≤ k) = false := decide_eq_false (by omega)
      clear hb h0 h1
      go_enter Try.func51, Try.ntmps51
      go_wp2
      go_ret
      exact ⟨rfl, rfl⟩
    · obtain rfl : b = false := by rw [hb.out]; exact decide_eq_false (fun h => h1 h.2)
      have h2 : decide ((n : Int) ≤ k) = true := decide_eq_true (by omega)
      clear hb h0 h1
      go_enter Try.func51, Try.ntmps51
      go_wp2
      go_ret
      exact ⟨rfl, rfl⟩
  · obtain rfl : b = false := by rw [hb.out]; exact decide_eq_false (fun h => h0 h.1)
    have h3 : decide (k < 0) = true := decide_eq_true (by omega)
    clear hb h0
    go_enter Try.func51, Try.ntmps51
    go_wp2
    go_ret
    exact ⟨rfl, rfl⟩
set_option maxRecDepth 50000 in
set_option maxHeartbeats 2000000 in
theorem rhas_any (q c : Nat) (A : Option Addr) (L : List T3) (k kd : Int) (b : Bool) (w : World) (hkd : (kd == 0) = false) (hc : L.length ≤ c) (hc2 : c ≤ maxLen) (c0 : w.cell? ⟨q, 0, none⟩ = some (.slice A L.length c)) (hA : TRow w A L)
    (hb : Hid (b = decide (0 ≤ k ∧ k < L.length ∧ (L.getD k.toNat (0, 0, 0)).1 = kd))) :
    Calls Try.prog 51 #[.pointer (some ⟨q, 0, none⟩), .int .i64 k, .int .i64 kd] w fun e w' => e = .returned (.bool b) ∧ w = w' := by
  by_cases h0 : 0 ≤ k
  · by_cases h1 : k < L.length
    · obtain ⟨n, rfl⟩ : ∃ n : Nat, k = n := ⟨k.toNat, by omega⟩
      have hn : n < L.length := by omega
      obtain ⟨t, ht⟩ : ∃ t, L[n]? = some t := ⟨L[n], by simp [hn]⟩
      obtain ⟨g, rfl, hg, hcell⟩ := hA (by omega)
      have hx := (hcell n t ht).1
      have hd : (L.getD ((n : Int).toNat) (0, 0, 0)) = t := by simp [List.getD, ht]
      rw [hd] at hb
      clear hcell hd
      obtain ⟨bb, hbb⟩ : ∃ bb, (t.1 == kd) = bb := ⟨_, rfl⟩
      obtain rfl : bb = b := by
        rw [← hbb, hb.out, Bool.eq_iff_iff, beq_iff_eq, decide_eq_true_iff]
        exact ⟨fun h => ⟨h0, h1, h⟩, fun h => h.2.2⟩
      have h3 : decide ((n : Int) < 0) = false := decide_eq_false (by omega)
      have h2 : decide ((L.length : Int) ≤ n) = false := decide_eq_false (by omega)
      clear hb h0 h1
      go_enter Try.func51, Try.ntmps51
      go_wp2
      go_ret
      exact ⟨rfl, rfl⟩
    · obtain rfl : b = false := by rw [hb.out]; exact decide_eq_false (fun h => h1 h.2.1)
      have h3 : decide (k < 0) = false := decide_eq_false (by omega)
      have h2 : decide ((L.length : Int) ≤ k) = true := decide_eq_true (by omega)
      clear hb h0 h1
      go_enter Try.func51, Try.ntmps51
      go_wp2
      go_ret
      exact ⟨rfl, rfl⟩
  · obtain rfl : b = false := by rw [hb.out]; exact decide_eq_false (fun h => h0 h.1)
    have h3 : decide (k < 0) = true := decide_eq_true (by omega)
    clear hb h0
    go_enter Try.func51, Try.ntmps51
    go_wp2
    go_ret
    exact ⟨rfl, rfl⟩
end Go.Proofs.Ytboofkmbjmnpeaa

/- Which terms the reference's store takes. -/
namespace Go.Proofs.Ytboofkmbjmnpeaa
open Go Go.RowKit

set_option maxRecDepth 50000 in
set_option maxHeartbeats 4000000 in
theorem may_atom (q c cX x : Nat) (A AX : Option Addr) (L : List T3) (k a b : Int) (hk : k = 1) (w : World) (hc : L.length ≤ c) (hc2 : c ≤ maxLen) (c00 : w.cell? ⟨q, 0, none⟩ = some (.slice A L.length c)) (c10 : w.cell? ⟨q, 1, none⟩ = some (.slice AX x cX)) (hA0 : TRow w A L) :
    Calls Try.prog 43 #[.pointer (some ⟨q, 0, none⟩), tv (k, a, b)] w fun e w' => e = .returned (.bool (mayB L x (k, a, b))) ∧ Below w.heap.size w w' := by
  obtain ⟨W, hW, d0, d1, d2, hB, _⟩ := term_world (k, a, b) w
  have c0 := cellB c00 hB
  have c1 := cellB c10 hB
  have hA := hA0.below hB
  have HB := hid hB
  clear c00 c10 hA0 hB
  dsimp only at hW d0 d1 d2
  have HW := hid hW
  clear hW
  unfold tv
  subst hk
  obtain ⟨u, hu⟩ : ∃ q : Bool, q = decide (1 ≤ a ∧ a ≤ 4) := ⟨_, rfl⟩
  obtain ⟨v, hv⟩ : ∃ q : Bool, q = decide (0 ≤ b) := ⟨_, rfl⟩
  have hm : mayB L x (1, a, b) = (u && v) := by simp only [mayB, ← hu, ← hv]; try rfl
  rw [hm]
  have Hu := hid hu
  have Hv := hid hv
  clear hm hu hv
  by_cases h0 : 1 ≤ a
  · by_cases h1 : a ≤ 4
    · obtain rfl : u = true := by rw [Hu.out]; exact decide_eq_true ⟨h0, h1⟩
      rcases v with _ | _
      all_goals
        have Fv := Hv.out
        first | replace Fv := of_decide_eq_true Fv.symm | replace Fv := of_decide_eq_false Fv.symm
        go_enter Try.func43, Try.ntmps43
        go_upto_region 1 with (fail)
        rw [HW.out]
        go_wp2
        go_ret
        exact ⟨by first | rfl | exact ret_bool (decide_eq_true Fv) | exact ret_bool (decide_eq_false (by omega)), HB.out⟩
    · obtain rfl : u = false := by rw [Hu.out]; exact decide_eq_false (fun h => h1 h.2)
      have h2 : decide (a ≤ 4) = false := decide_eq_false h1
      clear Hu Hv
      go_enter Try.func43, Try.ntmps43
      go_upto_region 1 with (fail)
      rw [HW.out]
      go_wp2
      go_ret
      exact ⟨rfl, HB.out⟩
  · obtain rfl : u = false := by rw [Hu.out]; exact decide_eq_false (fun h => h0 h.1)
    have h2 : decide (1 ≤ a) = false := decide_eq_false h0
    clear Hu Hv
    go_enter Try.func43, Try.ntmps43
    go_upto_region 1 with (fail)
    rw [HW.out]
    go_wp2
    go_ret
    exact ⟨rfl, HB.out⟩
set_option maxRecDepth 50000 in
set_option maxHeartbeats 4000000 in
theorem may_two2 (q c cX x : Nat) (A AX : Option Addr) (L : List T3) (k a b : Int) (hk : k = 2) (w : World) (hc : L.length ≤ c) (hc2 : c ≤ maxLen) (c00 : w.cell? ⟨q, 0, none⟩ = some (.slice A L.length c)) (c10 : w.cell? ⟨q, 1, none⟩ = some (.slice AX x cX)) (hA0 : TRow w A L) :
    Calls Try.prog 43 #[.pointer (some ⟨q, 0, none⟩), tv (k, a, b)] w fun e w' => e = .returned (.bool (mayB L x (k, a, b))) ∧ Below w.heap.size w w' := by
  obtain ⟨W, hW, d0, d1, d2, hB, _⟩ := term_world (k, a, b) w
  have c0 := cellB c00 hB
  have c1 := cellB c10 hB
  have hA := hA0.below hB
  have HB := hid hB
  clear c00 c10 hA0 hB
  dsimp only at hW d0 d1 d2
  have HW := hid hW
  clear hW
  unfold tv
  subst hk
  obtain ⟨u, hu⟩ : ∃ q : Bool, q = decide (0 ≤ a ∧ a < L.length) := ⟨_, rfl⟩
  have Hu := hid hu
  clear hu
  obtain ⟨v, hv⟩ : ∃ q : Bool, q = decide (b = 0) := ⟨_, rfl⟩
  have Hv := hid hv
  clear hv
  have hm : mayB L x (2, a, b) = (u && v) := by simp only [mayB, hasB, isB, ← Hu.out, ← Hv.out]; try rfl
  rw [hm]
  clear hm
  rcases u with _ | _ <;> rcases v with _ | _
  all_goals
    go_enter Try.func43, Try.ntmps43
    go_upto_region 1 with (fail)
    rw [HW.out]
    have Fv := Hv.out
    first | replace Fv := of_decide_eq_true Fv.symm | replace Fv := of_decide_eq_false Fv.symm
    go_wp2_with ((go_at_call 51; with_reducible refine (rhas0_any q L.length c A a _ _ c0 Hu).mono ?_; rintro e w2 ⟨rfl, rfl⟩))
    go_ret
    exact ⟨by first | rfl | exact ret_bool (decide_eq_true Fv) | exact ret_bool (decide_eq_false (by omega)) | exact ret_bool (beq_false_of_ne (by omega)), HB.out⟩
set_option maxRecDepth 50000 in
set_option maxHeartbeats 4000000 in
theorem may_two3 (q c cX x : Nat) (A AX : Option Addr) (L : List T3) (k a b : Int) (hk : k = 3) (w : World) (hc : L.length ≤ c) (hc2 : c ≤ maxLen) (c00 : w.cell? ⟨q, 0, none⟩ = some (.slice A L.length c)) (c10 : w.cell? ⟨q, 1, none⟩ = some (.slice AX x cX)) (hA0 : TRow w A L) :
    Calls Try.prog 43 #[.pointer (some ⟨q, 0, none⟩), tv (k, a, b)] w fun e w' => e = .returned (.bool (mayB L x (k, a, b))) ∧ Below w.heap.size w w' := by
  obtain ⟨W, hW, d0, d1, d2, hB, _⟩ := term_world (k, a, b) w
  have c0 := cellB c00 hB
  have c1 := cellB c10 hB
  have hA := hA0.below hB
  have HB := hid hB
  clear c00 c10 hA0 hB
  dsimp only at hW d0 d1 d2
  have HW := hid hW
  clear hW
  unfold tv
  subst hk
  obtain ⟨u, hu⟩ : ∃ q : Bool, q = decide (0 ≤ a ∧ a < L.length) := ⟨_, rfl⟩
  have Hu := hid hu
  clear hu
  obtain ⟨v, hv⟩ : ∃ q : Bool, q = decide (b = 0) := ⟨_, rfl⟩
  have Hv := hid hv
  clear hv
  have hm : mayB L x (3, a, b) = (u && v) := by simp only [mayB, hasB, isB, ← Hu.out, ← Hv.out]; try rfl
  rw [hm]
  clear hm
  rcases u with _ | _ <;> rcases v with _ | _
  all_goals
    go_enter Try.func43, Try.ntmps43
    go_upto_region 1 with (fail)
    rw [HW.out]
    have Fv := Hv.out
    first | replace Fv := of_decide_eq_true Fv.symm | replace Fv := of_decide_eq_false Fv.symm
    go_wp2_with ((go_at_call 51; with_reducible refine (rhas0_any q L.length c A a _ _ c0 Hu).mono ?_; rintro e w2 ⟨rfl, rfl⟩))
    go_ret
    exact ⟨by first | rfl | exact ret_bool (decide_eq_true Fv) | exact ret_bool (decide_eq_false (by omega)) | exact ret_bool (beq_false_of_ne (by omega)), HB.out⟩
set_option maxRecDepth 50000 in
set_option maxHeartbeats 4000000 in
theorem may_two6 (q c cX x : Nat) (A AX : Option Addr) (L : List T3) (k a b : Int) (hk : k = 6) (w : World) (hc : L.length ≤ c) (hc2 : c ≤ maxLen) (c00 : w.cell? ⟨q, 0, none⟩ = some (.slice A L.length c)) (c10 : w.cell? ⟨q, 1, none⟩ = some (.slice AX x cX)) (hA0 : TRow w A L) :
    Calls Try.prog 43 #[.pointer (some ⟨q, 0, none⟩), tv (k, a, b)] w fun e w' => e = .returned (.bool (mayB L x (k, a, b))) ∧ Below w.heap.size w w' := by
  obtain ⟨W, hW, d0, d1, d2, hB, _⟩ := term_world (k, a, b) w
  have c0 := cellB c00 hB
  have c1 := cellB c10 hB
  have hA := hA0.below hB
  have HB := hid hB
  clear c00 c10 hA0 hB
  dsimp only at hW d0 d1 d2
  have HW := hid hW
  clear hW
  unfold tv
  subst hk
  obtain ⟨u, hu⟩ : ∃ q : Bool, q = decide (0 ≤ a ∧ a < L.length) := ⟨_, rfl⟩
  have Hu := hid hu
  clear hu
  obtain ⟨v, hv⟩ : ∃ q : Bool, q = decide (b = 0) := ⟨_, rfl⟩
  have Hv := hid hv
  clear hv
  have hm : mayB L x (6, a, b) = (u && v) := by simp only [mayB, hasB, isB, ← Hu.out, ← Hv.out]; try rfl
  rw [hm]
  clear hm
  rcases u with _ | _ <;> rcases v with _ | _
  all_goals
    go_enter Try.func43, Try.ntmps43
    go_upto_region 1 with (fail)
    rw [HW.out]
    have Fv := Hv.out
    first | replace Fv := of_decide_eq_true Fv.symm | replace Fv := of_decide_eq_false Fv.symm
    go_wp2_with ((go_at_call 51; with_reducible refine (rhas0_any q L.length c A a _ _ c0 Hu).mono ?_; rintro e w2 ⟨rfl, rfl⟩))
    go_ret
    exact ⟨by first | rfl | exact ret_bool (decide_eq_true Fv) | exact ret_bool (decide_eq_false (by omega)) | exact ret_bool (beq_false_of_ne (by omega)), HB.out⟩
set_option maxRecDepth 50000 in
set_option maxHeartbeats 4000000 in
theorem may_two7 (q c cX x : Nat) (A AX : Option Addr) (L : List T3) (k a b : Int) (hk : k = 7) (w : World) (hc : L.length ≤ c) (hc2 : c ≤ maxLen) (c00 : w.cell? ⟨q, 0, none⟩ = some (.slice A L.length c)) (c10 : w.cell? ⟨q, 1, none⟩ = some (.slice AX x cX)) (hA0 : TRow w A L) :
    Calls Try.prog 43 #[.pointer (some ⟨q, 0, none⟩), tv (k, a, b)] w fun e w' => e = .returned (.bool (mayB L x (k, a, b))) ∧ Below w.heap.size w w' := by
  obtain ⟨W, hW, d0, d1, d2, hB, _⟩ := term_world (k, a, b) w
  have c0 := cellB c00 hB
  have c1 := cellB c10 hB
  have hA := hA0.below hB
  have HB := hid hB
  clear c00 c10 hA0 hB
  dsimp only at hW d0 d1 d2
  have HW := hid hW
  clear hW
  unfold tv
  subst hk
  obtain ⟨u, hu⟩ : ∃ q : Bool, q = decide (0 ≤ a ∧ a < L.length) := ⟨_, rfl⟩
  have Hu := hid hu
  clear hu
  obtain ⟨v, hv⟩ : ∃ q : Bool, q = decide (b = 0) := ⟨_, rfl⟩
  have Hv := hid hv
  clear hv
  have hm : mayB L x (7, a, b) = (u && v) := by simp only [mayB, hasB, isB, ← Hu.out, ← Hv.out]; try rfl
  rw [hm]
  clear hm
  rcases u with _ | _ <;> rcases v with _ | _
  all_goals
    go_enter Try.func43, Try.ntmps43
    go_upto_region 1 with (fail)
    rw [HW.out]
    have Fv := Hv.out
    first | replace Fv := of_decide_eq_true Fv.symm | replace Fv := of_decide_eq_false Fv.symm
    go_wp2_with ((go_at_call 51; with_reducible refine (rhas0_any q L.length c A a _ _ c0 Hu).mono ?_; rintro e w2 ⟨rfl, rfl⟩))
    go_ret
    exact ⟨by first | rfl | exact ret_bool (decide_eq_true Fv) | exact ret_bool (decide_eq_false (by omega)) | exact ret_bool (beq_false_of_ne (by omega)), HB.out⟩
set_option maxRecDepth 50000 in
set_option maxHeartbeats 4000000 in
theorem may_wrap (q c cX x : Nat) (A AX : Option Addr) (L : List T3) (k a b : Int) (hk : k = 4) (w : World) (hc : L.length ≤ c) (hc2 : c ≤ maxLen) (c00 : w.cell? ⟨q, 0, none⟩ = some (.slice A L.length c)) (c10 : w.cell? ⟨q, 1, none⟩ = some (.slice AX x cX)) (hA0 : TRow w A L) :
    Calls Try.prog 43 #[.pointer (some ⟨q, 0, none⟩), tv (k, a, b)] w fun e w' => e = .returned (.bool (mayB L x (k, a, b))) ∧ Below w.heap.size w w' := by
  obtain ⟨W, hW, d0, d1, d2, hB, _⟩ := term_world (k, a, b) w
  have c0 := cellB c00 hB
  have c1 := cellB c10 hB
  have hA := hA0.below hB
  have HB := hid hB
  clear c00 c10 hA0 hB
  dsimp only at hW d0 d1 d2
  have HW := hid hW
  clear hW
  unfold tv
  subst hk
  obtain ⟨u, hu⟩ : ∃ q : Bool, q = decide (0 ≤ a ∧ a < L.length ∧ (L.getD a.toNat (0, 0, 0)).1 = 2) := ⟨_, rfl⟩
  have Hu := hid hu
  clear hu
  obtain ⟨v, hv⟩ : ∃ q : Bool, q = decide (0 ≤ b ∧ b < L.length) := ⟨_, rfl⟩
  have Hv := hid hv
  clear hv
  have hm : mayB L x (4, a, b) = (u && v) := by simp only [mayB, hasB, isB, ← Hu.out, ← Hv.out]; try rfl
  rw [hm]
  clear hm
  rcases u with _ | _ <;> rcases v with _ | _
  all_goals
    go_enter Try.func43, Try.ntmps43
    go_upto_region 1 with (fail)
    rw [HW.out]
    go_wp2_with (first | (go_at_call 51; with_reducible refine (rhas0_any q L.length c A b _ _ c0 Hv).mono ?_; rintro e w2 ⟨rfl, rfl⟩) | (go_at_call 51; with_reducible refine (rhas_any q c A L a 2 _ _ rfl hc hc2 c0 hA Hu).mono ?_; rintro e w2 ⟨rfl, rfl⟩))
    go_ret
    exact ⟨by first | rfl | exact ret_bool (decide_eq_true Fv) | exact ret_bool (decide_eq_false (by omega)) | exact ret_bool (beq_false_of_ne (by omega)), HB.out⟩
set_option maxRecDepth 50000 in
set_option maxHeartbeats 4000000 in
theorem may_lock (q c cX x : Nat) (A AX : Option Addr) (L : List T3) (k a b : Int) (hk : k = 5) (w : World) (hc : L.length ≤ c) (hc2 : c ≤ maxLen) (c00 : w.cell? ⟨q, 0, none⟩ = some (.slice A L.length c)) (c10 : w.cell? ⟨q, 1, none⟩ = some (.slice AX x cX)) (hA0 : TRow w A L) :
    Calls Try.prog 43 #[.pointer (some ⟨q, 0, none⟩), tv (k, a, b)] w fun e w' => e = .returned (.bool (mayB L x (k, a, b))) ∧ Below w.heap.size w w' := by
  obtain ⟨W, hW, d0, d1, d2, hB, _⟩ := term_world (k, a, b) w
  have c0 := cellB c00 hB
  have c1 := cellB c10 hB
  have hA := hA0.below hB
  have HB := hid hB
  clear c00 c10 hA0 hB
  dsimp only at hW d0 d1 d2
  have HW := hid hW
  clear hW
  unfold tv
  subst hk
  obtain ⟨u, hu⟩ : ∃ q : Bool, q = decide (0 ≤ a ∧ a < L.length) := ⟨_, rfl⟩
  have Hu := hid hu
  clear hu
  obtain ⟨v, hv⟩ : ∃ q : Bool, q = decide (0 ≤ b ∧ b < L.length) := ⟨_, rfl⟩
  have Hv := hid hv
  clear hv
  have hm : mayB L x (5, a, b) = (u && v) := by simp only [mayB, hasB, isB, ← Hu.out, ← Hv.out]; try rfl
  rw [hm]
  clear hm
  rcases u with _ | _ <;> rcases v with _ | _
  all_goals
    go_enter Try.func43, Try.ntmps43
    go_upto_region 1 with (fail)
    rw [HW.out]
    go_wp2_with (first | (go_at_call 51; with_reducible refine (rhas0_any q L.length c A b _ _ c0 Hv).mono ?_; rintro e w2 ⟨rfl, rfl⟩) | (go_at_call 51; with_reducible refine (rhas0_any q L.length c A a _ _ c0 Hu).mono ?_; rintro e w2 ⟨rfl, rfl⟩))
    go_ret
    exact ⟨by first | rfl | exact ret_bool (decide_eq_true Fv) | exact ret_bool (decide_eq_false (by omega)) | exact ret_bool (beq_false_of_ne (by omega)), HB.out⟩
set_option maxRecDepth 50000 in
set_option maxHeartbeats 4000000 in
theorem may_sign (q c cX x : Nat) (A AX : Option Addr) (L : List T3) (k a b : Int) (hk : k = 8) (w : World) (hc : L.length ≤ c) (hc2 : c ≤ maxLen) (c00 : w.cell? ⟨q, 0, none⟩ = some (.slice A L.length c)) (c10 : w.cell? ⟨q, 1, none⟩ = some (.slice AX x cX)) (hA0 : TRow w A L) :
    Calls Try.prog 43 #[.pointer (some ⟨q, 0, none⟩), tv (k, a, b)] w fun e w' => e = .returned (.bool (mayB L x (k, a, b))) ∧ Below w.heap.size w w' := by
  obtain ⟨W, hW, d0, d1, d2, hB, _⟩ := term_world (k, a, b) w
  have c0 := cellB c00 hB
  have c1 := cellB c10 hB
  have hA := hA0.below hB
  have HB := hid hB
  clear c00 c10 hA0 hB
  dsimp only at hW d0 d1 d2
  have HW := hid hW
  clear hW
  unfold tv
  subst hk
  obtain ⟨u, hu⟩ : ∃ q : Bool, q = decide (0 ≤ a ∧ a < L.length) := ⟨_, rfl⟩
  have Hu := hid hu
  clear hu
  obtain ⟨v, hv⟩ : ∃ q : Bool, q = decide (0 ≤ b ∧ b < L.length ∧ (L.getD b.toNat (0, 0, 0)).1 = 9) := ⟨_, rfl⟩
  have Hv := hid hv
  clear hv
  have hm : mayB L x (8, a, b) = (u && v) := by simp only [mayB, hasB, isB, ← Hu.out, ← Hv.out]; try rfl
  rw [hm]
  clear hm
  rcases u with _ | _ <;> rcases v with _ | _
  all_goals
    go_enter Try.func43, Try.ntmps43
    go_upto_region 1 with (fail)
    rw [HW.out]
    go_wp2_with (first | (go_at_call 51; with_reducible refine (rhas_any q c A L b 9 _ _ rfl hc hc2 c0 hA Hv).mono ?_; rintro e w2 ⟨rfl, rfl⟩) | (go_at_call 51; with_reducible refine (rhas0_any q L.length c A a _ _ c0 Hu).mono ?_; rintro e w2 ⟨rfl, rfl⟩))
    go_ret
    exact ⟨by first | rfl | exact ret_bool (decide_eq_true Fv) | exact ret_bool (decide_eq_false (by omega)) | exact ret_bool (beq_false_of_ne (by omega)), HB.out⟩
set_option maxRecDepth 50000 in
set_option maxHeartbeats 4000000 in
theorem may_digest (q c cX x : Nat) (A AX : Option Addr) (L : List T3) (k a b : Int) (hk : k = 10) (w : World) (hc : L.length ≤ c) (hc2 : c ≤ maxLen) (c00 : w.cell? ⟨q, 0, none⟩ = some (.slice A L.length c)) (c10 : w.cell? ⟨q, 1, none⟩ = some (.slice AX x cX)) (hA0 : TRow w A L) :
    Calls Try.prog 43 #[.pointer (some ⟨q, 0, none⟩), tv (k, a, b)] w fun e w' => e = .returned (.bool (mayB L x (k, a, b))) ∧ Below w.heap.size w w' := by
  obtain ⟨W, hW, d0, d1, d2, hB, _⟩ := term_world (k, a, b) w
  have c0 := cellB c00 hB
  have c1 := cellB c10 hB
  have hA := hA0.below hB
  have HB := hid hB
  clear c00 c10 hA0 hB
  dsimp only at hW d0 d1 d2
  have HW := hid hW
  clear hW
  unfold tv
  subst hk
  obtain ⟨u, hu⟩ : ∃ q : Bool, q = decide (0 ≤ a ∧ a < L.length ∧ (L.getD a.toNat (0, 0, 0)).1 = 9) := ⟨_, rfl⟩
  have Hu := hid hu
  clear hu
  obtain ⟨v, hv⟩ : ∃ q : Bool, q = decide (b = 0) := ⟨_, rfl⟩
  have Hv := hid hv
  clear hv
  have hm : mayB L x (10, a, b) = (u && v) := by simp only [mayB, hasB, isB, ← Hu.out, ← Hv.out]; try rfl
  rw [hm]
  clear hm
  rcases u with _ | _ <;> rcases v with _ | _
  all_goals
    go_enter Try.func43, Try.ntmps43
    go_upto_region 1 with (fail)
    rw [HW.out]
    have Fv := Hv.out
    first | replace Fv := of_decide_eq_true Fv.symm | replace Fv := of_decide_eq_false Fv.symm
    go_wp2_with ((go_at_call 51; with_reducible refine (rhas_any q c A L a 9 _ _ rfl hc hc2 c0 hA Hu).mono ?_; rintro e w2 ⟨rfl, rfl⟩))
    go_ret
    exact ⟨by first | rfl | exact ret_bool (decide_eq_true Fv) | exact ret_bool (decide_eq_false (by omega)) | exact ret_bool (beq_false_of_ne (by omega)), HB.out⟩
set_option maxRecDepth 50000 in
set_option maxHeartbeats 4000000 in
theorem may_text (q c cX x : Nat) (A AX : Option Addr) (L : List T3) (k a b : Int) (hk : k = 9) (w : World) (hc : L.length ≤ c) (hc2 : c ≤ maxLen) (c00 : w.cell? ⟨q, 0, none⟩ = some (.slice A L.length c)) (c10 : w.cell? ⟨q, 1, none⟩ = some (.slice AX x cX)) (hA0 : TRow w A L) :
    Calls Try.prog 43 #[.pointer (some ⟨q, 0, none⟩), tv (k, a, b)] w fun e w' => e = .returned (.bool (mayB L x (k, a, b))) ∧ Below w.heap.size w w' := by
  obtain ⟨W, hW, d0, d1, d2, hB, _⟩ := term_world (k, a, b) w
  have c0 := cellB c00 hB
  have c1 := cellB c10 hB
  have hA := hA0.below hB
  have HB := hid hB
  clear c00 c10 hA0 hB
  dsimp only at hW d0 d1 d2
  have HW := hid hW
  clear hW
  unfold tv
  subst hk
  obtain ⟨u, hu⟩ : ∃ q : Bool, q = decide (0 ≤ a ∧ a < x) := ⟨_, rfl⟩
  obtain ⟨v, hv⟩ : ∃ q : Bool, q = decide (b = 0) := ⟨_, rfl⟩
  have hm : mayB L x (9, a, b) = (u && v) := by simp only [mayB, ← hu, ← hv]; try rfl
  rw [hm]
  have hu2 := hu
  have hv2 := hv
  clear hm hu hv
  have Hu := hid hu2
  have Hv := hid hv2
  clear hu2 hv2
  by_cases h0 : 0 ≤ a
  · by_cases h1 : a < x
    · obtain rfl : u = true := by rw [Hu.out]; exact decide_eq_true ⟨h0, h1⟩
      by_cases h2 : b = 0
      · obtain rfl : v = true := by rw [Hv.out]; exact decide_eq_true h2
        clear Hu Hv
        have H2 := hid h2
        clear h2
        go_enter Try.func43, Try.ntmps43
        go_upto_region 1 with (fail)
        rw [HW.out]
        have h2 := H2.out
        go_wp2
        go_quiet (fail)
        go_wp2
        go_ret
        exact ⟨by first | rfl | exact ret_bool (by simp [*]), below_drewN HB.out _⟩
      · obtain rfl : v = false := by rw [Hv.out]; exact decide_eq_false h2
        clear Hu Hv
        have h3 : (b == 0) = false := beq_false_of_ne h2
        go_enter Try.func43, Try.ntmps43
        go_upto_region 1 with (fail)
        rw [HW.out]
        go_wp2
        go_quiet (fail)
        go_wp2
        go_ret
        exact ⟨by first | rfl | exact ret_bool (by simp [*]), below_drewN HB.out _⟩
    · obtain rfl : u = false := by rw [Hu.out]; exact decide_eq_false (fun h => h1 h.2)
      have h2 : decide (a < (x : Int)) = false := decide_eq_false h1
      clear Hu Hv
      go_enter Try.func43, Try.ntmps43
      go_upto_region 1 with (fail)
      rw [HW.out]
      go_wp2
      go_quiet (fail)
      go_wp2
      go_ret
      exact ⟨by first | rfl | exact ret_bool (by simp [*]), below_drewN HB.out _⟩
  · obtain rfl : u = false := by rw [Hu.out]; exact decide_eq_false (fun h => h0 h.1)
    have h2 : decide (0 ≤ a) = false := decide_eq_false h0
    clear Hu Hv
    go_enter Try.func43, Try.ntmps43
    go_upto_region 1 with (fail)
    rw [HW.out]
    go_wp2
    go_quiet (fail)
    go_wp2
    go_ret
    exact ⟨by first | rfl | exact ret_bool (by simp [*]), below_drewN HB.out _⟩
set_option maxRecDepth 50000 in
set_option maxHeartbeats 4000000 in
theorem may_none (q c cX x : Nat) (A AX : Option Addr) (L : List T3) (k a b : Int) (hk : ∀ i : Int, 1 ≤ i → i ≤ 10 → k ≠ i) (w : World) :
    Calls Try.prog 43 #[.pointer (some ⟨q, 0, none⟩), tv (k, a, b)] w fun e w' => e = .returned (.bool (mayB L x (k, a, b))) ∧ Below w.heap.size w w' := by
  obtain ⟨W, hW, d0, d1, d2, hB, _⟩ := term_world (k, a, b) w
  have HB := hid hB
  clear hB
  dsimp only at hW d0 d1 d2
  have HW := hid hW
  clear hW
  unfold tv
  have e1 : (k == 1) = false := beq_false_of_ne (hk 1 (by decide) (by decide))
  have e2 : (k == 2) = false := beq_false_of_ne (hk 2 (by decide) (by decide))
  have e3 : (k == 3) = false := beq_false_of_ne (hk 3 (by decide) (by decide))
  have e4 : (k == 4) = false := beq_false_of_ne (hk 4 (by decide) (by decide))
  have e5 : (k == 5) = false := beq_false_of_ne (hk 5 (by decide) (by decide))
  have e6 : (k == 6) = false := beq_false_of_ne (hk 6 (by decide) (by decide))
  have e7 : (k == 7) = false := beq_false_of_ne (hk 7 (by decide) (by decide))
  have e8 : (k == 8) = false := beq_false_of_ne (hk 8 (by decide) (by decide))
  have e9 : (k == 9) = false := beq_false_of_ne (hk 9 (by decide) (by decide))
  have e10 : (k == 10) = false := beq_false_of_ne (hk 10 (by decide) (by decide))
  have hm : mayB L x (k, a, b) = false := by
    simp only [beq_eq_false_iff_ne, ne_eq] at e1 e2 e3 e4 e5 e6 e7 e8 e9 e10
    simp [mayB, e1, e2, e3, e4, e5, e6, e7, e8, e9, e10]
  rw [hm]
  clear hm hk
  go_enter Try.func43, Try.ntmps43
  go_upto_region 1 with (fail)
  rw [HW.out]
  go_wp2
  go_ret
  exact ⟨rfl, HB.out⟩
set_option maxRecDepth 50000 in
set_option maxHeartbeats 4000000 in
theorem may_any (q c cX x : Nat) (A AX : Option Addr) (L : List T3) (t : T3) (w : World) (hc : L.length ≤ c) (hc2 : c ≤ maxLen) (c00 : w.cell? ⟨q, 0, none⟩ = some (.slice A L.length c)) (c10 : w.cell? ⟨q, 1, none⟩ = some (.slice AX x cX)) (hA0 : TRow w A L) :
    Calls Try.prog 43 #[.pointer (some ⟨q, 0, none⟩), tv t] w fun e w' => e = .returned (.bool (mayB L x t)) ∧ Below w.heap.size w w' := by
  obtain ⟨k, a, b⟩ := t
  by_cases h : 1 ≤ k ∧ k ≤ 10
  · have : k = 1 ∨ k = 2 ∨ k = 3 ∨ k = 4 ∨ k = 5 ∨ k = 6 ∨ k = 7 ∨ k = 8 ∨ k = 9 ∨ k = 10 := by omega
    rcases this with e | e | e | e | e | e | e | e | e | e
    · exact may_atom q c cX x A AX L k a b e w hc hc2 c00 c10 hA0
    · exact may_two2 q c cX x A AX L k a b e w hc hc2 c00 c10 hA0
    · exact may_two3 q c cX x A AX L k a b e w hc hc2 c00 c10 hA0
    · exact may_wrap q c cX x A AX L k a b e w hc hc2 c00 c10 hA0
    · exact may_lock q c cX x A AX L k a b e w hc hc2 c00 c10 hA0
    · exact may_two6 q c cX x A AX L k a b e w hc hc2 c00 c10 hA0
    · exact may_two7 q c cX x A AX L k a b e w hc hc2 c00 c10 hA0
    · exact may_sign q c cX x A AX L k a b e w hc hc2 c00 c10 hA0
    · exact may_text q c cX x A AX L k a b e w hc hc2 c00 c10 hA0
    · exact may_digest q c cX x A AX L k a b e w hc hc2 c00 c10 hA0
  · exact may_none q c cX x A AX L k a b (fun i h1 h2 e => h ⟨by omega, by omega⟩) w
end Go.Proofs.Ytboofkmbjmnpeaa
