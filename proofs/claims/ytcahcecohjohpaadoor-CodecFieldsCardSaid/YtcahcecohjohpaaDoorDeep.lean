/- Depth and purity of values in memory. -/
import Derived.Test.YtcahcecohjohpaaDoorSpec
import Derived.BigQuiet
import Derived.Deep.QuietTactic
namespace Go.Proofs.YtcahcecohjohpaaDoor
open Go.RowKit

set_option maxHeartbeats 400000 in
theorem refDeep_any (v : V) : ∀ (k n : Int) (b : List Int) (l : List V), v = .mk k n b l → ∀ (D : Nat) (A B : Option Addr) (c d : Nat) (w : World), deepV (.mk k n b l) ≤ 1000 → Has D w (.mk k n b l) A B →
    Calls Tryd.prog 11 #[.agg #[.int .i64 k, .int .i64 n, .slice A b.length c, .slice B l.length d]] w fun e w' => e = .returned (.int .i64 (deepV (.mk k n b l))) ∧ Below w.heap.size w w' := by
  induction v using V.ind with
  | h k n b l ih =>
    intro k' n' b' l' heq D A B c d w hdp hH
    injection heq with e1 e2 e3 e4
    subst e1; subst e2; subst e3; subst e4
    have hll := hH.len
    unfold maxLen at hll
    by_cases h3 : k = 3
    · have hp : deepV (.mk k n b l) = 1 + deepL l := by unfold deepV; rw [if_pos h3]
      have hb3 : (k != 3) = false := by simp [h3]
      have HP := hid hp
      have HD : Hid (1 + deepL l ≤ 1000) := hid (by rw [← hp]; exact hdp)
      clear hp h3 hdp
      go_enter Tryd.func11, Tryd.ntmps11
      go_wp2
      go_loopw [3, 4] (fun r i wr => ∃ (j q : Nat), j ≤ l.length ∧ r = .int .i64 q ∧ 1 ≤ q ∧ q ≤ 1000 ∧ i = .int .i64 j ∧ Hid (1 + deepL l = max q (1 + deepL (l.drop j))) ∧ Box4 w (.int .i64 k) (.int .i64 n) (.slice A b.length c) (.slice B l.length d) 25 wr) (fun _ i _ => l.length - (intOf i).toNat)
      case atStart => exact ⟨0, 1, Nat.zero_le _, rfl, by omega, by omega, rfl, hid (by simp), Box4.start _ _ _ _ _ _⟩
      case round =>
        obtain ⟨j, q, hj, rfl, hq1, hq, rfl, HQ, hx⟩ := hrel
        have hb := hx.below
        obtain ⟨_, _, _, hc3⟩ := hx.cells
        have hlw := hx.lt
        by_cases hlt : j < l.length
        · obtain ⟨g, off, k1, n1, b1, l1, A1, c1, B1, d1, rfl, hg, _, HX, a0, a1, a2, a3, hX⟩ := (hH.stay hb).item hlt
          have hm := List.mem_of_getElem? HX.out
          have hdx : deepV (.mk k1 n1 b1 l1) ≤ 999 := by have := deepL_mem hm; have := HD.out; omega
          by_cases hgt : q < deepV (.mk k1 n1 b1 l1) + 1
          · go_wp2_with (go_at_call 11; refine (ih _ hm k1 n1 b1 l1 rfl D A1 B1 c1 d1 _ (by omega) hX).mono ?_; rintro e w' ⟨rfl, hbb⟩)
            go_roundw
            case rel => exact ⟨j + 1, deepV (.mk k1 n1 b1 l1) + 1, by omega, by go_num, by omega, by omega, by go_num, hid (by rw [HQ.out, drop_at HX.out, deepL]; omega), hx.next hbb⟩
            case measure => simp [intOf]; omega
          · go_wp2_with (go_at_call 11; refine (ih _ hm k1 n1 b1 l1 rfl D A1 B1 c1 d1 _ (by omega) hX).mono ?_; rintro e w' ⟨rfl, hbb⟩)
            go_roundw
            case rel => exact ⟨j + 1, q, by omega, rfl, by omega, by omega, by go_num, hid (by rw [HQ.out, drop_at HX.out, deepL]; omega), hx.next hbb⟩
            case measure => simp [intOf]; omega
        · have e : j = l.length := by omega
          subst e
          go_wp2
          go_ret
          exact ⟨ret_int (by rw [HP.out, HQ.out, List.drop_length, deepL]; omega), hb⟩
    · have hp : deepV (.mk k n b l) = 0 := by unfold deepV; rw [if_neg h3]
      have hb3 : (k != 3) = true := by simp [h3]
      have HP := hid hp
      clear hp h3 hdp
      go_enter Tryd.func11, Tryd.ntmps11
      go_wp2
      go_ret
      exact ⟨ret_int (by rw [HP.out]; rfl), below_new _ _⟩

theorem plain_any (k n : Int) (b : List Int) (l : List V) (A B : Option Addr) (c d : Nat) (w : World) (_hbl : b.length ≤ maxLen) (hll : l.length ≤ maxLen) (ht : Tabs w) :
    Calls Tryd.prog 35 #[.agg #[.int .i64 k, .int .i64 n, .slice A b.length c, .slice B l.length d]] w fun e w' => e = .returned (.bool (plainB k n b.length l.length)) ∧ Below w.heap.size w w' := by
  unfold maxLen at _hbl hll
  obtain ⟨hw1, _, _, _, hm⟩ := ht
  by_cases h1 : k = 1
  · have e1 : (k == 1) = true := by simp [h1]
    have HP : Hid (plainB k n b.length l.length = decide (0 ≤ n ∧ n ≤ 4611686018427387904 ∧ b.length = 0 ∧ l.length = 0)) := hid (by unfold plainB; rw [if_pos h1])
    clear h1
    go_enter Tryd.func35, Tryd.ntmps35
    go_wp2
    all_goals
      go_ret
      refine ⟨ret_bool ?_, below_new _ _⟩
      rw [HP.out]
      rw [Bool.eq_iff_iff]
      simp [*]
      try omega
  · by_cases h2 : k = 2
    · have e1 : (k == 1) = false := by simp [h1]
      have e2 : (k == 2) = true := by simp [h2]
      have HP : Hid (plainB k n b.length l.length = decide (n = 0 ∧ l.length = 0)) := hid (by unfold plainB; rw [if_neg h1, if_pos h2])
      clear h1 h2
      go_enter Tryd.func35, Tryd.ntmps35
      go_wp2
      all_goals
        go_ret
        refine ⟨ret_bool ?_, below_new _ _⟩
        rw [HP.out]
        rw [Bool.eq_iff_iff]
        simp [*]
        try omega
    · by_cases h3 : k = 3
      · have e1 : (k == 1) = false := by simp [h1]
        have e2 : (k == 2) = false := by simp [h2]
        have e3 : (k == 3) = true := by simp [h3]
        have HP : Hid (plainB k n b.length l.length = decide (n = 0 ∧ b.length = 0 ∧ l.length ≤ 4096)) := hid (by unfold plainB; rw [if_neg h1, if_neg h2]; simp [h3])
        clear h1 h2 h3
        go_enter Tryd.func35, Tryd.ntmps35
        go_wp2
        all_goals
          go_ret
          refine ⟨ret_bool ?_, below_new _ _⟩
          rw [HP.out]
          rw [Bool.eq_iff_iff]
          simp [*]
          try omega
      · have e1 : (k == 1) = false := by simp [h1]
        have e2 : (k == 2) = false := by simp [h2]
        have e3 : (k == 3) = false := by simp [h3]
        have HP : Hid (plainB k n b.length l.length = false) := hid (by unfold plainB; rw [if_neg h1, if_neg h2]; simp [h3])
        clear h1 h2 h3
        go_enter Tryd.func35, Tryd.ntmps35
        go_wp2
        go_ret
        exact ⟨ret_bool HP.out.symm, below_new _ _⟩
end Go.Proofs.YtcahcecohjohpaaDoor
