/- Purity, and depth as the program counts it. -/
import Derived.Test.YtcahcecohjohpaaDoorSpec
import Derived.BigQuiet
import Derived.Deep.QuietTactic
namespace Go.Proofs.YtcahcecohjohpaaDoor
open Go.RowKit

set_option maxHeartbeats 1000000 in
theorem refPure_any (v : V) : ∀ (k n : Int) (b : List Int) (l : List V), v = .mk k n b l → ∀ (D : Nat) (A B : Option Addr) (c d : Nat) (w : World), Has D w (.mk k n b l) A B →
    Calls Tryd.prog 26 #[.agg #[.int .i64 k, .int .i64 n, .slice A b.length c, .slice B l.length d]] w fun e w' => e = .returned (.bool (pureV (.mk k n b l))) ∧ Below w.heap.size w w' := by
  induction v using V.ind with
  | h k n b l ih =>
    intro k' n' b' l' heq D A B c d w hH
    injection heq with e1 e2 e3 e4
    subst e1; subst e2; subst e3; subst e4
    have hll := hH.len
    have hbl := hH.bytes.2.2
    unfold maxLen at hll hbl
    have hp : pureV (.mk k n b l) = (plainB k n b.length l.length && pureL l) := by rw [pureV]
    by_cases h1 : k = 1
    · have e1 : (k == 1) = true := by simp [h1]
      have HP : Hid (pureV (.mk k n b l) = decide (0 ≤ n ∧ n ≤ 4611686018427387904 ∧ b.length = 0 ∧ l.length = 0)) := hid (by
        rw [hp]; unfold plainB; rw [if_pos h1]
        by_cases h0 : l.length = 0
        · rw [pureL_nil h0, Bool.and_true]
        · simp [h0])
      clear h1 hp
      go_enter Tryd.func26, Tryd.ntmps26
      go_wp2
      all_goals
        go_ret
        refine ⟨ret_bool ?_, below_new _ _⟩
        rw [HP.out]
        rw [Bool.eq_iff_iff]
        simp [*]
        try omega
    by_cases h2 : k = 2
    · have e1 : (k == 1) = false := by simp [h1]
      have e2 : (k == 2) = true := by simp [h2]
      have HP : Hid (pureV (.mk k n b l) = decide (n = 0 ∧ l.length = 0)) := hid (by
        rw [hp]; unfold plainB; rw [if_neg h1, if_pos h2]
        by_cases h0 : l.length = 0
        · rw [pureL_nil h0, Bool.and_true]
        · simp [h0])
      clear h1 h2 hp
      go_enter Tryd.func26, Tryd.ntmps26
      go_wp2
      all_goals
        go_ret
        refine ⟨ret_bool ?_, below_new _ _⟩
        rw [HP.out]
        rw [Bool.eq_iff_iff]
        simp [*]
        try omega
    have e1 : (k == 1) = false := by simp [h1]
    have e2 : (k == 2) = false := by simp [h2]
    by_cases hq : k = 3 ∧ n = 0 ∧ b.length = 0 ∧ l.length ≤ 4096
    · obtain ⟨h3, hn, hb0, hl⟩ := hq
      have HP : Hid (pureV (.mk k n b l) = pureL l) := hid (by
        rw [hp]; unfold plainB; rw [if_neg h1, if_neg h2]; simp [h3, hn, hb0, hl])
      have e3 : (k != 3) = false := by simp [h3]
      have e4 : (n != 0) = false := by simp [hn]
      have e5 : ((b.length : Int) != 0) = false := by simp [List.length_eq_zero_iff.1 hb0]
      clear h1 h2 h3 hp hn hb0
      go_enter Tryd.func26, Tryd.ntmps26
      go_wp2
      go_loopw [3] (fun i wr => ∃ (j : Nat), j ≤ l.length ∧ i = .int .i64 j ∧ Hid (pureL l = pureL (l.drop j)) ∧ Box4 w (.int .i64 k) (.int .i64 n) (.slice A b.length c) (.slice B l.length d) 25 wr) (fun i _ => l.length - (intOf i).toNat)
      case atStart => exact ⟨0, Nat.zero_le _, rfl, hid (by simp), Box4.start _ _ _ _ _ _⟩
      case round =>
        obtain ⟨j, hj, rfl, HQ, hx⟩ := hrel
        have hb := hx.below
        obtain ⟨_, _, _, hc3⟩ := hx.cells
        have hlw := hx.lt
        by_cases hlt : j < l.length
        · obtain ⟨g, off, k1, n1, b1, l1, A1, c1, B1, d1, rfl, hg, _, HX, a0, a1, a2, a3, hX⟩ := (hH.stay hb).item hlt
          have hm := List.mem_of_getElem? HX.out
          have hjp : (j : Int) < l.length := by omega
          cases hpx : pureV (.mk k1 n1 b1 l1) with
          | false =>
            have HPX := hid hpx
            clear hpx
            go_wp2_with (go_at_call 26; refine (ih _ hm k1 n1 b1 l1 rfl D A1 B1 c1 d1 _ hX).mono ?_; rintro e w' ⟨rfl, hbb⟩; rw [HPX.out])
            go_ret
            exact ⟨ret_bool (by rw [HP.out, HQ.out, drop_at HX.out, pureL, HPX.out]; rfl), nextB hb hbb⟩
          | true =>
            have HPX := hid hpx
            clear hpx
            go_wp2_with (go_at_call 26; refine (ih _ hm k1 n1 b1 l1 rfl D A1 B1 c1 d1 _ hX).mono ?_; rintro e w' ⟨rfl, hbb⟩; rw [HPX.out])
            go_roundw
            case rel => exact ⟨j + 1, by omega, by go_num, hid (by rw [HQ.out, drop_at HX.out, pureL, HPX.out, Bool.true_and]), hx.next hbb⟩
            case measure => simp [intOf]; omega
        · have e : j = l.length := by omega
          subst e
          go_wp2
          go_ret
          exact ⟨ret_bool (by rw [HP.out, HQ.out, List.drop_length, pureL]), hb⟩
    · have HP : Hid (pureV (.mk k n b l) = false) := hid (by
        rw [hp]; unfold plainB; rw [if_neg h1, if_neg h2, decide_eq_false hq, Bool.false_and])
      by_cases h3 : k = 3
      · have e3 : (k != 3) = false := by simp [h3]
        by_cases hn : n = 0
        · have e4 : (n != 0) = false := by simp [hn]
          by_cases hb0 : b.length = 0
          · have e5 : ((b.length : Int) != 0) = false := by simp [List.length_eq_zero_iff.1 hb0]
            have hl : 4096 < l.length := by
              rcases Nat.lt_or_ge 4096 l.length with h | h
              · exact h
              · exact absurd ⟨h3, hn, hb0, h⟩ hq
            clear h1 h2 h3 hp hn hb0 hq
            go_enter Tryd.func26, Tryd.ntmps26
            go_wp2
            go_ret
            exact ⟨ret_bool HP.out.symm, below_new _ _⟩
          · have e5 : ((b.length : Int) != 0) = true := by simpa using hb0
            clear h1 h2 h3 hp hn hb0 hq
            go_enter Tryd.func26, Tryd.ntmps26
            go_wp2
            go_ret
            exact ⟨ret_bool HP.out.symm, below_new _ _⟩
        · have e4 : (n != 0) = true := by simp [hn]
          clear h1 h2 h3 hp hn hq
          go_enter Tryd.func26, Tryd.ntmps26
          go_wp2
          go_ret
          exact ⟨ret_bool HP.out.symm, below_new _ _⟩
      · have e3 : (k != 3) = true := by simp [h3]
        clear h1 h2 h3 hp hq
        go_enter Tryd.func26, Tryd.ntmps26
        go_wp2
        go_ret
        exact ⟨ret_bool HP.out.symm, below_new _ _⟩
end Go.Proofs.YtcahcecohjohpaaDoor
