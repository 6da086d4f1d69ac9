/- The reference's equality of values. -/
import Derived.Test.YtcahcecohjohpaaDoorSame
namespace Go.Proofs.YtcahcecohjohpaaDoor
open Go.RowKit

set_option maxHeartbeats 2000000 in
theorem refSame_any (v : V) : ∀ (k n : Int) (b : List Int) (l : List V), v = .mk k n b l → ∀ (k' n' : Int) (b' : List Int) (l' : List V) (D D' : Nat) (A B A' B' : Option Addr) (c d c' d' : Nat) (w : World), Has D w (.mk k n b l) A B → Has D' w (.mk k' n' b' l') A' B' →
    Calls Tryd.prog 17 #[.agg #[.int .i64 k, .int .i64 n, .slice A b.length c, .slice B l.length d], .agg #[.int .i64 k', .int .i64 n', .slice A' b'.length c', .slice B' l'.length d']] w (Says (sameV (.mk k n b l) (.mk k' n' b' l')) w) := by
  induction v using V.ind with
  | h k n b l ih =>
    intro k0 n0 b0 l0 heq k' n' b' l' D D' A B A' B' c d c' d' w hH hH'
    injection heq with e1 e2 e3 e4
    subst e1; subst e2; subst e3; subst e4
    have hll := hH.len
    have hbl := hH.bytes.2.2
    unfold maxLen at hll
    have hp : sameV (.mk k n b l) (.mk k' n' b' l') = (decide (k = k') && decide (n = n') && decide (b = b') && sameL l l') := by rw [sameV]
    by_cases hk : k = k'
    · by_cases hn : n = n'
      · have hxA := Box4.start w (.int .i64 k) (.int .i64 n) (.slice A b.length c) (.slice B l.length d) 25
        have hxB := Box4.start (w.alloc (.cells #[.int .i64 k, .int .i64 n, .slice A b.length c, .slice B l.length d] 25)) (.int .i64 k') (.int .i64 n') (.slice A' b'.length c') (.slice B' l'.length d') 25
        have hxA2 := hxA.next hxB.below
        have hkb : (k != k') = false := by simp [hk]
        have hnb : (n != n') = false := by simp [hn]
        by_cases hb : b = b'
        · by_cases hl : l.length = l'.length
          · have HP : Hid (sameV (.mk k n b l) (.mk k' n' b' l') = sameL l l') := hid (by rw [hp]; simp [hk, hn, hb])
            have HB := hid (decide_eq_true hb)
            have HL := hid hl
            have hlb : ((l.length : Int) != (l'.length : Int)) = false := by simp [hl]
            clear hp hk hn hb hl
            go_enter Tryd.func17, Tryd.ntmps17
            go_wp2_with (go_at_call 14; refine (wsame_any A A' c c' b b' _ hbl (hH.stay hxA2.below).nums (hH'.stay hxA2.below).nums).mono ?_; rw [HB.out]; rintro e w1 ⟨rfl, hb1⟩; have hyA := hxA2.next hb1; have hyB := hxB.next hb1; obtain ⟨_, _, _, a3⟩ := hyA.cells; obtain ⟨_, _, _, a3', _⟩ := hyB.cells2)
            go_loopw [5] (fun i wr => ∃ (j : Nat), j ≤ l.length ∧ i = .int .i64 j ∧ Hid (sameL l l' = sameL (l.drop j) (l'.drop j)) ∧ Box4 w (.int .i64 k) (.int .i64 n) (.slice A b.length c) (.slice B l.length d) 25 wr ∧ Box4 (w.alloc (.cells #[.int .i64 k, .int .i64 n, .slice A b.length c, .slice B l.length d] 25)) (.int .i64 k') (.int .i64 n') (.slice A' b'.length c') (.slice B' l'.length d') 25 wr) (fun i _ => l.length - (intOf i).toNat)
            case atStart => exact ⟨0, Nat.zero_le _, rfl, hid (by simp), hyA, hyB⟩
            case round =>
              obtain ⟨j, hj, rfl, HQ, hzA, hzB⟩ := hrel
              have hbw := hzA.below
              obtain ⟨_, _, _, g3⟩ := hzA.cells
              obtain ⟨_, _, _, g3', hlB⟩ := hzB.cells2
              have hlA := hzA.lt
              by_cases hlt : j < l.length
              · obtain ⟨g, off, k1, n1, b1, l1, A1, c1, B1, d1, rfl, hg, _, HX, q0, q1, q2, q3, hX⟩ := (hH.stay hbw).item hlt
                obtain ⟨g', off', k2, n2, b2, l2, A2, c2, B2, d2, rfl, hg', _, HX', r0, r1, r2, r3, hX'⟩ := (hH'.stay hbw).item (show j < l'.length by rw [← HL.out]; exact hlt)
                have hm := List.mem_of_getElem? HX.out
                have hjp : (j : Int) < l.length := by omega
                have hjp' : (j : Int) < l'.length := by rw [← HL.out]; exact hjp
                have hdw := (Below.refl wr.heap.size wr).drew
                have hXd := hX.stay hdw
                have hXd' := hX'.stay hdw
                have hdrop : sameL l l' = (sameV (.mk k1 n1 b1 l1) (.mk k2 n2 b2 l2) && sameL (l.drop (j + 1)) (l'.drop (j + 1))) := by rw [HQ.out, drop_at HX.out, drop_at HX'.out, sameL]
                have HDR := hid hdrop
                clear hdrop
                cases hsx : sameV (.mk k1 n1 b1 l1) (.mk k2 n2 b2 l2) with
                | true =>
                  have HSX := hid hsx
                  clear hsx
                  go_wp2
                  go_still_tail 10, (by kernel_rfl)
                  change wpList _ _ _ _ _ wr.drew
                  go_wp2_with (go_at_call 17; refine (ih _ hm k1 n1 b1 l1 rfl k2 n2 b2 l2 D D' A1 B1 A2 B2 c1 d1 c2 d2 _ hXd hXd').mono ?_; rw [HSX.out]; rintro e w2 ⟨rfl, hb2⟩)
                  go_roundw
                  case rel => exact ⟨j + 1, by omega, by go_num, hid (by rw [HDR.out, HSX.out, Bool.true_and]), (hzA.next hdw).next hb2, (hzB.next hdw).next hb2⟩
                  case measure => simp [intOf]; omega
                | false =>
                  have HSX := hid hsx
                  clear hsx
                  go_wp2
                  go_still_tail 10, (by kernel_rfl)
                  change wpList _ _ _ _ _ wr.drew
                  go_wp2_with (go_at_call 17; refine (ih _ hm k1 n1 b1 l1 rfl k2 n2 b2 l2 D D' A1 B1 A2 B2 c1 d1 c2 d2 _ hXd hXd').mono ?_; rw [HSX.out]; rintro e w2 ⟨rfl, hb2⟩)
                  go_ret
                  exact ⟨ret_bool (by rw [HP.out, HDR.out, HSX.out]; rfl), ((hzA.next hdw).next hb2).below⟩
              · have e : j = l.length := by omega
                subst e
                go_wp2
                go_ret
                exact ⟨ret_bool (by rw [HP.out, HQ.out, List.drop_length, HL.out, List.drop_length]; rfl), hbw⟩
          · have HP : Hid (sameV (.mk k n b l) (.mk k' n' b' l') = false) := hid (by rw [hp, sameL_len l l' hl, Bool.and_false])
            have HB := hid (decide_eq_true hb)
            have hlb : ((l.length : Int) != (l'.length : Int)) = true := by simp; omega
            clear hp hk hn hb hl
            go_enter Tryd.func17, Tryd.ntmps17
            go_wp2_with (go_at_call 14; refine (wsame_any A A' c c' b b' _ hbl (hH.stay hxA2.below).nums (hH'.stay hxA2.below).nums).mono ?_; rw [HB.out]; rintro e w1 ⟨rfl, hb1⟩; have hyA := hxA2.next hb1; have hyB := hxB.next hb1; obtain ⟨_, _, _, a3⟩ := hyA.cells; obtain ⟨_, _, _, a3', _⟩ := hyB.cells2)
            go_ret
            exact ⟨ret_bool HP.out.symm, hyA.below⟩
        · have HP : Hid (sameV (.mk k n b l) (.mk k' n' b' l') = false) := hid (by rw [hp]; simp [hb])
          have HB := hid (decide_eq_false hb)
          clear hp hk hn hb
          go_enter Tryd.func17, Tryd.ntmps17
          go_wp2_with (go_at_call 14; refine (wsame_any A A' c c' b b' _ hbl (hH.stay hxA2.below).nums (hH'.stay hxA2.below).nums).mono ?_; rw [HB.out]; rintro e w1 ⟨rfl, hb1⟩; have hyA := hxA2.next hb1)
          go_ret
          exact ⟨ret_bool HP.out.symm, hyA.below⟩
      · have HP : Hid (sameV (.mk k n b l) (.mk k' n' b' l') = false) := hid (by rw [hp]; simp [hn])
        have hkb : (k != k') = false := by simp [hk]
        have hnb : (n != n') = true := by simp [hn]
        clear hp hk hn
        go_enter Tryd.func17, Tryd.ntmps17
        go_wp2
        go_ret
        exact ⟨ret_bool HP.out.symm, newB (below_new _ _) _⟩
    · have HP : Hid (sameV (.mk k n b l) (.mk k' n' b' l') = false) := hid (by rw [hp]; simp [hk])
      have hkb : (k != k') = true := by simp [hk]
      clear hp hk
      go_enter Tryd.func17, Tryd.ntmps17
      go_wp2
      go_ret
      exact ⟨ret_bool HP.out.symm, newB (below_new _ _) _⟩
end Go.Proofs.YtcahcecohjohpaaDoor
