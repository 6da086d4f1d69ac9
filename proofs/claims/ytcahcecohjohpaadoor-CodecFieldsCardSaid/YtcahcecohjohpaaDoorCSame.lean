/- The program's equality of values. -/
import Derived.Test.YtcahcecohjohpaaDoorSame
namespace Go.Proofs.YtcahcecohjohpaaDoor
open Go.RowKit

/-- What Same says of one value against any other. -/
def SameOK (v : V) : Prop :=
  ∀ (k n : Int) (b : List Int) (l : List V), v = .mk k n b l → ∀ (k' n' : Int) (b' : List Int) (l' : List V) (D D' : Nat) (A B A' B' : Option Addr) (c d c' d' : Nat) (w : World), Has D w (.mk k n b l) A B → Has D' w (.mk k' n' b' l') A' B' →
    Calls Tryd.prog 16 #[.agg #[.int .i64 k, .int .i64 n, .slice A b.length c, .slice B l.length d], .agg #[.int .i64 k', .int .i64 n', .slice A' b'.length c', .slice B' l'.length d']] w (Says (sameV (.mk k n b l) (.mk k' n' b' l')) w)

set_option maxHeartbeats 2000000 in
theorem equalFunc_any (k n : Int) (b : List Int) (l : List V) (ih : ∀ x ∈ l, SameOK x) (k' n' : Int) (b' : List Int) (l' : List V) (D D' : Nat) (A B A' B' : Option Addr) (d d' : Nat) (w : World) (hH : Has D w (.mk k n b l) A B) (hH' : Has D' w (.mk k' n' b' l') A' B') :
    Calls Tryd.prog 30 #[.slice B l.length d, .slice B' l'.length d', .func (.func 16) #[] #[]] w (Says (sameL l l') w) := by
  have hll := hH.len
  unfold maxLen at hll
  by_cases hl : l.length = l'.length
  · have HL := hid hl
    have hlb : ((l.length : Int) != (l'.length : Int)) = false := by simp [hl]
    clear hl
    go_enter Tryd.func30, Tryd.ntmps30
    go_wp2
    go_loopw [17] (fun i wr => ∃ (j : Nat), j ≤ l.length ∧ i = .int .i64 j ∧ Hid (sameL l l' = sameL (l.drop j) (l'.drop j)) ∧ Below w.heap.size w wr) (fun i _ => l.length - (intOf i).toNat)
    case atStart => exact ⟨0, Nat.zero_le _, rfl, hid (by simp), Below.refl _ _⟩
    case round =>
      obtain ⟨j, hj, rfl, HQ, hbw⟩ := hrel
      by_cases hlt : j < l.length
      · obtain ⟨g, off, k1, n1, b1, l1, A1, c1, B1, d1, rfl, hg, _, HX, q0, q1, q2, q3, hX⟩ := (hH.stay hbw).item hlt
        obtain ⟨g', off', k2, n2, b2, l2, A2, c2, B2, d2, rfl, hg', _, HX', r0, r1, r2, r3, hX'⟩ := (hH'.stay hbw).item (show j < l'.length by rw [← HL.out]; exact hlt)
        have hm := List.mem_of_getElem? HX.out
        have hjp : (j : Int) < l.length := by omega
        have hjp' : (j : Int) < l'.length := by rw [← HL.out]; exact hjp
        have hnew := newB (below_new wr (.cells #[.int .i64 k1, .int .i64 n1, .slice A1 b1.length c1, .slice B1 l1.length d1] 25)) (.cells #[.int .i64 k2, .int .i64 n2, .slice A2 b2.length c2, .slice B2 l2.length d2] 25)
        have hXd := hX.stay hnew
        have hXd' := hX'.stay hnew
        have hdrop : sameL l l' = (sameV (.mk k1 n1 b1 l1) (.mk k2 n2 b2 l2) && sameL (l.drop (j + 1)) (l'.drop (j + 1))) := by rw [HQ.out, drop_at HX.out, drop_at HX'.out, sameL]
        have HDR := hid hdrop
        clear hdrop
        cases hsx : sameV (.mk k1 n1 b1 l1) (.mk k2 n2 b2 l2) with
        | true =>
          have HSX := hid hsx
          clear hsx
          go_wp2_with (go_at_call 16; refine (ih _ hm k1 n1 b1 l1 rfl k2 n2 b2 l2 D D' A1 B1 A2 B2 c1 d1 c2 d2 _ hXd hXd').mono ?_; rw [HSX.out]; rintro e w2 ⟨rfl, hb2⟩)
          go_roundw
          case rel => exact ⟨j + 1, by omega, by go_num, hid (by rw [HDR.out, HSX.out, Bool.true_and]), nextB (nextB hbw hnew) hb2⟩
          case measure => simp [intOf]; omega
        | false =>
          have HSX := hid hsx
          clear hsx
          go_wp2_with (go_at_call 16; refine (ih _ hm k1 n1 b1 l1 rfl k2 n2 b2 l2 D D' A1 B1 A2 B2 c1 d1 c2 d2 _ hXd hXd').mono ?_; rw [HSX.out]; rintro e w2 ⟨rfl, hb2⟩)
          go_ret
          exact ⟨ret_bool (by rw [HDR.out, HSX.out]; rfl), nextB (nextB hbw hnew) hb2⟩
      · have e : j = l.length := by omega
        subst e
        go_wp2
        go_ret
        exact ⟨ret_bool (by rw [HQ.out, List.drop_length, HL.out, List.drop_length]; rfl), hbw⟩
  · have HP := hid (sameL_len l l' hl)
    have hlb : ((l.length : Int) != (l'.length : Int)) = true := by simp; omega
    clear hl
    go_enter Tryd.func30, Tryd.ntmps30
    go_wp2
    go_ret
    exact ⟨ret_bool HP.out.symm, Below.refl _ _⟩

set_option maxHeartbeats 2000000 in
theorem same_ok (v : V) : SameOK v := by
  induction v using V.ind with
  | h k n b l ih =>
    intro k0 n0 b0 l0 heq k' n' b' l' D D' A B A' B' c d c' d' w hH hH'
    injection heq with e1 e2 e3 e4
    subst e1; subst e2; subst e3; subst e4
    have hxA := Box4.start w (.int .i64 k) (.int .i64 n) (.slice A b.length c) (.slice B l.length d) 25
    have hxB := Box4.start (w.alloc (.cells #[.int .i64 k, .int .i64 n, .slice A b.length c, .slice B l.length d] 25)) (.int .i64 k') (.int .i64 n') (.slice A' b'.length c') (.slice B' l'.length d') 25
    have hxA2 := hxA.next hxB.below
    have h2 := hH.stay hxA2.below
    have h2' := hH'.stay hxA2.below
    have hp : sameV (.mk k n b l) (.mk k' n' b' l') = (decide (k = k') && decide (n = n') && decide (b = b') && sameL l l') := by rw [sameV]
    by_cases hk : k = k'
    · have hkb : (k == k') = true := by simp [hk]
      by_cases hn : n = n'
      · have hnb : (n == n') = true := by simp [hn]
        by_cases hb : b = b'
        · have HP : Hid (sameV (.mk k n b l) (.mk k' n' b' l') = sameL l l') := hid (by rw [hp]; simp [hk, hn, hb])
          have HB := hid (decide_eq_true hb)
          clear hp hk hn hb
          go_enter Tryd.func16, Tryd.ntmps16
          go_wp2_with (first
            | (go_at_call 29; refine (beq_any A A' c c' b b' _ h2.bytes.2.1 h2'.bytes.2.1 h2.nums h2'.nums).mono ?_; rw [HB.out]; rintro e w1 ⟨rfl, rfl⟩)
            | (go_at_call 30; refine (equalFunc_any k n b l ih k' n' b' l' D D' A B A' B' d d' _ h2 h2').mono ?_; rintro e w1 ⟨rfl, hb1⟩))
          go_ret
          exact ⟨ret_bool (by rw [HP.out]), nextB hxA2.below hb1⟩
        · have HP : Hid (sameV (.mk k n b l) (.mk k' n' b' l') = false) := hid (by rw [hp]; simp [hb])
          have HB := hid (decide_eq_false hb)
          clear hp hk hn hb
          go_enter Tryd.func16, Tryd.ntmps16
          go_wp2_with (go_at_call 29; refine (beq_any A A' c c' b b' _ h2.bytes.2.1 h2'.bytes.2.1 h2.nums h2'.nums).mono ?_; rw [HB.out]; rintro e w1 ⟨rfl, rfl⟩)
          go_ret
          exact ⟨ret_bool HP.out.symm, hxA2.below⟩
      · have HP : Hid (sameV (.mk k n b l) (.mk k' n' b' l') = false) := hid (by rw [hp]; simp [hn])
        have hnb : (n == n') = false := by simp [hn]
        clear hp hk hn
        go_enter Tryd.func16, Tryd.ntmps16
        go_wp2
        go_ret
        exact ⟨ret_bool HP.out.symm, hxA2.below⟩
    · have HP : Hid (sameV (.mk k n b l) (.mk k' n' b' l') = false) := hid (by rw [hp]; simp [hk])
      have hkb : (k == k') = false := by simp [hk]
      clear hp hk
      go_enter Tryd.func16, Tryd.ntmps16
      go_wp2
      go_ret
      exact ⟨ret_bool HP.out.symm, hxA2.below⟩
end Go.Proofs.YtcahcecohjohpaaDoor
