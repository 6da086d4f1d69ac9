/- Depth as the program counts it. -/
import Derived.Test.YtcahcecohjohpaaDoorSpec
import Derived.BigQuiet
import Derived.Deep.QuietTactic
namespace Go.Proofs.YtcahcecohjohpaaDoor
open Go.RowKit

set_option maxHeartbeats 1000000 in
theorem depth_any (v : V) : ∀ (k n : Int) (b : List Int) (l : List V), v = .mk k n b l → ∀ (D : Nat) (A B : Option Addr) (c d : Nat) (u : Nat) (w : World), u ≤ 17 → Has D w (.mk k n b l) A B →
    Calls Tryd.prog 25 #[.agg #[.int .i64 k, .int .i64 n, .slice A b.length c, .slice B l.length d], .int .i64 u] w fun e w' => e = .returned (.int .i64 (min (deepV (.mk k n b l)) u : Nat)) ∧ Below w.heap.size w w' := by
  induction v using V.ind with
  | h k n b l ih =>
    intro k' n' b' l' heq D A B c d u w hu hH
    injection heq with e1 e2 e3 e4
    subst e1; subst e2; subst e3; subst e4
    have hll := hH.len
    unfold maxLen at hll
    by_cases h3 : k = 3
    · have hp : deepV (.mk k n b l) = 1 + deepL l := by unfold deepV; rw [if_pos h3]
      have HP := hid hp
      have hb3 : (k != 3) = false := by simp [h3]
      clear hp h3
      by_cases h0 : u = 0
      · subst h0
        have HM : Hid ((min (deepV (.mk k n b l)) 0 : Nat) = 0) := hid (by omega)
        go_enter Tryd.func25, Tryd.ntmps25
        go_wp2
        go_ret
        exact ⟨ret_int (by rw [HM.out]; rfl), below_new _ _⟩
      · obtain ⟨t, rfl⟩ : ∃ t, u = t + 1 := ⟨u - 1, by omega⟩
        have e1 : (((t + 1 : Nat) : Int) == 0) = false := by rw [beq_eq_false_iff_ne]; omega
        have e2 : ((t + 1 : Nat) : Int) - 1 = (t : Int) := by omega
        have h1 : (1 : Int) ≤ ((t + 1 : Nat) : Int) := by omega
        have h2 : ((t + 1 : Nat) : Int) ≤ 17 := by omega
        clear h0
        generalize hU : ((t + 1 : Nat) : Int) = U at e1 e2 h1 h2 ⊢
        have HU := hid hU
        clear hU
        go_enter Tryd.func25, Tryd.ntmps25
        go_wp2
        go_loopw [5, 18] (fun r i wr => ∃ (j q : Nat), j ≤ l.length ∧ r = .int .i64 q ∧ q ≤ t ∧ i = .int .i64 j ∧ Hid (min (1 + deepL l) (t + 1) = min (1 + max q (deepL (l.drop j))) (t + 1)) ∧ Below w.heap.size w wr) (fun _ i _ => l.length - (intOf i).toNat)
        case atStart => exact ⟨0, 0, Nat.zero_le _, rfl, Nat.zero_le _, rfl, hid (by simp), below_new _ _⟩
        case round =>
          obtain ⟨j, q, hj, rfl, hq, rfl, HQ, hb⟩ := hrel
          by_cases hlt : j < l.length
          · obtain ⟨g, off, k1, n1, b1, l1, A1, c1, B1, d1, rfl, hg, _, HX, a0, a1, a2, a3, hX⟩ := (hH.stay hb).item hlt
            have hm := List.mem_of_getElem? HX.out
            obtain ⟨x, hx⟩ : ∃ x, x = min (deepV (.mk k1 n1 b1 l1)) t := ⟨_, rfl⟩
            have HX2 := hid hx
            have hxt : x ≤ t := by omega
            have hj18 : (j : Int) < l.length := by omega
            clear hx
            by_cases hqx : q < x
            · by_cases hxe : x = t
              · have hyb : ((x : Int) == (t : Int)) = true := by simp [hxe]
                have HXE := hid hxe
                clear hxe
                go_wp2_with (go_at_call 25; refine (ih _ hm k1 n1 b1 l1 rfl D A1 B1 c1 d1 t _ (by omega) (hX.stay (below_new _ _))).mono ?_; rintro e w' ⟨rfl, hbb⟩; rw [← HX2.out])
                go_ret
                exact ⟨ret_int (by have := HXE.out; have := HX2.out; rw [HP.out, HQ.out, drop_at HX.out, deepL]; omega), nextB (newB hb _) hbb⟩
              · have hyb : ((x : Int) == (t : Int)) = false := by rw [beq_eq_false_iff_ne]; omega
                go_wp2_with (go_at_call 25; refine (ih _ hm k1 n1 b1 l1 rfl D A1 B1 c1 d1 t _ (by omega) (hX.stay (below_new _ _))).mono ?_; rintro e w' ⟨rfl, hbb⟩; rw [← HX2.out])
                go_roundw
                case rel => exact ⟨j + 1, x, by omega, rfl, by omega, by go_num, hid (by have := HX2.out; rw [HQ.out, drop_at HX.out, deepL]; omega), nextB (newB hb _) hbb⟩
                case measure => simp [intOf]; omega
            · by_cases hxe : q = t
              · have hyb : ((q : Int) == (t : Int)) = true := by simp [hxe]
                have HXE := hid hxe
                clear hxe
                go_wp2_with (go_at_call 25; refine (ih _ hm k1 n1 b1 l1 rfl D A1 B1 c1 d1 t _ (by omega) (hX.stay (below_new _ _))).mono ?_; rintro e w' ⟨rfl, hbb⟩; rw [← HX2.out])
                go_ret
                exact ⟨ret_int (by have := HXE.out; have := HX2.out; rw [HP.out, HQ.out, drop_at HX.out, deepL]; omega), nextB (newB hb _) hbb⟩
              · have hyb : ((q : Int) == (t : Int)) = false := by rw [beq_eq_false_iff_ne]; omega
                go_wp2_with (go_at_call 25; refine (ih _ hm k1 n1 b1 l1 rfl D A1 B1 c1 d1 t _ (by omega) (hX.stay (below_new _ _))).mono ?_; rintro e w' ⟨rfl, hbb⟩; rw [← HX2.out])
                go_roundw
                case rel => exact ⟨j + 1, q, by omega, rfl, by omega, by go_num, hid (by have := HX2.out; rw [HQ.out, drop_at HX.out, deepL]; omega), nextB (newB hb _) hbb⟩
                case measure => simp [intOf]; omega
          · have e : j = l.length := by omega
            subst e
            go_wp2
            go_ret
            exact ⟨ret_int (by rw [HP.out, HQ.out, List.drop_length, deepL]; omega), hb⟩
    · have hp : deepV (.mk k n b l) = 0 := by unfold deepV; rw [if_neg h3]
      have hb3 : (k != 3) = true := by simp [h3]
      have HP := hid hp
      clear hp h3
      go_enter Tryd.func25, Tryd.ntmps25
      go_wp2
      go_ret
      exact ⟨ret_int (by rw [HP.out]; simp), below_new _ _⟩

theorem cDepth_any (k n : Int) (b : List Int) (l : List V) (D : Nat) (A B : Option Addr) (c d : Nat) (w : World) (hH : Has D w (.mk k n b l) A B) :
    Calls Tryd.prog 10 #[.agg #[.int .i64 k, .int .i64 n, .slice A b.length c, .slice B l.length d]] w fun e w' => e = .returned (.int .i64 (min (deepV (.mk k n b l)) 17 : Nat)) ∧ Below w.heap.size w w' := by
  go_enter Tryd.func10, Tryd.ntmps10
  go_wp2_with (go_at_call 25; refine (depth_any _ k n b l rfl D A B c d 17 _ (by omega) (hH.stay (below_new _ _))).mono ?_; rintro e w' ⟨rfl, hbb⟩)
  go_ret
  exact ⟨rfl, nextB (below_new _ _) hbb⟩
end Go.Proofs.YtcahcecohjohpaaDoor
