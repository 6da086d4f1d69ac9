/- Few, parts and the depth of values. No condition. -/
import Derived.Test.YtcahcecohjohpaaDoorVal
import Derived.BigQuiet
import Derived.Deep.QuietTactic
namespace Go.Proofs.YtcahcecohjohpaaDoor
open Go.RowKit

mutual
def partsV : V → Int → Int → Int
  | .mk _ _ b l, room, deep => if deep = 0 ∨ 2000 < b.length then -1 else partsL l (room - 1) (deep - 1)
def partsL : List V → Int → Int → Int
  | [], room, _ => room
  | x :: l, room, deep => if room < 0 then -1 else partsL l (partsV x room deep) deep
end

mutual
theorem partsV_bd : ∀ (v : V) (room deep : Int), -1 ≤ room → -2 ≤ partsV v room deep ∧ partsV v room deep ≤ room ∧ (0 ≤ room → -1 ≤ partsV v room deep)
  | .mk k n b l, room, deep, h => by
    unfold partsV
    split
    · omega
    · have := partsL_bd l (room - 1) (deep - 1) (by omega)
      omega
theorem partsL_bd : ∀ (l : List V) (room deep : Int), -2 ≤ room → -2 ≤ partsL l room deep ∧ (partsL l room deep ≤ room ∨ partsL l room deep = -1) ∧ (-1 ≤ room → -1 ≤ partsL l room deep)
  | [], room, deep, h => by unfold partsL; omega
  | x :: l, room, deep, h => by
    unfold partsL
    split
    · omega
    · have := partsV_bd x room deep (by omega)
      have := partsL_bd l (partsV x room deep) deep (by omega)
      omega
end
theorem drop_at {l : List V} {i : Nat} {x : V} (h : l[i]? = some x) : l.drop i = x :: l.drop (i + 1) := by
  obtain ⟨h1, h2⟩ := List.getElem?_eq_some_iff.1 h
  rw [List.drop_eq_getElem_cons h1, h2]

set_option maxHeartbeats 400000 in
theorem parts_any (v : V) : ∀ (k n : Int) (b : List Int) (l : List V), v = .mk k n b l → ∀ (D : Nat) (A B : Option Addr) (c d : Nat) (room deep : Int) (w : World), 0 ≤ room → room ≤ 200 → 0 ≤ deep → deep ≤ 30 → b.length ≤ maxLen → Has D w (.mk k n b l) A B →
    Calls Tryd.prog 22 #[.agg #[.int .i64 k, .int .i64 n, .slice A b.length c, .slice B l.length d], .int .i64 room, .int .i64 deep] w fun e w' => e = .returned (.int .i64 (partsV (.mk k n b l) room deep)) ∧ Below w.heap.size w w' := by
  induction v using V.ind with
  | h k n b l ih =>
    intro k' n' b' l' heq D A B c d room deep w hr0 hr1 hd0 hd1 hbl hH
    injection heq with e1 e2 e3 e4
    subst e1; subst e2; subst e3; subst e4
    unfold maxLen at hbl
    have hll := hH.len
    unfold maxLen at hll
    by_cases hc : deep = 0 ∨ 2000 < b.length
    · have hp : partsV (.mk k n b l) room deep = -1 := by unfold partsV; rw [if_pos hc]
      have HP := hid hp
      clear hp
      by_cases h0 : deep = 0
      · have hdb : (deep == 0) = true := by simp [h0]
        clear hc h0
        go_enter Tryd.func22, Tryd.ntmps22
        go_wp2
        go_ret
        exact ⟨ret_int HP.out.symm, below_new _ _⟩
      · have h2 : 2000 < b.length := by omega
        have h0b : (deep == 0) = false := by simp [h0]
        clear hc
        go_enter Tryd.func22, Tryd.ntmps22
        go_wp2
        go_ret
        exact ⟨ret_int HP.out.symm, below_new _ _⟩
    · have hp : partsV (.mk k n b l) room deep = partsL l (room - 1) (deep - 1) := by unfold partsV; rw [if_neg hc]
      have HP := hid hp
      have h0 : ¬ deep = 0 := fun h => hc (.inl h)
      have h2 : ¬ 2000 < b.length := fun h => hc (.inr h)
      have h0b : (deep == 0) = false := by simp [h0]
      clear hp hc
      go_enter Tryd.func22, Tryd.ntmps22
      go_wp2
      go_loopw [1, 22] (fun r i wr => ∃ (j : Nat) (q : Int), j ≤ l.length ∧ r = .int .i64 q ∧ -1 ≤ q ∧ q ≤ 200 ∧ i = .int .i64 j ∧ Hid (partsL l (room - 1) (deep - 1) = partsL (l.drop j) q (deep - 1)) ∧ Below w.heap.size w wr) (fun _ i _ => l.length - (intOf i).toNat)
      case atStart => exact ⟨0, room - 1, Nat.zero_le _, rfl, by omega, by omega, rfl, hid (by simp), below_new _ _⟩
      case round =>
        obtain ⟨j, q, hj, rfl, hq0, hq1, rfl, HQ, hb⟩ := hrel
        by_cases hlt : j < l.length
        · obtain ⟨g, off, k1, n1, b1, l1, A1, c1, B1, d1, rfl, hg, _, HX, a0, a1, a2, a3, hX⟩ := (hH.stay hb).item hlt
          have hm := List.mem_of_getElem? HX.out
          have hb1 := hX.bytes.2.2
          by_cases hq : q < 0
          · go_wp2
            go_ret
            exact ⟨ret_int (by rw [HP.out, HQ.out, drop_at HX.out]; unfold partsL; rw [if_pos hq]), newB hb _⟩
          · have hbd := partsV_bd (.mk k1 n1 b1 l1) q (deep - 1) (by omega)
            have hbd1 := hbd.1
            have hbd2 := hbd.2.1
            have hbd3 := hbd.2.2 (by omega)
            clear hbd
            go_wp2_with (go_at_call 22; refine (ih _ hm k1 n1 b1 l1 rfl D A1 B1 c1 d1 q (deep - 1) _ (by omega) (by omega) (by omega) (by omega) hb1 (hX.stay (below_new _ _))).mono ?_; rintro e w' ⟨rfl, hbb⟩)
            go_roundw
            case rel => exact ⟨j + 1, partsV (.mk k1 n1 b1 l1) q (deep - 1), by omega, rfl, by omega, by omega, by go_num, hid (by rw [HQ.out, drop_at HX.out]; rw [partsL, if_neg (by omega)]), nextB (newB hb _) hbb⟩
            case measure => simp [intOf]; omega
        · have e : j = l.length := by omega
          subst e
          go_wp2
          go_ret
          exact ⟨ret_int (by rw [HP.out, HQ.out, List.drop_length, partsL]), hb⟩

/-- Few. -/
def fewV (v : V) : Bool := decide (0 ≤ partsV v 200 30)
theorem few_any (k n : Int) (b : List Int) (l : List V) (D : Nat) (A B : Option Addr) (c d : Nat) (w : World) (hH : Has D w (.mk k n b l) A B) :
    Calls Tryd.prog 7 #[.agg #[.int .i64 k, .int .i64 n, .slice A b.length c, .slice B l.length d]] w fun e w' => e = .returned (.bool (fewV (.mk k n b l))) ∧ Below w.heap.size w w' := by
  have hbd := partsV_bd (.mk k n b l) 200 30 (by omega)
  have hbm := hH.bytes.2.2
  go_enter Tryd.func7, Tryd.ntmps7
  go_wp2_with (go_at_call 22; refine (parts_any _ k n b l rfl D A B c d 200 30 _ (by omega) (by omega) (by omega) (by omega) hbm (hH.stay (below_new _ _))).mono ?_; rintro e w' ⟨rfl, hbb⟩)
  go_ret
  exact ⟨rfl, nextB (below_new _ _) hbb⟩
end Go.Proofs.YtcahcecohjohpaaDoor
