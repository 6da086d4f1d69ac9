/- Whether digits make more than a number before so many digits. -/
import Derived.Test.YtjgojbjehedpaaaDoorRTimes
namespace Go.Proofs.YtjgojbjehedpaaaDoor
open Go.RowKit
theorem dv_drop (l : List Nat) {j : Nat} (h : j < l.length) : dv (l.drop j) = l.getD j 0 + 65536 * dv (l.drop (j + 1)) := by
  rw [List.drop_eq_getElem_cons h]
  simp [dv, h]
theorem above_high {l : List Nat} {p n i : Nat} (hn : n < i) (hi : i < l.length) (hp : p < 65536) (hd : 0 < l.getD i 0) : p * 65536 ^ n < dv l := by
  rw [dv_split l i (by omega), dv_drop l hi]
  have h1 : 65536 ^ (n + 1) ≤ 65536 ^ i := Nat.pow_le_pow_right (by omega) (by omega)
  have h2 : 65536 ^ i * 1 ≤ 65536 ^ i * (l.getD i 0 + 65536 * dv (l.drop (i + 1))) := Nat.mul_le_mul_left _ (by omega)
  have h3 : p * 65536 ^ n < 65536 * 65536 ^ n := Nat.mul_lt_mul_of_pos_right hp (Nat.pow_pos (by omega))
  rw [Nat.pow_succ, Nat.mul_comm] at h1
  omega
theorem dv_at {l : List Nat} {n : Nat} (hl : n < l.length) (hz : dv (l.drop (n + 1)) = 0) : dv l = dv (l.take n) + 65536 ^ n * l.getD n 0 := by
  rw [dv_split l n (by omega), dv_drop l hl, hz]
  simp
theorem above_at {l : List Nat} {p n : Nat} (hD : Digs l) (hl : n < l.length) (hz : dv (l.drop (n + 1)) = 0) (hne : l.getD n 0 ≠ p) : (p * 65536 ^ n < dv l ↔ p < l.getD n 0) := by
  rw [dv_at hl hz]
  have ht := dv_lt (l.take n) (fun v hv => hD v (List.mem_of_mem_take hv))
  rw [List.length_take, Nat.min_eq_left (by omega)] at ht
  generalize l.getD n 0 = d at *
  generalize dv (l.take n) = t at *
  rw [Nat.mul_comm p]
  generalize 65536 ^ n = P at *
  constructor
  · intro h
    refine Nat.lt_of_not_le fun hle => ?_
    have : P * (d + 1) ≤ P * p := Nat.mul_le_mul_left _ (by omega)
    rw [Nat.mul_add] at this
    omega
  · intro h
    have : P * (p + 1) ≤ P * d := Nat.mul_le_mul_left _ (by omega)
    rw [Nat.mul_add] at this
    omega
theorem above_low {l : List Nat} {p n : Nat} (hl : n < l.length) (hz : dv (l.drop (n + 1)) = 0) (he : l.getD n 0 = p) : (p * 65536 ^ n < dv l ↔ 0 < dv (l.take n)) := by
  rw [dv_at hl hz, he, Nat.mul_comm p]
  omega
theorem dv_take_pos {l : List Nat} {i n : Nat} (hi : i < n) (hl : n ≤ l.length) (hd : 0 < l.getD i 0) : 0 < dv (l.take n) := by
  have h := dv_split (l.take n) i (by simp; omega)
  rw [h, dv_drop _ (by simp; omega)]
  have e : (l.take n).getD i 0 = l.getD i 0 := by simp [List.getD_eq_getElem?_getD, hi]
  rw [e]
  have h2 : 65536 ^ i * 1 ≤ 65536 ^ i * (l.getD i 0 + 65536 * dv ((l.take n).drop (i + 1))) := Nat.mul_le_mul_left _ (by omega)
  have h3 : 0 < 65536 ^ i := Nat.pow_pos (by omega)
  omega

set_option maxRecDepth 4000 in
set_option maxHeartbeats 1000000 in
theorem above_any (g o c : Nat) (l : List Nat) (p n : Nat) (w : World) (hl : n < l.length) (hl2 : l.length ≤ 1000) (hp : p < 65536) (hD : Digs l) (hN : Nums w .i64 (some ⟨g, o, none⟩) (nl l)) :
    Calls Tryd.prog 28 #[.slice (some ⟨g, o, none⟩) l.length c, .int .i64 p, .int .i64 n] w fun e w' => ∃ b, e = .returned (.bool b) ∧ Hid (b = decide (p * 65536 ^ n < dv l)) ∧ w = w' := by
  have HD := hid hD
  clear hD
  have hlw : IntKind.i64.wrap ((l.length : Int) - 1) = (l.length : Int) - 1 := IntWalk.i64_in _ (by omega)
  have n0 : (0 : Int) ≤ n := by omega
  have nl1 : (n : Int) < l.length := by omega
  go_enter Tryd.func28, Tryd.ntmps28
  go_wp2
  go_loopw [7] (fun i wr => ∃ j : Nat, n + 1 ≤ j ∧ j ≤ l.length ∧ i = .int .i64 ((j : Int) - 1) ∧ Hid (dv (l.drop j) = 0) ∧ w = wr) (fun i _ => (intOf i + 1).toNat)
  case atStart => exact ⟨l.length, by omega, by omega, rfl, hid (by simp [dv]), rfl⟩
  case round =>
    obtain ⟨j, hj1, hj2, rfl, HZ, rfl⟩ := hrel
    by_cases hlt : n + 1 < j
    · obtain ⟨i, rfl⟩ : ∃ i, j = i + 1 := ⟨j - 1, by omega⟩
      have hz : ((i + 1 : Nat) : Int) - 1 = (i : Int) := by omega
      rw [hz]
      have ci := num_cell hN (nl_at (l := l) (i := i) (by omega))
      have HA : Hid (0 < l.getD i 0 → p * 65536 ^ n < dv l) := hid fun h => above_high (by omega) (by omega) hp h
      have HB : Hid (l.getD i 0 = 0 → dv (l.drop i) = 0) := hid fun h => by rw [dv_drop l (by omega), h, HZ.out]
      generalize l.getD i 0 = d at *
      have i0 : (0 : Int) ≤ i := by omega
      have i1 : (i : Int) < l.length := by omega
      have i2 : (n : Int) < i := by omega
      have iw : IntKind.i64.wrap ((i : Int) - 1) = (i : Int) - 1 := IntWalk.i64_in _ (by omega)
      cases d with
      | zero =>
        go_wp2
        go_roundw
        case rel => exact ⟨i, by omega, by omega, rfl, hid (HB.out rfl), by trivial⟩
        case measure => simp [intOf]
      | succ d =>
        have dpos : (0 : Int) < ((d + 1 : Nat) : Int) := by omega
        have HT := hid (HA.out (by omega))
        go_wp2
        go_ret
        exact ⟨true, rfl, hid (decide_eq_true HT.out).symm, rfl⟩
    · have e : j = n + 1 := by omega
      subst e
      have cn := num_cell hN (nl_at (l := l) (i := n) (by omega))
      have HA : Hid (l.getD n 0 ≠ p → (p * 65536 ^ n < dv l ↔ p < l.getD n 0)) := hid fun h => above_at HD.out hl HZ.out h
      have HB : Hid (l.getD n 0 = p → (p * 65536 ^ n < dv l ↔ 0 < dv (l.take n))) := hid fun h => above_low hl HZ.out h
      generalize l.getD n 0 = d at *
      have hz : ((n + 1 : Nat) : Int) - 1 = (n : Int) := by omega
      rw [hz]
      by_cases hd : d = p
      · have hne : ((d : Int) != (p : Int)) = false := by simp [hd]
        have HC := hid (HB.out hd)
        clear HA HB
        go_wp2
        go_loopw [8] (fun i wr => ∃ j : Nat, j ≤ n ∧ i = .int .i64 j ∧ Hid (dv (l.take j) = 0) ∧ w = wr) (fun i _ => n - (intOf i).toNat)
        case atStart => exact ⟨0, by omega, rfl, hid (by simp [dv]), rfl⟩
        case round =>
          obtain ⟨j, hj, rfl, HT, rfl⟩ := hrel
          by_cases hlt3 : j < n
          · have ci := num_cell hN (nl_at (l := l) (i := j) (by omega))
            have HA : Hid (0 < l.getD j 0 → 0 < dv (l.take n)) := hid fun h => dv_take_pos hlt3 (by omega) h
            have HB : Hid (l.getD j 0 = 0 → dv (l.take (j + 1)) = 0) := hid fun h => by
              rw [dv_take_succ l j (l.getD j 0) (get_ofN l (by omega)), HT.out, h]; simp
            generalize l.getD j 0 = q at *
            have j0 : (0 : Int) ≤ j := by omega
            have j1 : (j : Int) < l.length := by omega
            have j2 : (j : Int) < n := by omega
            cases q with
            | zero =>
              go_wp2
              go_roundw
              case rel => exact ⟨j + 1, by omega, by go_num, hid (HB.out rfl), by trivial⟩
              case measure => simp [intOf]; omega
            | succ q =>
              have dpos : (0 : Int) < ((q + 1 : Nat) : Int) := by omega
              have HR := hid (HC.out.2 (HA.out (by omega)))
              go_wp2
              go_ret
              exact ⟨true, rfl, hid (decide_eq_true HR.out).symm, rfl⟩
          · have e : j = n := by omega
            have j2 : ¬ (j : Int) < n := by omega
            have HR : Hid (¬ p * 65536 ^ n < dv l) := hid fun h => by have := HC.out.1 h; rw [e] at HT; rw [HT.out] at this; omega
            clear e
            go_wp2
            go_ret
            exact .inl ⟨rfl, hid (Nat.le_of_not_lt HR.out), by trivial⟩
      · have hne : ((d : Int) != (p : Int)) = true := by simp only [bne_iff_ne]; omega
        have HC := hid (HA.out hd)
        clear HA HB
        go_wp2
        go_ret
        exact ⟨decide (p < d), rfl, hid (decide_eq_decide.2 HC.out).symm, rfl⟩
end Go.Proofs.YtjgojbjehedpaaaDoor
