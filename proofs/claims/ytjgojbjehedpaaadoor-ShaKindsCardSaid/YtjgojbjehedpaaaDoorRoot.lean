/- The root, as the code finds it. -/
import Derived.Test.YtjgojbjehedpaaaDoorFits
namespace Go.Proofs.YtjgojbjehedpaaaDoor
open Go.RowKit
theorem small2 {n p : Nat} (h : n ^ 2 ≤ p) (hp : p ≤ 500) : n ≤ 22 := by
  refine Nat.le_of_not_lt fun hlt => ?_
  have := Nat.pow_le_pow_left (show 23 ≤ n by omega) 2
  omega
theorem small3 {n p : Nat} (h : n ^ 3 ≤ p) (hp : p ≤ 500) : n ≤ 7 := by
  refine Nat.le_of_not_lt fun hlt => ?_
  have := Nat.pow_le_pow_left (show 8 ≤ n by omega) 3
  omega
theorem room2 {n p N : Nat} (h : n ^ 2 ≤ p) (hp : p ≤ 500) (hN : N ≤ (n + 1) * 18446744073709551616) : N ^ 2 < 18446744073709551616 ^ 4 := by
  have h1 := small2 h hp
  have h2 : N ≤ 23 * 18446744073709551616 := Nat.le_trans hN (Nat.mul_le_mul_right _ (by omega))
  have h3 := Nat.pow_le_pow_left h2 2
  exact Nat.lt_of_le_of_lt h3 (by decide)
theorem room3 {n p N : Nat} (h : n ^ 3 ≤ p) (hp : p ≤ 500) (hN : N ≤ (n + 1) * 18446744073709551616) : N ^ 3 < 18446744073709551616 ^ 4 := by
  have h1 := small3 h hp
  have h2 : N ≤ 8 * 18446744073709551616 := Nat.le_trans hN (Nat.mul_le_mul_right _ (by omega))
  have h3 := Nat.pow_le_pow_left h2 3
  exact Nat.lt_of_le_of_lt h3 (by decide)
theorem or_bit (part m : Nat) (h : part % 2 ^ (m + 1) = 0) : part ||| 2 ^ m = part + 2 ^ m := by
  have h1 : part = 2 ^ (m + 1) * (part / 2 ^ (m + 1)) := by have := Nat.div_add_mod part (2 ^ (m + 1)); omega
  rw [h1]
  exact (Nat.two_pow_add_eq_or_of_lt (Nat.pow_lt_pow_right (by omega) (by omega)) _).symm

def Good (k n p part m : Nat) : Prop := part % 2 ^ m = 0 ∧ part + 2 ^ m ≤ 18446744073709551616 ∧ (n * 18446744073709551616 + part) ^ k ≤ p * 18446744073709551616 ^ k ∧ p * 18446744073709551616 ^ k < (n * 18446744073709551616 + part + 2 ^ m) ^ k
theorem good_yes {k n p part m : Nat} (h : Good k n p part (m + 1)) (hb : (n * 18446744073709551616 + (part + 2 ^ m)) ^ k ≤ p * 18446744073709551616 ^ k) : Good k n p (part + 2 ^ m) m := by
  obtain ⟨h1, h2, h3, h4⟩ := h
  rw [Nat.pow_succ] at h1 h2 h4
  refine ⟨?_, by omega, hb, ?_⟩
  · rw [Nat.add_mod_right]
    have := Nat.mod_mul_right_mod part (2 ^ m) 2
    rw [h1] at this
    simpa using this.symm
  · have e : n * 18446744073709551616 + (part + 2 ^ m) + 2 ^ m = n * 18446744073709551616 + part + 2 ^ m * 2 := by omega
    rw [e]; exact h4
theorem good_no {k n p part m : Nat} (h : Good k n p part (m + 1)) (hb : ¬ (n * 18446744073709551616 + (part + 2 ^ m)) ^ k ≤ p * 18446744073709551616 ^ k) : Good k n p part m := by
  obtain ⟨h1, h2, h3, h4⟩ := h
  rw [Nat.pow_succ] at h1 h2 h4
  refine ⟨?_, by omega, h3, ?_⟩
  · have := Nat.mod_mul_right_mod part (2 ^ m) 2
    rw [h1] at this
    simpa using this.symm
  · have e : n * 18446744073709551616 + part + 2 ^ m = n * 18446744073709551616 + (part + 2 ^ m) := by omega
    rw [e]; exact Nat.lt_of_not_le hb
theorem whole_le {a p k : Nat} : (a * 18446744073709551616 + 0) ^ k ≤ p * 18446744073709551616 ^ k ↔ a ^ k ≤ p := by
  rw [Nat.add_zero, Nat.mul_pow]
  exact Nat.mul_le_mul_right_iff (Nat.pow_pos (by omega))
theorem good_start {k n p : Nat} (h : n ^ k ≤ p) (h2 : ¬ ((n + 1) * 18446744073709551616 + 0) ^ k ≤ p * 18446744073709551616 ^ k) : Good k n p 0 64 := by
  have e : n * 18446744073709551616 + 0 + 2 ^ 64 = (n + 1) * 18446744073709551616 + 0 := by omega
  exact ⟨by omega, by omega, whole_le.2 h, by rw [e]; exact Nat.lt_of_not_le h2⟩

theorem fits_b (whole part p k : Nat) (w : World) (hw : whole < 18446744073709551616) (hpt : part < 18446744073709551616) (hp : p < 9223372036854775808) (hk : 2 ≤ k ∧ k ≤ 3) (h0 : 0 < whole * 18446744073709551616 + part) (hn : (whole * 18446744073709551616 + part) ^ k < 18446744073709551616 ^ 4) :
    Calls Tryd.prog 26 #[.int .u64 whole, .int .u64 part, .int .i64 p, .int .i64 k] w fun e w' => ∃ b, e = .returned (.bool b) ∧ Hid (b = decide ((whole * 18446744073709551616 + part) ^ k ≤ p * 18446744073709551616 ^ k)) ∧ Below w.heap.size w w' :=
  (fits_any whole part p k w hw hpt hp hk h0 hn).mono fun _ _ ⟨he, hb⟩ => ⟨_, he, hid rfl, hb⟩

set_option maxRecDepth 4000 in
set_option maxHeartbeats 1000000 in
theorem root2 (p : Nat) (w : World) (hp : 2 ≤ p ∧ p ≤ 500) :
    Calls Tryd.prog 15 #[.int .i64 p, .int .i64 2] w fun e w' => (∃ whole part : Nat, e = .returned (.tuple #[.int .u64 part, .int .i64 0]) ∧ Hid (part < 18446744073709551616 ∧ (whole * 18446744073709551616 + part) ^ 2 ≤ p * 18446744073709551616 ^ 2 ∧ p * 18446744073709551616 ^ 2 < (whole * 18446744073709551616 + part + 1) ^ 2)) ∧ Below w.heap.size w w' := by
  have hp1 : (2 : Int) ≤ p := by omega
  have hp2 : (p : Int) ≤ 500 := by omega
  go_enter Tryd.func15, Tryd.ntmps15
  go_wp2
  have hB := Below.refl w.heap.size w
  go_loopw [6] (fun v wr => ∃ n : Nat, 1 ≤ n ∧ v = .int .u64 n ∧ Hid (n ^ 2 ≤ p) ∧ Below w.heap.size w wr) (fun v _ => 30 - (intOf v).toNat)
  case atStart => exact ⟨1, by omega, rfl, hid (by omega), hB⟩
  case round =>
    obtain ⟨n, hn, rfl, HN, hB⟩ := hrel
    have h22 := small2 HN.out hp.2
    rename World => W1
    have hw1 : IntKind.u64.wrap ((n : Int) + 1) = ((n + 1 : Nat) : Int) := by rw [IntWalk.u64_in _ (by omega)]; omega
    go_wp2_with (go_at_call 26; refine (fits_b (n + 1) 0 p 2 _ (by omega) (by omega) (by omega) (by omega) (by omega) (room2 HN.out hp.2 (by omega))).mono ?_; rintro e w4 ⟨b, rfl, HBB, hb4⟩; have hB4 := hB.trans (hb4.mono hB.size); cases b)
    case roundEnd =>
      go_roundw
      case rel => exact ⟨n + 1, by omega, by go_num, hid (whole_le.1 (of_decide_eq_true HBB.out.symm)), hB4⟩
      case measure => simp [intOf]; omega
    have hG := hid (good_start HN.out (of_decide_eq_false HBB.out.symm))
    clear hw1 HBB hb4 hB
    go_loopw [7, 8] (fun v bv wr => ∃ part bit m : Nat, v = .int .u64 part ∧ bv = .int .u64 bit ∧ Hid (bit = 2 ^ m / 2 ∧ m ≤ 64 ∧ Good 2 n p part m) ∧ Below w.heap.size w wr) (fun _ bv _ => (intOf bv).toNat)
    case atStart => exact ⟨0, 9223372036854775808, 64, rfl, rfl, hid ⟨by decide, by omega, hG.out⟩, hB4⟩
    case round =>
      clear hG hB4
      obtain ⟨part, bit, m, rfl, rfl, HG, hB⟩ := hrel
      rename World => W2
      cases m with
      | zero =>
        have hb0 : bit = 0 := by have := HG.out.1; simpa using this
        subst hb0
        have HE : Hid (part < 18446744073709551616 ∧ (n * 18446744073709551616 + part) ^ 2 ≤ p * 18446744073709551616 ^ 2 ∧ p * 18446744073709551616 ^ 2 < (n * 18446744073709551616 + part + 1) ^ 2) := hid (by
          obtain ⟨_, _, _, h2, h3, h4⟩ := HG.out
          exact ⟨by rw [Nat.pow_zero] at h2; omega, h3, h4⟩)
        clear HG
        go_wp2
        go_ret2
        exact ⟨⟨n, part, rfl, HE⟩, hB⟩
      | succ m =>
        obtain ⟨hbit, hm, HG2⟩ := HG.out
        have eb : bit = 2 ^ m := by rw [hbit, Nat.pow_succ]; omega
        have HGG := hid HG2
        have HM := hid hm
        have HEB := hid eb
        have hb0 : (0 : Int) < bit := by have := Nat.pow_pos (n := m) (show 0 < 2 by omega); omega
        have hor : Hid (part ||| bit = part + bit) := hid (by rw [eb]; exact or_bit part m HG2.1)
        have hpb : Hid (part + bit < 18446744073709551616) := hid (by
          have h1 := HG2.2.1
          rw [Nat.pow_succ, ← eb] at h1
          omega)
        have h500 := hp.2
        clear HG hbit HG2 eb hm
        have hOr : bits .or .u64 (part : Int) (bit : Int) = ((part + bit : Nat) : Int) := by
          have := hpb.out
          rw [u64_or _ _ (by omega) (by omega) (by omega) (by omega)]
          simp only [Int.toNat_natCast]
          rw [hor.out]
        have hN : Hid (n * 18446744073709551616 + (part + bit) ≤ (n + 1) * 18446744073709551616) := hid (by have := hpb.out; omega)
        have h1n : Hid (0 < n * 18446744073709551616 + (part + bit)) := hid (by omega)
        have HF := hid (fun w => fits_b n (part + bit) p 2 w (by omega) hpb.out (by omega) (by omega) h1n.out (room2 HN.out h500 hN.out))
        obtain ⟨pb, hpb2⟩ : ∃ pb, pb = part + bit := ⟨_, rfl⟩
        rw [← hpb2] at HF hOr
        have HPB := hid hpb2
        clear hpb2 h1n hN hpb hor
        go_wp2_with (go_at_call 26; refine (HF.out _).mono ?_; rintro e w5 ⟨b, rfl, HBB, hb5⟩; have hB5 := hB.trans (hb5.mono hB.size); cases b)
        · have HY := hid (good_no HGG.out (by rw [← HEB.out, ← HPB.out]; exact of_decide_eq_false HBB.out.symm))
          clear HBB HF
          go_roundw
          case rel => exact ⟨part, bit / 2, m, rfl, rfl, hid ⟨by rw [HEB.out], by have := HM.out; omega, HY.out⟩, hB5⟩
          case measure => simp only [intOf]; omega
        · have HY := hid (good_yes HGG.out (by rw [← HEB.out, ← HPB.out]; exact of_decide_eq_true HBB.out.symm))
          rw [← HEB.out, ← HPB.out] at HY
          clear HBB HF
          go_roundw
          case rel => exact ⟨pb, bit / 2, m, rfl, rfl, hid ⟨by rw [HEB.out], by have := HM.out; omega, HY.out⟩, hB5⟩
          case measure => simp only [intOf]; omega

set_option maxRecDepth 4000 in
set_option maxHeartbeats 1000000 in
theorem root3 (p : Nat) (w : World) (hp : 2 ≤ p ∧ p ≤ 500) :
    Calls Tryd.prog 15 #[.int .i64 p, .int .i64 3] w fun e w' => (∃ whole part : Nat, e = .returned (.tuple #[.int .u64 part, .int .i64 0]) ∧ Hid (part < 18446744073709551616 ∧ (whole * 18446744073709551616 + part) ^ 3 ≤ p * 18446744073709551616 ^ 3 ∧ p * 18446744073709551616 ^ 3 < (whole * 18446744073709551616 + part + 1) ^ 3)) ∧ Below w.heap.size w w' := by
  have hp1 : (2 : Int) ≤ p := by omega
  have hp2 : (p : Int) ≤ 500 := by omega
  go_enter Tryd.func15, Tryd.ntmps15
  go_wp2
  have hB := Below.refl w.heap.size w
  go_loopw [6] (fun v wr => ∃ n : Nat, 1 ≤ n ∧ v = .int .u64 n ∧ Hid (n ^ 3 ≤ p) ∧ Below w.heap.size w wr) (fun v _ => 30 - (intOf v).toNat)
  case atStart => exact ⟨1, by omega, rfl, hid (by omega), hB⟩
  case round =>
    obtain ⟨n, hn, rfl, HN, hB⟩ := hrel
    have h22 := small3 HN.out hp.2
    rename World => W1
    have hw1 : IntKind.u64.wrap ((n : Int) + 1) = ((n + 1 : Nat) : Int) := by rw [IntWalk.u64_in _ (by omega)]; omega
    go_wp2_with (go_at_call 26; refine (fits_b (n + 1) 0 p 3 _ (by omega) (by omega) (by omega) (by omega) (by omega) (room3 HN.out hp.2 (by omega))).mono ?_; rintro e w4 ⟨b, rfl, HBB, hb4⟩; have hB4 := hB.trans (hb4.mono hB.size); cases b)
    case roundEnd =>
      go_roundw
      case rel => exact ⟨n + 1, by omega, by go_num, hid (whole_le.1 (of_decide_eq_true HBB.out.symm)), hB4⟩
      case measure => simp [intOf]; omega
    have hG := hid (good_start HN.out (of_decide_eq_false HBB.out.symm))
    clear hw1 HBB hb4 hB
    go_loopw [7, 8] (fun v bv wr => ∃ part bit m : Nat, v = .int .u64 part ∧ bv = .int .u64 bit ∧ Hid (bit = 2 ^ m / 2 ∧ m ≤ 64 ∧ Good 3 n p part m) ∧ Below w.heap.size w wr) (fun _ bv _ => (intOf bv).toNat)
    case atStart => exact ⟨0, 9223372036854775808, 64, rfl, rfl, hid ⟨by decide, by omega, hG.out⟩, hB4⟩
    case round =>
      clear hG hB4
      obtain ⟨part, bit, m, rfl, rfl, HG, hB⟩ := hrel
      rename World => W2
      cases m with
      | zero =>
        have hb0 : bit = 0 := by have := HG.out.1; simpa using this
        subst hb0
        have HE : Hid (part < 18446744073709551616 ∧ (n * 18446744073709551616 + part) ^ 3 ≤ p * 18446744073709551616 ^ 3 ∧ p * 18446744073709551616 ^ 3 < (n * 18446744073709551616 + part + 1) ^ 3) := hid (by
          obtain ⟨_, _, _, h2, h3, h4⟩ := HG.out
          exact ⟨by rw [Nat.pow_zero] at h2; omega, h3, h4⟩)
        clear HG
        go_wp2
        go_ret2
        exact ⟨⟨n, part, rfl, HE⟩, hB⟩
      | succ m =>
        obtain ⟨hbit, hm, HG2⟩ := HG.out
        have eb : bit = 2 ^ m := by rw [hbit, Nat.pow_succ]; omega
        have HGG := hid HG2
        have HM := hid hm
        have HEB := hid eb
        have hb0 : (0 : Int) < bit := by have := Nat.pow_pos (n := m) (show 0 < 2 by omega); omega
        have hor : Hid (part ||| bit = part + bit) := hid (by rw [eb]; exact or_bit part m HG2.1)
        have hpb : Hid (part + bit < 18446744073709551616) := hid (by
          have h1 := HG2.2.1
          rw [Nat.pow_succ, ← eb] at h1
          omega)
        have h500 := hp.2
        clear HG hbit HG2 eb hm
        have hOr : bits .or .u64 (part : Int) (bit : Int) = ((part + bit : Nat) : Int) := by
          have := hpb.out
          rw [u64_or _ _ (by omega) (by omega) (by omega) (by omega)]
          simp only [Int.toNat_natCast]
          rw [hor.out]
        have hN : Hid (n * 18446744073709551616 + (part + bit) ≤ (n + 1) * 18446744073709551616) := hid (by have := hpb.out; omega)
        have h1n : Hid (0 < n * 18446744073709551616 + (part + bit)) := hid (by omega)
        have HF := hid (fun w => fits_b n (part + bit) p 3 w (by omega) hpb.out (by omega) (by omega) h1n.out (room3 HN.out h500 hN.out))
        obtain ⟨pb, hpb2⟩ : ∃ pb, pb = part + bit := ⟨_, rfl⟩
        rw [← hpb2] at HF hOr
        have HPB := hid hpb2
        clear hpb2 h1n hN hpb hor
        go_wp2_with (go_at_call 26; refine (HF.out _).mono ?_; rintro e w5 ⟨b, rfl, HBB, hb5⟩; have hB5 := hB.trans (hb5.mono hB.size); cases b)
        · have HY := hid (good_no HGG.out (by rw [← HEB.out, ← HPB.out]; exact of_decide_eq_false HBB.out.symm))
          clear HBB HF
          go_roundw
          case rel => exact ⟨part, bit / 2, m, rfl, rfl, hid ⟨by rw [HEB.out], by have := HM.out; omega, HY.out⟩, hB5⟩
          case measure => simp only [intOf]; omega
        · have HY := hid (good_yes HGG.out (by rw [← HEB.out, ← HPB.out]; exact of_decide_eq_true HBB.out.symm))
          rw [← HEB.out, ← HPB.out] at HY
          clear HBB HF
          go_roundw
          case rel => exact ⟨pb, bit / 2, m, rfl, rfl, hid ⟨by rw [HEB.out], by have := HM.out; omega, HY.out⟩, hB5⟩
          case measure => simp only [intOf]; omega
end Go.Proofs.YtjgojbjehedpaaaDoor
