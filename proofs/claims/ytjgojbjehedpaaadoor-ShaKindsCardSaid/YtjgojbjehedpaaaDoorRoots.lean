/- The law of the roots. -/
import Derived.Test.YtjgojbjehedpaaaDoorRRoot
import Derived.Test.YtjgojbjehedpaaaDoorLaw
namespace Go.Proofs.YtjgojbjehedpaaaDoor
open Go.RowKit
theorem root_unique {a b a' b' X k : Nat} (hb : b < 18446744073709551616) (hb' : b' < 18446744073709551616)
    (h1 : (a * 18446744073709551616 + b) ^ k ≤ X) (h2 : X < (a * 18446744073709551616 + b + 1) ^ k) (h3 : (a' * 18446744073709551616 + b') ^ k ≤ X) (h4 : X < (a' * 18446744073709551616 + b' + 1) ^ k) : b = b' := by
  have n1 : ¬ a * 18446744073709551616 + b + 1 ≤ a' * 18446744073709551616 + b' := fun h => by
    have := Nat.pow_le_pow_left h k
    exact absurd (Nat.lt_of_lt_of_le h2 (Nat.le_trans this h3)) (Nat.lt_irrefl _)
  have n2 : ¬ a' * 18446744073709551616 + b' + 1 ≤ a * 18446744073709551616 + b := fun h => by
    have := Nat.pow_le_pow_left h k
    exact absurd (Nat.lt_of_lt_of_le h4 (Nat.le_trans this h1)) (Nat.lt_irrefl _)
  omega

set_option maxRecDepth 4000 in
set_option maxHeartbeats 1000000 in
theorem root_no (p k : Int) (w : World) (h : (k ≠ 2 ∧ k ≠ 3) ∨ p < 2 ∨ 500 < p) :
    Calls Tryd.prog 15 #[.int .i64 p, .int .i64 k] w fun e w' => e = .returned (.tuple #[.int .u64 0, .int .i64 2]) ∧ w = w' := by
  go_enter Tryd.func15, Tryd.ntmps15
  by_cases hk2 : k = 2
  · subst hk2
    by_cases hp : p < 2
    · go_wp2
      go_ret2
      exact ⟨rfl, rfl⟩
    · have hp5 : 500 < p := by omega
      go_wp2
      go_ret2
      exact ⟨rfl, rfl⟩
  · by_cases hk3 : k = 3
    · subst hk3
      by_cases hp : p < 2
      · go_wp2
        go_ret2
        exact ⟨rfl, rfl⟩
      · have hp5 : 500 < p := by omega
        go_wp2
        go_ret2
        exact ⟨rfl, rfl⟩
    · go_wp2
      go_ret2
      exact ⟨rfl, rfl⟩

set_option maxRecDepth 4000 in
set_option maxHeartbeats 1000000 in
theorem shaRoots_walk (w : World) (ht : Tabs w) (a0 : Int) (_h0 : (Lit.int .i64 a0).wf = true) (a1 : Int) (_h1 : (Lit.int .i64 a1).wf = true) :
    Calls Tryd.prog 5 #[.int .i64 a0, .int .i64 a1] w fun e w' => e = .returned (.bool true) ∧ Below w.heap.size w w' := by
  by_cases hg : (a1 = 2 ∨ a1 = 3) ∧ 2 ≤ a0 ∧ a0 ≤ 500
  · obtain ⟨hk, h2, h5⟩ := hg
    obtain ⟨p, rfl⟩ : ∃ p : Nat, a0 = p := ⟨a0.toNat, by omega⟩
    have hp : Hid (2 ≤ p ∧ p ≤ 500) := hid (by omega)
    rcases hk with rfl | rfl
    · go_enter Tryd.func5, Tryd.ntmps5
      go_wp2_with (first
        | (go_at_call 7; refine (awake_any _ ht).mono ?_; rintro e w1 ⟨rfl, hb1⟩)
        | (go_at_call 15; refine (root2 p _ hp.out).mono ?_; rintro e w2 ⟨⟨whole, part, rfl, HR⟩, hb2⟩; have hb12 := hb1.trans (hb2.mono hb1.size))
        | (go_at_call 16; refine (rroot_any p 2 _ hp.out (by omega)).mono ?_; rintro e w3 ⟨⟨whole2, r, rfl, HR2⟩, hb3⟩; have hb13 := hb12.trans (hb3.mono hb12.size); obtain rfl : part = r := root_unique HR.out.1 HR2.out.1 HR.out.2.1 HR.out.2.2 HR2.out.2.1 HR2.out.2.2))
      go_ret
      exact ⟨rfl, hb13⟩
    · go_enter Tryd.func5, Tryd.ntmps5
      go_wp2_with (first
        | (go_at_call 7; refine (awake_any _ ht).mono ?_; rintro e w1 ⟨rfl, hb1⟩)
        | (go_at_call 15; refine (root3 p _ hp.out).mono ?_; rintro e w2 ⟨⟨whole, part, rfl, HR⟩, hb2⟩; have hb12 := hb1.trans (hb2.mono hb1.size))
        | (go_at_call 16; refine (rroot_any p 3 _ hp.out (by omega)).mono ?_; rintro e w3 ⟨⟨whole2, r, rfl, HR2⟩, hb3⟩; have hb13 := hb12.trans (hb3.mono hb12.size); obtain rfl : part = r := root_unique HR.out.1 HR2.out.1 HR.out.2.1 HR.out.2.2 HR2.out.2.1 HR2.out.2.2))
      go_ret
      exact ⟨rfl, hb13⟩
  · have hn : (a1 ≠ 2 ∧ a1 ≠ 3) ∨ a0 < 2 ∨ 500 < a0 := by omega
    by_cases hk2 : a1 = 2
    · subst hk2
      by_cases hp : a0 < 2
      · go_enter Tryd.func5, Tryd.ntmps5
        go_wp2_with (first
          | (go_at_call 7; refine (awake_any _ ht).mono ?_; rintro e w1 ⟨rfl, hb1⟩)
          | (go_at_call 15; refine (root_no _ _ _ (by omega)).mono ?_; rintro e w2 ⟨rfl, rfl⟩))
        go_ret
        exact ⟨rfl, hb1⟩
      · have hp5 : 500 < a0 := by omega
        go_enter Tryd.func5, Tryd.ntmps5
        go_wp2_with (first
          | (go_at_call 7; refine (awake_any _ ht).mono ?_; rintro e w1 ⟨rfl, hb1⟩)
          | (go_at_call 15; refine (root_no _ _ _ (by omega)).mono ?_; rintro e w2 ⟨rfl, rfl⟩))
        go_ret
        exact ⟨rfl, hb1⟩
    · by_cases hk3 : a1 = 3
      · subst hk3
        by_cases hp : a0 < 2
        · go_enter Tryd.func5, Tryd.ntmps5
          go_wp2_with (first
            | (go_at_call 7; refine (awake_any _ ht).mono ?_; rintro e w1 ⟨rfl, hb1⟩)
            | (go_at_call 15; refine (root_no _ _ _ (by omega)).mono ?_; rintro e w2 ⟨rfl, rfl⟩))
          go_ret
          exact ⟨rfl, hb1⟩
        · have hp5 : 500 < a0 := by omega
          go_enter Tryd.func5, Tryd.ntmps5
          go_wp2_with (first
            | (go_at_call 7; refine (awake_any _ ht).mono ?_; rintro e w1 ⟨rfl, hb1⟩)
            | (go_at_call 15; refine (root_no _ _ _ (by omega)).mono ?_; rintro e w2 ⟨rfl, rfl⟩))
          go_ret
          exact ⟨rfl, hb1⟩
      · go_enter Tryd.func5, Tryd.ntmps5
        go_wp2_with (first
          | (go_at_call 7; refine (awake_any _ ht).mono ?_; rintro e w1 ⟨rfl, hb1⟩)
          | (go_at_call 15; refine (root_no _ _ _ (by omega)).mono ?_; rintro e w2 ⟨rfl, rfl⟩))
        go_ret
        exact ⟨rfl, hb1⟩
end Go.Proofs.YtjgojbjehedpaaaDoor
