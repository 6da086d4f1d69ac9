/- Same of any two rows. -/
import Derived.Test.YtdfalneiapeegaaJNew
import Derived.Test.YtdfalneiapeegaaHWSame
namespace Go.Proofs.Ytdfalneiapeegaa
open Go Go.RowKit Go.Maps

theorem rsame_ne (A B : Option Addr) (n m c d : Nat) (w : World) (h : n ≠ m) :
    Calls Try.prog 19 #[.slice A n c, .slice B m d] w fun e w' => e = .returned (.bool false) ∧ Below w.heap.size w w' := by
  have h1 : (n : Int) ≠ (m : Int) := by omega
  have hne : decide ((n : Int) = (m : Int)) = false := decide_eq_false h1
  go_enter Try.func19, Try.ntmps19
  go_wp2
  go_ret
  exact ⟨rfl, Below.refl _ _⟩
set_option maxHeartbeats 1000000 in
theorem rsame_len (A B : Option Addr) (n c d : Nat) (xs ys : List Int) (g : Bool) (w : World) (hn : n ≤ 4096) (hx : Hid (xs.length = n)) (hy : Hid (ys.length = n)) (hg : Hid (decide (xs = ys) = g)) (hA : Nums w .u8 A xs) (hB : Nums w .u8 B ys) :
    Calls Try.prog 19 #[.slice A n c, .slice B n d] w fun e w' => e = .returned (.bool g) ∧ Below w.heap.size w w' := by
  have hn1 : (n : Int) ≤ 4096 := by omega
  clear hn
  go_enter Try.func19, Try.ntmps19
  go_wp2
  go_loopw [5] (fun i wr => ∃ k : Nat, k ≤ n ∧ i = .int .i64 k ∧ Hid (xs.take k = ys.take k) ∧ Below w.heap.size w wr) (fun i _ => n - (intOf i).toNat)
  case atStart => exact ⟨0, Nat.zero_le _, rfl, hid rfl, Below.refl _ _⟩
  case round =>
    obtain ⟨k, hk, rfl, HT, hb⟩ := hrel
    by_cases hlt : k < n
    · obtain ⟨b1, o1, x, rfl, _, hc1, H1⟩ := (hA.below hb).get (i := k) (by rw [hx.out]; exact hlt)
      obtain ⟨b2, o2, y, rfl, _, hc2, H2⟩ := (hB.below hb).get (i := k) (by rw [hy.out]; exact hlt)
      have hpos : (0 : Int) ≤ k := by omega
      have hlt' : (k : Int) < n := by omega
      by_cases hxy : x = y
      · have HT2 : Hid (xs.take (k + 1) = ys.take (k + 1)) := hid (by rw [take_at H1.out, take_at H2.out, HT.out, hxy])
        have hdb : (x != y) = false := by rw [hxy]; simp
        go_wp2
        go_quiet (fail)
        go_wp2
        go_roundw
        case rel => exact ⟨k + 1, by omega, by go_num, HT2, below_drewN hb _⟩
        case measure => simp [intOf]; omega
      · have hdb : (x != y) = true := bne_iff_ne.2 hxy
        have hgf : g = false := by
          rw [← hg.out]
          refine decide_eq_false fun e => hxy ?_
          have h1 := H1.out
          rw [e, H2.out] at h1
          injection h1 with h1
          exact h1.symm
        subst hgf
        go_wp2
        go_quiet (fail)
        go_wp2
        go_ret
        exact ⟨rfl, below_drewN hb _⟩
    · have e : n = k := by omega
      subst e
      have hgt : g = true := by
        rw [← hg.out]
        refine decide_eq_true ?_
        have := HT.out
        rwa [List.take_of_length_le (by rw [hx.out]; omega), List.take_of_length_le (by rw [hy.out]; omega)] at this
      subst hgt
      go_wp2
      go_ret
      exact ⟨rfl, hb⟩
theorem rsame_any (A B : Option Addr) (n m c d : Nat) (xs ys : List Int) (g : Bool) (w : World) (hn : n ≤ 4096) (hx : xs.length = n) (hy : ys.length = m) (hg : decide (xs = ys) = g) (hA : Nums w .u8 A xs) (hB : Nums w .u8 B ys) :
    Calls Try.prog 19 #[.slice A n c, .slice B m d] w fun e w' => e = .returned (.bool g) ∧ Below w.heap.size w w' := by
  by_cases h : n = m
  · subst h
    exact rsame_len A B n c d xs ys g w hn (hid hx) (hid hy) (hid hg) hA hB
  · have e : g = false := by
      rw [← hg]
      exact decide_eq_false fun e => h (by rw [← hx, ← hy, e])
    subst e
    exact rsame_ne A B n m c d w h
end Go.Proofs.Ytdfalneiapeegaa
