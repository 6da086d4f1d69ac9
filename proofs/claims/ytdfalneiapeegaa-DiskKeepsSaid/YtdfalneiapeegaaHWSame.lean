/- The reference functions of layer 1 on rows of bytes. No condition. -/
import Derived.Test.YtdfalneiapeegaaRows
import Derived.Test.YtdfalneiapeegaaBase
import Derived.BigQuiet
import Derived.Deep.QuietTactic
namespace Go.Proofs.Ytdfalneiapeegaa
open Go.RowKit


set_option maxRecDepth 50000 in
set_option maxHeartbeats 400000 in
theorem same_eq (A B : Option Addr) (c d : Nat) (xs ys : List Int) (w : World) (he : xs = ys) (hm : xs.length ≤ maxLen) (hA : Nums w .u8 A xs) (hB : Nums w .u8 B ys) :
    Calls Try.prog 19 #[.slice A xs.length c, .slice B ys.length d] w fun e w' => e = .returned (.bool true) ∧ Below w.heap.size w w' := by
  subst he
  unfold maxLen at hm
  go_enter Try.func19, Try.ntmps19
  go_wp2
  go_loopw [5] (fun i wr => ∃ k : Nat, k ≤ xs.length ∧ i = .int .i64 k ∧ Below w.heap.size w wr) (fun i _ => xs.length - (intOf i).toNat)
  case atStart => exact ⟨0, Nat.zero_le _, rfl, Below.refl _ _⟩
  case round =>
    obtain ⟨k, hk, rfl, hb⟩ := hrel
    by_cases hlt : k < xs.length
    · obtain ⟨b1, o1, x, rfl, _, hc1, H1⟩ := (hA.below hb).get hlt
      obtain ⟨b2, o2, y, rfl, _, hc2, H2⟩ := (hB.below hb).get hlt
      have hxy : x = y := by have := H1.out.symm.trans H2.out; injection this
      subst hxy
      have hpos : (0 : Int) ≤ k := by omega
      have hlt' : (k : Int) < xs.length := by omega
      go_wp2
      go_quiet (fail)
      go_wp2
      go_roundw
      case rel => exact ⟨k + 1, by omega, by go_num, below_drewN hb _⟩
      case measure => simp [intOf]; omega
    · go_wp2
      go_ret
      exact ⟨rfl, hb⟩
end Go.Proofs.Ytdfalneiapeegaa
