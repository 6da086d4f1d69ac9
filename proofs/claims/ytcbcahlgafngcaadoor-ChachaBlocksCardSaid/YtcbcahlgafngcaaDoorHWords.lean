/- Lists of words as bytes, and back. -/
import Derived.Test.YtcbcahlgafngcaaDoorHWSplit
import Derived.Test.YtcbcahlgafngcaaDoorHWJoin
namespace Go.Proofs.YtcbcahlgafngcaaDoor
open Go.RowKit
set_option maxRecDepth 50000 in
set_option maxHeartbeats 400000 in
theorem wide_any (A : Option Addr) (c : Nat) (b : List Int) (w : World) (h8 : b.length ≤ 8) (hby : HByt b) (hA : Nums w .u8 A b) :
    Calls Tryd.prog 24 #[.slice A b.length c] w fun e w' => ∃ v, e = .returned (.int .u64 v) ∧ Hid (v = hiv b) ∧ Below w.heap.size w w' := by
  go_enter Tryd.func24, Tryd.ntmps24
  go_wp2
  go_loop [3, 4] (fun v i => ∃ (k : Nat) (n : Int), k ≤ b.length ∧ v = .int .u64 n ∧ Hid (n = hiv (b.take k)) ∧ 0 ≤ n ∧ i = .int .i64 k) (fun _ i => b.length - (intOf i).toNat)
  case atStart => exact ⟨0, 0, by omega, rfl, hid (by simp [hiv]), by omega, rfl⟩
  case round =>
    obtain ⟨k, n, hk, rfl, HN, hn0, rfl⟩ := hrel
    by_cases hlt : k < b.length
    · obtain ⟨b1, o1, x, rfl, _, hc1, H1⟩ := hA.get hlt
      have hx := hby.at_ H1.out
      have hx0 := hx.1
      have hx1 := hx.2
      have hk0 : (0 : Int) ≤ k := by omega
      have hk1 : (k : Int) < b.length := by omega
      have hs : hiv (b.take (k + 1)) = 256 * n + x := by rw [take_succ_at H1.out, hiv_snoc, HN.out]
      have hbd := hiv_bd _ (hby.take (k + 1))
      have hp := pow_mono2 (a := 8 * (b.take (k + 1)).length) (b := 64) (by have := List.length_take_le (k + 1) b; omega)
      have hnb : 256 * n + x < 18446744073709551616 := by omega
      have HS := hid hs
      clear hx hs hbd hp
      go_wp2
      go_round
      case rel => exact ⟨k + 1, 256 * n + x, by omega, rfl, hid HS.out.symm, by omega, by go_num⟩
      case measure => simp [intOf]; omega
    · have e : k = b.length := by omega
      subst e
      rw [List.take_length] at HN
      go_wp2
      go_ret
      exact ⟨n, rfl, HN, Below.refl _ _⟩

/-- What Words32 and Words64 give. -/
def WordsPost (k : IntKind) (hi : Bool) (s : Nat) (b : List Int) (w : World) (e : Ending) (w' : World) : Prop :=
  ∃ B d ys E, e = .returned (.tuple #[.slice B ys.length d, .int .i64 E]) ∧ Hid (ys = if b.length % s = 0 then joinB hi s b else []) ∧ Hid (E = if b.length % s = 0 then 0 else 2) ∧ Nums w' k B ys ∧ Below w.heap.size w w'
end Go.Proofs.YtcbcahlgafngcaaDoor
