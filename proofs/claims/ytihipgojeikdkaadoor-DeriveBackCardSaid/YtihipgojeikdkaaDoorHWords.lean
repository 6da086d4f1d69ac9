/- Lists of words as bytes, and back. -/
import Derived.Test.YtihipgojeikdkaaDoorHWSplit
import Derived.Test.YtihipgojeikdkaaDoorHWJoin
namespace Go.Proofs.YtihipgojeikdkaaDoor
open Go.RowKit
set_option maxRecDepth 50000 in
set_option maxHeartbeats 400000 in
theorem wide_any (A : Option Addr) (c : Nat) (b : List Int) (w : World) (h8 : b.length ≤ 8) (hby : HByt b) (hA : Nums w .u8 A b) :
    Calls Tryd.prog 32 #[.slice A b.length c] w fun e w' => ∃ v, e = .returned (.int .u64 v) ∧ Hid (v = hiv b) ∧ Below w.heap.size w w' := by
  go_enter Tryd.func32, Tryd.ntmps32
  go_wp2
  go_loop [3, 4] (fun v i => ∃ (k : Nat) (n : Int), k ≤ b.length ∧ v = .int .u64 n ∧ Hid (n = hiv (b.take k)) ∧ 0 ≤ n ∧ i = .int .i64 k) (fun _ i => b.length - (intOf i).toNat)
  case atStart => exact ⟨0, 0, by omega, rfl, hid (by simp [hiv]), by omega, rfl⟩
  case round =>
    obtain ⟨k, n, hk, rfl, HN, hn0, rfl⟩ := hrel
    by_cases hlt : k < b.length
    · obtain ⟨b1, o1, x, rfl, _, hc1, H1⟩ := hA.get hlt
      have hx := hby.at_ H1.out
      have hx0 := hx.1
      have hx1 := hx.2
      have hk0 : (0 : Int) ≤ k := by omega
      have hk1 : (k : Int) < b.length := by omega
      have hs : hiv (b.take (k + 1)) = 256 * n + x := by rw [take_succ_at H1.out, hiv_snoc, HN.out]
      have hbd := hiv_bd _ (hby.take (k + 1))
      have hp := pow_mono2 (a := 8 * (b.take (k + 1)).length) (b := 64) (by have := List.length_take_le (k + 1) b; omega)
      have hnb : 256 * n + x < 18446744073709551616 := by omega
      have HS := hid hs
      clear hx hs hbd hp
      go_wp2
      go_round
      case rel => exact ⟨k + 1, 256 * n + x, by omega, rfl, hid HS.out.symm, by omega, by go_num⟩
      case measure => simp [intOf]; omega
    · have e : k = b.length := by omega
      subst e
      rw [List.take_length] at HN
      go_wp2
      go_ret
      exact ⟨n, rfl, HN, Below.refl _ _⟩

/-- What Words32 and Words64 give. -/
def WordsPost (k : IntKind) (hi : Bool) (s : Nat) (b : List Int) (w : World) (e : Ending) (w' : World) : Prop :=
  ∃ B d ys E, e = .returned (.tuple #[.slice B ys.length d, .int .i64 E]) ∧ Hid (ys = if b.length % s = 0 then joinB hi s b else []) ∧ Hid (E = if b.length % s = 0 then 0 else 2) ∧ Nums w' k B ys ∧ Below w.heap.size w w'
set_option maxRecDepth 50000 in
set_option maxHeartbeats 400000 in
theorem words64_any (hi : Bool) (A : Option Addr) (c : Nat) (b : List Int) (w : World) (hn : b.length ≤ 4096) (hby : HByt b) (hA : Nums w .u8 A b) :
    Calls Tryd.prog 52 #[.slice A b.length c, .int .i64 8, .int .i64 (ordN hi)] w (WordsPost .u64 hi 8 b w) := by
  by_cases hm : b.length % 8 = 0
  · have HM := hid hm
    have hmi : (b.length : Int) % 8 = 0 := by omega
    clear hm
    go_enter Tryd.func52, Tryd.ntmps52
    go_wp2_with (go_at_call 54; refine (join64 hi A c 8 b _ (by omega) (by omega) hn HM.out hby hA).mono ?_; rintro e w' ⟨B, d, ys, rfl, HY, hN, hb⟩)
    go_ret2
    exact ⟨B, d, ys, 0, rfl, by show _ = _; rw [if_pos HM.out]; exact HY.out, by show _ = _; rw [if_pos HM.out], hN, hb⟩
  · have HM := hid hm
    have hmi : ((b.length : Int) % 8 != 0) = true := by simp; omega
    clear hm
    go_enter Tryd.func52, Tryd.ntmps52
    go_wp2
    go_ret2
    exact ⟨none, 0, [], 2, rfl, by show _ = _; rw [if_neg HM.out], by show _ = _; rw [if_neg HM.out], Nums.nil, Below.refl _ _⟩

set_option maxRecDepth 50000 in
theorem wWords64 (A : Option Addr) (c : Nat) (b : List Int) (w : World) (hn : b.length ≤ 4096) (hby : HByt b) (hA : Nums w .u8 A b) :
    Calls Tryd.prog 50 #[.slice A b.length c] w (WordsPost .u64 true 8 b w) := by
  go_enter Tryd.func50, Tryd.ntmps50
  go_wp2_with (go_at_call 52; refine (words64_any true A c b _ hn hby hA).mono ?_; rintro e w' ⟨B, d, ys, E, rfl, HY, HE, hN, hb⟩)
  go_ret2
  exact ⟨B, d, ys, E, rfl, HY, HE, hN, hb⟩
set_option maxRecDepth 50000 in
theorem wBytes64 (A : Option Addr) (c : Nat) (l : List Int) (w : World) (hn : l.length ≤ 500) (hA : Nums w .u64 A l) :
    Calls Tryd.prog 37 #[.slice A l.length c] w fun e w' => ∃ B d ys, e = .returned (.slice B ys.length d) ∧ Hid (ys = splitB true 8 l) ∧ NumsF w.heap.size w' .u8 B ys ∧ Below w.heap.size w w' := by
  go_enter Tryd.func37, Tryd.ntmps37
  go_wp2_with (go_at_call 44; refine (split64 true A c 8 l _ (by omega) (by omega) (by omega) hA).mono ?_; rintro e w' ⟨B, d, ys, rfl, HY, hN, hb⟩)
  go_ret
  exact ⟨B, d, ys, rfl, HY, hN, hb⟩
set_option maxRecDepth 50000 in
theorem words_n (A : Option Addr) (c : Nat) (b : List Int) (w : World) (hn : b.length = 128) (hby : HByt b) (hA : Nums w .u8 A b) :
    Calls Tryd.prog 50 #[.slice A 128 c] w fun e w' => ∃ B d ys, e = .returned (.tuple #[.slice B 16 d, .int .i64 0]) ∧ Hid (ys = joinB true 8 b) ∧ Hid (ys.length = 16) ∧ Nums w' .u64 B ys ∧ Below w.heap.size w w' := by
  have h := wWords64 A c b w (by omega) hby hA
  rw [hn] at h
  refine h.mono fun e w' ⟨B, d, ys, E, he, hY, hE, hN, hb⟩ => ?_
  have e1 : ys = joinB true 8 b := by rw [hY.out, if_pos (by omega)]
  have e2 : E = 0 := by rw [hE.out, if_pos (by omega)]
  have e3 : ys.length = 16 := by rw [e1, joinB_length]; omega
  exact ⟨B, d, ys, by rw [he, e2, e3], hid e1, hid e3, hN, hb⟩
end Go.Proofs.YtihipgojeikdkaaDoor
