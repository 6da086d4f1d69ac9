/- Put and get of layer 1, in both orders. -/
import Derived.Test.YtjbldpajolmfhaaWalkC
namespace Go.Proofs.Ytjbldpajolmfhaa
open Go.RowKit

/-- The greatest number of s bytes. -/
def grt (s : Nat) : Int := if s = 8 then 4611686018427387904 else 2 ^ (8 * s) - 1

theorem greatest_any (s : Nat) (w : World) (h1 : 1 ≤ s) (h8 : s ≤ 8) : Calls Try.prog 28 #[.int .i64 s] w fun e w' => e = .returned (.int .i64 (grt s)) ∧ w = w' := by
  have hs : s = 1 ∨ s = 2 ∨ s = 3 ∨ s = 4 ∨ s = 5 ∨ s = 6 ∨ s = 7 ∨ s = 8 := by omega
  rcases hs with rfl | rfl | rfl | rfl | rfl | rfl | rfl | rfl
  all_goals
    go_enter Try.func28, Try.ntmps28
    go_wp2
    go_ret
    exact ⟨by simp [grt], rfl⟩

/-- Does n fit into so many bytes? -/
def Fits (n s : Int) : Prop := 1 ≤ s ∧ s ≤ 8 ∧ 0 ≤ n ∧ n ≤ grt s.toNat

theorem grt_bd (s : Nat) (h1 : 1 ≤ s) (h8 : s ≤ 8) : 0 ≤ grt s ∧ grt s ≤ 4611686018427387904 := by
  have hs : s = 1 ∨ s = 2 ∨ s = 3 ∨ s = 4 ∨ s = 5 ∨ s = 6 ∨ s = 7 ∨ s = 8 := by omega
  rcases hs with rfl | rfl | rfl | rfl | rfl | rfl | rfl | rfl <;> simp [grt]

set_option maxHeartbeats 400000 in
theorem put_no (hi : Bool) (n s : Int) (w : World) (h : ¬ Fits n s) :
    Calls Try.prog 22 #[.int .i64 n, .int .i64 s, .int .i64 (ordN hi)] w fun e w' => e = .returned (.tuple #[.slice none 0 0, .int .i64 2]) ∧ Below w.heap.size w w' := by
  by_cases c1 : s < 1
  · clear h
    go_enter Try.func22, Try.ntmps22
    go_wp2
    go_ret2
    exact ⟨rfl, Below.refl _ _⟩
  by_cases c2 : 8 < s
  · clear h
    go_enter Try.func22, Try.ntmps22
    go_wp2
    go_ret2
    exact ⟨rfl, Below.refl _ _⟩
  by_cases c3 : n < 0
  · clear h
    go_enter Try.func22, Try.ntmps22
    go_wp2
    go_ret2
    exact ⟨rfl, Below.refl _ _⟩
  obtain ⟨t, rfl⟩ := Int.eq_ofNat_of_zero_le (show 0 ≤ s by omega)
  have c4 : grt t < n := by
    have h2 : ¬ (n ≤ grt (t : Int).toNat) := fun h3 => h ⟨by omega, by omega, by omega, h3⟩
    simpa using h2
  clear h
  go_enter Try.func22, Try.ntmps22
  go_wp2_with (go_at_call 28; refine (greatest_any t _ (by omega) (by omega)).mono ?_; rintro e w' ⟨rfl, rfl⟩)
  go_ret2
  exact ⟨rfl, Below.refl _ _⟩

theorem split64_one (hi : Bool) (b : Nat) (s : Nat) (n : Int) (w : World) (h1 : 1 ≤ s) (h8 : s ≤ 8) (hb : b < w.heap.size) (hc : w.cell? ⟨b, 0, none⟩ = some (.int .u64 n)) :
    Calls Try.prog 27 #[.slice (some ⟨b, 0, none⟩) 1 1, .int .i64 s, .int .i64 (ordN hi)] w fun e w' => ∃ B d ys, e = .returned (.slice B ys.length d) ∧ Hid (ys = splitB hi s [n]) ∧ Nums w' .u8 B ys ∧ Below w.heap.size w w' :=
  split64 hi (some ⟨b, 0, none⟩) 1 s [n] w h1 h8 (by simp; omega) (fun _ => ⟨b, 0, rfl, hb, fun i hi => by
    have : i = 0 := by simpa using hi
    subst this
    exact hc⟩)

set_option maxHeartbeats 400000 in
theorem put_yes (hi : Bool) (n : Int) (s : Nat) (w : World) (h : Fits n s) :
    Calls Try.prog 22 #[.int .i64 n, .int .i64 s, .int .i64 (ordN hi)] w fun e w' => ∃ B d ys, e = .returned (.tuple #[.slice B ys.length d, .int .i64 0]) ∧ Hid (ys = splitB hi s [n]) ∧ Nums w' .u8 B ys ∧ Below w.heap.size w w' := by
  obtain ⟨h1, h8, h0, hg⟩ := h
  rw [Int.toNat_natCast] at hg
  have hgb := (grt_bd s (by omega) (by omega)).2
  have hwn : IntKind.u64.wrap n = n := IntWalk.u64_in _ (by omega)
  go_enter Try.func22, Try.ntmps22
  go_wp2_with (first | (go_at_call 28; refine (greatest_any s _ (by omega) (by omega)).mono ?_; rintro e w' ⟨rfl, rfl⟩) | (go_at_call 27; refine (split64_one hi _ s n _ (by omega) (by omega) (by simp) (by go_simp)).mono ?_; rintro e w' ⟨B, d, ys, rfl, HY, hN, hb⟩))
  go_ret2
  exact ⟨B, d, ys, rfl, HY, hN, ((Below.refl _ _).alloc (Nat.le_refl _) _).trans (hb.mono (by simp))⟩
end Go.Proofs.Ytjbldpajolmfhaa
