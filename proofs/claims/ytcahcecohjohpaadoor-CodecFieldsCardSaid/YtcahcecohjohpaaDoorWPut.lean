/- Put and get of layer 1, in both orders. -/
import Derived.Test.YtcahcecohjohpaaDoorWSplit
namespace Go.Proofs.YtcahcecohjohpaaDoor
open Go.RowKit

/-- The greatest number of s bytes. -/
def grt (s : Nat) : Int := if s = 8 then 4611686018427387904 else 2 ^ (8 * s) - 1

theorem greatest_any (s : Nat) (w : World) (h1 : 1 ≤ s) (h8 : s ≤ 8) : Calls Tryd.prog 51 #[.int .i64 s] w fun e w' => e = .returned (.int .i64 (grt s)) ∧ w = w' := by
  have hs : s = 1 ∨ s = 2 ∨ s = 3 ∨ s = 4 ∨ s = 5 ∨ s = 6 ∨ s = 7 ∨ s = 8 := by omega
  rcases hs with rfl | rfl | rfl | rfl | rfl | rfl | rfl | rfl
  all_goals
    go_enter Tryd.func51, Tryd.ntmps51
    go_wp2
    go_ret
    exact ⟨by simp [grt], rfl⟩

/-- Does n fit into so many bytes? -/
def Fits (n s : Int) : Prop := 1 ≤ s ∧ s ≤ 8 ∧ 0 ≤ n ∧ n ≤ grt s.toNat

theorem grt_bd (s : Nat) (h1 : 1 ≤ s) (h8 : s ≤ 8) : 0 ≤ grt s ∧ grt s ≤ 4611686018427387904 := by
  have hs : s = 1 ∨ s = 2 ∨ s = 3 ∨ s = 4 ∨ s = 5 ∨ s = 6 ∨ s = 7 ∨ s = 8 := by omega
  rcases hs with rfl | rfl | rfl | rfl | rfl | rfl | rfl | rfl <;> simp [grt]

set_option maxHeartbeats 400000 in
theorem put_no (hi : Bool) (n s : Int) (w : World) (h : ¬ Fits n s) :
    Calls Tryd.prog 46 #[.int .i64 n, .int .i64 s, .int .i64 (ordN hi)] w fun e w' => e = .returned (.tuple #[.slice none 0 0, .int .i64 2]) ∧ Below w.heap.size w w' := by
  by_cases c1 : s < 1
  · clear h
    go_enter Tryd.func46, Tryd.ntmps46
    go_wp2
    go_ret2
    exact ⟨rfl, Below.refl _ _⟩
  by_cases c2 : 8 < s
  · clear h
    go_enter Tryd.func46, Tryd.ntmps46
    go_wp2
    go_ret2
    exact ⟨rfl, Below.refl _ _⟩
  by_cases c3 : n < 0
  · clear h
    go_enter Tryd.func46, Tryd.ntmps46
    go_wp2
    go_ret2
    exact ⟨rfl, Below.refl _ _⟩
  obtain ⟨t, rfl⟩ := Int.eq_ofNat_of_zero_le (show 0 ≤ s by omega)
  have c4 : grt t < n := by
    have h2 : ¬ (n ≤ grt (t : Int).toNat) := fun h3 => h ⟨by omega, by omega, by omega, h3⟩
    simpa using h2
  clear h
  go_enter Tryd.func46, Tryd.ntmps46
  go_wp2_with (go_at_call 51; refine (greatest_any t _ (by omega) (by omega)).mono ?_; rintro e w' ⟨rfl, rfl⟩)
  go_ret2
  exact ⟨rfl, Below.refl _ _⟩

theorem split64_one (hi : Bool) (b : Nat) (s : Nat) (n : Int) (w : World) (h1 : 1 ≤ s) (h8 : s ≤ 8) (hb : b < w.heap.size) (hc : w.cell? ⟨b, 0, none⟩ = some (.int .u64 n)) :
    Calls Tryd.prog 52 #[.slice (some ⟨b, 0, none⟩) 1 1, .int .i64 s, .int .i64 (ordN hi)] w fun e w' => ∃ B d ys, e = .returned (.slice B ys.length d) ∧ Hid (ys = splitB hi s [n]) ∧ NumsF w.heap.size w' .u8 B ys ∧ Below w.heap.size w w' :=
  split64 hi (some ⟨b, 0, none⟩) 1 s [n] w h1 h8 (by simp; omega) (fun _ => ⟨b, 0, rfl, hb, fun i hi => by
    have : i = 0 := by simpa using hi
    subst this
    exact hc⟩)

set_option maxHeartbeats 400000 in
theorem put_yes (hi : Bool) (n : Int) (s : Nat) (w : World) (h : Fits n s) :
    Calls Tryd.prog 46 #[.int .i64 n, .int .i64 s, .int .i64 (ordN hi)] w fun e w' => ∃ B d ys, e = .returned (.tuple #[.slice B ys.length d, .int .i64 0]) ∧ Hid (ys = splitB hi s [n]) ∧ NumsF w.heap.size w' .u8 B ys ∧ Below w.heap.size w w' := by
  obtain ⟨h1, h8, h0, hg⟩ := h
  rw [Int.toNat_natCast] at hg
  have hgb := (grt_bd s (by omega) (by omega)).2
  have hwn : IntKind.u64.wrap n = n := IntWalk.u64_in _ (by omega)
  go_enter Tryd.func46, Tryd.ntmps46
  go_wp2_with (first | (go_at_call 51; refine (greatest_any s _ (by omega) (by omega)).mono ?_; rintro e w' ⟨rfl, rfl⟩) | (go_at_call 52; refine (split64_one hi _ s n _ (by omega) (by omega) (by simp) (by go_simp)).mono ?_; rintro e w' ⟨B, d, ys, rfl, HY, hN, hb⟩))
  go_ret2
  exact ⟨B, d, ys, rfl, HY, hN.less (by simp), ((Below.refl _ _).alloc (Nat.le_refl _) _).trans (hb.mono (by simp))⟩

theorem fits_div {n : Int} {s : Nat} (h1 : 1 ≤ s) (h8 : s ≤ 8) (h0 : 0 ≤ n) (h62 : n ≤ 4611686018427387904) : Fits n s ↔ n / 2 ^ (8 * s) = 0 := by
  have hs : s = 1 ∨ s = 2 ∨ s = 3 ∨ s = 4 ∨ s = 5 ∨ s = 6 ∨ s = 7 ∨ s = 8 := by omega
  unfold Fits
  rw [Int.toNat_natCast]
  rcases hs with rfl | rfl | rfl | rfl | rfl | rfl | rfl | rfl <;> simp [grt] <;> omega

/-- What put and the reference give, in either order. -/
def PutPost (hi : Bool) (n s : Int) (w : World) (e : Ending) (w' : World) : Prop :=
  (Fits n s ∧ ∃ B d ys, e = .returned (.tuple #[.slice B ys.length d, .int .i64 0]) ∧ Hid (ys = splitB hi s.toNat [n]) ∧ NumsF w.heap.size w' .u8 B ys ∧ Below w.heap.size w w') ∨
  (¬ Fits n s ∧ e = .returned (.tuple #[.slice none 0 0, .int .i64 2]) ∧ Below w.heap.size w w')

theorem put_any (hi : Bool) (n s : Int) (w : World) : Calls Tryd.prog 46 #[.int .i64 n, .int .i64 s, .int .i64 (ordN hi)] w (PutPost hi n s w) := by
  by_cases h : Fits n s
  · obtain ⟨t, rfl⟩ := Int.eq_ofNat_of_zero_le (show 0 ≤ s by have := h.1; omega)
    exact (put_yes hi n t w h).mono fun e w' hh => .inl ⟨h, hh⟩
  · exact (put_no hi n s w h).mono fun e w' hh => .inr ⟨h, hh⟩

instance (n s : Int) : Decidable (Fits n s) := by unfold Fits; infer_instance
def perr (n s : Int) : Int := if Fits n s then 0 else 2
def pbytes (hi : Bool) (n s : Int) : List Int := if Fits n s then splitB hi s.toNat [n] else []
theorem pbytes_length (hi : Bool) (n s : Int) : (pbytes hi n s).length ≤ 8 := by
  unfold pbytes
  split
  · rename_i h
    rw [splitB_length]
    have := h.2.1
    simp
    omega
  · simp
theorem pbytes_byt (hi : Bool) (n s : Int) : Byt (pbytes hi n s) := by
  unfold pbytes
  split
  · exact splitB_byt _ _ _
  · intro x hx; cases hx
theorem split_rev (s : Nat) (n : Int) : (splitB false s [n]).reverse = splitB true s [n] := by
  apply List.ext_getElem?
  intro i
  have hl : (splitB false s [n]).length = s := by rw [splitB_length]; simp
  have hl2 : (splitB true s [n]).length = s := by rw [splitB_length]; simp
  by_cases hi : i < s
  · rw [List.getElem?_reverse (by rw [hl]; exact hi), hl, split_one _ _ _ (by omega), split_one _ _ _ hi]
    rfl
  · rw [List.getElem?_eq_none (by rw [List.length_reverse, hl]; omega), List.getElem?_eq_none (by rw [hl2]; omega)]
theorem pbytes_rev (n s : Int) : (pbytes false n s).reverse = pbytes true n s := by
  unfold pbytes
  split
  · exact split_rev _ _
  · rfl

def PutPost2 (hi : Bool) (n s : Int) (w : World) (e : Ending) (w' : World) : Prop :=
  ∃ B d ys E, e = .returned (.tuple #[.slice B ys.length d, .int .i64 E]) ∧ Hid (ys = pbytes hi n s) ∧ Hid (E = perr n s) ∧ NumsF w.heap.size w' .u8 B ys ∧ Below w.heap.size w w'
theorem PutPost.two {hi : Bool} {n s : Int} {w : World} {e : Ending} {w' : World} (h : PutPost hi n s w e w') : PutPost2 hi n s w e w' := by
  rcases h with ⟨hf, B, d, ys, he, hy, hN, hb⟩ | ⟨hf, he, hb⟩
  · exact ⟨B, d, ys, 0, he, by show _ = _; rw [hy.out, pbytes, if_pos hf], by show _ = _; rw [perr, if_pos hf], hN, hb⟩
  · exact ⟨none, 0, [], 2, he, by show _ = _; rw [pbytes, if_neg hf], by show _ = _; rw [perr, if_neg hf], NumsF.nil, hb⟩
theorem put2_any (hi : Bool) (n s : Int) (w : World) : Calls Tryd.prog 46 #[.int .i64 n, .int .i64 s, .int .i64 (ordN hi)] w (PutPost2 hi n s w) := (put_any hi n s w).mono fun _ _ h => h.two
end Go.Proofs.YtcahcecohjohpaaDoor
