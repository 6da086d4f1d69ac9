/- A number's bytes give the number, and the bytes of a number are its only ones. No program is named. -/
import Derived.Test.YtcahcecohjohpaaDoorWGet
namespace Go.Proofs.YtcahcecohjohpaaDoor
open Go.RowKit

theorem fits_lt {n : Int} {s : Nat} (h : Fits n s) : 0 ≤ n ∧ n ≤ 4611686018427387904 ∧ n < 2 ^ (8 * s) ∧ 1 ≤ s ∧ s ≤ 8 := by
  obtain ⟨h1, h8, h0, hg⟩ := h
  rw [Int.toNat_natCast] at hg
  have hs : s = 1 ∨ s = 2 ∨ s = 3 ∨ s = 4 ∨ s = 5 ∨ s = 6 ∨ s = 7 ∨ s = 8 := by omega
  rcases hs with rfl | rfl | rfl | rfl | rfl | rfl | rfl | rfl <;> simp [grt] at hg ⊢ <;> omega
theorem back_num (hi : Bool) {n : Int} {s : Nat} (h : Fits n s) : gnum (pbytes hi n s).length (bval hi (pbytes hi n s)) = n ∧ gerr (pbytes hi n s).length (bval hi (pbytes hi n s)) = 0 := by
  obtain ⟨h0, h62, hlt, h1, h8⟩ := fits_lt h
  have hv : bval hi (pbytes hi n s) = n := by
    cases hi
    · simp only [bval, Bool.false_eq_true, if_false]
      rw [pbytes_rev, pbytes, if_pos h, Int.toNat_natCast, hiv_split s n h0 hlt]
    · simp only [bval, if_true]
      rw [pbytes, if_pos h, Int.toNat_natCast, hiv_split s n h0 hlt]
  have hl : (pbytes hi n s).length = s := by rw [pbytes, if_pos h, Int.toNat_natCast, split_len]
  rw [hv, hl]
  have a : ¬ s = 0 := by omega
  have b : ¬ 8 < s := by omega
  have c : ¬ 4611686018427387904 < n := by omega
  simp only [gnum, gerr, a, b, c, if_false, and_self]
theorem fits_back {b : List Int} (hb : Byt b) (h : gerr b.length (bval true b) = 0) : Fits (gnum b.length (bval true b)) b.length ∧ pbytes true (gnum b.length (bval true b)) b.length = b := by
  have a : ¬ b.length = 0 := fun e => by simp [gerr, e] at h
  have c : ¬ 8 < b.length := fun e => by simp [gerr, e, a] at h
  have d : ¬ 4611686018427387904 < bval true b := fun e => by simp [gerr, e, a, c] at h
  have e : gnum b.length (bval true b) = hiv b := by simp only [gnum, a, c, d, if_false]; rfl
  have hbd := hiv_bd b hb
  have hd : ¬ 4611686018427387904 < hiv b := d
  have hf : Fits (hiv b) b.length := (fits_div (by omega) (by omega) hbd.1 (by omega)).2 (Int.ediv_eq_zero_of_lt hbd.1 hbd.2)
  rw [e]
  refine ⟨hf, ?_⟩
  rw [pbytes, if_pos hf, Int.toNat_natCast]
  exact split_hiv b hb
theorem num_zero {l : Nat} {v : Int} (h : ¬ gerr l v = 0) : gnum l v = 0 := by
  unfold gerr at h
  unfold gnum
  split
  · rfl
  · split
    · rfl
    · split
      · rfl
      · exfalso; simp [*] at h
end Go.Proofs.YtcahcecohjohpaaDoor
