/- WordGets and WordBack return true. -/
import Derived.Test.YtjbldpajolmfhaaWalkG
import Derived.OpenShut
namespace Go.Proofs.Ytjbldpajolmfhaa
open Go.RowKit

theorem byt_of_wf {xs : List Int} (h : ∀ x ∈ xs, (Lit.int .u8 x).wf = true) : Byt xs := fun x hx => by
  have := bounds_u8 (h x hx)
  omega
theorem byt_of_hid {xs ys : List Int} (h : Hid (ys = xs.reverse)) (hb : Byt xs) : Byt ys := by rw [h.out]; exact hb.rev
theorem len_of_hid {xs ys : List Int} (h : Hid (ys = xs.reverse)) : ys.length = xs.length := by rw [h.out, List.length_reverse]

theorem turn_num {xs ys : List Int} (h : Hid (ys = xs.reverse)) : gnum ys.length (bval true ys) = gnum xs.length (bval false xs) := by rw [h.out, List.length_reverse]; rfl
theorem turn_err {xs ys : List Int} (h : Hid (ys = xs.reverse)) : gerr ys.length (bval true ys) = gerr xs.length (bval false xs) := by rw [h.out, List.length_reverse]; rfl

def GetPost2 (hi : Bool) (b : List Int) (w : World) (e : Ending) (w' : World) : Prop :=
  ∃ N E, e = .returned (.tuple #[.int .i64 N, .int .i64 E]) ∧ Hid (N = gnum b.length (bval hi b)) ∧ Hid (E = gerr b.length (bval hi b)) ∧ Below w.heap.size w w'
theorem GetPost.two {hi : Bool} {b : List Int} {w : World} {e : Ending} {w' : World} (h : GetPost hi b w e w') : GetPost2 hi b w e w' := ⟨_, _, h.1, hid rfl, hid rfl, h.2⟩
theorem wGet2 (A : Option Addr) (c : Nat) (b : List Int) (w : World) (hn : b.length ≤ 4096) (hby : Byt b) (hA : Nums w .u8 A b) : Calls Try.prog 13 #[.slice A b.length c] w (GetPost2 true b w) := (wGet_any A c b w hn hby hA).mono fun _ _ h => h.two
theorem wGetLow2 (A : Option Addr) (c : Nat) (b : List Int) (w : World) (hn : b.length ≤ 4096) (hby : Byt b) (hA : Nums w .u8 A b) : Calls Try.prog 14 #[.slice A b.length c] w (GetPost2 false b w) := (wGetLow_any A c b w hn hby hA).mono fun _ _ h => h.two
theorem refGet2 (A : Option Addr) (c : Nat) (b : List Int) (w : World) (hn : b.length ≤ 4096) (hby : Byt b) (hA : Nums w .u8 A b) : Calls Try.prog 15 #[.slice A b.length c] w (GetPost2 true b w) := (refGet_any A c b w hn hby hA).mono fun _ _ h => h.two

set_option maxHeartbeats 400000 in
theorem wordGets_walk (w : World) (A : Option Addr) (c : Nat) (b : List Int) (_ : b.length ≤ c) (_ : c ≤ maxLen) (hx : ∀ x ∈ b, (Lit.int .u8 x).wf = true) (hA : Nums w .u8 A b) :
    Calls Try.prog 4 #[.slice A b.length c] w fun e w' => e = .returned (.bool true) ∧ Below w.heap.size w w' := by
  by_cases hl : 100 < b.length
  · go_enter Try.func4, Try.ntmps4
    go_wp2_with (go_at_call 7; refine (awake_any _).mono ?_; rintro e w0 ⟨rfl, hb0⟩)
    go_ret
    exact ⟨rfl, hb0⟩
  have hby := byt_of_wf hx
  clear hx
  go_enter Try.func4, Try.ntmps4
  go_wp2_with (first
    | (go_at_call 7; refine (awake_any _).mono ?_; rintro e w0 ⟨rfl, hb0⟩)
    | (go_at_call 13; refine (wGet2 A c b _ (by omega) hby (hA.below hb0)).mono ?_; rintro e w1 ⟨N1, E1, rfl, HN1, HE1, hb1⟩; have hbx1 := nextB hb0 hb1)
    | (go_at_call 14; refine (wGetLow2 A c b _ (by omega) hby (hA.below hbx1)).mono ?_; rintro e w2 ⟨N2, E2, rfl, HN2, HE2, hb2⟩; have hbx2 := nextB hbx1 hb2)
    | (go_at_call 15; refine (refGet2 B4 d4 ys _ (by have := len_of_hid HY; omega) (byt_of_hid HY hby) hN4).mono ?_; rintro e w5 ⟨N5, E5, rfl, HN5, HE5, hb5⟩; have hbx5 := nextB hbx4 hb5; obtain rfl : N5 = N2 := (HN5.out.trans (turn_num HY)).trans HN2.out.symm; obtain rfl : E5 = E2 := (HE5.out.trans (turn_err HY)).trans HE2.out.symm)
    | (go_at_call 15; refine (refGet2 A c b _ (by omega) hby (hA.below hbx2)).mono ?_; rintro e w3 ⟨N3, E3, rfl, HN3, HE3, hb3⟩; have hbx3 := nextB hbx2 hb3; obtain rfl : N3 = N1 := HN3.out.trans HN1.out.symm; obtain rfl : E3 = E1 := HE3.out.trans HE1.out.symm)
    | (go_at_call 16; refine (turned_any A c b _ (by omega) (hA.below hbx3)).mono ?_; rintro e w4 ⟨B4, d4, ys, rfl, HY, hN4, hb4⟩; have hbx4 := nextB hbx3 hb4))
  go_ret
  exact ⟨rfl, hbx5⟩

theorem fits_lt {n : Int} {s : Nat} (h : Fits n s) : 0 ≤ n ∧ n ≤ 4611686018427387904 ∧ n < 2 ^ (8 * s) ∧ 1 ≤ s ∧ s ≤ 8 := by
  obtain ⟨h1, h8, h0, hg⟩ := h
  rw [Int.toNat_natCast] at hg
  have hs : s = 1 ∨ s = 2 ∨ s = 3 ∨ s = 4 ∨ s = 5 ∨ s = 6 ∨ s = 7 ∨ s = 8 := by omega
  rcases hs with rfl | rfl | rfl | rfl | rfl | rfl | rfl | rfl <;> simp [grt] at hg ⊢ <;> omega
theorem back_num (hi : Bool) {n : Int} {s : Nat} (h : Fits n s) : gnum (pbytes hi n s).length (bval hi (pbytes hi n s)) = n ∧ gerr (pbytes hi n s).length (bval hi (pbytes hi n s)) = 0 := by
  obtain ⟨h0, h62, hlt, h1, h8⟩ := fits_lt h
  have hv : bval hi (pbytes hi n s) = n := by
    cases hi
    · simp only [bval, Bool.false_eq_true, if_false]
      rw [pbytes_rev, pbytes, if_pos h, Int.toNat_natCast, hiv_split s n h0 hlt]
    · simp only [bval, if_true]
      rw [pbytes, if_pos h, Int.toNat_natCast, hiv_split s n h0 hlt]
  have hl : (pbytes hi n s).length = s := by rw [pbytes, if_pos h, Int.toNat_natCast, split_len]
  rw [hv, hl]
  have a : ¬ s = 0 := by omega
  have b : ¬ 8 < s := by omega
  have c : ¬ 4611686018427387904 < n := by omega
  simp only [gnum, gerr, a, b, c, if_false, and_self]
theorem fits_back {b : List Int} (hb : Byt b) (h : gerr b.length (bval true b) = 0) : Fits (gnum b.length (bval true b)) b.length ∧ pbytes true (gnum b.length (bval true b)) b.length = b := by
  have a : ¬ b.length = 0 := fun e => by simp [gerr, e] at h
  have c : ¬ 8 < b.length := fun e => by simp [gerr, e, a] at h
  have d : ¬ 4611686018427387904 < bval true b := fun e => by simp [gerr, e, a, c] at h
  have e : gnum b.length (bval true b) = hiv b := by simp only [gnum, a, c, d, if_false]; rfl
  have hbd := hiv_bd b hb
  have hd : ¬ 4611686018427387904 < hiv b := d
  have hf : Fits (hiv b) b.length := (fits_div (by omega) (by omega) hbd.1 (by omega)).2 (Int.ediv_eq_zero_of_lt hbd.1 hbd.2)
  rw [e]
  refine ⟨hf, ?_⟩
  rw [pbytes, if_pos hf, Int.toNat_natCast]
  exact split_hiv b hb
theorem num_zero {l : Nat} {v : Int} (h : ¬ gerr l v = 0) : gnum l v = 0 := by
  unfold gerr at h
  unfold gnum
  split
  · rfl
  · split
    · rfl
    · split
      · rfl
      · exfalso; simp [*] at h
end Go.Proofs.Ytjbldpajolmfhaa
