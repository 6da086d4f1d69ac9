/- WordBack returns true. -/
import Derived.Test.YtjbldpajolmfhaaWalkH
namespace Go.Proofs.Ytjbldpajolmfhaa
open Go.RowKit

theorem pb_len {hi : Bool} {n s : Int} {ys : List Int} (h : Hid (ys = pbytes hi n s)) : ys.length ≤ 4096 := by rw [h.out]; have := pbytes_length hi n s; omega
theorem pb_max {hi : Bool} {n s : Int} {ys : List Int} (h : Hid (ys = pbytes hi n s)) : ys.length ≤ maxLen := by rw [h.out]; have := pbytes_length hi n s; unfold maxLen; omega
theorem pb_byt {hi : Bool} {n s : Int} {ys : List Int} (h : Hid (ys = pbytes hi n s)) : Byt ys := by rw [h.out]; exact pbytes_byt _ _ _
theorem pb_num {hi : Bool} {n : Int} {s : Nat} {ys : List Int} (hf : Fits n s) (h : Hid (ys = pbytes hi n s)) {N : Int} (hN : Hid (N = gnum ys.length (bval hi ys))) : N = n := by rw [hN.out, h.out]; exact (back_num hi hf).1
theorem pb_err {hi : Bool} {n : Int} {s : Nat} {ys : List Int} (hf : Fits n s) (h : Hid (ys = pbytes hi n s)) {E : Int} (hE : Hid (E = gerr ys.length (bval hi ys))) : E = 0 := by rw [hE.out, h.out]; exact (back_num hi hf).2
theorem pe_fits {n s E : Int} (hf : Fits n s) (hE : Hid (E = perr n s)) : E = 0 := by rw [hE.out, perr, if_pos hf]
theorem pe_not {n s E : Int} (hf : ¬ Fits n s) (hE : Hid (E = perr n s)) : E = 2 := by rw [hE.out, perr, if_neg hf]

theorem back_fit {N E : Int} {b : List Int} (hby : Byt b) (HN : Hid (N = gnum b.length (bval true b))) (HE : Hid (E = gerr b.length (bval true b))) (h1 : (E != 0) = false) : Fits N b.length ∧ pbytes true N b.length = b := by
  have h0 : E = 0 := by simpa using h1
  rw [HN.out]; exact fits_back hby (HE.out.symm.trans h0)
theorem back_zero {N E : Int} {b : List Int} (HN : Hid (N = gnum b.length (bval true b))) (HE : Hid (E = gerr b.length (bval true b))) (h1 : (E != 0) = true) : N = 0 := by
  have h0 : ¬ E = 0 := by simpa using h1
  rw [HN.out]; exact num_zero (fun h => h0 (HE.out.trans h))
theorem turned_same {n s : Int} {xs ys zs : List Int} (H1 : Hid (xs = pbytes true n s)) (H2 : Hid (ys = pbytes false n s)) (H3 : Hid (zs = xs.reverse)) : zs = ys := by
  rw [H3.out, H1.out, H2.out, ← pbytes_rev, List.reverse_reverse]

set_option maxHeartbeats 1000000 in
theorem wordBack_fits (w : World) (n : Int) (s : Nat) (A : Option Addr) (c : Nat) (b : List Int) (hf : Hid (Fits n s)) (hl : b.length ≤ 100) (hby : Byt b) (hA : Nums w .u8 A b) :
    Calls Try.prog 6 #[.int .i64 n, .int .i64 s, .slice A b.length c] w fun e w' => e = .returned (.bool true) ∧ Below w.heap.size w w' := by
  go_enter Try.func6, Try.ntmps6
  go_wp2_with (first
    | (go_at_call 7; refine (awake_any _).mono ?_; rintro e w0 ⟨rfl, hb0⟩)
    | (go_at_call 8; refine (wPut_any N6 b.length _).mono ?_; rintro e w7 ⟨B7, d7, ys7, E7, rfl, HY7, HE7, hN7, hb7⟩; have hbx7 := nextB hbx6 hb7; obtain rfl : E7 = 0 := pe_fits (back_fit hby HN6 HE6 ‹_›).1 HE7)
    | (go_at_call 8; refine (wPut_any n s _).mono ?_; rintro e w1 ⟨B1, d1, ys1, E1, rfl, HY1, HE1, hN1, hb1⟩; have hbx1 := nextB hb0 hb1; obtain rfl : E1 = 0 := pe_fits hf.out HE1; have hlq : (ys1.length : Int) = (s : Int) := (by rw [HY1.out, pbytes, if_pos hf.out, Int.toNat_natCast, split_len]))
    | (go_at_call 9; refine (wLow_any n s _).mono ?_; rintro e w2 ⟨B2, d2, ys2, E2, rfl, HY2, HE2, hN2, hb2⟩; have hbx2 := nextB hbx1 hb2; obtain rfl : E2 = 0 := pe_fits hf.out HE2)
    | (go_at_call 13; refine (wGet2 A c b _ (by omega) hby (hA.below hbx5b)).mono ?_; rintro e w6 ⟨N6, E6, rfl, HN6, HE6, hb6⟩; have hbx6 := nextB hbx5b hb6)
    | (go_at_call 13; refine (wGet2 B1 d1 ys1 _ (pb_len HY1) (pb_byt HY1) (hN1.below hb2)).mono ?_; rintro e w3 ⟨N3, E3, rfl, HN3, HE3, hb3⟩; have hbx3 := nextB hbx2 hb3; obtain rfl : n = N3 := (pb_num hf.out HY1 HN3).symm; obtain rfl : E3 = 0 := pb_err hf.out HY1 HE3)
    | (go_at_call 14; refine (wGetLow2 B2 d2 ys2 _ (pb_len HY2) (pb_byt HY2) (hN2.below hb3)).mono ?_; rintro e w4 ⟨N4, E4, rfl, HN4, HE4, hb4⟩; have hbx4 := nextB hbx3 hb4; obtain rfl : n = N4 := (pb_num hf.out HY2 HN4).symm; obtain rfl : E4 = 0 := pb_err hf.out HY2 HE4)
    | (go_at_call 16; refine (turned_any B1 d1 ys1 _ (pb_len HY1) ((hN1.below hb2).below (nextB hb3 hb4))).mono ?_; rintro e w5 ⟨B5, d5, ys5, rfl, HY5, hN5, hb5⟩; have hbx5 := nextB hbx4 hb5)
    | (go_at_call 12; refine (same_eq B7 A d7 c ys7 b _ (HY7.out.trans (back_fit hby HN6 HE6 ‹_›).2) (pb_max HY7) hN7 (hA.below hbx7)).mono ?_; rintro e w8 ⟨rfl, hb8⟩; have hbx8 := nextB hbx7 hb8)
    | (go_at_call 12; refine (same_eq B5 B2 d5 d2 ys5 ys2 _ (turned_same HY1 HY2 HY5) (by rw [len_of_hid HY5]; exact pb_max HY1) hN5 (hN2.below (nextB (nextB hb3 hb4) hb5))).mono ?_; rintro e w5b ⟨rfl, hb5b⟩; have hbx5b := nextB hbx5 hb5b))
  · have hz := back_zero HN6 HE6 ‹_›
    subst hz
    go_ret
    exact ⟨rfl, hbx6⟩
  · go_ret
    exact ⟨rfl, hbx8⟩

set_option maxHeartbeats 1000000 in
theorem wordBack_not (w : World) (n : Int) (s : Int) (A : Option Addr) (c : Nat) (b : List Int) (hf : Hid (¬ Fits n s)) (hl : b.length ≤ 100) (hby : Byt b) (hA : Nums w .u8 A b) :
    Calls Try.prog 6 #[.int .i64 n, .int .i64 s, .slice A b.length c] w fun e w' => e = .returned (.bool true) ∧ Below w.heap.size w w' := by
  go_enter Try.func6, Try.ntmps6
  go_wp2_with (first
    | (go_at_call 7; refine (awake_any _).mono ?_; rintro e w0 ⟨rfl, hb0⟩)
    | (go_at_call 8; refine (wPut_any N6 b.length _).mono ?_; rintro e w7 ⟨B7, d7, ys7, E7, rfl, HY7, HE7, hN7, hb7⟩; have hbx7 := nextB hbx6 hb7; obtain rfl : E7 = 0 := pe_fits (back_fit hby HN6 HE6 ‹_›).1 HE7)
    | (go_at_call 8; refine (wPut_any n s _).mono ?_; rintro e w1 ⟨B1, d1, ys1, E1, rfl, HY1, HE1, hN1, hb1⟩; have hbx1 := nextB hb0 hb1; obtain rfl : E1 = 2 := pe_not hf.out HE1)
    | (go_at_call 13; refine (wGet2 A c b _ (by omega) hby (hA.below hbx1)).mono ?_; rintro e w6 ⟨N6, E6, rfl, HN6, HE6, hb6⟩; have hbx6 := nextB hbx1 hb6)
    | (go_at_call 12; refine (same_eq B7 A d7 c ys7 b _ (HY7.out.trans (back_fit hby HN6 HE6 ‹_›).2) (pb_max HY7) hN7 (hA.below hbx7)).mono ?_; rintro e w8 ⟨rfl, hb8⟩; have hbx8 := nextB hbx7 hb8))
  · have hz := back_zero HN6 HE6 ‹_›
    subst hz
    go_ret
    exact ⟨rfl, hbx6⟩
  · go_ret
    exact ⟨rfl, hbx8⟩

theorem wordBack_walk (w : World) (n : Int) (_ : (Lit.int .i64 n).wf = true) (s : Int) (_ : (Lit.int .i64 s).wf = true) (A : Option Addr) (c : Nat) (b : List Int) (_ : b.length ≤ c) (_ : c ≤ maxLen) (hx : ∀ x ∈ b, (Lit.int .u8 x).wf = true) (hA : Nums w .u8 A b) :
    Calls Try.prog 6 #[.int .i64 n, .int .i64 s, .slice A b.length c] w fun e w' => e = .returned (.bool true) ∧ Below w.heap.size w w' := by
  by_cases hl : 100 < b.length
  · go_enter Try.func6, Try.ntmps6
    go_wp2_with (go_at_call 7; refine (awake_any _).mono ?_; rintro e w0 ⟨rfl, hb0⟩)
    go_ret
    exact ⟨rfl, hb0⟩
  by_cases hf : Fits n s
  · obtain ⟨t, rfl⟩ := Int.eq_ofNat_of_zero_le (show 0 ≤ s by have := hf.1; omega)
    exact wordBack_fits w n t A c b (hid hf) (by omega) (byt_of_wf hx) hA
  · exact wordBack_not w n s A c b (hid hf) (by omega) (byt_of_wf hx) hA
end Go.Proofs.Ytjbldpajolmfhaa
