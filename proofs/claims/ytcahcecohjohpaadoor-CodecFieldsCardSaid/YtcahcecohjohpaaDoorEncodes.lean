/- CodecEncodes returns true. -/
import Derived.Test.YtcahcecohjohpaaDoorMade
import Derived.Test.YtcahcecohjohpaaDoorDepth
import Derived.Test.YtcahcecohjohpaaDoorPure
namespace Go.Proofs.YtcahcecohjohpaaDoor
open Go.RowKit

theorem fit_few {v : V} (h : fewV v = true) : Fit v 16 1048576 ↔ pureV v = true ∧ deepV v ≤ 16 := by
  have := (few_fine h).2.2
  exact ⟨fun hf => ⟨hf.1, hf.2.1⟩, fun hf => ⟨hf.1, hf.2, by omega⟩⟩

def RightPost (v : V) (w : World) (e : Ending) (w' : World) : Prop := (∃ r : Bool, e = .returned (.bool r) ∧ (r = true ↔ Fit v 16 1048576)) ∧ Below w.heap.size w w'
theorem RightPost.yes {v : V} {w w' : World} {e : Ending} (h : RightPost v w e w') (hf : Fit v 16 1048576) : e = .returned (.bool true) ∧ Below w.heap.size w w' := by
  obtain ⟨⟨r, he, hr⟩, hb⟩ := h
  exact ⟨by rw [he, hr.2 hf], hb⟩
theorem RightPost.no {v : V} {w w' : World} {e : Ending} (h : RightPost v w e w') (hf : ¬ Fit v 16 1048576) : e = .returned (.bool false) ∧ Below w.heap.size w w' := by
  obtain ⟨⟨r, he, hr⟩, hb⟩ := h
  refine ⟨?_, hb⟩
  cases r with
  | false => exact he
  | true => exact absurd (hr.1 rfl) hf

set_option maxHeartbeats 1000000 in
theorem right_any (k n : Int) (b : List Int) (l : List V) (D : Nat) (A B : Option Addr) (c d : Nat) (w : World) (hfew : Hid (fewV (.mk k n b l) = true)) (hH : Has D w (.mk k n b l) A B) :
    Calls Tryd.prog 12 #[.agg #[.int .i64 k, .int .i64 n, .slice A b.length c, .slice B l.length d]] w (RightPost (.mk k n b l) w) := by
  have hff := few_fine hfew.out
  have HF := hid (fit_few hfew.out)
  have hx := Box4.start w (.int .i64 k) (.int .i64 n) (.slice A b.length c) (.slice B l.length d) 25
  cases hp : pureV (.mk k n b l) with
  | false =>
    have HP := hid hp
    clear hp
    go_enter Tryd.func12, Tryd.ntmps12
    go_wp2_with (go_at_call 26; refine (refPure_any _ k n b l rfl D A B c d _ (hH.stay hx.below)).mono ?_; rintro e w1 ⟨rfl, hb1⟩; rw [HP.out])
    go_ret
    exact ⟨⟨false, rfl, by rw [HF.out, HP.out]; simp⟩, nextB hx.below hb1⟩
  | true =>
    have HP := hid hp
    clear hp
    by_cases hd : deepV (.mk k n b l) ≤ 16
    · have hle : ∀ ys : List Int, Hid (ys = bytesV (.mk k n b l)) → ys.length ≤ 1048576 := fun ys h => by rw [h.out]; omega
      go_enter Tryd.func12, Tryd.ntmps12
      go_wp2_with (first
        | (go_at_call 26; refine (refPure_any _ k n b l rfl D A B c d _ (hH.stay hx.below)).mono ?_; rintro e w1 ⟨rfl, hb1⟩; rw [HP.out]; have hx1 := hx.next hb1; obtain ⟨c0, c1, c2, c3⟩ := hx1.cells)
        | (go_at_call 11; refine (refDeep_any _ k n b l rfl D A B c d _ (by omega) (hH.stay hx1.below)).mono ?_; rintro e w2 ⟨rfl, hb2⟩; have hx2 := hx1.next hb2; obtain ⟨d0, d1, d2, d3⟩ := hx2.cells)
        | (go_at_call 13; refine (bytes_any _ k n b l rfl D A B c d _ HP.out hff.2.1 (by omega) (hH.stay hx2.below)).mono ?_; rintro e w3 ⟨B3, d3, ys3, rfl, HY3, hN3, hb3⟩; have hl3 := hle ys3 HY3))
      go_ret
      exact ⟨⟨true, ret_bool (by simp; omega), by rw [HF.out, HP.out]; simp [hd]⟩, nextB hx2.below hb3⟩
    · go_enter Tryd.func12, Tryd.ntmps12
      go_wp2_with (first
        | (go_at_call 26; refine (refPure_any _ k n b l rfl D A B c d _ (hH.stay hx.below)).mono ?_; rintro e w1 ⟨rfl, hb1⟩; rw [HP.out]; have hx1 := hx.next hb1; obtain ⟨c0, c1, c2, c3⟩ := hx1.cells)
        | (go_at_call 11; refine (refDeep_any _ k n b l rfl D A B c d _ (by omega) (hH.stay hx1.below)).mono ?_; rintro e w2 ⟨rfl, hb2⟩; have hx2 := hx1.next hb2; obtain ⟨d0, d1, d2, d3⟩ := hx2.cells))
      go_ret
      exact ⟨⟨false, rfl, by rw [HF.out]; simp [hd]⟩, hx2.below⟩

set_option maxHeartbeats 2000000 in
theorem codecEncodes_few (k n : Int) (b : List Int) (l : List V) (D : Nat) (A B : Option Addr) (c d : Nat) (w : World) (hfew : Hid (fewV (.mk k n b l) = true)) (ht : Tabs w) (hD : 1 < D) (hH : Has D w (.mk k n b l) A B) :
    Calls Tryd.prog 3 #[.agg #[.int .i64 k, .int .i64 n, .slice A b.length c, .slice B l.length d]] w fun e w' => e = .returned (.bool true) ∧ Below w.heap.size w w' := by
  have hff := few_fine hfew.out
  have hx := Box4.start w (.int .i64 k) (.int .i64 n) (.slice A b.length c) (.slice B l.length d) 25
  have ht1 := ht.stay hx.below
  obtain ⟨htm, hle⟩ := hff.2
  have hd30 := hff.1
  clear hff
  by_cases hf : Fit (.mk k n b l) 16 1048576
  · have HF := hid hf
    clear hf
    go_enter Tryd.func3, Tryd.ntmps3
    go_wp2_with (first
      | (go_at_call 6; refine (awake_any _ ht1).mono ?_; rintro e w1 ⟨rfl, hb1⟩; have hx1 := hx.next hb1; have ht2 := ht1.stay hb1; obtain ⟨c0, c1, c2, c3⟩ := hx1.cells)
      | (go_at_call 7; refine (few_any k n b l D A B c d _ (hH.stay hx1.below)).mono ?_; rintro e w2 ⟨rfl, hb2⟩; rw [hfew.out]; have hx2 := hx1.next hb2; have ht3 := ht2.stay hb2; obtain ⟨d0, d1, d2, d3⟩ := hx2.cells)
      | (go_at_call 8; refine ((cSize_any k n b l D A B c d _ htm ht3 (hH.stay hx2.below)).mono fun _ _ h => h.of_fit HF.out).mono ?_; rintro e w3 ⟨rfl, hb3⟩; have hx3 := hx2.next hb3; have ht4 := ht3.stay hb3; obtain ⟨e0, e1, e2, e3⟩ := hx3.cells)
      | (go_at_call 9; refine ((encode_any k n b l D A B c d _ htm ht4 hD (hH.stay hx3.below)).mono fun _ _ h => h.yes HF.out).mono ?_; rintro e w4 ⟨B4, d4, ys4, rfl, HY4, hN4, hb4⟩; have hx4 := hx3.next hb4; have ht5 := ht4.stay hb4; obtain ⟨f0, f1, f2, f3⟩ := hx4.cells))
    have hd16 : deepV (.mk k n b l) ≤ 16 := HF.out.2.1
    have HM : Hid ((min (deepV (.mk k n b l)) 17 : Nat) = deepV (.mk k n b l)) := hid (by omega)
    have hx5 := hx4.next ((Below.refl _ w4).drew)
    have hH5 := hH.stay hx5.below
    have hd1000 : deepV (.mk k n b l) ≤ 1000 := by omega
    go_region_held3 (fun w' => w'.cell? ⟨w.heap.size, 0, none⟩ = some (.int .i64 k) ∧ w'.cell? ⟨w.heap.size, 1, none⟩ = some (.int .i64 n) ∧ w'.cell? ⟨w.heap.size, 2, none⟩ = some (.slice A b.length c) ∧ w'.cell? ⟨w.heap.size, 3, none⟩ = some (.slice B l.length d))
      (first | go_keep | exact (hx5.next hbp).cells | exact (hx5.next hbq).cells | exact ((hx5.next hbp).next hbq).cells | exact ((hx5.next hbq).next hbp).cells)
      (first
        | (go_at_call 10; refine (cDepth_any k n b l D A B c d _ (hH5.stay hbq)).mono ?_; rw [HM.out]; rintro e w6 ⟨rfl, hbp⟩)
        | (go_at_call 10; refine (cDepth_any k n b l D A B c d _ hH5).mono ?_; rw [HM.out]; rintro e w6 ⟨rfl, hbp⟩)
        | (go_at_call 11; refine (refDeep_any _ k n b l rfl D A B c d _ hd1000 (hH5.stay hbp)).mono ?_; rintro e w7 ⟨rfl, hbq⟩)
        | (go_at_call 11; refine (refDeep_any _ k n b l rfl D A B c d _ hd1000 hH5).mono ?_; rintro e w7 ⟨rfl, hbq⟩))
    all_goals
      first | have hx7 := (hx5.next hbp).next hbq | have hx7 := (hx5.next hbq).next hbp
      have hN7 : Box4 w (.int .i64 k) (.int .i64 n) (.slice A b.length c) (.slice B l.length d) 25 _ := hx7
      first | have hN5 := ((hN4.stay ((Below.refl _ w4).drew)).stay hbp).stay hbq | have hN5 := ((hN4.stay ((Below.refl _ w4).drew)).stay hbq).stay hbp
      clear hN7
      go_wp2_with (first
        | (go_at_call 12; refine ((right_any k n b l D A B c d _ hfew (hH.stay hx7.below)).mono fun _ _ h => h.yes HF.out).mono ?_; rintro e w8 ⟨rfl, hb8⟩; have hx8 := hx7.next hb8; obtain ⟨g0, g1, g2, g3⟩ := hx8.cells)
        | (go_at_call 13; refine (bytes_any _ k n b l rfl D A B c d _ HF.out.1 htm (by omega) (hH.stay hx8.below)).mono ?_; rintro e w9 ⟨B9, d9, ys9, rfl, HY9, hN9, hb9⟩; obtain rfl : ys9 = bytesV (.mk k n b l) := HY9.out)
        | (go_at_call 14; refine (same_eq B4 B9 d4 d9 ys4 (bytesV (.mk k n b l)) _ HY4.out (by rw [HY4.out]; unfold maxLen; omega) ((hN5.stay hb8).stay hb9).nums hN9.nums).mono ?_; rintro e w10 ⟨rfl, hb10⟩))
      go_ret
      exact ⟨rfl, nextB (nextB hx8.below hb9) hb10⟩
  · have HF := hid hf
    clear hf
    by_cases hd17 : deepV (.mk k n b l) ≤ 17
    · go_enter Tryd.func3, Tryd.ntmps3
      go_wp2_with (first
        | (go_at_call 6; refine (awake_any _ ht1).mono ?_; rintro e w1 ⟨rfl, hb1⟩; have hx1 := hx.next hb1; have ht2 := ht1.stay hb1; obtain ⟨c0, c1, c2, c3⟩ := hx1.cells)
        | (go_at_call 7; refine (few_any k n b l D A B c d _ (hH.stay hx1.below)).mono ?_; rintro e w2 ⟨rfl, hb2⟩; rw [hfew.out]; have hx2 := hx1.next hb2; have ht3 := ht2.stay hb2; obtain ⟨d0, d1, d2, d3⟩ := hx2.cells)
        | (go_at_call 8; refine ((cSize_any k n b l D A B c d _ htm ht3 (hH.stay hx2.below)).mono fun _ _ h => h.of_not HF.out).mono ?_; rintro e w3 ⟨rfl, hb3⟩; have hx3 := hx2.next hb3; have ht4 := ht3.stay hb3; obtain ⟨e0, e1, e2, e3⟩ := hx3.cells)
        | (go_at_call 9; refine ((encode_any k n b l D A B c d _ htm ht4 hD (hH.stay hx3.below)).mono fun _ _ h => h.no HF.out).mono ?_; rintro e w4 ⟨rfl, hb4⟩; have hx4 := hx3.next hb4; have ht5 := ht4.stay hb4; obtain ⟨f0, f1, f2, f3⟩ := hx4.cells))
      have HM : Hid ((min (deepV (.mk k n b l)) 17 : Nat) = deepV (.mk k n b l)) := hid (by omega)
      have hx5 := hx4.next ((Below.refl _ w4).drew)
      have hH5 := hH.stay hx5.below
      have hd1000 : deepV (.mk k n b l) ≤ 1000 := by omega
      go_region_held3 (fun w' => w'.cell? ⟨w.heap.size, 0, none⟩ = some (.int .i64 k) ∧ w'.cell? ⟨w.heap.size, 1, none⟩ = some (.int .i64 n) ∧ w'.cell? ⟨w.heap.size, 2, none⟩ = some (.slice A b.length c) ∧ w'.cell? ⟨w.heap.size, 3, none⟩ = some (.slice B l.length d))
        (first | go_keep | exact (hx5.next hbp).cells | exact (hx5.next hbq).cells | exact ((hx5.next hbp).next hbq).cells | exact ((hx5.next hbq).next hbp).cells)
        (first
          | (go_at_call 10; refine (cDepth_any k n b l D A B c d _ (hH5.stay hbq)).mono ?_; rw [HM.out]; rintro e w6 ⟨rfl, hbp⟩)
          | (go_at_call 10; refine (cDepth_any k n b l D A B c d _ hH5).mono ?_; rw [HM.out]; rintro e w6 ⟨rfl, hbp⟩)
          | (go_at_call 11; refine (refDeep_any _ k n b l rfl D A B c d _ hd1000 (hH5.stay hbp)).mono ?_; rintro e w7 ⟨rfl, hbq⟩)
          | (go_at_call 11; refine (refDeep_any _ k n b l rfl D A B c d _ hd1000 hH5).mono ?_; rintro e w7 ⟨rfl, hbq⟩))
      all_goals
        first | have hx7 := (hx5.next hbp).next hbq | have hx7 := (hx5.next hbq).next hbp
        go_wp2_with (go_at_call 12; refine ((right_any k n b l D A B c d _ hfew (hH.stay hx7.below)).mono fun _ _ h => h.no HF.out).mono ?_; rintro e w8 ⟨rfl, hb8⟩)
        go_ret
        exact ⟨rfl, nextB hx7.below hb8⟩
    · go_enter Tryd.func3, Tryd.ntmps3
      go_wp2_with (first
        | (go_at_call 6; refine (awake_any _ ht1).mono ?_; rintro e w1 ⟨rfl, hb1⟩; have hx1 := hx.next hb1; have ht2 := ht1.stay hb1; obtain ⟨c0, c1, c2, c3⟩ := hx1.cells)
        | (go_at_call 7; refine (few_any k n b l D A B c d _ (hH.stay hx1.below)).mono ?_; rintro e w2 ⟨rfl, hb2⟩; rw [hfew.out]; have hx2 := hx1.next hb2; have ht3 := ht2.stay hb2; obtain ⟨d0, d1, d2, d3⟩ := hx2.cells)
        | (go_at_call 8; refine ((cSize_any k n b l D A B c d _ htm ht3 (hH.stay hx2.below)).mono fun _ _ h => h.of_not HF.out).mono ?_; rintro e w3 ⟨rfl, hb3⟩; have hx3 := hx2.next hb3; have ht4 := ht3.stay hb3; obtain ⟨e0, e1, e2, e3⟩ := hx3.cells)
        | (go_at_call 9; refine ((encode_any k n b l D A B c d _ htm ht4 hD (hH.stay hx3.below)).mono fun _ _ h => h.no HF.out).mono ?_; rintro e w4 ⟨rfl, hb4⟩; have hx4 := hx3.next hb4; have ht5 := ht4.stay hb4; obtain ⟨f0, f1, f2, f3⟩ := hx4.cells))
      have HM : Hid ((min (deepV (.mk k n b l)) 17 : Nat) = 17) := hid (by omega)
      have hx5 := hx4.next ((Below.refl _ w4).drew)
      have hH5 := hH.stay hx5.below
      have hd1000 : deepV (.mk k n b l) ≤ 1000 := by omega
      go_region_held3 (fun w' => w'.cell? ⟨w.heap.size, 0, none⟩ = some (.int .i64 k) ∧ w'.cell? ⟨w.heap.size, 1, none⟩ = some (.int .i64 n) ∧ w'.cell? ⟨w.heap.size, 2, none⟩ = some (.slice A b.length c) ∧ w'.cell? ⟨w.heap.size, 3, none⟩ = some (.slice B l.length d))
        (first | go_keep | exact (hx5.next hbp).cells | exact (hx5.next hbq).cells | exact ((hx5.next hbp).next hbq).cells | exact ((hx5.next hbq).next hbp).cells)
        (first
          | (go_at_call 10; refine (cDepth_any k n b l D A B c d _ (hH5.stay hbq)).mono ?_; rw [HM.out]; rintro e w6 ⟨rfl, hbp⟩)
          | (go_at_call 10; refine (cDepth_any k n b l D A B c d _ hH5).mono ?_; rw [HM.out]; rintro e w6 ⟨rfl, hbp⟩)
          | (go_at_call 11; refine (refDeep_any _ k n b l rfl D A B c d _ hd1000 (hH5.stay hbp)).mono ?_; rintro e w7 ⟨rfl, hbq⟩)
          | (go_at_call 11; refine (refDeep_any _ k n b l rfl D A B c d _ hd1000 hH5).mono ?_; rintro e w7 ⟨rfl, hbq⟩))
      all_goals
        first | have hx7 := (hx5.next hbp).next hbq | have hx7 := (hx5.next hbq).next hbp
        go_wp2_with (go_at_call 12; refine ((right_any k n b l D A B c d _ hfew (hH.stay hx7.below)).mono fun _ _ h => h.no HF.out).mono ?_; rintro e w8 ⟨rfl, hb8⟩)
        go_ret
        exact ⟨rfl, nextB hx7.below hb8⟩

theorem codecEncodes_walk (w : World) (ht : Tabs w) (k n : Int) (b : List Int) (l : List V) (A B : Option Addr) (c d : Nat) (hH : Has w.heap.size w (.mk k n b l) A B) :
    Calls Tryd.prog 3 #[.agg #[.int .i64 k, .int .i64 n, .slice A b.length c, .slice B l.length d]] w fun e w' => e = .returned (.bool true) ∧ Below w.heap.size w w' := by
  cases hf : fewV (.mk k n b l) with
  | true => exact codecEncodes_few k n b l w.heap.size A B c d w (hid hf) ht ht.1 hH
  | false =>
    have HF := hid hf
    clear hf
    have hx := Box4.start w (.int .i64 k) (.int .i64 n) (.slice A b.length c) (.slice B l.length d) 25
    have ht1 := ht.stay hx.below
    go_enter Tryd.func3, Tryd.ntmps3
    go_wp2_with (first
      | (go_at_call 6; refine (awake_any _ ht1).mono ?_; rintro e w1 ⟨rfl, hb1⟩; have hx1 := hx.next hb1; obtain ⟨c0, c1, c2, c3⟩ := hx1.cells)
      | (go_at_call 7; refine (few_any k n b l _ A B c d _ (hH.stay hx1.below)).mono ?_; rintro e w2 ⟨rfl, hb2⟩; rw [HF.out]; have hx2 := hx1.next hb2))
    go_ret
    exact ⟨rfl, hx2.below⟩
end Go.Proofs.YtcahcecohjohpaaDoor
