/- number: the bytes of the number that digits make, below the prime. -/
import Derived.Test.YthohfhloobmlpaaPEl
namespace Go.Proofs.Ythohfhloobmlpaa
open Go Go.RowKit

set_option maxRecDepth 4000 in
set_option maxHeartbeats 1000000 in
theorem number_core (xs a xs1 b xs2 r : List Int) (x y : Int) (w : World) (HL : Hid (xs.length = 17)) (HB : Hid (Bd 1152921504606846976 xs)) (HA : Hid (cy xs = a)) (HX : Hid (a[0]? = some x)) (HXB : Hid (-100000000000 ≤ x ∧ x ≤ 100000000000))
    (H1 : Hid (a.set 0 (x + 5) = xs1)) (HL1 : Hid (xs1.length = 17)) (HB1 : Hid (Bd 1152921504606846976 xs1)) (HBB : Hid (cy xs1 = b)) (HY : Hid (b[0]? = some y)) (HYB : Hid (-100000000000 ≤ y ∧ y ≤ 100000000000))
    (H2 : Hid (b.set 0 (y - 5) = xs2)) (HL2 : Hid (xs2.length = 17)) (HB2 : Hid (Bd 1152921504606846976 xs2)) (HR : Hid (cy xs2 = r)) (HRL : Hid (r.length = 17)) (HRB : Hid (Byt r)) :
    Calls Try.prog 25 #[.agg (ints .i64 xs).toArray] w fun e w' => e = .returned (.agg (ints .u8 r).toArray) ∧ Below w.heap.size w w' := by
  obtain ⟨z25, s25⟩ := zero_of_info inf25
  have hx5 : IntKind.i64.wrap (x + 5) = x + 5 := IntWalk.i64_in _ (by have := HXB.out; omega)
  have hy5 : IntKind.i64.wrap (y - 5) = y - 5 := IntWalk.i64_in _ (by have := HYB.out; omega)
  have hN := (Arr.made w .i64 xs 51).alloc (.cells (ints .u8 (zeros 17)).toArray 25)
  have hR := Arr.made (w.alloc (.cells (ints .i64 xs).toArray 51)) .u8 (zeros 17) 25
  have hW := (below_new w (.cells (ints .i64 xs).toArray 51)).alloc (by simp) (.cells (ints .u8 (zeros 17)).toArray 25)
  rw [World.size_alloc] at hR
  go_enter Try.func25, Try.ntmps25
  go_wp2_with (fail)
  generalize ((w.alloc (.cells (ints .i64 xs).toArray 51)).alloc (.cells (ints .u8 (zeros 17)).toArray 25)) = W0 at *
  refine (carry_any _ _ _ HL.out HB.out hN).mono ?_
  rintro e w1 ⟨rfl, hA1, hO1⟩
  rw [HA.out] at hA1
  replace hR := hR.only hO1 (by omega)
  replace hW := hW.trans (hO1.below (B := w.heap.size) (by omega) hW.size)
  clear hN hO1
  have c0 := hA1.at_ HX.out
  have f0 := hA1.free (i := 0) (List.getElem?_eq_some_iff.1 HX.out).1
  have hA2 := hA1.set 0 (x + 5)
  rw [Nat.add_zero, H1.out] at hA2
  replace hR := hR.apart (p := ⟨w.heap.size, 0, none⟩) (.int .i64 (x + 5)) (.inl (by show w.heap.size ≠ w.heap.size + 1; omega))
  replace hW := hW.setCell (p := ⟨w.heap.size, 0, none⟩) (by show w.heap.size ≤ w.heap.size; omega) (.int .i64 (x + 5))
  rw [Nat.zero_add] at c0 f0
  clear hA1
  go_wp2_with (fail)
  clear c0 f0
  generalize (w1.setCell ⟨w.heap.size, 0, none⟩ (.int .i64 (x + 5))) = W1 at *
  refine (carry_any _ _ _ HL1.out HB1.out hA2).mono ?_
  rintro e w2 ⟨rfl, hA3, hO3⟩
  rw [HBB.out] at hA3
  replace hR := hR.only hO3 (by omega)
  replace hW := hW.trans (hO3.below (B := w.heap.size) (by omega) hW.size)
  clear hA2 hO3
  have c0 := hA3.at_ HY.out
  have f0 := hA3.free (i := 0) (List.getElem?_eq_some_iff.1 HY.out).1
  have hA4 := hA3.set 0 (y - 5)
  rw [Nat.add_zero, H2.out] at hA4
  replace hR := hR.apart (p := ⟨w.heap.size, 0, none⟩) (.int .i64 (y - 5)) (.inl (by show w.heap.size ≠ w.heap.size + 1; omega))
  replace hW := hW.setCell (p := ⟨w.heap.size, 0, none⟩) (by show w.heap.size ≤ w.heap.size; omega) (.int .i64 (y - 5))
  rw [Nat.zero_add] at c0 f0
  clear hA3
  go_wp2_with (fail)
  clear c0 f0
  generalize (w2.setCell ⟨w.heap.size, 0, none⟩ (.int .i64 (y - 5))) = W2 at *
  refine (carry_any _ _ _ HL2.out HB2.out hA4).mono ?_
  rintro e w3 ⟨rfl, hA5, hO5⟩
  rw [HR.out] at hA5
  replace hR := hR.only hO5 (by omega)
  replace hW := hW.trans (hO5.below (B := w.heap.size) (by omega) hW.size)
  have hlt := hR.lt (by rw [zeros_len]; omega)
  clear hA4 hO5
  obtain ⟨B, hB⟩ : ∃ B, B = w3.heap.size := ⟨_, rfl⟩
  have hD := Arr.made w3 .u8 (zeros 17) 25
  replace hA5 := hA5.alloc (.cells (ints .u8 (zeros 17)).toArray 25)
  replace hR := hR.alloc (.cells (ints .u8 (zeros 17)).toArray 25)
  replace hW := hW.alloc hW.size (.cells (ints .u8 (zeros 17)).toArray 25)
  have HZ := hid (fill_0 (n := 17) HRL.out)
  have HF := hid (fill_id HRL.out)
  go_wp2_with (first
    | (with_reducible refine wpList_load_mid (op := ⟨some 17, .load 51 (.tmp 1), _, _, _, _⟩) rfl 51 (.tmp 1) rfl w.heap.size 0 rfl (ints .i64 r) _ (hA5.range) Try.underlying51 rfl (l51 HRL.out) ?_))
  rw [← hB] at hD hlt ⊢
  have HBW := hid hB
  clear hA5 hB
  generalize w3.alloc (.cells (ints .u8 (zeros 17)).toArray 25) = W3 at *
  rw [HZ.out] at hD
  go_loopw [18] (fun i wr => ∃ k : Nat, k ≤ 17 ∧ i = .int .i64 k ∧ Arr wr (w.heap.size + 1) 0 .u8 (zeros 17) ∧ Arr wr B 0 .u8 (fillK r k) ∧ Below w.heap.size w wr) (fun i _ => 17 - (intOf i).toNat)
  case atStart => exact ⟨0, by omega, rfl, hR, hD, hW⟩
  case round =>
    clear hR hD hW
    obtain ⟨k, hk, rfl, hR, hD, hW⟩ := hrel
    rename World => W4
    by_cases hlt2 : k < 17
    · have HK := hid (getD_some (l := r) (i := k) (by rw [HRL.out]; exact hlt2))
      have hix := fun w => index51 HK.out hlt2 w
      have hxb := HRB.out.at_ HK.out
      generalize r.getD k 0 = d at *
      obtain ⟨z, cz, fz, _⟩ := hD.spot (i := k) (by rw [fillK_length, HRL.out]; exact hlt2)
      rw [Nat.zero_add] at cz fz
      have hw8 : IntKind.u8.wrap d = d := IntWalk.u8_in _ (by omega)
      have k0 : (0 : Int) ≤ k := by omega
      have k17 : (k : Int) < 17 := by omega
      have hwk : IntKind.i64.wrap ((k : Int) + 1) = (k : Int) + 1 := IntWalk.i64_in _ (by omega)
      have hD1 := hD.set k d
      rw [Nat.zero_add, fillK_set _ HK.out] at hD1
      have HXX := hid hxb
      clear hxb
      go_wp2
      go_roundw
      case rel => exact ⟨k + 1, by omega, by go_num, hR.apart _ (.inl (by show B ≠ w.heap.size + 1; omega)), hD1, hW.setCell (by show w.heap.size ≤ B; omega) _⟩
      case measure => simp [intOf]; omega
    · have e : k = 17 := by omega
      subst e
      rw [HF.out] at hD
      have hs1 : W4.there (w.heap.size + 1) 0 (ints .u8 r).toArray.size := hR.room (by rw [zeros_len]; exact HRL.out)
      have hR2 := hR.stored (l' := r) (by rw [zeros_len]; exact HRL.out)
      have hW2 := Below.setCells hW (g := w.heap.size + 1) (by omega) 0 (ints .u8 r).toArray.toList
      go_wp2_with (first
        | (with_reducible refine wpList_load_mid (op := ⟨some 27, .load 25 (.tmp 3), _, _, _, _⟩) rfl 25 (.tmp 3) rfl B 0 rfl (ints .u8 r) _ (hD.range) Try.underlying25 rfl (l25 HRL.out) ?_)
        | (with_reducible refine wpList_store_mid (op := ⟨none, .store 25 (.tmp 2) (.tmp 27), _, _, _, _⟩) rfl 25 (.tmp 2) (.tmp 27) rfl (w.heap.size + 1) 0 (ints .u8 r).toArray rfl rfl hs1 (a25 HRL.out) (ints_all _ _) ?_))
      exact ret_rows rfl (w.heap.size + 1) 0 rfl (ints .u8 r) _ hR2.range Try.underlying25 rfl (l25 HRL.out) rfl ⟨rfl, hW2⟩
theorem bv_digits (b : Int) (h0 : 0 ≤ b) : ∀ l : List Int, (∀ x ∈ l, 0 ≤ x ∧ x ≤ b) → 0 ≤ bv l ∧ bv l * 255 ≤ b * (256 ^ l.length - 1)
  | [], _ => by simp [bv]
  | x :: l, h => by
    have h1 := bv_digits b h0 l (fun y hy => h y (by simp [hy]))
    have h2 := h x (by simp)
    simp only [bv, List.length_cons, Int.pow_succ]
    have e : b * (256 ^ l.length * 256 - 1) = 256 * (b * (256 ^ l.length - 1)) + 255 * b := by
      rw [Int.mul_sub, Int.mul_sub, ← Int.mul_assoc]; omega
    rw [e]
    omega
theorem number_any (xs : List Int) (w : World) (hl : xs.length = 17) (hb : ∀ x ∈ xs, 0 ≤ x ∧ x ≤ 536870912) :
    Calls Try.prog 25 #[.agg (ints .i64 xs).toArray] w fun e w' => e = .returned (.agg (ints .u8 (pb (bn xs % PN))).toArray) ∧ Below w.heap.size w w' := by
  have h0 := bv_digits 536870912 (by omega) xs hb
  rw [hl] at h0
  have e17 : (256 : Int) ^ 17 = 87112285931760246646623899502532662132736 := by decide
  rw [e17] at h0
  obtain ⟨h1, h2, h3⟩ := num_all hl ⟨h0.1, by omega⟩
  have c1 : (cy xs).length = 17 := by rw [cy_length, hl]
  have l1 : (d1 xs).length = 17 := by rw [d1_length, hl]
  have c2 : (cy (d1 xs)).length = 17 := by rw [cy_length, l1]
  have l2 : (d2 xs).length = 17 := by rw [d2_length, hl]
  have x0 := getD_some (l := cy xs) (i := 0) (by omega)
  have y0 := getD_some (l := cy (d1 xs)) (i := 0) (by omega)
  have xb := h1.at_ x0
  have yb := h2.at_ y0
  exact number_core xs (cy xs) (d1 xs) (cy (d1 xs)) (d2 xs) _ _ _ w (hid hl) (hid fun x hx => by have := hb x hx; omega) (hid rfl) (hid x0) (hid ⟨by omega, by omega⟩) (hid rfl) (hid l1)
    (hid (Bd.set (fun x hx => by have := h1 x hx; omega) 0 _ ⟨by omega, by omega⟩)) (hid rfl) (hid y0) (hid ⟨by omega, by omega⟩) (hid rfl) (hid l2) (hid (Bd.set (fun x hx => by have := h2 x hx; omega) 0 _ ⟨by omega, by omega⟩)) (hid h3) (hid (pb_length _)) (hid (pb_byt _))
end Go.Proofs.Ythohfhloobmlpaa
