/- Texts of this proof, laid together: PNumb, PAdd. -/
import Derived.Test.YtkblmdakejmmhaaDoorG27
/- number: the bytes of the number that digits make, below the prime. -/
namespace Go.Proofs.YtkblmdakejmmhaaDoor
open Go Go.RowKit

set_option maxRecDepth 4000 in
set_option maxHeartbeats 1000000 in
theorem number_core (xs a xs1 b xs2 r : List Int) (x y : Int) (w : World) (HL : Hid (xs.length = 17)) (HB : Hid (Bd 1152921504606846976 xs)) (HA : Hid (cyZ xs = a)) (HX : Hid (a[0]? = some x)) (HXB : Hid (-100000000000 ≤ x ∧ x ≤ 100000000000))
    (H1 : Hid (a.set 0 (x + 5) = xs1)) (HL1 : Hid (xs1.length = 17)) (HB1 : Hid (Bd 1152921504606846976 xs1)) (HBB : Hid (cyZ xs1 = b)) (HY : Hid (b[0]? = some y)) (HYB : Hid (-100000000000 ≤ y ∧ y ≤ 100000000000))
    (H2 : Hid (b.set 0 (y - 5) = xs2)) (HL2 : Hid (xs2.length = 17)) (HB2 : Hid (Bd 1152921504606846976 xs2)) (HR : Hid (cyZ xs2 = r)) (HRL : Hid (r.length = 17)) (HRB : Hid (Byt r)) :
    Calls Tryd.prog 79 #[.agg (ints .i64 xs).toArray] w fun e w' => e = .returned (.agg (ints .u8 r).toArray) ∧ Below w.heap.size w w' := by
  obtain ⟨z25, s25⟩ := zero_of_info inf25
  have hx5 : IntKind.i64.wrap (x + 5) = x + 5 := IntWalk.i64_in _ (by have := HXB.out; omega)
  have hy5 : IntKind.i64.wrap (y - 5) = y - 5 := IntWalk.i64_in _ (by have := HYB.out; omega)
  have hN := (Arr.made w .i64 xs 128).alloc (.cells (ints .u8 (zeros 17)).toArray 95)
  have hR := Arr.made (w.alloc (.cells (ints .i64 xs).toArray 128)) .u8 (zeros 17) 95
  have hW := (below_new w (.cells (ints .i64 xs).toArray 128)).alloc (by simp) (.cells (ints .u8 (zeros 17)).toArray 95)
  rw [World.size_alloc] at hR
  go_enter Tryd.func79, Tryd.ntmps79
  go_wp2_with (fail)
  generalize ((w.alloc (.cells (ints .i64 xs).toArray 128)).alloc (.cells (ints .u8 (zeros 17)).toArray 95)) = W0 at *
  refine (carry_anyZ _ _ _ HL.out HB.out hN).mono ?_
  rintro e w1 ⟨rfl, hA1, hO1⟩
  rw [HA.out] at hA1
  replace hR := hR.only hO1 (by omega)
  replace hW := hW.trans (hO1.below (B := w.heap.size) (by omega) hW.size)
  clear hN hO1
  have c0 := hA1.at_ HX.out
  have f0 := hA1.free (i := 0) (List.getElem?_eq_some_iff.1 HX.out).1
  have hA2 := hA1.set 0 (x + 5)
  rw [Nat.add_zero, H1.out] at hA2
  replace hR := hR.apart (p := ⟨w.heap.size, 0, none⟩) (.int .i64 (x + 5)) (.inl (by show w.heap.size ≠ w.heap.size + 1; omega))
  replace hW := hW.setCell (p := ⟨w.heap.size, 0, none⟩) (by show w.heap.size ≤ w.heap.size; omega) (.int .i64 (x + 5))
  rw [Nat.zero_add] at c0 f0
  clear hA1
  go_wp2_with (fail)
  clear c0 f0
  generalize (w1.setCell ⟨w.heap.size, 0, none⟩ (.int .i64 (x + 5))) = W1 at *
  refine (carry_anyZ _ _ _ HL1.out HB1.out hA2).mono ?_
  rintro e w2 ⟨rfl, hA3, hO3⟩
  rw [HBB.out] at hA3
  replace hR := hR.only hO3 (by omega)
  replace hW := hW.trans (hO3.below (B := w.heap.size) (by omega) hW.size)
  clear hA2 hO3
  have c0 := hA3.at_ HY.out
  have f0 := hA3.free (i := 0) (List.getElem?_eq_some_iff.1 HY.out).1
  have hA4 := hA3.set 0 (y - 5)
  rw [Nat.add_zero, H2.out] at hA4
  replace hR := hR.apart (p := ⟨w.heap.size, 0, none⟩) (.int .i64 (y - 5)) (.inl (by show w.heap.size ≠ w.heap.size + 1; omega))
  replace hW := hW.setCell (p := ⟨w.heap.size, 0, none⟩) (by show w.heap.size ≤ w.heap.size; omega) (.int .i64 (y - 5))
  rw [Nat.zero_add] at c0 f0
  clear hA3
  go_wp2_with (fail)
  clear c0 f0
  generalize (w2.setCell ⟨w.heap.size, 0, none⟩ (.int .i64 (y - 5))) = W2 at *
  refine (carry_anyZ _ _ _ HL2.out HB2.out hA4).mono ?_
  rintro e w3 ⟨rfl, hA5, hO5⟩
  rw [HR.out] at hA5
  replace hR := hR.only hO5 (by omega)
  replace hW := hW.trans (hO5.below (B := w.heap.size) (by omega) hW.size)
  have hlt := hR.lt (by rw [zeros_len]; omega)
  clear hA4 hO5
  obtain ⟨B, hB⟩ : ∃ B, B = w3.heap.size := ⟨_, rfl⟩
  have hD := Arr.made w3 .u8 (zeros 17) 95
  replace hA5 := hA5.alloc (.cells (ints .u8 (zeros 17)).toArray 95)
  replace hR := hR.alloc (.cells (ints .u8 (zeros 17)).toArray 95)
  replace hW := hW.alloc hW.size (.cells (ints .u8 (zeros 17)).toArray 95)
  have HZ := hid (fill_0 (n := 17) HRL.out)
  have HF := hid (fill_id HRL.out)
  go_wp2_with (first
    | (with_reducible refine wpList_load_mid (op := ⟨some 17, .load 128 (.tmp 1), _, _, _, _⟩) rfl 128 (.tmp 1) rfl w.heap.size 0 rfl (ints .i64 r) _ (hA5.range) Tryd.underlying128 rfl (l51 HRL.out) ?_))
  rw [← hB] at hD hlt ⊢
  have HBW := hid hB
  clear hA5 hB
  generalize w3.alloc (.cells (ints .u8 (zeros 17)).toArray 95) = W3 at *
  rw [HZ.out] at hD
  go_loopw [18] (fun i wr => ∃ k : Nat, k ≤ 17 ∧ i = .int .i64 k ∧ Arr wr (w.heap.size + 1) 0 .u8 (zeros 17) ∧ Arr wr B 0 .u8 (fillK r k) ∧ Below w.heap.size w wr) (fun i _ => 17 - (intOf i).toNat)
  case atStart => exact ⟨0, by omega, rfl, hR, hD, hW⟩
  case round =>
    clear hR hD hW
    obtain ⟨k, hk, rfl, hR, hD, hW⟩ := hrel
    rename World => W4
    by_cases hlt2 : k < 17
    · have HK := hid (getD_some (l := r) (i := k) (by rw [HRL.out]; exact hlt2))
      have hix := fun w => index51 HK.out hlt2 w
      have hxb := HRB.out.at_ HK.out
      generalize r.getD k 0 = d at *
      obtain ⟨z, cz, fz, _⟩ := hD.spot (i := k) (by rw [fillK_length, HRL.out]; exact hlt2)
      rw [Nat.zero_add] at cz fz
      have hw8 : IntKind.u8.wrap d = d := IntWalk.u8_in _ (by omega)
      have k0 : (0 : Int) ≤ k := by omega
      have k17 : (k : Int) < 17 := by omega
      have hwk : IntKind.i64.wrap ((k : Int) + 1) = (k : Int) + 1 := IntWalk.i64_in _ (by omega)
      have hD1 := hD.set k d
      rw [Nat.zero_add, fillK_set _ HK.out] at hD1
      have HXX := hid hxb
      clear hxb
      go_wp2
      go_roundw
      case rel => exact ⟨k + 1, by omega, by go_num, hR.apart _ (.inl (by show B ≠ w.heap.size + 1; omega)), hD1, hW.setCell (by show w.heap.size ≤ B; omega) _⟩
      case measure => simp [intOf]; omega
    · have e : k = 17 := by omega
      subst e
      rw [HF.out] at hD
      have hs1 : W4.there (w.heap.size + 1) 0 (ints .u8 r).toArray.size := hR.room (by rw [zeros_len]; exact HRL.out)
      have hR2 := hR.stored (l' := r) (by rw [zeros_len]; exact HRL.out)
      have hW2 := Below.setCells hW (g := w.heap.size + 1) (by omega) 0 (ints .u8 r).toArray.toList
      go_wp2_with (first
        | (with_reducible refine wpList_load_mid (op := ⟨some 27, .load 95 (.tmp 3), _, _, _, _⟩) rfl 95 (.tmp 3) rfl B 0 rfl (ints .u8 r) _ (hD.range) Tryd.underlying95 rfl (l25 HRL.out) ?_)
        | (with_reducible refine wpList_store_mid (op := ⟨none, .store 95 (.tmp 2) (.tmp 27), _, _, _, _⟩) rfl 95 (.tmp 2) (.tmp 27) rfl (w.heap.size + 1) 0 (ints .u8 r).toArray rfl rfl hs1 (a25 HRL.out) (ints_all _ _) ?_))
      exact ret_rows rfl (w.heap.size + 1) 0 rfl (ints .u8 r) _ hR2.range Tryd.underlying95 rfl (l25 HRL.out) rfl ⟨rfl, hW2⟩
set_option maxRecDepth 50000 in
theorem bv_digits (b : Int) (h0 : 0 ≤ b) : ∀ l : List Int, (∀ x ∈ l, 0 ≤ x ∧ x ≤ b) → 0 ≤ bv l ∧ bv l * 255 ≤ b * (256 ^ l.length - 1)
  | [], _ => by simp [bv]
  | x :: l, h => by
    have h1 := bv_digits b h0 l (fun y hy => h y (by simp [hy]))
    have h2 := h x (by simp)
    simp only [bv, List.length_cons, Int.pow_succ]
    have e : b * (256 ^ l.length * 256 - 1) = 256 * (b * (256 ^ l.length - 1)) + 255 * b := by
      rw [Int.mul_sub, Int.mul_sub, ← Int.mul_assoc]; omega
    rw [e]
    omega
set_option maxRecDepth 50000 in
theorem number_any (xs : List Int) (w : World) (hl : xs.length = 17) (hb : ∀ x ∈ xs, 0 ≤ x ∧ x ≤ 536870912) :
    Calls Tryd.prog 79 #[.agg (ints .i64 xs).toArray] w fun e w' => e = .returned (.agg (ints .u8 (pb (bn xs % PNZ))).toArray) ∧ Below w.heap.size w w' := by
  have h0 := bv_digits 536870912 (by omega) xs hb
  rw [hl] at h0
  have e17 : (256 : Int) ^ 17 = 87112285931760246646623899502532662132736 := by decide
  rw [e17] at h0
  obtain ⟨h1, h2, h3⟩ := num_all hl ⟨h0.1, by omega⟩
  have c1 : (cyZ xs).length = 17 := by rw [cy_lengthZ, hl]
  have l1 : (d1 xs).length = 17 := by rw [d1_length, hl]
  have c2 : (cyZ (d1 xs)).length = 17 := by rw [cy_lengthZ, l1]
  have l2 : (d2 xs).length = 17 := by rw [d2_length, hl]
  have x0 := getD_some (l := cyZ xs) (i := 0) (by omega)
  have y0 := getD_some (l := cyZ (d1 xs)) (i := 0) (by omega)
  have xb := h1.at_ x0
  have yb := h2.at_ y0
  exact number_core xs (cyZ xs) (d1 xs) (cyZ (d1 xs)) (d2 xs) _ _ _ w (hid hl) (hid fun x hx => by have := hb x hx; omega) (hid rfl) (hid x0) (hid ⟨by omega, by omega⟩) (hid rfl) (hid l1)
    (hid (Bd.set (fun x hx => by have := h1 x hx; omega) 0 _ ⟨by omega, by omega⟩)) (hid rfl) (hid y0) (hid ⟨by omega, by omega⟩) (hid rfl) (hid l2) (hid (Bd.set (fun x hx => by have := h2 x hx; omega) 0 _ ⟨by omega, by omega⟩)) (hid h3) (hid (pb_length _)) (hid (pb_byt _))
end Go.Proofs.YtkblmdakejmmhaaDoor

/- Sums; the number below the prime; its bytes. -/
namespace Go.Proofs.YtkblmdakejmmhaaDoor
open Go Go.RowKit

def zipc (c : Int) (a b : List Int) : List Int := List.zipWith (fun x y => x + c * y) a b
set_option maxRecDepth 50000 in
theorem zipc_bv (c : Int) : ∀ (a b : List Int), a.length = b.length → bv (zipc c a b) = bv a + c * bv b
  | [], [], _ => by simp [zipc, bv]
  | [], _ :: _, h => by simp at h
  | _ :: _, [], h => by simp at h
  | x :: a, y :: b, h => by
    have h1 := zipc_bv c a b (by simpa using h)
    unfold zipc at *
    simp only [List.zipWith_cons_cons, bv, h1]
    rw [Int.mul_add, Int.mul_add, ← Int.mul_assoc c 256, Int.mul_comm c 256, Int.mul_assoc]
    omega
set_option maxRecDepth 50000 in
theorem zipc_length (c : Int) {a b : List Int} {n : Nat} (ha : a.length = n) (hb : b.length = n) : (zipc c a b).length = n := by simp [zipc, ha, hb]
set_option maxRecDepth 50000 in
theorem zipc_at (c : Int) {a b : List Int} {i : Nat} {x y : Int} (hx : a[i]? = some x) (hy : b[i]? = some y) : (zipc c a b)[i]? = some (x + c * y) := by
  simp [zipc, List.getElem?_zipWith, hx, hy]
set_option maxRecDepth 50000 in
theorem zipc_bd (c : Int) {a b : List Int} {A : Int} (hc : 0 ≤ c) (ha : ∀ x ∈ a, 0 ≤ x ∧ x ≤ A) (hb : ∀ x ∈ b, 0 ≤ x ∧ x ≤ A) : ∀ x ∈ zipc c a b, 0 ≤ x ∧ x ≤ A + c * A := fun x hx => by
  obtain ⟨i, hi⟩ := List.getElem?_of_mem hx
  simp only [zipc, List.getElem?_zipWith] at hi
  cases h1 : a[i]? with
  | none => rw [h1] at hi; cases hi
  | some u =>
    cases h2 : b[i]? with
    | none => rw [h1, h2] at hi; cases hi
    | some v =>
      rw [h1, h2] at hi
      simp only [Option.some.injEq] at hi
      have hu := ha u (List.mem_of_getElem? h1)
      have hv := hb v (List.mem_of_getElem? h2)
      have p0 : 0 ≤ c * v := Int.mul_nonneg hc hv.1
      have p1 : c * v ≤ c * A := Int.mul_le_mul_of_nonneg_left hv.2 hc
      omega
set_option maxRecDepth 4000 in
set_option maxHeartbeats 1000000 in
theorem add_core (xs ys zs r : List Int) (w : World) (HL : Hid (xs.length = 17)) (HL2 : Hid (ys.length = 17)) (HB : Hid (Byt xs)) (HB2 : Hid (Byt ys)) (HZ : Hid (zs.length = 17)) (HV : Hid (∀ (i : Nat) (x y : Int), xs[i]? = some x → ys[i]? = some y → zs[i]? = some (x + y)))
    (HN : Hid (∀ w, Calls Tryd.prog 79 #[.agg (ints .i64 zs).toArray] w fun e w' => e = .returned (.agg (ints .u8 r).toArray) ∧ Below w.heap.size w w')) (HRL : Hid (r.length = 17)) :
    Calls Tryd.prog 71 #[.agg (ints .u8 xs).toArray, .agg (ints .u8 ys).toArray] w fun e w' => e = .returned (.agg (ints .u8 r).toArray) ∧ Below w.heap.size w w' := by
  obtain ⟨z25, s25⟩ := zero_of_info inf25
  obtain ⟨z51, s51⟩ := zero_of_info inf51
  have hX := ((Arr.made w .u8 xs 95).alloc (.cells (ints .u8 ys).toArray 95)).alloc (.cells (ints .u8 (zeros 17)).toArray 95) |>.alloc (.cells (ints .i64 (zeros 17)).toArray 128)
  have hY := (Arr.made (w.alloc (.cells (ints .u8 xs).toArray 95)) .u8 ys 95).alloc (.cells (ints .u8 (zeros 17)).toArray 95) |>.alloc (.cells (ints .i64 (zeros 17)).toArray 128)
  have hR := (Arr.made ((w.alloc (.cells (ints .u8 xs).toArray 95)).alloc (.cells (ints .u8 ys).toArray 95)) .u8 (zeros 17) 95).alloc (.cells (ints .i64 (zeros 17)).toArray 128)
  have hD := Arr.made (((w.alloc (.cells (ints .u8 xs).toArray 95)).alloc (.cells (ints .u8 ys).toArray 95)).alloc (.cells (ints .u8 (zeros 17)).toArray 95)) .i64 (zeros 17) 128
  have hW := (((below_new w (.cells (ints .u8 xs).toArray 95)).alloc (by simp) (.cells (ints .u8 ys).toArray 95)).alloc (by simp; omega) (.cells (ints .u8 (zeros 17)).toArray 95)).alloc (by simp; omega) (.cells (ints .i64 (zeros 17)).toArray 128)
  rw [World.size_alloc] at hY
  rw [World.size_alloc, World.size_alloc] at hR
  rw [World.size_alloc, World.size_alloc, World.size_alloc] at hD
  have HZF := hid (fill_0 (n := 17) HZ.out)
  go_enter Tryd.func71, Tryd.ntmps71
  go_wp2
  generalize ((((w.alloc (.cells (ints .u8 xs).toArray 95)).alloc (.cells (ints .u8 ys).toArray 95)).alloc (.cells (ints .u8 (zeros 17)).toArray 95)).alloc (.cells (ints .i64 (zeros 17)).toArray 128)) = W0 at *
  rw [HZF.out] at hD
  go_loopw [7] (fun i wr => ∃ k : Nat, k ≤ 17 ∧ i = .int .i64 k ∧ Arr wr w.heap.size 0 .u8 xs ∧ Arr wr (w.heap.size + 1) 0 .u8 ys ∧ Arr wr (w.heap.size + 1 + 1) 0 .u8 (zeros 17) ∧ Arr wr (w.heap.size + 1 + 1 + 1) 0 .i64 (fillK zs k) ∧ Below w.heap.size w wr) (fun i _ => 17 - (intOf i).toNat)
  case atStart => exact ⟨0, by omega, rfl, hX, hY, hR, hD, hW⟩
  case round =>
    clear hX hY hR hD hW
    obtain ⟨k, hk, rfl, hX, hY, hR, hD, hW⟩ := hrel
    rename World => W1
    by_cases hlt : k < 17
    · obtain ⟨x, cx, fx, HX⟩ := hX.spot (i := k) (by rw [HL.out]; exact hlt)
      obtain ⟨y, cy0, fy, HY⟩ := hY.spot (i := k) (by rw [HL2.out]; exact hlt)
      obtain ⟨z, cz, fz, _⟩ := hD.spot (i := k) (by rw [fillK_length, HZ.out]; exact hlt)
      rw [Nat.zero_add] at cx cy0 cz fz
      have hxb := HB.out.at_ HX.out
      have hyb := HB2.out.at_ HY.out
      have HVk := hid (HV.out k x y HX.out HY.out)
      have hx64 : IntKind.i64.wrap x = x := IntWalk.i64_in _ (by omega)
      have hy64 : IntKind.i64.wrap y = y := IntWalk.i64_in _ (by omega)
      obtain ⟨v, hv⟩ : ∃ v, v = x + y := ⟨_, rfl⟩
      rw [← hv] at HVk
      have hwv : IntKind.i64.wrap (x + y) = v := by rw [IntWalk.i64_in _ (by omega), hv]
      have k0 : (0 : Int) ≤ k := by omega
      have k17 : (k : Int) < 17 := by omega
      have hwk : IntKind.i64.wrap ((k : Int) + 1) = (k : Int) + 1 := IntWalk.i64_in _ (by omega)
      have hD1 := hD.drew.set k v
      rw [Nat.zero_add, fillK_set _ HVk.out] at hD1
      have HXX := hid (And.intro hxb (And.intro hyb hv))
      clear hxb hyb hv fx fy
      go_wp2
      go_still_tail 11, (by kernel_rfl)
      change wpList _ _ _ _ _ W1.drew
      have hX1 := hX.drew.apart (p := ⟨w.heap.size + 1 + 1 + 1, k, none⟩) (.int .i64 v) (.inl (by show w.heap.size + 1 + 1 + 1 ≠ w.heap.size; omega))
      have hY1 := hY.drew.apart (p := ⟨w.heap.size + 1 + 1 + 1, k, none⟩) (.int .i64 v) (.inl (by show w.heap.size + 1 + 1 + 1 ≠ w.heap.size + 1; omega))
      have hR1 := hR.drew.apart (p := ⟨w.heap.size + 1 + 1 + 1, k, none⟩) (.int .i64 v) (.inl (by show w.heap.size + 1 + 1 + 1 ≠ w.heap.size + 1 + 1; omega))
      have hW1 := hW.drew.setCell (p := ⟨w.heap.size + 1 + 1 + 1, k, none⟩) (by show w.heap.size ≤ w.heap.size + 1 + 1 + 1; omega) (.int .i64 v)
      have cz1 : W1.drew.cell? ⟨w.heap.size + 1 + 1 + 1, k, none⟩ = some (.int .i64 z) := cz
      have fz1 : W1.drew.frozen? ⟨w.heap.size + 1 + 1 + 1, k, none⟩ = false := fz
      clear cx cy0 cz fz hX hY hR hD hW
      generalize W1.drew = W4 at *
      go_wp2
      go_roundw
      case rel => exact ⟨k + 1, by omega, by go_num, hX1, hY1, hR1, hD1, hW1⟩
      case measure => simp [intOf]; omega
    · have e : k = 17 := by omega
      subst e
      rw [fill_id HZ.out] at hD
      go_wp2_with (first
        | (with_reducible refine wpList_load_mid (op := ⟨some 22, .load 128 (.tmp 5), _, _, _, _⟩) rfl 128 (.tmp 5) rfl (w.heap.size + 1 + 1 + 1) 0 rfl (ints .i64 zs) _ (hD.range) Tryd.underlying128 rfl (l51 HZ.out) ?_))
      refine (HN.out _).mono ?_
      rintro e w1 ⟨rfl, hb1⟩
      replace hR := hR.next hb1
      replace hW := hW.trans (Below.mono hb1 hW.size)
      clear hX hY hD hb1
      have hs1 : w1.there (w.heap.size + 1 + 1) 0 (ints .u8 r).toArray.size := hR.room (by rw [zeros_len]; exact HRL.out)
      have hR2 := hR.stored (l' := r) (by rw [zeros_len]; exact HRL.out)
      have hW2 := Below.setCells hW (g := w.heap.size + 1 + 1) (by omega) 0 (ints .u8 r).toArray.toList
      go_wp2_with (first
        | (with_reducible refine wpList_store_mid (op := ⟨none, .store 95 (.tmp 4) (.tmp 23), _, _, _, _⟩) rfl 95 (.tmp 4) (.tmp 23) rfl (w.heap.size + 1 + 1) 0 (ints .u8 r).toArray rfl rfl hs1 (a25 HRL.out) (ints_all _ _) ?_))
      exact ret_rows rfl (w.heap.size + 1 + 1) 0 rfl (ints .u8 r) _ hR2.range Tryd.underlying95 rfl (l25 HRL.out) rfl ⟨rfl, hW2⟩
set_option maxRecDepth 50000 in
theorem bn_add {a b : List Int} (ha : Byt a) (hb : Byt b) (h : a.length = b.length) : bn (zipc 1 a b) = bn a + bn b := by
  unfold bn
  rw [zipc_bv 1 a b h, Int.one_mul, Int.toNat_add (bv_bd a ha).1 (bv_bd b hb).1]
set_option maxRecDepth 50000 in
theorem add_anyZ (xs ys : List Int) (w : World) (hl : xs.length = 17) (hl2 : ys.length = 17) (hb : Byt xs) (hb2 : Byt ys) :
    Calls Tryd.prog 71 #[.agg (ints .u8 xs).toArray, .agg (ints .u8 ys).toArray] w fun e w' => e = .returned (.agg (ints .u8 (pb ((bn xs + bn ys) % PNZ))).toArray) ∧ Below w.heap.size w w' := by
  have hz := zipc_length 1 hl hl2
  have hbd := zipc_bd 1 (a := xs) (b := ys) (A := 255) (by omega) (fun x hx => by have := hb x hx; omega) (fun x hx => by have := hb2 x hx; omega)
  rw [← bn_add hb hb2 (by rw [hl, hl2])]
  exact add_core xs ys (zipc 1 xs ys) _ w (hid hl) (hid hl2) (hid hb) (hid hb2) (hid hz) (hid fun i x y hx hy => by rw [zipc_at 1 hx hy, Int.one_mul]) (hid fun w => number_any _ w hz fun x hx => by have := hbd x hx; omega) (hid (pb_length _))

set_option maxRecDepth 50000 in
theorem built25 : Tryd.prog.built 95 [] = some (ints .u8 (zeros 17)).toArray := by kernel_rfl
end Go.Proofs.YtkblmdakejmmhaaDoor
