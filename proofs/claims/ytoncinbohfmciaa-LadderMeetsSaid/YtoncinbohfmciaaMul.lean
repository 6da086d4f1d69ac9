/- The product of two elements. -/
import Derived.Test.YtoncinbohfmciaaMulMath
import Derived.Test.YtoncinbohfmciaaNeg
namespace Go.Proofs.Ytoncinbohfmciaa
open Go.RowKit

theorem alen55 : Try.prog.arrayLen 56 = 32 := by kernel_rfl
theorem ael55 : Try.prog.underlying 56 = some (.array (Try.prog.arrayLen 56) (Try.prog.elem 56)) := by kernel_rfl
theorem esz55 (W : World) : (sizeOf (Try.prog.elem 56)).run Try.prog W = .ok 1 W := by
  have e : Try.prog.elem 56 = 2 := by kernel_rfl
  have h : (Try.prog.info? 2).map (·.size) = some 1 := by kernel_rfl
  rw [e]
  cases hq : Try.prog.info? 2 with
  | none => simp [hq] at h
  | some j =>
    have hj : j.size = 1 := by simpa [hq] using h
    simp [sizeOf, typeInfo, hq, hj]
theorem slice55 (b k : Nat) (hk : k < 16) (W : World) : (Instr.sliceAt 56 (.pointer (some ⟨b, 0, none⟩)) (some (.int .i64 (k : Int))) (some (.int .i64 ((k : Int) + 16))) none).run Try.prog W = .ok (.slice (some ⟨b, k, none⟩) 16 (32 - k)) W := by
  rw [run_sliceAt_array_lh W 56 ⟨b, 0, none⟩ ael55 .i64 .i64 (k : Int) ((k : Int) + 16) (by omega) (by omega) (by rw [alen55]; omega), esz55, alen55]
  have e1 : ((k : Int) + 16).toNat = k + 16 := by omega
  have e2 : ¬ (32 = k) := by omega
  have e3 : k + 16 - k = 16 := by omega
  have e4 : (⟨b, 0, none⟩ : Addr).add k = ⟨b, k, none⟩ := by have h := Addr.add_mid b 0 k; rw [Nat.zero_add] at h; exact h
  simp [Result.andThen, slicedAt, e1, e2, e3, e4]
set_option maxRecDepth 4000 in
set_option maxHeartbeats 2000000 in
theorem mul_walk (xs ys m : List Int) (w : World) (HM : Hid (mulL xs ys = m)) (hl : xs.length = 16) (hl2 : ys.length = 16) (hb : Bd 70000 xs) (hb2 : Bd 70000 ys) :
    Calls Try.prog 26 #[.agg (ints .i64 xs).toArray, .agg (ints .i64 ys).toArray] w fun e w' => e = .returned (.agg (ints .i64 m).toArray) ∧ Below w.heap.size w w' := by
  obtain ⟨z26, s26⟩ := zero_of_info inf26
  obtain ⟨z55, s55⟩ := zero_of_info inf55
  have HL := hid hl
  have HL2 := hid hl2
  have HB := hid hb
  have HB2 := hid hb2
  have HCB : Hid (∀ i : Nat, i ≤ 16 → Bd (4900000000 * i) (colA xs ys i)) := hid fun i hi => colA_bd xs ys hb hb2 hl hl2 i hi
  clear hl hb hl2 hb2
  have hN := (((Arr.made w .i64 xs 41).alloc (.cells (ints .i64 ys).toArray 41)).alloc (.cells (ints .i64 (zeros 16)).toArray 41)).alloc (.cells (ints .i64 (zeros 32)).toArray 56)
  have hY := ((Arr.made (w.alloc (.cells (ints .i64 xs).toArray 41)) .i64 ys 41).alloc (.cells (ints .i64 (zeros 16)).toArray 41)).alloc (.cells (ints .i64 (zeros 32)).toArray 56)
  have hR := (Arr.made ((w.alloc (.cells (ints .i64 xs).toArray 41)).alloc (.cells (ints .i64 ys).toArray 41)) .i64 (zeros 16) 41).alloc (.cells (ints .i64 (zeros 32)).toArray 56)
  have hD := Arr.made (((w.alloc (.cells (ints .i64 xs).toArray 41)).alloc (.cells (ints .i64 ys).toArray 41)).alloc (.cells (ints .i64 (zeros 16)).toArray 41)) .i64 (zeros 32) 56
  have hW := (((below_new w (.cells (ints .i64 xs).toArray 41)).alloc (by simp) (.cells (ints .i64 ys).toArray 41)).alloc (by simp; omega) (.cells (ints .i64 (zeros 16)).toArray 41)).alloc (by simp; omega) (.cells (ints .i64 (zeros 32)).toArray 56)
  rw [World.size_alloc] at hY
  rw [World.size_alloc, World.size_alloc] at hR
  rw [World.size_alloc, World.size_alloc, World.size_alloc] at hD
  go_enter Try.func26, Try.ntmps26
  go_wp2_with (first
    | (with_reducible refine wpList_load_mid (op := ⟨some 13, .load 39 (.tmp 12), _, _, _, _⟩) rfl 39 (.tmp 12) rfl w.heap.size 0 rfl (ints .i64 xs) _ (hN.range) Try.underlying39 rfl (l24 HL.out) ?_))
  generalize ((((w.alloc (.cells (ints .i64 xs).toArray 41)).alloc (.cells (ints .i64 ys).toArray 41)).alloc (.cells (ints .i64 (zeros 16)).toArray 41)).alloc (.cells (ints .i64 (zeros 32)).toArray 56)) = W0 at *
  have hD0 : Arr W0 (w.heap.size + 1 + 1 + 1) 0 .i64 (colA xs ys 0) := hD
  clear hD hN
  go_loopw [14] (fun i wr => ∃ k : Nat, k ≤ 16 ∧ i = .int .i64 k ∧ Arr wr (w.heap.size + 1) 0 .i64 ys ∧ Arr wr (w.heap.size + 1 + 1) 0 .i64 (zeros 16) ∧ Arr wr (w.heap.size + 1 + 1 + 1) 0 .i64 (colA xs ys k) ∧ Below w.heap.size w wr) (fun i _ => 16 - (intOf i).toNat)
  case atStart => exact ⟨0, by omega, rfl, hY, hR, hD0, hW⟩
  case round =>
    clear hY hR hD0 hW
    obtain ⟨k, hk, rfl, hY, hR, hD, hW⟩ := hrel
    rename World => W1
    by_cases hlt : k < 16
    · have HX : Hid (xs[k]? = some (xs.getD k 0)) := hid (getD_some (by rw [HL.out]; exact hlt))
      have HXB := hid (HB.out.at_ HX.out)
      have hix := fun w => index24 HX.out hlt w
      have HCN : Hid (colA xs ys (k + 1) = rowA (xs.getD k 0) ys k (colA xs ys k) 16) := hid rfl
      have HZB := hid (HCB.out k hk)
      have HZL := hid (colA_length xs ys k)
      generalize colA xs ys k = z at *
      generalize xs.getD k 0 = x at *
      have hD0 : Arr W1 (w.heap.size + 1 + 1 + 1) 0 .i64 (rowA x ys k z 0) := hD
      clear hD
      have k0 : (0 : Int) ≤ k := by omega
      have k16 : (k : Int) < 16 := by omega
      have hwk : IntKind.i64.wrap ((k : Int) + 16) = (k : Int) + 16 := IntWalk.i64_in _ (by omega)
      have hsl := fun W => slice55 (w.heap.size + 1 + 1 + 1) k hlt W
      go_wp2
      go_loopw [24] (fun j wr => ∃ m : Nat, m ≤ 16 ∧ j = .int .i64 m ∧ Arr wr (w.heap.size + 1) 0 .i64 ys ∧ Arr wr (w.heap.size + 1 + 1) 0 .i64 (zeros 16) ∧ Arr wr (w.heap.size + 1 + 1 + 1) 0 .i64 (rowA x ys k z m) ∧ Below w.heap.size w wr) (fun j _ => 16 - (intOf j).toNat)
      case atStart => exact ⟨0, by omega, rfl, hY, hR, hD0, hW⟩
      case round =>
        clear hY hR hD0 hW
        obtain ⟨m, hm, rfl, hY, hR, hD, hW⟩ := hrel
        rename World => W2
        by_cases hlt2 : m < 16
        · have HY : Hid (ys[m]? = some (ys.getD m 0)) := hid (getD_some (by rw [HL2.out]; exact hlt2))
          have HYB := hid (HB2.out.at_ HY.out)
          have HZ0 : Hid (z[k + m]? = some (z.getD (k + m) 0)) := hid (getD_some (by rw [HZL.out]; omega))
          have HZV := hid (HZB.out.at_ HZ0.out)
          have HRZ : Hid ((rowA x ys k z m)[k + m]? = some (z.getD (k + m) 0)) := hid (by rw [rowA_past _ _ _ _ _ _ (Nat.le_refl _)]; exact HZ0.out)
          have HRG : Hid ((rowA x ys k z m).getD (k + m) 0 = z.getD (k + m) 0) := hid (by simp only [List.getD, rowA_past _ _ _ _ _ _ (Nat.le_refl _)])
          have HRN : Hid (rowA x ys k z (m + 1) = (rowA x ys k z m).set (k + m) ((rowA x ys k z m).getD (k + m) 0 + x * ys.getD m 0)) := hid rfl
          rw [HRG.out] at HRN
          have HMB := hid (mul_bd HXB.out HYB.out)
          have cy0 := hY.at_ HY.out
          have cz := hD.at_ HRZ.out
          have fz := hD.free (i := k + m) (List.getElem?_eq_some_iff.1 HRZ.out).1
          rw [Nat.zero_add] at cy0 cz fz
          generalize z.getD (k + m) 0 = zz at *
          generalize ys.getD m 0 = y at *
          obtain ⟨p, hp⟩ : ∃ p, p = x * y := ⟨_, rfl⟩
          rw [← hp] at HRN HMB
          have hwp : IntKind.i64.wrap (x * y) = p := by rw [← hp]; exact IntWalk.i64_in _ (by have := HMB.out; omega)
          obtain ⟨v, hv⟩ : ∃ v, v = zz + p := ⟨_, rfl⟩
          rw [← hv] at HRN
          have hwv : IntKind.i64.wrap (zz + p) = v := by rw [← hv]; exact IntWalk.i64_in _ (by have := HMB.out; have := HZV.out; omega)
          have HPV := hid (And.intro hp hv)
          clear hp hv
          have hD1 := hD.drew.set (k + m) v
          rw [Nat.zero_add, ← HRN.out] at hD1
          have m0 : (0 : Int) ≤ m := by omega
          have m16 : (m : Int) < 16 := by omega
          have hwm : IntKind.i64.wrap ((m : Int) + 1) = (m : Int) + 1 := IntWalk.i64_in _ (by omega)
          go_wp2
          go_still_tail 12, (by kernel_rfl)
          change wpList _ _ _ _ _ W2.drew
          have hY1 : Arr (W2.drew.setCell ⟨w.heap.size + 1 + 1 + 1, k + m, none⟩ (.int .i64 v)) (w.heap.size + 1) 0 .i64 ys := hY.drew.apart _ (.inl (by show w.heap.size + 1 + 1 + 1 ≠ w.heap.size + 1; omega))
          have hR1 : Arr (W2.drew.setCell ⟨w.heap.size + 1 + 1 + 1, k + m, none⟩ (.int .i64 v)) (w.heap.size + 1 + 1) 0 .i64 (zeros 16) := hR.drew.apart _ (.inl (by show w.heap.size + 1 + 1 + 1 ≠ w.heap.size + 1 + 1; omega))
          have hW1 : Below w.heap.size w (W2.drew.setCell ⟨w.heap.size + 1 + 1 + 1, k + m, none⟩ (.int .i64 v)) := hW.drew.setCell (by show w.heap.size ≤ w.heap.size + 1 + 1 + 1; omega) _
          have cz1 : W2.drew.cell? ⟨w.heap.size + 1 + 1 + 1, k + m, none⟩ = some (.int .i64 zz) := cz
          have fz1 : W2.drew.frozen? ⟨w.heap.size + 1 + 1 + 1, k + m, none⟩ = false := fz
          clear cz fz cy0 hY hR hD hW
          generalize W2.drew = W4 at *
          go_wp2
          go_roundw
          case rel => exact ⟨m + 1, by omega, by go_num, hY1, hR1, hD1, hW1⟩
          case measure => simp [intOf]; omega
        · have e : m = 16 := by omega
          subst e
          rw [← HCN.out] at hD
          go_wp2
          go_roundw
          case rel => exact ⟨k + 1, by omega, by go_num, hY, hR, hD, hW⟩
          case measure => simp [intOf]; omega
    · have e : k = 16 := by omega
      rw [e] at hD
      have hk16 : ¬ (k : Int) < 16 := by omega
      clear e
      have HZL := hid (colA_length xs ys 16)
      have HZB : Hid (Bd 80000000000 (colA xs ys 16)) := hid fun v hv => by have := HCB.out 16 (by omega) v hv; omega
      have HML : Hid (mulL xs ys = cy (cy (foldL (colA xs ys 16)))) := hid rfl
      generalize colA xs ys 16 = z at *
      have HFL := hid (foldL_length z)
      have HFB : Hid (Bd 1152921504606846976 (foldL z)) := hid fun v hv => by have := foldL_bd z HZB.out HZL.out v hv; omega
      have HFA : Hid (∀ (i : Nat) (x y : Int), i < 16 → z[i]? = some x → z[i + 16]? = some y → (foldL z)[i]? = some (x + 38 * y)) := hid fun i x y h hx hy => foldL_at h hx hy
      generalize foldL z = fs at *
      have HC1 := hid (cy_small fs HFL.out HFB.out)
      have HC1L : Hid ((cy fs).length = 16) := hid (by rw [cy_length]; exact HFL.out)
      have HC1B : Hid (Bd 1152921504606846976 (cy fs)) := hid fun v hv => by have := HC1.out v hv; omega
      generalize hcf : cy fs = cf at *
      have HCF := hid hcf
      clear hcf
      have HM2 : Hid (cy cf = m) := hid (by rw [← HML.out]; exact HM.out)
      have HMLen : Hid (m.length = 16) := hid (by rw [← HM2.out, cy_length]; exact HC1L.out)
      have hsz : w.heap.size + 1 + 1 + 1 < W1.heap.size := hD.lt (by rw [HZL.out]; omega)
      obtain ⟨B, hB⟩ : ∃ B, B = W1.heap.size := ⟨_, rfl⟩
      have hP := Arr.made W1 .i64 (zeros 16) 41
      have hR1 := hR.alloc (.cells (ints .i64 (zeros 16)).toArray 41)
      have hD1 := hD.alloc (.cells (ints .i64 (zeros 16)).toArray 41)
      have hW1 := hW.alloc hW.size (.cells (ints .i64 (zeros 16)).toArray 41)
      have HF0 : Hid (zeros 16 = fillK fs 0) := hid (by rw [fillK_zero, HFL.out]; rfl)
      go_wp2
      rw [← hB] at hP hsz ⊢
      have HBW := hid hB
      clear hY hR hD hW hB
      generalize W1.alloc (.cells (ints .i64 (zeros 16)).toArray 41) = W2 at *
      rw [HF0.out] at hP
      go_loopw [41] (fun j wr => ∃ m : Nat, m ≤ 16 ∧ j = .int .i64 m ∧ Arr wr (w.heap.size + 1 + 1) 0 .i64 (zeros 16) ∧ Arr wr (w.heap.size + 1 + 1 + 1) 0 .i64 z ∧ Arr wr B 0 .i64 (fillK fs m) ∧ Below w.heap.size w wr) (fun j _ => 16 - (intOf j).toNat)
      case atStart => exact ⟨0, by omega, rfl, hR1, hD1, hP, hW1⟩
      case round =>
        clear hP hR1 hD1 hW1
        obtain ⟨j, hj, rfl, hR, hD, hP, hW⟩ := hrel
        rename World => W3
        by_cases hlt2 : j < 16
        · have HX : Hid (z[j]? = some (z.getD j 0)) := hid (getD_some (by rw [HZL.out]; omega))
          have HY : Hid (z[j + 16]? = some (z.getD (j + 16) 0)) := hid (getD_some (by rw [HZL.out]; omega))
          have HXB := hid (HZB.out.at_ HX.out)
          have HYB := hid (HZB.out.at_ HY.out)
          have HFj := hid (HFA.out j _ _ hlt2 HX.out HY.out)
          have cx := hD.at_ HX.out
          have cy0 := hD.at_ HY.out
          obtain ⟨u, cz, fz, _⟩ := hP.spot (i := j) (by rw [fillK_length, HFL.out]; exact hlt2)
          rw [Nat.zero_add] at cx cy0 cz fz
          generalize z.getD (j + 16) 0 = y at *
          generalize z.getD j 0 = x at *
          obtain ⟨q, hq⟩ : ∃ q, q = j + 16 := ⟨_, rfl⟩
          rw [← hq] at cy0
          have hwq : IntKind.i64.wrap ((j : Int) + 16) = (q : Int) := by rw [IntWalk.i64_in _ (by omega)]; omega
          have q0 : (0 : Int) ≤ q := by omega
          have q32 : (q : Int) < 32 := by omega
          have HQ := hid hq
          clear hq
          obtain ⟨v, hv⟩ : ∃ v, v = x + 38 * y := ⟨_, rfl⟩
          rw [← hv] at HFj
          have hw1 : IntKind.i64.wrap (38 * y) = 38 * y := IntWalk.i64_in _ (by have := HYB.out; omega)
          have hw2 : IntKind.i64.wrap (x + 38 * y) = v := by rw [IntWalk.i64_in _ (by have := HXB.out; have := HYB.out; omega), hv]
          have HV := hid hv
          clear hv
          have j0 : (0 : Int) ≤ j := by omega
          have j16 : (j : Int) < 16 := by omega
          have j32 : (j : Int) < 32 := by omega
          have hwj : IntKind.i64.wrap ((j : Int) + 1) = (j : Int) + 1 := IntWalk.i64_in _ (by omega)
          have hP1 := hP.drew.set j v
          rw [Nat.zero_add, fillK_set _ HFj.out] at hP1
          go_wp2
          go_still_tail 12, (by kernel_rfl)
          change wpList _ _ _ _ _ W3.drew
          have hR1 : Arr (W3.drew.setCell ⟨B, j, none⟩ (.int .i64 v)) (w.heap.size + 1 + 1) 0 .i64 (zeros 16) := hR.drew.apart _ (.inl (by show B ≠ w.heap.size + 1 + 1; omega))
          have hD1 : Arr (W3.drew.setCell ⟨B, j, none⟩ (.int .i64 v)) (w.heap.size + 1 + 1 + 1) 0 .i64 z := hD.drew.apart _ (.inl (by show B ≠ w.heap.size + 1 + 1 + 1; omega))
          have hW1 : Below w.heap.size w (W3.drew.setCell ⟨B, j, none⟩ (.int .i64 v)) := hW.drew.setCell (by show w.heap.size ≤ B; omega) _
          have cz1 : W3.drew.cell? ⟨B, j, none⟩ = some (.int .i64 u) := cz
          have fz1 : W3.drew.frozen? ⟨B, j, none⟩ = false := fz
          clear cz fz cx cy0 hR hD hP hW
          generalize W3.drew = W4 at *
          go_wp2
          go_roundw
          case rel => exact ⟨j + 1, by omega, by go_num, hR1, hD1, hP1, hW1⟩
          case measure => simp [intOf]; omega
        · have e : j = 16 := by omega
          subst e
          have HE : Hid (fillK fs 16 = fs) := hid (by have h := fillK_end fs; rw [HFL.out] at h; exact h)
          rw [HE.out] at hP
          go_wp2_with (fail)
          refine (carry_any _ _ _ HFL.out HFB.out hP).mono ?_
          rintro e w1 ⟨rfl, hP2, hO2⟩
          rw [HCF.out] at hP2
          have hR2 := hR.only hO2 (by omega)
          have hW2 := hW.trans (hO2.below (B := w.heap.size) (by omega) hW.size)
          clear hR hD hP hW hO2
          go_wp2_with (fail)
          refine (carry_any _ _ _ HC1L.out HC1B.out hP2).mono ?_
          rintro e w2 ⟨rfl, hP3, hO3⟩
          rw [HM2.out] at hP3
          have hR3 := hR2.only hO3 (by omega)
          have hW3 := hW2.trans (hO3.below (B := w.heap.size) (by omega) hW2.size)
          have hs1 : w2.there (w.heap.size + 1 + 1) 0 (ints .i64 m).toArray.size := hR3.room (by rw [zeros_len]; exact HMLen.out)
          have hR4 := hR3.stored (l' := m) (by rw [zeros_len]; exact HMLen.out)
          have hW4 := Below.setCells hW3 (g := w.heap.size + 1 + 1) (by omega) 0 (ints .i64 m).toArray.toList
          clear hR2 hP2 hW2 hO3
          go_wp2_with (first
            | (with_reducible refine wpList_load_mid (op := ⟨some 61, .load 41 (.tmp 10), _, _, _, _⟩) rfl 41 (.tmp 10) rfl B 0 rfl (ints .i64 m) _ (hP3.range) Try.underlying41 rfl (l26 HMLen.out) ?_)
            | (with_reducible refine wpList_store_mid (op := ⟨none, .store 41 (.tmp 4) (.tmp 61), _, _, _, _⟩) rfl 41 (.tmp 4) (.tmp 61) rfl (w.heap.size + 1 + 1) 0 (ints .i64 m).toArray rfl rfl hs1 (a26 HMLen.out) (ints_all _ _) ?_))
          exact ret_rows rfl (w.heap.size + 1 + 1) 0 rfl (ints .i64 m) _ hR4.range Try.underlying41 rfl (l26 HMLen.out) rfl ⟨rfl, hW4⟩
theorem mul_any (xs ys : List Int) (w : World) (hl : xs.length = 16) (hl2 : ys.length = 16) (hb : Bd 70000 xs) (hb2 : Bd 70000 ys) :
    Calls Try.prog 26 #[.agg (ints .i64 xs).toArray, .agg (ints .i64 ys).toArray] w fun e w' => e = .returned (.agg (ints .i64 (mulL xs ys)).toArray) ∧ Below w.heap.size w w' := mul_walk xs ys _ w (hid rfl) hl hl2 hb hb2
end Go.Proofs.Ytoncinbohfmciaa
