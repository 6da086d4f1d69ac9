/- Whether two elements are equal; sums and differences. -/
import Derived.Test.YtoncinbohfmciaaByts
namespace Go.Proofs.Ytoncinbohfmciaa
open Go.RowKit

def plus (xs ys : List Int) : List Int := (List.range 16).map fun i => xs.getD i 0 + ys.getD i 0
def minus (xs ys : List Int) : List Int := (List.range 16).map fun i => xs.getD i 0 - ys.getD i 0
/-- The first k places of one row, the others of another one. -/
def mixK (S xs : List Int) (k : Nat) : List Int := S.take k ++ xs.drop k
theorem mixK_set {S xs : List Int} {k : Nat} {x : Int} (hl : S.length = xs.length) (h : S[k]? = some x) : (mixK S xs k).set k x = mixK S xs (k + 1) := by
  have hk := (List.getElem?_eq_some_iff.1 h).1
  apply List.ext_getElem?
  intro i
  unfold mixK
  rw [List.getElem?_set]
  have l1 : (S.take k ++ xs.drop k).length = xs.length := by simp; omega
  by_cases e : k = i
  · subst e
    rw [if_pos rfl, if_pos (by rw [l1]; omega), List.getElem?_append_left (by simp; omega), List.getElem?_take, if_pos (by omega), h]
  · rw [if_neg e]
    by_cases h1 : i < k
    · rw [List.getElem?_append_left (by simp; omega), List.getElem?_append_left (by simp; omega), List.getElem?_take, List.getElem?_take, if_pos h1, if_pos (by omega)]
    · rw [List.getElem?_append_right (by simp; omega), List.getElem?_append_right (by simp; omega), List.getElem?_drop, List.getElem?_drop]
      congr 1; simp; omega
theorem mixK_at {S xs : List Int} {k : Nat} (hl : S.length = xs.length) (h : k < xs.length) : (mixK S xs k)[k]? = xs[k]? := by
  unfold mixK
  rw [List.getElem?_append_right (by simp; omega), List.getElem?_drop]
  congr 1; simp; omega
theorem mixK_zero (S xs : List Int) : mixK S xs 0 = xs := by simp [mixK]
theorem mixK_end (S xs : List Int) (hl : S.length = xs.length) : mixK S xs xs.length = S := by simp [mixK, ← hl]
theorem mixK_length (S xs : List Int) (k : Nat) (hl : S.length = xs.length) : (mixK S xs k).length = xs.length := by simp [mixK]; omega
theorem plus_length (xs ys : List Int) : (plus xs ys).length = 16 := by simp [plus]
theorem minus_length (xs ys : List Int) : (minus xs ys).length = 16 := by simp [minus]
theorem plus_at {xs ys : List Int} {i : Nat} {x y : Int} (h : i < 16) (hx : xs[i]? = some x) (hy : ys[i]? = some y) : (plus xs ys)[i]? = some (x + y) := by simp [plus, h, List.getD, hx, hy]
theorem minus_at {xs ys : List Int} {i : Nat} {x y : Int} (h : i < 16) (hx : xs[i]? = some x) (hy : ys[i]? = some y) : (minus xs ys)[i]? = some (x - y) := by simp [minus, h, List.getD, hx, hy]

set_option maxRecDepth 4000 in
set_option maxHeartbeats 1000000 in
theorem add_any (xs ys : List Int) (w : World) (hl : xs.length = 16) (hl2 : ys.length = 16) (hb : Bd 100000000000000000 xs) (hb2 : Bd 100000000000000000 ys) :
    Calls Try.prog 33 #[.agg (ints .i64 xs).toArray, .agg (ints .i64 ys).toArray] w fun e w' => e = .returned (.agg (ints .i64 (cy (plus xs ys))).toArray) ∧ Below w.heap.size w w' := by
  obtain ⟨z26, s26⟩ := zero_of_info inf26
  have HL := hid hl
  have HL2 := hid hl2
  have HB := hid hb
  have HB2 := hid hb2
  have HPL : Hid ((plus xs ys).length = xs.length) := hid (by rw [plus_length]; exact hl.symm)
  clear hl hb hl2 hb2
  have hD := ((Arr.made w .i64 xs 41).alloc (.cells (ints .i64 ys).toArray 41)).alloc (.cells (ints .i64 (zeros 16)).toArray 41)
  have hN := (Arr.made (w.alloc (.cells (ints .i64 xs).toArray 41)) .i64 ys 41).alloc (.cells (ints .i64 (zeros 16)).toArray 41)
  have hR := Arr.made ((w.alloc (.cells (ints .i64 xs).toArray 41)).alloc (.cells (ints .i64 ys).toArray 41)) .i64 (zeros 16) 41
  have hW := ((below_new w (.cells (ints .i64 xs).toArray 41)).alloc (by simp) (.cells (ints .i64 ys).toArray 41)).alloc (by simp; omega) (.cells (ints .i64 (zeros 16)).toArray 41)
  rw [World.size_alloc] at hN
  rw [World.size_alloc, World.size_alloc] at hR
  have HZ : Hid (xs = mixK (plus xs ys) xs 0) := hid (mixK_zero _ _).symm
  go_enter Try.func33, Try.ntmps33
  go_wp2_with (first
    | (with_reducible refine wpList_load_mid (op := ⟨some 8, .load 39 (.tmp 7), _, _, _, _⟩) rfl 39 (.tmp 7) rfl (w.heap.size + 1) 0 rfl (ints .i64 ys) _ (hN.range) Try.underlying39 rfl (l24 HL2.out) ?_))
  generalize (((w.alloc (.cells (ints .i64 xs).toArray 41)).alloc (.cells (ints .i64 ys).toArray 41)).alloc (.cells (ints .i64 (zeros 16)).toArray 41)) = W0 at *
  go_loopw [9] (fun i wr => ∃ k : Nat, k ≤ 16 ∧ i = .int .i64 k ∧ Arr wr (w.heap.size + 1 + 1) 0 .i64 (zeros 16) ∧ Arr wr w.heap.size 0 .i64 (mixK (plus xs ys) xs k) ∧ Below w.heap.size w wr) (fun i _ => 16 - (intOf i).toNat)
  case atStart => exact ⟨0, by omega, rfl, hR, by rw [← HZ.out]; exact hD, hW⟩
  case round =>
    clear hN hR hD hW
    obtain ⟨k, hk, rfl, hR, hD, hW⟩ := hrel
    rename World => W1
    by_cases hlt : k < 16
    · have HY : Hid (ys[k]? = some (ys.getD k 0)) := hid (getD_some (by rw [HL2.out]; exact hlt))
      have HX : Hid (xs[k]? = some (xs.getD k 0)) := hid (getD_some (by rw [HL.out]; exact hlt))
      generalize ys.getD k 0 = y at *
      generalize xs.getD k 0 = x at *
      have hx := HB.out.at_ HX.out
      have hy := HB2.out.at_ HY.out
      have hix := fun w => index24 HY.out hlt w
      have HM : Hid ((mixK (plus xs ys) xs k)[k]? = some x) := hid (by rw [mixK_at HPL.out (by rw [HL.out]; exact hlt)]; exact HX.out)
      have cz := hD.at_ HM.out
      have fz := hD.free (i := k) (List.getElem?_eq_some_iff.1 HM.out).1
      rw [Nat.zero_add] at cz fz
      obtain ⟨v, hv⟩ : ∃ v, v = x + y := ⟨_, rfl⟩
      have hwv : IntKind.i64.wrap (x + y) = v := by rw [IntWalk.i64_in _ (by omega), hv]
      have HV := hid hv
      clear hv
      have hD1 := hD.set k v
      rw [Nat.zero_add, mixK_set HPL.out (by rw [plus_at hlt HX.out HY.out, HV.out])] at hD1
      have hwk : IntKind.i64.wrap ((k : Int) + 1) = (k : Int) + 1 := IntWalk.i64_in _ (by omega)
      have k0 : (0 : Int) ≤ k := by omega
      have k16 : (k : Int) < 16 := by omega
      go_wp2
      go_roundw
      case rel => exact ⟨k + 1, by omega, by go_num, hR.apart _ (.inl (by show w.heap.size ≠ w.heap.size + 1 + 1; omega)), hD1, hW.setCell (by show w.heap.size ≤ w.heap.size; omega) _⟩
      case measure => simp [intOf]; omega
    · have e : k = 16 := by omega
      subst e
      have HE : Hid (mixK (plus xs ys) xs 16 = plus xs ys) := hid (by have h := mixK_end (plus xs ys) xs HPL.out; rw [HL.out] at h; exact h)
      rw [HE.out] at hD
      have HPB : Hid (Bd 1152921504606846976 (plus xs ys)) := hid fun v hv => by
        obtain ⟨i, hi⟩ := List.getElem?_of_mem hv
        have h16 := (List.getElem?_eq_some_iff.1 hi).1
        rw [plus_length] at h16
        have hx := getD_some (l := xs) (i := i) (by rw [HL.out]; exact h16)
        have hy := getD_some (l := ys) (i := i) (by rw [HL2.out]; exact h16)
        rw [plus_at h16 hx hy] at hi
        injection hi with hi
        have h1 := HB.out.at_ hx
        have h2 := HB2.out.at_ hy
        omega
      have HCL : Hid ((cy (plus xs ys)).length = 16) := hid (by rw [cy_length, plus_length])
      go_wp2_with (fail)
      refine (carry_any _ _ _ (plus_length _ _) HPB.out hD).mono ?_
      rintro e w1 ⟨rfl, hA2, hO2⟩
      have hR1 := hR.only hO2 (by omega)
      have hW1 := hW.trans (hO2.below (B := w.heap.size) (by omega) hW.size)
      have hs1 : w1.there (w.heap.size + 1 + 1) 0 (ints .i64 (cy (plus xs ys))).toArray.size := hR1.room (by rw [zeros_len]; exact HCL.out)
      have hR2 := hR1.stored (l' := cy (plus xs ys)) (by rw [zeros_len]; exact HCL.out)
      have hW2 := Below.setCells hW1 (g := w.heap.size + 1 + 1) (by omega) 0 (ints .i64 (cy (plus xs ys))).toArray.toList
      clear hD hR hW hO2
      go_wp2_with (first
        | (with_reducible refine wpList_load_mid (op := ⟨some 24, .load 41 (.tmp 2), _, _, _, _⟩) rfl 41 (.tmp 2) rfl w.heap.size 0 rfl (ints .i64 (cy (plus xs ys))) _ (hA2.range) Try.underlying41 rfl (l26 HCL.out) ?_)
        | (with_reducible refine wpList_store_mid (op := ⟨none, .store 41 (.tmp 4) (.tmp 24), _, _, _, _⟩) rfl 41 (.tmp 4) (.tmp 24) rfl (w.heap.size + 1 + 1) 0 (ints .i64 (cy (plus xs ys))).toArray rfl rfl hs1 (a26 HCL.out) (ints_all _ _) ?_))
      exact ret_rows rfl (w.heap.size + 1 + 1) 0 rfl (ints .i64 (cy (plus xs ys))) _ hR2.range Try.underlying41 rfl (l26 HCL.out) rfl ⟨rfl, hW2⟩
set_option maxRecDepth 4000 in
set_option maxHeartbeats 1000000 in
theorem sub_any (xs ys : List Int) (w : World) (hl : xs.length = 16) (hl2 : ys.length = 16) (hb : Bd 100000000000000000 xs) (hb2 : Bd 100000000000000000 ys) :
    Calls Try.prog 34 #[.agg (ints .i64 xs).toArray, .agg (ints .i64 ys).toArray] w fun e w' => e = .returned (.agg (ints .i64 (cy (minus xs ys))).toArray) ∧ Below w.heap.size w w' := by
  obtain ⟨z26, s26⟩ := zero_of_info inf26
  have HL := hid hl
  have HL2 := hid hl2
  have HB := hid hb
  have HB2 := hid hb2
  have HPL : Hid ((minus xs ys).length = xs.length) := hid (by rw [minus_length]; exact hl.symm)
  clear hl hb hl2 hb2
  have hD := ((Arr.made w .i64 xs 41).alloc (.cells (ints .i64 ys).toArray 41)).alloc (.cells (ints .i64 (zeros 16)).toArray 41)
  have hN := (Arr.made (w.alloc (.cells (ints .i64 xs).toArray 41)) .i64 ys 41).alloc (.cells (ints .i64 (zeros 16)).toArray 41)
  have hR := Arr.made ((w.alloc (.cells (ints .i64 xs).toArray 41)).alloc (.cells (ints .i64 ys).toArray 41)) .i64 (zeros 16) 41
  have hW := ((below_new w (.cells (ints .i64 xs).toArray 41)).alloc (by simp) (.cells (ints .i64 ys).toArray 41)).alloc (by simp; omega) (.cells (ints .i64 (zeros 16)).toArray 41)
  rw [World.size_alloc] at hN
  rw [World.size_alloc, World.size_alloc] at hR
  have HZ : Hid (xs = mixK (minus xs ys) xs 0) := hid (mixK_zero _ _).symm
  go_enter Try.func34, Try.ntmps34
  go_wp2_with (first
    | (with_reducible refine wpList_load_mid (op := ⟨some 8, .load 39 (.tmp 7), _, _, _, _⟩) rfl 39 (.tmp 7) rfl (w.heap.size + 1) 0 rfl (ints .i64 ys) _ (hN.range) Try.underlying39 rfl (l24 HL2.out) ?_))
  generalize (((w.alloc (.cells (ints .i64 xs).toArray 41)).alloc (.cells (ints .i64 ys).toArray 41)).alloc (.cells (ints .i64 (zeros 16)).toArray 41)) = W0 at *
  go_loopw [9] (fun i wr => ∃ k : Nat, k ≤ 16 ∧ i = .int .i64 k ∧ Arr wr (w.heap.size + 1 + 1) 0 .i64 (zeros 16) ∧ Arr wr w.heap.size 0 .i64 (mixK (minus xs ys) xs k) ∧ Below w.heap.size w wr) (fun i _ => 16 - (intOf i).toNat)
  case atStart => exact ⟨0, by omega, rfl, hR, by rw [← HZ.out]; exact hD, hW⟩
  case round =>
    clear hN hR hD hW
    obtain ⟨k, hk, rfl, hR, hD, hW⟩ := hrel
    rename World => W1
    by_cases hlt : k < 16
    · have HY : Hid (ys[k]? = some (ys.getD k 0)) := hid (getD_some (by rw [HL2.out]; exact hlt))
      have HX : Hid (xs[k]? = some (xs.getD k 0)) := hid (getD_some (by rw [HL.out]; exact hlt))
      generalize ys.getD k 0 = y at *
      generalize xs.getD k 0 = x at *
      have hx := HB.out.at_ HX.out
      have hy := HB2.out.at_ HY.out
      have hix := fun w => index24 HY.out hlt w
      have HM : Hid ((mixK (minus xs ys) xs k)[k]? = some x) := hid (by rw [mixK_at HPL.out (by rw [HL.out]; exact hlt)]; exact HX.out)
      have cz := hD.at_ HM.out
      have fz := hD.free (i := k) (List.getElem?_eq_some_iff.1 HM.out).1
      rw [Nat.zero_add] at cz fz
      obtain ⟨v, hv⟩ : ∃ v, v = x - y := ⟨_, rfl⟩
      have hwv : IntKind.i64.wrap (x - y) = v := by rw [IntWalk.i64_in _ (by omega), hv]
      have HV := hid hv
      clear hv
      have hD1 := hD.set k v
      rw [Nat.zero_add, mixK_set HPL.out (by rw [minus_at hlt HX.out HY.out, HV.out])] at hD1
      have hwk : IntKind.i64.wrap ((k : Int) + 1) = (k : Int) + 1 := IntWalk.i64_in _ (by omega)
      have k0 : (0 : Int) ≤ k := by omega
      have k16 : (k : Int) < 16 := by omega
      go_wp2
      go_roundw
      case rel => exact ⟨k + 1, by omega, by go_num, hR.apart _ (.inl (by show w.heap.size ≠ w.heap.size + 1 + 1; omega)), hD1, hW.setCell (by show w.heap.size ≤ w.heap.size; omega) _⟩
      case measure => simp [intOf]; omega
    · have e : k = 16 := by omega
      subst e
      have HE : Hid (mixK (minus xs ys) xs 16 = minus xs ys) := hid (by have h := mixK_end (minus xs ys) xs HPL.out; rw [HL.out] at h; exact h)
      rw [HE.out] at hD
      have HPB : Hid (Bd 1152921504606846976 (minus xs ys)) := hid fun v hv => by
        obtain ⟨i, hi⟩ := List.getElem?_of_mem hv
        have h16 := (List.getElem?_eq_some_iff.1 hi).1
        rw [minus_length] at h16
        have hx := getD_some (l := xs) (i := i) (by rw [HL.out]; exact h16)
        have hy := getD_some (l := ys) (i := i) (by rw [HL2.out]; exact h16)
        rw [minus_at h16 hx hy] at hi
        injection hi with hi
        have h1 := HB.out.at_ hx
        have h2 := HB2.out.at_ hy
        omega
      have HCL : Hid ((cy (minus xs ys)).length = 16) := hid (by rw [cy_length, minus_length])
      go_wp2_with (fail)
      refine (carry_any _ _ _ (minus_length _ _) HPB.out hD).mono ?_
      rintro e w1 ⟨rfl, hA2, hO2⟩
      have hR1 := hR.only hO2 (by omega)
      have hW1 := hW.trans (hO2.below (B := w.heap.size) (by omega) hW.size)
      have hs1 : w1.there (w.heap.size + 1 + 1) 0 (ints .i64 (cy (minus xs ys))).toArray.size := hR1.room (by rw [zeros_len]; exact HCL.out)
      have hR2 := hR1.stored (l' := cy (minus xs ys)) (by rw [zeros_len]; exact HCL.out)
      have hW2 := Below.setCells hW1 (g := w.heap.size + 1 + 1) (by omega) 0 (ints .i64 (cy (minus xs ys))).toArray.toList
      clear hD hR hW hO2
      go_wp2_with (first
        | (with_reducible refine wpList_load_mid (op := ⟨some 24, .load 41 (.tmp 2), _, _, _, _⟩) rfl 41 (.tmp 2) rfl w.heap.size 0 rfl (ints .i64 (cy (minus xs ys))) _ (hA2.range) Try.underlying41 rfl (l26 HCL.out) ?_)
        | (with_reducible refine wpList_store_mid (op := ⟨none, .store 41 (.tmp 4) (.tmp 24), _, _, _, _⟩) rfl 41 (.tmp 4) (.tmp 24) rfl (w.heap.size + 1 + 1) 0 (ints .i64 (cy (minus xs ys))).toArray rfl rfl hs1 (a26 HCL.out) (ints_all _ _) ?_))
      exact ret_rows rfl (w.heap.size + 1 + 1) 0 rfl (ints .i64 (cy (minus xs ys))) _ hR2.range Try.underlying41 rfl (l26 HCL.out) rfl ⟨rfl, hW2⟩
end Go.Proofs.Ytoncinbohfmciaa
