/- Sums; the number below the prime; its bytes. -/
import Derived.Test.YthohfhloobmlpaaPNumb
namespace Go.Proofs.Ythohfhloobmlpaa
open Go Go.RowKit

def zipc (c : Int) (a b : List Int) : List Int := List.zipWith (fun x y => x + c * y) a b
theorem zipc_bv (c : Int) : ∀ (a b : List Int), a.length = b.length → bv (zipc c a b) = bv a + c * bv b
  | [], [], _ => by simp [zipc, bv]
  | [], _ :: _, h => by simp at h
  | _ :: _, [], h => by simp at h
  | x :: a, y :: b, h => by
    have h1 := zipc_bv c a b (by simpa using h)
    unfold zipc at *
    simp only [List.zipWith_cons_cons, bv, h1]
    rw [Int.mul_add, Int.mul_add, ← Int.mul_assoc c 256, Int.mul_comm c 256, Int.mul_assoc]
    omega
theorem zipc_length (c : Int) {a b : List Int} {n : Nat} (ha : a.length = n) (hb : b.length = n) : (zipc c a b).length = n := by simp [zipc, ha, hb]
theorem zipc_at (c : Int) {a b : List Int} {i : Nat} {x y : Int} (hx : a[i]? = some x) (hy : b[i]? = some y) : (zipc c a b)[i]? = some (x + c * y) := by
  simp [zipc, List.getElem?_zipWith, hx, hy]
theorem zipc_bd (c : Int) {a b : List Int} {A : Int} (hc : 0 ≤ c) (ha : ∀ x ∈ a, 0 ≤ x ∧ x ≤ A) (hb : ∀ x ∈ b, 0 ≤ x ∧ x ≤ A) : ∀ x ∈ zipc c a b, 0 ≤ x ∧ x ≤ A + c * A := fun x hx => by
  obtain ⟨i, hi⟩ := List.getElem?_of_mem hx
  simp only [zipc, List.getElem?_zipWith] at hi
  cases h1 : a[i]? with
  | none => rw [h1] at hi; cases hi
  | some u =>
    cases h2 : b[i]? with
    | none => rw [h1, h2] at hi; cases hi
    | some v =>
      rw [h1, h2] at hi
      simp only [Option.some.injEq] at hi
      have hu := ha u (List.mem_of_getElem? h1)
      have hv := hb v (List.mem_of_getElem? h2)
      have p0 : 0 ≤ c * v := Int.mul_nonneg hc hv.1
      have p1 : c * v ≤ c * A := Int.mul_le_mul_of_nonneg_left hv.2 hc
      omega
set_option maxRecDepth 4000 in
set_option maxHeartbeats 1000000 in
theorem add_core (xs ys zs r : List Int) (w : World) (HL : Hid (xs.length = 17)) (HL2 : Hid (ys.length = 17)) (HB : Hid (Byt xs)) (HB2 : Hid (Byt ys)) (HZ : Hid (zs.length = 17)) (HV : Hid (∀ (i : Nat) (x y : Int), xs[i]? = some x → ys[i]? = some y → zs[i]? = some (x + y)))
    (HN : Hid (∀ w, Calls Try.prog 25 #[.agg (ints .i64 zs).toArray] w fun e w' => e = .returned (.agg (ints .u8 r).toArray) ∧ Below w.heap.size w w')) (HRL : Hid (r.length = 17)) :
    Calls Try.prog 11 #[.agg (ints .u8 xs).toArray, .agg (ints .u8 ys).toArray] w fun e w' => e = .returned (.agg (ints .u8 r).toArray) ∧ Below w.heap.size w w' := by
  obtain ⟨z25, s25⟩ := zero_of_info inf25
  obtain ⟨z51, s51⟩ := zero_of_info inf51
  have hX := ((Arr.made w .u8 xs 25).alloc (.cells (ints .u8 ys).toArray 25)).alloc (.cells (ints .u8 (zeros 17)).toArray 25) |>.alloc (.cells (ints .i64 (zeros 17)).toArray 51)
  have hY := (Arr.made (w.alloc (.cells (ints .u8 xs).toArray 25)) .u8 ys 25).alloc (.cells (ints .u8 (zeros 17)).toArray 25) |>.alloc (.cells (ints .i64 (zeros 17)).toArray 51)
  have hR := (Arr.made ((w.alloc (.cells (ints .u8 xs).toArray 25)).alloc (.cells (ints .u8 ys).toArray 25)) .u8 (zeros 17) 25).alloc (.cells (ints .i64 (zeros 17)).toArray 51)
  have hD := Arr.made (((w.alloc (.cells (ints .u8 xs).toArray 25)).alloc (.cells (ints .u8 ys).toArray 25)).alloc (.cells (ints .u8 (zeros 17)).toArray 25)) .i64 (zeros 17) 51
  have hW := (((below_new w (.cells (ints .u8 xs).toArray 25)).alloc (by simp) (.cells (ints .u8 ys).toArray 25)).alloc (by simp; omega) (.cells (ints .u8 (zeros 17)).toArray 25)).alloc (by simp; omega) (.cells (ints .i64 (zeros 17)).toArray 51)
  rw [World.size_alloc] at hY
  rw [World.size_alloc, World.size_alloc] at hR
  rw [World.size_alloc, World.size_alloc, World.size_alloc] at hD
  have HZF := hid (fill_0 (n := 17) HZ.out)
  go_enter Try.func11, Try.ntmps11
  go_wp2
  generalize ((((w.alloc (.cells (ints .u8 xs).toArray 25)).alloc (.cells (ints .u8 ys).toArray 25)).alloc (.cells (ints .u8 (zeros 17)).toArray 25)).alloc (.cells (ints .i64 (zeros 17)).toArray 51)) = W0 at *
  rw [HZF.out] at hD
  go_loopw [7] (fun i wr => ∃ k : Nat, k ≤ 17 ∧ i = .int .i64 k ∧ Arr wr w.heap.size 0 .u8 xs ∧ Arr wr (w.heap.size + 1) 0 .u8 ys ∧ Arr wr (w.heap.size + 1 + 1) 0 .u8 (zeros 17) ∧ Arr wr (w.heap.size + 1 + 1 + 1) 0 .i64 (fillK zs k) ∧ Below w.heap.size w wr) (fun i _ => 17 - (intOf i).toNat)
  case atStart => exact ⟨0, by omega, rfl, hX, hY, hR, hD, hW⟩
  case round =>
    clear hX hY hR hD hW
    obtain ⟨k, hk, rfl, hX, hY, hR, hD, hW⟩ := hrel
    rename World => W1
    by_cases hlt : k < 17
    · obtain ⟨x, cx, fx, HX⟩ := hX.spot (i := k) (by rw [HL.out]; exact hlt)
      obtain ⟨y, cy0, fy, HY⟩ := hY.spot (i := k) (by rw [HL2.out]; exact hlt)
      obtain ⟨z, cz, fz, _⟩ := hD.spot (i := k) (by rw [fillK_length, HZ.out]; exact hlt)
      rw [Nat.zero_add] at cx cy0 cz fz
      have hxb := HB.out.at_ HX.out
      have hyb := HB2.out.at_ HY.out
      have HVk := hid (HV.out k x y HX.out HY.out)
      have hx64 : IntKind.i64.wrap x = x := IntWalk.i64_in _ (by omega)
      have hy64 : IntKind.i64.wrap y = y := IntWalk.i64_in _ (by omega)
      obtain ⟨v, hv⟩ : ∃ v, v = x + y := ⟨_, rfl⟩
      rw [← hv] at HVk
      have hwv : IntKind.i64.wrap (x + y) = v := by rw [IntWalk.i64_in _ (by omega), hv]
      have k0 : (0 : Int) ≤ k := by omega
      have k17 : (k : Int) < 17 := by omega
      have hwk : IntKind.i64.wrap ((k : Int) + 1) = (k : Int) + 1 := IntWalk.i64_in _ (by omega)
      have hD1 := hD.drew.set k v
      rw [Nat.zero_add, fillK_set _ HVk.out] at hD1
      have HXX := hid (And.intro hxb (And.intro hyb hv))
      clear hxb hyb hv fx fy
      go_wp2
      go_still_tail 11, (by kernel_rfl)
      change wpList _ _ _ _ _ W1.drew
      have hX1 := hX.drew.apart (p := ⟨w.heap.size + 1 + 1 + 1, k, none⟩) (.int .i64 v) (.inl (by show w.heap.size + 1 + 1 + 1 ≠ w.heap.size; omega))
      have hY1 := hY.drew.apart (p := ⟨w.heap.size + 1 + 1 + 1, k, none⟩) (.int .i64 v) (.inl (by show w.heap.size + 1 + 1 + 1 ≠ w.heap.size + 1; omega))
      have hR1 := hR.drew.apart (p := ⟨w.heap.size + 1 + 1 + 1, k, none⟩) (.int .i64 v) (.inl (by show w.heap.size + 1 + 1 + 1 ≠ w.heap.size + 1 + 1; omega))
      have hW1 := hW.drew.setCell (p := ⟨w.heap.size + 1 + 1 + 1, k, none⟩) (by show w.heap.size ≤ w.heap.size + 1 + 1 + 1; omega) (.int .i64 v)
      have cz1 : W1.drew.cell? ⟨w.heap.size + 1 + 1 + 1, k, none⟩ = some (.int .i64 z) := cz
      have fz1 : W1.drew.frozen? ⟨w.heap.size + 1 + 1 + 1, k, none⟩ = false := fz
      clear cx cy0 cz fz hX hY hR hD hW
      generalize W1.drew = W4 at *
      go_wp2
      go_roundw
      case rel => exact ⟨k + 1, by omega, by go_num, hX1, hY1, hR1, hD1, hW1⟩
      case measure => simp [intOf]; omega
    · have e : k = 17 := by omega
      subst e
      rw [fill_id HZ.out] at hD
      go_wp2_with (first
        | (with_reducible refine wpList_load_mid (op := ⟨some 22, .load 51 (.tmp 5), _, _, _, _⟩) rfl 51 (.tmp 5) rfl (w.heap.size + 1 + 1 + 1) 0 rfl (ints .i64 zs) _ (hD.range) Try.underlying51 rfl (l51 HZ.out) ?_))
      refine (HN.out _).mono ?_
      rintro e w1 ⟨rfl, hb1⟩
      replace hR := hR.next hb1
      replace hW := hW.trans (Below.mono hb1 hW.size)
      clear hX hY hD hb1
      have hs1 : w1.there (w.heap.size + 1 + 1) 0 (ints .u8 r).toArray.size := hR.room (by rw [zeros_len]; exact HRL.out)
      have hR2 := hR.stored (l' := r) (by rw [zeros_len]; exact HRL.out)
      have hW2 := Below.setCells hW (g := w.heap.size + 1 + 1) (by omega) 0 (ints .u8 r).toArray.toList
      go_wp2_with (first
        | (with_reducible refine wpList_store_mid (op := ⟨none, .store 25 (.tmp 4) (.tmp 23), _, _, _, _⟩) rfl 25 (.tmp 4) (.tmp 23) rfl (w.heap.size + 1 + 1) 0 (ints .u8 r).toArray rfl rfl hs1 (a25 HRL.out) (ints_all _ _) ?_))
      exact ret_rows rfl (w.heap.size + 1 + 1) 0 rfl (ints .u8 r) _ hR2.range Try.underlying25 rfl (l25 HRL.out) rfl ⟨rfl, hW2⟩
theorem bn_add {a b : List Int} (ha : Byt a) (hb : Byt b) (h : a.length = b.length) : bn (zipc 1 a b) = bn a + bn b := by
  unfold bn
  rw [zipc_bv 1 a b h, Int.one_mul, Int.toNat_add (bv_bd a ha).1 (bv_bd b hb).1]
theorem add_any (xs ys : List Int) (w : World) (hl : xs.length = 17) (hl2 : ys.length = 17) (hb : Byt xs) (hb2 : Byt ys) :
    Calls Try.prog 11 #[.agg (ints .u8 xs).toArray, .agg (ints .u8 ys).toArray] w fun e w' => e = .returned (.agg (ints .u8 (pb ((bn xs + bn ys) % PN))).toArray) ∧ Below w.heap.size w w' := by
  have hz := zipc_length 1 hl hl2
  have hbd := zipc_bd 1 (a := xs) (b := ys) (A := 255) (by omega) (fun x hx => by have := hb x hx; omega) (fun x hx => by have := hb2 x hx; omega)
  rw [← bn_add hb hb2 (by rw [hl, hl2])]
  exact add_core xs ys (zipc 1 xs ys) _ w (hid hl) (hid hl2) (hid hb) (hid hb2) (hid hz) (hid fun i x y hx hy => by rw [zipc_at 1 hx hy, Int.one_mul]) (hid fun w => number_any _ w hz fun x hx => by have := hbd x hx; omega) (hid (pb_length _))

theorem built25 : Try.prog.built 25 [] = some (ints .u8 (zeros 17)).toArray := by kernel_rfl
set_option maxRecDepth 4000 in
set_option maxHeartbeats 1000000 in
theorem reduced_any (xs : List Int) (w : World) (hl : xs.length = 17) (hb : Byt xs) :
    Calls Try.prog 24 #[.agg (ints .u8 xs).toArray] w fun e w' => e = .returned (.agg (ints .u8 (pb (bn xs % PN))).toArray) ∧ Below w.heap.size w w' := by
  obtain ⟨z25, s25⟩ := zero_of_info inf25
  have HL := hid hl
  have ha := fun w => add_any xs (zeros 17) w hl (zeros_len 17) hb (byt_zeros 17)
  have e0 : bn (zeros 17) = 0 := by unfold bn; rw [bv_zeros]; rfl
  rw [e0, Nat.add_zero] at ha
  have HRL := hid (pb_length (bn xs % PN))
  generalize pb (bn xs % PN) = r at *
  have hX := (Arr.made w .u8 xs 25).alloc (.cells (ints .u8 (zeros 17)).toArray 25)
  have hR := Arr.made (w.alloc (.cells (ints .u8 xs).toArray 25)) .u8 (zeros 17) 25
  have hW := (below_new w (.cells (ints .u8 xs).toArray 25)).alloc (by simp) (.cells (ints .u8 (zeros 17)).toArray 25)
  rw [World.size_alloc] at hR
  clear hl hb e0
  go_enter Try.func24, Try.ntmps24
  go_wp2_with (first
    | (with_reducible refine wpList_load_mid (op := ⟨some 3, .load 25 (.tmp 1), _, _, _, _⟩) rfl 25 (.tmp 1) rfl w.heap.size 0 rfl (ints .u8 xs) _ (hX.range) Try.underlying25 rfl (l25 HL.out) ?_)
    | (refine wpList_built rfl 25 #[] rfl [] (ints .u8 (zeros 17)).toArray (by simp) built25 ?_))
  generalize ((w.alloc (.cells (ints .u8 xs).toArray 25)).alloc (.cells (ints .u8 (zeros 17)).toArray 25)) = W0 at *
  refine (ha _).mono ?_
  rintro e w1 ⟨rfl, hb1⟩
  replace hR := hR.next hb1
  replace hW := hW.trans (Below.mono hb1 hW.size)
  have hs1 : w1.there (w.heap.size + 1) 0 (ints .u8 r).toArray.size := hR.room (by rw [zeros_len]; exact HRL.out)
  have hR2 := hR.stored (l' := r) (by rw [zeros_len]; exact HRL.out)
  have hW2 := Below.setCells hW (g := w.heap.size + 1) (by omega) 0 (ints .u8 r).toArray.toList
  go_wp2_with (first
    | (with_reducible refine wpList_store_mid (op := ⟨none, .store 25 (.tmp 2) (.tmp 5), _, _, _, _⟩) rfl 25 (.tmp 2) (.tmp 5) rfl (w.heap.size + 1) 0 (ints .u8 r).toArray rfl rfl hs1 (a25 HRL.out) (ints_all _ _) ?_))
  exact ret_rows rfl (w.heap.size + 1) 0 rfl (ints .u8 r) _ hR2.range Try.underlying25 rfl (l25 HRL.out) rfl ⟨rfl, hW2⟩
set_option maxRecDepth 4000 in
set_option maxHeartbeats 1000000 in
theorem bytes_any (xs : List Int) (w : World) (hl : xs.length = 17) (hb : Byt xs) :
    Calls Try.prog 9 #[.agg (ints .u8 xs).toArray] w fun e w' => e = .returned (.agg (ints .u8 (pb (bn xs % PN))).toArray) ∧ Below w.heap.size w w' := by
  obtain ⟨z22, s22⟩ := zero_of_info inf22
  have HL := hid hl
  have ha := fun w => reduced_any xs w hl hb
  have HRL := hid (pb_length (bn xs % PN))
  generalize pb (bn xs % PN) = r at *
  have hX := (Arr.made w .u8 xs 25).alloc (.cells (ints .u8 (zeros 17)).toArray 22)
  have hR := Arr.made (w.alloc (.cells (ints .u8 xs).toArray 25)) .u8 (zeros 17) 22
  have hW := (below_new w (.cells (ints .u8 xs).toArray 25)).alloc (by simp) (.cells (ints .u8 (zeros 17)).toArray 22)
  rw [World.size_alloc] at hR
  clear hl hb
  go_enter Try.func9, Try.ntmps9
  go_wp2_with (first
    | (with_reducible refine wpList_load_mid (op := ⟨some 3, .load 25 (.tmp 1), _, _, _, _⟩) rfl 25 (.tmp 1) rfl w.heap.size 0 rfl (ints .u8 xs) _ (hX.range) Try.underlying25 rfl (l25 HL.out) ?_))
  generalize ((w.alloc (.cells (ints .u8 xs).toArray 25)).alloc (.cells (ints .u8 (zeros 17)).toArray 22)) = W0 at *
  refine (ha _).mono ?_
  rintro e w1 ⟨rfl, hb1⟩
  replace hR := hR.next hb1
  replace hW := hW.trans (Below.mono hb1 hW.size)
  have hs1 : w1.there (w.heap.size + 1) 0 (ints .u8 r).toArray.size := hR.room (by rw [zeros_len]; exact HRL.out)
  have hR2 := hR.stored (l' := r) (by rw [zeros_len]; exact HRL.out)
  have hW2 := Below.setCells hW (g := w.heap.size + 1) (by omega) 0 (ints .u8 r).toArray.toList
  go_wp2_with (first
    | (with_reducible refine wpList_store_mid (op := ⟨none, .store 22 (.tmp 2) (.tmp 4), _, _, _, _⟩) rfl 22 (.tmp 2) (.tmp 4) rfl (w.heap.size + 1) 0 (ints .u8 r).toArray rfl rfl hs1 (a22 HRL.out) (ints_all _ _) ?_))
  exact ret_rows rfl (w.heap.size + 1) 0 rfl (ints .u8 r) _ hR2.range Try.underlying22 rfl (l22 HRL.out) rfl ⟨rfl, hW2⟩
end Go.Proofs.Ythohfhloobmlpaa
