/- The reference's products modulo the order. -/
import Derived.Test.YtpaopdjbhmdfjaaDoorSRefAM
namespace Go.Proofs.YtpaopdjbhmdfjaaDoor
open Go.RowKit

set_option maxRecDepth 4000 in
set_option maxHeartbeats 2000000 in
theorem rmulq_walk {al bl : List Int} {w : World} (la : al.length = 32) (lb : bl.length = 32) (ya : Byt al) (yb : Byt bl) : Calls Tryd.prog 33 #[.agg (ints .u8 al).toArray, .agg (ints .u8 bl).toArray] w fun e w' => e = .returned (.agg (ints .u8 (rbytes (bn al * bn bl % QN))).toArray) ∧ Below w.heap.size w w' := by
  obtain ⟨z22, s22⟩ := zero_of_info inf22
  have HBL := hid (rbytes_length (bn al * bn bl % QN))
  obtain ⟨rs, hrs⟩ : ∃ rs, rbytes (bn al * bn bl % QN) = rs := ⟨_, rfl⟩
  rw [hrs] at HBL
  have HRS := hid hrs
  have HKA := hid (fun w0 => rdig_out (w := w0) la ya)
  have HKB := hid (fun w0 => rdig_out (w := w0) lb yb)
  have h1 := ((Arr.made w .u8 al 22).alloc (.cells (ints .u8 bl).toArray 22)).alloc (.cells (ints .u8 (zeros 32)).toArray 22)
  have h2 := (Arr.made (w.alloc (.cells (ints .u8 al).toArray 22)) .u8 bl 22).alloc (.cells (ints .u8 (zeros 32)).toArray 22)
  have h3 := Arr.made ((w.alloc (.cells (ints .u8 al).toArray 22)).alloc (.cells (ints .u8 bl).toArray 22)) .u8 (zeros 32) 22
  simp only [World.size_alloc] at h2 h3
  have hW := ((below_new w (.cells (ints .u8 al).toArray 22)).alloc (by simp) (.cells (ints .u8 bl).toArray 22)).alloc (by simp; omega) (.cells (ints .u8 (zeros 32)).toArray 22)
  clear ya yb hrs
  go_enter Tryd.func33, Tryd.ntmps33
  go_wp2_with (first
    | (with_reducible refine wpList_load_mid (op := ⟨some 12, .load 22 (.tmp 2), _, _, _, _⟩) rfl 22 (.tmp 2) rfl w.heap.size 0 rfl (ints .u8 al) _ h1.range Tryd.underlying22 rfl (l22 la) ?_))
  generalize ((w.alloc (.cells (ints .u8 al).toArray 22)).alloc (.cells (ints .u8 bl).toArray 22)).alloc (.cells (ints .u8 (zeros 32)).toArray 22) = W0 at *
  refine (HKA.out _).mono ?_
  rintro e w1 ⟨AX, cx, xs, rfl, HX, hX, hb1⟩
  replace h2 := h2.below hb1 (h2.lt (by rw [lb]; omega))
  replace h3 := h3.below hb1 (h3.lt (by rw [zeros_len]; omega))
  replace hW := hW.trans (Below.mono hb1 hW.size)
  go_wp2_with (first
    | (with_reducible refine wpList_load_mid (op := ⟨some 14, .load 22 (.tmp 3), _, _, _, _⟩) rfl 22 (.tmp 3) rfl (w.heap.size + 1) 0 rfl (ints .u8 bl) _ h2.range Tryd.underlying22 rfl (l22 lb) ?_))
  refine (HKB.out _).mono ?_
  rintro e w2 ⟨AY, cy, ys, rfl, HY, hY, hb2⟩
  replace h3 := h3.below hb2 (h3.lt (by rw [zeros_len]; omega))
  replace hW := hW.trans (Below.mono hb2 hW.size)
  have hX2 := hX.nums.below hb2
  have hY2 := hY.nums
  have hR := h3
  clear h1 h2 h3 hX hY hb1 hb2 HKA HKB
  have HXL := hid HX.out.1
  have HYL := hid HY.out.1
  have HXD := hid HX.out.2.1
  have HYD := hid HY.out.2.1
  have HDE : Hid ((digs xs ys).length = 32 ∧ Digs (digs xs ys) ∧ dv (digs xs ys) = bn al * bn bl) := hid ⟨by rw [digs_length, HXL.out, HYL.out], digs_digs xs ys HXD.out HYD.out, by rw [digs_dv, HX.out.2.2, HY.out.2.2]⟩
  have HDC : Hid (digs xs ys = colD xs ys 16) := hid (by unfold digs; rw [HXL.out])
  obtain ⟨z0, hz0⟩ : ∃ z, z = colD xs ys 0 := ⟨_, rfl⟩
  have hmk : ∀ w : World, (Instr.makeSlice 32 (.int .i64 32) (.int .i64 32)).run Tryd.prog w = .ok (.slice (some ⟨w.heap.size, 0, none⟩) 32 32) (w.alloc (.cells (ints .i64 (nl z0)).toArray 3)) := by
    have e : colD xs ys 0 = List.replicate 32 0 := by rw [colD, HXL.out, HYL.out]
    rw [hz0, e]; exact make28 32 (by omega)
  have HZ0 := hid hz0
  clear hz0 HX HY
  go_wp2
  have hB := below_new w2 (.cells (ints .i64 (nl z0)).toArray 3)
  have hZ : Arr (w2.alloc (.cells (ints .i64 (nl z0)).toArray 3)) w2.heap.size 0 .i64 (nl (colD xs ys 0)) := by have := Arr.made w2 .i64 (nl z0) 3; rw [HZ0.out] at this ⊢; exact this
  have hr2 := hR.lt (by rw [zeros_len]; omega)
  clear hmk
  generalize w2.alloc (.cells (ints .i64 (nl z0)).toArray 3) = W0 at *
  go_loopw [8] (fun i wr => ∃ k : Nat, k ≤ 16 ∧ i = .int .i64 k ∧ Below w2.heap.size w2 wr ∧ Arr wr w2.heap.size 0 .i64 (nl (colD xs ys k))) (fun i _ => 16 - (intOf i).toNat)
  case atStart => exact ⟨0, by omega, rfl, hB, hZ⟩
  case round =>
    clear hB hZ
    obtain ⟨k, hk, rfl, hB, hZ⟩ := hrel
    by_cases hlt : k < 16
    · have HXi : Hid (xs.getD k 0 < 65536) := hid (getD_dig HXD.out k)
      have hnx := nl_at (l := xs) (i := k) (by rw [HXL.out]; exact hlt)
      obtain ⟨gx, ox, rfl, hgx, cA⟩ := hX2.num (by rw [nl_length, HXL.out]; omega)
      have cx0 := cA k _ hnx
      have HZL : Hid ((colD xs ys k).length = 32) := hid (by rw [colD_length, HXL.out, HYL.out])
      have HZW := hid (colD_digs xs ys HXD.out HYD.out k)
      have HCN : Hid (colD xs ys (k + 1) = (rowD (xs.getD k 0) ys k (colD xs ys k) 16).1.set (k + 16) ((rowD (xs.getD k 0) ys k (colD xs ys k) 16).1.getD (k + 16) 0 + (rowD (xs.getD k 0) ys k (colD xs ys k) 16).2)) := hid (by rw [colD, HYL.out])
      have HCP : Hid ((rowD (xs.getD k 0) ys k (colD xs ys k) 16).1.getD (k + 16) 0 = 0) := hid (by rw [rowD_past _ _ _ _ _ _ (Nat.le_refl _), colD_past _ _ _ _ (by rw [HYL.out]; exact Nat.le_refl _)])
      clear cA hnx
      generalize colD xs ys k = z at *
      generalize xs.getD k 0 = xi at *
      have hZ0 : Arr wr w2.heap.size 0 .i64 (nl (rowD xi ys k z 0).1) := hZ
      clear hZ
      have k0 : (0 : Int) ≤ k := by omega
      have k4 : (k : Int) < 16 := by omega
      rename World => W1
      go_wp2
      go_loopw [9, 10] (fun c j wr => ∃ m : Nat, m ≤ 16 ∧ j = .int .i64 m ∧ c = .int .i64 ((rowD xi ys k z m).2 : Nat) ∧ Below w2.heap.size w2 wr ∧ Arr wr w2.heap.size 0 .i64 (nl (rowD xi ys k z m).1)) (fun _ j _ => 16 - (intOf j).toNat)
      case atStart => exact ⟨0, by omega, rfl, rfl, hB, hZ0⟩
      case round =>
        clear hB hZ0
        obtain ⟨m, hm, rfl, rfl, hB, hZ⟩ := hrel
        by_cases hlt2 : m < 16
        · rename World => W2
          have HYM : Hid (ys.getD m 0 < 65536) := hid (getD_dig HYD.out m)
          have cx1 := cell_same_of hB hgx cx0
          obtain ⟨gy, oy, rfl, hgy, cB⟩ := (hY2.below hB).num (by rw [nl_length, HYL.out]; omega)
          have cy0 := cB m _ (nl_at (by rw [HYL.out]; exact hlt2))
          have HRN : Hid (rowD xi ys k z (m + 1) = stepD xi (ys.getD m 0) (k + m) (rowD xi ys k z m)) := hid rfl
          have HRL := hid (rowD_length xi ys k z m)
          have HRW := hid (rowD_digsL xi ys k z HXi.out HYD.out HZW.out m)
          clear cB
          generalize ys.getD m 0 = yj at *
          generalize rowD xi ys k z m = st at *
          rcases st with ⟨zz, cc⟩
          dsimp only at *
          have hzz : k + m < zz.length := by rw [HRL.out, HZL.out]; omega
          have cz := hZ.at_ (i := k + m) (nl_at hzz)
          have fz := hZ.free (i := k + m) (by rw [nl_length]; exact hzz)
          rw [Nat.zero_add] at cz fz
          have HP : Hid (zz.getD (k + m) 0 < 65536) := hid (getD_dig HRW.out.1 _)
          have HS : Hid (stepD xi yj (k + m) (zz, cc) = (zz.set (k + m) ((xi * yj + cc + zz.getD (k + m) 0) % 65536), (xi * yj + cc + zz.getD (k + m) 0) / 65536)) := hid rfl
          generalize zz.getD (k + m) 0 = q at *
          have HC : Hid (cc < 65536) := hid HRW.out.2
          have HT : Hid (xi * yj ≤ 4294836225) := hid (Nat.mul_le_mul (Nat.le_pred_of_lt HXi.out) (Nat.le_pred_of_lt HYM.out))
          have w1 : IntKind.i64.wrap ((xi : Int) * yj) = ((xi * yj : Nat) : Int) := by have := HT.out; rw [IntWalk.i64_in _ (by omega)]; omega
          generalize xi * yj = P at *
          have w2 : IntKind.i64.wrap ((q : Int) + P) = ((q + P : Nat) : Int) := by rw [IntWalk.i64_in _ (by have := HT.out; have := HP.out; omega)]; omega
          have w3 : IntKind.i64.wrap (((q + P : Nat) : Int) + cc) = ((P + cc + q : Nat) : Int) := by rw [IntWalk.i64_in _ (by have := HT.out; have := HP.out; have := HC.out; omega)]; omega
          have HQ : Hid (P + cc + q < 4294967296) := hid (by have := HT.out; have := HP.out; have := HC.out; omega)
          generalize q + P = q1 at *
          generalize P + cc + q = T at *
          have HE : Hid (rowD xi ys k z (m + 1) = (zz.set (k + m) (T % 65536), T / 65536)) := hid (by rw [HRN.out, HS.out])
          have hT0 : (0 : Int) ≤ T := by omega
          have km0 : (0 : Int) ≤ (k : Int) + m := by omega
          have kmw : IntKind.i64.wrap ((k : Int) + m) = (k : Int) + m := IntWalk.i64_in _ (by omega)
          have kmn : ((k : Int) + m).toNat = k + m := by omega
          have kml : (k : Int) + m < 32 := by omega
          have m0 : (0 : Int) ≤ m := by omega
          have m4 : (m : Int) < 16 := by omega
          go_wp2
          go_quiet (fail)
          replace hZ := hZ.drewN nq
          replace hB := below_drewN hB nq
          replace cz : (W2.drewN nq).cell? _ = _ := cz
          replace fz : (W2.drewN nq).frozen? _ = _ := fz
          clear cx1 cy0
          generalize W2.drewN nq = W3 at *
          go_wp2
          go_roundw
          case rel =>
            refine ⟨m + 1, by omega, by go_num, by rw [HE.out, e64 T HQ.out], hB.setCell (Nat.le_refl _) _, ?_⟩
            have h := hZ.set (k + m) ((T % 65536 : Nat) : Int)
            rw [nl_set, Nat.zero_add] at h
            rw [HE.out]
            exact h
          case measure => simp [intOf]; omega
        · have e : m = 16 := by omega
          subst e
          have HRL := hid (rowD_length xi ys k z 16)
          have HRW := hid (rowD_digsL xi ys k z HXi.out HYD.out HZW.out 16)
          rw [HCP.out, Nat.zero_add] at HCN
          generalize rowD xi ys k z 16 = st at *
          rcases st with ⟨zz, cc⟩
          dsimp only at *
          have hzz : k + 16 < zz.length := by rw [HRL.out, HZL.out]; omega
          have cz := hZ.at_ (i := k + 16) (nl_at hzz)
          have fz := hZ.free (i := k + 16) (by rw [nl_length]; exact hzz)
          rw [HCP.out] at cz
          rw [Nat.zero_add] at cz fz
          have kmw : IntKind.i64.wrap ((k : Int) + 16) = (k : Int) + 16 := IntWalk.i64_in _ (by omega)
          have kmn : ((k : Int) + 16).toNat = k + 16 := by omega
          have km0 : (0 : Int) ≤ (k : Int) + 16 := by omega
          have kml : (k : Int) + 16 < 32 := by omega
          have hcw : IntKind.i64.wrap (cc : Int) = cc := IntWalk.i64_in _ (by have := HRW.out.2; omega)
          clear hlt2
          go_wp2
          go_roundw
          case rel =>
            refine ⟨k + 1, by omega, by go_num, hB.setCell (Nat.le_refl _) _, ?_⟩
            have h := hZ.set (k + 16) ((cc : Nat) : Int)
            rw [nl_set, Nat.zero_add] at h
            rw [HCN.out]
            exact h
          case measure => simp [intOf]; omega
    · have e : k = 16 := by omega
      rw [e, ← HDC.out] at hZ
      have hk16 : ¬ (k : Int) < 16 := by omega
      have hNZ : Nums wr .i64 (some ⟨w2.heap.size, 0, none⟩) (nl (digs xs ys)) := hZ.nums
      have hR5 := hR.below hB hr2
      have hW5 := hW.trans (Below.mono hB hW.size)
      generalize digs xs ys = ds at *
      clear hZ hlt e HDC HXD HYD
      go_wp2_with (fail)
      refine (modq_walk (some ⟨w2.heap.size, 0, none⟩) 32 32 _ ds HDE.out.1 (by omega) HDE.out.2.1 hNZ).mono ?_
      rw [HDE.out.2.2]
      rintro e w6 ⟨A2, c2, ys2, rfl, HY, hN2, hb6⟩
      have hR3 := hR5.below hb6 (hR5.lt (by rw [zeros_len]; omega))
      have hW3 := hW5.trans (Below.mono hb6 hW5.size)
      clear hR5 hW5 hb6 hNZ hB hR hW hX2 hY2
      go_wp2_with (fail)
      refine (rbytes_out (cA := c2) HY.out hN2.nums).mono ?_
      rw [HRS.out]
      rintro e w9 ⟨rfl, hb9⟩
      have hR9 := hR3.below hb9 (hR3.lt (by rw [zeros_len]; omega))
      have hW9 := hW3.trans (Below.mono hb9 hW3.size)
      have hs1 : w9.there (w.heap.size + 1 + 1) 0 (ints .u8 rs).toArray.size := hR9.room (by rw [zeros_len]; exact HBL.out)
      have hR5 := hR9.stored (l' := rs) (by rw [zeros_len]; exact HBL.out)
      have hW5 := Below.setCells hW9 (g := w.heap.size + 1 + 1) (by omega) 0 (ints .u8 rs).toArray.toList
      clear hR3 hW3 hb9 hR9 hW9 hN2
      go_wp2_with (first
        | (with_reducible refine wpList_store_mid (op := ⟨none, .store 22 (.tmp 4) (.tmp 65), _, _, _, _⟩) rfl 22 (.tmp 4) (.tmp 65) rfl (w.heap.size + 1 + 1) 0 (ints .u8 rs).toArray rfl rfl hs1 (a22 HBL.out) (ints_all _ _) ?_; generalize w9.setCells (w.heap.size + 1 + 1) 0 (ints .u8 rs).toArray.toList = W5 at *))
      exact ret_rows rfl (w.heap.size + 1 + 1) 0 rfl (ints .u8 rs) _ hR5.range Tryd.underlying22 rfl (l22 HBL.out) rfl ⟨by rw [HRS.out], hW5⟩
end Go.Proofs.YtpaopdjbhmdfjaaDoor
