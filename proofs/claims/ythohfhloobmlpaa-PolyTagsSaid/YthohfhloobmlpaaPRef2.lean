/- The reference's products. -/
import Derived.Test.YthohfhloobmlpaaPRef1
namespace Go.Proofs.Ythohfhloobmlpaa
open Go Go.RowKit

theorem e64 (T : Nat) (h : T < 4294967296) : Value.int .i64 (wrap64 ((T : Int) / 65536)) = Value.int .i64 ((T / 65536 : Nat) : Int) := by
  have e : ((T : Int) / 65536) = ((T / 65536 : Nat) : Int) := by omega
  rw [e]
  congr 1
  unfold wrap64
  omega
set_option maxRecDepth 4000 in
set_option maxHeartbeats 2000000 in
theorem rmul_any {A B : Option Addr} {cA cB m n : Nat} {xs ys : List Nat} {w : World} (ha : R10 xs m) (hb : R10 ys n) (hA : Nums w .i64 A (nl xs)) (hB0 : Nums w .i64 B (nl ys)) : Calls Try.prog 14 #[.slice A 10 cA, .slice B 10 cB] w (ROut (m * n % PN) w) := by
  have hX2 := hA
  have hY2 := hB0
  have HXL := hid ha.1
  have HYL := hid hb.1
  have HXD := hid ha.2.1
  have HYD := hid hb.2.1
  have HDE : Hid ((digs xs ys).length = 20 ∧ Digs (digs xs ys) ∧ dv (digs xs ys) = m * n) := hid ⟨by rw [digs_length, HXL.out, HYL.out], digs_digs xs ys HXD.out HYD.out, by rw [digs_dv, ha.2.2, hb.2.2]⟩
  have HDC : Hid (digs xs ys = colD xs ys 10) := hid (by unfold digs; rw [HXL.out])
  obtain ⟨z0, hz0⟩ : ∃ z, z = colD xs ys 0 := ⟨_, rfl⟩
  have hmk : ∀ w : World, (Instr.makeSlice 26 (.int .i64 20) (.int .i64 20)).run Try.prog w = .ok (.slice (some ⟨w.heap.size, 0, none⟩) 20 20) (w.alloc (.cells (ints .i64 (nl z0)).toArray 3)) := by
    have e : colD xs ys 0 = List.replicate 20 0 := by rw [colD, HXL.out, HYL.out]
    rw [hz0, e]; exact make28 20 (by omega)
  have HZ0 := hid hz0
  clear hz0 ha hb hA hB0
  go_enter Try.func14, Try.ntmps14
  go_wp2
  have hB := below_new w (.cells (ints .i64 (nl z0)).toArray 3)
  have hZ : Arr (w.alloc (.cells (ints .i64 (nl z0)).toArray 3)) w.heap.size 0 .i64 (nl (colD xs ys 0)) := by have := Arr.made w .i64 (nl z0) 3; rw [HZ0.out] at this ⊢; exact this
  clear hmk
  generalize w.alloc (.cells (ints .i64 (nl z0)).toArray 3) = W0 at *
  go_loopw [6] (fun i wr => ∃ k : Nat, k ≤ 10 ∧ i = .int .i64 k ∧ Below w.heap.size w wr ∧ Arr wr w.heap.size 0 .i64 (nl (colD xs ys k))) (fun i _ => 10 - (intOf i).toNat)
  case atStart => exact ⟨0, by omega, rfl, hB, hZ⟩
  case round =>
    clear hB hZ
    obtain ⟨k, hk, rfl, hB, hZ⟩ := hrel
    by_cases hlt : k < 10
    · have HXi : Hid (xs.getD k 0 < 65536) := hid (getD_dig HXD.out k)
      have hnx := nl_at (l := xs) (i := k) (by rw [HXL.out]; exact hlt)
      obtain ⟨gx, ox, rfl, hgx, cA⟩ := hX2.num (by rw [nl_length, HXL.out]; omega)
      have cx0 := cA k _ hnx
      have HZL : Hid ((colD xs ys k).length = 20) := hid (by rw [colD_length, HXL.out, HYL.out])
      have HZW := hid (colD_digs xs ys HXD.out HYD.out k)
      have HCN : Hid (colD xs ys (k + 1) = (rowD (xs.getD k 0) ys k (colD xs ys k) 10).1.set (k + 10) ((rowD (xs.getD k 0) ys k (colD xs ys k) 10).1.getD (k + 10) 0 + (rowD (xs.getD k 0) ys k (colD xs ys k) 10).2)) := hid (by rw [colD, HYL.out])
      have HCP : Hid ((rowD (xs.getD k 0) ys k (colD xs ys k) 10).1.getD (k + 10) 0 = 0) := hid (by rw [rowD_past _ _ _ _ _ _ (Nat.le_refl _), colD_past _ _ _ _ (by rw [HYL.out]; exact Nat.le_refl _)])
      clear cA hnx
      generalize colD xs ys k = z at *
      generalize xs.getD k 0 = xi at *
      have hZ0 : Arr wr w.heap.size 0 .i64 (nl (rowD xi ys k z 0).1) := hZ
      clear hZ
      have k0 : (0 : Int) ≤ k := by omega
      have k4 : (k : Int) < 10 := by omega
      rename World => W1
      go_wp2
      go_loopw [7, 8] (fun c j wr => ∃ m : Nat, m ≤ 10 ∧ j = .int .i64 m ∧ c = .int .i64 ((rowD xi ys k z m).2 : Nat) ∧ Below w.heap.size w wr ∧ Arr wr w.heap.size 0 .i64 (nl (rowD xi ys k z m).1)) (fun _ j _ => 10 - (intOf j).toNat)
      case atStart => exact ⟨0, by omega, rfl, rfl, hB, hZ0⟩
      case round =>
        clear hB hZ0
        obtain ⟨m, hm, rfl, rfl, hB, hZ⟩ := hrel
        by_cases hlt2 : m < 10
        · rename World => W2
          have HYM : Hid (ys.getD m 0 < 65536) := hid (getD_dig HYD.out m)
          have cx1 := cell_same_of hB hgx cx0
          obtain ⟨gy, oy, rfl, hgy, cB⟩ := (hY2.below hB).num (by rw [nl_length, HYL.out]; omega)
          have cy0 := cB m _ (nl_at (by rw [HYL.out]; exact hlt2))
          have HRN : Hid (rowD xi ys k z (m + 1) = stepD xi (ys.getD m 0) (k + m) (rowD xi ys k z m)) := hid rfl
          have HRL := hid (rowD_length xi ys k z m)
          have HRW := hid (rowD_digsL xi ys k z HXi.out HYD.out HZW.out m)
          clear cB
          generalize ys.getD m 0 = yj at *
          generalize rowD xi ys k z m = st at *
          rcases st with ⟨zz, cc⟩
          dsimp only at *
          have hzz : k + m < zz.length := by rw [HRL.out, HZL.out]; omega
          have cz := hZ.at_ (i := k + m) (nl_at hzz)
          have fz := hZ.free (i := k + m) (by rw [nl_length]; exact hzz)
          rw [Nat.zero_add] at cz fz
          have HP : Hid (zz.getD (k + m) 0 < 65536) := hid (getD_dig HRW.out.1 _)
          have HS : Hid (stepD xi yj (k + m) (zz, cc) = (zz.set (k + m) ((xi * yj + cc + zz.getD (k + m) 0) % 65536), (xi * yj + cc + zz.getD (k + m) 0) / 65536)) := hid rfl
          generalize zz.getD (k + m) 0 = q at *
          have HC : Hid (cc < 65536) := hid HRW.out.2
          have HT : Hid (xi * yj ≤ 4294836225) := hid (Nat.mul_le_mul (Nat.le_pred_of_lt HXi.out) (Nat.le_pred_of_lt HYM.out))
          have w1 : IntKind.i64.wrap ((xi : Int) * yj) = ((xi * yj : Nat) : Int) := by have := HT.out; rw [IntWalk.i64_in _ (by omega)]; omega
          generalize xi * yj = P at *
          have w2 : IntKind.i64.wrap ((q : Int) + P) = ((q + P : Nat) : Int) := by rw [IntWalk.i64_in _ (by have := HT.out; have := HP.out; omega)]; omega
          have w3 : IntKind.i64.wrap (((q + P : Nat) : Int) + cc) = ((P + cc + q : Nat) : Int) := by rw [IntWalk.i64_in _ (by have := HT.out; have := HP.out; have := HC.out; omega)]; omega
          have HQ : Hid (P + cc + q < 4294967296) := hid (by have := HT.out; have := HP.out; have := HC.out; omega)
          generalize q + P = q1 at *
          generalize P + cc + q = T at *
          have HE : Hid (rowD xi ys k z (m + 1) = (zz.set (k + m) (T % 65536), T / 65536)) := hid (by rw [HRN.out, HS.out])
          have hT0 : (0 : Int) ≤ T := by omega
          have km0 : (0 : Int) ≤ (k : Int) + m := by omega
          have kmw : IntKind.i64.wrap ((k : Int) + m) = (k : Int) + m := IntWalk.i64_in _ (by omega)
          have kmn : ((k : Int) + m).toNat = k + m := by omega
          have kml : (k : Int) + m < 20 := by omega
          have m0 : (0 : Int) ≤ m := by omega
          have m4 : (m : Int) < 10 := by omega
          go_wp2
          go_quiet (fail)
          replace hZ := hZ.drewN nq
          replace hB := below_drewN hB nq
          replace cz : (W2.drewN nq).cell? _ = _ := cz
          replace fz : (W2.drewN nq).frozen? _ = _ := fz
          clear cx1 cy0
          generalize W2.drewN nq = W3 at *
          go_wp2
          go_roundw
          case rel =>
            refine ⟨m + 1, by omega, by go_num, by rw [HE.out, e64 T HQ.out], hB.setCell (Nat.le_refl _) _, ?_⟩
            have h := hZ.set (k + m) ((T % 65536 : Nat) : Int)
            rw [nl_set, Nat.zero_add] at h
            rw [HE.out]
            exact h
          case measure => simp [intOf]; omega
        · have e : m = 10 := by omega
          subst e
          have HRL := hid (rowD_length xi ys k z 10)
          have HRW := hid (rowD_digsL xi ys k z HXi.out HYD.out HZW.out 10)
          rw [HCP.out, Nat.zero_add] at HCN
          generalize rowD xi ys k z 10 = st at *
          rcases st with ⟨zz, cc⟩
          dsimp only at *
          have hzz : k + 10 < zz.length := by rw [HRL.out, HZL.out]; omega
          have cz := hZ.at_ (i := k + 10) (nl_at hzz)
          have fz := hZ.free (i := k + 10) (by rw [nl_length]; exact hzz)
          rw [HCP.out] at cz
          rw [Nat.zero_add] at cz fz
          have kmw : IntKind.i64.wrap ((k : Int) + 10) = (k : Int) + 10 := IntWalk.i64_in _ (by omega)
          have kmn : ((k : Int) + 10).toNat = k + 10 := by omega
          have km0 : (0 : Int) ≤ (k : Int) + 10 := by omega
          have kml : (k : Int) + 10 < 20 := by omega
          have hcw : IntKind.i64.wrap (cc : Int) = cc := IntWalk.i64_in _ (by have := HRW.out.2; omega)
          clear hlt2
          go_wp2
          go_roundw
          case rel =>
            refine ⟨k + 1, by omega, by go_num, hB.setCell (Nat.le_refl _) _, ?_⟩
            have h := hZ.set (k + 10) ((cc : Nat) : Int)
            rw [nl_set, Nat.zero_add] at h
            rw [HCN.out]
            exact h
          case measure => simp [intOf]; omega
    · have e : k = 10 := by omega
      rw [e, ← HDC.out] at hZ
      have hk16 : ¬ (k : Int) < 10 := by omega
      have hNZ : Nums wr .i64 (some ⟨w.heap.size, 0, none⟩) (nl (digs xs ys)) := hZ.nums
      generalize digs xs ys = ds at *
      clear hZ hlt e HDC HXD HYD
      go_wp2_with (fail)
      refine (mod_walk (some ⟨w.heap.size, 0, none⟩) 20 20 _ ds HDE.out.1 (by omega) HDE.out.2.1 hNZ).mono ?_
      rw [HDE.out.2.2]
      rintro e w6 ⟨A2, c2, ys2, rfl, HY, hN2, hb6⟩
      go_wp2
      go_ret
      exact ROut.mk HY.out (hN2.less hB.size) (hB.trans (Below.mono hb6 hB.size))
end Go.Proofs.Ythohfhloobmlpaa
