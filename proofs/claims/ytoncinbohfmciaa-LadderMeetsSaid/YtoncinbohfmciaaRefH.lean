/- The reference's product. -/
import Derived.Test.YtoncinbohfmciaaRefG
namespace Go.Proofs.Ytoncinbohfmciaa
open Go.RowKit

theorem num_cell {w : World} {k : IntKind} {g o : Nat} {xs : List Int} {i : Nat} {x : Int} (h : Nums w k (some ⟨g, o, none⟩) xs) (hx : xs[i]? = some x) : w.cell? ⟨g, o + i, none⟩ = some (.int k x) := by
  obtain ⟨hi, hxe⟩ := List.getElem?_eq_some_iff.1 hx
  obtain ⟨b, off, e, _, hc⟩ := h (by omega)
  injection e with e
  injection e with e1 e2
  subst e1 e2
  have := hc i hi
  rw [this]
  simp [List.getD, hx]
theorem e64 (T : Nat) (h : T < 4294967296) : Value.int .i64 (wrap64 ((T : Int) / 65536)) = Value.int .i64 ((T / 65536 : Nat) : Int) := by
  congr 1
  unfold wrap64
  omega
set_option maxRecDepth 4000 in
set_option maxHeartbeats 1000000 in
theorem rmul_core (gx ox cx gy oy cy : Nat) (x y : List Nat) (w : World) (lx : 8 ≤ x.length ∧ x.length ≤ 20) (ly : 8 ≤ y.length ∧ y.length ≤ 20) (hx : Digs x) (hy : Digs y) (hX : Nums w .i64 (some ⟨gx, ox, none⟩) (nl x)) (hY : Nums w .i64 (some ⟨gy, oy, none⟩) (nl y)) :
    Calls Try.prog 17 #[.slice (some ⟨gx, ox, none⟩) x.length cx, .slice (some ⟨gy, oy, none⟩) y.length cy] w (ROut (dv x * dv y % NT.PN) w) := by
  have HG : Hid (gx < w.heap.size ∧ gy < w.heap.size) := hid ⟨hX.lt0 (by rw [nl_length]; omega), hY.lt0 (by rw [nl_length]; omega)⟩
  have HX := hid hx
  have HY := hid hy
  clear hx hy
  have hs : IntKind.i64.wrap ((x.length : Int) + y.length) = ((x.length + y.length : Nat) : Int) := by rw [IntWalk.i64_in _ (by omega)]; omega
  go_enter Try.func17, Try.ntmps17
  have hmk : ∀ w : World, (Instr.makeSlice 32 (.int .i64 ((x.length : Int) + y.length)) (.int .i64 ((x.length : Int) + y.length))).run Try.prog w = .ok (.slice (some ⟨w.heap.size, 0, none⟩) (x.length + y.length) (x.length + y.length)) (w.alloc (.cells (ints .i64 (nl (colD x y 0))).toArray 3)) := fun w => by
    have := make28 (x.length + y.length) (by omega) w
    rw [← Int.natCast_add]
    exact this
  go_wp2
  have hB := below_new w (.cells (ints .i64 (nl (colD x y 0))).toArray 3)
  have hZ := Arr.made w .i64 (nl (colD x y 0)) 3
  have hX1 := hX.below hB
  have hY1 := hY.below hB
  generalize w.alloc (.cells (ints .i64 (nl (colD x y 0))).toArray 3) = W0 at *
  clear hX hY hmk hs
  go_loopw [6] (fun i wr => ∃ k : Nat, k ≤ x.length ∧ i = .int .i64 k ∧ Below w.heap.size w wr ∧ Nums wr .i64 (some ⟨gx, ox, none⟩) (nl x) ∧ Nums wr .i64 (some ⟨gy, oy, none⟩) (nl y) ∧ Arr wr w.heap.size 0 .i64 (nl (colD x y k)) ∧ Hid (gx < w.heap.size ∧ gy < w.heap.size)) (fun i _ => x.length - (intOf i).toNat)
  case atStart => exact ⟨0, by omega, rfl, hB, hX1, hY1, hZ, HG⟩
  case round =>
    clear hB hZ hX1 hY1
    obtain ⟨k, hk, rfl, hB, hX, hY, hZ, HG⟩ := hrel
    by_cases hlt : k < x.length
    · have HXA : Hid ((nl x)[k]? = some ((x.getD k 0 : Nat) : Int)) := hid (nl_at hlt)
      have HXi : Hid (x.getD k 0 < 65536) := hid (getD_dig HX.out k)
      have HZL := hid (colD_length x y k)
      have HZW := hid (colD_digs x y HX.out HY.out k)
      have HCN : Hid (colD x y (k + 1) = (rowD (x.getD k 0) y k (colD x y k) y.length).1.set (k + y.length) ((rowD (x.getD k 0) y k (colD x y k) y.length).1.getD (k + y.length) 0 + (rowD (x.getD k 0) y k (colD x y k) y.length).2)) := hid rfl
      have HCP : Hid ((rowD (x.getD k 0) y k (colD x y k) y.length).1.getD (k + y.length) 0 = 0) := hid (by rw [rowD_past _ _ _ _ _ _ (Nat.le_refl _), colD_past _ _ _ _ (Nat.le_refl _)])
      generalize colD x y k = z at *
      generalize x.getD k 0 = xi at *
      have hZ0 : Arr wr w.heap.size 0 .i64 (nl (rowD xi y k z 0).1) := hZ
      clear hZ
      have k0 : (0 : Int) ≤ k := by omega
      have k4 : (k : Int) < x.length := by omega
      rename World => W1
      go_wp2
      go_loopw [7, 8] (fun c j wr => ∃ m : Nat, m ≤ y.length ∧ j = .int .i64 m ∧ c = .int .i64 ((rowD xi y k z m).2 : Nat) ∧ Below w.heap.size w wr ∧ Nums wr .i64 (some ⟨gx, ox, none⟩) (nl x) ∧ Nums wr .i64 (some ⟨gy, oy, none⟩) (nl y) ∧ Arr wr w.heap.size 0 .i64 (nl (rowD xi y k z m).1)) (fun _ j _ => y.length - (intOf j).toNat)
      case atStart => exact ⟨0, by omega, rfl, rfl, hB, hX, hY, hZ0⟩
      case round =>
        clear hB hX hY hZ0
        obtain ⟨m, hm, rfl, rfl, hB, hX, hY, hZ⟩ := hrel
        by_cases hlt2 : m < y.length
        · rename World => W2
          have HYM : Hid (y.getD m 0 < 65536) := hid (getD_dig HY.out m)
          have cx := num_cell hX HXA.out
          have cy := num_cell hY (nl_at hlt2)
          have HRN : Hid (rowD xi y k z (m + 1) = stepD xi (y.getD m 0) (k + m) (rowD xi y k z m)) := hid rfl
          have HRL := hid (rowD_length xi y k z m)
          have HRW := hid (rowD_digsL xi y k z HXi.out HY.out HZW.out m)
          generalize y.getD m 0 = yj at *
          generalize rowD xi y k z m = st at *
          rcases st with ⟨zz, cc⟩
          dsimp only at *
          have hzz : k + m < zz.length := by rw [HRL.out, HZL.out]; omega
          have cz := hZ.at_ (i := k + m) (nl_at hzz)
          have fz := hZ.free (i := k + m) (by rw [nl_length]; exact hzz)
          rw [Nat.zero_add] at cz fz
          have HP : Hid (zz.getD (k + m) 0 < 65536) := hid (getD_dig HRW.out.1 _)
          have HS : Hid (stepD xi yj (k + m) (zz, cc) = (zz.set (k + m) ((xi * yj + cc + zz.getD (k + m) 0) % 65536), (xi * yj + cc + zz.getD (k + m) 0) / 65536)) := hid rfl
          generalize zz.getD (k + m) 0 = q at *
          have HC : Hid (cc < 65536) := hid HRW.out.2
          have HT : Hid (xi * yj ≤ 4294836225) := hid (Nat.mul_le_mul (Nat.le_pred_of_lt HXi.out) (Nat.le_pred_of_lt HYM.out))
          have w1 : IntKind.i64.wrap ((xi : Int) * yj) = ((xi * yj : Nat) : Int) := by have := HT.out; rw [IntWalk.i64_in _ (by omega)]; omega
          generalize xi * yj = P at *
          have w2 : IntKind.i64.wrap ((q : Int) + P) = ((q + P : Nat) : Int) := by rw [IntWalk.i64_in _ (by have := HT.out; have := HP.out; omega)]; omega
          have hT1 : Hid (q + P < 4294967296) := hid (by have := HT.out; have := HP.out; omega)
          have w3 : IntKind.i64.wrap (((q + P : Nat) : Int) + cc) = ((P + cc + q : Nat) : Int) := by rw [IntWalk.i64_in _ (by have := HT.out; have := HP.out; have := HC.out; omega)]; omega
          have HQ : Hid (P + cc + q < 4294967296) := hid (by have := HT.out; have := HP.out; have := HC.out; omega)
          generalize q + P = q1 at *
          generalize P + cc + q = T at *
          have HE : Hid (rowD xi y k z (m + 1) = (zz.set (k + m) (T % 65536), T / 65536)) := hid (by rw [HRN.out, HS.out])
          have hT0 : (0 : Int) ≤ T := by omega
          have km0 : (0 : Int) ≤ (k : Int) + m := by omega
          have kmw : IntKind.i64.wrap ((k : Int) + m) = (k : Int) + m := IntWalk.i64_in _ (by omega)
          have kmn : ((k : Int) + m).toNat = k + m := by omega
          have kml : (k : Int) + m < (x.length : Int) + y.length := by omega
          have m0 : (0 : Int) ≤ m := by omega
          have m4 : (m : Int) < y.length := by omega
          go_wp2
          go_quiet (fail)
          replace hX := hX.drewN nq
          replace hY := hY.drewN nq
          replace hZ := hZ.drewN nq
          replace hB := below_drewN hB nq
          replace cz : (W2.drewN nq).cell? _ = _ := cz
          replace fz : (W2.drewN nq).frozen? _ = _ := fz
          clear cx cy
          generalize W2.drewN nq = W3 at *
          go_wp2
          go_roundw
          case rel =>
            refine ⟨m + 1, by omega, by go_num, by rw [HE.out, e64 T HQ.out], hB.setCell (by simp) _, hX.setOff _ (by show w.heap.size ≠ gx; have := HG.out; omega), hY.setOff _ (by show w.heap.size ≠ gy; have := HG.out; omega), ?_⟩
            have h := hZ.set (k + m) ((T % 65536 : Nat) : Int)
            rw [nl_set, Nat.zero_add] at h
            rw [HE.out]
            exact h
          case measure => simp [intOf]; omega
        · have e : m = y.length := by omega
          subst e
          have HRL := hid (rowD_length xi y k z y.length)
          have HRW := hid (rowD_digsL xi y k z HXi.out HY.out HZW.out y.length)
          rw [HCP.out, Nat.zero_add] at HCN
          generalize rowD xi y k z y.length = st at *
          rcases st with ⟨zz, cc⟩
          dsimp only at *
          have hzz : k + y.length < zz.length := by rw [HRL.out, HZL.out]; omega
          have cz := hZ.at_ (i := k + y.length) (nl_at hzz)
          have fz := hZ.free (i := k + y.length) (by rw [nl_length]; exact hzz)
          rw [HCP.out] at cz
          rw [Nat.zero_add] at cz fz
          have kmw : IntKind.i64.wrap ((k : Int) + y.length) = (k : Int) + y.length := IntWalk.i64_in _ (by omega)
          have kmn : ((k : Int) + y.length).toNat = k + y.length := by omega
          have km0 : (0 : Int) ≤ (k : Int) + y.length := by omega
          have kml : (k : Int) + y.length < (x.length : Int) + y.length := by omega
          have hcw : IntKind.i64.wrap (cc : Int) = cc := IntWalk.i64_in _ (by have := HRW.out.2; omega)
          clear hlt2
          go_wp2
          go_roundw
          case rel =>
            refine ⟨k + 1, by omega, by go_num, hB.setCell (by simp) _, hX.setOff _ (by show w.heap.size ≠ gx; have := HG.out; omega), hY.setOff _ (by show w.heap.size ≠ gy; have := HG.out; omega), ?_, HG⟩
            have h := hZ.set (k + y.length) ((cc : Nat) : Int)
            rw [nl_set, Nat.zero_add] at h
            rw [HCN.out]
            exact h
          case measure => simp [intOf]; omega
    · have e : k = x.length := by omega
      subst e
      have HM : Hid (Digs (digs x y) ∧ (digs x y).length = x.length + y.length ∧ dv (digs x y) = dv x * dv y) := hid ⟨digs_digs x y HX.out HY.out, digs_length x y, digs_dv x y⟩
      have hNZ : Nums wr .i64 (some ⟨w.heap.size, 0, none⟩) (nl (digs x y)) := hZ.nums
      clear hX hY hZ
      go_wp2_with (fail)
      refine (rmod_out _ _ (x.length + y.length) _ (digs x y) _ HM.out.2.1 (by omega) (by omega) HM.out.1 hNZ HM.out.2.2).mono ?_
      rintro e3 w3 ⟨A3, c3, ys3, rfl, HY3, hN3, hb3⟩
      have hb4 := hB.trans (hb3.mono hB.size)
      have hN4 := hN3.less hB.size
      go_wp2
      go_ret
      exact ROut.mk HY3.out hN4 hb4
theorem rmul_walk {A B : Option Addr} {cA cB m n : Nat} {a b : List Nat} {w : World} (ha : Rp a m) (hb : Rp b n) (hA : Nums w .i64 A (nl a)) (hB : Nums w .i64 B (nl b)) : Calls Try.prog 17 #[.slice A 16 cA, .slice B 16 cB] w (ROut (m * n % NT.PN) w) := by
  obtain ⟨g, o, rfl, _, _⟩ := hA.num (by rw [nl_length, ha.1]; omega)
  obtain ⟨g2, o2, rfl, _, _⟩ := hB.num (by rw [nl_length, hb.1]; omega)
  have h := rmul_core g o cA g2 o2 cB a b w (by rw [ha.1]; omega) (by rw [hb.1]; omega) ha.2.1 hb.2.1 hA hB
  rw [ha.1, hb.1, ha.2.2, hb.2.2] at h
  exact h
end Go.Proofs.Ytoncinbohfmciaa
