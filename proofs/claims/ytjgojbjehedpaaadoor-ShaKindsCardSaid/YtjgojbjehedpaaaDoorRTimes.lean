/- The product of digits, as the reference makes it. -/
import Derived.Test.YtjgojbjehedpaaaDoorDigMath
import Derived.Test.YtjgojbjehedpaaaDoorRoot
import Derived.Laws.OwnMore
namespace Go.Proofs.YtjgojbjehedpaaaDoor
open Go.RowKit

theorem Tryd.info3 : (Tryd.prog.info? 3).map (fun i => (i.zero, i.size, i.bytes)) = some (some (.int .i64 0), 1, 8) := by kernel_rfl
theorem make44 (n : Nat) (h : n ≤ 1000) (w : World) : (Instr.makeSlice 44 (.int .i64 (n : Int)) (.int .i64 (n : Int))).run Tryd.prog w = .ok (.slice (some ⟨w.heap.size, 0, none⟩) n n) (w.alloc (.cells (ints .i64 (nl (List.replicate n 0))).toArray 3)) := by
  have hi := Tryd.info3
  cases hc : Tryd.prog.info? 3 with
  | none => rw [hc] at hi; simp at hi
  | some i =>
    rw [hc] at hi
    simp only [Option.map_some, Option.some.injEq, Prod.mk.injEq] at hi
    have h2 := run_make (P := Tryd.prog) w 44 3 i (.int .i64 0) (by kernel_rfl) hc hi.1 .i64 .i64 n n (by omega) (by omega) (by rw [hi.2.2]; omega) (by omega)
    rw [h2, hi.2.1]
    simp only [Int.toNat_natCast, Nat.mul_one]
    congr 3
    apply Array.toList_inj.1
    show (madeCells #[.int .i64 0] n).toList = _
    rw [toList_madeCells_one]
    simp [ints, nl]

theorem num_cell {w : World} {k : IntKind} {g o : Nat} {xs : List Int} {i : Nat} {x : Int} (h : Nums w k (some ⟨g, o, none⟩) xs) (hx : xs[i]? = some x) : w.cell? ⟨g, o + i, none⟩ = some (.int k x) := by
  obtain ⟨hi, hxe⟩ := List.getElem?_eq_some_iff.1 hx
  obtain ⟨b, off, e, _, hc⟩ := h (by omega)
  injection e with e
  injection e with e1 e2
  subst e1 e2
  have := hc i hi
  rw [this]
  simp [List.getD, hx]
theorem num_lt {w : World} {k : IntKind} {g o : Nat} {xs : List Int} (h : Nums w k (some ⟨g, o, none⟩) xs) (hp : 0 < xs.length) : g < w.heap.size := by
  obtain ⟨b, off, e, hl, _⟩ := h hp
  injection e with e
  injection e with e1 e2
  rw [e1]; exact hl

theorem Nums.drewN {w : World} {k : IntKind} {A : Option Addr} {xs : List Int} (h : Nums w k A xs) (n : Nat) : Nums (w.drewN n) k A xs := h

theorem e64 (T : Nat) (h : T < 4294967296) : Value.int .i64 (wrap64 ((T : Int) / 65536)) = Value.int .i64 ((T / 65536 : Nat) : Int) := by
  congr 1
  unfold wrap64
  omega
theorem Nums.setOff {w : World} {k : IntKind} {g o : Nat} {xs : List Int} (h : Nums w k (some ⟨g, o, none⟩) xs) {p : Addr} (v : Value) (hp : p.block ≠ g) : Nums (w.setCell p v) k (some ⟨g, o, none⟩) xs := fun hl => by
  obtain ⟨b, off, e, hb, hc⟩ := h hl
  injection e with e
  injection e with e1 e2
  subst e1 e2
  refine ⟨g, o, rfl, by simpa using hb, fun i hi => ?_⟩
  rw [World.cell?_setCell_other _ _ _ _ (by intro q; rw [q] at hp; exact hp rfl)]
  exact hc i hi

set_option maxRecDepth 4000 in
set_option maxHeartbeats 1000000 in
theorem rtimes_any (gx ox cx gy oy cy : Nat) (x y : List Nat) (w : World) (lx : 1 ≤ x.length ∧ x.length ≤ 100) (ly : 1 ≤ y.length ∧ y.length ≤ 100) (hx : Digs x) (hy : Digs y) (hX : Nums w .i64 (some ⟨gx, ox, none⟩) (nl x)) (hY : Nums w .i64 (some ⟨gy, oy, none⟩) (nl y)) :
    Calls Tryd.prog 27 #[.slice (some ⟨gx, ox, none⟩) x.length cx, .slice (some ⟨gy, oy, none⟩) y.length cy] w fun e w' => ∃ B, e = .returned (.slice (some ⟨B, 0, none⟩) (x.length + y.length) (x.length + y.length)) ∧ Arr w' B 0 .i64 (nl (digs x y)) ∧ w.heap.size ≤ B ∧ Below w.heap.size w w' := by
  have HG : Hid (gx < w.heap.size ∧ gy < w.heap.size) := hid ⟨num_lt hX (by rw [nl_length]; omega), num_lt hY (by rw [nl_length]; omega)⟩
  have HX := hid hx
  have HY := hid hy
  clear hx hy
  have hs : IntKind.i64.wrap ((x.length : Int) + y.length) = ((x.length + y.length : Nat) : Int) := by rw [IntWalk.i64_in _ (by omega)]; omega
  go_enter Tryd.func27, Tryd.ntmps27
  have hmk : ∀ w : World, (Instr.makeSlice 44 (.int .i64 ((x.length : Int) + y.length)) (.int .i64 ((x.length : Int) + y.length))).run Tryd.prog w = .ok (.slice (some ⟨w.heap.size, 0, none⟩) (x.length + y.length) (x.length + y.length)) (w.alloc (.cells (ints .i64 (nl (colD x y 0))).toArray 3)) := fun w => by
    have := make44 (x.length + y.length) (by omega) w
    rw [← Int.natCast_add]
    exact this
  go_wp2
  have hB := below_new w (.cells (ints .i64 (nl (colD x y 0))).toArray 3)
  have hZ := Arr.made w .i64 (nl (colD x y 0)) 3
  have hX1 := hX.below hB
  have hY1 := hY.below hB
  generalize w.alloc (.cells (ints .i64 (nl (colD x y 0))).toArray 3) = W0 at *
  clear hX hY hmk hs
  go_loopw [6] (fun i wr => ∃ k : Nat, k ≤ x.length ∧ i = .int .i64 k ∧ Below w.heap.size w wr ∧ Nums wr .i64 (some ⟨gx, ox, none⟩) (nl x) ∧ Nums wr .i64 (some ⟨gy, oy, none⟩) (nl y) ∧ Arr wr w.heap.size 0 .i64 (nl (colD x y k)) ∧ Hid (gx < w.heap.size ∧ gy < w.heap.size)) (fun i _ => x.length - (intOf i).toNat)
  case atStart => exact ⟨0, by omega, rfl, hB, hX1, hY1, hZ, HG⟩
  case round =>
    clear hB hZ hX1 hY1
    obtain ⟨k, hk, rfl, hB, hX, hY, hZ, HG⟩ := hrel
    by_cases hlt : k < x.length
    · have HXA : Hid ((nl x)[k]? = some ((x.getD k 0 : Nat) : Int)) := hid (nl_at hlt)
      have HXi : Hid (x.getD k 0 < 65536) := hid (getD_dig HX.out k)
      have HZL := hid (colD_length x y k)
      have HZW := hid (colD_digs x y HX.out HY.out k)
      have HCN : Hid (colD x y (k + 1) = (rowD (x.getD k 0) y k (colD x y k) y.length).1.set (k + y.length) ((rowD (x.getD k 0) y k (colD x y k) y.length).1.getD (k + y.length) 0 + (rowD (x.getD k 0) y k (colD x y k) y.length).2)) := hid rfl
      have HCP : Hid ((rowD (x.getD k 0) y k (colD x y k) y.length).1.getD (k + y.length) 0 = 0) := hid (by rw [rowD_past _ _ _ _ _ _ (Nat.le_refl _), colD_past _ _ _ _ (Nat.le_refl _)])
      generalize colD x y k = z at *
      generalize x.getD k 0 = xi at *
      have hZ0 : Arr wr w.heap.size 0 .i64 (nl (rowD xi y k z 0).1) := hZ
      clear hZ
      have k0 : (0 : Int) ≤ k := by omega
      have k4 : (k : Int) < x.length := by omega
      rename World => W1
      go_wp2
      go_loopw [7, 8] (fun c j wr => ∃ m : Nat, m ≤ y.length ∧ j = .int .i64 m ∧ c = .int .i64 ((rowD xi y k z m).2 : Nat) ∧ Below w.heap.size w wr ∧ Nums wr .i64 (some ⟨gx, ox, none⟩) (nl x) ∧ Nums wr .i64 (some ⟨gy, oy, none⟩) (nl y) ∧ Arr wr w.heap.size 0 .i64 (nl (rowD xi y k z m).1)) (fun _ j _ => y.length - (intOf j).toNat)
      case atStart => exact ⟨0, by omega, rfl, rfl, hB, hX, hY, hZ0⟩
      case round =>
        clear hB hX hY hZ0
        obtain ⟨m, hm, rfl, rfl, hB, hX, hY, hZ⟩ := hrel
        by_cases hlt2 : m < y.length
        · rename World => W2
          have HYM : Hid (y.getD m 0 < 65536) := hid (getD_dig HY.out m)
          have cx := num_cell hX HXA.out
          have cy := num_cell hY (nl_at hlt2)
          have HRN : Hid (rowD xi y k z (m + 1) = stepD xi (y.getD m 0) (k + m) (rowD xi y k z m)) := hid rfl
          have HRL := hid (rowD_length xi y k z m)
          have HRW := hid (rowD_digsL xi y k z HXi.out HY.out HZW.out m)
          generalize y.getD m 0 = yj at *
          generalize rowD xi y k z m = st at *
          rcases st with ⟨zz, cc⟩
          dsimp only at *
          have hzz : k + m < zz.length := by rw [HRL.out, HZL.out]; omega
          have cz := hZ.at_ (i := k + m) (nl_at hzz)
          have fz := hZ.free (i := k + m) (by rw [nl_length]; exact hzz)
          rw [Nat.zero_add] at cz fz
          have HP : Hid (zz.getD (k + m) 0 < 65536) := hid (getD_dig HRW.out.1 _)
          have HS : Hid (stepD xi yj (k + m) (zz, cc) = (zz.set (k + m) ((xi * yj + cc + zz.getD (k + m) 0) % 65536), (xi * yj + cc + zz.getD (k + m) 0) / 65536)) := hid rfl
          generalize zz.getD (k + m) 0 = q at *
          have HC : Hid (cc < 65536) := hid HRW.out.2
          have HT : Hid (xi * yj ≤ 4294836225) := hid (Nat.mul_le_mul (Nat.le_pred_of_lt HXi.out) (Nat.le_pred_of_lt HYM.out))
          have w1 : IntKind.i64.wrap ((xi : Int) * yj) = ((xi * yj : Nat) : Int) := by have := HT.out; rw [IntWalk.i64_in _ (by omega)]; omega
          generalize xi * yj = P at *
          have w2 : IntKind.i64.wrap ((q : Int) + P) = ((q + P : Nat) : Int) := by rw [IntWalk.i64_in _ (by have := HT.out; have := HP.out; omega)]; omega
          have hT1 : Hid (q + P < 4294967296) := hid (by have := HT.out; have := HP.out; omega)
          have w3 : IntKind.i64.wrap (((q + P : Nat) : Int) + cc) = ((P + cc + q : Nat) : Int) := by rw [IntWalk.i64_in _ (by have := HT.out; have := HP.out; have := HC.out; omega)]; omega
          have HQ : Hid (P + cc + q < 4294967296) := hid (by have := HT.out; have := HP.out; have := HC.out; omega)
          generalize q + P = q1 at *
          generalize P + cc + q = T at *
          have HE : Hid (rowD xi y k z (m + 1) = (zz.set (k + m) (T % 65536), T / 65536)) := hid (by rw [HRN.out, HS.out])
          have hT0 : (0 : Int) ≤ T := by omega
          have km0 : (0 : Int) ≤ (k : Int) + m := by omega
          have kmw : IntKind.i64.wrap ((k : Int) + m) = (k : Int) + m := IntWalk.i64_in _ (by omega)
          have kmn : ((k : Int) + m).toNat = k + m := by omega
          have kml : (k : Int) + m < (x.length : Int) + y.length := by omega
          have m0 : (0 : Int) ≤ m := by omega
          have m4 : (m : Int) < y.length := by omega
          go_wp2
          go_quiet (fail)
          replace hX := hX.drewN nq
          replace hY := hY.drewN nq
          replace hZ := hZ.drewN nq
          replace hB := below_drewN hB nq
          replace cz : (W2.drewN nq).cell? _ = _ := cz
          replace fz : (W2.drewN nq).frozen? _ = _ := fz
          clear cx cy
          generalize W2.drewN nq = W3 at *
          go_wp2
          go_roundw
          case rel =>
            refine ⟨m + 1, by omega, by go_num, by rw [HE.out, e64 T HQ.out], hB.setCell (by simp) _, hX.setOff _ (by show w.heap.size ≠ gx; have := HG.out; omega), hY.setOff _ (by show w.heap.size ≠ gy; have := HG.out; omega), ?_⟩
            have h := hZ.set (k + m) ((T % 65536 : Nat) : Int)
            rw [nl_set, Nat.zero_add] at h
            rw [HE.out]
            exact h
          case measure => simp [intOf]; omega
        · have e : m = y.length := by omega
          subst e
          have HRL := hid (rowD_length xi y k z y.length)
          have HRW := hid (rowD_digsL xi y k z HXi.out HY.out HZW.out y.length)
          rw [HCP.out, Nat.zero_add] at HCN
          generalize rowD xi y k z y.length = st at *
          rcases st with ⟨zz, cc⟩
          dsimp only at *
          have hzz : k + y.length < zz.length := by rw [HRL.out, HZL.out]; omega
          have cz := hZ.at_ (i := k + y.length) (nl_at hzz)
          have fz := hZ.free (i := k + y.length) (by rw [nl_length]; exact hzz)
          rw [HCP.out] at cz
          rw [Nat.zero_add] at cz fz
          have kmw : IntKind.i64.wrap ((k : Int) + y.length) = (k : Int) + y.length := IntWalk.i64_in _ (by omega)
          have kmn : ((k : Int) + y.length).toNat = k + y.length := by omega
          have km0 : (0 : Int) ≤ (k : Int) + y.length := by omega
          have kml : (k : Int) + y.length < (x.length : Int) + y.length := by omega
          have hcw : IntKind.i64.wrap (cc : Int) = cc := IntWalk.i64_in _ (by have := HRW.out.2; omega)
          clear hlt2
          go_wp2
          go_roundw
          case rel =>
            refine ⟨k + 1, by omega, by go_num, hB.setCell (by simp) _, hX.setOff _ (by show w.heap.size ≠ gx; have := HG.out; omega), hY.setOff _ (by show w.heap.size ≠ gy; have := HG.out; omega), ?_, HG⟩
            have h := hZ.set (k + y.length) ((cc : Nat) : Int)
            rw [nl_set, Nat.zero_add] at h
            rw [HCN.out]
            exact h
          case measure => simp [intOf]; omega
    · have e : k = x.length := by omega
      subst e
      go_wp2
      go_ret
      exact ⟨w.heap.size, rfl, hZ, Nat.le_refl _, hB⟩
end Go.Proofs.YtjgojbjehedpaaaDoor
