/- The product of numbers of four words, as the code makes it. -/
import Derived.Test.YtjgojbjehedpaaaDoorWide
import Derived.Test.YtjgojbjehedpaaaDoorWideMath
namespace Go.Proofs.YtjgojbjehedpaaaDoor
open Go.RowKit
theorem Tryd.info66 : (Tryd.prog.info? 66).map (fun i => (i.zero, i.size)) = some (some (.agg (ints .u64 (zeros 4)).toArray), 4) := by kernel_rfl
def nl (l : List Nat) : List Int := l.map fun (v : Nat) => (v : Int)
@[simp] theorem nl_length (l : List Nat) : (nl l).length = l.length := by simp [nl]
theorem nl_at {l : List Nat} {i : Nat} (h : i < l.length) : (nl l)[i]? = some ((l.getD i 0 : Nat) : Int) := by simp [nl, h]
theorem nl_set (l : List Nat) (i v : Nat) : (nl l).set i (v : Int) = nl (l.set i v) := by simp [nl]

theorem add_run0 (x y : Nat) (hx : x < 18446744073709551616) (hy : y < 18446744073709551616) (w : World) :
    (callFunc 37 #[.int .u64 (x : Int), .int .u64 (y : Int), .int .u64 0]).run Tryd.prog w =
      .ok (.value (.tuple #[.int .u64 (((x + y) % 18446744073709551616 : Nat) : Int), .int .u64 (((x + y) / 18446744073709551616 : Nat) : Int)])) w := add_run x y 0 hx hy (by omega) w
/-- What the two sums with carries come to. -/
theorem step_sums (T c z : Nat) (hT : T ≤ 340282366920938463426481119284349108225) (hc : c < 18446744073709551616) :
    (z + (T % 18446744073709551616 + c) % 18446744073709551616) % 18446744073709551616 = (T + c + z) % 18446744073709551616 ∧
    T / 18446744073709551616 + (T % 18446744073709551616 + c) / 18446744073709551616 < 18446744073709551616 ∧
    T / 18446744073709551616 + (T % 18446744073709551616 + c) / 18446744073709551616 + (z + (T % 18446744073709551616 + c) % 18446744073709551616) / 18446744073709551616 = (T + c + z) / 18446744073709551616 := by
  refine ⟨by omega, by omega, by omega⟩

set_option maxRecDepth 4000 in
set_option maxHeartbeats 1000000 in
theorem times_any (x y : List Nat) (w : World) (lx : x.length = 4) (ly : y.length = 4) (hx : Words x) (hy : Words y) :
    Calls Tryd.prog 31 #[.agg (ints .u64 (nl x)).toArray, .agg (ints .u64 (nl y)).toArray] w fun e w' => e = .returned (.agg (ints .u64 (nl (tms x y))).toArray) ∧ Below w.heap.size w w' := by
  obtain ⟨z66, s66⟩ := zero_of_info Tryd.info66
  have HLX := hid lx
  have HLY := hid ly
  have HX := hid hx
  have HY := hid hy
  clear lx ly hx hy
  go_enter Tryd.func31, Tryd.ntmps31
  go_wp2
  generalize hW : ((((w.alloc (.cells (ints .u64 (nl x)).toArray 66)).alloc (.cells (ints .u64 (nl y)).toArray 66)).alloc (.cells (ints .u64 (zeros 4)).toArray 66)).alloc (.cells (ints .u64 (zeros 4)).toArray 66)) = W
  have hX : Arr W w.heap.size 0 .u64 (nl x) := by rw [← hW]; exact (((Arr.made w .u64 (nl x) 66).alloc _).alloc _).alloc _
  have hY : Arr W (w.heap.size + 1) 0 .u64 (nl y) := by
    rw [← hW]
    have h := ((Arr.made (w.alloc (.cells (ints .u64 (nl x)).toArray 66)) .u64 (nl y) 66).alloc (.cells (ints .u64 (zeros 4)).toArray 66)).alloc (.cells (ints .u64 (zeros 4)).toArray 66)
    simpa using h
  have hR : Arr W (w.heap.size + 1 + 1) 0 .u64 (zeros 4) := by
    rw [← hW]
    have h := (Arr.made ((w.alloc (.cells (ints .u64 (nl x)).toArray 66)).alloc (.cells (ints .u64 (nl y)).toArray 66)) .u64 (zeros 4) 66).alloc (.cells (ints .u64 (zeros 4)).toArray 66)
    simpa using h
  have hZ : Arr W (w.heap.size + 1 + 1 + 1) 0 .u64 (nl (colN x y 0)) := by
    show Arr W _ 0 .u64 (zeros 4)
    rw [← hW]
    have h := Arr.made (((w.alloc (.cells (ints .u64 (nl x)).toArray 66)).alloc (.cells (ints .u64 (nl y)).toArray 66)).alloc (.cells (ints .u64 (zeros 4)).toArray 66)) .u64 (zeros 4) 66
    simpa using h
  have hB : Below w.heap.size w W := by
    rw [← hW]
    exact (((below_new w _).alloc (by simp) _).alloc (by simp; omega) _).alloc (by simp; omega) _
  clear hW
  go_loopw [12] (fun i wr => ∃ k : Nat, k ≤ 4 ∧ i = .int .i64 k ∧ Below w.heap.size w wr ∧ Arr wr w.heap.size 0 .u64 (nl x) ∧ Arr wr (w.heap.size + 1) 0 .u64 (nl y) ∧ Arr wr (w.heap.size + 1 + 1) 0 .u64 (zeros 4) ∧ Arr wr (w.heap.size + 1 + 1 + 1) 0 .u64 (nl (colN x y k))) (fun i _ => 4 - (intOf i).toNat)
  case atStart => exact ⟨0, by omega, rfl, hB, hX, hY, hR, hZ⟩
  case round =>
    clear hB hX hY hR hZ
    obtain ⟨k, hk, rfl, hB, hX, hY, hR, hZ⟩ := hrel
    by_cases hlt : k < 4
    · have hXi : Hid (x.getD k 0 < 18446744073709551616) := hid (getD_lt HX.out k)
      have HXA : Hid ((nl x)[k]? = some ((x.getD k 0 : Nat) : Int)) := hid (nl_at (by rw [HLX.out]; exact hlt))
      have HXi : Hid (x.getD k 0 < 18446744073709551616) := hid (getD_lt HX.out k)
      have k0 : (0 : Int) ≤ k := by omega
      have k4 : (k : Int) < 4 := by omega
      have HN4 : IntKind.i64.wrap (4 - (k : Int)) = 4 - (k : Int) := IntWalk.i64_in _ (by omega)
      rename World => W1
      go_wp2
      have HZL := hid (colN_length x y k)
      have HZW := hid (colN_words x y HX.out HY.out k)
      have HCN : Hid (colN x y (k + 1) = (rowN (x.getD k 0) y k (colN x y k) (4 - k)).1) := hid rfl
      generalize colN x y k = z at *
      generalize x.getD k 0 = xi at *
      have hZ0 : Arr W1 (w.heap.size + 1 + 1 + 1) 0 .u64 (nl (rowN xi y k z 0).1) := hZ
      clear hZ
      go_loopw [7, 17] (fun c j wr => ∃ m : Nat, m + k ≤ 4 ∧ j = .int .i64 m ∧ c = .int .u64 ((rowN xi y k z m).2 : Nat) ∧ Below w.heap.size w wr ∧ Arr wr w.heap.size 0 .u64 (nl x) ∧ Arr wr (w.heap.size + 1) 0 .u64 (nl y) ∧ Arr wr (w.heap.size + 1 + 1) 0 .u64 (zeros 4) ∧ Arr wr (w.heap.size + 1 + 1 + 1) 0 .u64 (nl (rowN xi y k z m).1)) (fun _ j _ => 4 - (intOf j).toNat)
      case atStart => exact ⟨0, by omega, rfl, rfl, hB, hX, hY, hR, hZ0⟩
      case round =>
        clear hB hX hY hR hZ0
        obtain ⟨m, hm, rfl, rfl, hB, hX, hY, hR, hZ⟩ := hrel
        by_cases hlt2 : m + k < 4
        · rename World => W2
          have HYM : Hid (y.getD m 0 < 18446744073709551616) := hid (getD_lt HY.out m)
          have cx := hX.at_ (i := k) HXA.out
          have cy := hY.at_ (i := m) (nl_at (by rw [HLY.out]; omega))
          rw [Nat.zero_add] at cx cy
          have HRN : Hid (rowN xi y k z (m + 1) = stepM xi (y.getD m 0) (k + m) (rowN xi y k z m)) := hid rfl
          have HRL := hid (rowN_length xi y k z m)
          have HRW := hid (rowN_words xi y k z HXi.out HY.out HZW.out m)
          generalize y.getD m 0 = yj at *
          generalize rowN xi y k z m = st at *
          rcases st with ⟨zz, cc⟩
          dsimp only at *
          have cz := hZ.at_ (i := k + m) (nl_at (by rw [HRL.out, HZL.out]; omega))
          have fz := hZ.free (i := k + m) (by rw [nl_length, HRL.out, HZL.out]; omega)
          rw [Nat.zero_add] at cz fz
          have HP : Hid (zz.getD (k + m) 0 < 18446744073709551616) := hid (getD_lt HRW.out.1 _)
          have HS : Hid (stepM xi yj (k + m) (zz, cc) = (zz.set (k + m) ((xi * yj + cc + zz.getD (k + m) 0) % 18446744073709551616), (xi * yj + cc + zz.getD (k + m) 0) / 18446744073709551616)) := hid rfl
          generalize zz.getD (k + m) 0 = q at *
          have HC : Hid (cc < 18446744073709551616) := hid HRW.out.2
          have HM : ∀ w, Calls Tryd.prog 36 #[.int .u64 xi, .int .u64 yj] w _ := fun w => mul_any xi yj w HXi.out HYM.out
          have HT : Hid (xi * yj ≤ 340282366920938463426481119284349108225) := hid (Nat.mul_le_mul (Nat.le_pred_of_lt HXi.out) (Nat.le_pred_of_lt HYM.out))
          generalize xi * yj = T at *
          have HS2 := hid (step_sums T cc q HT.out HC.out)
          have hhi : Hid (T / 18446744073709551616 < 18446744073709551616) := hid (by have := HT.out; omega)
          have hlo : Hid (T % 18446744073709551616 < 18446744073709551616) := hid (Nat.mod_lt _ (by omega))
          generalize T / 18446744073709551616 = hi at *
          generalize T % 18446744073709551616 = lo at *
          have A1 := fun w => add_run0 lo cc hlo.out HC.out w
          have hs1 : Hid ((lo + cc) % 18446744073709551616 < 18446744073709551616) := hid (Nat.mod_lt _ (by omega))
          have hW1 : IntKind.u64.wrap ((hi : Int) + ((lo + cc) / 18446744073709551616 : Nat)) = ((hi + (lo + cc) / 18446744073709551616 : Nat) : Int) := by
            rw [IntWalk.u64_in _ (by have := HS2.out.2.1; omega)]; omega
          generalize (lo + cc) % 18446744073709551616 = s1 at *
          generalize (lo + cc) / 18446744073709551616 = c1 at *
          generalize hi + c1 = h1 at *
          have A2 := fun w => add_run0 q s1 HP.out hs1.out w
          have hnc : (T + cc + q) / 18446744073709551616 < 18446744073709551616 := by have := HT.out; have := HC.out; have := HP.out; omega
          have hW2 : IntKind.u64.wrap ((h1 : Int) + ((q + s1) / 18446744073709551616 : Nat)) = ((h1 + (q + s1) / 18446744073709551616 : Nat) : Int) := by
            rw [IntWalk.u64_in _ (by have := HS2.out.2.2; omega)]; omega
          have HR1 : Hid ((q + s1) % 18446744073709551616 = (T + cc + q) % 18446744073709551616) := hid HS2.out.1
          have HR2 : Hid (h1 + (q + s1) / 18446744073709551616 = (T + cc + q) / 18446744073709551616) := hid HS2.out.2.2
          clear HS2 hnc
          generalize (q + s1) % 18446744073709551616 = r at *
          generalize (q + s1) / 18446744073709551616 = c2 at *
          generalize h1 + c2 = nc at *
          have HE : Hid (rowN xi y k z (m + 1) = (zz.set (k + m) r, nc)) := hid (by rw [HRN.out, HS.out, HR1.out, HR2.out])
          clear HS HRN HT hhi hlo hs1 hXi HR1 HR2
          have m0 : (0 : Int) ≤ m := by omega
          have m4 : (m : Int) < 4 := by omega
          have mk : (m : Int) < 4 - k := by omega
          have km0 : (0 : Int) ≤ (k : Int) + m := by omega
          have km4 : (k : Int) + m < 4 := by omega
          have kmw : IntKind.i64.wrap ((k : Int) + m) = (k : Int) + m := IntWalk.i64_in _ (by omega)
          have kmn : ((k : Int) + m).toNat = k + m := by omega
          go_wp2
          go_quiet ((go_at_call 36; exact quiet_left (HM _)))
          replace hX := hX.drewN nq
          replace hY := hY.drewN nq
          replace hR := hR.drewN nq
          replace hZ := hZ.drewN nq
          replace hB := below_drewN hB nq
          replace cz : (W2.drewN nq).cell? _ = _ := cz
          replace fz : (W2.drewN nq).frozen? _ = _ := fz
          clear cx cy HM
          generalize W2.drewN nq = W3 at *
          go_wp2
          go_roundw
          case rel =>
            refine ⟨m + 1, by omega, by go_num, by rw [HE.out], hB.setCell (by simp; omega) _, hX.apart _ (.inl (by show w.heap.size + 1 + 1 + 1 ≠ w.heap.size; omega)), hY.apart _ (.inl (by show w.heap.size + 1 + 1 + 1 ≠ w.heap.size + 1; omega)), hR.apart _ (.inl (by show w.heap.size + 1 + 1 + 1 ≠ w.heap.size + 1 + 1; omega)), ?_⟩
            have h := hZ.set (k + m) r
            rw [nl_set, Nat.zero_add] at h
            rw [HE.out]
            exact h
          case measure => simp [intOf]; omega
        · have e : m = 4 - k := by omega
          have mk : ¬ (m : Int) < 4 - k := by omega
          have hZ' : Arr wr (w.heap.size + 1 + 1 + 1) 0 .u64 (nl (colN x y (k + 1))) := by rw [HCN.out, ← e]; exact hZ
          clear hZ
          go_wp2
          go_roundw
          case rel => exact ⟨k + 1, by omega, by go_num, hB, hX, hY, hR, hZ'⟩
          case measure => simp [intOf]; omega
    · have e : k = 4 := by omega
      subst e
      have hF4 : (nl (tms x y)).length = 4 := by rw [nl_length, tms_length]
      have hrg := hZ.range
      have hth : wr.there (w.heap.size + 1 + 1) 0 (ints .u64 (nl (tms x y))).toArray.size := by have := hR.there; simpa [zeros, tms_length] using this
      have hsz : (Tryd.prog.info? 66).map (·.size) = some (ints .u64 (nl (tms x y))).length := by rw [s66, ints_length, hF4]
      have hsz2 : (Tryd.prog.info? 66).map (·.size) = some (ints .u64 (nl (tms x y))).toArray.size := by rw [s66]; simp [tms_length]
      have hR2 := hR.all (ys := nl (tms x y)) (by simp [zeros, tms_length])
      have hb2 := Below.setCells hB (Nat.le_trans (Nat.le_succ _) (Nat.le_succ _)) 0 (ints .u64 (nl (tms x y)))
      change wr.rangeAt _ _ (ints .u64 (nl (tms x y))) at hrg
      generalize hF : nl (tms x y) = F at *
      have HF := hid hF
      clear hF
      clear hX hY hZ hR
      go_wp2_with (first
        | (with_reducible refine wpList_load_mid (op := ⟨some 58, .load 66 (.tmp 5), _, _, _, _⟩) rfl 66 (.tmp 5) rfl (w.heap.size + 1 + 1 + 1) 0 rfl (ints .u64 F) _ hrg Tryd.underlying66 rfl hsz ?_)
        | (with_reducible refine wpList_store_mid (op := ⟨none, .store 66 (.tmp 4) (.tmp 58), _, _, _, _⟩) rfl 66 (.tmp 4) (.tmp 58) rfl (w.heap.size + 1 + 1) 0 (ints .u64 F).toArray rfl rfl hth hsz2 (ints_all _ _) ?_))
      exact ret_rows rfl (w.heap.size + 1 + 1) 0 rfl (ints .u64 F) _ hR2.range Tryd.underlying66 rfl hsz rfl ⟨by rw [HF.out], hb2⟩
end Go.Proofs.YtjgojbjehedpaaaDoor
