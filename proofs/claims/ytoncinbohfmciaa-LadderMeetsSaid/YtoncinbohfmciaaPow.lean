/- Powers of an element. -/
import Derived.Test.YtoncinbohfmciaaFe2
namespace Go.Proofs.Ytoncinbohfmciaa
open Go.RowKit

def bitAt (bs : List Int) (i : Nat) : Int := bs.getD (i / 8) 0 / 2 ^ (i % 8) % 2
def powL (xs bs : List Int) : Nat → List Int
  | 0 => smallL 1
  | k + 1 => if bitAt bs (255 - k) = 1 then mulL (mulL (powL xs bs k) (powL xs bs k)) xs else mulL (powL xs bs k) (powL xs bs k)
theorem powL_el {xs bs : List Int} (hx : El xs) (k : Nat) : El (powL xs bs k) := by
  induction k with
  | zero => exact el_set (small_dg 1)
  | succ k ih =>
    simp only [powL]
    split
    · exact (mulL_el (mulL_el ih ih).1 hx).1
    · exact (mulL_el ih ih).1
theorem mask1_u8 (x : Int) (h : 0 ≤ x ∧ x < 256) : bits .and .u8 x 1 = x % 2 := by
  have key : ∀ n : Fin 256, bits .and .u8 (n.val : Int) 1 = (n.val : Int) % 2 := by decide +kernel
  have := key ⟨x.toNat, by omega⟩
  simp only [Int.toNat_of_nonneg h.1] at this
  exact this

set_option maxRecDepth 4000 in
set_option maxHeartbeats 2000000 in
theorem power_walk (xs bs m : List Int) (w : World) (HM : Hid (powL xs bs 256 = m)) (hx : El xs) (hl : bs.length = 32) (hb : Byt bs) :
    Calls Try.prog 37 #[.agg (ints .i64 xs).toArray, .agg (ints .u8 bs).toArray] w fun e w' => e = .returned (.agg (ints .i64 m).toArray) ∧ Below w.heap.size w w' := by
  obtain ⟨z26, s26⟩ := zero_of_info inf26
  have HL := hid hl
  have HB := hid hb
  have HX := hid hx
  have HXL := hid hx.len
  have HPE : Hid (∀ k, El (powL xs bs k)) := hid fun k => powL_el hx k
  have H1 : Hid (powL xs bs 0 = smallL 1) := hid rfl
  have H1L : Hid ((smallL 1).length = 16) := hid (smallL_length 1)
  clear hl hb hx
  have hN := ((Arr.made w .i64 xs 41).alloc (.cells (ints .u8 bs).toArray 22)).alloc (.cells (ints .i64 (zeros 16)).toArray 41)
  have hY := (Arr.made (w.alloc (.cells (ints .i64 xs).toArray 41)) .u8 bs 22).alloc (.cells (ints .i64 (zeros 16)).toArray 41)
  have hR := Arr.made ((w.alloc (.cells (ints .i64 xs).toArray 41)).alloc (.cells (ints .u8 bs).toArray 22)) .i64 (zeros 16) 41
  have hW := ((below_new w (.cells (ints .i64 xs).toArray 41)).alloc (by simp) (.cells (ints .u8 bs).toArray 22)).alloc (by simp; omega) (.cells (ints .i64 (zeros 16)).toArray 41)
  rw [World.size_alloc] at hY
  rw [World.size_alloc, World.size_alloc] at hR
  go_enter Try.func37, Try.ntmps37
  go_wp2_with (fail)
  generalize (((w.alloc (.cells (ints .i64 xs).toArray 41)).alloc (.cells (ints .u8 bs).toArray 22)).alloc (.cells (ints .i64 (zeros 16)).toArray 41)) = W0 at *
  refine (small_any 1 _).mono ?_
  generalize smallL 1 = one at *
  rintro e w1 ⟨rfl, hb1⟩
  have hR1 := hR.below hb1 (hR.lt (by rw [zeros_len]; omega))
  have hN1 := hN.below hb1 (hN.lt (by rw [HXL.out]; omega))
  have hY1 := hY.below hb1 (hY.lt (by rw [HL.out]; omega))
  have hW1 := hW.trans (hb1.mono hW.size)
  have hz2 := hR1.lt (by rw [zeros_len]; omega)
  have hP := Arr.made w1 .i64 (zeros 16) 41
  have hs1 : (w1.alloc (.cells (ints .i64 (zeros 16)).toArray 41)).there w1.heap.size 0 (ints .i64 one).toArray.size := hP.room (by rw [zeros_len]; exact H1L.out)
  have hP2 := hP.stored (l' := one) (by rw [zeros_len]; exact H1L.out)
  have hR2 := (hR1.alloc (.cells (ints .i64 (zeros 16)).toArray 41)).past (b' := w1.heap.size) (o' := 0) (ints .i64 one).toArray.toList (.inl (by omega))
  have hN2 := (hN1.alloc (.cells (ints .i64 (zeros 16)).toArray 41)).past (b' := w1.heap.size) (o' := 0) (ints .i64 one).toArray.toList (.inl (by omega))
  have hY2 := (hY1.alloc (.cells (ints .i64 (zeros 16)).toArray 41)).past (b' := w1.heap.size) (o' := 0) (ints .i64 one).toArray.toList (.inl (by omega))
  have hW2 := Below.setCells (hW1.alloc hW1.size (.cells (ints .i64 (zeros 16)).toArray 41)) (g := w1.heap.size) hW1.size 0 (ints .i64 one).toArray.toList
  clear hR hN hY hW hb1 hR1 hN1 hY1 hW1 hP
  go_wp2_with (first
    | (with_reducible refine wpList_store_mid (op := ⟨none, .store 41 (.tmp 5) (.tmp 7), _, _, _, _⟩) rfl 41 (.tmp 5) (.tmp 7) rfl w1.heap.size 0 (ints .i64 one).toArray rfl rfl hs1 (a26 H1L.out) (ints_all _ _) ?_))
  obtain ⟨B, hB⟩ : ∃ B, B = w1.heap.size := ⟨_, rfl⟩
  have hP3 : Arr ((w1.alloc (.cells (ints .i64 (zeros 16)).toArray 41)).setCells w1.heap.size 0 (ints .i64 one)) w1.heap.size 0 .i64 (powL xs bs 0) := by rw [H1.out]; simpa using hP2
  have hR3 : Arr ((w1.alloc (.cells (ints .i64 (zeros 16)).toArray 41)).setCells w1.heap.size 0 (ints .i64 one)) (w.heap.size + 1 + 1) 0 .i64 (zeros 16) := by simpa using hR2
  have hN3 : Arr ((w1.alloc (.cells (ints .i64 (zeros 16)).toArray 41)).setCells w1.heap.size 0 (ints .i64 one)) w.heap.size 0 .i64 xs := by simpa using hN2
  have hY3 : Arr ((w1.alloc (.cells (ints .i64 (zeros 16)).toArray 41)).setCells w1.heap.size 0 (ints .i64 one)) (w.heap.size + 1) 0 .u8 bs := by simpa using hY2
  have hW3 : Below w.heap.size w ((w1.alloc (.cells (ints .i64 (zeros 16)).toArray 41)).setCells w1.heap.size 0 (ints .i64 one)) := by simpa using hW2
  clear hP2 hR2 hN2 hY2 hW2 hs1
  generalize ((w1.alloc (.cells (ints .i64 (zeros 16)).toArray 41)).setCells w1.heap.size 0 (ints .i64 one)) = W2 at *
  rw [← hB] at hP3 hz2 ⊢
  clear hB
  go_loopw [6] (fun i wr => ∃ (k : Nat) (b : Int), k ≤ 256 ∧ i = .int .i64 b ∧ Hid (b = 255 - k) ∧ Arr wr (w.heap.size + 1 + 1) 0 .i64 (zeros 16) ∧ Arr wr w.heap.size 0 .i64 xs ∧ Arr wr (w.heap.size + 1) 0 .u8 bs ∧ Arr wr B 0 .i64 (powL xs bs k) ∧ Below w.heap.size w wr) (fun i _ => (intOf i + 1).toNat)
  case atStart => exact ⟨0, 255, by omega, rfl, hid rfl, hR3, hN3, hY3, hP3, hW3⟩
  case round =>
    clear hR3 hN3 hY3 hP3 hW3
    obtain ⟨k, b, hk, rfl, HBK, hR, hN, hY, hP, hW⟩ := hrel
    rename World => W3
    by_cases hlt : k < 256
    · have HKN : Hid (powL xs bs (k + 1) = if bitAt bs (255 - k) = 1 then mulL (mulL (powL xs bs k) (powL xs bs k)) xs else mulL (powL xs bs k) (powL xs bs k)) := hid rfl
      have HPk := hid (HPE.out k)
      generalize powL xs bs k = p at *
      have HPL := hid HPk.out.len
      have HMM := hid (mulL_el HPk.out HPk.out).1
      have HMML := hid HMM.out.len
      have HM2 := hid (mulL_el HMM.out HX.out).1
      have HM2L := hid HM2.out.len
      obtain ⟨n, rfl⟩ : ∃ n : Nat, b = n := ⟨(255 - k : Nat), by have := HBK.out; omega⟩
      have HNK : Hid (255 - k = n) := hid (by have := HBK.out; omega)
      have hn : (n : Int) ≤ 255 := by have := HBK.out; omega
      have n0 : (0 : Int) ≤ n := by omega
      obtain ⟨q, hq⟩ : ∃ q, q = n / 8 := ⟨_, rfl⟩
      obtain ⟨r, hr⟩ : ∃ r, r = n % 8 := ⟨_, rfl⟩
      have hqi : (n : Int) / 8 = (q : Int) := by omega
      have hri : (n : Int) % 8 = (r : Int) := by omega
      have q0 : (0 : Int) ≤ q := by omega
      have q32 : (q : Int) < 32 := by omega
      have r0 : (0 : Int) ≤ r := by omega
      have r8 : (r : Int) ≤ 8 := by omega
      obtain ⟨x, cx, _, HXq⟩ := hY.spot (i := q) (by rw [HL.out]; omega)
      rw [Nat.zero_add] at cx
      have hxb := HB.out.at_ HXq.out
      obtain ⟨s, hs⟩ : ∃ s, s = x / 2 ^ r := ⟨_, rfl⟩
      have hp2 : (0 : Int) < 2 ^ r := Int.pow_pos (by omega)
      have hsb : 0 ≤ s ∧ s < 256 := by
        have h1 := Int.ediv_nonneg hxb.1 (Int.le_of_lt hp2)
        have h2 := Int.ediv_le_self (2 ^ r) hxb.1
        rw [hs]; omega
      have hmk := mask1_u8 s hsb
      have HBIT : Hid (bitAt bs (255 - k) = s % 2) := hid (by rw [HNK.out, hs, hr]; unfold bitAt; rw [← hq]; simp [List.getD, HXq.out])
      have hsx : x / 2 ^ r = s := hs.symm
      have HQR := hid (And.intro hq hr)
      clear hq hr hs hp2
      have hwn : IntKind.i64.wrap ((n : Int) - 1) = (n : Int) - 1 := IntWalk.i64_in _ (by omega)
      go_wp2_with (first
        | (with_reducible refine wpList_load_mid (op := ⟨some 12, .load 41 (.tmp 5), _, _, _, _⟩) rfl 41 (.tmp 5) rfl B 0 rfl (ints .i64 p) _ (hP.range) Try.underlying41 rfl (l26 HPL.out) ?_)
        | (with_reducible refine wpList_load_mid (op := ⟨some 13, .load 41 (.tmp 5), _, _, _, _⟩) rfl 41 (.tmp 5) rfl B 0 rfl (ints .i64 p) _ (hP.range) Try.underlying41 rfl (l26 HPL.out) ?_))
      refine (mul_any p p _ HPL.out HPL.out HPk.out.bd HPk.out.bd).mono ?_
      rintro e w4 ⟨rfl, hb4⟩
      have hR1 := hR.below hb4 (hR.lt (by rw [zeros_len]; omega))
      have hN1 := hN.below hb4 (hN.lt (by rw [HXL.out]; omega))
      have hY1 := hY.below hb4 (hY.lt (by rw [HL.out]; omega))
      have hP1 := hP.below hb4 (hP.lt (by rw [HPL.out]; omega))
      have hW1 := hW.trans (hb4.mono hW.size)
      clear hR hN hY hP hW hb4 cx
      generalize hmm : mulL p p = pp at *
      have HPP := hid hmm
      clear hmm
      have hs1 : w4.there B 0 (ints .i64 pp).toArray.size := hP1.room (by rw [HPL.out]; exact HMML.out)
      have hP2 := hP1.stored (l' := pp) (by rw [HPL.out]; exact HMML.out)
      have hR2 := hR1.past (b' := B) (o' := 0) (ints .i64 pp).toArray.toList (.inl (by omega))
      have hN2 := hN1.past (b' := B) (o' := 0) (ints .i64 pp).toArray.toList (.inl (by omega))
      have hY2 := hY1.past (b' := B) (o' := 0) (ints .i64 pp).toArray.toList (.inl (by omega))
      have hW2 := Below.setCells hW1 (g := B) (by omega) 0 (ints .i64 pp).toArray.toList
      have cx := hY2.at_ HXq.out
      rw [Nat.zero_add] at cx
      clear hR1 hN1 hY1 hP1 hW1
      by_cases hbit : s % 2 = 1
      · have hz : (s % 2 == 1) = true := by simpa using hbit
        have HK2 : Hid (powL xs bs (k + 1) = mulL pp xs) := hid (by rw [HKN.out, if_pos (by rw [HBIT.out]; exact hbit)])
        clear hbit
        go_wp2_with (first
          | (with_reducible refine wpList_store_mid (op := ⟨none, .store 41 (.tmp 5) (.tmp 14), _, _, _, _⟩) rfl 41 (.tmp 5) (.tmp 14) rfl B 0 (ints .i64 pp).toArray rfl rfl hs1 (a26 HMML.out) (ints_all _ _) ?_; generalize (w4.setCells B 0 (ints .i64 pp).toArray.toList) = W5 at *)
          | (with_reducible refine wpList_load_mid (op := ⟨some 24, .load 41 (.tmp 5), _, _, _, _⟩) rfl 41 (.tmp 5) rfl B 0 rfl (ints .i64 pp) _ (hP2.range) Try.underlying41 rfl (l26 HMML.out) ?_)
          | (with_reducible refine wpList_load_mid (op := ⟨some 25, .load 41 (.tmp 2), _, _, _, _⟩) rfl 41 (.tmp 2) rfl w.heap.size 0 rfl (ints .i64 xs) _ (hN2.range) Try.underlying41 rfl (l26 HXL.out) ?_))
        refine (mul_any pp xs _ HMML.out HXL.out HMM.out.bd HX.out.bd).mono ?_
        rintro e w6 ⟨rfl, hb6⟩
        have hR3 := hR2.below hb6 (hR2.lt (by rw [zeros_len]; omega))
        have hN3 := hN2.below hb6 (hN2.lt (by rw [HXL.out]; omega))
        have hY3 := hY2.below hb6 (hY2.lt (by rw [HL.out]; omega))
        have hP3 := hP2.below hb6 (hP2.lt (by rw [HMML.out]; omega))
        have hW3 := hW2.trans (hb6.mono hW2.size)
        clear hR2 hN2 hY2 hP2 hW2 hb6 cx hs1
        generalize hm2 : mulL pp xs = pq at *
        have HPQ := hid hm2
        clear hm2
        have hs2 : w6.there B 0 (ints .i64 pq).toArray.size := hP3.room (by rw [HMML.out]; exact HM2L.out)
        have hP4 := hP3.stored (l' := pq) (by rw [HMML.out]; exact HM2L.out)
        have hR4 := hR3.past (b' := B) (o' := 0) (ints .i64 pq).toArray.toList (.inl (by omega))
        have hN4 := hN3.past (b' := B) (o' := 0) (ints .i64 pq).toArray.toList (.inl (by omega))
        have hY4 := hY3.past (b' := B) (o' := 0) (ints .i64 pq).toArray.toList (.inl (by omega))
        have hW4 := Below.setCells hW3 (g := B) (by omega) 0 (ints .i64 pq).toArray.toList
        clear hR3 hN3 hY3 hP3 hW3
        go_wp2_with (first
          | (with_reducible refine wpList_store_mid (op := ⟨none, .store 41 (.tmp 5) (.tmp 26), _, _, _, _⟩) rfl 41 (.tmp 5) (.tmp 26) rfl B 0 (ints .i64 pq).toArray rfl rfl hs2 (a26 HM2L.out) (ints_all _ _) ?_; generalize (w6.setCells B 0 (ints .i64 pq).toArray.toList) = W7 at *))
        go_roundw
        case rel => exact ⟨k + 1, (n : Int) - 1, by omega, rfl, hid (by have := HBK.out; omega), hR4, hN4, hY4, by rw [HK2.out]; exact hP4, hW4⟩
        case measure => simp [intOf]
      · have hz : (s % 2 == 1) = false := by simpa using hbit
        have HK2 : Hid (powL xs bs (k + 1) = pp) := hid (by rw [HKN.out, if_neg (by rw [HBIT.out]; exact hbit)])
        clear hbit
        go_wp2_with (first
          | (with_reducible refine wpList_store_mid (op := ⟨none, .store 41 (.tmp 5) (.tmp 14), _, _, _, _⟩) rfl 41 (.tmp 5) (.tmp 14) rfl B 0 (ints .i64 pp).toArray rfl rfl hs1 (a26 HMML.out) (ints_all _ _) ?_; generalize (w4.setCells B 0 (ints .i64 pp).toArray.toList) = W5 at *))
        go_roundw
        case rel => exact ⟨k + 1, (n : Int) - 1, by omega, rfl, hid (by have := HBK.out; omega), hR2, hN2, hY2, by rw [HK2.out]; exact hP2, hW2⟩
        case measure => simp [intOf]
    · have e : k = 256 := by omega
      have hb0 : b < 0 := by have := HBK.out; omega
      rw [e, HM.out] at hP
      have HML : Hid (m.length = 16) := hid (by rw [← HM.out]; exact (HPE.out 256).len)
      clear e
      have hs1 : W3.there (w.heap.size + 1 + 1) 0 (ints .i64 m).toArray.size := hR.room (by rw [zeros_len]; exact HML.out)
      have hR4 := hR.stored (l' := m) (by rw [zeros_len]; exact HML.out)
      have hW4 := Below.setCells hW (g := w.heap.size + 1 + 1) (by omega) 0 (ints .i64 m).toArray.toList
      go_wp2_with (first
        | (with_reducible refine wpList_load_mid (op := ⟨some 27, .load 41 (.tmp 5), _, _, _, _⟩) rfl 41 (.tmp 5) rfl B 0 rfl (ints .i64 m) _ (hP.range) Try.underlying41 rfl (l26 HML.out) ?_)
        | (with_reducible refine wpList_store_mid (op := ⟨none, .store 41 (.tmp 4) (.tmp 27), _, _, _, _⟩) rfl 41 (.tmp 4) (.tmp 27) rfl (w.heap.size + 1 + 1) 0 (ints .i64 m).toArray rfl rfl hs1 (a26 HML.out) (ints_all _ _) ?_))
      exact ret_rows rfl (w.heap.size + 1 + 1) 0 rfl (ints .i64 m) _ hR4.range Try.underlying41 rfl (l26 HML.out) rfl ⟨rfl, hW4⟩
end Go.Proofs.Ytoncinbohfmciaa
