/- The reference's bytes of a value. -/
import Derived.Test.YtcahcecohjohpaaDoorApp
import Derived.Test.YtcahcecohjohpaaDoorSize
import Derived.Test.YtcahcecohjohpaaDoorWLow
namespace Go.Proofs.YtcahcecohjohpaaDoor
open Go.RowKit

theorem bytesL_mem {l : List V} {x : V} (hx : x ∈ l) : (bytesV x).length ≤ (bytesL l).length := by
  induction l with
  | nil => cases hx
  | cons y l ih =>
    rw [bytesL, List.length_append]
    rcases List.mem_cons.1 hx with rfl | hx
    · omega
    · have := ih hx; omega

def Gives (xs : List Int) (w : World) (e : Ending) (w' : World) : Prop := ∃ B d ys, e = .returned (.slice B ys.length d) ∧ Hid (ys = xs) ∧ NumsF w.heap.size w' .u8 B ys ∧ Below w.heap.size w w'
theorem Gives.mk {xs : List Int} {w w' : World} {base n c : Nat} {A : Option Addr} (h : Owns w' base 5 .u8 (.slice A n c) xs) (hb : w.heap.size ≤ base) (h2 : Below w.heap.size w w') : Gives xs w (.returned (.slice A n c)) w' := by
  have hl := h.len
  subst hl
  exact ⟨A, c, xs, rfl, hid rfl, h.fresh.less hb, h2⟩

set_option maxHeartbeats 1000000 in
theorem bytes_num (n : Int) (b : List Int) (l : List V) (A B : Option Addr) (c d : Nat) (w : World) (hn0 : 0 ≤ n) (hn1 : n ≤ 4611686018427387904) :
    Calls Tryd.prog 13 #[.agg #[.int .i64 1, .int .i64 n, .slice A b.length c, .slice B l.length d]] w (Gives (bytesV (.mk 1 n b l)) w) := by
  have hnb := nb_le n hn0 hn1
  have HV : Hid (bytesV (.mk 1 n b l) = [1, (nb n : Int)] ++ (if 0 < nb n then pbytes true n (nb n) else [])) := hid (by unfold bytesV; rw [if_pos rfl])
  go_enter Tryd.func13, Tryd.ntmps13
  go_wp2
  go_loopw [3, 4] (fun s m wr => ∃ (j : Nat) (q : Int), j ≤ 8 ∧ s = .int .i64 j ∧ m = .int .i64 q ∧ 0 ≤ q ∧ q ≤ 4611686018427387904 ∧ Hid (nb n = j + nb q) ∧ Box4 w (.int .i64 1) (.int .i64 n) (.slice A b.length c) (.slice B l.length d) 25 wr) (fun _ m _ => (intOf m).toNat)
  case atStart => exact ⟨0, n, by omega, rfl, rfl, hn0, hn1, hid (by simp), Box4.start _ _ _ _ _ _⟩
  case round =>
    obtain ⟨j, q, hj, rfl, rfl, hq0, hq1, HJ, hx⟩ := hrel
    by_cases hlt : 0 < q
    · go_wp2
      go_roundw
      case rel => exact ⟨j + 1, q / 256, by have := nb_step q hlt hq1; have := HJ.out; omega, by go_num, rfl, by omega, by omega, hid (by rw [HJ.out, nb_step q hlt hq1]; omega), hx⟩
      case measure => simp [intOf]; omega
    · have hq : q = 0 := by omega
      subst hq
      have hj2 : nb n = j := by rw [HJ.out, nb_zero]; rfl
      have HJ2 := hid hj2
      clear hj2
      obtain ⟨_, hc1, _, _⟩ := hx.cells
      have hlw := hx.lt
      have hb0 := hx.below
      by_cases hj0 : 0 < j
      · have HS : Hid (bytesV (.mk 1 n b l) = [1, (j : Int)] ++ pbytes true n j) := hid (by rw [HV.out, HJ2.out, if_pos hj0])
        go_wp2_with (first
          | (go_at_call 27; refine (refPut_any n j _).mono ?_; rintro e w1 ⟨B1, d1, ys1, E1, rfl, HY1, HE1, hN1, hb1⟩; have hy8 : ys1.length ≤ 8 := (by rw [HY1.out]; exact pbytes_length _ _ _); have hO1 := (Owns.new wr (w.heap.size + 1) 5 .u8 [1, (j : Int)] (by omega) (by simp [maxLen])).stay hb1; have hbs := hb1.size)
          | (at_builtin; refine app_nums rfl (.tmp 38) (.tmp 39) 22 rfl (w.heap.size + 1) 5 .u8 1 Tryd.underlying22 Tryd.info5 (by omega) _ _ _ [1, (j : Int)] rfl hO1 B1 d1 ys1 rfl hN1.nums (by simp; omega) (by simp at hbs; omega) ?_; intro A2 n2 c2 w2 hO2 hG2))
        go_ret
        rw [HS.out, ← HY1.out]
        exact .mk (base := w.heap.size + 1) hO2 (by omega) ((nextB (newB hb0 _) hb1).trans (hG2.below (by simp at hbs; omega) (fun g hg => by have := (hO1.lt g hg).1; omega)))
      · have HS : Hid (bytesV (.mk 1 n b l) = [1, (j : Int)]) := hid (by rw [HV.out, HJ2.out, if_neg hj0, List.append_nil])
        go_wp2
        go_ret
        rw [HS.out]
        exact .mk (base := w.heap.size + 1) (Owns.new wr (w.heap.size + 1) 5 .u8 [1, (j : Int)] (by omega) (by simp [maxLen])) (by omega) (newB hb0 _)

set_option maxHeartbeats 1000000 in
theorem bytes_raw (n : Int) (b : List Int) (l : List V) (D : Nat) (A B : Option Addr) (c d : Nat) (w : World) (hb : b.length ≤ 1048576) (hH : Has D w (.mk 2 n b l) A B) :
    Calls Tryd.prog 13 #[.agg #[.int .i64 2, .int .i64 n, .slice A b.length c, .slice B l.length d]] w (Gives (bytesV (.mk 2 n b l)) w) := by
  have HV : Hid (bytesV (.mk 2 n b l) = [2] ++ pbytes true b.length 3 ++ b) := hid (by unfold bytesV; rw [if_neg (by decide), if_pos rfl])
  have hx := (Box4.start w (.int .i64 2) (.int .i64 n) (.slice A b.length c) (.slice B l.length d) 25)
  go_enter Tryd.func13, Tryd.ntmps13
  go_wp2_with (first
    | (go_at_call 27; refine (refPut_any b.length 3 _).mono ?_; rintro e w1 ⟨B1, d1, ys1, E1, rfl, HY1, HE1, hN1, hb1⟩; have hy8 : ys1.length ≤ 8 := (by rw [HY1.out]; exact pbytes_length _ _ _); have hbs := hb1.size; have hx1 := hx.next hb1; obtain ⟨_, _, hc2, _⟩ := hx1.cells; have hlw := hx1.lt; have hO1 := Owns.new w1 (w.heap.size + 1) 5 .u8 [2] (by omega) (by simp [maxLen]); have hN1b := hN1.stay (below_new _ (.cells #[.int .u8 2] 5)))
    | (at_builtin; refine app_nums rfl (.tmp 56) (.tmp 58) 22 rfl (w.heap.size + 1) 5 .u8 1 Tryd.underlying22 Tryd.info5 (by omega) A2 n2 c2 ([2] ++ ys1) rfl hO2 A c b rfl hNb (by simp; omega) hbase2 ?_; intro A3 n3 c3 w3 hO3 hG3)
    | (at_builtin; refine app_nums rfl (.tmp 53) (.tmp 54) 22 rfl (w.heap.size + 1) 5 .u8 1 Tryd.underlying22 Tryd.info5 (by omega) _ _ _ [2] rfl hO1 B1 d1 ys1 rfl hN1b.nums (by simp; omega) (by simp; omega) ?_; intro A2 n2 c2 w2 hO2 hG2; have hB2 : Below (w.heap.size + 1) w1 w2 := ((below_new w1 _).mono (by omega)).trans (hG2.below (by simp; omega) (fun g hg => (hO1.lt g hg).1)); have hx2 := hx1.grow hB2; obtain ⟨_, _, hc2b, _⟩ := hx2.cells; have hNb := ((hH.stay hx2.below).bytes.1.nums (hH.stay hx2.below).1); have hbase2 : w.heap.size + 1 ≤ w2.heap.size := (by have := hx2.lt; omega)))
  go_ret
  rw [HV.out, ← HY1.out]
  exact .mk (base := w.heap.size + 1) hO3 (by omega) (hx2.below.trans (hG3.below (by omega) (fun g hg => by have := (hO2.lt g hg).1; omega)))

set_option maxHeartbeats 1000000 in
theorem bytes_any (v : V) : ∀ (k n : Int) (b : List Int) (l : List V), v = .mk k n b l → ∀ (D : Nat) (A B : Option Addr) (c d : Nat) (w : World), pureV (.mk k n b l) = true → tameV (.mk k n b l) → (bytesV (.mk k n b l)).length ≤ 2000000 → Has D w (.mk k n b l) A B →
    Calls Tryd.prog 13 #[.agg #[.int .i64 k, .int .i64 n, .slice A b.length c, .slice B l.length d]] w (Gives (bytesV (.mk k n b l)) w) := by
  induction v using V.ind with
  | h k n b l ih =>
    intro k' n' b' l' heq D A B c d w hpu htm hle hH
    injection heq with e1 e2 e3 e4
    subst e1; subst e2; subst e3; subst e4
    have hll := hH.len
    unfold maxLen at hll
    rw [pureV, Bool.and_eq_true] at hpu
    obtain ⟨hpl, hpL⟩ := hpu
    rw [tameV] at htm
    obtain ⟨hb1, _, htL⟩ := htm
    rcases plain_kinds hpl with ⟨rfl, hn0, hn1, hb0, hl0⟩ | ⟨rfl, hn0, hl0⟩ | ⟨rfl, hn0, hb0, hl0⟩
    · exact bytes_num n b l A B c d w hn0 hn1
    · exact bytes_raw n b l D A B c d w hb1 hH
    · have HPL := hid hpL
      have HTL := hid htL
      have HV : Hid (bytesV (.mk 3 n b l) = [3] ++ pbytes true l.length 2 ++ bytesL l) := hid (by unfold bytesV; rw [if_neg (by decide), if_neg (by decide)])
      have HLE : Hid ((bytesL l).length ≤ 1999997) := hid (by rw [HV.out, List.length_append, List.length_append, pbytes_len (fits_two (by omega))] at hle; simp at hle; omega)
      clear hpL htL hpl hle hb0
      subst hn0
      have hx := (Box4.start w (.int .i64 3) (.int .i64 0) (.slice A b.length c) (.slice B l.length d) 25)
      go_enter Tryd.func13, Tryd.ntmps13
      go_wp2_with (first
        | (go_at_call 27; refine (refPut_any l.length 2 _).mono ?_; rintro e w1 ⟨B1, d1, ys1, E1, rfl, HY1, HE1, hN1, hb1⟩; have hy8 : ys1.length ≤ 8 := (by rw [HY1.out]; exact pbytes_length _ _ _); have hbs := hb1.size; have hx1 := hx.next hb1; have hlw := hx1.lt; have hO1 := Owns.new w1 (w.heap.size + 1) 5 .u8 [3] (by omega) (by simp [maxLen]); have hN1b := hN1.stay (below_new _ (.cells #[.int .u8 3] 5)))
        | (at_builtin; refine app_nums rfl (.tmp 68) (.tmp 69) 22 rfl (w.heap.size + 1) 5 .u8 1 Tryd.underlying22 Tryd.info5 (by omega) _ _ _ [3] rfl hO1 B1 d1 ys1 rfl hN1b.nums (by simp; omega) (by simp; omega) ?_; intro A2 n2 c2 w2 hO2 hG2; have hB2 : Below (w.heap.size + 1) w1 w2 := ((below_new w1 _).mono (by omega)).trans (hG2.below (by simp; omega) (fun g hg => (hO1.lt g hg).1)); have hx2 := hx1.grow hB2; have hbase2 : w.heap.size + 1 ≤ w2.heap.size := (by have := hx2.lt; omega)))
      go_loopw [13, 14] (fun o i wr => ∃ (j : Nat) (A' : Option Addr) (n' c' : Nat) (zs : List Int), j ≤ l.length ∧ o = .slice A' n' c' ∧ i = .int .i64 j ∧ Owns wr (w.heap.size + 1) 5 .u8 (.slice A' n' c') zs ∧ Hid (bytesV (.mk 3 0 b l) = zs ++ bytesL (l.drop j)) ∧ Box4 w (.int .i64 3) (.int .i64 0) (.slice A b.length c) (.slice B l.length d) 25 wr) (fun _ i _ => l.length - (intOf i).toNat)
      case atStart => exact ⟨0, A2, n2, c2, [3] ++ ys1, Nat.zero_le _, rfl, rfl, hO2, hid (by rw [HV.out, HY1.out, List.drop_zero]), hx2⟩
      case round =>
        clear hx hx1 hx2 hO1 hO2 hN1 hN1b hb1 hG2 hB2
        obtain ⟨j, A', n', c', zs, hj, rfl, rfl, hO, HZ, hx⟩ := hrel
        have hb := hx.below
        obtain ⟨_, _, _, hc3⟩ := hx.cells
        have hlw := hx.lt
        have hzl : zs.length + (bytesL (l.drop j)).length ≤ 2000020 := by
          have h1 := HLE.out
          have h2 := congrArg List.length HZ.out
          have h3 := congrArg List.length HV.out
          have h4 := pbytes_length true l.length 2
          simp only [List.length_append, List.length_cons, List.length_nil] at h2 h3
          omega
        by_cases hlt : j < l.length
        · obtain ⟨g, off, k1, n1, b1, l1, A1, c1, B1, d1, rfl, hg, _, HX, a0, a1, a2, a3, hX⟩ := (hH.stay hb).item hlt
          have hm := List.mem_of_getElem? HX.out
          have hjp : (j : Int) < l.length := by omega
          have hdr : bytesL (l.drop j) = bytesV (.mk k1 n1 b1 l1) ++ bytesL (l.drop (j + 1)) := by rw [drop_at HX.out, bytesL]
          have HDR := hid hdr
          have hzl2 : zs.length + (bytesV (.mk k1 n1 b1 l1)).length ≤ 2000020 := by rw [hdr, List.length_append] at hzl; omega
          have HI : Hid ((bytesV (.mk k1 n1 b1 l1)).length ≤ 2000000) := hid (by have := bytesL_mem hm; have := HLE.out; omega)
          clear hdr hzl
          go_wp2_with (first
            | (go_at_call 13; refine (ih _ hm k1 n1 b1 l1 rfl D A1 B1 c1 d1 _ (pureL_mem HPL.out hm) (tameL_mem HTL.out hm) HI.out hX).mono ?_; rintro e w4 ⟨B4, d4, ys4, rfl, HY4, hN4, hb4⟩; have hO4 := hO.stay hb4; have hbs4 := hb4.size)
            | (at_builtin; refine app_nums rfl (.tmp 78) (.tmp 84) 22 rfl (w.heap.size + 1) 5 .u8 1 Tryd.underlying22 Tryd.info5 (by omega) A' n' c' zs rfl hO4 B4 d4 ys4 rfl hN4.nums (by rw [HY4.out]; omega) (by omega) ?_; intro A5 n5 c5 w5 hO5 hG5))
          go_roundw
          case rel =>
            exact ⟨j + 1, A5, n5, c5, zs ++ ys4, by omega, rfl, by go_num, hO5, hid (by rw [HZ.out, HDR.out, HY4.out, List.append_assoc]), (hx.next hb4).grow (hG5.below (by omega) (fun g hg => (hO4.lt g hg).1))⟩
          case measure => simp [intOf]; omega
        · have e : j = l.length := by omega
          subst e
          go_wp2
          go_ret
          have hz : bytesV (.mk 3 0 b l) = zs := by rw [HZ.out, List.drop_length, bytesL, List.append_nil]
          rw [hz]
          exact .mk (base := w.heap.size + 1) hO (by omega) hb
end Go.Proofs.YtcahcecohjohpaaDoor
