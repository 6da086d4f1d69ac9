/- A value's bytes are written: all kinds; Encode. -/
import Derived.Test.YtcahcecohjohpaaDoorWriteB
import Derived.Laws.MakeOwn
namespace Go.Proofs.YtcahcecohjohpaaDoor
open Go.RowKit

set_option maxHeartbeats 1000000 in
theorem write_any (v : V) : ∀ (k n : Int) (b : List Int) (l : List V), v = .mk k n b l → ∀ (A' : Option Addr) (m' c' : Nat) (xs : List Int) (D : Nat) (A B : Option Addr) (c d base : Nat) (w : World), pureV (.mk k n b l) = true → tameV (.mk k n b l) →
    xs.length + (bytesV (.mk k n b l)).length ≤ 1999990 → Tabs w → Has D w (.mk k n b l) A B → D ≤ base → 1 < base → base ≤ w.heap.size → Owns w base 5 .u8 (.slice A' m' c') xs →
    Calls Tryd.prog 24 #[.slice A' m' c', .agg #[.int .i64 k, .int .i64 n, .slice A b.length c, .slice B l.length d]] w (Adds base A' m' c' xs (bytesV (.mk k n b l)) w) := by
  induction v using V.ind with
  | h k n b l ih =>
    intro k' n' b' l' heq A' m' c' xs D A B c d base w hpu htm hle ht hH hD h1b hbase hO
    injection heq with e1 e2 e3 e4
    subst e1; subst e2; subst e3; subst e4
    have hll := hH.len
    unfold maxLen at hll
    rw [pureV, Bool.and_eq_true] at hpu
    obtain ⟨hpl, hpL⟩ := hpu
    rw [tameV] at htm
    obtain ⟨hb1, _, htL⟩ := htm
    rcases plain_kinds hpl with ⟨rfl, hn0, hn1, hb0, hl0⟩ | ⟨rfl, hn0, hl0⟩ | ⟨rfl, hn0, hb0, hl0⟩
    · exact write_num A' m' c' xs n b l A B c d base w hn0 hn1 ht hbase h1b hO (by omega)
    · exact write_raw A' m' c' xs n b l D A B c d base w hb1 ht hH hD hbase hO (by rw [len_raw n b l (by omega)] at hle; omega)
    · have HPL := hid hpL
      have HTL := hid htL
      have HV : Hid (bytesV (.mk 3 n b l) = (3 :: pbytes true l.length (wid 3)) ++ bytesL l) := hid (by unfold bytesV; rw [if_neg (by decide), if_neg (by decide)]; rfl)
      have HLE : Hid (xs.length + (bytesL l).length ≤ 1999987) := hid (by rw [len_list n b l (by omega)] at hle; omega)
      have hx1 : xs.length ≤ 2000000 := by omega
      clear hpL htL hpl hle hb0
      subst hn0
      have hnew := below_new w (.cells #[.int .i64 3, .int .i64 0, .slice A b.length c, .slice B l.length d] 25)
      have hO1 := hO.alloc (.cells #[.int .i64 3, .int .i64 0, .slice A b.length c, .slice B l.length d] 25)
      have ht1 := ht.stay hnew
      have hbs1 := Nat.le_trans hbase hnew.size
      have hb4 := Box4.start w (.int .i64 3) (.int .i64 0) (.slice A b.length c) (.slice B l.length d) 25
      have hne : ∀ g, (Value.slice A' m' c').ownBlock = some g → g ≠ w.heap.size := fun g hg => Nat.ne_of_lt (hO.lt g hg).2
      go_enter Tryd.func24, Tryd.ntmps24
      go_wp2_with (go_at_call 38; refine (head_any 3 A' m' c' xs l.length base _ (.inr (.inr rfl)) ht1 hbs1 hO1 hx1).mono ?_; rintro e w1 ⟨A2, n2, c2, rfl, hO2, hG2⟩; have hc3 := keep_cell hG2 hb4.cells.2.2.2 hb4.lt hne)
      go_loopw [0, 45] (fun o i wr => ∃ (j : Nat) (A3 : Option Addr) (n3 c3 : Nat) (zs : List Int), j ≤ l.length ∧ o = .slice A3 n3 c3 ∧ i = .int .i64 j ∧ Owns wr base 5 .u8 (.slice A3 n3 c3) zs ∧ Hid (xs ++ bytesV (.mk 3 0 b l) = zs ++ bytesL (l.drop j)) ∧ Grew w wr (.slice A' m' c') (.slice A3 n3 c3)) (fun _ i _ => l.length - (intOf i).toNat)
      case atStart => exact ⟨0, A2, n2, c2, xs ++ 3 :: pbytes true l.length (wid 3), Nat.zero_le _, rfl, rfl, hO2, hid (by rw [HV.out, List.drop_zero, ← List.append_assoc]), Grew.after hnew hG2⟩
      case round =>
        clear hO1 hO2 hG2 hc3 hb4
        obtain ⟨j, A3, n3, c3, zs, hj, rfl, rfl, hO3, HZ, hG3⟩ := hrel
        have hbw := hG3.below hbase (fun g hg => (hO.lt g hg).1)
        have hb := hbw.size
        by_cases hlt : j < l.length
        · obtain ⟨g, off, k1, n1, b1, l1, A1, c1, B1, d1, rfl, hg, _, HX, a0, a1, a2, a3, hX⟩ := (hH.grow (hbw.mono hD)).item hlt
          have hm := List.mem_of_getElem? HX.out
          have hjp : (j : Int) < l.length := by omega
          have hdr : bytesL (l.drop j) = bytesV (.mk k1 n1 b1 l1) ++ bytesL (l.drop (j + 1)) := by rw [drop_at HX.out, bytesL]
          have HDR := hid hdr
          have HZL : Hid (zs.length + (bytesV (.mk k1 n1 b1 l1)).length ≤ 1999990) := hid (by
            have h1 := HLE.out
            have h2 := congrArg List.length HZ.out
            rw [hdr, len_app, len_app, len_app, len_list 0 b l (by omega)] at h2
            omega)
          clear hdr
          have hnw := below_new wr (.cells #[.int .i64 k1, .int .i64 n1, .slice A1 b1.length c1, .slice B1 l1.length d1] 25)
          go_wp2_with (go_at_call 24; refine (ih _ hm k1 n1 b1 l1 rfl A3 n3 c3 zs D A1 B1 c1 d1 base _ (pureL_mem HPL.out hm) (tameL_mem HTL.out hm) HZL.out ((ht.grow hbw h1b).stay hnw) (hX.stay hnw) hD h1b (Nat.le_trans (Nat.le_trans hbase hb) hnw.size) (hO3.alloc _)).mono ?_; rintro e w4 ⟨A4, n4, c4, rfl, hO4, hG4⟩)
          go_roundw
          case rel => exact ⟨j + 1, A4, n4, c4, zs ++ bytesV (.mk k1 n1 b1 l1), by omega, rfl, by go_num, hO4, hid (by rw [HZ.out, HDR.out, List.append_assoc]), hG3.trans (Grew.after hnw hG4)⟩
          case measure => simp [intOf]; omega
        · have e : j = l.length := by omega
          subst e
          go_wp2
          go_ret
          have hz : xs ++ bytesV (.mk 3 0 b l) = zs := by rw [HZ.out, List.drop_length, bytesL, List.append_nil]
          refine ⟨A3, n3, c3, rfl, ?_, hG3⟩
          rw [hz]
          exact hO3
end Go.Proofs.YtcahcecohjohpaaDoor
