/- A value's bytes are written: numbers. -/
import Derived.Test.YtcahcecohjohpaaDoorWriteA
namespace Go.Proofs.YtcahcecohjohpaaDoor
open Go.RowKit

theorem put_byte {m : Nat} (h : m ≤ 8) : pbytes true m 1 = [(m : Int)] := by
  have hc : m = 0 ∨ m = 1 ∨ m = 2 ∨ m = 3 ∨ m = 4 ∨ m = 5 ∨ m = 6 ∨ m = 7 ∨ m = 8 := by omega
  rcases hc with rfl | rfl | rfl | rfl | rfl | rfl | rfl | rfl | rfl <;> decide +kernel
theorem num_bytes (n : Int) (b : List Int) (l : List V) (h0 : 0 ≤ n) (h1 : n ≤ 4611686018427387904) : bytesV (.mk 1 n b l) = (1 :: pbytes true (pbytes true n (nb n)).length (wid 1)) ++ pbytes true n (nb n) := by
  have h8 := nb_le n h0 h1
  unfold bytesV
  rw [if_pos rfl]
  by_cases hz : 0 < nb n
  · have hn : 0 < n := by
      rcases Int.lt_or_le 0 n with h | h
      · exact h
      · have : n = 0 := by omega
        subst this; rw [nb_zero] at hz; exact absurd hz (Nat.lt_irrefl _)
    have hl : (pbytes true n (nb n)).length = nb n := pbytes_len (fits_nb hn h1)
    rw [if_pos hz, hl, show wid 1 = 1 from rfl, put_byte h8]
  · have hz0 : nb n = 0 := by omega
    rw [if_neg hz, hz0]
    have hp : pbytes true n ((0 : Nat) : Int) = [] := by
      unfold pbytes
      rw [if_neg (fun h => by have := h.1; omega)]
    rw [hp]
    show _ = (1 :: pbytes true ((0 : Nat) : Int) 1) ++ []
    rw [put_byte (by omega)]

set_option maxHeartbeats 1000000 in
theorem write_num (A' : Option Addr) (m' c' : Nat) (xs : List Int) (n : Int) (b : List Int) (l : List V) (A B : Option Addr) (c d base : Nat) (w : World) (hn0 : 0 ≤ n) (hn1 : n ≤ 4611686018427387904) (ht : Tabs w)
    (hbase : base ≤ w.heap.size) (h1b : 1 < base) (hO : Owns w base 5 .u8 (.slice A' m' c') xs) (hx : xs.length ≤ 1999990) :
    Calls Tryd.prog 24 #[.slice A' m' c', .agg #[.int .i64 1, .int .i64 n, .slice A b.length c, .slice B l.length d]] w (Adds base A' m' c' xs (bytesV (.mk 1 n b l)) w) := by
  have HV := hid (num_bytes n b l hn0 hn1)
  have hnb8 := nb_le n hn0 hn1
  have hne : ∀ g, (Value.slice A' m' c').ownBlock = some g → g ≠ w.heap.size := fun g hg => Nat.ne_of_lt (hO.lt g hg).2
  have hnew := below_new w (.cells #[.int .i64 1, .int .i64 n, .slice A b.length c, .slice B l.length d] 25)
  have hO1 := hO.alloc (.cells #[.int .i64 1, .int .i64 n, .slice A b.length c, .slice B l.length d] 25)
  have ht1 := ht.stay hnew
  have hb4 := Box4.start w (.int .i64 1) (.int .i64 n) (.slice A b.length c) (.slice B l.length d) 25
  obtain ⟨hc0, hc1, hc2, _⟩ := hb4.cells
  have hlw := hb4.lt
  have hfz : (w.alloc (.cells #[.int .i64 1, .int .i64 n, .slice A b.length c, .slice B l.length d] 25)).frozen? ⟨w.heap.size, 2, none⟩ = false := by go_simp
  have hbs1 : base ≤ (w.alloc (.cells #[.int .i64 1, .int .i64 n, .slice A b.length c, .slice B l.length d] 25)).heap.size := by omega
  have hn12 : (⟨w.heap.size, 2, none⟩ : Addr) ≠ ⟨w.heap.size, 1, none⟩ := by simp
  go_enter Tryd.func24, Tryd.ntmps24
  go_wp2
  generalize w.alloc (.cells #[.int .i64 1, .int .i64 n, .slice A b.length c, .slice B l.length d] 25) = W at hnew hO1 ht1 hc0 hc1 hc2 hlw hbs1 hfz ⊢
  clear hb4
  go_region_held3 (fun w' => w'.cell? ⟨w.heap.size, 1, none⟩ = some (.int .i64 n))
    (first | go_keep | exact ((hb1.cell (p := ⟨w.heap.size, 1, none⟩) hlw).trans hc1) | exact (World.cell?_setCell_other _ _ _ _ hn12).trans ((hb1.cell (p := ⟨w.heap.size, 1, none⟩) hlw).trans hc1))
    (first
      | (go_at_call 36; refine (length_any n _ hn0 hn1).mono ?_; rintro e w' ⟨rfl, rfl⟩)
      | (go_at_call 37; refine (wPut_any n (nb n) _).mono ?_; rintro e w1 ⟨B1, d1, ys1, E1, rfl, HY1, HE1, hN1, hb1⟩; have hd2 := (hb1.cell (p := ⟨w.heap.size, 2, none⟩) hlw).trans hc2; have hfz2 := (hb1.frozen (p := ⟨w.heap.size, 2, none⟩) hlw).trans hfz))
  have hbb1 : Below W.heap.size W w1 := ((Below.refl _ W).drew).trans hb1
  have hs1 := hbb1.size
  have hd0 := (hbb1.cell (p := ⟨w.heap.size, 0, none⟩) hlw).trans hc0
  have hO2 := (hO1.stay hbb1).set ⟨w.heap.size, 2, none⟩ (.slice B1 ys1.length d1) hne
  have hN2 := hN1.set ⟨w.heap.size, 2, none⟩ (.slice B1 ys1.length d1) hlw
  have hbs2 : Below w.heap.size W (w1.setCell ⟨w.heap.size, 2, none⟩ (.slice B1 ys1.length d1)) := (hbb1.mono (Nat.le_of_lt hlw)).setCell (p := ⟨w.heap.size, 2, none⟩) (Nat.le_refl _) _
  have ht2 := (ht.stay hnew).grow hbs2 (by omega)
  have he0 : (w1.setCell ⟨w.heap.size, 2, none⟩ (.slice B1 ys1.length d1)).cell? ⟨w.heap.size, 0, none⟩ = some (.int .i64 1) := (World.cell?_setCell_other _ _ _ _ (by simp)).trans hd0
  have he2 : (w1.setCell ⟨w.heap.size, 2, none⟩ (.slice B1 ys1.length d1)).cell? ⟨w.heap.size, 2, none⟩ = some (.slice B1 ys1.length d1) := by go_simp
  have hlw2 : w.heap.size < (w1.setCell ⟨w.heap.size, 2, none⟩ (.slice B1 ys1.length d1)).heap.size := Nat.lt_of_lt_of_le hlw hbs2.size
  have hba2 : base ≤ (w1.setCell ⟨w.heap.size, 2, none⟩ (.slice B1 ys1.length d1)).heap.size := Nat.le_trans hbs1 hbs2.size
  clear hd2 hfz2 hc0 hc1 hc2 hfz hd0 hbb1 hb1
  go_wp2
  generalize w1.setCell ⟨w.heap.size, 2, none⟩ (.slice B1 ys1.length d1) = W2 at hO2 hN2 hbs2 ht2 he0 he2 hlw2 hba2 ⊢
  have hy8 : ys1.length ≤ 8 := by rw [HY1.out]; exact pbytes_length _ _ _
  have hnb : ∀ g, (Value.slice A' m' c').ownBlock = some g → base ≤ g ∧ g < w.heap.size := hO.lt
  have ht3 : Tabs W2.drew := ht2
  have hO3 : Owns W2.drew base 5 .u8 (.slice A' m' c') xs := hO2
  have hx1 : xs.length ≤ 2000000 := by omega
  have hh := head_len 1 ys1.length xs
  have hroom : ((xs ++ 1 :: pbytes true ys1.length (wid 1)).length + ys1.length) * 1 ≤ 140737488355328 := room_one (by omega)
  have hN3 : NumsF W.heap.size W2.drew .u8 B1 ys1 := hN2
  have hgl : ∀ g, (Value.slice A' m' c').ownBlock = some g → g < W.heap.size := fun g hg => Nat.lt_trans (hnb g hg).2 hlw
  clear hh hN1 hs1
  go_region_held3 (fun w' => w'.cell? ⟨w.heap.size, 0, none⟩ = some (.int .i64 1) ∧ w'.cell? ⟨w.heap.size, 2, none⟩ = some (.slice B1 ys1.length d1))
    (first | go_keep | exact And.intro (keep_cell hG2 he0 hlw2 hne) (keep_cell hG2 he2 hlw2 hne) | exact And.intro (keep_cell (hG2.trans hG3) he0 hlw2 hne) (keep_cell (hG2.trans hG3) he2 hlw2 hne))
    (first
      | (go_at_call 38; refine (head_any 1 A' m' c' xs ys1.length base _ (.inl rfl) ht3 hba2 hO3 hx1).mono ?_; rintro e w3 ⟨A2, n2, c2, rfl, hO4, hG2⟩)
      | (refine step_app (by rfl) _ _ 22 (by rfl) base 5 .u8 1 Tryd.underlying22 Tryd.info5 Nat.zero_lt_one A2 n2 c2 (xs ++ 1 :: pbytes true ys1.length (wid 1)) (by rfl) hO4 B1 d1 ys1 (by rfl) (hN3.far hgl (Below.refl _ _) hG2).nums hroom (keep_base hG2 hba2) ?_; intro A3 n3 c3 w4 hO5 hG3))
  go_wp2
  go_ret
  have hfin := hG2.trans hG3
  refine ⟨A3, n3, c3, rfl, ?_, Grew.after ((hnew.trans hbs2).trans ((Below.refl _ _).drew)) hfin⟩
  rw [HV.out, ← HY1.out, ← List.append_assoc]
  exact hO5
end Go.Proofs.YtcahcecohjohpaaDoor
