/- The reader: take, count, head. -/
import Derived.Test.YtcahcecohjohpaaDoorParseBack
import Derived.Test.YtcahcecohjohpaaDoorWPubGet
namespace Go.Proofs.YtcahcecohjohpaaDoor
open Go.RowKit

/-- The reader at block R has the bytes bs left; they lie below block D. -/
def Rd (R D : Nat) (w : World) (bs : List Int) : Prop :=
  ∃ P m, w.cell? ⟨R, 0, none⟩ = some (.slice P bs.length m) ∧ w.frozen? ⟨R, 0, none⟩ = false ∧ R < w.heap.size ∧ D ≤ R ∧ NumsD D w .u8 P bs ∧ bs.length ≤ m ∧ m ≤ maxLen

theorem Rd.stay {R D : Nat} {w w' : World} {bs : List Int} (h : Rd R D w bs) (hb : Below (R + 1) w w') : Rd R D w' bs := by
  obtain ⟨P, m, hc, hf, hR, hD, hN, hm, hml⟩ := h
  exact ⟨P, m, (hb.cell (p := ⟨R, 0, none⟩) (Nat.lt_succ_self R)).trans hc, (hb.frozen (p := ⟨R, 0, none⟩) (Nat.lt_succ_self R)).trans hf, Nat.lt_of_lt_of_le hR hb.size, hD, hN.stay (hb.mono (by omega)), hm, hml⟩
theorem Rd.lt {R D : Nat} {w : World} {bs : List Int} (h : Rd R D w bs) : R < w.heap.size ∧ D ≤ R := by
  obtain ⟨P, m, hc, hf, hR, hD, _⟩ := h
  exact ⟨hR, hD⟩
theorem Rd.len {R D : Nat} {w : World} {bs : List Int} (h : Rd R D w bs) : bs.length ≤ maxLen := by
  obtain ⟨P, m, hc, hf, hR, hD, _, hm, hml⟩ := h
  omega
theorem Rd.later {R D : Nat} {w w' : World} {bs : List Int} (h : Rd R D w bs) (hb : Below w.heap.size w w') : Rd R D w' bs := h.stay (hb.mono h.lt.1)

theorem part_nums {D : Nat} {w : World} {P : Option Addr} {bs : List Int} (h : NumsD D w .u8 P bs) (n : Nat) : NumsD D w .u8 P (bs.take n) := fun hp => by
  have hl : 0 < bs.length := by rw [List.length_take] at hp; omega
  obtain ⟨b, off, e, hb, hc⟩ := h hl
  refine ⟨b, off, e, hb, fun i hi => ?_⟩
  rw [List.length_take] at hi
  rw [hc i (by omega)]
  simp [List.getD, show i < n by omega]
theorem rest_nums {D : Nat} {w : World} {P : Option Addr} {bs : List Int} (h : NumsD D w .u8 P bs) (n : Nat) : NumsD D w .u8 (P.map (·.add n)) (bs.drop n) := fun hp => by
  have hl : n < bs.length := by rw [List.length_drop] at hp; omega
  obtain ⟨b, off, rfl, hb, hc⟩ := h (by omega)
  refine ⟨b, off + n, by simp [Go.WideShapes.add_plain], hb, fun i hi => ?_⟩
  rw [List.length_drop] at hi
  rw [Nat.add_assoc, hc (n + i) (by omega)]
  simp [List.getD]
theorem none_nums {D : Nat} {w : World} {P : Option Addr} : NumsD D w .u8 P [] := fun hp => absurd hp (by simp)

/-- What take answers where there are enough bytes. -/
def Took (R D : Nat) (bs : List Int) (n : Nat) (w : World) (e : Ending) (w' : World) : Prop :=
  ∃ P m ys, e = .returned (.tuple #[.slice P (ys : List Int).length m, .int .i64 0]) ∧ Hid (ys = bs.take n) ∧ NumsD D w' .u8 P ys ∧ Rd R D w' (bs.drop n) ∧ w.grownBy w' (some R)

theorem set_grown (w : World) (R : Nat) (u : Value) : w.grownBy (w.setCell ⟨R, 0, none⟩ u) (some R) :=
  ⟨rfl, rfl, rfl, by simp [World.setCell], fun k _ hne => Below.heap_setCell w ⟨R, 0, none⟩ u k (fun e => hne (by rw [e]))⟩
theorem set_below (w : World) (R D : Nat) (u : Value) (h : D ≤ R) : Below D w (w.setCell ⟨R, 0, none⟩ u) := (Below.refl _ _).setCell (p := ⟨R, 0, none⟩) h u

set_option maxHeartbeats 400000 in
theorem take_yes (R D : Nat) (bs : List Int) (n : Nat) (w : World) (hR : Rd R D w bs) (hn : n ≤ bs.length) :
    Calls Tryd.prog 43 #[.pointer (some ⟨R, 0, none⟩), .int .i64 n] w (Took R D bs n w) := by
  obtain ⟨P, m, hc, hf, hRl, hD, hN, hm, hml⟩ := hR
  have hl1 : (bs.take n).length = n := by rw [List.length_take]; omega
  have hl2 : (bs.drop n).length = bs.length - n := List.length_drop
  unfold maxLen at hml
  have HL1 := hid hl1
  have HL2 := hid hl2
  clear hl1 hl2
  by_cases hmn : m = n
  · subst hmn
    have hbn : bs.length = m := by omega
    have HBN := hid hbn
    clear hbn
    go_enter Tryd.func43, Tryd.ntmps43
    go_wp2
    go_ret2
    refine ⟨P, m, bs.take _, by rw [HL1.out]; rfl, hid rfl, part_nums (hN.stay (set_below _ _ _ _ hD)) m, ?_, set_grown _ _ _⟩
    have he : bs.drop m = [] := List.drop_eq_nil_of_le (by rw [HBN.out]; exact Nat.le_refl _)
    refine ⟨P, 0, ?_, ?_, by simpa [World.setCell] using hRl, hD, ?_, ?_, by simp⟩
    · rw [HL2.out]; go_simp
    · go_simp
    · rw [he]; exact none_nums
    · rw [he]; simp
  · go_enter Tryd.func43, Tryd.ntmps43
    go_wp2
    go_ret2
    refine ⟨P, m, bs.take _, by rw [HL1.out]; rfl, hid rfl, part_nums (hN.stay (set_below _ _ _ _ hD)) n, ?_, set_grown _ _ _⟩
    refine ⟨_, m - n, ?_, ?_, by simpa [World.setCell] using hRl, hD, rest_nums (hN.stay (set_below _ _ _ _ hD)) n, ?_, by unfold maxLen; omega⟩
    · rw [HL2.out]; go_simp
    · go_simp
    · rw [HL2.out]; omega
theorem take_no (R D : Nat) (bs : List Int) (n : Nat) (w : World) (hR : Rd R D w bs) (hn : bs.length < n) :
    Calls Tryd.prog 43 #[.pointer (some ⟨R, 0, none⟩), .int .i64 n] w fun e w' => e = .returned (.tuple #[.slice none 0 0, .int .i64 10]) ∧ w = w' := by
  obtain ⟨P, m, hc, hf, hRl, hD, hN, hm, hml⟩ := hR
  go_enter Tryd.func43, Tryd.ntmps43
  go_wp2
  go_ret2
  exact ⟨rfl, rfl⟩

/-- What count answers where there are enough bytes. -/
def Counted (R D : Nat) (bs : List Int) (n : Nat) (w : World) (e : Ending) (w' : World) : Prop :=
  ∃ N, e = .returned (.tuple #[.int .i64 N, .int .i64 0]) ∧ Hid (N = hiv (bs.take n)) ∧ 0 ≤ N ∧ N < 16777216 ∧ Rd R D w' (bs.drop n) ∧ w.grownBy w' (some R)
theorem small_get {bs : List Int} (hb : Byt bs) (h1 : 1 ≤ bs.length) (h3 : bs.length ≤ 3) : gnum bs.length (bval true bs) = hiv bs ∧ gerr bs.length (bval true bs) = 0 ∧ 0 ≤ hiv bs ∧ hiv bs < 16777216 := by
  have hbd := hiv_bd bs hb
  have hv : bval true bs = hiv bs := rfl
  have hc : bs.length = 1 ∨ bs.length = 2 ∨ bs.length = 3 := by omega
  unfold gnum gerr
  rw [hv]
  rcases hc with h | h | h <;> rw [h] at hbd ⊢ <;> simp at hbd ⊢ <;> omega
theorem get_small (A : Option Addr) (c : Nat) (bs : List Int) (w : World) (hb : Byt bs) (h1 : 1 ≤ bs.length) (h3 : bs.length ≤ 3) (hA : Nums w .u8 A bs) :
    Calls Tryd.prog 48 #[.slice A bs.length c] w fun e w' => ∃ N, e = .returned (.tuple #[.int .i64 N, .int .i64 0]) ∧ Hid (N = hiv bs) ∧ Below w.heap.size w w' :=
  (wGet_any A c bs w (by omega) hb hA).mono fun e w' h => ⟨hiv bs, by
    obtain ⟨q1, q2, _, _⟩ := small_get hb h1 h3
    have := h.1
    rw [q1, q2] at this
    exact this, hid rfl, h.2⟩
theorem count_yes (R D : Nat) (bs : List Int) (n : Nat) (w : World) (hb : Byt bs) (hR : Rd R D w bs) (h1 : 1 ≤ n) (h3 : n ≤ 3) (hn : n ≤ bs.length) :
    Calls Tryd.prog 47 #[.pointer (some ⟨R, 0, none⟩), .int .i64 n] w (Counted R D bs n w) := by
  have hl1 : 1 ≤ (bs.take n).length ∧ (bs.take n).length ≤ 3 := by rw [List.length_take]; omega
  obtain ⟨_, _, q3, q4⟩ := small_get (hb.take n) hl1.1 hl1.2
  have hlt := hR.lt
  have HLT := hid hlt
  have HL := hid hl1
  clear hl1 hlt
  go_enter Tryd.func47, Tryd.ntmps47
  go_wp2_with (first
    | (go_at_call 43; refine (take_yes R D bs n _ hR hn).mono ?_; rintro e w1 ⟨P, m, ys, rfl, HY, hN, hR1, hg1⟩)
    | (go_at_call 48; refine (get_small P m ys _ (by rw [HY.out]; exact hb.take n) (by rw [HY.out]; exact HL.out.1) (by rw [HY.out]; exact HL.out.2) (hN.nums (Nat.le_trans hR1.lt.2 (Nat.le_of_lt hR1.lt.1)))).mono ?_; rintro e w2 ⟨N, rfl, HN, hb2⟩))
  go_ret2
  exact ⟨N, rfl, hid (by rw [HN.out, HY.out]), by rw [HN.out, HY.out]; exact q3, by rw [HN.out, HY.out]; exact q4, hR1.later hb2, hg1.trans (grown_of_below hb2 _)⟩
theorem count_no (R D : Nat) (bs : List Int) (n : Nat) (w : World) (hR : Rd R D w bs) (hn : bs.length < n) :
    Calls Tryd.prog 47 #[.pointer (some ⟨R, 0, none⟩), .int .i64 n] w fun e w' => e = .returned (.tuple #[.int .i64 0, .int .i64 10]) ∧ w = w' := by
  go_enter Tryd.func47, Tryd.ntmps47
  go_wp2_with (go_at_call 43; refine (take_no R D bs n _ hR hn).mono ?_; rintro e w1 ⟨rfl, rfl⟩)
  go_ret2
  exact ⟨rfl, rfl⟩
theorem countI_yes (a : Int) (n : Nat) (ha : a = n) (R D : Nat) (bs : List Int) (w : World) (hb : Byt bs) (hR : Rd R D w bs) (h1 : 1 ≤ n) (h3 : n ≤ 3) (hn : n ≤ bs.length) :
    Calls Tryd.prog 47 #[.pointer (some ⟨R, 0, none⟩), .int .i64 a] w (Counted R D bs n w) := by subst ha; exact count_yes R D bs n w hb hR h1 h3 hn
theorem countI_no (a : Int) (n : Nat) (ha : a = n) (R D : Nat) (bs : List Int) (w : World) (hR : Rd R D w bs) (hn : bs.length < n) :
    Calls Tryd.prog 47 #[.pointer (some ⟨R, 0, none⟩), .int .i64 a] w fun e w' => e = .returned (.tuple #[.int .i64 0, .int .i64 10]) ∧ w = w' := by subst ha; exact count_no R D bs n w hR hn
end Go.Proofs.YtcahcecohjohpaaDoor
