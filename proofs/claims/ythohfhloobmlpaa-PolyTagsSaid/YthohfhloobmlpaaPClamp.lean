/- Clamp: bytes with bits made 0; the sixteen lowest bytes of a sum. -/
import Derived.Test.YthohfhloobmlpaaPOf
namespace Go.Proofs.Ythohfhloobmlpaa
open Go Go.RowKit

theorem and252 {x : Int} (h : 0 ≤ x ∧ x < 256) : bits .and .u8 x 252 = x / 4 * 4 := by
  have key : ∀ n : Fin 256, bits .and .u8 (n.val : Int) 252 = (n.val : Int) / 4 * 4 := by decide +kernel
  obtain ⟨n, rfl⟩ := Int.eq_ofNat_of_zero_le h.1
  exact key ⟨n, by omega⟩
theorem and15 {x : Int} (h : 0 ≤ x ∧ x < 256) : bits .and .u8 x 15 = x % 16 := by
  have key : ∀ n : Fin 256, bits .and .u8 (n.val : Int) 15 = (n.val : Int) % 16 := by decide +kernel
  obtain ⟨n, rfl⟩ := Int.eq_ofNat_of_zero_le h.1
  exact key ⟨n, by omega⟩
/-- The bytes 3, 7, .. below i have four bits left. -/
def K1 (bs : List Int) (i : Nat) : List Int := (List.range 16).map fun j => if j % 4 = 3 ∧ j < i then bs.getD j 0 % 16 else bs.getD j 0
/-- The bytes 4, 8, .. below i have six bits left. -/
def K2 (bs : List Int) (i : Nat) : List Int := (List.range 16).map fun j => if j % 4 = 0 ∧ 4 ≤ j ∧ j < i then bs.getD j 0 / 4 * 4 else bs.getD j 0
def clampL (bs : List Int) : List Int := K2 (K1 bs 16) 16
theorem K1_length (bs : List Int) (i : Nat) : (K1 bs i).length = 16 := by simp [K1]
theorem K2_length (bs : List Int) (i : Nat) : (K2 bs i).length = 16 := by simp [K2]
theorem K1_at (bs : List Int) (i : Nat) {j : Nat} (h : j < 16) : (K1 bs i)[j]? = some (if j % 4 = 3 ∧ j < i then bs.getD j 0 % 16 else bs.getD j 0) := by simp [K1, h]
theorem K2_at (bs : List Int) (i : Nat) {j : Nat} (h : j < 16) : (K2 bs i)[j]? = some (if j % 4 = 0 ∧ 4 ≤ j ∧ j < i then bs.getD j 0 / 4 * 4 else bs.getD j 0) := by simp [K2, h]
theorem K1_zero {bs : List Int} (h : bs.length = 16) : K1 bs 3 = bs := by
  apply List.ext_getElem?
  intro j
  by_cases hj : j < 16
  · rw [K1_at bs 3 hj, if_neg (by omega), ← getD_some (by omega)]
  · rw [List.getElem?_eq_none (by rw [K1_length]; omega), List.getElem?_eq_none (by omega)]
theorem K2_zero {bs : List Int} (h : bs.length = 16) : K2 bs 4 = bs := by
  apply List.ext_getElem?
  intro j
  by_cases hj : j < 16
  · rw [K2_at bs 4 hj, if_neg (by omega), ← getD_some (by omega)]
  · rw [List.getElem?_eq_none (by rw [K2_length]; omega), List.getElem?_eq_none (by omega)]
theorem K1_step {bs : List Int} {i : Nat} (hi : i < 16) (h4 : i % 4 = 3) : (K1 bs i).set i (bs.getD i 0 % 16) = K1 bs (i + 4) := by
  apply List.ext_getElem?
  intro j
  by_cases hj : j < 16
  · by_cases e : i = j
    · subst e
      rw [List.getElem?_set_self (by rw [K1_length]; exact hi), K1_at bs _ hj, if_pos (by omega)]
    · rw [List.getElem?_set_ne e, K1_at bs _ hj, K1_at bs _ hj]
      congr 1
      by_cases h : j % 4 = 3 ∧ j < i
      · rw [if_pos h, if_pos (by omega)]
      · rw [if_neg h, if_neg (by omega)]
  · rw [List.getElem?_eq_none (by rw [List.length_set, K1_length]; omega), List.getElem?_eq_none (by rw [K1_length]; omega)]
theorem K2_step {bs : List Int} {i : Nat} (hi : i < 16) (h4 : i % 4 = 0) (h5 : 4 ≤ i) : (K2 bs i).set i (bs.getD i 0 / 4 * 4) = K2 bs (i + 4) := by
  apply List.ext_getElem?
  intro j
  by_cases hj : j < 16
  · by_cases e : i = j
    · subst e
      rw [List.getElem?_set_self (by rw [K2_length]; exact hi), K2_at bs _ hj, if_pos (by omega)]
    · rw [List.getElem?_set_ne e, K2_at bs _ hj, K2_at bs _ hj]
      congr 1
      by_cases h : j % 4 = 0 ∧ 4 ≤ j ∧ j < i
      · rw [if_pos h, if_pos (by omega)]
      · rw [if_neg h, if_neg (by omega)]
  · rw [List.getElem?_eq_none (by rw [List.length_set, K2_length]; omega), List.getElem?_eq_none (by rw [K2_length]; omega)]
theorem K1_end {bs : List Int} {i : Nat} (h : 16 ≤ i) : K1 bs i = K1 bs 16 := by
  apply List.ext_getElem?
  intro j
  by_cases hj : j < 16
  · rw [K1_at bs _ hj, K1_at bs _ hj]
    congr 1
    by_cases h : j % 4 = 3
    · rw [if_pos (by omega), if_pos (by omega)]
    · rw [if_neg (by omega), if_neg (by omega)]
  · rw [List.getElem?_eq_none (by rw [K1_length]; omega), List.getElem?_eq_none (by rw [K1_length]; omega)]
theorem K1_byt {bs : List Int} (h : Byt bs) (hl : bs.length = 16) (i : Nat) : Byt (K1 bs i) := fun x hx => by
  obtain ⟨j, hj⟩ := List.getElem?_of_mem hx
  have h16 := (List.getElem?_eq_some_iff.1 hj).1
  rw [K1_length] at h16
  rw [K1_at bs i h16] at hj
  injection hj with hj
  have := h.at_ (getD_some (l := bs) (i := j) (by omega))
  split at hj <;> omega
theorem K2_byt {bs : List Int} (h : Byt bs) (hl : bs.length = 16) (i : Nat) : Byt (K2 bs i) := fun x hx => by
  obtain ⟨j, hj⟩ := List.getElem?_of_mem hx
  have h16 := (List.getElem?_eq_some_iff.1 hj).1
  rw [K2_length] at h16
  rw [K2_at bs i h16] at hj
  injection hj with hj
  have := h.at_ (getD_some (l := bs) (i := j) (by omega))
  split at hj <;> omega
theorem clampL_length (bs : List Int) : (clampL bs).length = 16 := K2_length _ _
theorem clampL_byt {bs : List Int} (h : Byt bs) (hl : bs.length = 16) : Byt (clampL bs) := K2_byt (K1_byt h hl 16) (K1_length _ _) 16
set_option maxRecDepth 4000 in
set_option maxHeartbeats 2000000 in
theorem clamp_core (bs r : List Int) (w : World) (hl : bs.length = 16) (hb : Byt bs) (HR : Hid (K2 (K1 bs 16) 16 = r)) (HRL : Hid (r.length = 16)) :
    Calls Try.prog 15 #[.agg (ints .u8 bs).toArray] w fun e w' => e = .returned (.agg (ints .u8 r).toArray) ∧ Below w.heap.size w w' := by
  obtain ⟨z33, s33⟩ := zero_of_info inf33
  have HL := hid hl
  have HB := hid hb
  have HB1 := hid (K1_byt hb hl 16)
  have hD := (Arr.made w .u8 bs 33).alloc (.cells (ints .u8 (zeros 16)).toArray 33)
  have hR := Arr.made (w.alloc (.cells (ints .u8 bs).toArray 33)) .u8 (zeros 16) 33
  have hW := (below_new w (.cells (ints .u8 bs).toArray 33)).alloc (by simp) (.cells (ints .u8 (zeros 16)).toArray 33)
  rw [World.size_alloc] at hR
  have HZ := hid (K1_zero hl)
  clear hb hl
  go_enter Try.func15, Try.ntmps15
  go_wp2
  generalize ((w.alloc (.cells (ints .u8 bs).toArray 33)).alloc (.cells (ints .u8 (zeros 16)).toArray 33)) = W0 at *
  rw [← HZ.out] at hD
  go_loopw [3] (fun i wr => ∃ k : Nat, k ≤ 19 ∧ k % 4 = 3 ∧ i = .int .i64 k ∧ Arr wr w.heap.size 0 .u8 (K1 bs k) ∧ Arr wr (w.heap.size + 1) 0 .u8 (zeros 16) ∧ Below w.heap.size w wr) (fun i _ => 19 - (intOf i).toNat)
  case atStart => exact ⟨3, by omega, rfl, rfl, hD, hR, hW⟩
  case round =>
    clear hD hR hW
    obtain ⟨k, hk, hk4, rfl, hD, hR, hW⟩ := hrel
    rename World => W1
    by_cases hlt : k < 16
    · obtain ⟨x, cx, fx, HX⟩ := hD.spot (i := k) (by rw [K1_length]; exact hlt)
      rw [Nat.zero_add] at cx fx
      have HXE : Hid (bs.getD k 0 = x) := hid (by have h := HX.out; rw [K1_at bs k hlt, if_neg (by omega)] at h; injection h)
      have hxb := HB.out.at_ (getD_some (l := bs) (i := k) (by rw [HL.out]; exact hlt))
      rw [HXE.out] at hxb
      have hmk := and15 hxb
      have hw8 : IntKind.u8.wrap (x % 16) = x % 16 := IntWalk.u8_in _ (by omega)
      have k0 : (0 : Int) ≤ k := by omega
      have k16 : (k : Int) < 16 := by omega
      have hwk : IntKind.i64.wrap ((k : Int) + 4) = (k : Int) + 4 := IntWalk.i64_in _ (by omega)
      have hD1 := hD.set k (x % 16)
      have hK := K1_step (bs := bs) hlt hk4
      rw [HXE.out] at hK
      rw [Nat.zero_add, hK] at hD1
      have HXB := hid hxb
      clear hK hxb
      go_wp2
      go_roundw
      case rel => exact ⟨k + 4, by omega, by omega, by go_num, hD1, hR.apart _ (.inl (by show w.heap.size ≠ w.heap.size + 1; omega)), hW.setCell (by show w.heap.size ≤ w.heap.size; omega) _⟩
      case measure => simp [intOf]; omega
    · have e : k = 19 := by omega
      subst e
      rw [K1_end (by omega)] at hD
      have HL1 := hid (K1_length bs 16)
      generalize K1 bs 16 = ds at *
      have HZ2 := hid (K2_zero HL1.out)
      rw [← HZ2.out] at hD
      go_wp2
      go_loopw [4] (fun i wr => ∃ k : Nat, k ≤ 16 ∧ 4 ≤ k ∧ k % 4 = 0 ∧ i = .int .i64 k ∧ Arr wr w.heap.size 0 .u8 (K2 ds k) ∧ Arr wr (w.heap.size + 1) 0 .u8 (zeros 16) ∧ Below w.heap.size w wr) (fun i _ => 16 - (intOf i).toNat)
      case atStart => exact ⟨4, by omega, by omega, rfl, rfl, hD, hR, hW⟩
      case round =>
        clear hD hR hW
        obtain ⟨k, hk, hk5, hk4, rfl, hD, hR, hW⟩ := hrel
        rename World => W2
        by_cases hlt2 : k < 16
        · obtain ⟨x, cx, fx, HX⟩ := hD.spot (i := k) (by rw [K2_length]; exact hlt2)
          rw [Nat.zero_add] at cx fx
          have HXE : Hid (ds.getD k 0 = x) := hid (by have h := HX.out; rw [K2_at ds k hlt2, if_neg (by omega)] at h; injection h)
          have hxb := HB1.out.at_ (getD_some (l := ds) (i := k) (by rw [HL1.out]; exact hlt2))
          rw [HXE.out] at hxb
          have hmk := and252 hxb
          have hw8 : IntKind.u8.wrap (x / 4 * 4) = x / 4 * 4 := IntWalk.u8_in _ (by omega)
          have k0 : (0 : Int) ≤ k := by omega
          have k16 : (k : Int) < 16 := by omega
          have hwk : IntKind.i64.wrap ((k : Int) + 4) = (k : Int) + 4 := IntWalk.i64_in _ (by omega)
          have hD1 := hD.set k (x / 4 * 4)
          have hK := K2_step (bs := ds) hlt2 hk4 hk5
          rw [HXE.out] at hK
          rw [Nat.zero_add, hK] at hD1
          have HXB := hid hxb
          clear hK hxb
          go_wp2
          go_roundw
          case rel => exact ⟨k + 4, by omega, by omega, by omega, by go_num, hD1, hR.apart _ (.inl (by show w.heap.size ≠ w.heap.size + 1; omega)), hW.setCell (by show w.heap.size ≤ w.heap.size; omega) _⟩
          case measure => simp [intOf]; omega
        · have e : k = 16 := by omega
          subst e
          rw [HR.out] at hD
          have hs1 : W2.there (w.heap.size + 1) 0 (ints .u8 r).toArray.size := hR.room (by rw [zeros_len]; exact HRL.out)
          have hR2 := hR.stored (l' := r) (by rw [zeros_len]; exact HRL.out)
          have hW2 := Below.setCells hW (g := w.heap.size + 1) (by omega) 0 (ints .u8 r).toArray.toList
          go_wp2_with (first
            | (with_reducible refine wpList_load_mid (op := ⟨some 23, .load 33 (.tmp 1), _, _, _, _⟩) rfl 33 (.tmp 1) rfl w.heap.size 0 rfl (ints .u8 r) _ (hD.range) Try.underlying33 rfl (l33 HRL.out) ?_)
            | (with_reducible refine wpList_store_mid (op := ⟨none, .store 33 (.tmp 2) (.tmp 23), _, _, _, _⟩) rfl 33 (.tmp 2) (.tmp 23) rfl (w.heap.size + 1) 0 (ints .u8 r).toArray rfl rfl hs1 (a33 HRL.out) (ints_all _ _) ?_))
          exact ret_rows rfl (w.heap.size + 1) 0 rfl (ints .u8 r) _ hR2.range Try.underlying33 rfl (l33 HRL.out) rfl ⟨rfl, hW2⟩
theorem clamp_any (bs : List Int) (w : World) (hl : bs.length = 16) (hb : Byt bs) :
    Calls Try.prog 15 #[.agg (ints .u8 bs).toArray] w fun e w' => e = .returned (.agg (ints .u8 (clampL bs)).toArray) ∧ Below w.heap.size w w' :=
  clamp_core bs (clampL bs) w hl hb (hid rfl) (hid (clampL_length bs))
end Go.Proofs.Ythohfhloobmlpaa
