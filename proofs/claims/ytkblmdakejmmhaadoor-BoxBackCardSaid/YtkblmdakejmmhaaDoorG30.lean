/- Texts of this proof, laid together: PClamp, PLow, PStep. -/
import Derived.Test.YtkblmdakejmmhaaDoorG29
import Derived.Test.YtkblmdakejmmhaaDoorG10
import Derived.Test.YtkblmdakejmmhaaDoorG8
/- Clamp: bytes with bits made 0; the sixteen lowest bytes of a sum. -/
namespace Go.Proofs.YtkblmdakejmmhaaDoor
open Go Go.RowKit

set_option maxRecDepth 50000 in
theorem and252 {x : Int} (h : 0 ≤ x ∧ x < 256) : bits .and .u8 x 252 = x / 4 * 4 := by
  have key : ∀ n : Fin 256, bits .and .u8 (n.val : Int) 252 = (n.val : Int) / 4 * 4 := by decide +kernel
  obtain ⟨n, rfl⟩ := Int.eq_ofNat_of_zero_le h.1
  exact key ⟨n, by omega⟩
set_option maxRecDepth 50000 in
theorem and15 {x : Int} (h : 0 ≤ x ∧ x < 256) : bits .and .u8 x 15 = x % 16 := by
  have key : ∀ n : Fin 256, bits .and .u8 (n.val : Int) 15 = (n.val : Int) % 16 := by decide +kernel
  obtain ⟨n, rfl⟩ := Int.eq_ofNat_of_zero_le h.1
  exact key ⟨n, by omega⟩
/-- The bytes 3, 7, .. below i have four bits left. -/
def K1 (bs : List Int) (i : Nat) : List Int := (List.range 16).map fun j => if j % 4 = 3 ∧ j < i then bs.getD j 0 % 16 else bs.getD j 0
/-- The bytes 4, 8, .. below i have six bits left. -/
def K2 (bs : List Int) (i : Nat) : List Int := (List.range 16).map fun j => if j % 4 = 0 ∧ 4 ≤ j ∧ j < i then bs.getD j 0 / 4 * 4 else bs.getD j 0
def clampLZ (bs : List Int) : List Int := K2 (K1 bs 16) 16
set_option maxRecDepth 50000 in
theorem K1_length (bs : List Int) (i : Nat) : (K1 bs i).length = 16 := by simp [K1]
set_option maxRecDepth 50000 in
theorem K2_length (bs : List Int) (i : Nat) : (K2 bs i).length = 16 := by simp [K2]
set_option maxRecDepth 50000 in
theorem K1_at (bs : List Int) (i : Nat) {j : Nat} (h : j < 16) : (K1 bs i)[j]? = some (if j % 4 = 3 ∧ j < i then bs.getD j 0 % 16 else bs.getD j 0) := by simp [K1, h]
set_option maxRecDepth 50000 in
theorem K2_at (bs : List Int) (i : Nat) {j : Nat} (h : j < 16) : (K2 bs i)[j]? = some (if j % 4 = 0 ∧ 4 ≤ j ∧ j < i then bs.getD j 0 / 4 * 4 else bs.getD j 0) := by simp [K2, h]
set_option maxRecDepth 50000 in
theorem K1_zero {bs : List Int} (h : bs.length = 16) : K1 bs 3 = bs := by
  apply List.ext_getElem?
  intro j
  by_cases hj : j < 16
  · rw [K1_at bs 3 hj, if_neg (by omega), ← getD_some (by omega)]
  · rw [List.getElem?_eq_none (by rw [K1_length]; omega), List.getElem?_eq_none (by omega)]
set_option maxRecDepth 50000 in
theorem K2_zero {bs : List Int} (h : bs.length = 16) : K2 bs 4 = bs := by
  apply List.ext_getElem?
  intro j
  by_cases hj : j < 16
  · rw [K2_at bs 4 hj, if_neg (by omega), ← getD_some (by omega)]
  · rw [List.getElem?_eq_none (by rw [K2_length]; omega), List.getElem?_eq_none (by omega)]
set_option maxRecDepth 50000 in
theorem K1_step {bs : List Int} {i : Nat} (hi : i < 16) (h4 : i % 4 = 3) : (K1 bs i).set i (bs.getD i 0 % 16) = K1 bs (i + 4) := by
  apply List.ext_getElem?
  intro j
  by_cases hj : j < 16
  · by_cases e : i = j
    · subst e
      rw [List.getElem?_set_self (by rw [K1_length]; exact hi), K1_at bs _ hj, if_pos (by omega)]
    · rw [List.getElem?_set_ne e, K1_at bs _ hj, K1_at bs _ hj]
      congr 1
      by_cases h : j % 4 = 3 ∧ j < i
      · rw [if_pos h, if_pos (by omega)]
      · rw [if_neg h, if_neg (by omega)]
  · rw [List.getElem?_eq_none (by rw [List.length_set, K1_length]; omega), List.getElem?_eq_none (by rw [K1_length]; omega)]
set_option maxRecDepth 50000 in
theorem K2_step {bs : List Int} {i : Nat} (hi : i < 16) (h4 : i % 4 = 0) (h5 : 4 ≤ i) : (K2 bs i).set i (bs.getD i 0 / 4 * 4) = K2 bs (i + 4) := by
  apply List.ext_getElem?
  intro j
  by_cases hj : j < 16
  · by_cases e : i = j
    · subst e
      rw [List.getElem?_set_self (by rw [K2_length]; exact hi), K2_at bs _ hj, if_pos (by omega)]
    · rw [List.getElem?_set_ne e, K2_at bs _ hj, K2_at bs _ hj]
      congr 1
      by_cases h : j % 4 = 0 ∧ 4 ≤ j ∧ j < i
      · rw [if_pos h, if_pos (by omega)]
      · rw [if_neg h, if_neg (by omega)]
  · rw [List.getElem?_eq_none (by rw [List.length_set, K2_length]; omega), List.getElem?_eq_none (by rw [K2_length]; omega)]
set_option maxRecDepth 50000 in
theorem K1_end {bs : List Int} {i : Nat} (h : 16 ≤ i) : K1 bs i = K1 bs 16 := by
  apply List.ext_getElem?
  intro j
  by_cases hj : j < 16
  · rw [K1_at bs _ hj, K1_at bs _ hj]
    congr 1
    by_cases h : j % 4 = 3
    · rw [if_pos (by omega), if_pos (by omega)]
    · rw [if_neg (by omega), if_neg (by omega)]
  · rw [List.getElem?_eq_none (by rw [K1_length]; omega), List.getElem?_eq_none (by rw [K1_length]; omega)]
set_option maxRecDepth 50000 in
theorem K1_byt {bs : List Int} (h : Byt bs) (hl : bs.length = 16) (i : Nat) : Byt (K1 bs i) := fun x hx => by
  obtain ⟨j, hj⟩ := List.getElem?_of_mem hx
  have h16 := (List.getElem?_eq_some_iff.1 hj).1
  rw [K1_length] at h16
  rw [K1_at bs i h16] at hj
  injection hj with hj
  have := h.at_ (getD_some (l := bs) (i := j) (by omega))
  split at hj <;> omega
set_option maxRecDepth 50000 in
theorem K2_byt {bs : List Int} (h : Byt bs) (hl : bs.length = 16) (i : Nat) : Byt (K2 bs i) := fun x hx => by
  obtain ⟨j, hj⟩ := List.getElem?_of_mem hx
  have h16 := (List.getElem?_eq_some_iff.1 hj).1
  rw [K2_length] at h16
  rw [K2_at bs i h16] at hj
  injection hj with hj
  have := h.at_ (getD_some (l := bs) (i := j) (by omega))
  split at hj <;> omega
set_option maxRecDepth 50000 in
theorem clampL_lengthZ (bs : List Int) : (clampLZ bs).length = 16 := K2_length _ _
set_option maxRecDepth 50000 in
theorem clampL_bytZ {bs : List Int} (h : Byt bs) (hl : bs.length = 16) : Byt (clampLZ bs) := K2_byt (K1_byt h hl 16) (K1_length _ _) 16
set_option maxRecDepth 4000 in
set_option maxHeartbeats 2000000 in
theorem clamp_core (bs r : List Int) (w : World) (hl : bs.length = 16) (hb : Byt bs) (HR : Hid (K2 (K1 bs 16) 16 = r)) (HRL : Hid (r.length = 16)) :
    Calls Tryd.prog 58 #[.agg (ints .u8 bs).toArray] w fun e w' => e = .returned (.agg (ints .u8 r).toArray) ∧ Below w.heap.size w w' := by
  obtain ⟨z33, s33⟩ := zero_of_info inf33
  have HL := hid hl
  have HB := hid hb
  have HB1 := hid (K1_byt hb hl 16)
  have hD := (Arr.made w .u8 bs 45).alloc (.cells (ints .u8 (zeros 16)).toArray 45)
  have hR := Arr.made (w.alloc (.cells (ints .u8 bs).toArray 45)) .u8 (zeros 16) 45
  have hW := (below_new w (.cells (ints .u8 bs).toArray 45)).alloc (by simp) (.cells (ints .u8 (zeros 16)).toArray 45)
  rw [World.size_alloc] at hR
  have HZ := hid (K1_zero hl)
  clear hb hl
  go_enter Tryd.func58, Tryd.ntmps58
  go_wp2
  generalize ((w.alloc (.cells (ints .u8 bs).toArray 45)).alloc (.cells (ints .u8 (zeros 16)).toArray 45)) = W0 at *
  rw [← HZ.out] at hD
  go_loopw [3] (fun i wr => ∃ k : Nat, k ≤ 19 ∧ k % 4 = 3 ∧ i = .int .i64 k ∧ Arr wr w.heap.size 0 .u8 (K1 bs k) ∧ Arr wr (w.heap.size + 1) 0 .u8 (zeros 16) ∧ Below w.heap.size w wr) (fun i _ => 19 - (intOf i).toNat)
  case atStart => exact ⟨3, by omega, rfl, rfl, hD, hR, hW⟩
  case round =>
    clear hD hR hW
    obtain ⟨k, hk, hk4, rfl, hD, hR, hW⟩ := hrel
    rename World => W1
    by_cases hlt : k < 16
    · obtain ⟨x, cx, fx, HX⟩ := hD.spot (i := k) (by rw [K1_length]; exact hlt)
      rw [Nat.zero_add] at cx fx
      have HXE : Hid (bs.getD k 0 = x) := hid (by have h := HX.out; rw [K1_at bs k hlt, if_neg (by omega)] at h; injection h)
      have hxb := HB.out.at_ (getD_some (l := bs) (i := k) (by rw [HL.out]; exact hlt))
      rw [HXE.out] at hxb
      have hmk := and15 hxb
      have hw8 : IntKind.u8.wrap (x % 16) = x % 16 := IntWalk.u8_in _ (by omega)
      have k0 : (0 : Int) ≤ k := by omega
      have k16 : (k : Int) < 16 := by omega
      have hwk : IntKind.i64.wrap ((k : Int) + 4) = (k : Int) + 4 := IntWalk.i64_in _ (by omega)
      have hD1 := hD.set k (x % 16)
      have hK := K1_step (bs := bs) hlt hk4
      rw [HXE.out] at hK
      rw [Nat.zero_add, hK] at hD1
      have HXB := hid hxb
      clear hK hxb
      go_wp2
      go_roundw
      case rel => exact ⟨k + 4, by omega, by omega, by go_num, hD1, hR.apart _ (.inl (by show w.heap.size ≠ w.heap.size + 1; omega)), hW.setCell (by show w.heap.size ≤ w.heap.size; omega) _⟩
      case measure => simp [intOf]; omega
    · have e : k = 19 := by omega
      subst e
      rw [K1_end (by omega)] at hD
      have HL1 := hid (K1_length bs 16)
      generalize K1 bs 16 = ds at *
      have HZ2 := hid (K2_zero HL1.out)
      rw [← HZ2.out] at hD
      go_wp2
      go_loopw [4] (fun i wr => ∃ k : Nat, k ≤ 16 ∧ 4 ≤ k ∧ k % 4 = 0 ∧ i = .int .i64 k ∧ Arr wr w.heap.size 0 .u8 (K2 ds k) ∧ Arr wr (w.heap.size + 1) 0 .u8 (zeros 16) ∧ Below w.heap.size w wr) (fun i _ => 16 - (intOf i).toNat)
      case atStart => exact ⟨4, by omega, by omega, rfl, rfl, hD, hR, hW⟩
      case round =>
        clear hD hR hW
        obtain ⟨k, hk, hk5, hk4, rfl, hD, hR, hW⟩ := hrel
        rename World => W2
        by_cases hlt2 : k < 16
        · obtain ⟨x, cx, fx, HX⟩ := hD.spot (i := k) (by rw [K2_length]; exact hlt2)
          rw [Nat.zero_add] at cx fx
          have HXE : Hid (ds.getD k 0 = x) := hid (by have h := HX.out; rw [K2_at ds k hlt2, if_neg (by omega)] at h; injection h)
          have hxb := HB1.out.at_ (getD_some (l := ds) (i := k) (by rw [HL1.out]; exact hlt2))
          rw [HXE.out] at hxb
          have hmk := and252 hxb
          have hw8 : IntKind.u8.wrap (x / 4 * 4) = x / 4 * 4 := IntWalk.u8_in _ (by omega)
          have k0 : (0 : Int) ≤ k := by omega
          have k16 : (k : Int) < 16 := by omega
          have hwk : IntKind.i64.wrap ((k : Int) + 4) = (k : Int) + 4 := IntWalk.i64_in _ (by omega)
          have hD1 := hD.set k (x / 4 * 4)
          have hK := K2_step (bs := ds) hlt2 hk4 hk5
          rw [HXE.out] at hK
          rw [Nat.zero_add, hK] at hD1
          have HXB := hid hxb
          clear hK hxb
          go_wp2
          go_roundw
          case rel => exact ⟨k + 4, by omega, by omega, by omega, by go_num, hD1, hR.apart _ (.inl (by show w.heap.size ≠ w.heap.size + 1; omega)), hW.setCell (by show w.heap.size ≤ w.heap.size; omega) _⟩
          case measure => simp [intOf]; omega
        · have e : k = 16 := by omega
          subst e
          rw [HR.out] at hD
          have hs1 : W2.there (w.heap.size + 1) 0 (ints .u8 r).toArray.size := hR.room (by rw [zeros_len]; exact HRL.out)
          have hR2 := hR.stored (l' := r) (by rw [zeros_len]; exact HRL.out)
          have hW2 := Below.setCells hW (g := w.heap.size + 1) (by omega) 0 (ints .u8 r).toArray.toList
          go_wp2_with (first
            | (with_reducible refine wpList_load_mid (op := ⟨some 23, .load 45 (.tmp 1), _, _, _, _⟩) rfl 45 (.tmp 1) rfl w.heap.size 0 rfl (ints .u8 r) _ (hD.range) Tryd.underlying45 rfl (l33 HRL.out) ?_)
            | (with_reducible refine wpList_store_mid (op := ⟨none, .store 45 (.tmp 2) (.tmp 23), _, _, _, _⟩) rfl 45 (.tmp 2) (.tmp 23) rfl (w.heap.size + 1) 0 (ints .u8 r).toArray rfl rfl hs1 (a33 HRL.out) (ints_all _ _) ?_))
          exact ret_rows rfl (w.heap.size + 1) 0 rfl (ints .u8 r) _ hR2.range Tryd.underlying45 rfl (l33 HRL.out) rfl ⟨rfl, hW2⟩
set_option maxRecDepth 50000 in
theorem clamp_any (bs : List Int) (w : World) (hl : bs.length = 16) (hb : Byt bs) :
    Calls Tryd.prog 58 #[.agg (ints .u8 bs).toArray] w fun e w' => e = .returned (.agg (ints .u8 (clampLZ bs)).toArray) ∧ Below w.heap.size w w' :=
  clamp_core bs (clampLZ bs) w hl hb (hid rfl) (hid (clampL_lengthZ bs))
end Go.Proofs.YtkblmdakejmmhaaDoor

/- The sixteen lowest bytes of a sum. -/
namespace Go.Proofs.YtkblmdakejmmhaaDoor
open Go Go.RowKit

/-- Sixteen bytes of a number. -/
def lb (m : Nat) : List Int := (List.range 16).map fun i => ((m / 256 ^ i % 256 : Nat) : Int)
set_option maxRecDepth 50000 in
theorem lb_length (m : Nat) : (lb m).length = 16 := by simp [lb]
set_option maxRecDepth 50000 in
theorem lb_byt (m : Nat) : Byt (lb m) := fun x hx => by
  simp only [lb, List.mem_map] at hx
  obtain ⟨i, _, rfl⟩ := hx
  omega
set_option maxRecDepth 50000 in
theorem lb_bv (m : Nat) : bv (lb m) = ((m % 256 ^ 16 : Nat) : Int) := range_bv 16 m
set_option maxRecDepth 50000 in
/-- Bytes of one number are the same. -/
theorem byt_inj {a b : List Int} (hl : a.length = b.length) (ha : Byt a) (hb : Byt b) (h : bv a = bv b) : a = b := by
  apply List.ext_getElem?
  intro i
  by_cases hi : i < a.length
  · rw [getD_some hi, getD_some (by omega), ← bv_at a i ha, ← bv_at b i hb, h]
  · rw [List.getElem?_eq_none (by omega), List.getElem?_eq_none (by omega)]
/-- What has been added, byte by byte. -/
def LowI (xs ys : List Int) (k : Nat) (zs : List Int) (c : Int) : Prop := zs.length = 16 ∧ Byt zs ∧ 0 ≤ c ∧ c ≤ 1 ∧ bv (zs.take k) + c * 256 ^ k = bv (xs.take k) + bv (ys.take k) ∧ ∀ j, k ≤ j → zs[j]? = ys[j]?
set_option maxRecDepth 50000 in
theorem LowI.start {xs ys : List Int} (hl : ys.length = 16) (hb : Byt ys) : LowI xs ys 0 ys 0 := ⟨hl, hb, by omega, by omega, by simp [bv], fun _ _ => rfl⟩
set_option maxRecDepth 50000 in
theorem LowI.step {xs ys zs : List Int} {k : Nat} {c x y : Int} (h : LowI xs ys k zs c) (hk : k < 16) (hx : xs[k]? = some x) (hy : ys[k]? = some y) (hxb : 0 ≤ x ∧ x < 256) (hyb : 0 ≤ y ∧ y < 256) : LowI xs ys (k + 1) (zs.set k ((c + (x + y)) % 256)) ((c + (x + y)) / 256) := by
  obtain ⟨h1, h2, h3, h4, h5, h6⟩ := h
  refine ⟨by simp [h1], fun z hz => ?_, by omega, by omega, ?_, fun j hj => ?_⟩
  · rcases List.mem_or_eq_of_mem_set hz with e | e
    · exact h2 z e
    · rw [e]; omega
  · have e1 : (zs.set k ((c + (x + y)) % 256))[k]? = some ((c + (x + y)) % 256) := List.getElem?_set_self (by omega)
    rw [bv_take_succ e1, bv_take_succ hx, bv_take_succ hy, List.take_set_of_le (Nat.le_refl k), Int.pow_succ]
    have hdm := Int.emod_add_mul_ediv (c + (x + y)) 256
    generalize (c + (x + y)) % 256 = r at *
    generalize (c + (x + y)) / 256 = q at *
    generalize (256 : Int) ^ k = P at *
    have e2 : (r + 256 * q) * P = (c + (x + y)) * P := by rw [hdm]
    rw [Int.add_mul, Int.add_mul, Int.add_mul] at e2
    have e3 : q * (P * 256) = 256 * q * P := by rw [Int.mul_comm P, ← Int.mul_assoc, Int.mul_comm q]
    rw [e3]
    omega
  · rw [List.getElem?_set_ne (by omega)]; exact h6 j (by omega)
set_option maxRecDepth 50000 in
theorem bn_take {xs : List Int} (hb : Byt xs) (h : 16 ≤ xs.length) : bn (xs.take 16) = bn xs % 256 ^ 16 := by
  have h1 := bv_append (xs.take 16) (xs.drop 16)
  rw [List.take_append_drop, List.length_take, Nat.min_eq_left h] at h1
  have h2 := bv_bd _ (hb.take 16)
  rw [List.length_take, Nat.min_eq_left h] at h2
  unfold bn
  rw [← toNat_mod _ _ (bv_bd xs hb).1, h1]
  have e : ((256 ^ 16 : Nat) : Int) = (256 : Int) ^ 16 := by simp
  rw [e, Int.add_mul_emod_self_left, Int.emod_eq_of_lt h2.1 h2.2]
set_option maxRecDepth 50000 in
theorem LowI.end_ {xs ys zs : List Int} {c : Int} (h : LowI xs ys 16 zs c) (hl : ys.length = 16) (hx : xs.length = 17) (hb : Byt xs) (hb2 : Byt ys) : zs = lb (bn xs + bn ys) := by
  obtain ⟨h1, h2, h3, h4, h5, _⟩ := h
  rw [List.take_of_length_le (by omega), List.take_of_length_le (by omega : ys.length ≤ 16)] at h5
  refine byt_inj (by rw [h1, lb_length]) h2 (lb_byt _) ?_
  rw [lb_bv]
  have hz := bv_bd zs h2
  rw [h1] at hz
  have e1 := bn_take hb (by omega)
  have i1 := bn_int (hb.take 16)
  have i2 := bn_int hb2
  have i3 := bn_int h2
  have hz2 := bn_lt h2
  rw [h1] at hz2
  obtain ⟨d, rfl⟩ := Int.eq_ofNat_of_zero_le h3
  rw [← i1, ← i2, ← i3] at h5
  have e2 : ((256 : Int) ^ 16) = ((256 ^ 16 : Nat) : Int) := by simp
  rw [e2] at h5
  have h6 : bn zs + d * 256 ^ 16 = bn (xs.take 16) + bn ys := by exact_mod_cast h5
  rw [← i3]
  congr 1
  have h7 : (bn xs + bn ys) % 256 ^ 16 = (bn (xs.take 16) + bn ys) % 256 ^ 16 := by rw [e1, Nat.mod_add_mod]
  rw [h7, ← h6, Nat.add_mul_mod_self_right, Nat.mod_eq_of_lt hz2]
set_option maxRecDepth 4000 in
set_option maxHeartbeats 2000000 in
theorem low_core (xs ys r : List Int) (w : World) (HL : Hid (xs.length = 17)) (HL2 : Hid (ys.length = 16)) (HB : Hid (Byt xs)) (HB2 : Hid (Byt ys)) (HR : Hid (lb (bn xs + bn ys) = r)) (HRL : Hid (r.length = 16)) :
    Calls Tryd.prog 61 #[.agg (ints .u8 xs).toArray, .agg (ints .u8 ys).toArray] w fun e w' => e = .returned (.agg (ints .u8 r).toArray) ∧ Below w.heap.size w w' := by
  obtain ⟨z33, s33⟩ := zero_of_info inf33
  have HI0 := hid (LowI.start (xs := xs) HL2.out HB2.out)
  have hX := ((Arr.made w .u8 xs 95).alloc (.cells (ints .u8 ys).toArray 45)).alloc (.cells (ints .u8 (zeros 16)).toArray 45)
  have hY := (Arr.made (w.alloc (.cells (ints .u8 xs).toArray 95)) .u8 ys 45).alloc (.cells (ints .u8 (zeros 16)).toArray 45)
  have hR := Arr.made ((w.alloc (.cells (ints .u8 xs).toArray 95)).alloc (.cells (ints .u8 ys).toArray 45)) .u8 (zeros 16) 45
  have hW := ((below_new w (.cells (ints .u8 xs).toArray 95)).alloc (by simp) (.cells (ints .u8 ys).toArray 45)).alloc (by simp; omega) (.cells (ints .u8 (zeros 16)).toArray 45)
  rw [World.size_alloc] at hY
  rw [World.size_alloc, World.size_alloc] at hR
  go_enter Tryd.func61, Tryd.ntmps61
  go_wp2_with (first
    | (with_reducible refine wpList_load_mid (op := ⟨some 8, .load 45 (.tmp 3), _, _, _, _⟩) rfl 45 (.tmp 3) rfl (w.heap.size + 1) 0 rfl (ints .u8 ys) _ (hY.range) Tryd.underlying45 rfl (l33 HL2.out) ?_))
  generalize (((w.alloc (.cells (ints .u8 xs).toArray 95)).alloc (.cells (ints .u8 ys).toArray 45)).alloc (.cells (ints .u8 (zeros 16)).toArray 45)) = W0 at *
  go_loopw [5, 9] (fun o i wr => ∃ (k : Nat) (zs : List Int) (c : Int), k ≤ 16 ∧ i = .int .i64 k ∧ o = .int .i64 c ∧ Hid (LowI xs ys k zs c) ∧ Arr wr w.heap.size 0 .u8 xs ∧ Arr wr (w.heap.size + 1) 0 .u8 zs ∧ Arr wr (w.heap.size + 1 + 1) 0 .u8 (zeros 16) ∧ Below w.heap.size w wr) (fun _ i _ => 16 - (intOf i).toNat)
  case atStart => exact ⟨0, ys, 0, by omega, rfl, rfl, HI0, hX, hY, hR, hW⟩
  case round =>
    clear hX hY hR hW HI0
    obtain ⟨k, zs, c, hk, rfl, rfl, HI, hX, hD, hR, hW⟩ := hrel
    rename World => W1
    by_cases hlt : k < 16
    · obtain ⟨x, cx, fx, HX⟩ := hX.spot (i := k) (by rw [HL.out]; omega)
      obtain ⟨z, cz, fz, _⟩ := hD.spot (i := k) (by rw [HI.out.1]; exact hlt)
      rw [Nat.zero_add] at cx cz fz
      have HY := hid (getD_some (l := ys) (i := k) (by rw [HL2.out]; exact hlt))
      have hix := fun w => index33 HY.out hlt w
      generalize ys.getD k 0 = y at *
      have hxb := HB.out.at_ HX.out
      have hyb := HB2.out.at_ HY.out
      have hcb := And.intro HI.out.2.2.1 HI.out.2.2.2.1
      have HS := hid (HI.out.step hlt HX.out HY.out hxb hyb)
      have hx64 : IntKind.i64.wrap x = x := IntWalk.i64_in _ (by omega)
      have hy64 : IntKind.i64.wrap y = y := IntWalk.i64_in _ (by omega)
      have hs64 : IntKind.i64.wrap (x + y) = x + y := IntWalk.i64_in _ (by omega)
      obtain ⟨t, ht⟩ : ∃ t, t = c + (x + y) := ⟨_, rfl⟩
      have ht64 : IntKind.i64.wrap (c + (x + y)) = t := by rw [IntWalk.i64_in _ (by omega), ht]
      rw [← ht] at HS
      have hw8 : IntKind.u8.wrap t = t % 256 := IntKind.wrap_u8 t
      have k0 : (0 : Int) ≤ k := by omega
      have k16 : (k : Int) < 16 := by omega
      have k17 : (k : Int) < 17 := by omega
      have hwk : IntKind.i64.wrap ((k : Int) + 1) = (k : Int) + 1 := IntWalk.i64_in _ (by omega)
      have hD1 := hD.set k (t % 256)
      rw [Nat.zero_add] at hD1
      have HXX := hid (And.intro hxb (And.intro hyb (And.intro hcb ht)))
      clear hxb hyb hcb ht
      go_wp2
      go_roundw
      case rel => exact ⟨k + 1, zs.set k (t % 256), t / 256, by omega, by go_num, rfl, HS, hX.apart _ (.inl (by show w.heap.size + 1 ≠ w.heap.size; omega)), hD1, hR.apart _ (.inl (by show w.heap.size + 1 ≠ w.heap.size + 1 + 1; omega)), hW.setCell (by show w.heap.size ≤ w.heap.size + 1; omega) _⟩
      case measure => simp [intOf]; omega
    · have e : k = 16 := by omega
      subst e
      have HE := hid (HI.out.end_ HL2.out HL.out HB.out HB2.out)
      rw [HE.out, HR.out] at hD
      have hs1 : W1.there (w.heap.size + 1 + 1) 0 (ints .u8 r).toArray.size := hR.room (by rw [zeros_len]; exact HRL.out)
      have hR2 := hR.stored (l' := r) (by rw [zeros_len]; exact HRL.out)
      have hW2 := Below.setCells hW (g := w.heap.size + 1 + 1) (by omega) 0 (ints .u8 r).toArray.toList
      go_wp2_with (first
        | (with_reducible refine wpList_load_mid (op := ⟨some 29, .load 45 (.tmp 3), _, _, _, _⟩) rfl 45 (.tmp 3) rfl (w.heap.size + 1) 0 rfl (ints .u8 r) _ (hD.range) Tryd.underlying45 rfl (l33 HRL.out) ?_)
        | (with_reducible refine wpList_store_mid (op := ⟨none, .store 45 (.tmp 4) (.tmp 29), _, _, _, _⟩) rfl 45 (.tmp 4) (.tmp 29) rfl (w.heap.size + 1 + 1) 0 (ints .u8 r).toArray rfl rfl hs1 (a33 HRL.out) (ints_all _ _) ?_))
      exact ret_rows rfl (w.heap.size + 1 + 1) 0 rfl (ints .u8 r) _ hR2.range Tryd.underlying45 rfl (l33 HRL.out) rfl ⟨rfl, hW2⟩
set_option maxRecDepth 50000 in
theorem low_any (xs ys : List Int) (w : World) (hl : xs.length = 17) (hl2 : ys.length = 16) (hb : Byt xs) (hb2 : Byt ys) :
    Calls Tryd.prog 61 #[.agg (ints .u8 xs).toArray, .agg (ints .u8 ys).toArray] w fun e w' => e = .returned (.agg (ints .u8 (lb (bn xs + bn ys))).toArray) ∧ Below w.heap.size w w' :=
  low_core xs ys _ w (hid hl) (hid hl2) (hid hb) (hid hb2) (hid rfl) (hid (lb_length _))
end Go.Proofs.YtkblmdakejmmhaaDoor

/- Calls as steps; the fields of what keeps a block; types for regions. -/
namespace Go.Proofs.YtkblmdakejmmhaaDoor
open Go Go.RowKit

section
variable {ops : Array Oper} {md : Region.Mode} {W : World} {a0 : Act} {n : Nat} {al : Nat → Bool} {S : Nat → Value → World → Prop} {Q : Exit → Act → World → Prop} {i : Nat} {o : Oper}
end
set_option maxRecDepth 50000 in
theorem cx11 (vs : Array Value) (w : World) : (callFunc 71 vs).run Tryd.prog w = .ok (.enter 71 vs) w := by go_simp
set_option maxRecDepth 50000 in
theorem cx13 (vs : Array Value) (w : World) : (callFunc 72 vs).run Tryd.prog w = .ok (.enter 72 vs) w := by go_simp
set_option maxRecDepth 50000 in
theorem cx20 (vs : Array Value) (w : World) : (callFunc 37 vs).run Tryd.prog w = .ok (.enter 37 vs) w := by go_simp
set_option maxRecDepth 50000 in
theorem cx28 (vs : Array Value) (w : World) : (callFunc 61 vs).run Tryd.prog w = .ok (.enter 61 vs) w := by go_simp
set_option maxRecDepth 50000 in
theorem fldT0 (b : Nat) : ∀ w, (Instr.fieldAt 97 (.pointer (some ⟨b, 0, none⟩)) 0).run Tryd.prog w = .ok (.pointer (some ⟨b, 0, none⟩)) w := fun w => by go_simp
set_option maxRecDepth 50000 in
theorem fldT1 (b : Nat) : ∀ w, (Instr.fieldAt 97 (.pointer (some ⟨b, 0, none⟩)) 1).run Tryd.prog w = .ok (.pointer (some ⟨b, 17, none⟩)) w := fun w => by go_simp
set_option maxRecDepth 50000 in
theorem fldT2 (b : Nat) : ∀ w, (Instr.fieldAt 97 (.pointer (some ⟨b, 0, none⟩)) 2).run Tryd.prog w = .ok (.pointer (some ⟨b, 34, none⟩)) w := fun w => by go_simp
set_option maxRecDepth 50000 in
theorem zv (k : IntKind) (m : Nat) : (ints k (zeros m)).length = m := il (zeros_len m)
set_option maxRecDepth 50000 in
theorem ua25 : Tryd.prog.underlying 95 = some (.array (Tryd.prog.arrayLen 95) (Tryd.prog.elem 95)) := by kernel_rfl
set_option maxRecDepth 50000 in
theorem ua33 : Tryd.prog.underlying 45 = some (.array (Tryd.prog.arrayLen 45) (Tryd.prog.elem 45)) := by kernel_rfl
set_option maxRecDepth 50000 in
theorem ua41 : Tryd.prog.underlying 22 = some (.array (Tryd.prog.arrayLen 22) (Tryd.prog.elem 22)) := by kernel_rfl
set_option maxRecDepth 50000 in
theorem ua23 : Tryd.prog.underlying 23 = some (.slice (Tryd.prog.elem 23)) := by kernel_rfl
set_option maxRecDepth 50000 in
theorem ze25 : ∀ w, (sizeOf (Tryd.prog.elem 95)).run Tryd.prog w = .ok 1 w := fun w => by kernel_rfl
set_option maxRecDepth 50000 in
theorem ze33 : ∀ w, (sizeOf (Tryd.prog.elem 45)).run Tryd.prog w = .ok 1 w := fun w => by kernel_rfl
set_option maxRecDepth 50000 in
theorem ze41 : ∀ w, (sizeOf (Tryd.prog.elem 22)).run Tryd.prog w = .ok 1 w := fun w => by kernel_rfl
set_option maxRecDepth 50000 in
theorem ze23 : ∀ w, (sizeOf (Tryd.prog.elem 23)).run Tryd.prog w = .ok 1 w := fun w => by kernel_rfl
set_option maxRecDepth 50000 in
theorem infSl : (Tryd.prog.info? 23).map (fun i => (i.zero, i.size)) = some (some (.slice none 0 0), 1) := by kernel_rfl
set_option maxRecDepth 50000 in
theorem c_addZ {xs ys : List Int} (hl : xs.length = 17) (hl2 : ys.length = 17) (hb : Byt xs) (hb2 : Byt ys) : CallsTo 71 #[.agg (ints .u8 xs).toArray, .agg (ints .u8 ys).toArray] (.agg (ints .u8 (pb ((bn xs + bn ys) % PNZ))).toArray) := fun w => add_anyZ xs ys w hl hl2 hb hb2
set_option maxRecDepth 50000 in
theorem c_mulZ {xs ys : List Int} (hl : xs.length = 17) (hl2 : ys.length = 17) (hb : Byt xs) (hb2 : Byt ys) : CallsTo 72 #[.agg (ints .u8 xs).toArray, .agg (ints .u8 ys).toArray] (.agg (ints .u8 (pb (bn xs * bn ys % PNZ))).toArray) := fun w => mul_anyZ xs ys w hl hl2 hb hb2
set_option maxRecDepth 50000 in
theorem c_clampZ {xs : List Int} (hl : xs.length = 16) (hb : Byt xs) : CallsTo 58 #[.agg (ints .u8 xs).toArray] (.agg (ints .u8 (clampLZ xs)).toArray) := fun w => clamp_any xs w hl hb
set_option maxRecDepth 50000 in
theorem c_low {xs ys : List Int} (hl : xs.length = 17) (hl2 : ys.length = 16) (hb : Byt xs) (hb2 : Byt ys) : CallsTo 61 #[.agg (ints .u8 xs).toArray, .agg (ints .u8 ys).toArray] (.agg (ints .u8 (lb (bn xs + bn ys))).toArray) := fun w => low_any xs ys w hl hl2 hb hb2
end Go.Proofs.YtkblmdakejmmhaaDoor
