/- The sixteen lowest bytes of a sum. -/
import Derived.Test.YthohfhloobmlpaaPClamp
namespace Go.Proofs.Ythohfhloobmlpaa
open Go Go.RowKit

/-- Sixteen bytes of a number. -/
def lb (m : Nat) : List Int := (List.range 16).map fun i => ((m / 256 ^ i % 256 : Nat) : Int)
theorem lb_length (m : Nat) : (lb m).length = 16 := by simp [lb]
theorem lb_byt (m : Nat) : Byt (lb m) := fun x hx => by
  simp only [lb, List.mem_map] at hx
  obtain ⟨i, _, rfl⟩ := hx
  omega
theorem lb_bv (m : Nat) : bv (lb m) = ((m % 256 ^ 16 : Nat) : Int) := range_bv 16 m
/-- Bytes of one number are the same. -/
theorem byt_inj {a b : List Int} (hl : a.length = b.length) (ha : Byt a) (hb : Byt b) (h : bv a = bv b) : a = b := by
  apply List.ext_getElem?
  intro i
  by_cases hi : i < a.length
  · rw [getD_some hi, getD_some (by omega), ← bv_at a i ha, ← bv_at b i hb, h]
  · rw [List.getElem?_eq_none (by omega), List.getElem?_eq_none (by omega)]
/-- What has been added, byte by byte. -/
def LowI (xs ys : List Int) (k : Nat) (zs : List Int) (c : Int) : Prop := zs.length = 16 ∧ Byt zs ∧ 0 ≤ c ∧ c ≤ 1 ∧ bv (zs.take k) + c * 256 ^ k = bv (xs.take k) + bv (ys.take k) ∧ ∀ j, k ≤ j → zs[j]? = ys[j]?
theorem LowI.start {xs ys : List Int} (hl : ys.length = 16) (hb : Byt ys) : LowI xs ys 0 ys 0 := ⟨hl, hb, by omega, by omega, by simp [bv], fun _ _ => rfl⟩
theorem LowI.step {xs ys zs : List Int} {k : Nat} {c x y : Int} (h : LowI xs ys k zs c) (hk : k < 16) (hx : xs[k]? = some x) (hy : ys[k]? = some y) (hxb : 0 ≤ x ∧ x < 256) (hyb : 0 ≤ y ∧ y < 256) : LowI xs ys (k + 1) (zs.set k ((c + (x + y)) % 256)) ((c + (x + y)) / 256) := by
  obtain ⟨h1, h2, h3, h4, h5, h6⟩ := h
  refine ⟨by simp [h1], fun z hz => ?_, by omega, by omega, ?_, fun j hj => ?_⟩
  · rcases List.mem_or_eq_of_mem_set hz with e | e
    · exact h2 z e
    · rw [e]; omega
  · have e1 : (zs.set k ((c + (x + y)) % 256))[k]? = some ((c + (x + y)) % 256) := List.getElem?_set_self (by omega)
    rw [bv_take_succ e1, bv_take_succ hx, bv_take_succ hy, List.take_set_of_le (Nat.le_refl k), Int.pow_succ]
    have hdm := Int.emod_add_mul_ediv (c + (x + y)) 256
    generalize (c + (x + y)) % 256 = r at *
    generalize (c + (x + y)) / 256 = q at *
    generalize (256 : Int) ^ k = P at *
    have e2 : (r + 256 * q) * P = (c + (x + y)) * P := by rw [hdm]
    rw [Int.add_mul, Int.add_mul, Int.add_mul] at e2
    have e3 : q * (P * 256) = 256 * q * P := by rw [Int.mul_comm P, ← Int.mul_assoc, Int.mul_comm q]
    rw [e3]
    omega
  · rw [List.getElem?_set_ne (by omega)]; exact h6 j (by omega)
theorem bn_take {xs : List Int} (hb : Byt xs) (h : 16 ≤ xs.length) : bn (xs.take 16) = bn xs % 256 ^ 16 := by
  have h1 := bv_append (xs.take 16) (xs.drop 16)
  rw [List.take_append_drop, List.length_take, Nat.min_eq_left h] at h1
  have h2 := bv_bd _ (hb.take 16)
  rw [List.length_take, Nat.min_eq_left h] at h2
  unfold bn
  rw [← toNat_mod _ _ (bv_bd xs hb).1, h1]
  have e : ((256 ^ 16 : Nat) : Int) = (256 : Int) ^ 16 := by simp
  rw [e, Int.add_mul_emod_self_left, Int.emod_eq_of_lt h2.1 h2.2]
theorem LowI.end_ {xs ys zs : List Int} {c : Int} (h : LowI xs ys 16 zs c) (hl : ys.length = 16) (hx : xs.length = 17) (hb : Byt xs) (hb2 : Byt ys) : zs = lb (bn xs + bn ys) := by
  obtain ⟨h1, h2, h3, h4, h5, _⟩ := h
  rw [List.take_of_length_le (by omega), List.take_of_length_le (by omega : ys.length ≤ 16)] at h5
  refine byt_inj (by rw [h1, lb_length]) h2 (lb_byt _) ?_
  rw [lb_bv]
  have hz := bv_bd zs h2
  rw [h1] at hz
  have e1 := bn_take hb (by omega)
  have i1 := bn_int (hb.take 16)
  have i2 := bn_int hb2
  have i3 := bn_int h2
  have hz2 := bn_lt h2
  rw [h1] at hz2
  obtain ⟨d, rfl⟩ := Int.eq_ofNat_of_zero_le h3
  rw [← i1, ← i2, ← i3] at h5
  have e2 : ((256 : Int) ^ 16) = ((256 ^ 16 : Nat) : Int) := by simp
  rw [e2] at h5
  have h6 : bn zs + d * 256 ^ 16 = bn (xs.take 16) + bn ys := by exact_mod_cast h5
  rw [← i3]
  congr 1
  have h7 : (bn xs + bn ys) % 256 ^ 16 = (bn (xs.take 16) + bn ys) % 256 ^ 16 := by rw [e1, Nat.mod_add_mod]
  rw [h7, ← h6, Nat.add_mul_mod_self_right, Nat.mod_eq_of_lt hz2]
set_option maxRecDepth 4000 in
set_option maxHeartbeats 2000000 in
theorem low_core (xs ys r : List Int) (w : World) (HL : Hid (xs.length = 17)) (HL2 : Hid (ys.length = 16)) (HB : Hid (Byt xs)) (HB2 : Hid (Byt ys)) (HR : Hid (lb (bn xs + bn ys) = r)) (HRL : Hid (r.length = 16)) :
    Calls Try.prog 28 #[.agg (ints .u8 xs).toArray, .agg (ints .u8 ys).toArray] w fun e w' => e = .returned (.agg (ints .u8 r).toArray) ∧ Below w.heap.size w w' := by
  obtain ⟨z33, s33⟩ := zero_of_info inf33
  have HI0 := hid (LowI.start (xs := xs) HL2.out HB2.out)
  have hX := ((Arr.made w .u8 xs 25).alloc (.cells (ints .u8 ys).toArray 33)).alloc (.cells (ints .u8 (zeros 16)).toArray 33)
  have hY := (Arr.made (w.alloc (.cells (ints .u8 xs).toArray 25)) .u8 ys 33).alloc (.cells (ints .u8 (zeros 16)).toArray 33)
  have hR := Arr.made ((w.alloc (.cells (ints .u8 xs).toArray 25)).alloc (.cells (ints .u8 ys).toArray 33)) .u8 (zeros 16) 33
  have hW := ((below_new w (.cells (ints .u8 xs).toArray 25)).alloc (by simp) (.cells (ints .u8 ys).toArray 33)).alloc (by simp; omega) (.cells (ints .u8 (zeros 16)).toArray 33)
  rw [World.size_alloc] at hY
  rw [World.size_alloc, World.size_alloc] at hR
  go_enter Try.func28, Try.ntmps28
  go_wp2_with (first
    | (with_reducible refine wpList_load_mid (op := ⟨some 8, .load 33 (.tmp 3), _, _, _, _⟩) rfl 33 (.tmp 3) rfl (w.heap.size + 1) 0 rfl (ints .u8 ys) _ (hY.range) Try.underlying33 rfl (l33 HL2.out) ?_))
  generalize (((w.alloc (.cells (ints .u8 xs).toArray 25)).alloc (.cells (ints .u8 ys).toArray 33)).alloc (.cells (ints .u8 (zeros 16)).toArray 33)) = W0 at *
  go_loopw [5, 9] (fun o i wr => ∃ (k : Nat) (zs : List Int) (c : Int), k ≤ 16 ∧ i = .int .i64 k ∧ o = .int .i64 c ∧ Hid (LowI xs ys k zs c) ∧ Arr wr w.heap.size 0 .u8 xs ∧ Arr wr (w.heap.size + 1) 0 .u8 zs ∧ Arr wr (w.heap.size + 1 + 1) 0 .u8 (zeros 16) ∧ Below w.heap.size w wr) (fun _ i _ => 16 - (intOf i).toNat)
  case atStart => exact ⟨0, ys, 0, by omega, rfl, rfl, HI0, hX, hY, hR, hW⟩
  case round =>
    clear hX hY hR hW HI0
    obtain ⟨k, zs, c, hk, rfl, rfl, HI, hX, hD, hR, hW⟩ := hrel
    rename World => W1
    by_cases hlt : k < 16
    · obtain ⟨x, cx, fx, HX⟩ := hX.spot (i := k) (by rw [HL.out]; omega)
      obtain ⟨z, cz, fz, _⟩ := hD.spot (i := k) (by rw [HI.out.1]; exact hlt)
      rw [Nat.zero_add] at cx cz fz
      have HY := hid (getD_some (l := ys) (i := k) (by rw [HL2.out]; exact hlt))
      have hix := fun w => index33 HY.out hlt w
      generalize ys.getD k 0 = y at *
      have hxb := HB.out.at_ HX.out
      have hyb := HB2.out.at_ HY.out
      have hcb := And.intro HI.out.2.2.1 HI.out.2.2.2.1
      have HS := hid (HI.out.step hlt HX.out HY.out hxb hyb)
      have hx64 : IntKind.i64.wrap x = x := IntWalk.i64_in _ (by omega)
      have hy64 : IntKind.i64.wrap y = y := IntWalk.i64_in _ (by omega)
      have hs64 : IntKind.i64.wrap (x + y) = x + y := IntWalk.i64_in _ (by omega)
      obtain ⟨t, ht⟩ : ∃ t, t = c + (x + y) := ⟨_, rfl⟩
      have ht64 : IntKind.i64.wrap (c + (x + y)) = t := by rw [IntWalk.i64_in _ (by omega), ht]
      rw [← ht] at HS
      have hw8 : IntKind.u8.wrap t = t % 256 := IntKind.wrap_u8 t
      have k0 : (0 : Int) ≤ k := by omega
      have k16 : (k : Int) < 16 := by omega
      have k17 : (k : Int) < 17 := by omega
      have hwk : IntKind.i64.wrap ((k : Int) + 1) = (k : Int) + 1 := IntWalk.i64_in _ (by omega)
      have hD1 := hD.set k (t % 256)
      rw [Nat.zero_add] at hD1
      have HXX := hid (And.intro hxb (And.intro hyb (And.intro hcb ht)))
      clear hxb hyb hcb ht
      go_wp2
      go_roundw
      case rel => exact ⟨k + 1, zs.set k (t % 256), t / 256, by omega, by go_num, rfl, HS, hX.apart _ (.inl (by show w.heap.size + 1 ≠ w.heap.size; omega)), hD1, hR.apart _ (.inl (by show w.heap.size + 1 ≠ w.heap.size + 1 + 1; omega)), hW.setCell (by show w.heap.size ≤ w.heap.size + 1; omega) _⟩
      case measure => simp [intOf]; omega
    · have e : k = 16 := by omega
      subst e
      have HE := hid (HI.out.end_ HL2.out HL.out HB.out HB2.out)
      rw [HE.out, HR.out] at hD
      have hs1 : W1.there (w.heap.size + 1 + 1) 0 (ints .u8 r).toArray.size := hR.room (by rw [zeros_len]; exact HRL.out)
      have hR2 := hR.stored (l' := r) (by rw [zeros_len]; exact HRL.out)
      have hW2 := Below.setCells hW (g := w.heap.size + 1 + 1) (by omega) 0 (ints .u8 r).toArray.toList
      go_wp2_with (first
        | (with_reducible refine wpList_load_mid (op := ⟨some 29, .load 33 (.tmp 3), _, _, _, _⟩) rfl 33 (.tmp 3) rfl (w.heap.size + 1) 0 rfl (ints .u8 r) _ (hD.range) Try.underlying33 rfl (l33 HRL.out) ?_)
        | (with_reducible refine wpList_store_mid (op := ⟨none, .store 33 (.tmp 4) (.tmp 29), _, _, _, _⟩) rfl 33 (.tmp 4) (.tmp 29) rfl (w.heap.size + 1 + 1) 0 (ints .u8 r).toArray rfl rfl hs1 (a33 HRL.out) (ints_all _ _) ?_))
      exact ret_rows rfl (w.heap.size + 1 + 1) 0 rfl (ints .u8 r) _ hR2.range Try.underlying33 rfl (l33 HRL.out) rfl ⟨rfl, hW2⟩
theorem low_any (xs ys : List Int) (w : World) (hl : xs.length = 17) (hl2 : ys.length = 16) (hb : Byt xs) (hb2 : Byt ys) :
    Calls Try.prog 28 #[.agg (ints .u8 xs).toArray, .agg (ints .u8 ys).toArray] w fun e w' => e = .returned (.agg (ints .u8 (lb (bn xs + bn ys))).toArray) ∧ Below w.heap.size w w' :=
  low_core xs ys _ w (hid hl) (hid hl2) (hid hb) (hid hb2) (hid rfl) (hid (lb_length _))
end Go.Proofs.Ythohfhloobmlpaa
