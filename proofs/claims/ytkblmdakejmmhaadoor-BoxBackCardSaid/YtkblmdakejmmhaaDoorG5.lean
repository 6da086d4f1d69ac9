/- Texts of this proof, laid together: RMod, RefC, RefD, Of, RefE, MulMath, Red, Small. -/
import Derived.Test.YtkblmdakejmmhaaDoorG4
import Derived.Test.YtkblmdakejmmhaaDoorG2
/- The reference's remainder. -/
namespace Go.Proofs.YtkblmdakejmmhaaDoor
open Go.RowKit

/-- The number that a row in memory makes. -/
def rowv (v : Value) (w : World) : Nat := match v with
  | .slice (some ⟨g, o, _⟩) n _ => dv ((List.range n).map fun i => match w.cell? ⟨g, o + i, none⟩ with
    | some (.int _ x) => x.toNat
    | _ => 0)
  | _ => 0
end Go.Proofs.YtkblmdakejmmhaaDoor

/- The reference's small numbers, sums, differences, comparisons. -/
namespace Go.Proofs.YtkblmdakejmmhaaDoor
open Go.RowKit

/-- Sixteen digits of a number. -/
def Rp (l : List Nat) (n : Nat) : Prop := l.length = 16 ∧ Digs l ∧ dv l = n
/-- A call returns new digits of a number. -/
def ROut (n : Nat) (w : World) (e : Ending) (w' : World) : Prop := ∃ A c ys, e = .returned (.slice A 16 c) ∧ Hid (Rp ys n) ∧ NumsF w.heap.size w' .i64 A (nl ys) ∧ Below w.heap.size w w'
end Go.Proofs.YtkblmdakejmmhaaDoor

/- The reference's sum, its bytes, and its numbers of bytes. -/
namespace Go.Proofs.YtkblmdakejmmhaaDoor
open Go.RowKit

/-- What has been added, digit by digit. -/
def SumI (l m ys : List Nat) (cy k : Nat) : Prop := ys.length = k ∧ Digs ys ∧ cy ≤ 1 ∧ dv ys + cy * 65536 ^ k = dv (l.take k) + dv (m.take k)
end Go.Proofs.YtkblmdakejmmhaaDoor

/- An element of bytes. -/
namespace Go.Proofs.YtkblmdakejmmhaaDoor
open Go.RowKit

/-- Sixteen digits of thirty-two bytes; the bytes of sixteen digits. -/
def dgs (bs : List Int) : List Int := (List.range 16).map fun i => bs.getD (2 * i) 0 + 256 * bs.getD (2 * i + 1) 0
theorem dgs_length (bs : List Int) : (dgs bs).length = 16 := by simp [dgs]
theorem dgs_at (bs : List Int) {i : Nat} (h : i < 16) : (dgs bs)[i]? = some (bs.getD (2 * i) 0 + 256 * bs.getD (2 * i + 1) 0) := by simp [dgs, h]
def byd (ds : List Int) : List Int := (List.range 32).map fun i => ds.getD (i / 2) 0 / 256 ^ (i % 2) % 256
theorem byd_length (ds : List Int) : (byd ds).length = 32 := by simp [byd]
theorem byd_even (ds : List Int) {i : Nat} (h : i < 16) : (byd ds)[2 * i]? = some (ds.getD i 0 % 256) := by
  have e1 : 2 * i / 2 = i := by omega
  have e2 : 2 * i % 2 = 0 := by omega
  unfold byd
  rw [List.getElem?_map, List.getElem?_range (by omega)]
  simp [e1, e2]
theorem byd_odd (ds : List Int) {i : Nat} (h : i < 16) : (byd ds)[2 * i + 1]? = some (ds.getD i 0 / 256 % 256) := by
  have e1 : (2 * i + 1) / 2 = i := by omega
  have e2 : (2 * i + 1) % 2 = 1 := by omega
  unfold byd
  rw [List.getElem?_map, List.getElem?_range (by omega)]
  simp [e1, e2]
def Byt (l : List Int) : Prop := ∀ x ∈ l, 0 ≤ x ∧ x < 256
theorem Byt.at_ {l : List Int} (h : Byt l) {i : Nat} {x : Int} (hx : l[i]? = some x) : 0 ≤ x ∧ x < 256 := h x (List.mem_of_getElem? hx)
def ofL (bs : List Int) : List Int := (dgs bs).set 15 ((dgs bs).getD 15 0 % 32768)
theorem ofL_length (bs : List Int) : (ofL bs).length = 16 := by simp [ofL, dgs_length]

set_option maxRecDepth 4000 in
set_option maxHeartbeats 1000000 in
theorem of_any (bs : List Int) (w : World) (hl : bs.length = 32) (hb : Byt bs) :
    Calls Tryd.prog 23 #[.agg (ints .u8 bs).toArray] w fun e w' => e = .returned (.agg (ints .i64 (ofL bs)).toArray) ∧ Below w.heap.size w w' := by
  obtain ⟨z24, s24⟩ := zero_of_info inf24
  obtain ⟨z26, s26⟩ := zero_of_info inf26
  have HL := hid hl
  have HB := hid hb
  clear hl hb
  have hN := ((Arr.made w .u8 bs 22).alloc (.cells (ints .i64 (zeros 16)).toArray 51)).alloc (.cells (ints .i64 (zeros 16)).toArray 51)
  have hR := (Arr.made (w.alloc (.cells (ints .u8 bs).toArray 22)) .i64 (zeros 16) 51).alloc (.cells (ints .i64 (zeros 16)).toArray 51)
  have hD := Arr.made ((w.alloc (.cells (ints .u8 bs).toArray 22)).alloc (.cells (ints .i64 (zeros 16)).toArray 51)) .i64 (zeros 16) 51
  have hW := ((below_new w (.cells (ints .u8 bs).toArray 22)).alloc (by simp) (.cells (ints .i64 (zeros 16)).toArray 51)).alloc (by simp; omega) (.cells (ints .i64 (zeros 16)).toArray 51)
  rw [World.size_alloc] at hR
  rw [World.size_alloc, World.size_alloc] at hD
  have HZ : Hid (zeros 16 = fillK (dgs bs) 0) := hid (by rw [fillK_zero, dgs_length]; rfl)
  go_enter Tryd.func23, Tryd.ntmps23
  go_wp2
  generalize (((w.alloc (.cells (ints .u8 bs).toArray 22)).alloc (.cells (ints .i64 (zeros 16)).toArray 51)).alloc (.cells (ints .i64 (zeros 16)).toArray 51)) = W0 at *
  rw [HZ.out] at hD
  go_loopw [5] (fun i wr => ∃ k : Nat, k ≤ 16 ∧ i = .int .i64 k ∧ Arr wr w.heap.size 0 .u8 bs ∧ Arr wr (w.heap.size + 1) 0 .i64 (zeros 16) ∧ Arr wr (w.heap.size + 1 + 1) 0 .i64 (fillK (dgs bs) k) ∧ Below w.heap.size w wr) (fun i _ => 16 - (intOf i).toNat)
  case atStart => exact ⟨0, by omega, rfl, hN, hR, hD, hW⟩
  case round =>
    clear hN hR hD hW
    obtain ⟨k, hk, rfl, hN, hR, hD, hW⟩ := hrel
    rename World => W1
    by_cases hlt : k < 16
    · obtain ⟨x, cx, fx, HX⟩ := hN.spot (i := 2 * k) (by rw [HL.out]; omega)
      obtain ⟨y, cy0, fy, HY⟩ := hN.spot (i := 2 * k + 1) (by rw [HL.out]; omega)
      obtain ⟨z, cz, fz, HZ2⟩ := hD.spot (i := k) (by rw [fillK_length, dgs_length]; omega)
      rw [Nat.zero_add] at cx fx cy0 fy cz fz
      have hx := HB.out.at_ HX.out
      have hy := HB.out.at_ HY.out
      have HV : Hid ((dgs bs)[k]? = some (x + 256 * y)) := hid (by rw [dgs_at bs hlt]; simp [List.getD, HX.out, HY.out])
      obtain ⟨p, hp⟩ : ∃ p, p = 2 * k := ⟨_, rfl⟩
      obtain ⟨q, hq⟩ : ∃ q, q = 2 * k + 1 := ⟨_, rfl⟩
      have hwp : IntKind.i64.wrap (2 * (k : Int)) = (p : Int) := by rw [IntWalk.i64_in _ (by omega)]; omega
      have hwq : IntKind.i64.wrap ((p : Int) + 1) = (q : Int) := by rw [IntWalk.i64_in _ (by omega)]; omega
      have hwk : IntKind.i64.wrap ((k : Int) + 1) = (k : Int) + 1 := IntWalk.i64_in _ (by omega)
      rw [← hp] at cx fx
      rw [← hq] at cy0 fy
      have k0 : (0 : Int) ≤ k := by omega
      have k16 : (k : Int) < 16 := by omega
      have p0 : (0 : Int) ≤ p := by omega
      have p32 : (p : Int) < 32 := by omega
      have q0 : (0 : Int) ≤ q := by omega
      have q32 : (q : Int) < 32 := by omega
      have hx64 : IntKind.i64.wrap x = x := IntWalk.i64_in _ (by omega)
      have hy64 : IntKind.i64.wrap y = y := IntWalk.i64_in _ (by omega)
      have hs8 : IntKind.i64.wrap (y * 256) = 256 * y := by rw [IntWalk.i64_in _ (by omega)]; omega
      obtain ⟨v, hv⟩ : ∃ v, v = x + 256 * y := ⟨_, rfl⟩
      have hor : bits .or .i64 x (256 * y) = v := by rw [or16 x y hx hy, hv]
      rw [← hv] at HV
      have HPQ := hid (And.intro hp (And.intro hq hv))
      clear hp hq fx fy hv
      go_wp2
      go_still_tail 16, (by kernel_rfl)
      change wpList _ _ _ _ _ W1.drew
      have hN1 : Arr (W1.drew.setCell ⟨w.heap.size + 1 + 1, k, none⟩ (.int .i64 v)) w.heap.size 0 .u8 bs := hN.drew.apart _ (.inl (by show w.heap.size + 1 + 1 ≠ w.heap.size; omega))
      have hR1 : Arr (W1.drew.setCell ⟨w.heap.size + 1 + 1, k, none⟩ (.int .i64 v)) (w.heap.size + 1) 0 .i64 (zeros 16) := hR.drew.apart _ (.inl (by show w.heap.size + 1 + 1 ≠ w.heap.size + 1; omega))
      have hD1 : Arr (W1.drew.setCell ⟨w.heap.size + 1 + 1, k, none⟩ (.int .i64 v)) (w.heap.size + 1 + 1) 0 .i64 (fillK (dgs bs) (k + 1)) := by
        have h := hD.drew.set k v
        rw [Nat.zero_add, fillK_set _ HV.out] at h; exact h
      have hW1 : Below w.heap.size w (W1.drew.setCell ⟨w.heap.size + 1 + 1, k, none⟩ (.int .i64 v)) := hW.drew.setCell (by show w.heap.size ≤ w.heap.size + 1 + 1; omega) _
      have cz1 : W1.drew.cell? ⟨w.heap.size + 1 + 1, k, none⟩ = some (.int .i64 z) := cz
      have fz1 : W1.drew.frozen? ⟨w.heap.size + 1 + 1, k, none⟩ = false := fz
      clear cz fz cx cy0 hN hR hD hW
      generalize W1.drew = W4 at *
      go_wp2
      go_roundw
      case rel => exact ⟨k + 1, by omega, by go_num, hN1, hR1, hD1, hW1⟩
      case measure => simp [intOf]; omega
    · have e : k = 16 := by omega
      subst e
      have HF : Hid (fillK (dgs bs) 16 = dgs bs) := hid (by have := fillK_end (dgs bs); rw [dgs_length] at this; exact this)
      rw [HF.out] at hD
      have HDL := hid (dgs_length bs)
      have HOL := hid (ofL_length bs)
      have HO : Hid (ofL bs = (dgs bs).set 15 ((dgs bs).getD 15 0 % 32768)) := hid rfl
      generalize hds : dgs bs = ds at *
      have HDS := hid hds
      clear hds
      obtain ⟨x, cx, fx, HX⟩ := hD.spot (i := 15) (by rw [HDL.out]; omega)
      rw [Nat.zero_add] at cx fx
      have HXE : Hid (ds.getD 15 0 = x) := hid (by simp [List.getD, HX.out])
      rw [HXE.out] at HO
      have hmk := mask15 x
      have hD1 := hD.set 15 (x % 32768)
      rw [Nat.zero_add, ← HO.out] at hD1
      have hR1 := hR.apart (p := ⟨w.heap.size + 1 + 1, 15, none⟩) (.int .i64 (x % 32768)) (.inl (by show w.heap.size + 1 + 1 ≠ w.heap.size + 1; omega))
      have hW1 := hW.setCell (p := ⟨w.heap.size + 1 + 1, 15, none⟩) (by show w.heap.size ≤ w.heap.size + 1 + 1; omega) (.int .i64 (x % 32768))
      have hs1 : (W1.setCell ⟨w.heap.size + 1 + 1, 15, none⟩ (.int .i64 (x % 32768))).there (w.heap.size + 1) 0 (ints .i64 (ofL bs)).toArray.size := hR1.room (by rw [zeros_len]; exact HOL.out)
      have hR2 := hR1.stored (l' := ofL bs) (by rw [zeros_len]; exact HOL.out)
      have hW2 := Below.setCells hW1 (g := w.heap.size + 1) (by omega) 0 (ints .i64 (ofL bs)).toArray.toList
      clear hD hR hW hN
      go_wp2_with (first
        | (with_reducible refine wpList_load_mid (op := ⟨some 31, .load 51 (.tmp 3), _, _, _, _⟩) rfl 51 (.tmp 3) rfl (w.heap.size + 1 + 1) 0 rfl (ints .i64 (ofL bs)) _ (hD1.range) Tryd.underlying51 rfl (l26 HOL.out) ?_)
        | (with_reducible refine wpList_store_mid (op := ⟨none, .store 51 (.tmp 2) (.tmp 31), _, _, _, _⟩) rfl 51 (.tmp 2) (.tmp 31) rfl (w.heap.size + 1) 0 (ints .i64 (ofL bs)).toArray rfl rfl hs1 (a26 HOL.out) (ints_all _ _) ?_))
      exact ret_rows rfl (w.heap.size + 1) 0 rfl (ints .i64 (ofL bs)) _ hR2.range Tryd.underlying51 rfl (l26 HOL.out) rfl ⟨rfl, hW2⟩
end Go.Proofs.YtkblmdakejmmhaaDoor

/- The reference's bytes of a number. -/
namespace Go.Proofs.YtkblmdakejmmhaaDoor
open Go.RowKit

end Go.Proofs.YtkblmdakejmmhaaDoor

/- The product of two elements, as the code makes it: digits, row by row, and the upper half taken down. -/
namespace Go.Proofs.YtkblmdakejmmhaaDoor

def rowA (x : Int) (ys : List Int) (i : Nat) (z : List Int) : Nat → List Int
  | 0 => z
  | j + 1 => (rowA x ys i z j).set (i + j) ((rowA x ys i z j).getD (i + j) 0 + x * ys.getD j 0)
def colA (xs ys : List Int) : Nat → List Int
  | 0 => zeros 32
  | i + 1 => rowA (xs.getD i 0) ys i (colA xs ys i) 16
def foldL (z : List Int) : List Int := (List.range 16).map fun i => z.getD i 0 + 38 * z.getD (i + 16) 0
def mulL (xs ys : List Int) : List Int := cy (cy (foldL (colA xs ys 16)))
theorem foldL_length (z : List Int) : (foldL z).length = 16 := by simp [foldL]
theorem foldL_at {z : List Int} {i : Nat} {x y : Int} (h : i < 16) (hx : z[i]? = some x) (hy : z[i + 16]? = some y) : (foldL z)[i]? = some (x + 38 * y) := by simp [foldL, h, List.getD, hx, hy]
theorem rowA_length (x : Int) (ys : List Int) (i : Nat) (z : List Int) (j : Nat) : (rowA x ys i z j).length = z.length := by
  induction j with
  | zero => rfl
  | succ j ih => simp [rowA, ih]
theorem colA_length (xs ys : List Int) (i : Nat) : (colA xs ys i).length = 32 := by
  induction i with
  | zero => simp [colA, zeros_len]
  | succ i ih => simp [colA, rowA_length, ih]
theorem rowA_past (x : Int) (ys : List Int) (i : Nat) (z : List Int) (j k : Nat) (h : i + j ≤ k) : (rowA x ys i z j)[k]? = z[k]? := by
  induction j with
  | zero => rfl
  | succ j ih => simp only [rowA]; rw [List.getElem?_set_ne (by omega), ih (by omega)]
theorem mul_bd {x y b : Int} (hx : -b ≤ x ∧ x ≤ b) (hy : -b ≤ y ∧ y ≤ b) : -(b * b) ≤ x * y ∧ x * y ≤ b * b := by
  have hb : 0 ≤ b := by omega
  have h := Int.natAbs_mul x y
  have h1 : x.natAbs ≤ b.natAbs := by omega
  have h2 : y.natAbs ≤ b.natAbs := by omega
  have h3 := Nat.mul_le_mul h1 h2
  have h4 : ((b.natAbs * b.natAbs : Nat) : Int) = b * b := by rw [Int.natCast_mul, Int.natAbs_of_nonneg hb]
  omega
theorem rowA_bd (x : Int) (ys : List Int) (i : Nat) (z : List Int) (B : Int) (hz : Bd B z) (hx : -70000 ≤ x ∧ x ≤ 70000) (hy : Bd 70000 ys) (hl : ys.length = 16) (j : Nat) (hj : j ≤ 16) : Bd (B + 4900000000) (rowA x ys i z j) := by
  induction j with
  | zero => exact fun v hv => by have := hz v hv; omega
  | succ j ih =>
    simp only [rowA]
    intro v hv
    rcases List.mem_or_eq_of_mem_set hv with h1 | h1
    · exact ih (by omega) v h1
    · have hyj := hy.at_ (getD_some (l := ys) (i := j) (by omega))
      have hp := mul_bd hx hyj
      by_cases hk : i + j < z.length
      · have h0 := hz.at_ (getD_some (l := z) (i := i + j) hk)
        have e : (rowA x ys i z j).getD (i + j) 0 = z.getD (i + j) 0 := by simp only [List.getD, rowA_past x ys i z j (i + j) (by omega)]
        rw [e] at h1
        omega
      · rw [List.set_eq_of_length_le (by rw [rowA_length]; omega)] at hv
        exact ih (by omega) v hv
theorem colA_bd (xs ys : List Int) (hx : Bd 70000 xs) (hy : Bd 70000 ys) (hl : xs.length = 16) (hl2 : ys.length = 16) (i : Nat) (hi : i ≤ 16) : Bd (4900000000 * i) (colA xs ys i) := by
  induction i with
  | zero => exact fun v hv => by have := List.eq_of_mem_replicate hv; omega
  | succ i ih =>
    have h := rowA_bd (xs.getD i 0) ys i (colA xs ys i) _ (ih (by omega)) (hx.at_ (getD_some (by omega))) hy hl2 16 (by omega)
    intro v hv
    have := h v hv
    omega
theorem foldL_bd (z : List Int) (hz : Bd 80000000000 z) (hl : z.length = 32) : Bd 4000000000000 (foldL z) := fun v hv => by
  obtain ⟨i, hi⟩ := List.getElem?_of_mem hv
  have h16 := (List.getElem?_eq_some_iff.1 hi).1
  rw [foldL_length] at h16
  have hx := getD_some (l := z) (i := i) (by omega)
  have hy := getD_some (l := z) (i := i + 16) (by omega)
  rw [foldL_at h16 hx hy] at hi
  injection hi with hi
  have h1 := hz.at_ hx
  have h2 := hz.at_ hy
  omega
/-- What the digits of a row make. -/
theorem rowA_ev (x : Int) (ys : List Int) (i : Nat) (z : List Int) (j : Nat) (hj : j ≤ ys.length) (hz : i + j ≤ z.length) : ev (rowA x ys i z j) = ev z + x * ev (ys.take j) * 65536 ^ i := by
  induction j with
  | zero => simp [rowA, ev]
  | succ j ih =>
    have h1 := ih (by omega) (by omega)
    simp only [rowA]
    rw [ev_set _ _ _ _ (getD_some (by rw [rowA_length]; omega)), h1]
    have e : ev (ys.take (j + 1)) = ev (ys.take j) + ys.getD j 0 * 65536 ^ j := by
      have hj2 := getD_some (l := ys) (i := j) (by omega)
      rw [List.take_add_one, hj2, ev_append]
      simp only [Option.toList_some, ev, List.length_take]
      rw [show min j ys.length = j by omega]
      simp only [Int.mul_zero, Int.add_zero]
      rw [Int.mul_comm (ys.getD j 0)]
    rw [e, Int.pow_add]
    have e2 : (rowA x ys i z j).getD (i + j) 0 + x * ys.getD j 0 - (rowA x ys i z j).getD (i + j) 0 = x * ys.getD j 0 := by omega
    rw [e2, Int.mul_add, Int.add_mul]
    have e3 : x * ys.getD j 0 * (65536 ^ i * 65536 ^ j) = x * (ys.getD j 0 * 65536 ^ j) * 65536 ^ i := by
      rw [← Int.mul_assoc x, Int.mul_assoc (x * ys.getD j 0), Int.mul_comm (65536 ^ i)]
    rw [e3]; omega
theorem take_ev (xs : List Int) (i : Nat) (h : i < xs.length) : ev (xs.take (i + 1)) = ev (xs.take i) + xs.getD i 0 * 65536 ^ i := by
  rw [List.take_add_one, getD_some h, ev_append]
  simp only [Option.toList_some, ev, List.length_take]
  rw [show min i xs.length = i by omega]
  simp only [Int.mul_zero, Int.add_zero]
  rw [Int.mul_comm (xs.getD i 0)]
theorem ev_zeros (n : Nat) : ev (zeros n) = 0 := by
  induction n with
  | zero => rfl
  | succ n ih => simp only [zeros, List.replicate_succ, ev] at ih ⊢; rw [ih]; rfl
theorem colA_ev (xs ys : List Int) (hl : xs.length = 16) (hl2 : ys.length = 16) (i : Nat) (hi : i ≤ 16) : ev (colA xs ys i) = ev (xs.take i) * ev ys := by
  induction i with
  | zero => simp [colA, ev_zeros, ev]
  | succ i ih =>
    have h1 := rowA_ev (xs.getD i 0) ys i (colA xs ys i) 16 (by omega) (by rw [colA_length]; omega)
    rw [List.take_of_length_le (i := 16) (l := ys) (by omega)] at h1
    refine Eq.trans (show ev (colA xs ys (i + 1)) = _ from h1) ?_
    rw [ih (by omega), take_ev xs i (by omega), Int.add_mul]
    rw [Int.mul_assoc (xs.getD i 0), Int.mul_assoc (xs.getD i 0), Int.mul_comm (ev ys)]
/-- Two rows of as many digits, added place by place. -/
theorem ev_zip (n : Nat) (c : Int) : ∀ (a b d : List Int), a.length = n → b.length = n → d.length = n → (∀ (i : Nat) (x y : Int), a[i]? = some x → b[i]? = some y → d[i]? = some (x + c * y)) → ev d = ev a + c * ev b := by
  induction n with
  | zero =>
    intro a b d h1 h2 h3 _
    obtain rfl := List.length_eq_zero_iff.1 h1
    obtain rfl := List.length_eq_zero_iff.1 h2
    obtain rfl := List.length_eq_zero_iff.1 h3
    simp [ev]
  | succ n ih =>
    intro a b d h1 h2 h3 h
    match a, b, d, h1, h2, h3 with
    | x :: a, y :: b, z :: d, h1, h2, h3 =>
      have h0 := h 0 x y rfl rfl
      simp at h0
      have hr := ih a b d (by simpa using h1) (by simpa using h2) (by simpa using h3) (fun i u v hu hv => by simpa using h (i + 1) u v (by simpa using hu) (by simpa using hv))
      simp only [ev, hr, h0, Int.mul_add]
      rw [← Int.mul_assoc, ← Int.mul_assoc, Int.mul_comm c 65536]
      omega
theorem foldL_ev (z : List Int) (hl : z.length = 32) : ev (foldL z) = ev (z.take 16) + 38 * ev (z.drop 16) :=
  ev_zip 16 38 _ _ _ (by simp; omega) (by simp; omega) (foldL_length z) (fun i x y hx hy => by
    have hi : i < 16 := by
      have := (List.getElem?_eq_some_iff.1 hx).1
      simp at this; omega
    refine foldL_at hi ?_ ?_
    · rw [List.getElem?_take, if_pos hi] at hx; exact hx
    · rw [List.getElem?_drop, Nat.add_comm] at hy; exact hy)
end Go.Proofs.YtkblmdakejmmhaaDoor

/- The digits of an element below the prime. -/
namespace Go.Proofs.YtkblmdakejmmhaaDoor
open Go.RowKit

set_option maxRecDepth 4000 in
set_option maxHeartbeats 1000000 in
theorem reduced_any (xs : List Int) (w : World) (hl : xs.length = 16) (hb : Bd 1000000000000000000 xs) :
    Calls Tryd.prog 47 #[.agg (ints .i64 xs).toArray] w fun e w' => e = .returned (.agg (ints .i64 (red xs)).toArray) ∧ Below w.heap.size w w' := by
  obtain ⟨z24, s24⟩ := zero_of_info inf24
  have HL := hid hl
  have HX0 : Hid (-1000000000000000000 ≤ xs.getD 0 0 ∧ xs.getD 0 0 ≤ 1000000000000000000) := hid (hb.at_ (getD_some (by omega)))
  have HR : Hid (red xs = cy ((cy (xs.set 0 (xs.getD 0 0 + 19))).set 0 ((cy (xs.set 0 (xs.getD 0 0 + 19))).getD 0 0 - 19))) := hid rfl
  have H1 : Hid (Bd 1152921504606846976 (xs.set 0 (xs.getD 0 0 + 19))) := hid (Bd.set (fun y hy => by have := hb y hy; omega) _ _ (by have := HX0.out; omega))
  have h2 : Bd 700000000000000 (cy (xs.set 0 (xs.getD 0 0 + 19))) := cy_small _ (by simp [hl]) H1.out
  have HX1 : Hid (-700000000000000 ≤ (cy (xs.set 0 (xs.getD 0 0 + 19))).getD 0 0 ∧ (cy (xs.set 0 (xs.getD 0 0 + 19))).getD 0 0 ≤ 700000000000000) := hid (h2.at_ (getD_some (by rw [cy_length]; simp [hl])))
  have H2 : Hid (Bd 1152921504606846976 ((cy (xs.set 0 (xs.getD 0 0 + 19))).set 0 ((cy (xs.set 0 (xs.getD 0 0 + 19))).getD 0 0 - 19))) := hid (Bd.set (fun y hy => by have := h2 y hy; omega) _ _ (by have := HX1.out; omega))
  have HLy : Hid ((cy (xs.set 0 (xs.getD 0 0 + 19))).length = 16) := hid (by rw [cy_length]; simp [hl])
  clear hb h2 hl
  have HX00 : Hid (xs[0]? = some (xs.getD 0 0)) := hid (getD_some (by rw [HL.out]; omega))
  generalize hxx : xs.getD 0 0 = x at *
  have HXX := hid hxx
  have hx19 : IntKind.i64.wrap (x + 19) = x + 19 := IntWalk.i64_in _ (by have := HX0.out; omega)
  have HLs : Hid ((xs.set 0 (x + 19)).length = 16) := hid (by simp [HL.out])
  generalize hxs : xs.set 0 (x + 19) = xs1 at *
  have HXS := hid hxs
  clear hxs hxx
  have HY00 : Hid ((cy xs1)[0]? = some ((cy xs1).getD 0 0)) := hid (getD_some (by rw [HLy.out]; omega))
  have HLy1 : Hid ((cy xs1).length = 16) := HLy
  have HY1 : Hid (cy xs1 = cy xs1) := hid rfl
  generalize hys : cy xs1 = ys at *
  have HYS := hid hys
  clear hys HY1 HLy1
  generalize hyy : ys.getD 0 0 = y at *
  have hy19 : IntKind.i64.wrap (y - 19) = y - 19 := IntWalk.i64_in _ (by have := HX1.out; omega)
  have HLs2 : Hid ((ys.set 0 (y - 19)).length = 16) := hid (by simp [HLy.out])
  generalize hzs : ys.set 0 (y - 19) = zs at *
  have HZS := hid hzs
  have HYY := hid hyy
  clear hzs hyy
  have hN0 : Arr (w.alloc (.cells (ints .i64 xs).toArray 51)) w.heap.size 0 .i64 xs := Arr.made w .i64 xs 51
  have hB0 := (below_new w (.cells (ints .i64 xs).toArray 51)).alloc (by simp) (.cells (ints .i64 (zeros 16)).toArray 49)
  have hR0 := Arr.made (w.alloc (.cells (ints .i64 xs).toArray 51)) .i64 (zeros 16) 49
  rw [World.size_alloc] at hR0
  have hD0 := Arr.made ((w.alloc (.cells (ints .i64 xs).toArray 51)).alloc (.cells (ints .i64 (zeros 16)).toArray 49)) .i64 (zeros 16) 49
  rw [World.size_alloc, World.size_alloc] at hD0
  have hN1 := hN0.alloc (.cells (ints .i64 (zeros 16)).toArray 49)
  have hR1 := hR0.alloc (.cells (ints .i64 (zeros 16)).toArray 49)
  have hB1 := hB0.alloc (by simp; omega) (.cells (ints .i64 (zeros 16)).toArray 49)
  have hD1 := hD0.stored (l' := xs) (by rw [zeros_len]; exact HL.out)
  have hR2 := hR1.past (b' := w.heap.size + 1 + 1) (o' := 0) (ints .i64 xs).toArray.toList (.inl (by omega))
  have hB2 := Below.setCells hB1 (g := w.heap.size + 1 + 1) (by omega) 0 (ints .i64 xs).toArray.toList
  have c0 := hD1.at_ HX00.out
  have f0 := hD1.free (i := 0) (by rw [HL.out]; omega)
  have hs1 : (((w.alloc (.cells (ints .i64 xs).toArray 51)).alloc (.cells (ints .i64 (zeros 16)).toArray 49)).alloc (.cells (ints .i64 (zeros 16)).toArray 49)).there (w.heap.size + 1 + 1) 0 (ints .i64 xs).toArray.size := hD0.room (by rw [zeros_len]; exact HL.out)
  clear hN0 hR0 hD0 hR1 hB0 hB1
  go_enter Tryd.func47, Tryd.ntmps47
  go_wp2_with (first
    | (with_reducible refine wpList_load_mid (op := ⟨some 5, .load 49 (.tmp 4), _, _, _, _⟩) rfl 49 (.tmp 4) rfl w.heap.size 0 rfl (ints .i64 xs) _ (hN1.range) Tryd.underlying49 rfl (l24 HL.out) ?_)
    | (with_reducible refine wpList_store_mid (op := ⟨none, .store 49 (.tmp 3) (.tmp 5), _, _, _, _⟩) rfl 49 (.tmp 3) (.tmp 5) rfl (w.heap.size + 1 + 1) 0 (ints .i64 xs).toArray rfl rfl hs1 (a24 HL.out) (ints_all _ _) ?_))
  have hA1 := hD1.set 0 (x + 19)
  rw [Nat.add_zero, HXS.out] at hA1
  have hR3 := hR2.apart (p := ⟨w.heap.size + 1 + 1, 0, none⟩) (.int .i64 (x + 19)) (.inl (by show w.heap.size + 1 + 1 ≠ w.heap.size + 1; omega))
  have hB3 := hB2.setCell (p := ⟨w.heap.size + 1 + 1, 0, none⟩) (by show w.heap.size ≤ w.heap.size + 1 + 1; omega) (.int .i64 (x + 19))
  clear hs1 c0 f0 hN1 hD1 hR2 hB2
  refine (carry_any _ _ _ HLs.out H1.out hA1).mono ?_
  rintro e w1 ⟨rfl, hA2, hO2⟩
  rw [HYS.out] at hA2
  have hR4 := hR3.only hO2 (by omega)
  have hB4 := hB3.trans (hO2.below (B := w.heap.size) (by omega) hB3.size)
  clear hA1 hR3 hB3 hO2
  have c0 := hA2.at_ HY00.out
  have f0 := hA2.free (i := 0) (by rw [HLy.out]; omega)
  have hA3 := hA2.set 0 (y - 19)
  rw [Nat.add_zero, HZS.out] at hA3
  have hR5 := hR4.apart (p := ⟨w.heap.size + 1 + 1, 0, none⟩) (.int .i64 (y - 19)) (.inl (by show w.heap.size + 1 + 1 ≠ w.heap.size + 1; omega))
  have hB5 := hB4.setCell (p := ⟨w.heap.size + 1 + 1, 0, none⟩) (by show w.heap.size ≤ w.heap.size + 1 + 1; omega) (.int .i64 (y - 19))
  clear hA2 hR4 hB4
  go_wp2_with (fail)
  refine (carry_any _ _ _ HLs2.out H2.out hA3).mono ?_
  rintro e w2 ⟨rfl, hA6, hO6⟩
  rw [← HR.out] at hA6
  have hR6 := hR5.only hO6 (by omega)
  have hB6 := hB5.trans (hO6.below (B := w.heap.size) (by omega) hB5.size)
  have HLR : Hid ((red xs).length = 16) := hid (by rw [red_length]; exact HL.out)
  have hs6 : w2.there (w.heap.size + 1) 0 (ints .i64 (red xs)).toArray.size := hR6.room (by rw [zeros_len]; exact HLR.out)
  have hR7 := hR6.stored (l' := red xs) (by rw [zeros_len]; exact HLR.out)
  have hB7 := Below.setCells hB6 (g := w.heap.size + 1) (by omega) 0 (ints .i64 (red xs)).toArray.toList
  clear hA3 hR5 hB5 hO6
  go_wp2_with (first
    | (with_reducible refine wpList_load_mid (op := ⟨some 16, .load 49 (.tmp 3), _, _, _, _⟩) rfl 49 (.tmp 3) rfl (w.heap.size + 1 + 1) 0 rfl (ints .i64 (red xs)) _ (hA6.range) Tryd.underlying49 rfl (l24 HLR.out) ?_)
    | (with_reducible refine wpList_store_mid (op := ⟨none, .store 49 (.tmp 2) (.tmp 16), _, _, _, _⟩) rfl 49 (.tmp 2) (.tmp 16) rfl (w.heap.size + 1) 0 (ints .i64 (red xs)).toArray rfl rfl hs6 (a24 HLR.out) (ints_all _ _) ?_))
  exact ret_rows rfl (w.heap.size + 1) 0 rfl (ints .i64 (red xs)) _ hR7.range Tryd.underlying49 rfl (l24 HLR.out) rfl ⟨rfl, hB7⟩
end Go.Proofs.YtkblmdakejmmhaaDoor

/- Small elements; the bytes of an element; whether it is odd; whether two are equal. -/
namespace Go.Proofs.YtkblmdakejmmhaaDoor
open Go.RowKit

def smallL (n : Int) : List Int := if 0 ≤ n ∧ n ≤ 65535 then n :: zeros 15 else zeros 16
theorem smallL_length (n : Int) : (smallL n).length = 16 := by unfold smallL; split <;> simp [zeros]
set_option maxRecDepth 4000 in
set_option maxHeartbeats 1000000 in
theorem small_any (n : Int) (w : World) : Calls Tryd.prog 24 #[.int .i64 n] w fun e w' => e = .returned (.agg (ints .i64 (smallL n)).toArray) ∧ Below w.heap.size w w' := by
  obtain ⟨z24, s24⟩ := zero_of_info inf24
  obtain ⟨z26, s26⟩ := zero_of_info inf26
  have hR := Arr.made w .i64 (zeros 16) 51
  have hW := below_new w (.cells (ints .i64 (zeros 16)).toArray 51)
  by_cases h : 0 ≤ n ∧ n ≤ 65535
  · have e : smallL n = n :: zeros 15 := by unfold smallL; rw [if_pos h]
    have h0 : decide (n < 0) = false := by simp; omega
    have h1 : decide (65535 < n) = false := by simp; omega
    have hs := hR.room (l' := n :: zeros 15) (k' := .i64) rfl
    have hR2 := hR.stored (l' := n :: zeros 15) rfl
    have hW2 := Below.setCells hW (g := w.heap.size) (by omega) 0 (ints .i64 (n :: zeros 15)).toArray.toList
    rw [e]
    clear e h
    have HQ : Hid ((n :: zeros 15).length = 16) := hid rfl
    go_enter Tryd.func24, Tryd.ntmps24
    go_wp2_with (first
      | ((with_reducible refine wpList_store_mid (op := ⟨none, .store 51 (.tmp 2) (.tmp 12), _, _, _, _⟩) rfl 51 (.tmp 2) (.tmp 12) rfl w.heap.size 0 (ints .i64 (n :: zeros 15)).toArray rfl ?_ hs (a26 HQ.out) (ints_all _ _) ?_); focus (kernel_rfl)))
    exact ret_rows rfl w.heap.size 0 rfl (ints .i64 (n :: zeros 15)) _ hR2.range Tryd.underlying51 rfl (l26 HQ.out) rfl ⟨rfl, hW2⟩
  · have e : smallL n = zeros 16 := by unfold smallL; rw [if_neg h]
    have hs := hR.room (l' := zeros 16) (k' := .i64) rfl
    have hR2 := hR.stored (l' := zeros 16) rfl
    have hW2 := Below.setCells hW (g := w.heap.size) (by omega) 0 (ints .i64 (zeros 16)).toArray.toList
    rw [e]
    have HQ : Hid ((zeros 16).length = 16) := hid rfl
    by_cases h2 : n < 0
    · have h0 : decide (n < 0) = true := by simp; omega
      clear e h
      go_enter Tryd.func24, Tryd.ntmps24
      go_wp2_with (first
        | ((with_reducible refine wpList_store_mid (op := ⟨none, .store 51 (.tmp 2) (.tmp 9), _, _, _, _⟩) rfl 51 (.tmp 2) (.tmp 9) rfl w.heap.size 0 (ints .i64 (zeros 16)).toArray rfl ?_ hs (a26 HQ.out) (ints_all _ _) ?_); focus (kernel_rfl)))
      exact ret_rows rfl w.heap.size 0 rfl (ints .i64 (zeros 16)) _ hR2.range Tryd.underlying51 rfl (l26 HQ.out) rfl ⟨rfl, hW2⟩
    · have h0 : decide (n < 0) = false := by simp; omega
      have h1 : decide (65535 < n) = true := by simp; omega
      clear e h h2
      go_enter Tryd.func24, Tryd.ntmps24
      go_wp2_with (first
        | ((with_reducible refine wpList_store_mid (op := ⟨none, .store 51 (.tmp 2) (.tmp 9), _, _, _, _⟩) rfl 51 (.tmp 2) (.tmp 9) rfl w.heap.size 0 (ints .i64 (zeros 16)).toArray rfl ?_ hs (a26 HQ.out) (ints_all _ _) ?_); focus (kernel_rfl)))
      exact ret_rows rfl w.heap.size 0 rfl (ints .i64 (zeros 16)) _ hR2.range Tryd.underlying51 rfl (l26 HQ.out) rfl ⟨rfl, hW2⟩
end Go.Proofs.YtkblmdakejmmhaaDoor
