/- An element of bytes. -/
import Derived.Test.YtoncinbohfmciaaEl
namespace Go.Proofs.Ytoncinbohfmciaa
open Go.RowKit

/-- Sixteen digits of thirty-two bytes; the bytes of sixteen digits. -/
def dgs (bs : List Int) : List Int := (List.range 16).map fun i => bs.getD (2 * i) 0 + 256 * bs.getD (2 * i + 1) 0
theorem dgs_length (bs : List Int) : (dgs bs).length = 16 := by simp [dgs]
theorem dgs_at (bs : List Int) {i : Nat} (h : i < 16) : (dgs bs)[i]? = some (bs.getD (2 * i) 0 + 256 * bs.getD (2 * i + 1) 0) := by simp [dgs, h]
def byd (ds : List Int) : List Int := (List.range 32).map fun i => ds.getD (i / 2) 0 / 256 ^ (i % 2) % 256
theorem byd_length (ds : List Int) : (byd ds).length = 32 := by simp [byd]
theorem byd_even (ds : List Int) {i : Nat} (h : i < 16) : (byd ds)[2 * i]? = some (ds.getD i 0 % 256) := by
  have e1 : 2 * i / 2 = i := by omega
  have e2 : 2 * i % 2 = 0 := by omega
  unfold byd
  rw [List.getElem?_map, List.getElem?_range (by omega)]
  simp [e1, e2]
theorem byd_odd (ds : List Int) {i : Nat} (h : i < 16) : (byd ds)[2 * i + 1]? = some (ds.getD i 0 / 256 % 256) := by
  have e1 : (2 * i + 1) / 2 = i := by omega
  have e2 : (2 * i + 1) % 2 = 1 := by omega
  unfold byd
  rw [List.getElem?_map, List.getElem?_range (by omega)]
  simp [e1, e2]
def Byt (l : List Int) : Prop := ∀ x ∈ l, 0 ≤ x ∧ x < 256
theorem Byt.at_ {l : List Int} (h : Byt l) {i : Nat} {x : Int} (hx : l[i]? = some x) : 0 ≤ x ∧ x < 256 := h x (List.mem_of_getElem? hx)
def ofL (bs : List Int) : List Int := (dgs bs).set 15 ((dgs bs).getD 15 0 % 32768)
theorem ofL_length (bs : List Int) : (ofL bs).length = 16 := by simp [ofL, dgs_length]

set_option maxRecDepth 4000 in
set_option maxHeartbeats 1000000 in
theorem of_any (bs : List Int) (w : World) (hl : bs.length = 32) (hb : Byt bs) :
    Calls Try.prog 22 #[.agg (ints .u8 bs).toArray] w fun e w' => e = .returned (.agg (ints .i64 (ofL bs)).toArray) ∧ Below w.heap.size w w' := by
  obtain ⟨z24, s24⟩ := zero_of_info inf24
  obtain ⟨z26, s26⟩ := zero_of_info inf26
  have HL := hid hl
  have HB := hid hb
  clear hl hb
  have hN := ((Arr.made w .u8 bs 22).alloc (.cells (ints .i64 (zeros 16)).toArray 41)).alloc (.cells (ints .i64 (zeros 16)).toArray 41)
  have hR := (Arr.made (w.alloc (.cells (ints .u8 bs).toArray 22)) .i64 (zeros 16) 41).alloc (.cells (ints .i64 (zeros 16)).toArray 41)
  have hD := Arr.made ((w.alloc (.cells (ints .u8 bs).toArray 22)).alloc (.cells (ints .i64 (zeros 16)).toArray 41)) .i64 (zeros 16) 41
  have hW := ((below_new w (.cells (ints .u8 bs).toArray 22)).alloc (by simp) (.cells (ints .i64 (zeros 16)).toArray 41)).alloc (by simp; omega) (.cells (ints .i64 (zeros 16)).toArray 41)
  rw [World.size_alloc] at hR
  rw [World.size_alloc, World.size_alloc] at hD
  have HZ : Hid (zeros 16 = fillK (dgs bs) 0) := hid (by rw [fillK_zero, dgs_length]; rfl)
  go_enter Try.func22, Try.ntmps22
  go_wp2
  generalize (((w.alloc (.cells (ints .u8 bs).toArray 22)).alloc (.cells (ints .i64 (zeros 16)).toArray 41)).alloc (.cells (ints .i64 (zeros 16)).toArray 41)) = W0 at *
  rw [HZ.out] at hD
  go_loopw [5] (fun i wr => ∃ k : Nat, k ≤ 16 ∧ i = .int .i64 k ∧ Arr wr w.heap.size 0 .u8 bs ∧ Arr wr (w.heap.size + 1) 0 .i64 (zeros 16) ∧ Arr wr (w.heap.size + 1 + 1) 0 .i64 (fillK (dgs bs) k) ∧ Below w.heap.size w wr) (fun i _ => 16 - (intOf i).toNat)
  case atStart => exact ⟨0, by omega, rfl, hN, hR, hD, hW⟩
  case round =>
    clear hN hR hD hW
    obtain ⟨k, hk, rfl, hN, hR, hD, hW⟩ := hrel
    rename World => W1
    by_cases hlt : k < 16
    · obtain ⟨x, cx, fx, HX⟩ := hN.spot (i := 2 * k) (by rw [HL.out]; omega)
      obtain ⟨y, cy0, fy, HY⟩ := hN.spot (i := 2 * k + 1) (by rw [HL.out]; omega)
      obtain ⟨z, cz, fz, HZ2⟩ := hD.spot (i := k) (by rw [fillK_length, dgs_length]; omega)
      rw [Nat.zero_add] at cx fx cy0 fy cz fz
      have hx := HB.out.at_ HX.out
      have hy := HB.out.at_ HY.out
      have HV : Hid ((dgs bs)[k]? = some (x + 256 * y)) := hid (by rw [dgs_at bs hlt]; simp [List.getD, HX.out, HY.out])
      obtain ⟨p, hp⟩ : ∃ p, p = 2 * k := ⟨_, rfl⟩
      obtain ⟨q, hq⟩ : ∃ q, q = 2 * k + 1 := ⟨_, rfl⟩
      have hwp : IntKind.i64.wrap (2 * (k : Int)) = (p : Int) := by rw [IntWalk.i64_in _ (by omega)]; omega
      have hwq : IntKind.i64.wrap ((p : Int) + 1) = (q : Int) := by rw [IntWalk.i64_in _ (by omega)]; omega
      have hwk : IntKind.i64.wrap ((k : Int) + 1) = (k : Int) + 1 := IntWalk.i64_in _ (by omega)
      rw [← hp] at cx fx
      rw [← hq] at cy0 fy
      have k0 : (0 : Int) ≤ k := by omega
      have k16 : (k : Int) < 16 := by omega
      have p0 : (0 : Int) ≤ p := by omega
      have p32 : (p : Int) < 32 := by omega
      have q0 : (0 : Int) ≤ q := by omega
      have q32 : (q : Int) < 32 := by omega
      have hx64 : IntKind.i64.wrap x = x := IntWalk.i64_in _ (by omega)
      have hy64 : IntKind.i64.wrap y = y := IntWalk.i64_in _ (by omega)
      have hs8 : IntKind.i64.wrap (y * 256) = 256 * y := by rw [IntWalk.i64_in _ (by omega)]; omega
      obtain ⟨v, hv⟩ : ∃ v, v = x + 256 * y := ⟨_, rfl⟩
      have hor : bits .or .i64 x (256 * y) = v := by rw [or16 x y hx hy, hv]
      rw [← hv] at HV
      have HPQ := hid (And.intro hp (And.intro hq hv))
      clear hp hq fx fy hv
      go_wp2
      go_still_tail 16, (by kernel_rfl)
      change wpList _ _ _ _ _ W1.drew
      have hN1 : Arr (W1.drew.setCell ⟨w.heap.size + 1 + 1, k, none⟩ (.int .i64 v)) w.heap.size 0 .u8 bs := hN.drew.apart _ (.inl (by show w.heap.size + 1 + 1 ≠ w.heap.size; omega))
      have hR1 : Arr (W1.drew.setCell ⟨w.heap.size + 1 + 1, k, none⟩ (.int .i64 v)) (w.heap.size + 1) 0 .i64 (zeros 16) := hR.drew.apart _ (.inl (by show w.heap.size + 1 + 1 ≠ w.heap.size + 1; omega))
      have hD1 : Arr (W1.drew.setCell ⟨w.heap.size + 1 + 1, k, none⟩ (.int .i64 v)) (w.heap.size + 1 + 1) 0 .i64 (fillK (dgs bs) (k + 1)) := by
        have h := hD.drew.set k v
        rw [Nat.zero_add, fillK_set _ HV.out] at h; exact h
      have hW1 : Below w.heap.size w (W1.drew.setCell ⟨w.heap.size + 1 + 1, k, none⟩ (.int .i64 v)) := hW.drew.setCell (by show w.heap.size ≤ w.heap.size + 1 + 1; omega) _
      have cz1 : W1.drew.cell? ⟨w.heap.size + 1 + 1, k, none⟩ = some (.int .i64 z) := cz
      have fz1 : W1.drew.frozen? ⟨w.heap.size + 1 + 1, k, none⟩ = false := fz
      clear cz fz cx cy0 hN hR hD hW
      generalize W1.drew = W4 at *
      go_wp2
      go_roundw
      case rel => exact ⟨k + 1, by omega, by go_num, hN1, hR1, hD1, hW1⟩
      case measure => simp [intOf]; omega
    · have e : k = 16 := by omega
      subst e
      have HF : Hid (fillK (dgs bs) 16 = dgs bs) := hid (by have := fillK_end (dgs bs); rw [dgs_length] at this; exact this)
      rw [HF.out] at hD
      have HDL := hid (dgs_length bs)
      have HOL := hid (ofL_length bs)
      have HO : Hid (ofL bs = (dgs bs).set 15 ((dgs bs).getD 15 0 % 32768)) := hid rfl
      generalize hds : dgs bs = ds at *
      have HDS := hid hds
      clear hds
      obtain ⟨x, cx, fx, HX⟩ := hD.spot (i := 15) (by rw [HDL.out]; omega)
      rw [Nat.zero_add] at cx fx
      have HXE : Hid (ds.getD 15 0 = x) := hid (by simp [List.getD, HX.out])
      rw [HXE.out] at HO
      have hmk := mask15 x
      have hD1 := hD.set 15 (x % 32768)
      rw [Nat.zero_add, ← HO.out] at hD1
      have hR1 := hR.apart (p := ⟨w.heap.size + 1 + 1, 15, none⟩) (.int .i64 (x % 32768)) (.inl (by show w.heap.size + 1 + 1 ≠ w.heap.size + 1; omega))
      have hW1 := hW.setCell (p := ⟨w.heap.size + 1 + 1, 15, none⟩) (by show w.heap.size ≤ w.heap.size + 1 + 1; omega) (.int .i64 (x % 32768))
      have hs1 : (W1.setCell ⟨w.heap.size + 1 + 1, 15, none⟩ (.int .i64 (x % 32768))).there (w.heap.size + 1) 0 (ints .i64 (ofL bs)).toArray.size := hR1.room (by rw [zeros_len]; exact HOL.out)
      have hR2 := hR1.stored (l' := ofL bs) (by rw [zeros_len]; exact HOL.out)
      have hW2 := Below.setCells hW1 (g := w.heap.size + 1) (by omega) 0 (ints .i64 (ofL bs)).toArray.toList
      clear hD hR hW hN
      go_wp2_with (first
        | (with_reducible refine wpList_load_mid (op := ⟨some 31, .load 41 (.tmp 3), _, _, _, _⟩) rfl 41 (.tmp 3) rfl (w.heap.size + 1 + 1) 0 rfl (ints .i64 (ofL bs)) _ (hD1.range) Try.underlying41 rfl (l26 HOL.out) ?_)
        | (with_reducible refine wpList_store_mid (op := ⟨none, .store 41 (.tmp 2) (.tmp 31), _, _, _, _⟩) rfl 41 (.tmp 2) (.tmp 31) rfl (w.heap.size + 1) 0 (ints .i64 (ofL bs)).toArray rfl rfl hs1 (a26 HOL.out) (ints_all _ _) ?_))
      exact ret_rows rfl (w.heap.size + 1) 0 rfl (ints .i64 (ofL bs)) _ hR2.range Try.underlying41 rfl (l26 HOL.out) rfl ⟨rfl, hW2⟩
end Go.Proofs.Ytoncinbohfmciaa
