/- The bytes of an element; whether it is odd. -/
import Derived.Test.YtoncinbohfmciaaSmall
namespace Go.Proofs.Ytoncinbohfmciaa
open Go.RowKit

theorem index24 {ds : List Int} {k : Nat} {d : Int} (h : ds[k]? = some d) (hk : k < 16) (w : World) : (Instr.index 39 (.agg (ints .i64 ds).toArray) (.int .i64 (k : Int))).run Try.prog w = .ok (.int .i64 d) w :=
  run_index_row 39 2 16 (ints .i64 ds) .i64 k (.int .i64 d) (.int .i64) Try.underlying39 Try.underlying2 rfl (by kernel_rfl) hk (by simp [ints, h])

set_option maxRecDepth 4000 in
set_option maxHeartbeats 1000000 in
theorem bytes_any (xs : List Int) (w : World) (hl : xs.length = 16) (hb : Bd 1000000000000000000 xs) :
    Calls Try.prog 28 #[.agg (ints .i64 xs).toArray] w fun e w' => e = .returned (.agg (ints .u8 (byd (red xs))).toArray) ∧ Below w.heap.size w w' := by
  obtain ⟨z22, s22⟩ := zero_of_info inf22
  have HL := hid hl
  have HB := hid hb
  clear hl hb
  have hN := ((Arr.made w .i64 xs 41).alloc (.cells (ints .u8 (zeros 32)).toArray 22)).alloc (.cells (ints .u8 (zeros 32)).toArray 22)
  have hR := (Arr.made (w.alloc (.cells (ints .i64 xs).toArray 41)) .u8 (zeros 32) 22).alloc (.cells (ints .u8 (zeros 32)).toArray 22)
  have hD := Arr.made ((w.alloc (.cells (ints .i64 xs).toArray 41)).alloc (.cells (ints .u8 (zeros 32)).toArray 22)) .u8 (zeros 32) 22
  have hW := ((below_new w (.cells (ints .i64 xs).toArray 41)).alloc (by simp) (.cells (ints .u8 (zeros 32)).toArray 22)).alloc (by simp; omega) (.cells (ints .u8 (zeros 32)).toArray 22)
  rw [World.size_alloc] at hR
  rw [World.size_alloc, World.size_alloc] at hD
  have HRL : Hid ((red xs).length = 16) := hid (by rw [red_length]; exact HL.out)
  have HZ : Hid (zeros 32 = fillK (byd (red xs)) 0) := hid (by rw [fillK_zero, byd_length]; rfl)
  rw [HZ.out] at hD
  go_enter Try.func28, Try.ntmps28
  go_wp2_with (first
    | (with_reducible refine wpList_load_mid (op := ⟨some 6, .load 41 (.tmp 1), _, _, _, _⟩) rfl 41 (.tmp 1) rfl w.heap.size 0 rfl (ints .i64 xs) _ (hN.range) Try.underlying41 rfl (l26 HL.out) ?_)
    | (go_at_call 39; refine (reduced_any xs _ HL.out HB.out).mono ?_; rintro e w1 ⟨rfl, hb1⟩))
  have hN1 := hN.below hb1 (by simp; omega)
  have hR1 := hR.below hb1 (by simp)
  have hD1 := hD.below hb1 (by simp)
  have hW1 := hW.trans (hb1.mono (by simp; omega))
  clear hN hR hD hW hb1
  have HBL := hid (byd_length (red xs))
  have HE : Hid (∀ i, i < 16 → (byd (red xs))[2 * i]? = some ((red xs).getD i 0 % 256)) := hid fun i h => byd_even _ h
  have HO : Hid (∀ i, i < 16 → (byd (red xs))[2 * i + 1]? = some ((red xs).getD i 0 / 256 % 256)) := hid fun i h => byd_odd _ h
  go_loopw [8] (fun i wr => ∃ k : Nat, k ≤ 16 ∧ i = .int .i64 k ∧ Arr wr (w.heap.size + 1) 0 .u8 (zeros 32) ∧ Arr wr (w.heap.size + 1 + 1) 0 .u8 (fillK (byd (red xs)) (2 * k)) ∧ Below w.heap.size w wr) (fun i _ => 16 - (intOf i).toNat)
  case atStart => exact ⟨0, by omega, rfl, hR1, hD1, hW1⟩
  case round =>
    clear hN1 hR1 hD1 hW1
    obtain ⟨k, hk, rfl, hR, hD, hW⟩ := hrel
    rename World => W1
    by_cases hlt : k < 16
    · have hx : (red xs)[k]? = some ((red xs).getD k 0) := getD_some (by rw [HRL.out]; exact hlt)
      have hix := fun w => index24 hx hlt w
      have HX := hid hx
      clear hx
      obtain ⟨z, cz, fz, _⟩ := hD.spot (i := 2 * k) (by rw [fillK_length, HBL.out]; omega)
      obtain ⟨z2, cz2, fz2, _⟩ := hD.spot (i := 2 * k + 1) (by rw [fillK_length, HBL.out]; omega)
      rw [Nat.zero_add] at cz fz cz2 fz2
      have HV1 := hid (HE.out k hlt)
      have HV2 := hid (HO.out k hlt)
      generalize (red xs).getD k 0 = d at *
      obtain ⟨p, hp⟩ : ∃ p, p = 2 * k := ⟨_, rfl⟩
      obtain ⟨q, hq⟩ : ∃ q, q = p + 1 := ⟨_, rfl⟩
      have hwp : IntKind.i64.wrap (2 * (k : Int)) = (p : Int) := by rw [IntWalk.i64_in _ (by omega)]; omega
      have hwq : IntKind.i64.wrap ((p : Int) + 1) = (q : Int) := by rw [IntWalk.i64_in _ (by omega)]; omega
      have hwk : IntKind.i64.wrap ((k : Int) + 1) = (k : Int) + 1 := IntWalk.i64_in _ (by omega)
      rw [← hp] at cz fz cz2 fz2 HV1 HV2 hD
      rw [← hq] at cz2 fz2 HV2
      have k0 : (0 : Int) ≤ k := by omega
      have k16 : (k : Int) < 16 := by omega
      have p0 : (0 : Int) ≤ p := by omega
      have p32 : (p : Int) < 32 := by omega
      have q0 : (0 : Int) ≤ q := by omega
      have q32 : (q : Int) < 32 := by omega
      have pq : p ≠ q := by omega
      have HPQ := hid (And.intro hp hq)
      clear hp hq
      have hD1 := (hD.set p (d % 256)).set q (d / 256 % 256)
      rw [Nat.zero_add, Nat.zero_add, fillK_set _ HV1.out, ← HPQ.out.2, fillK_set _ HV2.out, show q + 1 = 2 * (k + 1) by have := HPQ.out; omega] at hD1
      go_wp2
      go_roundw
      case rel => exact ⟨k + 1, by omega, by go_num, (hR.apart _ (.inl (by show w.heap.size + 1 + 1 ≠ w.heap.size + 1; omega))).apart _ (.inl (by show w.heap.size + 1 + 1 ≠ w.heap.size + 1; omega)), hD1, (hW.setCell (by show w.heap.size ≤ w.heap.size + 1 + 1; omega) _).setCell (by show w.heap.size ≤ w.heap.size + 1 + 1; omega) _⟩
      case measure => simp [intOf]; omega
    · have e : k = 16 := by omega
      subst e
      have HF : Hid (fillK (byd (red xs)) 32 = byd (red xs)) := hid (by have := fillK_end (byd (red xs)); rw [HBL.out] at this; exact this)
      rw [show 2 * 16 = 32 from rfl, HF.out] at hD
      have hs1 : W1.there (w.heap.size + 1) 0 (ints .u8 (byd (red xs))).toArray.size := hR.room (by rw [zeros_len]; exact HBL.out)
      have hR2 := hR.stored (l' := byd (red xs)) (by rw [zeros_len]; exact HBL.out)
      have hW2 := Below.setCells hW (g := w.heap.size + 1) (by omega) 0 (ints .u8 (byd (red xs))).toArray.toList
      go_wp2_with (first
        | (with_reducible refine wpList_load_mid (op := ⟨some 25, .load 22 (.tmp 3), _, _, _, _⟩) rfl 22 (.tmp 3) rfl (w.heap.size + 1 + 1) 0 rfl (ints .u8 (byd (red xs))) _ (hD.range) Try.underlying22 rfl (l22 HBL.out) ?_)
        | (with_reducible refine wpList_store_mid (op := ⟨none, .store 22 (.tmp 2) (.tmp 25), _, _, _, _⟩) rfl 22 (.tmp 2) (.tmp 25) rfl (w.heap.size + 1) 0 (ints .u8 (byd (red xs))).toArray rfl rfl hs1 (a22 HBL.out) (ints_all _ _) ?_))
      exact ret_rows rfl (w.heap.size + 1) 0 rfl (ints .u8 (byd (red xs))) _ hR2.range Try.underlying22 rfl (l22 HBL.out) rfl ⟨rfl, hW2⟩
end Go.Proofs.Ytoncinbohfmciaa
