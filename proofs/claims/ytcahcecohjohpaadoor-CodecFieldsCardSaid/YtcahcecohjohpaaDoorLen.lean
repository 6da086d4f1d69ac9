/- How many bits and bytes a number takes. No condition. -/
import Derived.Test.YtcahcecohjohpaaDoorRows
import Derived.Test.YtcahcecohjohpaaDoorBase
import Derived.Lib.BitFns
namespace Go.Proofs.YtcahcecohjohpaaDoor
open Go.RowKit

theorem len8tab_any (w : World) (i : Int) (h0 : 0 ≤ i) (h : i ≤ 255) : (Instr.index 9 (.string Lib.len8tab) (.int .u8 i)).run Tryd.prog w = .ok (.int .u8 (Lib.bitLen i.toNat)) w := by
  rw [Lib.run_index_len8tab (P := Tryd.prog) (w := w) 9 .u8 i Tryd.underlying9 h0 h, Lib.len8_of i h0 h]

set_option maxRecDepth 100000 in
set_option maxHeartbeats 2000000 in
theorem len64_any (x : Int) (w : World) (h0 : 0 ≤ x) (h1 : x ≤ 18446744073709551615) :
    Calls Tryd.prog 50 #[.int .u64 x] w fun e w' => e = .returned (.int .i64 (Lib.bitLen x.toNat)) ∧ w = w' := by
  by_cases c4 : 4294967296 ≤ x
  · by_cases c2 : 65536 ≤ x / 4294967296
    · by_cases c1 : 256 ≤ x / 4294967296 / 65536
      · have ix := fun w => len8tab_any w (x / 4294967296 / 65536 / 256) (by omega) (by omega)
        go_enter Tryd.func50, Tryd.ntmps50
        go_wp2
        go_ret
        clear ix
        refine ⟨ret_int ?_, rfl⟩
        have l := Lib.bitLen_le8' (x / 4294967296 / 65536 / 256) (by omega) (by omega)
        have e : (x / 4294967296 / 65536 / 256).toNat = x.toNat / 72057594037927936 := by omega
        have s := Lib.bitLen_shift56 x.toNat (by omega) (by omega)
        rw [e] at l ⊢
        simp only [wrap64] at *
        omega
      · have ix := fun w => len8tab_any w (x / 4294967296 / 65536) (by omega) (by omega)
        go_enter Tryd.func50, Tryd.ntmps50
        go_wp2
        go_ret
        clear ix
        refine ⟨ret_int ?_, rfl⟩
        have l := Lib.bitLen_le8' (x / 4294967296 / 65536) (by omega) (by omega)
        have e : (x / 4294967296 / 65536).toNat = x.toNat / 281474976710656 := by omega
        have s := Lib.bitLen_shift48 x.toNat (by omega) (by omega)
        rw [e] at l ⊢
        simp only [wrap64] at *
        omega
    · by_cases c1 : 256 ≤ x / 4294967296
      · have ix := fun w => len8tab_any w (x / 4294967296 / 256) (by omega) (by omega)
        go_enter Tryd.func50, Tryd.ntmps50
        go_wp2
        go_ret
        clear ix
        refine ⟨ret_int ?_, rfl⟩
        have l := Lib.bitLen_le8' (x / 4294967296 / 256) (by omega) (by omega)
        have e : (x / 4294967296 / 256).toNat = x.toNat / 1099511627776 := by omega
        have s := Lib.bitLen_shift40 x.toNat (by omega) (by omega)
        rw [e] at l ⊢
        simp only [wrap64] at *
        omega
      · have ix := fun w => len8tab_any w (x / 4294967296) (by omega) (by omega)
        go_enter Tryd.func50, Tryd.ntmps50
        go_wp2
        go_ret
        clear ix
        refine ⟨ret_int ?_, rfl⟩
        have l := Lib.bitLen_le8' (x / 4294967296) (by omega) (by omega)
        have e : (x / 4294967296).toNat = x.toNat / 4294967296 := by omega
        have s := Lib.bitLen_shift32 x.toNat (by omega) (by omega)
        rw [e] at l ⊢
        simp only [wrap64] at *
        omega
  · by_cases c2 : 65536 ≤ x
    · by_cases c1 : 256 ≤ x / 65536
      · have ix := fun w => len8tab_any w (x / 65536 / 256) (by omega) (by omega)
        go_enter Tryd.func50, Tryd.ntmps50
        go_wp2
        go_ret
        clear ix
        refine ⟨ret_int ?_, rfl⟩
        have l := Lib.bitLen_le8' (x / 65536 / 256) (by omega) (by omega)
        have e : (x / 65536 / 256).toNat = x.toNat / 16777216 := by omega
        have s := Lib.bitLen_shift24 x.toNat (by omega) (by omega)
        rw [e] at l ⊢
        simp only [wrap64] at *
        omega
      · have ix := fun w => len8tab_any w (x / 65536) (by omega) (by omega)
        go_enter Tryd.func50, Tryd.ntmps50
        go_wp2
        go_ret
        clear ix
        refine ⟨ret_int ?_, rfl⟩
        have l := Lib.bitLen_le8' (x / 65536) (by omega) (by omega)
        have e : (x / 65536).toNat = x.toNat / 65536 := by omega
        have s := Lib.bitLen_shift16 x.toNat (by omega) (by omega)
        rw [e] at l ⊢
        simp only [wrap64] at *
        omega
    · by_cases c1 : 256 ≤ x
      · have ix := fun w => len8tab_any w (x / 256) (by omega) (by omega)
        go_enter Tryd.func50, Tryd.ntmps50
        go_wp2
        go_ret
        clear ix
        refine ⟨ret_int ?_, rfl⟩
        have l := Lib.bitLen_le8' (x / 256) (by omega) (by omega)
        have e : (x / 256).toNat = x.toNat / 256 := by omega
        have s := Lib.bitLen_shift8 x.toNat (by omega) (by omega)
        rw [e] at l ⊢
        simp only [wrap64] at *
        omega
      · have ix := fun w => len8tab_any w (x) (by omega) (by omega)
        go_enter Tryd.func50, Tryd.ntmps50
        go_wp2
        go_ret
        clear ix
        refine ⟨ret_int ?_, rfl⟩
        have l := Lib.bitLen_le8' (x) (by omega) (by omega)
        simp only [wrap64] at *
        omega

theorem len_any (x : Int) (w : World) (h0 : 0 ≤ x) (h1 : x ≤ 18446744073709551615) :
    Calls Tryd.prog 45 #[.int .u64 x] w fun e w' => e = .returned (.int .i64 (Lib.bitLen x.toNat)) ∧ w = w' := by
  go_enter Tryd.func45, Tryd.ntmps45
  go_wp2_with (go_at_call 50; refine (len64_any x _ h0 h1).mono ?_; rintro e w' ⟨rfl, rfl⟩)
  go_ret
  exact ⟨rfl, rfl⟩

/-- How many bytes a number from 0 to 2^62 takes. -/
def nb (n : Int) : Nat := (Lib.bitLen n.toNat + 7) / 8
theorem length_any (x : Int) (w : World) (h0 : 0 ≤ x) (h1 : x ≤ 4611686018427387904) :
    Calls Tryd.prog 36 #[.int .i64 x] w fun e w' => e = .returned (.int .i64 (nb x)) ∧ w = w' := by
  have l := Lib.bitLen_le x.toNat 64 (by omega) (by omega)
  go_enter Tryd.func36, Tryd.ntmps36
  go_wp2_with (go_at_call 45; refine (len_any x _ (by omega) (by omega)).mono ?_; rintro e w' ⟨rfl, rfl⟩)
  go_ret
  exact ⟨ret_int (by unfold nb; omega), rfl⟩
theorem nb_zero : nb 0 = 0 := by decide +kernel
theorem nb_step (n : Int) (h0 : 0 < n) (h1 : n ≤ 4611686018427387904) : nb n = nb (n / 256) + 1 := by
  unfold nb
  have e : (n / 256).toNat = n.toNat / 256 := by omega
  by_cases c : 256 ≤ n
  · have s := Lib.bitLen_shift8 n.toNat (by omega) (by omega)
    rw [e]; omega
  · have e0 : (n / 256).toNat = 0 := by omega
    have l := Lib.bitLen_le8' n (by omega) (by omega)
    have p := Lib.bitLen_half n.toNat (by omega) (by omega)
    rw [e0]
    have z : Lib.bitLen 0 = 0 := by decide +kernel
    omega
end Go.Proofs.YtcahcecohjohpaaDoor
