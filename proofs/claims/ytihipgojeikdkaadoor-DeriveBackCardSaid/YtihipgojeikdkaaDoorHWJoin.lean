/- The join of 64-bit numbers. -/
import Derived.Test.YtihipgojeikdkaaDoorHWSplit
namespace Go.Proofs.YtihipgojeikdkaaDoor
open Go.RowKit

set_option maxRecDepth 50000 in
theorem Tryd.info61 : (Tryd.prog.info? 61).map (fun i => (i.zero, i.size, i.bytes)) = some (some (.int .u64 0), 1, 8) := by kernel_rfl

set_option maxRecDepth 50000 in
set_option maxHeartbeats 400000 in
theorem join64 (hi : Bool) (A : Option Addr) (c s : Nat) (b : List Int) (w : World) (h1 : 1 ≤ s) (h8 : s ≤ 8) (hn : b.length ≤ 4096) (hm : b.length % s = 0) (hby : HByt b) (hA : Nums w .u8 A b) :
    Calls Tryd.prog 54 #[.slice A b.length c, .int .i64 s, .int .i64 (ordN hi)] w fun e w' => ∃ B d ys, e = .returned (.slice B ys.length d) ∧ Hid (ys = joinB hi s b) ∧ Nums w' .u64 B ys ∧ Below w.heap.size w w' := by
  obtain ⟨i0, hi0, hz0, hz1, hz2⟩ := info_parts Tryd.info61
  obtain ⟨M, hM⟩ : ∃ M, M = b.length / s := ⟨_, rfl⟩
  have HM := hid hM
  have hM1 : M ≤ 4096 := by rw [hM]; exact Nat.le_trans (Nat.div_le_self _ _) hn
  have hMi : (b.length : Int) / (s : Int) = (M : Int) := by rw [hM]; simp
  have HMod := hid hm
  have hs0 : ¬ s = 0 := by omega
  have hs1 : (1 : Int) ≤ s := by omega
  have hwM : IntKind.i64.wrap (M : Int) = (M : Int) := IntWalk.i64_in _ (by omega)
  clear hM hm
  go_enter Tryd.func54, Tryd.ntmps54
  go_wp2_with (at_make; refine wpList_make_full _ rfl _ _ 58 rfl w.heap.size 61 i0 _ 1 Tryd.underlying58 hi0 hz0 hz1 .i64 .i64 _ _ M rfl rfl ?_ ?_ ?_ ?_ ?_ ?_)
  · rfl
  · rfl
  · rw [hz2]; omega
  · unfold maxLen; omega
  · omega
  intro w1 hown hgrow
  have hb1 : Below w.heap.size w w1 := (Below.refl _ _).grown hgrow (Nat.le_refl _) (by simp)
  have hO : Owns w1 w.heap.size 61 .u64 (.slice (some ⟨w.heap.size, 0, none⟩) M M) (partK hi s b 0) := by
    rw [partK_zero, ← HM.out]
    unfold Owns
    rw [List.length_replicate, List.map_replicate, ← toList_madeCells_one]
    exact hown
  clear hown hgrow
  go_wp2
  go_loopw [17] (fun i wr => ∃ k : Nat, k ≤ b.length ∧ i = .int .i64 k ∧ Below w.heap.size w wr ∧ Owns wr w.heap.size 61 .u64 (.slice (some ⟨w.heap.size, 0, none⟩) M M) (partK hi s b k)) (fun i _ => b.length - (intOf i).toNat)
  case atStart => exact ⟨0, Nat.zero_le _, rfl, hb1, hO⟩
  case round =>
    clear hb1 hO
    obtain ⟨k, hk, rfl, hb, hO⟩ := hrel
    by_cases hlt : k < b.length
    · have hq : k / s < M := by
        have h2 := HM.out
        have h3 := HMod.out
        rw [Nat.div_lt_iff_lt_mul (by omega), h2, Nat.mul_comm]
        have := Nat.div_add_mod b.length s
        omega
      have hr : k % s < s := Nat.mod_lt _ (by omega)
      obtain ⟨b1, o1, x, rfl, _, hc1, H1⟩ := (hA.below hb).get hlt
      obtain ⟨q, hqe⟩ : ∃ q, q = k / s := ⟨_, rfl⟩
      obtain ⟨r, hre⟩ : ∃ r, r = k % s := ⟨_, rfl⟩
      rw [← hqe] at hq
      rw [← hre] at hr
      have hqi : (k : Int) / (s : Int) = (q : Int) := by rw [hqe]; simp
      have hri : (k : Int) % (s : Int) = (r : Int) := by rw [hre]; simp
      obtain ⟨y, hy, hyf, H2⟩ := hO.spot (j := q) (by rw [partK_length, ← HM.out]; exact hq)
      have hch : (chunk s b q)[r]? = some x := by
        rw [chunk_at s b q hr, ← H1.out, hqe, hre, Nat.mul_comm]; congr 1; exact Nat.div_add_mod k s
      have hye : y = pval hi s (chunk s b q) r := by
        have h2 := H2.out
        rw [partK_cur hi s b hqe hre (by omega) (by rw [← HM.out]; exact hq)] at h2
        injection h2 with h2
        exact h2.symm
      have hcb := chunk_byt hby s q
      have hxb := hcb.at_ hch
      have hx0 := hxb.1
      have hx1 := hxb.2
      obtain ⟨P, hP⟩ : ∃ P, P = 8 * plc hi r s := ⟨_, rfl⟩
      obtain ⟨z, hz⟩ : ∃ z, z = pval hi s (chunk s b q) (r + 1) := ⟨_, rfl⟩
      have hor := pval_or hi s (chunk s b q) hr hcb hch
      rw [← hye, ← hP, ← hz] at hor
      have hsh := byte_shift_bd hi hr hx0 hx1
      rw [← hP] at hsh
      have hset := partK_set hi s b hqe hre (by omega) (by rw [← HM.out]; exact hq) hz
      have HS := hid hset
      have HP := hid hP
      have hyb := pval_bd hi s (chunk s b q) (r := r) (by omega) hcb
      rw [← hye] at hyb
      have hP1 : (P : Int) ≤ 64 := by unfold plc at hP; split at hP <;> omega
      have hP0 : (0 : Int) ≤ P := by omega
      have h64 := pow_mono2 (a := 8 * s) (b := 64) (by omega)
      have hwx : IntKind.u64.wrap x = x := IntWalk.u64_in _ (by omega)
      have hwz : IntKind.u64.wrap (x * 2 ^ P) = x * 2 ^ P := IntWalk.u64_in _ (by omega)
      have hbo : bits .or .u64 y (x * 2 ^ P) = z := by rw [u64_or _ _ hyb.1 (by omega) hsh.1 (by omega)]; exact hor
      clear hP hor hset hz hye hch hqe hre hxb hsh h64 hyb
      have hpos : (0 : Int) ≤ k := by omega
      have hlt' : (k : Int) < b.length := by omega
      have hwq : IntKind.i64.wrap (q : Int) = (q : Int) := IntWalk.i64_in _ (by omega)
      have hti : (k : Int).tmod (s : Int) = (r : Int) := by rw [Int.tmod_eq_emod_of_nonneg (by omega)]; exact hri
      have hq0 : (0 : Int) ≤ q := by omega
      have hq1 : (q : Int) < M := by omega
      go_wp2
      go_still_tail 16, (by kernel_rfl)
      still_call (shift_any hi r s P _ HP.out hr h8)
      repeat still_step
      refine wpStill_nil ?_
      change wpList _ _ _ _ _ wr.drew
      have hy1 : wr.drew.cell? ⟨w.heap.size, q, none⟩ = some (.int .u64 y) := hy
      have hyf1 : wr.drew.frozen? ⟨w.heap.size, q, none⟩ = false := hyf
      have hb1 : Below w.heap.size w wr.drew := hb.drew
      have hO1 := hO.drew
      clear hO hb hy hyf hc1
      generalize wr.drew = w2 at *
      go_wp2
      go_roundw
      case rel => exact ⟨k + 1, by omega, by go_num, hb1.setCell (Nat.le_refl _) _, by have h := hO1.store q z; rw [HS.out] at h; exact h⟩
      case measure => simp [intOf]; omega
    · go_wp2
      go_ret
      have e : k = b.length := by omega
      subst e
      rw [partK_end] at hO
      have hln : M = (joinB hi s b).length := by rw [joinB_length]; exact HM.out
      refine ⟨some ⟨w.heap.size, 0, none⟩, M, joinB hi s b, ?_, hid rfl, hO.nums, hb⟩
      rw [← hln]
      rfl
end Go.Proofs.YtihipgojeikdkaaDoor
