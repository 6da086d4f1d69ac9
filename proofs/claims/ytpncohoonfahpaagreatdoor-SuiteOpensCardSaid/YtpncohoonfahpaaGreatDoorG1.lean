/- Texts of this proof, laid together: HWSplit, HWJoin. -/
import Derived.Test.YtpncohoonfahpaaGreatDoorRows
import Derived.Test.YtpncohoonfahpaaGreatDoorBase
import Derived.Test.YtpncohoonfahpaaGreatDoorHMath
import Derived.BigQuiet
import Derived.Deep.QuietTactic
import Derived.StillTailTactics
/- The shift and the split of layer 1. -/
namespace Go.Proofs.YtpncohoonfahpaaGreatDoor
open Go.RowKit

def ordN (hi : Bool) : Int := if hi then 0 else 1

set_option maxRecDepth 50000 in
theorem shift_any (hi : Bool) (p s P : Nat) (w : World) (hP : P = 8 * plc hi p s) (hp : p < s) (hs : s ≤ 8) :
    Calls Tryz.prog 229 #[.int .i64 p, .int .i64 s, .int .i64 (ordN hi)] w fun e w' => e = .returned (.int .i64 P) ∧ w' = w := by
  subst hP
  cases hi
  · simp only [ordN, plc]
    go_enter Tryz.func229, Tryz.ntmps229
    go_wp2
    go_ret
    exact ⟨by simp, rfl⟩
  · simp only [ordN, plc]
    have e : ((8 * (s - 1 - p) : Nat) : Int) = 8 * ((s : Int) - 1 - (p : Int)) := by omega
    simp only [if_true, e]
    clear e
    go_enter Tryz.func229, Tryz.ntmps229
    go_wp2
    go_ret
    exact ⟨rfl, rfl⟩

set_option maxRecDepth 50000 in
theorem Tryz.info5 : (Tryz.prog.info? 5).map (fun i => (i.zero, i.size, i.bytes)) = some (some (.int .u8 0), 1, 1) := by kernel_rfl

set_option maxRecDepth 50000 in
set_option maxHeartbeats 400000 in
theorem split64 (hi : Bool) (A : Option Addr) (c s : Nat) (l : List Int) (w : World) (h1 : 1 ≤ s) (h8 : s ≤ 8) (hn : l.length * s ≤ 4096) (hA : Nums w .u64 A l) :
    Calls Tryz.prog 202 #[.slice A l.length c, .int .i64 s, .int .i64 (ordN hi)] w fun e w' => ∃ B d ys, e = .returned (.slice B ys.length d) ∧ Hid (ys = splitB hi s l) ∧ NumsF w.heap.size w' .u8 B ys ∧ Below w.heap.size w w' := by
  obtain ⟨i0, hi0, hz0, hz1, hz2⟩ := info_parts Tryz.info5
  obtain ⟨S, hS⟩ : ∃ S, S = splitB hi s l := ⟨_, rfl⟩
  have hSl : S.length = l.length * s := by rw [hS, splitB_length]
  have HS := hid hS
  have HSl := hid hSl
  have hSb : S.length ≤ 4096 := by omega
  have hi1 : ((l.length * s : Nat) : Int) = (l.length : Int) * (s : Int) := by simp
  have hi2 : 0 ≤ (l.length : Int) * (s : Int) := by omega
  have hi3 : (l.length : Int) * (s : Int) ≤ 4096 := by omega
  have HI := hid hi1
  have hll : l.length ≤ 4096 := Nat.le_trans (Nat.le_mul_of_pos_right _ (by omega)) hn
  clear hS hSl hi1
  go_enter Tryz.func202, Tryz.ntmps202
  go_wp2_with (at_make; refine wpList_make_full _ rfl _ _ 23 rfl w.heap.size 5 i0 _ 1 Tryz.underlying23 hi0 hz0 hz1 .i64 .i64 _ _ S.length rfl rfl ?_ ?_ ?_ ?_ ?_ ?_)
  · rw [HSl.out]; exact HI.out.symm
  · rw [HSl.out]; exact HI.out.symm
  · rw [hz2]; omega
  · unfold maxLen; omega
  · omega
  intro w1 hown hgrow
  have hb1 : Below w.heap.size w w1 := (Below.refl _ _).grown hgrow (Nat.le_refl _) (by simp)
  have hO : Owns w1 w.heap.size 5 .u8 (.slice (some ⟨w.heap.size, 0, none⟩) S.length S.length) (fillK S 0) := by
    rw [fillK_zero]
    unfold Owns
    rw [List.length_replicate, List.map_replicate, ← toList_madeCells_one]
    exact hown
  clear hown hgrow
  go_wp2
  go_loopw [16] (fun i wr => ∃ k : Nat, k ≤ S.length ∧ i = .int .i64 k ∧ Below w.heap.size w wr ∧ Owns wr w.heap.size 5 .u8 (.slice (some ⟨w.heap.size, 0, none⟩) S.length S.length) (fillK S k)) (fun i _ => S.length - (intOf i).toNat)
  case atStart => exact ⟨0, Nat.zero_le _, rfl, hb1, hO⟩
  case round =>
    clear hb1 hO
    obtain ⟨k, hk, rfl, hb, hO⟩ := hrel
    by_cases hlt : k < S.length
    · have hq : k / s < l.length := by
        have := HSl.out
        rw [Nat.div_lt_iff_lt_mul (by omega)]; omega
      have hr : k % s < s := Nat.mod_lt _ (by omega)
      obtain ⟨b1, o1, x, rfl, _, hc1, H1⟩ := (hA.below hb).get hq
      obtain ⟨q, hqe⟩ : ∃ q, q = k / s := ⟨_, rfl⟩
      obtain ⟨r, hre⟩ : ∃ r, r = k % s := ⟨_, rfl⟩
      rw [← hqe] at hq hc1 H1
      rw [← hre] at hr
      have hqi : (k : Int) / (s : Int) = (q : Int) := by rw [hqe]; simp
      have hri : (k : Int) % (s : Int) = (r : Int) := by rw [hre]; simp
      have HQ := hid hqe
      have HR := hid hre
      clear hqe hre
      have hpos : (0 : Int) ≤ k := by omega
      have hlt' : (k : Int) < S.length := by omega
      have hs1 : (1 : Int) ≤ s := by omega
      go_wp2
      have hs0 : ¬ s = 0 := by omega
      have hwq : IntKind.i64.wrap (q : Int) = (q : Int) := IntWalk.i64_in _ (by omega)
      have hti : (k : Int).tmod (s : Int) = (r : Int) := by rw [Int.tmod_eq_emod_of_nonneg (by omega)]; exact hri
      have hwr : IntKind.i64.wrap (r : Int) = (r : Int) := IntWalk.i64_in _ (by omega)
      have hq0 : (0 : Int) ≤ q := by omega
      have hq1 : (q : Int) < l.length := by omega
      obtain ⟨P, hP⟩ : ∃ P, P = 8 * plc hi r s := ⟨_, rfl⟩
      have HP := hid hP
      have hP1 : (P : Int) ≤ 64 := by unfold plc at hP; split at hP <;> omega
      have hP0 : (0 : Int) ≤ P := by omega
      clear hP
      go_still_tail 16, (by kernel_rfl)
      still_call (shift_any hi r s P _ HP.out hr h8)
      repeat still_step
      refine wpStill_nil ?_
      obtain ⟨y, hy, hyf, _⟩ := hO.spot (j := k) (by rw [fillK_length]; exact hlt)
      change wpList _ _ _ _ _ wr.drew
      have hy1 : wr.drew.cell? ⟨w.heap.size, k, none⟩ = some (.int .u8 y) := hy
      have hyf1 : wr.drew.frozen? ⟨w.heap.size, k, none⟩ = false := hyf
      have hb1 : Below w.heap.size w wr.drew := hb.drew
      have hO1 := hO.drew
      clear hO hb hy hyf hc1
      generalize wr.drew = w2 at *
      go_wp2
      go_roundw
      case rel =>
        have hsk : S[k]? = some (x / 2 ^ P % 256) := by
          rw [HS.out, splitB_at hi s l (by have := HSl.out; omega), ← HQ.out, ← HR.out, HP.out]
          simp [List.getD, H1.out, dig]
        exact ⟨k + 1, by omega, by go_num, hb1.setCell (Nat.le_refl _) _, by have h := hO1.store k (x / 2 ^ P % 256); rw [fillK_set S hsk] at h; exact h⟩
      case measure => simp [intOf]; omega
    · go_wp2
      go_ret
      have e : k = S.length := by omega
      subst e
      rw [fillK_end] at hO
      exact ⟨_, _, S, rfl, HS, hO.fresh, hb⟩
end Go.Proofs.YtpncohoonfahpaaGreatDoor

/- The join of 64-bit numbers. -/
namespace Go.Proofs.YtpncohoonfahpaaGreatDoor
open Go.RowKit

set_option maxRecDepth 50000 in
theorem Tryz.info89 : (Tryz.prog.info? 89).map (fun i => (i.zero, i.size, i.bytes)) = some (some (.int .u64 0), 1, 8) := by kernel_rfl

set_option maxRecDepth 50000 in
set_option maxHeartbeats 400000 in
theorem join64 (hi : Bool) (A : Option Addr) (c s : Nat) (b : List Int) (w : World) (h1 : 1 ≤ s) (h8 : s ≤ 8) (hn : b.length ≤ 4096) (hm : b.length % s = 0) (hby : HByt b) (hA : Nums w .u8 A b) :
    Calls Tryz.prog 200 #[.slice A b.length c, .int .i64 s, .int .i64 (ordN hi)] w fun e w' => ∃ B d ys, e = .returned (.slice B ys.length d) ∧ Hid (ys = joinB hi s b) ∧ Nums w' .u64 B ys ∧ Below w.heap.size w w' := by
  obtain ⟨i0, hi0, hz0, hz1, hz2⟩ := info_parts Tryz.info89
  obtain ⟨M, hM⟩ : ∃ M, M = b.length / s := ⟨_, rfl⟩
  have HM := hid hM
  have hM1 : M ≤ 4096 := by rw [hM]; exact Nat.le_trans (Nat.div_le_self _ _) hn
  have hMi : (b.length : Int) / (s : Int) = (M : Int) := by rw [hM]; simp
  have HMod := hid hm
  have hs0 : ¬ s = 0 := by omega
  have hs1 : (1 : Int) ≤ s := by omega
  have hwM : IntKind.i64.wrap (M : Int) = (M : Int) := IntWalk.i64_in _ (by omega)
  clear hM hm
  go_enter Tryz.func200, Tryz.ntmps200
  go_wp2_with (at_make; refine wpList_make_full _ rfl _ _ 86 rfl w.heap.size 89 i0 _ 1 Tryz.underlying86 hi0 hz0 hz1 .i64 .i64 _ _ M rfl rfl ?_ ?_ ?_ ?_ ?_ ?_)
  · rfl
  · rfl
  · rw [hz2]; omega
  · unfold maxLen; omega
  · omega
  intro w1 hown hgrow
  have hb1 : Below w.heap.size w w1 := (Below.refl _ _).grown hgrow (Nat.le_refl _) (by simp)
  have hO : Owns w1 w.heap.size 89 .u64 (.slice (some ⟨w.heap.size, 0, none⟩) M M) (partK hi s b 0) := by
    rw [partK_zero, ← HM.out]
    unfold Owns
    rw [List.length_replicate, List.map_replicate, ← toList_madeCells_one]
    exact hown
  clear hown hgrow
  go_wp2
  go_loopw [17] (fun i wr => ∃ k : Nat, k ≤ b.length ∧ i = .int .i64 k ∧ Below w.heap.size w wr ∧ Owns wr w.heap.size 89 .u64 (.slice (some ⟨w.heap.size, 0, none⟩) M M) (partK hi s b k)) (fun i _ => b.length - (intOf i).toNat)
  case atStart => exact ⟨0, Nat.zero_le _, rfl, hb1, hO⟩
  case round =>
    clear hb1 hO
    obtain ⟨k, hk, rfl, hb, hO⟩ := hrel
    by_cases hlt : k < b.length
    · have hq : k / s < M := by
        have h2 := HM.out
        have h3 := HMod.out
        rw [Nat.div_lt_iff_lt_mul (by omega), h2, Nat.mul_comm]
        have := Nat.div_add_mod b.length s
        omega
      have hr : k % s < s := Nat.mod_lt _ (by omega)
      obtain ⟨b1, o1, x, rfl, _, hc1, H1⟩ := (hA.below hb).get hlt
      obtain ⟨q, hqe⟩ : ∃ q, q = k / s := ⟨_, rfl⟩
      obtain ⟨r, hre⟩ : ∃ r, r = k % s := ⟨_, rfl⟩
      rw [← hqe] at hq
      rw [← hre] at hr
      have hqi : (k : Int) / (s : Int) = (q : Int) := by rw [hqe]; simp
      have hri : (k : Int) % (s : Int) = (r : Int) := by rw [hre]; simp
      obtain ⟨y, hy, hyf, H2⟩ := hO.spot (j := q) (by rw [partK_length, ← HM.out]; exact hq)
      have hch : (chunk s b q)[r]? = some x := by
        rw [chunk_at s b q hr, ← H1.out, hqe, hre, Nat.mul_comm]; congr 1; exact Nat.div_add_mod k s
      have hye : y = pval hi s (chunk s b q) r := by
        have h2 := H2.out
        rw [partK_cur hi s b hqe hre (by omega) (by rw [← HM.out]; exact hq)] at h2
        injection h2 with h2
        exact h2.symm
      have hcb := chunk_byt hby s q
      have hxb := hcb.at_ hch
      have hx0 := hxb.1
      have hx1 := hxb.2
      obtain ⟨P, hP⟩ : ∃ P, P = 8 * plc hi r s := ⟨_, rfl⟩
      obtain ⟨z, hz⟩ : ∃ z, z = pval hi s (chunk s b q) (r + 1) := ⟨_, rfl⟩
      have hor := pval_or hi s (chunk s b q) hr hcb hch
      rw [← hye, ← hP, ← hz] at hor
      have hsh := byte_shift_bd hi hr hx0 hx1
      rw [← hP] at hsh
      have hset := partK_set hi s b hqe hre (by omega) (by rw [← HM.out]; exact hq) hz
      have HS := hid hset
      have HP := hid hP
      have hyb := pval_bd hi s (chunk s b q) (r := r) (by omega) hcb
      rw [← hye] at hyb
      have hP1 : (P : Int) ≤ 64 := by unfold plc at hP; split at hP <;> omega
      have hP0 : (0 : Int) ≤ P := by omega
      have h64 := pow_mono2 (a := 8 * s) (b := 64) (by omega)
      have hwx : IntKind.u64.wrap x = x := IntWalk.u64_in _ (by omega)
      have hwz : IntKind.u64.wrap (x * 2 ^ P) = x * 2 ^ P := IntWalk.u64_in _ (by omega)
      have hbo : bits .or .u64 y (x * 2 ^ P) = z := by rw [u64_or _ _ hyb.1 (by omega) hsh.1 (by omega)]; exact hor
      clear hP hor hset hz hye hch hqe hre hxb hsh h64 hyb
      have hpos : (0 : Int) ≤ k := by omega
      have hlt' : (k : Int) < b.length := by omega
      have hwq : IntKind.i64.wrap (q : Int) = (q : Int) := IntWalk.i64_in _ (by omega)
      have hti : (k : Int).tmod (s : Int) = (r : Int) := by rw [Int.tmod_eq_emod_of_nonneg (by omega)]; exact hri
      have hq0 : (0 : Int) ≤ q := by omega
      have hq1 : (q : Int) < M := by omega
      go_wp2
      go_still_tail 16, (by kernel_rfl)
      still_call (shift_any hi r s P _ HP.out hr h8)
      repeat still_step
      refine wpStill_nil ?_
      change wpList _ _ _ _ _ wr.drew
      have hy1 : wr.drew.cell? ⟨w.heap.size, q, none⟩ = some (.int .u64 y) := hy
      have hyf1 : wr.drew.frozen? ⟨w.heap.size, q, none⟩ = false := hyf
      have hb1 : Below w.heap.size w wr.drew := hb.drew
      have hO1 := hO.drew
      clear hO hb hy hyf hc1
      generalize wr.drew = w2 at *
      go_wp2
      go_roundw
      case rel => exact ⟨k + 1, by omega, by go_num, hb1.setCell (Nat.le_refl _) _, by have h := hO1.store q z; rw [HS.out] at h; exact h⟩
      case measure => simp [intOf]; omega
    · go_wp2
      go_ret
      have e : k = b.length := by omega
      subst e
      rw [partK_end] at hO
      have hln : M = (joinB hi s b).length := by rw [joinB_length]; exact HM.out
      refine ⟨some ⟨w.heap.size, 0, none⟩, M, joinB hi s b, ?_, hid rfl, hO.nums, hb⟩
      rw [← hln]
      rfl
end Go.Proofs.YtpncohoonfahpaaGreatDoor
