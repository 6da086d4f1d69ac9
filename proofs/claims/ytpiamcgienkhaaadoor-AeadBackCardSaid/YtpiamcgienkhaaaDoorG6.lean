/- Texts of this proof, laid together: HWJoin, HWords, WSplit32, WJoin32, CWords. -/
import Derived.Test.YtpiamcgienkhaaaDoorHWSplit
import Derived.Test.YtpiamcgienkhaaaDoorArr
/- The join of 64-bit numbers. -/
namespace Go.Proofs.YtpiamcgienkhaaaDoor
open Go.RowKit

set_option maxRecDepth 50000 in
theorem Tryd.info88 : (Tryd.prog.info? 88).map (fun i => (i.zero, i.size, i.bytes)) = some (some (.int .u64 0), 1, 8) := by kernel_rfl

end Go.Proofs.YtpiamcgienkhaaaDoor

/- Lists of words as bytes, and back. -/
namespace Go.Proofs.YtpiamcgienkhaaaDoor
open Go.RowKit
set_option maxRecDepth 50000 in
set_option maxHeartbeats 400000 in
theorem wide_any (A : Option Addr) (c : Nat) (b : List Int) (w : World) (h8 : b.length ≤ 8) (hby : HByt b) (hA : Nums w .u8 A b) :
    Calls Tryd.prog 48 #[.slice A b.length c] w fun e w' => ∃ v, e = .returned (.int .u64 v) ∧ Hid (v = hiv b) ∧ Below w.heap.size w w' := by
  go_enter Tryd.func48, Tryd.ntmps48
  go_wp2
  go_loop [3, 4] (fun v i => ∃ (k : Nat) (n : Int), k ≤ b.length ∧ v = .int .u64 n ∧ Hid (n = hiv (b.take k)) ∧ 0 ≤ n ∧ i = .int .i64 k) (fun _ i => b.length - (intOf i).toNat)
  case atStart => exact ⟨0, 0, by omega, rfl, hid (by simp [hiv]), by omega, rfl⟩
  case round =>
    obtain ⟨k, n, hk, rfl, HN, hn0, rfl⟩ := hrel
    by_cases hlt : k < b.length
    · obtain ⟨b1, o1, x, rfl, _, hc1, H1⟩ := hA.get hlt
      have hx := hby.at_ H1.out
      have hx0 := hx.1
      have hx1 := hx.2
      have hk0 : (0 : Int) ≤ k := by omega
      have hk1 : (k : Int) < b.length := by omega
      have hs : hiv (b.take (k + 1)) = 256 * n + x := by rw [take_succ_at H1.out, hiv_snoc, HN.out]
      have hbd := hiv_bd _ (hby.take (k + 1))
      have hp := pow_mono2 (a := 8 * (b.take (k + 1)).length) (b := 64) (by have := List.length_take_le (k + 1) b; omega)
      have hnb : 256 * n + x < 18446744073709551616 := by omega
      have HS := hid hs
      clear hx hs hbd hp
      go_wp2
      go_round
      case rel => exact ⟨k + 1, 256 * n + x, by omega, rfl, hid HS.out.symm, by omega, by go_num⟩
      case measure => simp [intOf]; omega
    · have e : k = b.length := by omega
      subst e
      rw [List.take_length] at HN
      go_wp2
      go_ret
      exact ⟨n, rfl, HN, Below.refl _ _⟩

/-- What Words32 and Words64 give. -/
def WordsPost (k : IntKind) (hi : Bool) (s : Nat) (b : List Int) (w : World) (e : Ending) (w' : World) : Prop :=
  ∃ B d ys E, e = .returned (.tuple #[.slice B ys.length d, .int .i64 E]) ∧ Hid (ys = if b.length % s = 0 then joinB hi s b else []) ∧ Hid (E = if b.length % s = 0 then 0 else 2) ∧ Nums w' k B ys ∧ Below w.heap.size w w'
end Go.Proofs.YtpiamcgienkhaaaDoor

/- The split of 32-bit numbers. -/
namespace Go.Proofs.YtpiamcgienkhaaaDoor
open Go.RowKit

set_option maxRecDepth 50000 in
set_option maxHeartbeats 400000 in
theorem split32 (hi : Bool) (A : Option Addr) (c s : Nat) (l : List Int) (w : World) (h1 : 1 ≤ s) (h8 : s ≤ 4) (hn : l.length * s ≤ 4096) (hA : Nums w .u32 A l) :
    Calls Tryd.prog 44 #[.slice A l.length c, .int .i64 s, .int .i64 (ordN hi)] w fun e w' => ∃ B d ys, e = .returned (.slice B ys.length d) ∧ Hid (ys = splitB hi s l) ∧ NumsF w.heap.size w' .u8 B ys ∧ Below w.heap.size w w' := by
  obtain ⟨i0, hi0, hz0, hz1, hz2⟩ := info_parts Tryd.info5
  obtain ⟨S, hS⟩ : ∃ S, S = splitB hi s l := ⟨_, rfl⟩
  have hSl : S.length = l.length * s := by rw [hS, splitB_length]
  have HS := hid hS
  have HSl := hid hSl
  have hSb : S.length ≤ 4096 := by omega
  have hi1 : ((l.length * s : Nat) : Int) = (l.length : Int) * (s : Int) := by simp
  have hi2 : 0 ≤ (l.length : Int) * (s : Int) := by omega
  have hi3 : (l.length : Int) * (s : Int) ≤ 4096 := by omega
  have HI := hid hi1
  have hll : l.length ≤ 4096 := Nat.le_trans (Nat.le_mul_of_pos_right _ (by omega)) hn
  clear hS hSl hi1
  go_enter Tryd.func44, Tryd.ntmps44
  go_wp2_with (at_make; refine wpList_make_full _ rfl _ _ 24 rfl w.heap.size 5 i0 _ 1 Tryd.underlying24 hi0 hz0 hz1 .i64 .i64 _ _ S.length rfl rfl ?_ ?_ ?_ ?_ ?_ ?_)
  · rw [HSl.out]; exact HI.out.symm
  · rw [HSl.out]; exact HI.out.symm
  · rw [hz2]; omega
  · unfold maxLen; omega
  · omega
  intro w1 hown hgrow
  have hb1 : Below w.heap.size w w1 := (Below.refl _ _).grown hgrow (Nat.le_refl _) (by simp)
  have hO : Owns w1 w.heap.size 5 .u8 (.slice (some ⟨w.heap.size, 0, none⟩) S.length S.length) (fillK S 0) := by
    rw [fillK_zero]
    unfold Owns
    rw [List.length_replicate, List.map_replicate, ← toList_madeCells_one]
    exact hown
  clear hown hgrow
  go_wp2
  go_loopw [16] (fun i wr => ∃ k : Nat, k ≤ S.length ∧ i = .int .i64 k ∧ Below w.heap.size w wr ∧ Owns wr w.heap.size 5 .u8 (.slice (some ⟨w.heap.size, 0, none⟩) S.length S.length) (fillK S k)) (fun i _ => S.length - (intOf i).toNat)
  case atStart => exact ⟨0, Nat.zero_le _, rfl, hb1, hO⟩
  case round =>
    clear hb1 hO
    obtain ⟨k, hk, rfl, hb, hO⟩ := hrel
    by_cases hlt : k < S.length
    · have hq : k / s < l.length := by
        have := HSl.out
        rw [Nat.div_lt_iff_lt_mul (by omega)]; omega
      have hr : k % s < s := Nat.mod_lt _ (by omega)
      obtain ⟨b1, o1, x, rfl, _, hc1, H1⟩ := (hA.below hb).get hq
      obtain ⟨q, hqe⟩ : ∃ q, q = k / s := ⟨_, rfl⟩
      obtain ⟨r, hre⟩ : ∃ r, r = k % s := ⟨_, rfl⟩
      rw [← hqe] at hq hc1 H1
      rw [← hre] at hr
      have hqi : (k : Int) / (s : Int) = (q : Int) := by rw [hqe]; simp
      have hri : (k : Int) % (s : Int) = (r : Int) := by rw [hre]; simp
      have HQ := hid hqe
      have HR := hid hre
      clear hqe hre
      have hpos : (0 : Int) ≤ k := by omega
      have hlt' : (k : Int) < S.length := by omega
      have hs1 : (1 : Int) ≤ s := by omega
      go_wp2
      have hs0 : ¬ s = 0 := by omega
      have hwq : IntKind.i64.wrap (q : Int) = (q : Int) := IntWalk.i64_in _ (by omega)
      have hti : (k : Int).tmod (s : Int) = (r : Int) := by rw [Int.tmod_eq_emod_of_nonneg (by omega)]; exact hri
      have hwr : IntKind.i64.wrap (r : Int) = (r : Int) := IntWalk.i64_in _ (by omega)
      have hq0 : (0 : Int) ≤ q := by omega
      have hq1 : (q : Int) < l.length := by omega
      obtain ⟨P, hP⟩ : ∃ P, P = 8 * plc hi r s := ⟨_, rfl⟩
      have HP := hid hP
      have hP1 : (P : Int) ≤ 32 := by unfold plc at hP; split at hP <;> omega
      have hP0 : (0 : Int) ≤ P := by omega
      clear hP
      go_still_tail 16, (by kernel_rfl)
      still_call (shift_any hi r s P _ HP.out hr (by omega))
      repeat still_step
      refine wpStill_nil ?_
      obtain ⟨y, hy, hyf, _⟩ := hO.spot (j := k) (by rw [fillK_length]; exact hlt)
      change wpList _ _ _ _ _ wr.drew
      have hy1 : wr.drew.cell? ⟨w.heap.size, k, none⟩ = some (.int .u8 y) := hy
      have hyf1 : wr.drew.frozen? ⟨w.heap.size, k, none⟩ = false := hyf
      have hb1 : Below w.heap.size w wr.drew := hb.drew
      have hO1 := hO.drew
      clear hO hb hy hyf hc1
      generalize wr.drew = w2 at *
      go_wp2
      go_roundw
      case rel =>
        have hsk : S[k]? = some (x / 2 ^ P % 256) := by
          rw [HS.out, splitB_at hi s l (by have := HSl.out; omega), ← HQ.out, ← HR.out, HP.out]
          simp [List.getD, H1.out, dig]
        exact ⟨k + 1, by omega, by go_num, hb1.setCell (Nat.le_refl _) _, by have h := hO1.store k (x / 2 ^ P % 256); rw [fillK_set S hsk] at h; exact h⟩
      case measure => simp [intOf]; omega
    · go_wp2
      go_ret
      have e : k = S.length := by omega
      subst e
      rw [fillK_end] at hO
      exact ⟨_, _, S, rfl, HS, hO.fresh, hb⟩
end Go.Proofs.YtpiamcgienkhaaaDoor

/- The join of 32-bit numbers. -/
namespace Go.Proofs.YtpiamcgienkhaaaDoor
open Go.RowKit

set_option maxRecDepth 50000 in
theorem Tryd.info42 : (Tryd.prog.info? 42).map (fun i => (i.zero, i.size, i.bytes)) = some (some (.int .u32 0), 1, 4) := by kernel_rfl

set_option maxRecDepth 50000 in
set_option maxHeartbeats 400000 in
theorem join32 (hi : Bool) (A : Option Addr) (c s : Nat) (b : List Int) (w : World) (h1 : 1 ≤ s) (h8 : s ≤ 4) (hn : b.length ≤ 4096) (hm : b.length % s = 0) (hby : HByt b) (hA : Nums w .u8 A b) :
    Calls Tryd.prog 60 #[.slice A b.length c, .int .i64 s, .int .i64 (ordN hi)] w fun e w' => ∃ B d ys, e = .returned (.slice B ys.length d) ∧ Hid (ys = joinB hi s b) ∧ NumsF w.heap.size w' .u32 B ys ∧ Below w.heap.size w w' := by
  obtain ⟨i0, hi0, hz0, hz1, hz2⟩ := info_parts Tryd.info42
  obtain ⟨M, hM⟩ : ∃ M, M = b.length / s := ⟨_, rfl⟩
  have HM := hid hM
  have hM1 : M ≤ 4096 := by rw [hM]; exact Nat.le_trans (Nat.div_le_self _ _) hn
  have hMi : (b.length : Int) / (s : Int) = (M : Int) := by rw [hM]; simp
  have HMod := hid hm
  have hs0 : ¬ s = 0 := by omega
  have hs1 : (1 : Int) ≤ s := by omega
  have hwM : IntKind.i64.wrap (M : Int) = (M : Int) := IntWalk.i64_in _ (by omega)
  clear hM hm
  go_enter Tryd.func60, Tryd.ntmps60
  go_wp2_with (at_make; refine wpList_make_full _ rfl _ _ 58 rfl w.heap.size 42 i0 _ 1 Tryd.underlying58 hi0 hz0 hz1 .i64 .i64 _ _ M rfl rfl ?_ ?_ ?_ ?_ ?_ ?_)
  · rfl
  · rfl
  · rw [hz2]; omega
  · unfold maxLen; omega
  · omega
  intro w1 hown hgrow
  have hb1 : Below w.heap.size w w1 := (Below.refl _ _).grown hgrow (Nat.le_refl _) (by simp)
  have hO : Owns w1 w.heap.size 42 .u32 (.slice (some ⟨w.heap.size, 0, none⟩) M M) (partK hi s b 0) := by
    rw [partK_zero, ← HM.out]
    unfold Owns
    rw [List.length_replicate, List.map_replicate, ← toList_madeCells_one]
    exact hown
  clear hown hgrow
  go_wp2
  go_loopw [17] (fun i wr => ∃ k : Nat, k ≤ b.length ∧ i = .int .i64 k ∧ Below w.heap.size w wr ∧ Owns wr w.heap.size 42 .u32 (.slice (some ⟨w.heap.size, 0, none⟩) M M) (partK hi s b k)) (fun i _ => b.length - (intOf i).toNat)
  case atStart => exact ⟨0, Nat.zero_le _, rfl, hb1, hO⟩
  case round =>
    clear hb1 hO
    obtain ⟨k, hk, rfl, hb, hO⟩ := hrel
    by_cases hlt : k < b.length
    · have hq : k / s < M := by
        have h2 := HM.out
        have h3 := HMod.out
        rw [Nat.div_lt_iff_lt_mul (by omega), h2, Nat.mul_comm]
        have := Nat.div_add_mod b.length s
        omega
      have hr : k % s < s := Nat.mod_lt _ (by omega)
      obtain ⟨b1, o1, x, rfl, _, hc1, H1⟩ := (hA.below hb).get hlt
      obtain ⟨q, hqe⟩ : ∃ q, q = k / s := ⟨_, rfl⟩
      obtain ⟨r, hre⟩ : ∃ r, r = k % s := ⟨_, rfl⟩
      rw [← hqe] at hq
      rw [← hre] at hr
      have hqi : (k : Int) / (s : Int) = (q : Int) := by rw [hqe]; simp
      have hri : (k : Int) % (s : Int) = (r : Int) := by rw [hre]; simp
      obtain ⟨y, hy, hyf, H2⟩ := hO.spot (j := q) (by rw [partK_length, ← HM.out]; exact hq)
      have hch : (chunk s b q)[r]? = some x := by
        rw [chunk_at s b q hr, ← H1.out, hqe, hre, Nat.mul_comm]; congr 1; exact Nat.div_add_mod k s
      have hye : y = pval hi s (chunk s b q) r := by
        have h2 := H2.out
        rw [partK_cur hi s b hqe hre (by omega) (by rw [← HM.out]; exact hq)] at h2
        injection h2 with h2
        exact h2.symm
      have hcb := chunk_byt hby s q
      have hxb := hcb.at_ hch
      have hx0 := hxb.1
      have hx1 := hxb.2
      obtain ⟨P, hP⟩ : ∃ P, P = 8 * plc hi r s := ⟨_, rfl⟩
      obtain ⟨z, hz⟩ : ∃ z, z = pval hi s (chunk s b q) (r + 1) := ⟨_, rfl⟩
      have hor := pval_or hi s (chunk s b q) hr hcb hch
      rw [← hye, ← hP, ← hz] at hor
      have hsh := byte_shift_bd hi hr hx0 hx1
      rw [← hP] at hsh
      have hset := partK_set hi s b hqe hre (by omega) (by rw [← HM.out]; exact hq) hz
      have HS := hid hset
      have HP := hid hP
      have hyb := pval_bd hi s (chunk s b q) (r := r) (by omega) hcb
      rw [← hye] at hyb
      have hP1 : (P : Int) ≤ 32 := by unfold plc at hP; split at hP <;> omega
      have hP0 : (0 : Int) ≤ P := by omega
      have h64 := pow_mono2 (a := 8 * s) (b := 32) (by omega)
      have hwx : IntKind.u32.wrap x = x := IntWalk.u32_in _ (by omega)
      have hwz : IntKind.u32.wrap (x * 2 ^ P) = x * 2 ^ P := IntWalk.u32_in _ (by omega)
      have hbo : bits .or .u32 y (x * 2 ^ P) = z := by rw [u32_or _ _ hyb.1 (by omega) hsh.1 (by omega)]; exact hor
      clear hP hor hset hz hye hch hqe hre hxb hsh h64 hyb
      have hpos : (0 : Int) ≤ k := by omega
      have hlt' : (k : Int) < b.length := by omega
      have hwq : IntKind.i64.wrap (q : Int) = (q : Int) := IntWalk.i64_in _ (by omega)
      have hti : (k : Int).tmod (s : Int) = (r : Int) := by rw [Int.tmod_eq_emod_of_nonneg (by omega)]; exact hri
      have hq0 : (0 : Int) ≤ q := by omega
      have hq1 : (q : Int) < M := by omega
      go_wp2
      go_still_tail 16, (by kernel_rfl)
      still_call (shift_any hi r s P _ HP.out hr (by omega))
      repeat still_step
      refine wpStill_nil ?_
      change wpList _ _ _ _ _ wr.drew
      have hy1 : wr.drew.cell? ⟨w.heap.size, q, none⟩ = some (.int .u32 y) := hy
      have hyf1 : wr.drew.frozen? ⟨w.heap.size, q, none⟩ = false := hyf
      have hb1 : Below w.heap.size w wr.drew := hb.drew
      have hO1 := hO.drew
      clear hO hb hy hyf hc1
      generalize wr.drew = w2 at *
      go_wp2
      go_roundw
      case rel => exact ⟨k + 1, by omega, by go_num, hb1.setCell (Nat.le_refl _) _, by have h := hO1.store q z; rw [HS.out] at h; exact h⟩
      case measure => simp [intOf]; omega
    · go_wp2
      go_ret
      have e : k = b.length := by omega
      subst e
      rw [partK_end] at hO
      have hln : M = (joinB hi s b).length := by rw [joinB_length]; exact HM.out
      refine ⟨some ⟨w.heap.size, 0, none⟩, M, joinB hi s b, ?_, hid rfl, hO.fresh, hb⟩
      rw [← hln]
      rfl
end Go.Proofs.YtpiamcgienkhaaaDoor

/- Lists of 32-bit words as bytes, and back. -/
namespace Go.Proofs.YtpiamcgienkhaaaDoor
open Go.RowKit

set_option maxRecDepth 50000 in
set_option maxHeartbeats 400000 in
theorem words32_any (A : Option Addr) (c n : Nat) (b : List Int) (w : World) (hn : b.length ≤ 4096) (hq : b.length = 4 * n) (hby : HByt b) (hA : Nums w .u8 A b) :
    Calls Tryd.prog 54 #[.slice A b.length c, .int .i64 4, .int .i64 1] w fun e w' => ∃ B d ys, e = .returned (.tuple #[.slice B ys.length d, .int .i64 0]) ∧ Hid (ys = joinB false 4 b) ∧ NumsF w.heap.size w' .u32 B ys ∧ Below w.heap.size w w' := by
  have hmi : (b.length : Int) % 4 = 0 := by omega
  have HQ := hid hq
  clear hq
  go_enter Tryd.func54, Tryd.ntmps54
  go_wp2_with (go_at_call 60; refine (join32 false A c 4 b _ (by omega) (by omega) hn (by have := HQ.out; omega) hby hA).mono ?_; rintro e w' ⟨B, d, ys, rfl, HY, hN, hb⟩)
  go_ret2
  exact ⟨B, d, ys, rfl, HY, hN, hb⟩
set_option maxRecDepth 50000 in
theorem wWords32 (A : Option Addr) (c n m : Nat) (b : List Int) (w : World) (hl : b.length = m) (hn : m ≤ 4096) (hq : m = 4 * n) (hby : HByt b) (hA : Nums w .u8 A b) :
    Calls Tryd.prog 42 #[.slice A m c] w fun e w' => ∃ B d ys, e = .returned (.tuple #[.slice B n d, .int .i64 0]) ∧ Hid (ys = joinB false 4 b) ∧ Hid (ys.length = n) ∧ NumsF w.heap.size w' .u32 B ys ∧ Below w.heap.size w w' := by
  subst hl
  have HQ := hid hq
  clear hq
  go_enter Tryd.func42, Tryd.ntmps42
  go_wp2_with (go_at_call 54; refine (words32_any A c n b _ hn HQ.out hby hA).mono ?_; rintro e w' ⟨B, d, ys, rfl, HY, hN, hb⟩)
  go_ret2
  have e : ys.length = n := by rw [HY.out, joinB_length]; have := HQ.out; omega
  exact ⟨B, d, ys, by rw [← e]; rfl, HY, hid e, hN, hb⟩
set_option maxRecDepth 50000 in
theorem wBytes32 (A : Option Addr) (c n : Nat) (l : List Int) (w : World) (hl : l.length = n) (hn : n ≤ 500) (hA : Nums w .u32 A l) :
    Calls Tryd.prog 28 #[.slice A n c] w fun e w' => ∃ B d ys, e = .returned (.slice B (4 * n) d) ∧ Hid (ys = splitB false 4 l) ∧ Hid (ys.length = 4 * n) ∧ NumsF w.heap.size w' .u8 B ys ∧ Below w.heap.size w w' := by
  subst hl
  go_enter Tryd.func28, Tryd.ntmps28
  go_wp2_with (go_at_call 44; refine (split32 false A c 4 l _ (by omega) (by omega) (by omega) hA).mono ?_; rintro e w' ⟨B, d, ys, rfl, HY, hN, hb⟩)
  go_ret
  have e : ys.length = 4 * l.length := by rw [HY.out, splitB_length]; omega
  exact ⟨B, d, ys, by rw [← e]; rfl, HY, hid e, hN, hb⟩
set_option maxRecDepth 50000 in
theorem wBytes16 (A : Option Addr) (c : Nat) (l : List Int) (w : World) (hl : l.length = 16) (hA : Nums w .u32 A l) :
    Calls Tryd.prog 28 #[.slice A 16 c] w fun e w' => ∃ g f d ys, e = .returned (.slice (some ⟨g, f, none⟩) 64 d) ∧ Hid (ys = splitB false 4 l) ∧ Hid (ys.length = 64) ∧ w'.rangeAt g f (ints .u8 ys) ∧ Below w.heap.size w w' :=
  (wBytes32 A c 16 l w hl (by omega) hA).mono fun e w' ⟨B, d, ys, he, hY, hL, hN, hb⟩ => by
    obtain ⟨g, f, hB, _, _, hc⟩ := hN (by rw [hL.out]; omega)
    refine ⟨g, f, d, ys, by rw [he, hB], hY, hL, fun j v hv => ?_, hb⟩
    simp only [ints, List.getElem?_map, Option.map_eq_some_iff] at hv
    obtain ⟨x, hx, rfl⟩ := hv
    rw [hc j (List.getElem?_eq_some_iff.1 hx).1, List.getD_eq_getElem?_getD, hx]; rfl
end Go.Proofs.YtpiamcgienkhaaaDoor
