/- Texts of this proof, laid together: HWSplit, HWJoin, HWords, HSched. -/
import Derived.Test.YtkblmdakejmmhaaDoorRows
import Derived.Test.YtkblmdakejmmhaaDoorG1
import Derived.Test.YtkblmdakejmmhaaDoorG13
import Derived.BigQuiet
import Derived.Deep.QuietTactic
import Derived.StillTailTactics
import Derived.Laws.IdiomCopy
/- The shift and the split of layer 1. -/
namespace Go.Proofs.YtkblmdakejmmhaaDoor
open Go.RowKit

def ordN (hi : Bool) : Int := if hi then 0 else 1

set_option maxRecDepth 50000 in
theorem shift_any (hi : Bool) (p s P : Nat) (w : World) (hP : P = 8 * plc hi p s) (hp : p < s) (hs : s ≤ 8) :
    Calls Tryd.prog 78 #[.int .i64 p, .int .i64 s, .int .i64 (ordN hi)] w fun e w' => e = .returned (.int .i64 P) ∧ w' = w := by
  subst hP
  cases hi
  · simp only [ordN, plc]
    go_enter Tryd.func78, Tryd.ntmps78
    go_wp2
    go_ret
    exact ⟨by simp, rfl⟩
  · simp only [ordN, plc]
    have e : ((8 * (s - 1 - p) : Nat) : Int) = 8 * ((s : Int) - 1 - (p : Int)) := by omega
    simp only [if_true, e]
    clear e
    go_enter Tryd.func78, Tryd.ntmps78
    go_wp2
    go_ret
    exact ⟨rfl, rfl⟩

set_option maxRecDepth 50000 in
theorem Tryd.info5 : (Tryd.prog.info? 5).map (fun i => (i.zero, i.size, i.bytes)) = some (some (.int .u8 0), 1, 1) := by kernel_rfl

set_option maxRecDepth 50000 in
set_option maxHeartbeats 400000 in
theorem split64 (hi : Bool) (A : Option Addr) (c s : Nat) (l : List Int) (w : World) (h1 : 1 ≤ s) (h8 : s ≤ 8) (hn : l.length * s ≤ 4096) (hA : Nums w .u64 A l) :
    Calls Tryd.prog 74 #[.slice A l.length c, .int .i64 s, .int .i64 (ordN hi)] w fun e w' => ∃ B d ys, e = .returned (.slice B ys.length d) ∧ Hid (ys = splitB hi s l) ∧ NumsF w.heap.size w' .u8 B ys ∧ Below w.heap.size w w' := by
  obtain ⟨i0, hi0, hz0, hz1, hz2⟩ := info_parts Tryd.info5
  obtain ⟨S, hS⟩ : ∃ S, S = splitB hi s l := ⟨_, rfl⟩
  have hSl : S.length = l.length * s := by rw [hS, splitB_length]
  have HS := hid hS
  have HSl := hid hSl
  have hSb : S.length ≤ 4096 := by omega
  have hi1 : ((l.length * s : Nat) : Int) = (l.length : Int) * (s : Int) := by simp
  have hi2 : 0 ≤ (l.length : Int) * (s : Int) := by omega
  have hi3 : (l.length : Int) * (s : Int) ≤ 4096 := by omega
  have HI := hid hi1
  have hll : l.length ≤ 4096 := Nat.le_trans (Nat.le_mul_of_pos_right _ (by omega)) hn
  clear hS hSl hi1
  go_enter Tryd.func74, Tryd.ntmps74
  go_wp2_with (at_make; refine wpList_make_full _ rfl _ _ 23 rfl w.heap.size 5 i0 _ 1 Tryd.underlying23 hi0 hz0 hz1 .i64 .i64 _ _ S.length rfl rfl ?_ ?_ ?_ ?_ ?_ ?_)
  · rw [HSl.out]; exact HI.out.symm
  · rw [HSl.out]; exact HI.out.symm
  · rw [hz2]; omega
  · unfold maxLen; omega
  · omega
  intro w1 hown hgrow
  have hb1 : Below w.heap.size w w1 := (Below.refl _ _).grown hgrow (Nat.le_refl _) (by simp)
  have hO : Owns w1 w.heap.size 5 .u8 (.slice (some ⟨w.heap.size, 0, none⟩) S.length S.length) (fillK S 0) := by
    rw [fillK_zero]
    unfold Owns
    rw [List.length_replicate, List.map_replicate, ← toList_madeCells_one]
    exact hown
  clear hown hgrow
  go_wp2
  go_loopw [16] (fun i wr => ∃ k : Nat, k ≤ S.length ∧ i = .int .i64 k ∧ Below w.heap.size w wr ∧ Owns wr w.heap.size 5 .u8 (.slice (some ⟨w.heap.size, 0, none⟩) S.length S.length) (fillK S k)) (fun i _ => S.length - (intOf i).toNat)
  case atStart => exact ⟨0, Nat.zero_le _, rfl, hb1, hO⟩
  case round =>
    clear hb1 hO
    obtain ⟨k, hk, rfl, hb, hO⟩ := hrel
    by_cases hlt : k < S.length
    · have hq : k / s < l.length := by
        have := HSl.out
        rw [Nat.div_lt_iff_lt_mul (by omega)]; omega
      have hr : k % s < s := Nat.mod_lt _ (by omega)
      obtain ⟨b1, o1, x, rfl, _, hc1, H1⟩ := (hA.below hb).get hq
      obtain ⟨q, hqe⟩ : ∃ q, q = k / s := ⟨_, rfl⟩
      obtain ⟨r, hre⟩ : ∃ r, r = k % s := ⟨_, rfl⟩
      rw [← hqe] at hq hc1 H1
      rw [← hre] at hr
      have hqi : (k : Int) / (s : Int) = (q : Int) := by rw [hqe]; simp
      have hri : (k : Int) % (s : Int) = (r : Int) := by rw [hre]; simp
      have HQ := hid hqe
      have HR := hid hre
      clear hqe hre
      have hpos : (0 : Int) ≤ k := by omega
      have hlt' : (k : Int) < S.length := by omega
      have hs1 : (1 : Int) ≤ s := by omega
      go_wp2
      have hs0 : ¬ s = 0 := by omega
      have hwq : IntKind.i64.wrap (q : Int) = (q : Int) := IntWalk.i64_in _ (by omega)
      have hti : (k : Int).tmod (s : Int) = (r : Int) := by rw [Int.tmod_eq_emod_of_nonneg (by omega)]; exact hri
      have hwr : IntKind.i64.wrap (r : Int) = (r : Int) := IntWalk.i64_in _ (by omega)
      have hq0 : (0 : Int) ≤ q := by omega
      have hq1 : (q : Int) < l.length := by omega
      obtain ⟨P, hP⟩ : ∃ P, P = 8 * plc hi r s := ⟨_, rfl⟩
      have HP := hid hP
      have hP1 : (P : Int) ≤ 64 := by unfold plc at hP; split at hP <;> omega
      have hP0 : (0 : Int) ≤ P := by omega
      clear hP
      go_still_tail 16, (by kernel_rfl)
      still_call (shift_any hi r s P _ HP.out hr h8)
      repeat still_step
      refine wpStill_nil ?_
      obtain ⟨y, hy, hyf, _⟩ := hO.spot (j := k) (by rw [fillK_length]; exact hlt)
      change wpList _ _ _ _ _ wr.drew
      have hy1 : wr.drew.cell? ⟨w.heap.size, k, none⟩ = some (.int .u8 y) := hy
      have hyf1 : wr.drew.frozen? ⟨w.heap.size, k, none⟩ = false := hyf
      have hb1 : Below w.heap.size w wr.drew := hb.drew
      have hO1 := hO.drew
      clear hO hb hy hyf hc1
      generalize wr.drew = w2 at *
      go_wp2
      go_roundw
      case rel =>
        have hsk : S[k]? = some (x / 2 ^ P % 256) := by
          rw [HS.out, splitB_at hi s l (by have := HSl.out; omega), ← HQ.out, ← HR.out, HP.out]
          simp [List.getD, H1.out, dig]
        exact ⟨k + 1, by omega, by go_num, hb1.setCell (Nat.le_refl _) _, by have h := hO1.store k (x / 2 ^ P % 256); rw [fillK_set S hsk] at h; exact h⟩
      case measure => simp [intOf]; omega
    · go_wp2
      go_ret
      have e : k = S.length := by omega
      subst e
      rw [fillK_end] at hO
      exact ⟨_, _, S, rfl, HS, hO.fresh, hb⟩
end Go.Proofs.YtkblmdakejmmhaaDoor

/- The join of 64-bit numbers. -/
namespace Go.Proofs.YtkblmdakejmmhaaDoor
open Go.RowKit

set_option maxRecDepth 50000 in
theorem Tryd.info103 : (Tryd.prog.info? 103).map (fun i => (i.zero, i.size, i.bytes)) = some (some (.int .u64 0), 1, 8) := by kernel_rfl

set_option maxRecDepth 50000 in
set_option maxHeartbeats 400000 in
theorem join64 (hi : Bool) (A : Option Addr) (c s : Nat) (b : List Int) (w : World) (h1 : 1 ≤ s) (h8 : s ≤ 8) (hn : b.length ≤ 4096) (hm : b.length % s = 0) (hby : HByt b) (hA : Nums w .u8 A b) :
    Calls Tryd.prog 88 #[.slice A b.length c, .int .i64 s, .int .i64 (ordN hi)] w fun e w' => ∃ B d ys, e = .returned (.slice B ys.length d) ∧ Hid (ys = joinB hi s b) ∧ Nums w' .u64 B ys ∧ Below w.heap.size w w' := by
  obtain ⟨i0, hi0, hz0, hz1, hz2⟩ := info_parts Tryd.info103
  obtain ⟨M, hM⟩ : ∃ M, M = b.length / s := ⟨_, rfl⟩
  have HM := hid hM
  have hM1 : M ≤ 4096 := by rw [hM]; exact Nat.le_trans (Nat.div_le_self _ _) hn
  have hMi : (b.length : Int) / (s : Int) = (M : Int) := by rw [hM]; simp
  have HMod := hid hm
  have hs0 : ¬ s = 0 := by omega
  have hs1 : (1 : Int) ≤ s := by omega
  have hwM : IntKind.i64.wrap (M : Int) = (M : Int) := IntWalk.i64_in _ (by omega)
  clear hM hm
  go_enter Tryd.func88, Tryd.ntmps88
  go_wp2_with (at_make; refine wpList_make_full _ rfl _ _ 109 rfl w.heap.size 103 i0 _ 1 Tryd.underlying109 hi0 hz0 hz1 .i64 .i64 _ _ M rfl rfl ?_ ?_ ?_ ?_ ?_ ?_)
  · rfl
  · rfl
  · rw [hz2]; omega
  · unfold maxLen; omega
  · omega
  intro w1 hown hgrow
  have hb1 : Below w.heap.size w w1 := (Below.refl _ _).grown hgrow (Nat.le_refl _) (by simp)
  have hO : Owns w1 w.heap.size 103 .u64 (.slice (some ⟨w.heap.size, 0, none⟩) M M) (partK hi s b 0) := by
    rw [partK_zero, ← HM.out]
    unfold Owns
    rw [List.length_replicate, List.map_replicate, ← toList_madeCells_one]
    exact hown
  clear hown hgrow
  go_wp2
  go_loopw [17] (fun i wr => ∃ k : Nat, k ≤ b.length ∧ i = .int .i64 k ∧ Below w.heap.size w wr ∧ Owns wr w.heap.size 103 .u64 (.slice (some ⟨w.heap.size, 0, none⟩) M M) (partK hi s b k)) (fun i _ => b.length - (intOf i).toNat)
  case atStart => exact ⟨0, Nat.zero_le _, rfl, hb1, hO⟩
  case round =>
    clear hb1 hO
    obtain ⟨k, hk, rfl, hb, hO⟩ := hrel
    by_cases hlt : k < b.length
    · have hq : k / s < M := by
        have h2 := HM.out
        have h3 := HMod.out
        rw [Nat.div_lt_iff_lt_mul (by omega), h2, Nat.mul_comm]
        have := Nat.div_add_mod b.length s
        omega
      have hr : k % s < s := Nat.mod_lt _ (by omega)
      obtain ⟨b1, o1, x, rfl, _, hc1, H1⟩ := (hA.below hb).get hlt
      obtain ⟨q, hqe⟩ : ∃ q, q = k / s := ⟨_, rfl⟩
      obtain ⟨r, hre⟩ : ∃ r, r = k % s := ⟨_, rfl⟩
      rw [← hqe] at hq
      rw [← hre] at hr
      have hqi : (k : Int) / (s : Int) = (q : Int) := by rw [hqe]; simp
      have hri : (k : Int) % (s : Int) = (r : Int) := by rw [hre]; simp
      obtain ⟨y, hy, hyf, H2⟩ := hO.spot (j := q) (by rw [partK_length, ← HM.out]; exact hq)
      have hch : (chunk s b q)[r]? = some x := by
        rw [chunk_at s b q hr, ← H1.out, hqe, hre, Nat.mul_comm]; congr 1; exact Nat.div_add_mod k s
      have hye : y = pval hi s (chunk s b q) r := by
        have h2 := H2.out
        rw [partK_cur hi s b hqe hre (by omega) (by rw [← HM.out]; exact hq)] at h2
        injection h2 with h2
        exact h2.symm
      have hcb := chunk_byt hby s q
      have hxb := hcb.at_ hch
      have hx0 := hxb.1
      have hx1 := hxb.2
      obtain ⟨P, hP⟩ : ∃ P, P = 8 * plc hi r s := ⟨_, rfl⟩
      obtain ⟨z, hz⟩ : ∃ z, z = pval hi s (chunk s b q) (r + 1) := ⟨_, rfl⟩
      have hor := pval_or hi s (chunk s b q) hr hcb hch
      rw [← hye, ← hP, ← hz] at hor
      have hsh := byte_shift_bd hi hr hx0 hx1
      rw [← hP] at hsh
      have hset := partK_set hi s b hqe hre (by omega) (by rw [← HM.out]; exact hq) hz
      have HS := hid hset
      have HP := hid hP
      have hyb := pval_bd hi s (chunk s b q) (r := r) (by omega) hcb
      rw [← hye] at hyb
      have hP1 : (P : Int) ≤ 64 := by unfold plc at hP; split at hP <;> omega
      have hP0 : (0 : Int) ≤ P := by omega
      have h64 := pow_mono2 (a := 8 * s) (b := 64) (by omega)
      have hwx : IntKind.u64.wrap x = x := IntWalk.u64_in _ (by omega)
      have hwz : IntKind.u64.wrap (x * 2 ^ P) = x * 2 ^ P := IntWalk.u64_in _ (by omega)
      have hbo : bits .or .u64 y (x * 2 ^ P) = z := by rw [u64_or _ _ hyb.1 (by omega) hsh.1 (by omega)]; exact hor
      clear hP hor hset hz hye hch hqe hre hxb hsh h64 hyb
      have hpos : (0 : Int) ≤ k := by omega
      have hlt' : (k : Int) < b.length := by omega
      have hwq : IntKind.i64.wrap (q : Int) = (q : Int) := IntWalk.i64_in _ (by omega)
      have hti : (k : Int).tmod (s : Int) = (r : Int) := by rw [Int.tmod_eq_emod_of_nonneg (by omega)]; exact hri
      have hq0 : (0 : Int) ≤ q := by omega
      have hq1 : (q : Int) < M := by omega
      go_wp2
      go_still_tail 16, (by kernel_rfl)
      still_call (shift_any hi r s P _ HP.out hr h8)
      repeat still_step
      refine wpStill_nil ?_
      change wpList _ _ _ _ _ wr.drew
      have hy1 : wr.drew.cell? ⟨w.heap.size, q, none⟩ = some (.int .u64 y) := hy
      have hyf1 : wr.drew.frozen? ⟨w.heap.size, q, none⟩ = false := hyf
      have hb1 : Below w.heap.size w wr.drew := hb.drew
      have hO1 := hO.drew
      clear hO hb hy hyf hc1
      generalize wr.drew = w2 at *
      go_wp2
      go_roundw
      case rel => exact ⟨k + 1, by omega, by go_num, hb1.setCell (Nat.le_refl _) _, by have h := hO1.store q z; rw [HS.out] at h; exact h⟩
      case measure => simp [intOf]; omega
    · go_wp2
      go_ret
      have e : k = b.length := by omega
      subst e
      rw [partK_end] at hO
      have hln : M = (joinB hi s b).length := by rw [joinB_length]; exact HM.out
      refine ⟨some ⟨w.heap.size, 0, none⟩, M, joinB hi s b, ?_, hid rfl, hO.nums, hb⟩
      rw [← hln]
      rfl
end Go.Proofs.YtkblmdakejmmhaaDoor

/- Lists of words as bytes, and back. -/
namespace Go.Proofs.YtkblmdakejmmhaaDoor
open Go.RowKit
/-- What Words32 and Words64 give. -/
def WordsPost (k : IntKind) (hi : Bool) (s : Nat) (b : List Int) (w : World) (e : Ending) (w' : World) : Prop :=
  ∃ B d ys E, e = .returned (.tuple #[.slice B ys.length d, .int .i64 E]) ∧ Hid (ys = if b.length % s = 0 then joinB hi s b else []) ∧ Hid (E = if b.length % s = 0 then 0 else 2) ∧ Nums w' k B ys ∧ Below w.heap.size w w'
set_option maxRecDepth 50000 in
set_option maxHeartbeats 400000 in
theorem words64_any (hi : Bool) (A : Option Addr) (c : Nat) (b : List Int) (w : World) (hn : b.length ≤ 4096) (hby : HByt b) (hA : Nums w .u8 A b) :
    Calls Tryd.prog 86 #[.slice A b.length c, .int .i64 8, .int .i64 (ordN hi)] w (WordsPost .u64 hi 8 b w) := by
  by_cases hm : b.length % 8 = 0
  · have HM := hid hm
    have hmi : (b.length : Int) % 8 = 0 := by omega
    clear hm
    go_enter Tryd.func86, Tryd.ntmps86
    go_wp2_with (go_at_call 88; refine (join64 hi A c 8 b _ (by omega) (by omega) hn HM.out hby hA).mono ?_; rintro e w' ⟨B, d, ys, rfl, HY, hN, hb⟩)
    go_ret2
    exact ⟨B, d, ys, 0, rfl, by show _ = _; rw [if_pos HM.out]; exact HY.out, by show _ = _; rw [if_pos HM.out], hN, hb⟩
  · have HM := hid hm
    have hmi : ((b.length : Int) % 8 != 0) = true := by simp; omega
    clear hm
    go_enter Tryd.func86, Tryd.ntmps86
    go_wp2
    go_ret2
    exact ⟨none, 0, [], 2, rfl, by show _ = _; rw [if_neg HM.out], by show _ = _; rw [if_neg HM.out], Nums.nil, Below.refl _ _⟩

set_option maxRecDepth 50000 in
theorem wWords64 (A : Option Addr) (c : Nat) (b : List Int) (w : World) (hn : b.length ≤ 4096) (hby : HByt b) (hA : Nums w .u8 A b) :
    Calls Tryd.prog 84 #[.slice A b.length c] w (WordsPost .u64 true 8 b w) := by
  go_enter Tryd.func84, Tryd.ntmps84
  go_wp2_with (go_at_call 86; refine (words64_any true A c b _ hn hby hA).mono ?_; rintro e w' ⟨B, d, ys, E, rfl, HY, HE, hN, hb⟩)
  go_ret2
  exact ⟨B, d, ys, E, rfl, HY, HE, hN, hb⟩
set_option maxRecDepth 50000 in
theorem wBytes64 (A : Option Addr) (c : Nat) (l : List Int) (w : World) (hn : l.length ≤ 500) (hA : Nums w .u64 A l) :
    Calls Tryd.prog 66 #[.slice A l.length c] w fun e w' => ∃ B d ys, e = .returned (.slice B ys.length d) ∧ Hid (ys = splitB true 8 l) ∧ NumsF w.heap.size w' .u8 B ys ∧ Below w.heap.size w w' := by
  go_enter Tryd.func66, Tryd.ntmps66
  go_wp2_with (go_at_call 74; refine (split64 true A c 8 l _ (by omega) (by omega) (by omega) hA).mono ?_; rintro e w' ⟨B, d, ys, rfl, HY, hN, hb⟩)
  go_ret
  exact ⟨B, d, ys, rfl, HY, hN, hb⟩
set_option maxRecDepth 50000 in
theorem words_n (A : Option Addr) (c : Nat) (b : List Int) (w : World) (hn : b.length = 128) (hby : HByt b) (hA : Nums w .u8 A b) :
    Calls Tryd.prog 84 #[.slice A 128 c] w fun e w' => ∃ B d ys, e = .returned (.tuple #[.slice B 16 d, .int .i64 0]) ∧ Hid (ys = joinB true 8 b) ∧ Hid (ys.length = 16) ∧ Nums w' .u64 B ys ∧ Below w.heap.size w w' := by
  have h := wWords64 A c b w (by omega) hby hA
  rw [hn] at h
  refine h.mono fun e w' ⟨B, d, ys, E, he, hY, hE, hN, hb⟩ => ?_
  have e1 : ys = joinB true 8 b := by rw [hY.out, if_pos (by omega)]
  have e2 : E = 0 := by rw [hE.out, if_pos (by omega)]
  have e3 : ys.length = 16 := by rw [e1, joinB_length]; omega
  exact ⟨B, d, ys, by rw [he, e2, e3], hid e1, hid e3, hN, hb⟩
end Go.Proofs.YtkblmdakejmmhaaDoor

/- The schedule of a block. -/
namespace Go.Proofs.YtkblmdakejmmhaaDoor
open Go.RowKit
def hzeros (n : Nat) : List Int := List.replicate n 0
set_option maxRecDepth 50000 in
theorem Tryd.info131 : (Tryd.prog.info? 131).map (fun i => (i.zero, i.size)) = some (some (.agg (ints .u64 (hzeros 80)).toArray), 80) := by kernel_rfl

/-- What the schedule takes of the words 15 and 2 before. -/
def sg0 (x : Int) : Int := xr (xr (rot x 1) (rot x 8)) (x / 128)
def sg1 (x : Int) : Int := xr (xr (rot x 19) (rot x 61)) (x / 64)
/-- The next word. -/
def nxt (l : List Int) : Int := hplus (hplus (hplus (l.getD (l.length - 16) 0) (sg0 (l.getD (l.length - 15) 0))) (l.getD (l.length - 7) 0)) (sg1 (l.getD (l.length - 2) 0))
/-- So many words more. -/
def ext (l : List Int) : Nat → List Int
  | 0 => l
  | n + 1 => ext l n ++ [nxt (ext l n)]
set_option maxRecDepth 50000 in
theorem ext_length (l : List Int) (n : Nat) : (ext l n).length = l.length + n := by
  induction n with
  | zero => rfl
  | succ n ih => simp [ext, ih]; omega
def AllWd (l : List Int) : Prop := ∀ x ∈ l, Wd x
set_option maxRecDepth 50000 in
theorem AllWd.at_ {l : List Int} (h : AllWd l) {i : Nat} {x : Int} (hx : l[i]? = some x) : Wd x := h x (List.mem_of_getElem? hx)
set_option maxRecDepth 50000 in
theorem ext_wd (l : List Int) (h : AllWd l) (n : Nat) : AllWd (ext l n) := by
  induction n with
  | zero => exact h
  | succ n ih =>
    intro x hx
    simp only [ext, List.mem_append, List.mem_singleton] at hx
    rcases hx with hx | rfl
    · exact ih x hx
    · exact wd_wrap _
/-- The schedule of the bytes of a block. -/
def sch (bs : List Int) : List Int := ext (joinB true 8 bs) 64

/-- The first words of a row of eighty, hzeros behind. -/
def pad80 (l : List Int) : List Int := l ++ hzeros (80 - l.length)
set_option maxRecDepth 50000 in
theorem pad80_length (l : List Int) (h : l.length ≤ 80) : (pad80 l).length = 80 := by simp [pad80, hzeros]; omega
set_option maxRecDepth 50000 in
theorem pad80_at {l : List Int} {i : Nat} (h : i < l.length) : (pad80 l)[i]? = some (l.getD i 0) := by
  unfold pad80
  rw [List.getElem?_append_left h]; simp [h]
set_option maxRecDepth 50000 in
theorem pad80_set {l : List Int} (x : Int) (h : l.length < 80) : (pad80 l).set l.length x = pad80 (l ++ [x]) := by
  unfold pad80
  rw [List.set_append_right _ _ (Nat.le_refl _), Nat.sub_self, List.append_assoc]
  congr 1
  have e : 80 - l.length = (80 - (l ++ [x]).length) + 1 := by simp; omega
  rw [e]
  simp [hzeros, List.replicate_succ]
set_option maxRecDepth 50000 in
theorem pad80_over {l : List Int} (h : l.length = 16) : over (hzeros 80) 0 l = pad80 l := by
  have : (hzeros 80).drop (0 + l.length) = hzeros (80 - l.length) := by simp [hzeros, h]
  simp only [over, List.take_zero, List.nil_append, this, pad80]
set_option maxRecDepth 50000 in
theorem pad80_full {l : List Int} (h : l.length = 80) : pad80 l = l := by simp [pad80, hzeros, h]
set_option maxRecDepth 50000 in
theorem getD_wd {l : List Int} (h : AllWd l) (i : Nat) : Wd (l.getD i 0) := by
  rw [List.getD_eq_getElem?_getD]
  cases hx : l[i]? with
  | none => exact ⟨by simp, by simp⟩
  | some x => exact h.at_ hx

set_option maxRecDepth 4000 in
set_option maxHeartbeats 1000000 in
theorem sched_any (g o c : Nat) (bs : List Int) (w : World) (hl : bs.length = 128) (hby : HByt bs) (hwd : AllWd (joinB true 8 bs)) (hA : Nums w .u8 (some ⟨g, o, none⟩) bs) :
    Calls Tryd.prog 80 #[.slice (some ⟨g, o, none⟩) 128 c] w fun e w' => ∃ ys, e = .returned (.agg (ints .u64 ys).toArray) ∧ Hid (ys = sch bs) ∧ Hid (ys.length = 80) ∧ Below w.heap.size w w' := by
  obtain ⟨z42, s42⟩ := zero_of_info Tryd.info131
  have HL := hid hl
  have hg : g < w.heap.size := by obtain ⟨b, off, e, hlt, _⟩ := hA (by omega); injection e with e; injection e with e1; omega
  have HW := hid hwd
  clear hl hwd
  go_enter Tryd.func80, Tryd.ntmps80
  go_wp2_with (go_at_call 84; refine (words_n (some ⟨g, o, none⟩) c bs _ HL.out hby ((hA.below (below_new _ _)).below (below_new _ _))).mono ?_; rintro e w1 ⟨B, d, ys, rfl, HY, H16, hN, hb⟩)
  obtain ⟨b1, o1, rfl, hlt1, hc1⟩ := hN (by have := H16.out; omega)
  have hA1 : Arr w1 (w.heap.size + 1) 0 .u64 (hzeros 80) := by
    have h := Arr.made (w.alloc (.cells (ints .u64 (hzeros 80)).toArray 131)) .u64 (hzeros 80) 131
    simp only [World.size_alloc] at h
    exact h.below hb (by simp)
  have hA0 : Arr w1 w.heap.size 0 .u64 (hzeros 80) := ((Arr.made w .u64 (hzeros 80) 131).alloc _).below hb (by simp; omega)
  have hB1 : Below w.heap.size w w1 := ((below_new _ _).alloc (by simp) _).trans (hb.mono (by simp; omega))
  have hcp : (Builtin.copy_ #[109, 109] 3 #[.slice (some ⟨w.heap.size + 1, 0, none⟩) 80 80, .slice (some ⟨b1, o1, none⟩) 16 d]).run Tryd.prog w1 = .ok (.int .i64 16) (w1.setCells (w.heap.size + 1) 0 (ints .u64 ys)) := by
    have h := run_copy_cells (P := Tryd.prog) w1 109 109 3 103 (w.heap.size + 1) 0 80 80 ⟨b1, o1, none⟩ 16 d (ints .u64 ys) Tryd.underlying109 (by kernel_rfl) (by simp [H16.out]) ?_ ?_ ?_ (ints_one _ _)
    · rw [ints_length, H16.out] at h; exact h
    · intro j v hv
      simp only [ints, List.getElem?_map, Option.map_eq_some_iff] at hv
      obtain ⟨x, hx, rfl⟩ := hv
      have hj := (List.getElem?_eq_some_iff.1 hx).1
      have := hc1 j hj
      rw [Addr.add_mid, this]
      simp [List.getD, hx]
    · intro j hj; exact (hA1.there j (by rw [ints_length, H16.out] at hj; simp [hzeros]; omega)).1
    · intro j hj; exact (hA1.there j (by rw [ints_length, H16.out] at hj; simp [hzeros]; omega)).2
  have hA2 : Arr (w1.setCells (w.heap.size + 1) 0 (ints .u64 ys)) (w.heap.size + 1) 0 .u64 (pad80 (ext ys 0)) := by
    have h := hA1.over (j := 0) (ys := ys) (by simp [hzeros, H16.out])
    rw [pad80_over H16.out] at h
    exact h
  have hA3 : Arr (w1.setCells (w.heap.size + 1) 0 (ints .u64 ys)) w.heap.size 0 .u64 (hzeros 80) := hA0.past _ (.inl (by omega))
  have hB2 : Below w.heap.size w (w1.setCells (w.heap.size + 1) 0 (ints .u64 ys)) := Below.setCells hB1 (by omega) _ _
  clear hA1 hA0 hB1 hN hc1 hb hA hlt1
  generalize w1.setCells (w.heap.size + 1) 0 (ints .u64 ys) = w2 at *
  go_simp
  go_wp2
  go_loopw [6] (fun i wr => ∃ k : Nat, k ≤ 64 ∧ i = .int .i64 (k + 16) ∧ Below w.heap.size w wr ∧ Arr wr (w.heap.size + 1) 0 .u64 (pad80 (ext ys k)) ∧ Arr wr w.heap.size 0 .u64 (hzeros 80)) (fun i _ => 80 - (intOf i).toNat)
  case atStart => exact ⟨0, by omega, rfl, hB2, hA2, hA3⟩
  case round =>
    clear hB2 hA2 hA3
    obtain ⟨k, hk, rfl, hb, hA, hR⟩ := hrel
    have HYL := H16.out
    have hel : (ext ys k).length = 16 + k := by rw [ext_length, H16.out]
    by_cases hlt : k < 64
    · obtain ⟨L, hL⟩ : ∃ L, L = ext ys k := ⟨_, rfl⟩
      have hLw : AllWd L := by rw [hL]; exact ext_wd ys (by rw [HY.out]; exact HW.out) k
      rw [← hL] at hel hA
      have c15 := hA.at_ (i := k + 1) (pad80_at (by omega))
      have c2 := hA.at_ (i := k + 14) (pad80_at (by omega))
      have c16 := hA.at_ (i := k) (pad80_at (by omega))
      have c7 := hA.at_ (i := k + 9) (pad80_at (by omega))
      have w15 := hid (getD_wd hLw (k + 1))
      have w2 := hid (getD_wd hLw (k + 14))
      have hn : nxt L = hplus (hplus (hplus (L.getD k 0) (sg0 (L.getD (k + 1) 0))) (L.getD (k + 9) 0)) (sg1 (L.getD (k + 14) 0)) := by
        unfold nxt
        rw [hel, show 16 + k - 16 = k by omega, show 16 + k - 15 = k + 1 by omega, show 16 + k - 7 = k + 9 by omega, show 16 + k - 2 = k + 14 by omega]
      have HN := hid hn
      have HLx := hid hL
      have HEL := hid hel
      have z15 := w15.out.1
      have z2 := w2.out.1
      generalize L.getD (k + 1) 0 = x15 at *
      generalize L.getD (k + 14) 0 = x2 at *
      generalize L.getD k 0 = x16 at *
      generalize L.getD (k + 9) 0 = x7 at *
      clear hn hL hel HYL
      simp only [Nat.zero_add] at c15 c2 c16 c7
      have s15 : IntKind.i64.wrap ((k : Int) + 16 - 15) = (k : Int) + 1 := by rw [IntWalk.i64_in _ (by omega)]; omega
      have s2 : IntKind.i64.wrap ((k : Int) + 16 - 2) = (k : Int) + 14 := by rw [IntWalk.i64_in _ (by omega)]; omega
      go_wp2
      go_quiet (fail)
      go_wp2_with (go_at_call 85; (first | (with_reducible refine (right_1 x15 _ w15).mono ?_) | (with_reducible refine (right_8 x15 _ w15).mono ?_) | (with_reducible refine (right_19 x2 _ w2).mono ?_) | (with_reducible refine (right_61 x2 _ w2).mono ?_)); rintro e w' ⟨rfl, rfl⟩)
      have s16 : IntKind.i64.wrap (k : Int) = (k : Int) := IntWalk.i64_in _ (by omega)
      have s7 : IntKind.i64.wrap ((k : Int) + 16 - 7) = (k : Int) + 9 := by rw [IntWalk.i64_in _ (by omega)]; omega
      obtain ⟨y, hy, hyf, _⟩ := hA.spot (i := k + 16) (by rw [pad80_length _ (by have := HEL.out; omega)]; omega)
      rw [Nat.zero_add] at hy hyf
      replace hA := hA.drewN nq
      replace hR := hR.drewN nq
      replace hb := below_drewN hb nq
      replace c16 : (wr.drewN nq).cell? _ = _ := c16
      replace c7 : (wr.drewN nq).cell? _ = _ := c7
      replace hy : (wr.drewN nq).cell? _ = _ := hy
      replace hyf : (wr.drewN nq).frozen? _ = _ := hyf
      clear c15 c2
      generalize wr.drewN nq = wx at *
      have b1 : (0 : Int) ≤ k := by omega
      have b2 : (k : Int) < 80 := by omega
      have b3 : (0 : Int) ≤ (k : Int) + 9 := by omega
      have b4 : (k : Int) + 9 < 80 := by omega
      have b5 : (0 : Int) ≤ (k : Int) + 16 := by omega
      have b6 : ((k : Int) + 9).toNat = k + 9 := by omega
      have b7 : ((k : Int) + 16).toNat = k + 16 := by omega
      go_still_tail 15, (by kernel_rfl)
      change wpList _ _ _ _ _ wx.drew
      replace hA := hA.drew
      replace hR := hR.drew
      replace hb := hb.drew
      replace hy : wx.drew.cell? _ = _ := hy
      replace hyf : wx.drew.frozen? _ = _ := hyf
      clear c16 c7
      generalize wx.drew = wz at *
      go_wp2
      go_roundw
      case rel =>
        have h := hA.set L.length (nxt L)
        rw [pad80_set _ (by have := HEL.out; omega)] at h
        have e : L.length = k + 16 := by have := HEL.out; omega
        have e2 : L ++ [nxt L] = ext ys (k + 1) := by rw [HLx.out]; rfl
        rw [e, e2, Nat.zero_add] at h
        refine ⟨k + 1, by omega, by go_num, hb.setCell (by simp) _, ?_, hR.apart _ (.inl (by simp))⟩
        rw [HN.out] at h
        exact h
      case measure => simp [intOf]; omega
    · have e : k = 64 := by omega
      subst e
      obtain ⟨F, hF⟩ : ∃ F, F = ext ys 64 := ⟨_, rfl⟩
      rw [← hF, pad80_full (by rw [hF]; omega)] at hA
      have hF80 : F.length = 80 := by rw [hF]; omega
      have hrg := hA.range
      have hth : wr.there w.heap.size 0 (ints .u64 F).toArray.size := by have := hR.there; simpa [hzeros, hF80] using this
      have hsz : (Tryd.prog.info? 131).map (·.size) = some (ints .u64 F).length := by rw [s42, ints_length, hF80]
      have hsz2 : (Tryd.prog.info? 131).map (·.size) = some (ints .u64 F).toArray.size := by rw [s42]; simp [hF80]
      have hR2 := hR.all (ys := F) (by simp [hzeros, hF80])
      have hb2 := Below.setCells hb (Nat.le_refl _) 0 (ints .u64 F)
      have HF := hid hF
      have HF80 := hid hF80
      clear hF hF80 hA hR hel HYL
      go_wp2_with (first
        | (with_reducible refine wpList_load_mid (op := ⟨some 62, .load 131 (.tmp 3), _, _, _, _⟩) rfl 131 (.tmp 3) rfl (w.heap.size + 1) 0 rfl (ints .u64 F) _ hrg Tryd.underlying131 rfl hsz ?_)
        | (with_reducible refine wpList_store_mid (op := ⟨none, .store 131 (.tmp 2) (.tmp 62), _, _, _, _⟩) rfl 131 (.tmp 2) (.tmp 62) rfl w.heap.size 0 (ints .u64 F).toArray rfl rfl hth hsz2 (ints_all _ _) ?_))
      exact ret_rows rfl w.heap.size 0 rfl (ints .u64 F) _ hR2.range Tryd.underlying131 rfl hsz rfl ⟨F, rfl, by show _ = _; rw [HF.out, HY.out]; rfl, HF80, hb2⟩
end Go.Proofs.YtkblmdakejmmhaaDoor
