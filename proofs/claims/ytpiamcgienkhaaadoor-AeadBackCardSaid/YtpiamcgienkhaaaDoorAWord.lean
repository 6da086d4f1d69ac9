/- Numbers of eight bytes, the lowest first: word.Low and the reference's. -/
import Derived.Test.YtpiamcgienkhaaaDoorHWSplit
import Derived.Test.YtpiamcgienkhaaaDoorMRow
import Derived.Test.YtpiamcgienkhaaaDoorApp
namespace Go.Proofs.YtpiamcgienkhaaaDoor
open Go Go.RowKit

set_option maxRecDepth 50000 in
set_option maxHeartbeats 400000 in
theorem split64 (hi : Bool) (A : Option Addr) (c s : Nat) (l : List Int) (w : World) (h1 : 1 ≤ s) (h8 : s ≤ 8) (hn : l.length * s ≤ 4096) (hA : Nums w .u64 A l) :
    Calls Tryd.prog 59 #[.slice A l.length c, .int .i64 s, .int .i64 (ordN hi)] w fun e w' => ∃ B d ys, e = .returned (.slice B ys.length d) ∧ ys.length ≤ d ∧ Hid (ys = splitB hi s l) ∧ NumsF w.heap.size w' .u8 B ys ∧ Below w.heap.size w w' := by
  obtain ⟨i0, hi0, hz0, hz1, hz2⟩ := info_parts Tryd.info5
  obtain ⟨S, hS⟩ : ∃ S, S = splitB hi s l := ⟨_, rfl⟩
  have hSl : S.length = l.length * s := by rw [hS, splitB_length]
  have HS := hid hS
  have HSl := hid hSl
  have hSb : S.length ≤ 4096 := by omega
  have hi1 : ((l.length * s : Nat) : Int) = (l.length : Int) * (s : Int) := by simp
  have hi2 : 0 ≤ (l.length : Int) * (s : Int) := by omega
  have hi3 : (l.length : Int) * (s : Int) ≤ 4096 := by omega
  have HI := hid hi1
  have hll : l.length ≤ 4096 := Nat.le_trans (Nat.le_mul_of_pos_right _ (by omega)) hn
  clear hS hSl hi1
  go_enter Tryd.func59, Tryd.ntmps59
  go_wp2_with (at_make; refine wpList_make_full _ rfl _ _ 24 rfl w.heap.size 5 i0 _ 1 Tryd.underlying24 hi0 hz0 hz1 .i64 .i64 _ _ S.length rfl rfl ?_ ?_ ?_ ?_ ?_ ?_)
  · rw [HSl.out]; exact HI.out.symm
  · rw [HSl.out]; exact HI.out.symm
  · rw [hz2]; omega
  · unfold maxLen; omega
  · omega
  intro w1 hown hgrow
  have hb1 : Below w.heap.size w w1 := (Below.refl _ _).grown hgrow (Nat.le_refl _) (by simp)
  have hO : Owns w1 w.heap.size 5 .u8 (.slice (some ⟨w.heap.size, 0, none⟩) S.length S.length) (fillK S 0) := by
    rw [fillK_zero]
    unfold Owns
    rw [List.length_replicate, List.map_replicate, ← toList_madeCells_one]
    exact hown
  clear hown hgrow
  go_wp2
  go_loopw [16] (fun i wr => ∃ k : Nat, k ≤ S.length ∧ i = .int .i64 k ∧ Below w.heap.size w wr ∧ Owns wr w.heap.size 5 .u8 (.slice (some ⟨w.heap.size, 0, none⟩) S.length S.length) (fillK S k)) (fun i _ => S.length - (intOf i).toNat)
  case atStart => exact ⟨0, Nat.zero_le _, rfl, hb1, hO⟩
  case round =>
    clear hb1 hO
    obtain ⟨k, hk, rfl, hb, hO⟩ := hrel
    by_cases hlt : k < S.length
    · have hq : k / s < l.length := by
        have := HSl.out
        rw [Nat.div_lt_iff_lt_mul (by omega)]; omega
      have hr : k % s < s := Nat.mod_lt _ (by omega)
      obtain ⟨b1, o1, x, rfl, _, hc1, H1⟩ := (hA.below hb).get hq
      obtain ⟨q, hqe⟩ : ∃ q, q = k / s := ⟨_, rfl⟩
      obtain ⟨r, hre⟩ : ∃ r, r = k % s := ⟨_, rfl⟩
      rw [← hqe] at hq hc1 H1
      rw [← hre] at hr
      have hqi : (k : Int) / (s : Int) = (q : Int) := by rw [hqe]; simp
      have hri : (k : Int) % (s : Int) = (r : Int) := by rw [hre]; simp
      have HQ := hid hqe
      have HR := hid hre
      clear hqe hre
      have hpos : (0 : Int) ≤ k := by omega
      have hlt' : (k : Int) < S.length := by omega
      have hs1 : (1 : Int) ≤ s := by omega
      go_wp2
      have hs0 : ¬ s = 0 := by omega
      have hwq : IntKind.i64.wrap (q : Int) = (q : Int) := IntWalk.i64_in _ (by omega)
      have hti : (k : Int).tmod (s : Int) = (r : Int) := by rw [Int.tmod_eq_emod_of_nonneg (by omega)]; exact hri
      have hwr : IntKind.i64.wrap (r : Int) = (r : Int) := IntWalk.i64_in _ (by omega)
      have hq0 : (0 : Int) ≤ q := by omega
      have hq1 : (q : Int) < l.length := by omega
      obtain ⟨P, hP⟩ : ∃ P, P = 8 * plc hi r s := ⟨_, rfl⟩
      have HP := hid hP
      have hP1 : (P : Int) ≤ 64 := by unfold plc at hP; split at hP <;> omega
      have hP0 : (0 : Int) ≤ P := by omega
      clear hP
      go_still_tail 16, (by kernel_rfl)
      still_call (shift_any hi r s P _ HP.out hr h8)
      repeat still_step
      refine wpStill_nil ?_
      obtain ⟨y, hy, hyf, _⟩ := hO.spot (j := k) (by rw [fillK_length]; exact hlt)
      change wpList _ _ _ _ _ wr.drew
      have hy1 : wr.drew.cell? ⟨w.heap.size, k, none⟩ = some (.int .u8 y) := hy
      have hyf1 : wr.drew.frozen? ⟨w.heap.size, k, none⟩ = false := hyf
      have hb1 : Below w.heap.size w wr.drew := hb.drew
      have hO1 := hO.drew
      clear hO hb hy hyf hc1
      generalize wr.drew = w2 at *
      go_wp2
      go_roundw
      case rel =>
        have hsk : S[k]? = some (x / 2 ^ P % 256) := by
          rw [HS.out, splitB_at hi s l (by have := HSl.out; omega), ← HQ.out, ← HR.out, HP.out]
          simp [List.getD, H1.out, dig]
        exact ⟨k + 1, by omega, by go_num, hb1.setCell (Nat.le_refl _) _, by have h := hO1.store k (x / 2 ^ P % 256); rw [fillK_set S hsk] at h; exact h⟩
      case measure => simp [intOf]; omega
    · go_wp2
      go_ret
      have e : k = S.length := by omega
      subst e
      rw [fillK_end] at hO
      exact ⟨_, _, S, rfl, Nat.le_refl _, HS, hO.fresh, hb⟩
/-- The greatest number of s bytes. -/
def grt (s : Nat) : Int := if s = 8 then 4611686018427387904 else 2 ^ (8 * s) - 1

set_option maxRecDepth 50000 in
theorem greatest_any (s : Nat) (w : World) (h1 : 1 ≤ s) (h8 : s ≤ 8) : Calls Tryd.prog 58 #[.int .i64 s] w fun e w' => e = .returned (.int .i64 (grt s)) ∧ w = w' := by
  have hs : s = 1 ∨ s = 2 ∨ s = 3 ∨ s = 4 ∨ s = 5 ∨ s = 6 ∨ s = 7 ∨ s = 8 := by omega
  rcases hs with rfl | rfl | rfl | rfl | rfl | rfl | rfl | rfl
  all_goals
    go_enter Tryd.func58, Tryd.ntmps58
    go_wp2
    go_ret
    exact ⟨by simp [grt], rfl⟩

/-- Does n fit into so many bytes? -/
def Fits (n s : Int) : Prop := 1 ≤ s ∧ s ≤ 8 ∧ 0 ≤ n ∧ n ≤ grt s.toNat

set_option maxRecDepth 50000 in
theorem grt_bd (s : Nat) (h1 : 1 ≤ s) (h8 : s ≤ 8) : 0 ≤ grt s ∧ grt s ≤ 4611686018427387904 := by
  have hs : s = 1 ∨ s = 2 ∨ s = 3 ∨ s = 4 ∨ s = 5 ∨ s = 6 ∨ s = 7 ∨ s = 8 := by omega
  rcases hs with rfl | rfl | rfl | rfl | rfl | rfl | rfl | rfl <;> simp [grt]

set_option maxRecDepth 50000 in
theorem split64_one (hi : Bool) (b : Nat) (s : Nat) (n : Int) (w : World) (h1 : 1 ≤ s) (h8 : s ≤ 8) (hb : b < w.heap.size) (hc : w.cell? ⟨b, 0, none⟩ = some (.int .u64 n)) :
    Calls Tryd.prog 59 #[.slice (some ⟨b, 0, none⟩) 1 1, .int .i64 s, .int .i64 (ordN hi)] w fun e w' => ∃ B d ys, e = .returned (.slice B ys.length d) ∧ ys.length ≤ d ∧ Hid (ys = splitB hi s [n]) ∧ NumsF w.heap.size w' .u8 B ys ∧ Below w.heap.size w w' :=
  split64 hi (some ⟨b, 0, none⟩) 1 s [n] w h1 h8 (by simp; omega) (fun _ => ⟨b, 0, rfl, hb, fun i hi => by
    have : i = 0 := by simpa using hi
    subst this
    exact hc⟩)

set_option maxRecDepth 50000 in
set_option maxHeartbeats 400000 in
theorem put_yes (hi : Bool) (n : Int) (s : Nat) (w : World) (h : Fits n s) :
    Calls Tryd.prog 47 #[.int .i64 n, .int .i64 s, .int .i64 (ordN hi)] w fun e w' => ∃ B d ys, e = .returned (.tuple #[.slice B ys.length d, .int .i64 0]) ∧ ys.length ≤ d ∧ Hid (ys = splitB hi s [n]) ∧ NumsF w.heap.size w' .u8 B ys ∧ Below w.heap.size w w' := by
  obtain ⟨h1, h8, h0, hg⟩ := h
  rw [Int.toNat_natCast] at hg
  have hgb := (grt_bd s (by omega) (by omega)).2
  have hwn : IntKind.u64.wrap n = n := IntWalk.u64_in _ (by omega)
  go_enter Tryd.func47, Tryd.ntmps47
  go_wp2_with (first | (go_at_call 58; refine (greatest_any s _ (by omega) (by omega)).mono ?_; rintro e w' ⟨rfl, rfl⟩) | (go_at_call 59; refine (split64_one hi _ s n _ (by omega) (by omega) (by simp) (by go_simp)).mono ?_; rintro e w' ⟨B, d, ys, rfl, hyd, HY, hN, hb⟩))
  go_ret2
  exact ⟨B, d, ys, rfl, hyd, HY, hN.less (by simp), ((Below.refl _ _).alloc (Nat.le_refl _) _).trans (hb.mono (by simp))⟩

/-- What the reference gives for a number from 0 to 2^62 and a size from 1 to 8. -/
def LowPost (n : Int) (s : Nat) (w : World) (e : Ending) (w' : World) : Prop :=
  (n / 2 ^ (8 * s) = 0 ∧ ∃ B d ys, e = .returned (.tuple #[.slice B ys.length d, .int .i64 0]) ∧ Hid (ys = splitB false s [n]) ∧ NumsF w.heap.size w' .u8 B ys ∧ Below w.heap.size w w') ∨
  (n / 2 ^ (8 * s) ≠ 0 ∧ e = .returned (.tuple #[.slice none 0 0, .int .i64 2]) ∧ Below w.heap.size w w')

set_option maxRecDepth 50000 in
set_option maxHeartbeats 400000 in
theorem refLow_loop (n : Int) (s : Nat) (w : World) (h1 : 1 ≤ s) (h8 : s ≤ 8) (h0 : 0 ≤ n) (h62 : n ≤ 4611686018427387904) :
    Calls Tryd.prog 23 #[.int .i64 n, .int .i64 s] w (LowPost n s w) := by
  obtain ⟨S, hS⟩ : ∃ S, S = splitB false s [n] := ⟨_, rfl⟩
  have hSl : S.length = s := by rw [hS, splitB_length]; simp
  have HS := hid hS
  have HSl := hid hSl
  clear hS hSl
  go_enter Tryd.func23, Tryd.ntmps23
  go_wp2
  go_loopw [0, 6, 7] (fun a v i wr => ∃ (k : Nat) (A : Option Addr) (m c : Nat) (nk : Int), k ≤ s ∧ a = .int .i64 nk ∧ Hid (nk = n / 2 ^ (8 * k)) ∧ 0 ≤ nk ∧ nk ≤ 4611686018427387904 ∧ v = .slice A m c ∧ i = .int .i64 k ∧ Owns wr w.heap.size 5 .u8 (.slice A m c) (S.take k) ∧ Below w.heap.size w wr) (fun _ _ i _ => s - (intOf i).toNat)
  case atStart => exact ⟨0, none, 0, 0, n, Nat.zero_le _, rfl, hid (by simp), h0, h62, rfl, rfl, Owns.none_ _ _ _ _, Below.refl _ _⟩
  case round =>
    obtain ⟨k, A, m, c, nk, hk, rfl, HN, hk0, hk62, rfl, rfl, hO, hb⟩ := hrel
    by_cases hlt : k < s
    · have hsz := hb.size
      have hl : (S.take k).length = k := by have := HSl.out; simp; omega
      have HL := hid hl
      clear hl
      go_wp2_with (at_builtin; refine app_one _ rfl (.tmp 27) (.tmp 31) 24 rfl w.heap.size 5 .u8 1 Tryd.underlying24 Tryd.info5 A m c (S.take k) rfl hO _ 1 rfl (by rw [HL.out]; omega) (by omega) hsz ?_; intro A' n' c' w2 hO2 hb2)
      go_roundw
      case rel =>
        have hsk : S[k]? = some (nk % 256) := by rw [HS.out, split_one false s n hlt, HN.out]; rfl
        exact ⟨k + 1, A', n', c', nk / 256, by omega, rfl, hid (by rw [HN.out]; exact div_step n k), by omega, by omega, rfl, by go_num, by rw [take_succ_at hsk]; exact hO2, hb.trans hb2⟩
      case measure => simp [intOf]; omega
    · have e : k = s := by omega
      subst e
      have hm := hO.len
      have hS : S.take k = S := List.take_of_length_le (by rw [HSl.out]; omega)
      rw [hS] at hO hm
      clear hS
      subst hm
      by_cases hz : 0 < nk
      · go_wp2
        go_ret2
        exact .inr ⟨by rw [← HN.out]; omega, rfl, hb⟩
      · go_wp2
        go_ret2
        exact .inl ⟨by rw [← HN.out]; omega, A, c, S, rfl, HS, hO.fresh, hb⟩


/-- A length as eight bytes. -/
def le8 (n : Nat) : List Int := splitB false 8 [(n : Int)]
set_option maxRecDepth 50000 in
theorem le8_length (n : Nat) : (le8 n).length = 8 := split_len false 8 n
set_option maxRecDepth 50000 in
theorem le8_byt (n : Nat) : HByt (le8 n) := splitB_byt _ _ _
set_option maxRecDepth 50000 in
theorem wlow8 (n : Nat) (w : World) (hn : n ≤ 4096) : Calls Tryd.prog 33 #[.int .i64 n, .int .i64 8] w fun e w' => ∃ B d, e = .returned (.tuple #[.slice B 8 d, .int .i64 0]) ∧ 8 ≤ d ∧ Nums w' .u8 B (le8 n) ∧ Below w.heap.size w w' := by
  have hf : Fits (n : Int) ((8 : Nat) : Int) := by
    unfold Fits
    rw [Int.toNat_natCast]
    simp [grt]
    omega
  have HL := hid (le8_length n)
  go_enter Tryd.func33, Tryd.ntmps33
  go_wp2_with (go_at_call 47; refine (put_yes false n 8 _ hf).mono ?_; rintro e w' ⟨B, d, ys, rfl, hyd, HY, hN, hb⟩)
  obtain ⟨m, hm⟩ : ∃ m, ys.length = m := ⟨_, rfl⟩
  have hy : ys = le8 n := HY.out
  rw [hm] at hyd ⊢
  rw [hy, HL.out] at hm
  rw [hy] at hN
  subst hm
  go_wp2
  go_ret2
  exact ⟨B, d, rfl, hyd, hN.nums, hb⟩
set_option maxRecDepth 50000 in
theorem rlow8 (n : Nat) (w : World) (hn : n ≤ 4096) : Calls Tryd.prog 23 #[.int .i64 n, .int .i64 8] w fun e w' => ∃ B d, e = .returned (.tuple #[.slice B 8 d, .int .i64 0]) ∧ NumsF w.heap.size w' .u8 B (le8 n) ∧ Below w.heap.size w w' := by
  refine (refLow_loop n 8 w (by omega) (by omega) (by omega) (by omega)).mono ?_
  rintro e w' (⟨h, B, d, ys, rfl, HY, hN, hb⟩ | ⟨h, rfl, hb⟩)
  · have hy : ys = le8 n := HY.out
    subst hy
    rw [le8_length]
    exact ⟨B, d, rfl, hN, hb⟩
  · exact absurd (by have : (2 : Int) ^ (8 * 8) = 18446744073709551616 := by decide
                     rw [this]; omega) h
end Go.Proofs.YtpiamcgienkhaaaDoor
