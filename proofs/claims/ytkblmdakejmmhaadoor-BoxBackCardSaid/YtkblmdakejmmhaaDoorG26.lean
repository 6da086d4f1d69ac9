/- Texts of this proof, laid together: BCat, AWord. -/
import Derived.Test.YtkblmdakejmmhaaDoorG19
import Derived.Test.YtkblmdakejmmhaaDoorCHideM
import Derived.Test.YtkblmdakejmmhaaDoorG21
import Derived.Test.YtkblmdakejmmhaaDoorG14
import Derived.Test.YtkblmdakejmmhaaDoorG18
import Derived.Test.YtkblmdakejmmhaaDoorG4
/- slices.Concat of two rows of bytes. -/
namespace Go.Proofs.YtkblmdakejmmhaaDoor
open Go Go.RowKit Go.Lib

set_option maxRecDepth 50000 in
set_option maxHeartbeats 2000000 in
theorem growB_any (n : Nat) (w : World) (h1 : 1 ≤ n) (h2 : n ≤ 1000) :
    Calls Tryd.prog 21 #[.slice none 0 0, .int .i64 n] w fun e w' => ∃ A c, e = .returned (.slice A 0 c) ∧ Owns w' w.heap.size 5 .u8 (.slice A 0 c) [] ∧ Below w.heap.size w w' := by
  obtain ⟨i, hi, hz, hsize, hby⟩ := info_partsV Tryd.info5
  have hold : (Builtin.firstCells i.size 0 (.slice none 0 0)).run Tryd.prog w.drew = .ok ([] : List Value).toArray w.drew := by
    rw [hsize]
    exact run_firstCells_none w.drew 1 0 0 0
  have hrz : ∀ ty, (Builtin.append_ #[23, 3] ty #[.slice none 0 0, .int .i64 n]).run Tryd.prog w = _ := fun ty =>
    run_append_grow_zeros w 23 3 ty 5 i (.int .u8 0) .i64 .i64 (by kernel_rfl) (by kernel_rfl) hi hz none 0 0 [] hold n (by omega) (by omega) (by omega) (by omega) (by rw [hby]; omega)
      (growslice_fits (by omega) (by rw [hby]; omega))
  have hGn : 0 + n ≤ grownCap w (0 + n) 0 5 := grownCap_ge w _ _ _
  have hGm : grownCap w (0 + n) 0 5 ≤ maxLen := grownCap_le_maxLen w (0 + n) 0 5 (by unfold maxLen; omega)
  rw [Nat.zero_add] at hrz hGn hGm
  obtain ⟨G, hG⟩ : ∃ G, G = grownCap w n 0 5 := ⟨_, rfl⟩
  rw [← hG] at hrz hGn hGm
  obtain ⟨cs, hcs⟩ : ∃ cs, cs = ([] : List Value).toArray ++ Builtin.zeroCells (Value.int .u8 0).cells n ++ Builtin.zeroCells (Value.int .u8 0).cells (G - n) := ⟨_, rfl⟩
  rw [← hcs] at hrz
  have hcl : cs.size = G := by
    rw [hcs]
    simp [Builtin.zeroCells, Value.cells]
    omega
  have hP : Owns (w.drew.alloc (.cells cs 5)) w.heap.size 5 .u8 (.slice (some ⟨w.drew.heap.size, 0, none⟩) 0 G) [] :=
    ⟨rfl, .inr ⟨w.drew.heap.size, G, cs, rfl, Nat.le_refl _, heap_alloc_new w.drew _, Nat.zero_le _, hGm, by rw [hcl]; simp, by simp⟩⟩
  have hW : Below w.heap.size w (w.drew.alloc (.cells cs 5)) := ((Below.refl _ w).drew).alloc (Nat.le_refl _) _
  have hn1 : (1 : Int) ≤ n := by omega
  have hn2 : (n : Int) ≤ 1000 := by omega
  have hG1 : (G : Int) ≤ 9223372036854775807 := by unfold maxLen at hGm; omega
  clear hold hG hcs hcl hi hz hsize hby hGm
  go_enter Tryd.func21, Tryd.ntmps21
  go_wp2_with (at_builtin; refine Lib.wpList_append_run _ rfl (.tmp 20) (.tmp 21) 23 3 rfl (.slice none 0 0) (.int .i64 n) rfl rfl _ _ (hrz _) ?_)
  go_ret
  exact ⟨_, _, rfl, hP, hW⟩
/-- How far the two loops are. -/
def CatB (m1 m2 : Nat) (v i : Value) : Prop := (i = .int .i64 0 ∧ v = .int .i64 0) ∨ (i = .int .i64 1 ∧ v = .int .i64 m1) ∨ (i = .int .i64 2 ∧ v = .int .i64 (m1 + m2))
def CatBW (w0 : World) (B : Nat) (l1 l2 : List Int) (v i : Value) (w : World) : Prop := ∃ A m c, v = .slice A m c ∧ ((i = .int .i64 0 ∧ Owns w B 5 .u8 (.slice A m c) []) ∨ (i = .int .i64 1 ∧ Owns w B 5 .u8 (.slice A m c) l1) ∨ (i = .int .i64 2 ∧ Owns w B 5 .u8 (.slice A m c) (l1 ++ l2))) ∧ Below B w0 w
set_option maxRecDepth 50000 in
set_option maxHeartbeats 4000000 in
theorem catB_core (g m1 m2 c1 c2 off pc : Nat) (A1 A2 : Option Addr) (l1 l2 : List Int) (w : World) (hg : g < w.heap.size) (k0' : w.cell? ⟨g, off, none⟩ = some (.slice A1 m1 c1)) (k1' : w.cell? ⟨g, off + 1, none⟩ = some (.slice A2 m2 c2)) (hN1 : Nums w .u8 A1 l1) (hN2 : Nums w .u8 A2 l2) (H1 : Hid (l1.length = m1)) (H2 : Hid (l2.length = m2)) (h1 : 1 ≤ m1) (hm1 : m1 ≤ 400) (hm2 : m2 ≤ 600) :
    Calls Tryd.prog 13 #[.slice (some ⟨g, off, none⟩) 2 pc] w fun e w' => ∃ A c, e = .returned (.slice A (m1 + m2) c) ∧ Owns w' w.heap.size 5 .u8 (.slice A (m1 + m2) c) (l1 ++ l2) ∧ Below w.heap.size w w' := by
  have n0 : (0 : Int) ≤ m1 := by omega
  have n1 : (m1 : Int) ≤ 400 := by omega
  have n2 : (0 : Int) ≤ m2 := by omega
  have n3 : (m2 : Int) ≤ 600 := by omega
  have hneg1 : ¬ ((m1 : Int) < 0) := by omega
  have hneg : ¬ ((m1 : Int) + (m2 : Int) < 0) := by omega
  go_enter Tryd.func13, Tryd.ntmps13
  go_wp2
  go_loopw [3, 11] (fun v i wr => CatB m1 m2 v i ∧ wr = w) (fun _ i _ => 2 - (intOf i).toNat)
  case atStart => exact ⟨.inl ⟨rfl, rfl⟩, rfl⟩
  case round =>
    obtain ⟨hC, rfl⟩ := hrel
    rcases hC with ⟨rfl, rfl⟩ | ⟨rfl, rfl⟩ | ⟨rfl, rfl⟩
    · go_wp2
      go_roundw
      case rel => exact ⟨.inr (.inl ⟨rfl, by go_num⟩), trivial⟩
      case measure => simp [intOf]
    · go_wp2
      go_roundw
      case rel => exact ⟨.inr (.inr ⟨rfl, by go_num⟩), trivial⟩
      case measure => simp [intOf]
    · go_wp2_with (go_at_call 21; refine (growB_any (m1 + m2) _ (by omega) (by omega)).mono ?_; rintro e w1 ⟨A0, c0, rfl, hO0, hb1⟩)
      go_loopw [6, 27] (fun v i w2 => CatBW w1 wr.heap.size l1 l2 v i w2) (fun _ i _ => 2 - (intOf i).toNat)
      case atStart => exact ⟨A0, 0, c0, rfl, .inl ⟨rfl, hO0⟩, Below.refl _ _⟩
      case round =>
        obtain ⟨A, m, c, rfl, hC, hb⟩ := hrel
        rename World => w2
        have hbb : Below wr.heap.size wr w2 := hb1.trans hb
        have k0 := (hbb.cell (p := ⟨g, off, none⟩) hg).trans k0'
        have k1 := (hbb.cell (p := ⟨g, off + 1, none⟩) hg).trans k1'
        have hQ1 := hN1.below hbb
        have hQ2 := hN2.below hbb
        clear k0' k1' hN1 hN2
        rcases hC with ⟨rfl, hO⟩ | ⟨rfl, hO⟩ | ⟨rfl, hO⟩
        · go_wp2_with (at_builtin; refine app_nums rfl (.tmp 31) (.tmp 32) 23 rfl wr.heap.size 5 .u8 1 Tryd.underlying23 Tryd.info5 (by omega) A m c [] rfl hO A1 c1 l1 (by rw [H1.out]; rfl) hQ1 (by rw [H1.out]; simp; omega) hbb.size ?_; intro A' n' c' w3 hO3 hG)
          go_roundw
          case rel => exact ⟨A', n', c', rfl, .inr (.inl ⟨rfl, hO3⟩), hb.trans (hG.below hbb.size fun g e => (hO.lt g e).1)⟩
          case measure => simp [intOf]
        · go_wp2_with (at_builtin; refine app_nums rfl (.tmp 31) (.tmp 32) 23 rfl wr.heap.size 5 .u8 1 Tryd.underlying23 Tryd.info5 (by omega) A m c l1 rfl hO A2 c2 l2 (by rw [H2.out]; rfl) hQ2 (by rw [H1.out, H2.out]; omega) hbb.size ?_; intro A' n' c' w3 hO3 hG)
          go_roundw
          case rel => exact ⟨A', n', c', rfl, .inr (.inr ⟨rfl, hO3⟩), hb.trans (hG.below hbb.size fun g e => (hO.lt g e).1)⟩
          case measure => simp [intOf]
        · have hm := hO.len
          rw [List.length_append, H1.out, H2.out] at hm
          subst hm
          go_wp2
          go_ret
          exact ⟨A, c, rfl, hO, hbb⟩
/-- Two rows, one after the other. -/
theorem catB_any (PA : Option Addr) (pc m1 m2 : Nat) (q1 q2 : Part) (w : World) (hP : Parts w PA [q1, q2]) (hN1 : Nums w .u8 q1.1 q1.2.2) (hN2 : Nums w .u8 q2.1 q2.2.2) (H1 : Hid (q1.2.2.length = m1)) (H2 : Hid (q2.2.2.length = m2)) (h1 : 1 ≤ m1) (hm1 : m1 ≤ 400) (hm2 : m2 ≤ 600) :
    Calls Tryd.prog 13 #[.slice PA 2 pc] w fun e w' => ∃ A c, e = .returned (.slice A (m1 + m2) c) ∧ m1 + m2 ≤ c ∧ Nums w' .u8 A (q1.2.2 ++ q2.2.2) ∧ Below w.heap.size w w' := by
  obtain ⟨g, off, rfl, hg, hc⟩ := hP (by simp)
  have k0 := hc 0 q1 rfl
  have k1 := hc 1 q2 rfl
  rw [H1.out, Nat.add_zero] at k0
  rw [H2.out] at k1
  refine (catB_core g m1 m2 q1.2.1 q2.2.1 off pc q1.1 q2.1 q1.2.2 q2.2.2 w hg k0 k1 hN1 hN2 H1 H2 h1 hm1 hm2).mono ?_
  rintro e w' ⟨A, c, he, hO, hb⟩
  obtain ⟨A3, m3, d3, e3, hm3, hmd3⟩ := slice_of_row2 hO
  injection e3 with e4 e5 e6
  subst e4 e5 e6
  exact ⟨A, c, he, hmd3, hO.nums, hb⟩
end Go.Proofs.YtkblmdakejmmhaaDoor

/- Numbers of eight bytes, the lowest first: word.Low and the reference's. -/
namespace Go.Proofs.YtkblmdakejmmhaaDoor
open Go Go.RowKit

set_option maxRecDepth 50000 in
set_option maxHeartbeats 400000 in
theorem split64Z (hi : Bool) (A : Option Addr) (c s : Nat) (l : List Int) (w : World) (h1 : 1 ≤ s) (h8 : s ≤ 8) (hn : l.length * s ≤ 4096) (hA : Nums w .u64 A l) :
    Calls Tryd.prog 74 #[.slice A l.length c, .int .i64 s, .int .i64 (ordN hi)] w fun e w' => ∃ B d ys, e = .returned (.slice B ys.length d) ∧ ys.length ≤ d ∧ Hid (ys = splitB hi s l) ∧ NumsF w.heap.size w' .u8 B ys ∧ Below w.heap.size w w' := by
  obtain ⟨i0, hi0, hz0, hz1, hz2⟩ := info_parts Tryd.info5
  obtain ⟨S, hS⟩ : ∃ S, S = splitB hi s l := ⟨_, rfl⟩
  have hSl : S.length = l.length * s := by rw [hS, splitB_length]
  have HS := hid hS
  have HSl := hid hSl
  have hSb : S.length ≤ 4096 := by omega
  have hi1 : ((l.length * s : Nat) : Int) = (l.length : Int) * (s : Int) := by simp
  have hi2 : 0 ≤ (l.length : Int) * (s : Int) := by omega
  have hi3 : (l.length : Int) * (s : Int) ≤ 4096 := by omega
  have HI := hid hi1
  have hll : l.length ≤ 4096 := Nat.le_trans (Nat.le_mul_of_pos_right _ (by omega)) hn
  clear hS hSl hi1
  go_enter Tryd.func74, Tryd.ntmps74
  go_wp2_with (at_make; refine wpList_make_full _ rfl _ _ 23 rfl w.heap.size 5 i0 _ 1 Tryd.underlying23 hi0 hz0 hz1 .i64 .i64 _ _ S.length rfl rfl ?_ ?_ ?_ ?_ ?_ ?_)
  · rw [HSl.out]; exact HI.out.symm
  · rw [HSl.out]; exact HI.out.symm
  · rw [hz2]; omega
  · unfold maxLen; omega
  · omega
  intro w1 hown hgrow
  have hb1 : Below w.heap.size w w1 := (Below.refl _ _).grown hgrow (Nat.le_refl _) (by simp)
  have hO : Owns w1 w.heap.size 5 .u8 (.slice (some ⟨w.heap.size, 0, none⟩) S.length S.length) (fillK S 0) := by
    rw [fillK_zero]
    unfold Owns
    rw [List.length_replicate, List.map_replicate, ← toList_madeCells_one]
    exact hown
  clear hown hgrow
  go_wp2
  go_loopw [16] (fun i wr => ∃ k : Nat, k ≤ S.length ∧ i = .int .i64 k ∧ Below w.heap.size w wr ∧ Owns wr w.heap.size 5 .u8 (.slice (some ⟨w.heap.size, 0, none⟩) S.length S.length) (fillK S k)) (fun i _ => S.length - (intOf i).toNat)
  case atStart => exact ⟨0, Nat.zero_le _, rfl, hb1, hO⟩
  case round =>
    clear hb1 hO
    obtain ⟨k, hk, rfl, hb, hO⟩ := hrel
    by_cases hlt : k < S.length
    · have hq : k / s < l.length := by
        have := HSl.out
        rw [Nat.div_lt_iff_lt_mul (by omega)]; omega
      have hr : k % s < s := Nat.mod_lt _ (by omega)
      obtain ⟨b1, o1, x, rfl, _, hc1, H1⟩ := (hA.below hb).get hq
      obtain ⟨q, hqe⟩ : ∃ q, q = k / s := ⟨_, rfl⟩
      obtain ⟨r, hre⟩ : ∃ r, r = k % s := ⟨_, rfl⟩
      rw [← hqe] at hq hc1 H1
      rw [← hre] at hr
      have hqi : (k : Int) / (s : Int) = (q : Int) := by rw [hqe]; simp
      have hri : (k : Int) % (s : Int) = (r : Int) := by rw [hre]; simp
      have HQ := hid hqe
      have HR := hid hre
      clear hqe hre
      have hpos : (0 : Int) ≤ k := by omega
      have hlt' : (k : Int) < S.length := by omega
      have hs1 : (1 : Int) ≤ s := by omega
      go_wp2
      have hs0 : ¬ s = 0 := by omega
      have hwq : IntKind.i64.wrap (q : Int) = (q : Int) := IntWalk.i64_in _ (by omega)
      have hti : (k : Int).tmod (s : Int) = (r : Int) := by rw [Int.tmod_eq_emod_of_nonneg (by omega)]; exact hri
      have hwr : IntKind.i64.wrap (r : Int) = (r : Int) := IntWalk.i64_in _ (by omega)
      have hq0 : (0 : Int) ≤ q := by omega
      have hq1 : (q : Int) < l.length := by omega
      obtain ⟨P, hP⟩ : ∃ P, P = 8 * plc hi r s := ⟨_, rfl⟩
      have HP := hid hP
      have hP1 : (P : Int) ≤ 64 := by unfold plc at hP; split at hP <;> omega
      have hP0 : (0 : Int) ≤ P := by omega
      clear hP
      go_still_tail 16, (by kernel_rfl)
      still_call (shift_any hi r s P _ HP.out hr h8)
      repeat still_step
      refine wpStill_nil ?_
      obtain ⟨y, hy, hyf, _⟩ := hO.spot (j := k) (by rw [fillK_length]; exact hlt)
      change wpList _ _ _ _ _ wr.drew
      have hy1 : wr.drew.cell? ⟨w.heap.size, k, none⟩ = some (.int .u8 y) := hy
      have hyf1 : wr.drew.frozen? ⟨w.heap.size, k, none⟩ = false := hyf
      have hb1 : Below w.heap.size w wr.drew := hb.drew
      have hO1 := hO.drew
      clear hO hb hy hyf hc1
      generalize wr.drew = w2 at *
      go_wp2
      go_roundw
      case rel =>
        have hsk : S[k]? = some (x / 2 ^ P % 256) := by
          rw [HS.out, splitB_at hi s l (by have := HSl.out; omega), ← HQ.out, ← HR.out, HP.out]
          simp [List.getD, H1.out, dig]
        exact ⟨k + 1, by omega, by go_num, hb1.setCell (Nat.le_refl _) _, by have h := hO1.store k (x / 2 ^ P % 256); rw [fillK_set S hsk] at h; exact h⟩
      case measure => simp [intOf]; omega
    · go_wp2
      go_ret
      have e : k = S.length := by omega
      subst e
      rw [fillK_end] at hO
      exact ⟨_, _, S, rfl, Nat.le_refl _, HS, hO.fresh, hb⟩
set_option maxRecDepth 50000 in
theorem split64_oneZ (hi : Bool) (b : Nat) (s : Nat) (n : Int) (w : World) (h1 : 1 ≤ s) (h8 : s ≤ 8) (hb : b < w.heap.size) (hc : w.cell? ⟨b, 0, none⟩ = some (.int .u64 n)) :
    Calls Tryd.prog 74 #[.slice (some ⟨b, 0, none⟩) 1 1, .int .i64 s, .int .i64 (ordN hi)] w fun e w' => ∃ B d ys, e = .returned (.slice B ys.length d) ∧ ys.length ≤ d ∧ Hid (ys = splitB hi s [n]) ∧ NumsF w.heap.size w' .u8 B ys ∧ Below w.heap.size w w' :=
  split64Z hi (some ⟨b, 0, none⟩) 1 s [n] w h1 h8 (by simp; omega) (fun _ => ⟨b, 0, rfl, hb, fun i hi => by
    have : i = 0 := by simpa using hi
    subst this
    exact hc⟩)

set_option maxRecDepth 50000 in
set_option maxHeartbeats 400000 in
theorem put_yesZ (hi : Bool) (n : Int) (s : Nat) (w : World) (h : Fits n s) :
    Calls Tryd.prog 63 #[.int .i64 n, .int .i64 s, .int .i64 (ordN hi)] w fun e w' => ∃ B d ys, e = .returned (.tuple #[.slice B ys.length d, .int .i64 0]) ∧ ys.length ≤ d ∧ Hid (ys = splitB hi s [n]) ∧ NumsF w.heap.size w' .u8 B ys ∧ Below w.heap.size w w' := by
  obtain ⟨h1, h8, h0, hg⟩ := h
  rw [Int.toNat_natCast] at hg
  have hgb := (grt_bd s (by omega) (by omega)).2
  have hwn : IntKind.u64.wrap n = n := IntWalk.u64_in _ (by omega)
  go_enter Tryd.func63, Tryd.ntmps63
  go_wp2_with (first | (go_at_call 73; refine (greatest_any s _ (by omega) (by omega)).mono ?_; rintro e w' ⟨rfl, rfl⟩) | (go_at_call 74; refine (split64_oneZ hi _ s n _ (by omega) (by omega) (by simp) (by go_simp)).mono ?_; rintro e w' ⟨B, d, ys, rfl, hyd, HY, hN, hb⟩))
  go_ret2
  exact ⟨B, d, ys, rfl, hyd, HY, hN.less (by simp), ((Below.refl _ _).alloc (Nat.le_refl _) _).trans (hb.mono (by simp))⟩

/-- A length as eight bytes. -/
def le8 (n : Nat) : List Int := splitB false 8 [(n : Int)]
set_option maxRecDepth 50000 in
theorem le8_length (n : Nat) : (le8 n).length = 8 := split_len false 8 n
set_option maxRecDepth 50000 in
theorem le8_byt (n : Nat) : HByt (le8 n) := splitB_byt _ _ _
set_option maxRecDepth 50000 in
theorem wlow8 (n : Nat) (w : World) (hn : n ≤ 4096) : Calls Tryd.prog 62 #[.int .i64 n, .int .i64 8] w fun e w' => ∃ B d, e = .returned (.tuple #[.slice B 8 d, .int .i64 0]) ∧ 8 ≤ d ∧ Nums w' .u8 B (le8 n) ∧ Below w.heap.size w w' := by
  have hf : Fits (n : Int) ((8 : Nat) : Int) := by
    unfold Fits
    rw [Int.toNat_natCast]
    simp [grt]
    omega
  have HL := hid (le8_length n)
  go_enter Tryd.func62, Tryd.ntmps62
  go_wp2_with (go_at_call 63; refine (put_yesZ false n 8 _ hf).mono ?_; rintro e w' ⟨B, d, ys, rfl, hyd, HY, hN, hb⟩)
  obtain ⟨m, hm⟩ : ∃ m, ys.length = m := ⟨_, rfl⟩
  have hy : ys = le8 n := HY.out
  rw [hm] at hyd ⊢
  rw [hy, HL.out] at hm
  rw [hy] at hN
  subst hm
  go_wp2
  go_ret2
  exact ⟨B, d, rfl, hyd, hN.nums, hb⟩
end Go.Proofs.YtkblmdakejmmhaaDoor
