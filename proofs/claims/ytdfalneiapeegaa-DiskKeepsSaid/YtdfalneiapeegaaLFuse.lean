/- With a fuse of n just so many writes go well. -/
import Derived.Test.YtdfalneiapeegaaLAwake
namespace Go.Proofs.Ytdfalneiapeegaa
open Go Go.RowKit Go.Maps

section
variable {lo : Nat} {w : World} {p m : Nat} {D : DK}
theorem dl_write (h : DL lo w p D) (hD : Dok m D) (hm : m ≤ 900) (n : Int) {B : Option Addr} {c l : Nat} {xs : List Int} (hB : Nums w .u8 B xs) (hl : xs.length = l) {e0 : Int} {D1 : DK} (he : writeR D n xs = (e0, D1)) : Calls Try.prog 14 #[.pointer (some ⟨p, 0, none⟩), .int .i64 n, .slice B l c] w fun e w' => e = .returned (.int .i64 e0) ∧ DL lo w' p D1 ∧ Below lo w w' :=
  (dwrite_len _ p m l D n B c xs w h.1 hD hm hB hl).mono fun e w' ⟨h1, h2, hc⟩ => by
    rw [he] at h1 h2
    exact ⟨h1, DL.of h2 h.2 hc.size, chg_lo hc h.2⟩
theorem dl_flush (h : DL lo w p D) (hD : Dok m D) (hm : m ≤ 900) {e0 : Int} {D1 : DK} (he : flushR D = (e0, D1)) : Calls Try.prog 15 #[.pointer (some ⟨p, 0, none⟩)] w fun e w' => e = .returned (.int .i64 e0) ∧ DL lo w' p D1 ∧ Below lo w w' :=
  (dflush_any _ p m D w h.1 hD hm).mono fun e w' ⟨h1, h2, hc⟩ => by
    rw [he] at h1 h2
    exact ⟨h1, DL.of h2 h.2 hc.size, chg_lo hc h.2⟩
theorem dl_fuse (h : DL lo w p D) (n : Int) : Calls Try.prog 24 #[.pointer (some ⟨p, 0, none⟩), .int .i64 n] w fun e w' => e = .returned (.tuple #[]) ∧ DL lo w' p (fuseD D n) ∧ Below lo w w' :=
  (dfuse_any h.1 n).mono fun e w' ⟨h1, h2, hc⟩ => ⟨h1, ⟨h2, Nat.le_trans h.2 hc.size⟩, chg_lo hc h.2⟩
theorem dl_read (h : DL lo w p D) (hD : Dok m D) (n : Int) {e0 : Int} {xs : List Int} {l : Nat} (he : readR D n = (e0, xs)) (hl : xs.length = l) : Calls Try.prog 17 #[.pointer (some ⟨p, 0, none⟩), .int .i64 n] w fun e w' => (∃ B c, e = .returned (.tuple #[.slice B l c, .int .i64 e0]) ∧ NumsF w.heap.size w' .u8 B xs) ∧ Below w.heap.size w w' :=
  (dread_any _ p m D n w h.1 hD).mono fun e w' ⟨B, c, h1, h2, hb⟩ => by
    rw [he] at h1 h2
    rw [hl] at h1
    exact ⟨⟨B, c, h1, h2⟩, hb⟩
/-- A crash whose choices lie in new blocks, from block z on. -/
theorem dl_crash {z : Nat} (h : DS (fun b => lo ≤ b ∧ b < z) w p D) (hlo : lo ≤ w.heap.size) (hD : Dok m D) (hm : m ≤ 900) {B : Option Addr} {c l : Nat} {xs : List Int} (hB : NumsF z w .u8 B xs) (hl : xs.length = l) (hl2 : l ≤ 1000) (hby : Byts xs) : Calls Try.prog 18 #[.pointer (some ⟨p, 0, none⟩), .slice B l c] w fun e w' => e = .returned (.int .i64 0) ∧ DL lo w' p (crashD D xs) ∧ Below lo w w' := by
  subst hl
  refine (dcrash_any _ p m D B c xs w h hD hm (by omega) hby (fun hp => ?_)).mono fun e w' ⟨h1, h2, hc⟩ => ⟨h1, ⟨h2.sub (fun b _ hb => ?_), Nat.le_trans hlo hc.size⟩, hc.below hlo (fun b hb => hb.1)⟩
  · obtain ⟨b, off, e, hz, hlt, hcell⟩ := hB hp
    exact ⟨b, off, e, ⟨fun h => by omega, hlt⟩, hcell⟩
  · rcases hb with h3 | h3
    · exact h3.1
    · omega
end
/- A sector of one byte, in a block that may be written. -/
set_option maxHeartbeats 2000000 in
theorem fillB_any (c : Int) (w : World) :
    Calls Try.prog 20 #[.int .u8 c] w fun e w' => e = .returned (.slice (some ⟨w.heap.size, 0, none⟩) 64 64) ∧ NumsF w.heap.size w' .u8 (some ⟨w.heap.size, 0, none⟩) (fillL c) ∧ Below w.heap.size w w' ∧ w.heap.size < w'.heap.size ∧ Blk w' w.heap.size 5 (ints .u8 (fillL c)) := by
  have hmk := make64
  have hb1 := below_new w (.cells (ints .u8 Z64).toArray 5)
  have hq1 := Blk.new w 5 (ints .u8 Z64)
  obtain ⟨W1, hW1⟩ : ∃ W1, w.alloc (.cells (ints .u8 Z64).toArray 5) = W1 := ⟨_, rfl⟩
  rw [hW1] at hb1 hq1
  obtain ⟨S, hS⟩ : ∃ S, fillL c = S := ⟨_, rfl⟩
  have hS64 : S.length = 64 := by rw [← hS]; exact fillL_len c
  have HSj : Hid (∀ j, j < 64 → S[j]? = some c) := hid (fun j hj => by rw [← hS]; show (List.replicate 64 c)[j]? = _; rw [List.getElem?_replicate, if_pos hj])
  have HQ1 : Hid (Blk W1 w.heap.size 5 (ints .u8 (fillK S 0))) := hid (by rw [fill0 hS64]; exact hq1)
  have HB1 := hid hb1
  have HS64 := hid hS64
  have HW1 := hid hW1
  have HS := hid hS
  rw [hS]
  clear hb1 hq1 hS64 hW1 hS
  go_enter Try.func20, Try.ntmps20
  go_upto_region 3 with (fail)
  rw [HW1.out]
  clear HW1
  go_loopw [8] (fun v wr => ∃ j : Nat, j ≤ 64 ∧ v = .int .i64 j ∧ Hid (Blk wr w.heap.size 5 (ints .u8 (fillK S j))) ∧ Hid (Below w.heap.size w wr)) (fun v _ => 64 - (intOf v).toNat)
  case atStart => exact ⟨0, by decide, rfl, HQ1, HB1⟩
  case round =>
    clear HQ1 HB1
    obtain ⟨j, hj, rfl, HQ, HB⟩ := hrel
    by_cases hjl : j < 64
    · have c6 := HQ.out.cell (fill_cell HS64.out hjl)
      have x6 := HQ.out.free j
      have HQ2 : Hid (Blk (wr.setCell ⟨w.heap.size, j, none⟩ (.int .u8 c)) w.heap.size 5 (ints .u8 (fillK S (j + 1)))) := hid (by
        have h := HQ.out.setI j c
        rw [fillK_set S (HSj.out j hjl)] at h
        exact h)
      have HB2 := hid (clone_put HB.out (.int .u8 c) j)
      have hj0 : (0 : Int) ≤ j := by omega
      have hj64 : (j : Int) < 64 := by omega
      have HJ := hid hjl
      clear hj hjl HQ HB
      go_wp2
      go_roundw
      case rel => exact ⟨j + 1, by have := HJ.out; omega, by go_num, HQ2, HB2⟩
      case measure => have := HJ.out; simp [intOf]; omega
    · obtain rfl : j = 64 := by omega
      have hQ8 : Blk wr w.heap.size 5 (ints .u8 S) := by have h := HQ.out; rwa [fill64 HS64.out] at h
      have HF := hid (hQ8.rw.fresh (lo := w.heap.size) (Nat.le_refl _) hQ8.lt)
      have HL := hid hQ8.lt
      have HQ8 := hid hQ8
      clear HQ hQ8 hj hjl
      go_wp2
      go_ret
      exact ⟨rfl, HF.out, HB.out, HL.out, HQ8.out⟩
def wrs (i : Nat) : List (Nat × List Int) := (List.range i).map fun (j : Nat) => ((0 : Nat), fillL (j : Int))
theorem wrs_len (i : Nat) : (wrs i).length = i := by simp [wrs]
theorem wrs_succ (i : Nat) : wrs (i + 1) = wrs i ++ [(0, fillL (i : Int))] := by simp [wrs, List.range_succ]
theorem wrs_at {i k : Nat} (h : k < i) : (wrs i)[k]? = some (0, fillL (k : Int)) := by simp [wrs, h]
theorem wrs_ok (i : Nat) : Wok 1 (wrs i) := fun x hx => by
  obtain ⟨j, _, e⟩ := List.mem_map.1 hx
  rw [← e]
  exact ⟨Nat.zero_lt_one, fillL_len _⟩
/-- A disk of one sector, with a fuse of N, behind i writes. -/
def Dn (N i : Nat) : DK := ⟨[Z64], wrs i, (N : Int) - i, false, 0⟩
def Df (N : Nat) : DK := ⟨[Z64], wrs N, -1, true, 0⟩
theorem one_sz : Sz [Z64] := fun s hs => by simp at hs; rw [hs]; exact Z64_len
theorem dn_ok {N i : Nat} (hN : N ≤ 255) (hi : i ≤ N) : Dok 255 (Dn N i) := ⟨one_sz, wrs_ok i, by show -1 ≤ (N : Int) - i; omega, by show (N : Int) - i ≤ _; omega, by show (0 : Int) ≤ 0; decide, by show (0 : Int) ≤ _; decide, by show (wrs i).length ≤ 255; rw [wrs_len]; omega, by show 1 ≤ 16384; decide⟩
theorem df_ok {N : Nat} (hN : N ≤ 255) : Dok 255 (Df N) := ⟨one_sz, wrs_ok N, by show (-1 : Int) ≤ -1; decide, by show (-1 : Int) ≤ _; decide, by show (0 : Int) ≤ 0; decide, by show (0 : Int) ≤ _; decide, by show (wrs N).length ≤ 255; rw [wrs_len]; omega, by show 1 ≤ 16384; decide⟩
theorem dn_new (N : Nat) : fuseD (newD 1) N = Dn N 0 := by
  have e : (if (N : Int) < 0 then -1 else (N : Int)) = N := if_neg (by omega)
  show DK.mk (List.replicate 1 Z64) [] (if (N : Int) < 0 then -1 else (N : Int)) false 0 = DK.mk [Z64] (wrs 0) ((N : Int) - (0 : Nat)) false 0
  rw [e]
  simp [wrs]
theorem dn_write {N i : Nat} (hi : i < N) : writeR (Dn N i) 0 (fillL i) = (0, Dn N (i + 1)) := by
  have h1 : (Dn N i).off = false := rfl
  have h2 : ¬ ((0 : Int) < 0 ∨ ((Dn N i).K.length : Int) ≤ 0) := by show ¬ ((0 : Int) < 0 ∨ (1 : Int) ≤ 0); omega
  have h3 : ¬ (Dn N i).fu = 0 := by show ¬ (N : Int) - i = 0; omega
  have h4 : 0 < (Dn N i).fu := by show 0 < (N : Int) - i; omega
  unfold writeR
  rw [if_neg (by rw [h1]; simp), if_neg h2, if_neg (by rw [fillL_len]; simp)]
  have e1 : errB (Dn N i) = 0 := if_neg h3
  have e2 : burnD { Dn N i with W := (Dn N i).W ++ [((0 : Int).toNat, fillL (i : Int))] } = Dn N (i + 1) := by
    unfold burnD
    rw [if_neg h3, if_pos h4]
    show DK.mk [Z64] (wrs i ++ [(0, fillL (i : Int))]) ((N : Int) - i - 1) false 0 = DK.mk [Z64] (wrs (i + 1)) ((N : Int) - (i + 1 : Nat)) false 0
    rw [wrs_succ, show (N : Int) - i - 1 = (N : Int) - (i + 1 : Nat) by omega]
  rw [e1, e2]
theorem dn_flush (N : Nat) : flushR (Dn N N) = (30, Df N) := by
  have h3 : (Dn N N).fu = 0 := by show (N : Int) - N = 0; omega
  unfold flushR
  rw [if_neg (by show ¬ false = true; simp), if_pos h3]
  unfold burnD
  rw [if_pos h3]
  rfl
theorem df_write (N : Nat) (xs : List Int) : writeR (Df N) 0 xs = (30, Df N) := if_pos rfl
theorem df_flush (N : Nat) : flushR (Df N) = (30, Df N) := if_pos rfl
theorem df_read (N : Nat) : readR (Df N) 0 = (30, []) := if_pos rfl
/-- What is kept behind the crash. -/
def outL (N m : Nat) : List Int := if N = 0 then Z64 else tearS (fillL ((N : Int) - 1)) Z64 m
theorem outL_len (N m : Nat) (hm : m ≤ 64) : (outL N m).length = 64 := by
  unfold outL
  split
  · exact Z64_len
  · exact tearS_length (fillL_len _) Z64_len hm
theorem tear_tear (d e was : List Int) {m : Nat} (hm : m ≤ 64) (he : e.length = 64) : tearS d (tearS e was m) m = tearS d was m := by
  unfold tearS
  congr 1
  rw [List.drop_append, List.drop_eq_nil_of_le (by simp; omega), List.nil_append]
  simp [he]
  congr 1
  omega
theorem torn_out (N : Nat) (c : Int) : ∀ k, k ≤ N → tornN [Z64] (wrs N) (List.replicate N c) k = [outL k (min c.toNat 64)]
  | 0, _ => rfl
  | k + 1, h => by
    rw [tornN_succ (wrs_at (show k < N by omega)), torn_out N c k (by omega)]
    have e1 : ch (List.replicate N c) k = min c.toNat 64 := by
      unfold ch
      rw [if_pos (by simp; omega), getD_of (by rw [List.getElem?_replicate, if_pos (by omega)])]
    rw [e1]
    show [tearS (fillL (k : Int)) (outL k (min c.toNat 64)) (min c.toNat 64)] = [outL (k + 1) (min c.toNat 64)]
    have e2 : outL (k + 1) (min c.toNat 64) = tearS (fillL (k : Int)) Z64 (min c.toNat 64) := by
      unfold outL
      rw [if_neg (Nat.succ_ne_zero k), show (((k + 1 : Nat) : Int) - 1) = (k : Int) by omega]
    rw [e2]
    congr 1
    by_cases hk : k = 0
    · subst hk; rfl
    · unfold outL
      rw [if_neg hk]
      exact tear_tear _ _ _ (by omega) (fillL_len _)
def De (N m : Nat) : DK := ⟨[outL N m], [], -1, false, 1⟩
theorem df_crash (N : Nat) (c : Int) : crashD (Df N) (List.replicate N c) = De N (min c.toNat 64) := by
  show DK.mk (tornN [Z64] (wrs N) (List.replicate N c) (wrs N).length) [] (-1) false (0 + 1) = De N (min c.toNat 64)
  rw [wrs_len, torn_out N c N (Nat.le_refl _)]
  rfl
theorem de_ok {N m : Nat} (hm : m ≤ 64) : Dok 255 (De N m) := ⟨fun s hs => by simp [De] at hs; rw [hs]; exact outL_len N m hm, Wok.nil _, by show (-1 : Int) ≤ -1; decide, by show (-1 : Int) ≤ _; decide, by show (0 : Int) ≤ 1; decide, by show (1 : Int) ≤ _; decide, by show 0 ≤ 255; decide, by show 1 ≤ 16384; decide⟩
theorem de_read (N m : Nat) : readR (De N m) 0 = (0, outL N m) := rfl
theorem de_write (N m : Nat) : ∃ D, writeR (De N m) 0 (fillL 1) = (0, D) ∧ ∃ D', flushR D = (0, D') := by
  refine ⟨⟨[outL N m], [(0, fillL 1)], -1, false, 1⟩, ?_, ?_⟩
  · unfold writeR
    rw [if_neg (by show ¬ false = true; simp), if_neg (by show ¬ ((0 : Int) < 0 ∨ (1 : Int) ≤ 0); omega), if_neg (by rw [fillL_len]; simp)]
    rfl
  · exact ⟨_, rfl⟩
theorem want_out {N m : Nat} (hm : m ≤ 64) : fillK (fillL ((N : Int) - 1)) (if N = 0 then 0 else m) = outL N m := by
  unfold outL
  by_cases h : N = 0
  · rw [if_pos h, if_pos h, fill0 (fillL_len _)]
  · rw [if_neg h, if_neg h]
    apply List.ext_getElem?
    intro i
    rw [fillK_get, tearS_get _ _ _ _ (fillL_len _) hm, fillL_len]
    by_cases h1 : i < m
    · rw [if_pos (by omega), if_pos h1, if_pos h1]
      exact (getD_at (by rw [fillL_len]; omega)).symm
    · rw [if_neg h1, if_neg h1]
      by_cases h2 : i < 64
      · rw [if_pos h2]
        show some 0 = (List.replicate 64 (0 : Int))[i]?
        rw [List.getElem?_replicate, if_pos h2]
      · rw [if_neg h2]
        show none = (List.replicate 64 (0 : Int))[i]?
        rw [List.getElem?_replicate, if_neg h2]
end Go.Proofs.Ytdfalneiapeegaa
