/- Words of 32 bits: sums, exclusive or, rotations; quarter rounds, blocks, the key stream, as numbers. No condition. -/
import Derived.Test.YtcbcahlgafngcaaDoorRows
import Derived.Test.YtcbcahlgafngcaaDoorBase
import Derived.Test.YtcbcahlgafngcaaDoorHMath
import Derived.BigQuiet
import Derived.Deep.QuietTactic
import Derived.StillTailTactics
namespace Go.Proofs.YtcbcahlgafngcaaDoor
open Go.RowKit

/-- A word of 32 bits. -/
def Wd (x : Int) : Prop := 0 ≤ x ∧ x < 4294967296
theorem wd_wrap (x : Int) : Wd (IntKind.u32.wrap x) := by rw [IntKind.wrap_u32]; exact ⟨by omega, by omega⟩
/-- x turned right by n bits. -/
def rot (x : Int) (n : Nat) : Int := x / 2 ^ n + x % 2 ^ n * 2 ^ (32 - n)
theorem pow_split {n : Nat} (h : n ≤ 32) : (2 : Int) ^ n * 2 ^ (32 - n) = 4294967296 := by
  rw [← Int.pow_add, show n + (32 - n) = 32 by omega]; rfl
theorem rot_parts {x : Int} {n : Nat} (h : n ≤ 32) (hx : Wd x) : 0 ≤ x / 2 ^ n ∧ x / 2 ^ n < 2 ^ (32 - n) ∧ 0 ≤ x % 2 ^ n ∧ x % 2 ^ n < 2 ^ n := by
  have hp := Int.pow_pos (n := 2) (m := n) (by omega)
  have hs := pow_split h
  refine ⟨Int.ediv_nonneg hx.1 (by omega), ?_, Int.emod_nonneg _ (by omega), Int.emod_lt_of_pos _ hp⟩
  apply Int.ediv_lt_of_lt_mul hp
  have := hx.2
  rw [Int.mul_comm] at hs
  omega
theorem rot_wd {x : Int} {n : Nat} (h : n ≤ 32) (hx : Wd x) : Wd (rot x n) := by
  obtain ⟨a, b, c, d⟩ := rot_parts h hx
  have hp := Int.pow_pos (n := 2) (m := 32 - n) (by omega)
  have hs := pow_split h
  unfold rot
  have h1 : 0 ≤ x % 2 ^ n * 2 ^ (32 - n) := Int.mul_nonneg c (by omega)
  have h2 : (x % 2 ^ n + 1) * 2 ^ (32 - n) ≤ 2 ^ n * 2 ^ (32 - n) := Int.mul_le_mul_of_nonneg_right (by omega) (by omega)
  rw [Int.add_mul] at h2
  exact ⟨by omega, by omega⟩
theorem wrap_mul_pow {x : Int} {n : Nat} (h : n ≤ 32) (_ : Wd x) : IntKind.u32.wrap (x * 2 ^ (32 - n)) = x % 2 ^ n * 2 ^ (32 - n) := by
  rw [IntKind.wrap_u32]
  have hs := pow_split h
  rw [← hs]
  rw [Int.mul_comm x, Int.mul_comm (2 ^ n), Int.mul_emod_mul_of_pos _ _ (Int.pow_pos (by omega)), Int.mul_comm]
theorem rot_or {x : Int} {n : Nat} (h : n ≤ 32) (hx : Wd x) : bits .or .u32 (x * 2 ^ (32 - n) % 4294967296) (x / 2 ^ n) = rot x n := by
  rw [← IntKind.wrap_u32]
  obtain ⟨a, b, c, d⟩ := rot_parts h hx
  have hr := rot_wd h hx
  have hw := wd_wrap (x * 2 ^ (32 - n))
  have hs := pow_split h
  have hp := Int.pow_pos (n := 2) (m := n) (by omega)
  have hle : x / 2 ^ n ≤ x := Int.ediv_le_self _ hx.1
  have hx2 := hx.2
  rw [u32_or _ _ hw.1 hw.2 a (by omega), wrap_mul_pow h hx, or_apart _ _ _ c a b]
  unfold rot
  omega
/-- The same as a sum. -/
theorem rot_sum {x : Int} {n : Nat} (h : n ≤ 32) (hx : Wd x) : IntKind.u32.wrap (IntKind.u32.wrap (x * 2 ^ (32 - n)) + x / 2 ^ n) = rot x n := by
  have hr := rot_wd h hx
  rw [wrap_mul_pow h hx]
  have e : x % 2 ^ n * 2 ^ (32 - n) + x / 2 ^ n = rot x n := by unfold rot; omega
  rw [e]
  exact IntWalk.u32_in _ ⟨hr.1, by have := hr.2; omega⟩

abbrev xr (a b : Int) : Int := bits .xor .u32 a b
abbrev pl (a b : Int) : Int := (a + b) % 4294967296
theorem nat_lt (x : Int) (h : Wd x) : x.toNat < 2 ^ 32 := by have := h.1; have := h.2; omega
theorem xr_wd {a b : Int} (ha : Wd a) (hb : Wd b) : Wd (xr a b) := by
  show Wd (bits .xor .u32 a b)
  rw [u32_xor _ _ ha.1 ha.2 hb.1 hb.2]
  have := Nat.xor_lt_two_pow (nat_lt a ha) (nat_lt b hb)
  exact ⟨by omega, by omega⟩
theorem pl_wd (a b : Int) : Wd (pl a b) := ⟨by show 0 ≤ (a + b) % 4294967296; omega, by show (a + b) % 4294967296 < 4294967296; omega⟩

/-! A quarter round, half by half. -/
def ha (a b : Int) : Int := pl a b
def hd (n : Nat) (a b d : Int) : Int := rot (xr d (pl a b)) n
def qa1 (a b : Int) : Int := pl a b
def qd1 (a b d : Int) : Int := rot (xr d (qa1 a b)) 16
def qc1 (a b c d : Int) : Int := pl c (qd1 a b d)
def qb1 (a b c d : Int) : Int := rot (xr b (qc1 a b c d)) 20
def qa (a b c d : Int) : Int := pl (qa1 a b) (qb1 a b c d)
def qd (a b c d : Int) : Int := rot (xr (qd1 a b d) (qa a b c d)) 24
def qc (a b c d : Int) : Int := pl (qc1 a b c d) (qd a b c d)
def qb (a b c d : Int) : Int := rot (xr (qb1 a b c d) (qc a b c d)) 25
section
variable {a b c d : Int}
theorem qa1_wd : Wd (qa1 a b) := pl_wd _ _
theorem qd1_wd (hd : Wd d) : Wd (qd1 a b d) := rot_wd (by omega) (xr_wd hd qa1_wd)
theorem qc1_wd : Wd (qc1 a b c d) := pl_wd _ _
theorem qb1_wd (hb : Wd b) : Wd (qb1 a b c d) := rot_wd (by omega) (xr_wd hb qc1_wd)
theorem qa_wd : Wd (qa a b c d) := pl_wd _ _
theorem qd_wd (hd : Wd d) : Wd (qd a b c d) := rot_wd (by omega) (xr_wd (qd1_wd hd) qa_wd)
theorem qc_wd : Wd (qc a b c d) := pl_wd _ _
theorem qb_wd (hb : Wd b) : Wd (qb a b c d) := rot_wd (by omega) (xr_wd (qb1_wd hb) qc_wd)
end
/-- All are words. -/
def Wds (l : List Int) : Prop := ∀ x ∈ l, Wd x
theorem Wds.at_ {l : List Int} (h : Wds l) {i : Nat} {x : Int} (hx : l[i]? = some x) : Wd x := h x (List.mem_of_getElem? hx)
theorem Wds.get {l : List Int} (h : Wds l) (i : Nat) : Wd (l.getD i 0) := by
  rw [List.getD_eq_getElem?_getD]
  cases e : l[i]? with
  | none => exact ⟨by simp, by simp⟩
  | some x => exact h.at_ e
theorem Wds.set {l : List Int} (h : Wds l) (i : Nat) {x : Int} (hx : Wd x) : Wds (l.set i x) := fun y hy => by
  rcases List.mem_or_eq_of_mem_set hy with e | e
  · exact h y e
  · rw [e]; exact hx
theorem Wds.app {l m : List Int} (h : Wds l) (k : Wds m) : Wds (l ++ m) := fun x hx => by
  rcases List.mem_append.1 hx with e | e
  · exact h x e
  · exact k x e
/-- A quarter round of the words at four places. -/
def qAt (l : List Int) (i : Nat × Nat × Nat × Nat) : List Int :=
  let a := l.getD i.1 0; let b := l.getD i.2.1 0; let c := l.getD i.2.2.1 0; let d := l.getD i.2.2.2 0
  (((l.set i.1 (qa a b c d)).set i.2.1 (qb a b c d)).set i.2.2.1 (qc a b c d)).set i.2.2.2 (qd a b c d)
theorem qAt_length (l : List Int) (i : Nat × Nat × Nat × Nat) : (qAt l i).length = l.length := by simp [qAt]
theorem qAt_wds {l : List Int} (h : Wds l) (i : Nat × Nat × Nat × Nat) : Wds (qAt l i) := by
  unfold qAt
  exact (((h.set _ qa_wd).set _ (qb_wd (h.get _))).set _ qc_wd).set _ (qd_wd (h.get _))
def QS : List (Nat × Nat × Nat × Nat) := [(0, 4, 8, 12), (1, 5, 9, 13), (2, 6, 10, 14), (3, 7, 11, 15), (0, 5, 10, 15), (1, 6, 11, 12), (2, 7, 8, 13), (3, 4, 9, 14)]
def QI (n : Nat) : Nat × Nat × Nat × Nat := QS.getD n (0, 0, 0, 0)
/-- So many of the quarter rounds. -/
def qk (l : List Int) : Nat → List Int
  | 0 => l
  | n + 1 => qAt (qk l n) (QI n)
theorem qk_length (l : List Int) (n : Nat) : (qk l n).length = l.length := by induction n with
  | zero => rfl
  | succ n ih => rw [qk, qAt_length, ih]
theorem qk_wds {l : List Int} (h : Wds l) (n : Nat) : Wds (qk l n) := by induction n with
  | zero => exact h
  | succ n ih => exact qAt_wds ih _
/-- So many rounds of all quarters. -/
def rk (l : List Int) : Nat → List Int
  | 0 => l
  | n + 1 => qk (rk l n) 8
theorem rk_length (l : List Int) (n : Nat) : (rk l n).length = l.length := by induction n with
  | zero => rfl
  | succ n ih => rw [rk, qk_length, ih]
theorem rk_wds {l : List Int} (h : Wds l) (n : Nat) : Wds (rk l n) := by induction n with
  | zero => exact h
  | succ n ih => exact qk_wds ih _
/-- The words before the first round. -/
def C4 : List Int := [1634760805, 857760878, 2036477234, 1797285236]
def startL (key nonce : List Int) (count : Int) : List Int := C4 ++ joinB false 4 key ++ [count] ++ joinB false 4 nonce
theorem startL_length {key nonce : List Int} {count : Int} (hk : key.length = 32) (hn : nonce.length = 12) : (startL key nonce count).length = 16 := by
  simp [startL, C4, joinB_length, hk, hn]
theorem joinB_wds (b : List Int) (h : HByt b) : Wds (joinB false 4 b) := fun x hx => by
  obtain ⟨i, hi, rfl⟩ := List.mem_map.1 hx
  have := pval_bd false 4 (chunk 4 b i) (r := 4) (by omega) (chunk_byt h 4 i)
  exact ⟨this.1, by have := this.2; simpa using this⟩
theorem startL_wds {key nonce : List Int} {count : Int} (hk : HByt key) (hn : HByt nonce) (hc : Wd count) : Wds (startL key nonce count) := by
  refine ((Wds.app ?_ (joinB_wds _ hk)).app ?_).app (joinB_wds _ hn)
  · intro x hx
    simp only [C4, List.mem_cons, List.not_mem_nil, or_false] at hx
    rcases hx with rfl | rfl | rfl | rfl <;> exact ⟨by decide, by decide⟩
  · intro x hx
    rw [List.mem_singleton] at hx
    rw [hx]; exact hc
/-- Sums of words, so many of them done. -/
def sumK (l m : List Int) (k : Nat) : List Int := (List.range l.length).map fun i => if i < k then pl (l.getD i 0) (m.getD i 0) else l.getD i 0
theorem sumK_length (l m : List Int) (k : Nat) : (sumK l m k).length = l.length := by simp [sumK]
theorem sumK_at (l m : List Int) (k : Nat) {i : Nat} (hi : i < l.length) : (sumK l m k)[i]? = some (if i < k then pl (l.getD i 0) (m.getD i 0) else l.getD i 0) := by
  unfold sumK
  rw [List.getElem?_map, List.getElem?_range hi]; rfl
theorem sumK_zero (l m : List Int) : sumK l m 0 = l := by
  apply List.ext_getElem?
  intro i
  by_cases hi : i < l.length
  · rw [sumK_at l m 0 hi, if_neg (by omega)]; simp [List.getD, hi]
  · rw [List.getElem?_eq_none (by rw [sumK_length]; omega), List.getElem?_eq_none (by omega)]
theorem sumK_set (l m : List Int) {k : Nat} (hk : k < l.length) : (sumK l m k).set k (pl (l.getD k 0) (m.getD k 0)) = sumK l m (k + 1) := by
  apply List.ext_getElem?
  intro i
  by_cases e : k = i
  · subst e
    rw [List.getElem?_set_self (by rw [sumK_length]; exact hk), sumK_at l m _ hk, if_pos (by omega)]
  · rw [List.getElem?_set_ne e]
    by_cases hi : i < l.length
    · rw [sumK_at l m _ hi, sumK_at l m _ hi]
      by_cases h : i < k
      · rw [if_pos h, if_pos (by omega)]
      · rw [if_neg h, if_neg (by omega)]
    · rw [List.getElem?_eq_none (by rw [sumK_length]; omega), List.getElem?_eq_none (by rw [sumK_length]; omega)]
theorem sumK_wds {l m : List Int} (h : Wds l) (k : Nat) : Wds (sumK l m k) := fun x hx => by
  obtain ⟨i, _, rfl⟩ := List.mem_map.1 hx
  split
  · exact pl_wd _ _
  · exact h.get _
/-- A block. -/
def words (key nonce : List Int) (count : Int) : List Int := let s := startL key nonce count; sumK (rk s 10) s 16
def blockL (key nonce : List Int) (count : Int) : List Int := splitB false 4 (words key nonce count)
theorem words_length {key nonce : List Int} {count : Int} (hk : key.length = 32) (hn : nonce.length = 12) : (words key nonce count).length = 16 := by
  unfold words; rw [sumK_length, rk_length, startL_length hk hn]
theorem blockL_length {key nonce : List Int} {count : Int} (hk : key.length = 32) (hn : nonce.length = 12) : (blockL key nonce count).length = 64 := by
  unfold blockL; rw [splitB_length, words_length hk hn]
theorem blockL_byt (key nonce : List Int) (count : Int) : HByt (blockL key nonce count) := splitB_byt _ _ _
/-- The key stream: so many blocks from a counter on. -/
def strm (key nonce : List Int) (count : Nat) : Nat → List Int
  | 0 => []
  | n + 1 => strm key nonce count n ++ blockL key nonce ((count + n : Nat) : Int)
theorem strm_length {key nonce : List Int} {count : Nat} (hk : key.length = 32) (hn : nonce.length = 12) (n : Nat) : (strm key nonce count n).length = 64 * n := by
  induction n with
  | zero => rfl
  | succ n ih => rw [strm, List.length_append, ih, blockL_length hk hn]; omega
theorem strm_byt (key nonce : List Int) (count n : Nat) : HByt (strm key nonce count n) := by
  induction n with
  | zero => intro x hx; cases hx
  | succ n ih =>
    intro x hx
    rcases List.mem_append.1 hx with h | h
    · exact ih x h
    · exact blockL_byt _ _ _ x h
theorem strm_pre (key nonce : List Int) (count : Nat) {m n : Nat} (h : m ≤ n) : strm key nonce count m <+: strm key nonce count n := by
  induction n with
  | zero =>
    have e : m = 0 := by omega
    rw [e]; exact List.prefix_rfl
  | succ n ih =>
    by_cases e : m = n + 1
    · subst e; exact List.prefix_rfl
    · exact (ih (by omega)).trans (List.prefix_append _ _)
end Go.Proofs.YtcbcahlgafngcaaDoor
