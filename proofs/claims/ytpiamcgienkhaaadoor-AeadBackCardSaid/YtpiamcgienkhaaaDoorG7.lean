/- Texts of this proof, laid together: CMath, CHid, CQuarter, DLeft. -/
import Derived.Test.YtpiamcgienkhaaaDoorRows
import Derived.Test.YtpiamcgienkhaaaDoorBase
import Derived.Test.YtpiamcgienkhaaaDoorHMath
import Derived.BigQuiet
import Derived.Deep.QuietTactic
import Derived.StillTailTactics
/- Words of 32 bits: sums, exclusive or, rotations; quarter rounds, blocks, the key stream, as numbers. No condition. -/
namespace Go.Proofs.YtpiamcgienkhaaaDoor
open Go.RowKit

/-- A word of 32 bits. -/
def Wd (x : Int) : Prop := 0 ≤ x ∧ x < 4294967296
set_option maxRecDepth 50000 in
theorem wd_wrap (x : Int) : Wd (IntKind.u32.wrap x) := by rw [IntKind.wrap_u32]; exact ⟨by omega, by omega⟩
/-- x turned right by n bits. -/
def rot (x : Int) (n : Nat) : Int := x / 2 ^ n + x % 2 ^ n * 2 ^ (32 - n)
set_option maxRecDepth 50000 in
theorem pow_split {n : Nat} (h : n ≤ 32) : (2 : Int) ^ n * 2 ^ (32 - n) = 4294967296 := by
  rw [← Int.pow_add, show n + (32 - n) = 32 by omega]; rfl
set_option maxRecDepth 50000 in
theorem rot_parts {x : Int} {n : Nat} (h : n ≤ 32) (hx : Wd x) : 0 ≤ x / 2 ^ n ∧ x / 2 ^ n < 2 ^ (32 - n) ∧ 0 ≤ x % 2 ^ n ∧ x % 2 ^ n < 2 ^ n := by
  have hp := Int.pow_pos (n := 2) (m := n) (by omega)
  have hs := pow_split h
  refine ⟨Int.ediv_nonneg hx.1 (by omega), ?_, Int.emod_nonneg _ (by omega), Int.emod_lt_of_pos _ hp⟩
  apply Int.ediv_lt_of_lt_mul hp
  have := hx.2
  rw [Int.mul_comm] at hs
  omega
set_option maxRecDepth 50000 in
theorem rot_wd {x : Int} {n : Nat} (h : n ≤ 32) (hx : Wd x) : Wd (rot x n) := by
  obtain ⟨a, b, c, d⟩ := rot_parts h hx
  have hp := Int.pow_pos (n := 2) (m := 32 - n) (by omega)
  have hs := pow_split h
  unfold rot
  have h1 : 0 ≤ x % 2 ^ n * 2 ^ (32 - n) := Int.mul_nonneg c (by omega)
  have h2 : (x % 2 ^ n + 1) * 2 ^ (32 - n) ≤ 2 ^ n * 2 ^ (32 - n) := Int.mul_le_mul_of_nonneg_right (by omega) (by omega)
  rw [Int.add_mul] at h2
  exact ⟨by omega, by omega⟩
set_option maxRecDepth 50000 in
theorem wrap_mul_pow {x : Int} {n : Nat} (h : n ≤ 32) (_ : Wd x) : IntKind.u32.wrap (x * 2 ^ (32 - n)) = x % 2 ^ n * 2 ^ (32 - n) := by
  rw [IntKind.wrap_u32]
  have hs := pow_split h
  rw [← hs]
  rw [Int.mul_comm x, Int.mul_comm (2 ^ n), Int.mul_emod_mul_of_pos _ _ (Int.pow_pos (by omega)), Int.mul_comm]
set_option maxRecDepth 50000 in
theorem rot_or {x : Int} {n : Nat} (h : n ≤ 32) (hx : Wd x) : bits .or .u32 (x * 2 ^ (32 - n) % 4294967296) (x / 2 ^ n) = rot x n := by
  rw [← IntKind.wrap_u32]
  obtain ⟨a, b, c, d⟩ := rot_parts h hx
  have hr := rot_wd h hx
  have hw := wd_wrap (x * 2 ^ (32 - n))
  have hs := pow_split h
  have hp := Int.pow_pos (n := 2) (m := n) (by omega)
  have hle : x / 2 ^ n ≤ x := Int.ediv_le_self _ hx.1
  have hx2 := hx.2
  rw [u32_or _ _ hw.1 hw.2 a (by omega), wrap_mul_pow h hx, or_apart _ _ _ c a b]
  unfold rot
  omega
set_option maxRecDepth 50000 in
/-- The same as a sum. -/
theorem rot_sum {x : Int} {n : Nat} (h : n ≤ 32) (hx : Wd x) : IntKind.u32.wrap (IntKind.u32.wrap (x * 2 ^ (32 - n)) + x / 2 ^ n) = rot x n := by
  have hr := rot_wd h hx
  rw [wrap_mul_pow h hx]
  have e : x % 2 ^ n * 2 ^ (32 - n) + x / 2 ^ n = rot x n := by unfold rot; omega
  rw [e]
  exact IntWalk.u32_in _ ⟨hr.1, by have := hr.2; omega⟩

abbrev xr (a b : Int) : Int := bits .xor .u32 a b
abbrev pl (a b : Int) : Int := (a + b) % 4294967296
set_option maxRecDepth 50000 in
theorem nat_lt (x : Int) (h : Wd x) : x.toNat < 2 ^ 32 := by have := h.1; have := h.2; omega
set_option maxRecDepth 50000 in
theorem xr_wd {a b : Int} (ha : Wd a) (hb : Wd b) : Wd (xr a b) := by
  show Wd (bits .xor .u32 a b)
  rw [u32_xor _ _ ha.1 ha.2 hb.1 hb.2]
  have := Nat.xor_lt_two_pow (nat_lt a ha) (nat_lt b hb)
  exact ⟨by omega, by omega⟩
set_option maxRecDepth 50000 in
theorem pl_wd (a b : Int) : Wd (pl a b) := ⟨by show 0 ≤ (a + b) % 4294967296; omega, by show (a + b) % 4294967296 < 4294967296; omega⟩

/-! A quarter round, half by half. -/
def ha (a b : Int) : Int := pl a b
def hd (n : Nat) (a b d : Int) : Int := rot (xr d (pl a b)) n
def qa1 (a b : Int) : Int := pl a b
def qd1 (a b d : Int) : Int := rot (xr d (qa1 a b)) 16
def qc1 (a b c d : Int) : Int := pl c (qd1 a b d)
def qb1 (a b c d : Int) : Int := rot (xr b (qc1 a b c d)) 20
def qa (a b c d : Int) : Int := pl (qa1 a b) (qb1 a b c d)
def qd (a b c d : Int) : Int := rot (xr (qd1 a b d) (qa a b c d)) 24
def qc (a b c d : Int) : Int := pl (qc1 a b c d) (qd a b c d)
def qb (a b c d : Int) : Int := rot (xr (qb1 a b c d) (qc a b c d)) 25
section
variable {a b c d : Int}
set_option maxRecDepth 50000 in
theorem qa1_wd : Wd (qa1 a b) := pl_wd _ _
set_option maxRecDepth 50000 in
theorem qd1_wd (hd : Wd d) : Wd (qd1 a b d) := rot_wd (by omega) (xr_wd hd qa1_wd)
set_option maxRecDepth 50000 in
theorem qc1_wd : Wd (qc1 a b c d) := pl_wd _ _
set_option maxRecDepth 50000 in
theorem qb1_wd (hb : Wd b) : Wd (qb1 a b c d) := rot_wd (by omega) (xr_wd hb qc1_wd)
set_option maxRecDepth 50000 in
theorem qa_wd : Wd (qa a b c d) := pl_wd _ _
set_option maxRecDepth 50000 in
theorem qd_wd (hd : Wd d) : Wd (qd a b c d) := rot_wd (by omega) (xr_wd (qd1_wd hd) qa_wd)
set_option maxRecDepth 50000 in
theorem qc_wd : Wd (qc a b c d) := pl_wd _ _
set_option maxRecDepth 50000 in
theorem qb_wd (hb : Wd b) : Wd (qb a b c d) := rot_wd (by omega) (xr_wd (qb1_wd hb) qc_wd)
end
/-- All are words. -/
def Wds (l : List Int) : Prop := ∀ x ∈ l, Wd x
set_option maxRecDepth 50000 in
theorem Wds.at_ {l : List Int} (h : Wds l) {i : Nat} {x : Int} (hx : l[i]? = some x) : Wd x := h x (List.mem_of_getElem? hx)
set_option maxRecDepth 50000 in
theorem Wds.get {l : List Int} (h : Wds l) (i : Nat) : Wd (l.getD i 0) := by
  rw [List.getD_eq_getElem?_getD]
  cases e : l[i]? with
  | none => exact ⟨by simp, by simp⟩
  | some x => exact h.at_ e
set_option maxRecDepth 50000 in
theorem Wds.set {l : List Int} (h : Wds l) (i : Nat) {x : Int} (hx : Wd x) : Wds (l.set i x) := fun y hy => by
  rcases List.mem_or_eq_of_mem_set hy with e | e
  · exact h y e
  · rw [e]; exact hx
set_option maxRecDepth 50000 in
theorem Wds.app {l m : List Int} (h : Wds l) (k : Wds m) : Wds (l ++ m) := fun x hx => by
  rcases List.mem_append.1 hx with e | e
  · exact h x e
  · exact k x e
/-- A quarter round of the words at four places. -/
def qAt (l : List Int) (i : Nat × Nat × Nat × Nat) : List Int :=
  let a := l.getD i.1 0; let b := l.getD i.2.1 0; let c := l.getD i.2.2.1 0; let d := l.getD i.2.2.2 0
  (((l.set i.1 (qa a b c d)).set i.2.1 (qb a b c d)).set i.2.2.1 (qc a b c d)).set i.2.2.2 (qd a b c d)
set_option maxRecDepth 50000 in
theorem qAt_length (l : List Int) (i : Nat × Nat × Nat × Nat) : (qAt l i).length = l.length := by simp [qAt]
set_option maxRecDepth 50000 in
theorem qAt_wds {l : List Int} (h : Wds l) (i : Nat × Nat × Nat × Nat) : Wds (qAt l i) := by
  unfold qAt
  exact (((h.set _ qa_wd).set _ (qb_wd (h.get _))).set _ qc_wd).set _ (qd_wd (h.get _))
def QS : List (Nat × Nat × Nat × Nat) := [(0, 4, 8, 12), (1, 5, 9, 13), (2, 6, 10, 14), (3, 7, 11, 15), (0, 5, 10, 15), (1, 6, 11, 12), (2, 7, 8, 13), (3, 4, 9, 14)]
def QI (n : Nat) : Nat × Nat × Nat × Nat := QS.getD n (0, 0, 0, 0)
/-- So many of the quarter rounds. -/
def qk (l : List Int) : Nat → List Int
  | 0 => l
  | n + 1 => qAt (qk l n) (QI n)
set_option maxRecDepth 50000 in
theorem qk_length (l : List Int) (n : Nat) : (qk l n).length = l.length := by induction n with
  | zero => rfl
  | succ n ih => rw [qk, qAt_length, ih]
set_option maxRecDepth 50000 in
theorem qk_wds {l : List Int} (h : Wds l) (n : Nat) : Wds (qk l n) := by induction n with
  | zero => exact h
  | succ n ih => exact qAt_wds ih _
/-- So many rounds of all quarters. -/
def rk (l : List Int) : Nat → List Int
  | 0 => l
  | n + 1 => qk (rk l n) 8
set_option maxRecDepth 50000 in
theorem rk_length (l : List Int) (n : Nat) : (rk l n).length = l.length := by induction n with
  | zero => rfl
  | succ n ih => rw [rk, qk_length, ih]
set_option maxRecDepth 50000 in
theorem rk_wds {l : List Int} (h : Wds l) (n : Nat) : Wds (rk l n) := by induction n with
  | zero => exact h
  | succ n ih => exact qk_wds ih _
/-- The words before the first round. -/
def C4 : List Int := [1634760805, 857760878, 2036477234, 1797285236]
def startL (key nonce : List Int) (count : Int) : List Int := C4 ++ joinB false 4 key ++ [count] ++ joinB false 4 nonce
set_option maxRecDepth 50000 in
theorem startL_length {key nonce : List Int} {count : Int} (hk : key.length = 32) (hn : nonce.length = 12) : (startL key nonce count).length = 16 := by
  simp [startL, C4, joinB_length, hk, hn]
set_option maxRecDepth 50000 in
theorem joinB_wds (b : List Int) (h : HByt b) : Wds (joinB false 4 b) := fun x hx => by
  obtain ⟨i, hi, rfl⟩ := List.mem_map.1 hx
  have := pval_bd false 4 (chunk 4 b i) (r := 4) (by omega) (chunk_byt h 4 i)
  exact ⟨this.1, by have := this.2; simpa using this⟩
set_option maxRecDepth 50000 in
theorem startL_wds {key nonce : List Int} {count : Int} (hk : HByt key) (hn : HByt nonce) (hc : Wd count) : Wds (startL key nonce count) := by
  refine ((Wds.app ?_ (joinB_wds _ hk)).app ?_).app (joinB_wds _ hn)
  · intro x hx
    simp only [C4, List.mem_cons, List.not_mem_nil, or_false] at hx
    rcases hx with rfl | rfl | rfl | rfl <;> exact ⟨by decide, by decide⟩
  · intro x hx
    rw [List.mem_singleton] at hx
    rw [hx]; exact hc
/-- Sums of words, so many of them done. -/
def sumK (l m : List Int) (k : Nat) : List Int := (List.range l.length).map fun i => if i < k then pl (l.getD i 0) (m.getD i 0) else l.getD i 0
set_option maxRecDepth 50000 in
theorem sumK_length (l m : List Int) (k : Nat) : (sumK l m k).length = l.length := by simp [sumK]
set_option maxRecDepth 50000 in
theorem sumK_at (l m : List Int) (k : Nat) {i : Nat} (hi : i < l.length) : (sumK l m k)[i]? = some (if i < k then pl (l.getD i 0) (m.getD i 0) else l.getD i 0) := by
  unfold sumK
  rw [List.getElem?_map, List.getElem?_range hi]; rfl
set_option maxRecDepth 50000 in
theorem sumK_zero (l m : List Int) : sumK l m 0 = l := by
  apply List.ext_getElem?
  intro i
  by_cases hi : i < l.length
  · rw [sumK_at l m 0 hi, if_neg (by omega)]; simp [List.getD, hi]
  · rw [List.getElem?_eq_none (by rw [sumK_length]; omega), List.getElem?_eq_none (by omega)]
set_option maxRecDepth 50000 in
theorem sumK_set (l m : List Int) {k : Nat} (hk : k < l.length) : (sumK l m k).set k (pl (l.getD k 0) (m.getD k 0)) = sumK l m (k + 1) := by
  apply List.ext_getElem?
  intro i
  by_cases e : k = i
  · subst e
    rw [List.getElem?_set_self (by rw [sumK_length]; exact hk), sumK_at l m _ hk, if_pos (by omega)]
  · rw [List.getElem?_set_ne e]
    by_cases hi : i < l.length
    · rw [sumK_at l m _ hi, sumK_at l m _ hi]
      by_cases h : i < k
      · rw [if_pos h, if_pos (by omega)]
      · rw [if_neg h, if_neg (by omega)]
    · rw [List.getElem?_eq_none (by rw [sumK_length]; omega), List.getElem?_eq_none (by rw [sumK_length]; omega)]
set_option maxRecDepth 50000 in
theorem sumK_wds {l m : List Int} (h : Wds l) (k : Nat) : Wds (sumK l m k) := fun x hx => by
  obtain ⟨i, _, rfl⟩ := List.mem_map.1 hx
  split
  · exact pl_wd _ _
  · exact h.get _
/-- A block. -/
def words (key nonce : List Int) (count : Int) : List Int := let s := startL key nonce count; sumK (rk s 10) s 16
def blockL (key nonce : List Int) (count : Int) : List Int := splitB false 4 (words key nonce count)
set_option maxRecDepth 50000 in
theorem words_length {key nonce : List Int} {count : Int} (hk : key.length = 32) (hn : nonce.length = 12) : (words key nonce count).length = 16 := by
  unfold words; rw [sumK_length, rk_length, startL_length hk hn]
set_option maxRecDepth 50000 in
theorem blockL_length {key nonce : List Int} {count : Int} (hk : key.length = 32) (hn : nonce.length = 12) : (blockL key nonce count).length = 64 := by
  unfold blockL; rw [splitB_length, words_length hk hn]
set_option maxRecDepth 50000 in
theorem blockL_byt (key nonce : List Int) (count : Int) : HByt (blockL key nonce count) := splitB_byt _ _ _
/-- The key stream: so many blocks from a counter on. -/
def strm (key nonce : List Int) (count : Nat) : Nat → List Int
  | 0 => []
  | n + 1 => strm key nonce count n ++ blockL key nonce ((count + n : Nat) : Int)
set_option maxRecDepth 50000 in
theorem strm_length {key nonce : List Int} {count : Nat} (hk : key.length = 32) (hn : nonce.length = 12) (n : Nat) : (strm key nonce count n).length = 64 * n := by
  induction n with
  | zero => rfl
  | succ n ih => rw [strm, List.length_append, ih, blockL_length hk hn]; omega
set_option maxRecDepth 50000 in
theorem strm_byt (key nonce : List Int) (count n : Nat) : HByt (strm key nonce count n) := by
  induction n with
  | zero => intro x hx; cases hx
  | succ n ih =>
    intro x hx
    rcases List.mem_append.1 hx with h | h
    · exact ih x h
    · exact blockL_byt _ _ _ x h
set_option maxRecDepth 50000 in
theorem strm_pre (key nonce : List Int) (count : Nat) {m n : Nat} (h : m ≤ n) : strm key nonce count m <+: strm key nonce count n := by
  induction n with
  | zero =>
    have e : m = 0 := by omega
    rw [e]; exact List.prefix_rfl
  | succ n ih =>
    by_cases e : m = n + 1
    · subst e; exact List.prefix_rfl
    · exact (ih (by omega)).trans (List.prefix_append _ _)
end Go.Proofs.YtpiamcgienkhaaaDoor

/- Bytes combined with the key stream, as numbers. No condition. -/
namespace Go.Proofs.YtpiamcgienkhaaaDoor
open Go.RowKit

abbrev xb (a b : Int) : Int := bits .xor .u8 a b
set_option maxRecDepth 50000 in
theorem nat_lt8 (x : Int) (h : 0 ≤ x ∧ x < 256) : x.toNat < 2 ^ 8 := by have := h.1; have := h.2; omega
set_option maxRecDepth 50000 in
theorem xb_byt {a b : Int} (ha : 0 ≤ a ∧ a < 256) (hb : 0 ≤ b ∧ b < 256) : 0 ≤ xb a b ∧ xb a b < 256 := by
  show 0 ≤ bits .xor .u8 a b ∧ bits .xor .u8 a b < 256
  rw [u8_xor _ _ ha.1 ha.2 hb.1 hb.2]
  have := Nat.xor_lt_two_pow (nat_lt8 a ha) (nat_lt8 b hb)
  exact ⟨by omega, by omega⟩
set_option maxRecDepth 50000 in
theorem xb_twice {a b : Int} (ha : 0 ≤ a ∧ a < 256) (hb : 0 ≤ b ∧ b < 256) : xb (xb a b) b = a := by
  have h := xb_byt ha hb
  show bits .xor .u8 (xb a b) b = a
  rw [u8_xor _ _ h.1 h.2 hb.1 hb.2]
  show (((bits .xor .u8 a b).toNat ^^^ b.toNat : Nat) : Int) = a
  rw [u8_xor _ _ ha.1 ha.2 hb.1 hb.2, Int.toNat_natCast, Nat.xor_assoc, Nat.xor_self, Nat.xor_zero]
  omega
def hideL (b s : List Int) : List Int := List.zipWith xb b s
set_option maxRecDepth 50000 in
theorem hideL_length {b s : List Int} (h : b.length ≤ s.length) : (hideL b s).length = b.length := by simp [hideL]; omega
set_option maxRecDepth 50000 in
theorem hideL_at {b s : List Int} {i : Nat} {x y : Int} (hx : b[i]? = some x) (hy : s[i]? = some y) : (hideL b s)[i]? = some (xb x y) := by
  unfold hideL
  rw [List.getElem?_zipWith, hx, hy]
set_option maxRecDepth 50000 in
theorem hideL_byt {b s : List Int} (hb : HByt b) (hs : HByt s) : HByt (hideL b s) := fun z hz => by
  obtain ⟨i, hi⟩ := List.mem_iff_getElem?.1 hz
  unfold hideL at hi
  rw [List.getElem?_zipWith] at hi
  cases h1 : b[i]? with
  | none => rw [h1] at hi; simp at hi
  | some x =>
    cases h2 : s[i]? with
    | none => rw [h1, h2] at hi; simp at hi
    | some y =>
      rw [h1, h2] at hi
      simp at hi
      rw [← hi]
      exact xb_byt (hb.at_ h1) (hs.at_ h2)
set_option maxRecDepth 50000 in
theorem hideL_twice {b s : List Int} (hb : HByt b) (hs : HByt s) (h : b.length ≤ s.length) : hideL (hideL b s) s = b := by
  apply List.ext_getElem?
  intro i
  by_cases hi : i < b.length
  · obtain ⟨x, hx⟩ : ∃ x, b[i]? = some x := ⟨b[i], by simp [hi]⟩
    have hi2 : i < s.length := by omega
    obtain ⟨y, hy⟩ : ∃ y, s[i]? = some y := ⟨s[i], by simp [hi2]⟩
    rw [hideL_at (hideL_at hx hy) hy, hx, xb_twice (hb.at_ hx) (hs.at_ hy)]
  · rw [List.getElem?_eq_none (by rw [hideL_length (by rw [hideL_length h]; exact h), hideL_length h]; omega), List.getElem?_eq_none (by omega)]
set_option maxRecDepth 50000 in
theorem hideL_take (b s : List Int) (k : Nat) : hideL (b.take k) s = (hideL b s).take k := by
  apply List.ext_getElem?
  intro i
  unfold hideL
  rw [List.getElem?_zipWith, List.getElem?_take, List.getElem?_take]
  by_cases h : i < k
  · rw [if_pos h, if_pos h, List.getElem?_zipWith]
  · rw [if_neg h, if_neg h]
set_option maxRecDepth 50000 in
/-- Only as much of the stream as there are bytes matters. -/
theorem hideL_more {b s t : List Int} (h : s <+: t) (hl : b.length ≤ s.length) : hideL b t = hideL b s := by
  obtain ⟨r, rfl⟩ := h
  apply List.ext_getElem?
  intro i
  unfold hideL
  rw [List.getElem?_zipWith, List.getElem?_zipWith]
  by_cases hi : i < b.length
  · rw [List.getElem?_append_left (by omega)]
  · rw [List.getElem?_eq_none (l := b) (by omega)]
set_option maxRecDepth 50000 in
theorem hideL_len_le (b s : List Int) : (hideL b s).length ≤ s.length := by simp [hideL]; omega
set_option maxRecDepth 50000 in
theorem hideL_len {b s : List Int} (h : s.length ≤ b.length) : (hideL b s).length = s.length := by simp [hideL]; omega
set_option maxRecDepth 50000 in
theorem hideL_snoc {b l : List Int} {x y : Int} (hx : b[l.length]? = some x) : hideL b (l ++ [y]) = hideL b l ++ [xb x y] := by
  have hl := (List.getElem?_eq_some_iff.1 hx).1
  apply List.ext_getElem?
  intro i
  by_cases h : i < l.length
  · rw [List.getElem?_append_left (by rw [hideL_len (by omega)]; exact h)]
    unfold hideL
    rw [List.getElem?_zipWith, List.getElem?_zipWith, List.getElem?_append_left h]
  · rw [List.getElem?_append_right (by rw [hideL_len (by omega)]; omega), hideL_len (by omega)]
    unfold hideL
    rw [List.getElem?_zipWith, List.getElem?_append_right (by omega)]
    by_cases e : i = l.length
    · subst e; rw [hx]; simp
    · rw [List.getElem?_eq_none (l := [y]) (by simp; omega), List.getElem?_eq_none (l := [xb x y]) (by simp; omega)]
      cases b[i]? <;> rfl
set_option maxRecDepth 50000 in
/-- What goes behind the bytes does not matter. -/
theorem hideL_over {b l : List Int} (y : List Int) (h : b.length ≤ l.length) : hideL b (l ++ y) = hideL b l := hideL_more (List.prefix_append l y) h
set_option maxRecDepth 50000 in
theorem strm_at {key nonce : List Int} {c : Nat} (hk : key.length = 32) (hn : nonce.length = 12) : ∀ (n : Nat) {k j : Nat}, k < n → j < 64 → (strm key nonce c n)[64 * k + j]? = (blockL key nonce ((c + k : Nat) : Int))[j]?
  | 0, _, _, h, _ => by omega
  | n + 1, k, j, h, hj => by
    rw [strm]
    by_cases e : k < n
    · rw [List.getElem?_append_left (by rw [strm_length hk hn]; omega)]
      exact strm_at hk hn n e hj
    · have e : k = n := by omega
      subst e
      rw [List.getElem?_append_right (by rw [strm_length hk hn]; omega), strm_length hk hn]
      congr 1; omega
end Go.Proofs.YtpiamcgienkhaaaDoor

/- Rotations of package bits, quarter rounds. -/
namespace Go.Proofs.YtpiamcgienkhaaaDoor
open Go.RowKit

set_option maxRecDepth 50000 in
theorem rl_16 (x y : Int) (w : World) (h : Hid (Wd x)) (hy : Hid (rot x 16 = y)) :
    Calls Tryd.prog 55 #[.int .u32 x, .int .i64 16] w fun e w' => e = .returned (.int .u32 y) ∧ w = w' := by
  have k1 : bits .and .u64 16 31 = 16 := by kernel_rfl
  go_enter Tryd.func55, Tryd.ntmps55
  go_wp2
  go_ret
  exact ⟨ret_int (by rw [← hy.out]; have := rot_or (n := 16) (by omega) h.out; simpa using this), rfl⟩
set_option maxRecDepth 50000 in
theorem rl_12 (x y : Int) (w : World) (h : Hid (Wd x)) (hy : Hid (rot x 20 = y)) :
    Calls Tryd.prog 55 #[.int .u32 x, .int .i64 12] w fun e w' => e = .returned (.int .u32 y) ∧ w = w' := by
  have k1 : bits .and .u64 12 31 = 12 := by kernel_rfl
  go_enter Tryd.func55, Tryd.ntmps55
  go_wp2
  go_ret
  exact ⟨ret_int (by rw [← hy.out]; have := rot_or (n := 20) (by omega) h.out; simpa using this), rfl⟩
set_option maxRecDepth 50000 in
theorem rl_8 (x y : Int) (w : World) (h : Hid (Wd x)) (hy : Hid (rot x 24 = y)) :
    Calls Tryd.prog 55 #[.int .u32 x, .int .i64 8] w fun e w' => e = .returned (.int .u32 y) ∧ w = w' := by
  have k1 : bits .and .u64 8 31 = 8 := by kernel_rfl
  go_enter Tryd.func55, Tryd.ntmps55
  go_wp2
  go_ret
  exact ⟨ret_int (by rw [← hy.out]; have := rot_or (n := 24) (by omega) h.out; simpa using this), rfl⟩
set_option maxRecDepth 50000 in
theorem rl_7 (x y : Int) (w : World) (h : Hid (Wd x)) (hy : Hid (rot x 25 = y)) :
    Calls Tryd.prog 55 #[.int .u32 x, .int .i64 7] w fun e w' => e = .returned (.int .u32 y) ∧ w = w' := by
  have k1 : bits .and .u64 7 31 = 7 := by kernel_rfl
  go_enter Tryd.func55, Tryd.ntmps55
  go_wp2
  go_ret
  exact ⟨ret_int (by rw [← hy.out]; have := rot_or (n := 25) (by omega) h.out; simpa using this), rfl⟩

set_option maxRecDepth 50000 in
theorem results_tmp4 {fn : Func} {t u v x : Tmp} (h : fn.results = #[.tmp t, .tmp u, .tmp v, .tmp x]) (tmps : Array Value) (P : Program) (w : World) :
    (results fn tmps).run P w = .ok (.tuple #[tmps.getD t undef, tmps.getD u undef, tmps.getD v undef, tmps.getD x undef]) w := by
  simp [results, h]
set_option maxRecDepth 50000 in
set_option maxHeartbeats 400000 in
theorem quarter_any (a b c d : Int) (w : World) (hb : Hid (Wd b)) (hd : Hid (Wd d)) :
    Calls Tryd.prog 43 #[.int .u32 a, .int .u32 b, .int .u32 c, .int .u32 d] w fun e w' => e = .returned (.tuple #[.int .u32 (qa a b c d), .int .u32 (qb a b c d), .int .u32 (qc a b c d), .int .u32 (qd a b c d)]) ∧ w = w' := by
  obtain ⟨a1, e1⟩ : ∃ z, (a + b) % 4294967296 = z := ⟨_, rfl⟩
  obtain ⟨x1, f1⟩ : ∃ z, bits .xor .u32 d a1 = z := ⟨_, rfl⟩
  obtain ⟨d1, g1⟩ : ∃ z, rot x1 16 = z := ⟨_, rfl⟩
  obtain ⟨c1, e2⟩ : ∃ z, (c + d1) % 4294967296 = z := ⟨_, rfl⟩
  obtain ⟨x2, f2⟩ : ∃ z, bits .xor .u32 b c1 = z := ⟨_, rfl⟩
  obtain ⟨b1, g2⟩ : ∃ z, rot x2 20 = z := ⟨_, rfl⟩
  obtain ⟨a2, e3⟩ : ∃ z, (a1 + b1) % 4294967296 = z := ⟨_, rfl⟩
  obtain ⟨x3, f3⟩ : ∃ z, bits .xor .u32 d1 a2 = z := ⟨_, rfl⟩
  obtain ⟨d2, g3⟩ : ∃ z, rot x3 24 = z := ⟨_, rfl⟩
  obtain ⟨c2, e4⟩ : ∃ z, (c1 + d2) % 4294967296 = z := ⟨_, rfl⟩
  obtain ⟨x4, f4⟩ : ∃ z, bits .xor .u32 b1 c2 = z := ⟨_, rfl⟩
  obtain ⟨b2, g4⟩ : ∃ z, rot x4 25 = z := ⟨_, rfl⟩
  have r1 : qa a b c d = a2 := by subst e1 f1 g1 e2 f2 g2 e3; rfl
  have r2 : qb a b c d = b2 := by subst e1 f1 g1 e2 f2 g2 e3 f3 g3 e4 f4 g4; rfl
  have r3 : qc a b c d = c2 := by subst e1 f1 g1 e2 f2 g2 e3 f3 g3 e4; rfl
  have r4 : qd a b c d = d2 := by subst e1 f1 g1 e2 f2 g2 e3 f3 g3; rfl
  have h1 : Hid (Wd x1) := hid (by rw [← f1]; exact xr_wd hd.out (by rw [← e1]; exact pl_wd _ _))
  have k1 : Wd d1 := by rw [← g1]; exact rot_wd (by omega) h1.out
  have h2 : Hid (Wd x2) := hid (by rw [← f2]; exact xr_wd hb.out (by rw [← e2]; exact pl_wd _ _))
  have k2 : Wd b1 := by rw [← g2]; exact rot_wd (by omega) h2.out
  have h3 : Hid (Wd x3) := hid (by rw [← f3]; exact xr_wd k1 (by rw [← e3]; exact pl_wd _ _))
  have h4 : Hid (Wd x4) := hid (by rw [← f4]; exact xr_wd k2 (by rw [← e4]; exact pl_wd _ _))
  have G1 := hid g1
  have G2 := hid g2
  have G3 := hid g3
  have G4 := hid g4
  rw [r1, r2, r3, r4]
  clear r1 r2 r3 r4 g1 g2 g3 g4 k1 k2
  go_enter Tryd.func43, Tryd.ntmps43
  go_wp2_with (go_at_call 55; (first | (with_reducible refine (rl_16 x1 d1 _ h1 G1).mono ?_) | (with_reducible refine (rl_12 x2 b1 _ h2 G2).mono ?_) | (with_reducible refine (rl_8 x3 d2 _ h3 G3).mono ?_) | (with_reducible refine (rl_7 x4 b2 _ h4 G4).mono ?_)); rintro e w' ⟨rfl, rfl⟩)
  (try simp only [Exit.inBlock, Exit.then])
  refine bodyPost_ret (results_tmp4 rfl _ _ _) rfl ?_
  exact ⟨rfl, rfl⟩
end Go.Proofs.YtpiamcgienkhaaaDoor

/- The reference's turn of a word. -/
namespace Go.Proofs.YtpiamcgienkhaaaDoor
open Go Go.RowKit

set_option maxRecDepth 50000 in
theorem pow_le32 {k n : Nat} (h : k ≤ n) : (2 : Int) ^ k ≤ 2 ^ n := pow_mono2 h
set_option maxRecDepth 50000 in
set_option maxHeartbeats 400000 in
theorem left_any (x : Int) (n m : Nat) (w : World) (hn : 1 ≤ n ∧ n ≤ 31) (hm : Hid (m = 32 - n)) (hx : Hid (Wd x)) :
    Calls Tryd.prog 50 #[.int .u32 x, .int .i64 (n : Int)] w fun e w' => e = .returned (.int .u32 (rot x m)) ∧ w = w' := by
  go_enter Tryd.func50, Tryd.ntmps50
  go_wp2
  go_loop [5, 6] (fun s i => ∃ (k : Nat) (p : Int), k ≤ n ∧ s = .int .u32 p ∧ Hid (p = 2 ^ k) ∧ i = .int .i64 k) (fun _ i => n - (intOf i).toNat)
  case atStart => exact ⟨0, 1, by omega, rfl, hid (by simp), rfl⟩
  case round =>
    obtain ⟨k, p, hk, rfl, HP, rfl⟩ := hrel
    by_cases hlt : k < n
    · have hlt' : (k : Int) < n := by omega
      have h1 : (p * 2) % 4294967296 = p * 2 := by
        have h2 := pow_mono2 (a := k + 1) (b := 31) (by omega)
        rw [Int.pow_succ, ← HP.out] at h2
        have h3 := pow_pos8 k
        rw [← HP.out] at h3
        omega
      go_wp2
      go_round
      case rel => exact ⟨k + 1, p * 2, by omega, rfl, hid (by rw [HP.out, Int.pow_succ]), by go_num⟩
      case measure => simp [intOf]; omega
    · have e : k = n := by omega
      subst e
      have hp0 : 0 < p := by rw [HP.out]; exact pow_pos8 k
      have hpne : ¬ p = 0 := by omega
      obtain ⟨D, hD⟩ : ∃ D, D = (2 : Int) ^ (32 - k) := ⟨_, rfl⟩
      have hD0 : 0 < D := by rw [hD]; exact pow_pos8 _
      have hDne : ¬ D = 0 := by omega
      have hDl : D < 4294967296 := by
        have := pow_mono2 (a := 32 - k) (b := 31) (by omega)
        rw [← hD] at this
        omega
      have hq : 2147483648 / p * 2 = D := by
        have e1 : (2147483648 : Int) = p * 2 ^ (31 - k) := by rw [HP.out, ← Int.pow_add, show k + (31 - k) = 31 by omega]; rfl
        rw [e1, Int.mul_ediv_cancel_left _ (by omega), hD, show 32 - k = (31 - k) + 1 by omega, Int.pow_succ]
      have hqq : 2147483648 / p * 2 % 4294967296 = D := by rw [hq]; omega
      have htd : x.tdiv D = x / D := Int.tdiv_eq_ediv_of_nonneg hx.out.1
      have HD := hid hD
      clear hD hq
      go_wp2
      go_ret
      refine ⟨ret_int ?_, rfl⟩
      have h := rot_sum (x := x) (n := m) (by rw [hm.out]; omega) hx.out
      have e1 : 32 - m = k := by rw [hm.out]; omega
      rw [e1, ← HP.out, IntKind.wrap_u32, IntKind.wrap_u32] at h
      have e2 : (2 : Int) ^ m = D := by rw [HD.out, hm.out]
      rw [e2] at h
      rw [← h]
      generalize x * p = X at *
      generalize x / D = Y at *
      omega
end Go.Proofs.YtpiamcgienkhaaaDoor
