/- Texts of this proof, laid together: HMath, HRot. -/
import Derived.Test.YtkblmdakejmmhaaDoorRows
import Derived.Test.YtkblmdakejmmhaaDoorG1
import Derived.BigQuiet
import Derived.Deep.QuietTactic
import Derived.StillTailTactics
/- Numbers as bytes: plain facts on integers and lists. No condition. -/
namespace Go.Proofs.YtkblmdakejmmhaaDoor

/-- Byte number i of n, the lowest is number 0. -/
def dig (n : Int) (i : Nat) : Int := n / 2 ^ (8 * i) % 256
set_option maxRecDepth 50000 in
theorem dig_bd (n : Int) (i : Nat) : 0 ≤ dig n i ∧ dig n i < 256 := by unfold dig; omega

/-- Which byte of a number of s bytes stands at place p. -/
def plc (hi : Bool) (p s : Nat) : Nat := if hi then s - 1 - p else p

/-- The bytes of numbers, s bytes each. -/
def splitB (hi : Bool) (s : Nat) (l : List Int) : List Int := (List.range (l.length * s)).map fun i => dig (l.getD (i / s) 0) (plc hi (i % s) s)

set_option maxRecDepth 50000 in
theorem splitB_length (hi : Bool) (s : Nat) (l : List Int) : (splitB hi s l).length = l.length * s := by simp [splitB]
set_option maxRecDepth 50000 in
theorem splitB_at (hi : Bool) (s : Nat) (l : List Int) {i : Nat} (h : i < l.length * s) : (splitB hi s l)[i]? = some (dig (l.getD (i / s) 0) (plc hi (i % s) s)) := by
  simp [splitB, h]

/-- All of them bytes. -/
def HByt (l : List Int) : Prop := ∀ x ∈ l, 0 ≤ x ∧ x < 256
set_option maxRecDepth 50000 in
theorem HByt.take {l : List Int} (h : HByt l) (n : Nat) : HByt (l.take n) := fun x hx => h x (List.mem_of_mem_take hx)
set_option maxRecDepth 50000 in
theorem HByt.drop {l : List Int} (h : HByt l) (n : Nat) : HByt (l.drop n) := fun x hx => h x (List.mem_of_mem_drop hx)
set_option maxRecDepth 50000 in
theorem HByt.rev {l : List Int} (h : HByt l) : HByt l.reverse := fun x hx => h x (List.mem_reverse.1 hx)
set_option maxRecDepth 50000 in
theorem HByt.at_ {l : List Int} (h : HByt l) {i : Nat} {x : Int} (hx : l[i]? = some x) : 0 ≤ x ∧ x < 256 := h x (List.mem_of_getElem? hx)
set_option maxRecDepth 50000 in
theorem splitB_byt (hi : Bool) (s : Nat) (l : List Int) : HByt (splitB hi s l) := by
  intro x hx
  simp only [splitB, List.mem_map] at hx
  obtain ⟨i, _, rfl⟩ := hx
  exact dig_bd _ _

/-- The number of bytes, the highest first. -/
def hiv (l : List Int) : Int := l.foldl (fun n c => 256 * n + c) 0
set_option maxRecDepth 50000 in
theorem hiv_snoc (l : List Int) (c : Int) : hiv (l ++ [c]) = 256 * hiv l + c := by simp [hiv]
set_option maxRecDepth 50000 in
theorem pow8 (n : Nat) : (2 : Int) ^ (8 * (n + 1)) = 256 * 2 ^ (8 * n) := by
  rw [show 8 * (n + 1) = 8 * n + 8 by omega, Int.pow_add]
  simp [Int.mul_comm]
set_option maxRecDepth 50000 in
theorem foldl_hiv (l : List Int) (a : Int) : l.foldl (fun n c => 256 * n + c) a = a * 2 ^ (8 * l.length) + hiv l := by
  induction l generalizing a with
  | nil => simp [hiv]
  | cons c l ih =>
    rw [List.foldl_cons, ih, List.length_cons, pow8]
    have : hiv (c :: l) = c * 2 ^ (8 * l.length) + hiv l := by
      show List.foldl _ (256 * 0 + c) l = _
      rw [ih]; simp
    rw [this, Int.add_mul]
    have : 256 * a * 2 ^ (8 * l.length) = a * (256 * 2 ^ (8 * l.length)) := by
      rw [Int.mul_comm 256 a, Int.mul_assoc]
    omega
set_option maxRecDepth 50000 in
theorem hiv_cons (c : Int) (l : List Int) : hiv (c :: l) = c * 2 ^ (8 * l.length) + hiv l := by
  show List.foldl _ (256 * 0 + c) l = _
  rw [foldl_hiv]; simp
set_option maxRecDepth 50000 in
theorem pow_pos8 (n : Nat) : (0 : Int) < 2 ^ n := Int.pow_pos (by omega)
set_option maxRecDepth 50000 in
theorem hiv_bd (l : List Int) (h : HByt l) : 0 ≤ hiv l ∧ hiv l < 2 ^ (8 * l.length) := by
  induction l with
  | nil => simp [hiv]
  | cons c l ih =>
    have hc := h c (by simp)
    have := ih (fun x hx => h x (by simp [hx]))
    rw [hiv_cons, List.length_cons, pow8]
    have hp := pow_pos8 (8 * l.length)
    have h1 : 0 ≤ c * 2 ^ (8 * l.length) := Int.mul_nonneg hc.1 (by omega)
    have h2 : c * 2 ^ (8 * l.length) ≤ 255 * 2 ^ (8 * l.length) := Int.mul_le_mul_of_nonneg_right (by omega) (by omega)
    omega

set_option maxRecDepth 50000 in
theorem split_len (hi : Bool) (s : Nat) (n : Int) : (splitB hi s [n]).length = s := by rw [splitB_length]; simp
/-- What the first r bytes of a word of s bytes give. -/
def pval (hi : Bool) (s : Nat) (c : List Int) (r : Nat) : Int := if hi then hiv (c.take r) * 2 ^ (8 * (s - r)) else hiv (c.take r).reverse
set_option maxRecDepth 50000 in
theorem pval_zero (hi : Bool) (s : Nat) (c : List Int) : pval hi s c 0 = 0 := by cases hi <;> simp [pval, hiv]
set_option maxRecDepth 50000 in
theorem take_succ_at {l : List Int} {r : Nat} {x : Int} (h : l[r]? = some x) : l.take (r + 1) = l.take r ++ [x] := by
  rw [List.take_add_one, h]; rfl
set_option maxRecDepth 50000 in
theorem len_take_at {l : List Int} {r : Nat} {x : Int} (h : l[r]? = some x) : (l.take r).length = r := by
  have := (List.getElem?_eq_some_iff.1 h).1
  simp; omega
set_option maxRecDepth 50000 in
theorem pval_succ (hi : Bool) (s : Nat) (c : List Int) {r : Nat} {x : Int} (hr : r < s) (h : c[r]? = some x) : pval hi s c (r + 1) = pval hi s c r + x * 2 ^ (8 * plc hi r s) := by
  cases hi
  · simp only [pval, plc, Bool.false_eq_true, if_false]
    rw [take_succ_at h, List.reverse_append, List.reverse_singleton, List.singleton_append, hiv_cons, List.length_reverse, len_take_at h]
    omega
  · simp only [pval, plc, if_true]
    rw [take_succ_at h, hiv_snoc, Int.add_mul, show s - (r + 1) = s - 1 - r by omega, show s - r = (s - 1 - r) + 1 by omega, pow8]
    have : 256 * hiv (c.take r) * 2 ^ (8 * (s - 1 - r)) = hiv (c.take r) * (256 * 2 ^ (8 * (s - 1 - r))) := by
      rw [Int.mul_comm 256, Int.mul_assoc]
    omega

set_option maxRecDepth 50000 in
set_option maxRecDepth 50000 in
/-- The bits of the two do not meet. -/
theorem or_apart (n : Nat) (a y : Int) (ha : 0 ≤ a) (hy : 0 ≤ y) (hy2 : y < 2 ^ n) : (((a * 2 ^ n).toNat ||| y.toNat : Nat) : Int) = a * 2 ^ n + y := by
  obtain ⟨A, rfl⟩ := Int.eq_ofNat_of_zero_le ha
  obtain ⟨Y, rfl⟩ := Int.eq_ofNat_of_zero_le hy
  have e : ((A : Int) * 2 ^ n) = ((A * 2 ^ n : Nat) : Int) := by simp
  rw [e, Int.toNat_natCast, Int.toNat_natCast]
  have hlt : Y < 2 ^ n := by
    have : ((Y : Nat) : Int) < ((2 ^ n : Nat) : Int) := by simpa using hy2
    omega
  have := Nat.two_pow_add_eq_or_of_lt hlt A
  rw [Nat.mul_comm] at this
  rw [← this]
  simp
set_option maxRecDepth 50000 in
theorem or_comm_int (a b : Int) : ((a.toNat ||| b.toNat : Nat) : Int) = ((b.toNat ||| a.toNat : Nat) : Int) := by rw [Nat.or_comm]

set_option maxRecDepth 50000 in
theorem pval_or (hi : Bool) (s : Nat) (c : List Int) {r : Nat} {x : Int} (hr : r < s) (hb : HByt c) (h : c[r]? = some x) :
    (((pval hi s c r).toNat ||| (x * 2 ^ (8 * plc hi r s)).toNat : Nat) : Int) = pval hi s c (r + 1) := by
  have hx := hb.at_ h
  rw [pval_succ hi s c hr h]
  have hv := hiv_bd _ (hb.take r)
  have hv2 := hiv_bd _ (hb.take r).rev
  rw [List.length_reverse, len_take_at h] at hv2
  cases hi
  · simp only [pval, plc, Bool.false_eq_true, if_false]
    rw [or_comm_int, or_apart _ _ _ hx.1 hv2.1 hv2.2]
    omega
  · simp only [pval, plc, if_true]
    have hp := pow_pos8 (8 * (s - 1 - r))
    have h1 : 0 ≤ x * 2 ^ (8 * (s - 1 - r)) := Int.mul_nonneg hx.1 (by omega)
    have h2 : x * 2 ^ (8 * (s - 1 - r)) ≤ 255 * 2 ^ (8 * (s - 1 - r)) := Int.mul_le_mul_of_nonneg_right (by omega) (by omega)
    have h3 : (2 : Int) ^ (8 * (s - r)) = 256 * 2 ^ (8 * (s - 1 - r)) := by rw [show s - r = (s - 1 - r) + 1 by omega, pow8]
    rw [or_apart _ _ _ hv.1 h1 (by omega)]

set_option maxRecDepth 50000 in
theorem pow_mono2 {a b : Nat} (h : a ≤ b) : (2 : Int) ^ a ≤ 2 ^ b := by
  have := Nat.pow_le_pow_right (show 0 < 2 by omega) h
  exact_mod_cast this

set_option maxRecDepth 50000 in
theorem pval_bd (hi : Bool) (s : Nat) (c : List Int) {r : Nat} (hr : r ≤ s) (hb : HByt c) : 0 ≤ pval hi s c r ∧ pval hi s c r < 2 ^ (8 * s) := by
  have hv := hiv_bd _ (hb.take r)
  have hv2 := hiv_bd _ (hb.take r).rev
  have hl : (c.take r).length ≤ r := List.length_take_le _ _
  rw [List.length_reverse] at hv2
  have hp := pow_mono2 (a := 8 * (c.take r).length) (b := 8 * r) (by omega)
  cases hi
  · simp only [pval, Bool.false_eq_true, if_false]
    have := pow_mono2 (a := 8 * r) (b := 8 * s) (by omega)
    omega
  · simp only [pval, if_true]
    have h0 := pow_pos8 (8 * (s - r))
    refine ⟨Int.mul_nonneg hv.1 (by omega), ?_⟩
    have e : (2 : Int) ^ (8 * s) = 2 ^ (8 * r) * 2 ^ (8 * (s - r)) := by rw [← Int.pow_add]; congr 1; omega
    rw [e]
    exact Int.mul_lt_mul_of_pos_right (by omega) h0
set_option maxRecDepth 50000 in
theorem byte_shift_bd (hi : Bool) {p s : Nat} {x : Int} (hp : p < s) (h0 : 0 ≤ x) (h1 : x < 256) : 0 ≤ x * 2 ^ (8 * plc hi p s) ∧ x * 2 ^ (8 * plc hi p s) < 2 ^ (8 * s) := by
  have hq := pow_pos8 (8 * plc hi p s)
  refine ⟨Int.mul_nonneg h0 (by omega), ?_⟩
  have h2 : x * 2 ^ (8 * plc hi p s) ≤ 255 * 2 ^ (8 * plc hi p s) := Int.mul_le_mul_of_nonneg_right (by omega) (by omega)
  have h3 := pow8 (plc hi p s)
  have h4 := pow_mono2 (a := 8 * (plc hi p s + 1)) (b := 8 * s) (by unfold plc; split <;> omega)
  omega

/-- The bytes of word j. -/
def chunk (s : Nat) (b : List Int) (j : Nat) : List Int := (b.drop (j * s)).take s
set_option maxRecDepth 50000 in
theorem chunk_byt {b : List Int} (h : HByt b) (s j : Nat) : HByt (chunk s b j) := (h.drop _).take _
set_option maxRecDepth 50000 in
theorem chunk_at (s : Nat) (b : List Int) (j : Nat) {r : Nat} (hr : r < s) : (chunk s b j)[r]? = b[j * s + r]? := by
  unfold chunk
  rw [List.getElem?_take, if_pos hr, List.getElem?_drop]

/-- The words as far as the first k bytes give them. -/
def partK (hi : Bool) (s : Nat) (b : List Int) (k : Nat) : List Int := (List.range (b.length / s)).map fun j => pval hi s (chunk s b j) (min (k - j * s) s)
def joinB (hi : Bool) (s : Nat) (b : List Int) : List Int := (List.range (b.length / s)).map fun j => pval hi s (chunk s b j) s
set_option maxRecDepth 50000 in
theorem partK_length (hi : Bool) (s : Nat) (b : List Int) (k : Nat) : (partK hi s b k).length = b.length / s := by simp [partK]
set_option maxRecDepth 50000 in
theorem joinB_length (hi : Bool) (s : Nat) (b : List Int) : (joinB hi s b).length = b.length / s := by simp [joinB]
set_option maxRecDepth 50000 in
theorem partK_at (hi : Bool) (s : Nat) (b : List Int) (k : Nat) {j : Nat} (hj : j < b.length / s) : (partK hi s b k)[j]? = some (pval hi s (chunk s b j) (min (k - j * s) s)) := by
  simp [partK, hj]
set_option maxRecDepth 50000 in
theorem joinB_at (hi : Bool) (s : Nat) (b : List Int) {j : Nat} (hj : j < b.length / s) : (joinB hi s b)[j]? = some (pval hi s (chunk s b j) s) := by
  simp [joinB, hj]
set_option maxRecDepth 50000 in
theorem partK_zero (hi : Bool) (s : Nat) (b : List Int) : partK hi s b 0 = List.replicate (b.length / s) 0 := by
  rw [List.eq_replicate_iff]
  refine ⟨partK_length _ _ _ _, fun x hx => ?_⟩
  simp only [partK, List.mem_map] at hx
  obtain ⟨j, _, rfl⟩ := hx
  rw [Nat.zero_sub, Nat.zero_min, pval_zero]
set_option maxRecDepth 50000 in
theorem partK_end (hi : Bool) (s : Nat) (b : List Int) : partK hi s b b.length = joinB hi s b := by
  unfold partK joinB
  apply List.map_congr_left
  intro j hj
  have hj' : j < b.length / s := List.mem_range.1 hj
  have : (j + 1) * s ≤ b.length := by
    have h1 : (j + 1) * s ≤ (b.length / s) * s := Nat.mul_le_mul_right _ hj'
    exact Nat.le_trans h1 (Nat.div_mul_le_self _ _)
  rw [Nat.add_mul] at this
  rw [show min (b.length - j * s) s = s by omega]
set_option maxRecDepth 50000 in
theorem partK_set (hi : Bool) (s : Nat) (b : List Int) {k q r : Nat} {z : Int} (hq : q = k / s) (hr : r = k % s) (hs : 0 < s) (hlt : q < b.length / s)
    (hz : z = pval hi s (chunk s b q) (r + 1)) : (partK hi s b k).set q z = partK hi s b (k + 1) := by
  have hk : q * s + r = k := by rw [hq, hr, Nat.mul_comm]; exact Nat.div_add_mod k s
  have hrs : r < s := by rw [hr]; exact Nat.mod_lt _ hs
  apply List.ext_getElem?
  intro j
  by_cases hj : j < b.length / s
  · by_cases e : q = j
    · subst e
      rw [List.getElem?_set_self (by rw [partK_length]; exact hlt), partK_at _ _ _ _ hlt, hz]
      rw [show min (k + 1 - q * s) s = r + 1 by omega]
    · rw [List.getElem?_set_ne e, partK_at _ _ _ _ hj, partK_at _ _ _ _ hj]
      rcases Nat.lt_or_ge j q with h | h
      · have h1 : (j + 1) * s ≤ q * s := Nat.mul_le_mul_right _ h
        rw [Nat.add_mul] at h1
        rw [show min (k - j * s) s = s by omega, show min (k + 1 - j * s) s = s by omega]
      · have h1 : (q + 1) * s ≤ j * s := Nat.mul_le_mul_right _ (by omega)
        rw [Nat.add_mul] at h1
        rw [show min (k - j * s) s = 0 by omega, show min (k + 1 - j * s) s = 0 by omega]
  · rw [List.getElem?_eq_none (by rw [List.length_set, partK_length]; omega), List.getElem?_eq_none (by rw [partK_length]; omega)]
set_option maxRecDepth 50000 in
theorem partK_cur (hi : Bool) (s : Nat) (b : List Int) {k q r : Nat} (hq : q = k / s) (hr : r = k % s) (hs : 0 < s) (hlt : q < b.length / s) :
    (partK hi s b k)[q]? = some (pval hi s (chunk s b q) r) := by
  have hk : q * s + r = k := by rw [hq, hr, Nat.mul_comm]; exact Nat.div_add_mod k s
  have hrs : r < s := by rw [hr]; exact Nat.mod_lt _ hs
  rw [partK_at _ _ _ _ hlt, show min (k - q * s) s = r by omega]

set_option maxRecDepth 50000 in
theorem chunk_len {s : Nat} {b : List Int} {j : Nat} (h : j < b.length / s) : (chunk s b j).length = s := by
  have : (j + 1) * s ≤ b.length := Nat.le_trans (Nat.mul_le_mul_right _ h) (Nat.div_mul_le_self _ _)
  rw [Nat.add_mul] at this
  simp [chunk]
  omega
set_option maxRecDepth 50000 in
theorem join_get (hi : Bool) (s : Nat) (b : List Int) {j : Nat} {x : Int} (h : (joinB hi s b)[j]? = some x) : j * s + s ≤ b.length ∧ x = if hi then hiv (chunk s b j) else hiv (chunk s b j).reverse := by
  have hj : j < b.length / s := by
    rcases Nat.lt_or_ge j (b.length / s) with h1 | h1
    · exact h1
    · rw [List.getElem?_eq_none (by rw [joinB_length]; exact h1)] at h; cases h
  have h2 : (j + 1) * s ≤ b.length := Nat.le_trans (Nat.mul_le_mul_right _ hj) (Nat.div_mul_le_self _ _)
  rw [Nat.add_mul] at h2
  rw [joinB_at hi s b hj] at h
  injection h with h
  refine ⟨by omega, ?_⟩
  have hcl := chunk_len (s := s) (b := b) hj
  rw [← h]
  cases hi
  · simp only [pval, Bool.false_eq_true, if_false]
    rw [List.take_of_length_le (by omega)]
  · simp only [pval, if_true, Nat.sub_self, Nat.mul_zero, Int.pow_zero, Int.mul_one]
    rw [List.take_of_length_le (by omega)]

end Go.Proofs.YtkblmdakejmmhaaDoor

/- Rotations of words of 64 bits, as package bits has them and as the reference has them. -/
namespace Go.Proofs.YtkblmdakejmmhaaDoor
open Go.RowKit

/-- A word of 64 bits. -/
def Wd (x : Int) : Prop := 0 ≤ x ∧ x < 18446744073709551616
set_option maxRecDepth 50000 in
theorem wd_wrap (x : Int) : Wd (IntKind.u64.wrap x) := by rw [IntKind.wrap_u64]; exact ⟨by omega, by omega⟩

/-- x turned right by n bits, as a word of 64 bits. -/
def rot (x : Int) (n : Nat) : Int := x / 2 ^ n + x % 2 ^ n * 2 ^ (64 - n)
set_option maxRecDepth 50000 in
theorem pow_split {n : Nat} (h : n ≤ 64) : (2 : Int) ^ n * 2 ^ (64 - n) = 18446744073709551616 := by
  rw [← Int.pow_add, show n + (64 - n) = 64 by omega]; rfl
set_option maxRecDepth 50000 in
theorem rot_parts {x : Int} {n : Nat} (h : n ≤ 64) (hx : Wd x) : 0 ≤ x / 2 ^ n ∧ x / 2 ^ n < 2 ^ (64 - n) ∧ 0 ≤ x % 2 ^ n ∧ x % 2 ^ n < 2 ^ n := by
  have hp := Int.pow_pos (n := 2) (m := n) (by omega)
  have hs := pow_split h
  refine ⟨Int.ediv_nonneg hx.1 (by omega), ?_, Int.emod_nonneg _ (by omega), Int.emod_lt_of_pos _ hp⟩
  apply Int.ediv_lt_of_lt_mul hp
  have := hx.2
  rw [Int.mul_comm] at hs
  omega
set_option maxRecDepth 50000 in
theorem rot_wd {x : Int} {n : Nat} (h : n ≤ 64) (hx : Wd x) : Wd (rot x n) := by
  obtain ⟨a, b, c, d⟩ := rot_parts h hx
  have hp := Int.pow_pos (n := 2) (m := 64 - n) (by omega)
  have hs := pow_split h
  unfold rot
  have h1 : 0 ≤ x % 2 ^ n * 2 ^ (64 - n) := Int.mul_nonneg c (by omega)
  have h2 : (x % 2 ^ n + 1) * 2 ^ (64 - n) ≤ 2 ^ n * 2 ^ (64 - n) := Int.mul_le_mul_of_nonneg_right (by omega) (by omega)
  rw [Int.add_mul] at h2
  exact ⟨by omega, by omega⟩
set_option maxRecDepth 50000 in
theorem wrap_mul_pow {x : Int} {n : Nat} (h : n ≤ 64) (_ : Wd x) : IntKind.u64.wrap (x * 2 ^ (64 - n)) = x % 2 ^ n * 2 ^ (64 - n) := by
  rw [IntKind.wrap_u64]
  have hs := pow_split h
  rw [← hs]
  rw [Int.mul_comm x, Int.mul_comm (2 ^ n), Int.mul_emod_mul_of_pos _ _ (Int.pow_pos (by omega)), Int.mul_comm]
set_option maxRecDepth 50000 in
theorem rot_or {x : Int} {n : Nat} (h : n ≤ 64) (hx : Wd x) : bits .or .u64 (IntKind.u64.wrap (x * 2 ^ (64 - n))) (x / 2 ^ n) = rot x n := by
  obtain ⟨a, b, c, d⟩ := rot_parts h hx
  have hr := rot_wd h hx
  have hw := wd_wrap (x * 2 ^ (64 - n))
  have hs := pow_split h
  have hp := Int.pow_pos (n := 2) (m := n) (by omega)
  have hle : x / 2 ^ n ≤ x := Int.ediv_le_self _ hx.1
  have hx2 := hx.2
  rw [u64_or _ _ hw.1 hw.2 a (by omega), wrap_mul_pow h hx, or_apart _ _ _ c a b]
  unfold rot
  omega

def xr (a b : Int) : Int := bits .xor .u64 a b
def an (a b : Int) : Int := bits .and .u64 a b
def hplus (a b : Int) : Int := IntKind.u64.wrap (a + b)
/-- The amounts by which the hash turns. -/
def Amt (n : Nat) : Prop := n = 14 ∨ n = 18 ∨ n = 41 ∨ n = 28 ∨ n = 34 ∨ n = 39 ∨ n = 1 ∨ n = 8 ∨ n = 19 ∨ n = 61
set_option maxRecDepth 50000 in
theorem rl_14 (x : Int) (w : World) (h : Hid (Wd x)) :
    Calls Tryd.prog 87 #[.int .u64 x, .int .i64 (-14)] w fun e w' => e = .returned (.int .u64 (rot x 14)) ∧ w = w' := by
  have k1 : bits .and .u64 (IntKind.u64.wrap (-14)) 63 = 50 := by kernel_rfl
  go_enter Tryd.func87, Tryd.ntmps87
  go_wp2
  go_ret
  exact ⟨ret_int (by have := rot_or (n := 14) (by omega) h.out; simpa using this), rfl⟩
set_option maxRecDepth 50000 in
theorem right_14 (x : Int) (w : World) (h : Hid (Wd x)) :
    Calls Tryd.prog 85 #[.int .u64 x, .int .i64 14] w fun e w' => e = .returned (.int .u64 (rot x 14)) ∧ w = w' := by
  go_enter Tryd.func85, Tryd.ntmps85
  go_wp2_with (go_at_call 87; refine (rl_14 x _ h).mono ?_; rintro e w' ⟨rfl, rfl⟩)
  go_ret
  exact ⟨rfl, rfl⟩
set_option maxRecDepth 50000 in
theorem rl_18 (x : Int) (w : World) (h : Hid (Wd x)) :
    Calls Tryd.prog 87 #[.int .u64 x, .int .i64 (-18)] w fun e w' => e = .returned (.int .u64 (rot x 18)) ∧ w = w' := by
  have k1 : bits .and .u64 (IntKind.u64.wrap (-18)) 63 = 46 := by kernel_rfl
  go_enter Tryd.func87, Tryd.ntmps87
  go_wp2
  go_ret
  exact ⟨ret_int (by have := rot_or (n := 18) (by omega) h.out; simpa using this), rfl⟩
set_option maxRecDepth 50000 in
theorem right_18 (x : Int) (w : World) (h : Hid (Wd x)) :
    Calls Tryd.prog 85 #[.int .u64 x, .int .i64 18] w fun e w' => e = .returned (.int .u64 (rot x 18)) ∧ w = w' := by
  go_enter Tryd.func85, Tryd.ntmps85
  go_wp2_with (go_at_call 87; refine (rl_18 x _ h).mono ?_; rintro e w' ⟨rfl, rfl⟩)
  go_ret
  exact ⟨rfl, rfl⟩
set_option maxRecDepth 50000 in
theorem rl_41 (x : Int) (w : World) (h : Hid (Wd x)) :
    Calls Tryd.prog 87 #[.int .u64 x, .int .i64 (-41)] w fun e w' => e = .returned (.int .u64 (rot x 41)) ∧ w = w' := by
  have k1 : bits .and .u64 (IntKind.u64.wrap (-41)) 63 = 23 := by kernel_rfl
  go_enter Tryd.func87, Tryd.ntmps87
  go_wp2
  go_ret
  exact ⟨ret_int (by have := rot_or (n := 41) (by omega) h.out; simpa using this), rfl⟩
set_option maxRecDepth 50000 in
theorem right_41 (x : Int) (w : World) (h : Hid (Wd x)) :
    Calls Tryd.prog 85 #[.int .u64 x, .int .i64 41] w fun e w' => e = .returned (.int .u64 (rot x 41)) ∧ w = w' := by
  go_enter Tryd.func85, Tryd.ntmps85
  go_wp2_with (go_at_call 87; refine (rl_41 x _ h).mono ?_; rintro e w' ⟨rfl, rfl⟩)
  go_ret
  exact ⟨rfl, rfl⟩
set_option maxRecDepth 50000 in
theorem rl_28 (x : Int) (w : World) (h : Hid (Wd x)) :
    Calls Tryd.prog 87 #[.int .u64 x, .int .i64 (-28)] w fun e w' => e = .returned (.int .u64 (rot x 28)) ∧ w = w' := by
  have k1 : bits .and .u64 (IntKind.u64.wrap (-28)) 63 = 36 := by kernel_rfl
  go_enter Tryd.func87, Tryd.ntmps87
  go_wp2
  go_ret
  exact ⟨ret_int (by have := rot_or (n := 28) (by omega) h.out; simpa using this), rfl⟩
set_option maxRecDepth 50000 in
theorem right_28 (x : Int) (w : World) (h : Hid (Wd x)) :
    Calls Tryd.prog 85 #[.int .u64 x, .int .i64 28] w fun e w' => e = .returned (.int .u64 (rot x 28)) ∧ w = w' := by
  go_enter Tryd.func85, Tryd.ntmps85
  go_wp2_with (go_at_call 87; refine (rl_28 x _ h).mono ?_; rintro e w' ⟨rfl, rfl⟩)
  go_ret
  exact ⟨rfl, rfl⟩
set_option maxRecDepth 50000 in
theorem rl_34 (x : Int) (w : World) (h : Hid (Wd x)) :
    Calls Tryd.prog 87 #[.int .u64 x, .int .i64 (-34)] w fun e w' => e = .returned (.int .u64 (rot x 34)) ∧ w = w' := by
  have k1 : bits .and .u64 (IntKind.u64.wrap (-34)) 63 = 30 := by kernel_rfl
  go_enter Tryd.func87, Tryd.ntmps87
  go_wp2
  go_ret
  exact ⟨ret_int (by have := rot_or (n := 34) (by omega) h.out; simpa using this), rfl⟩
set_option maxRecDepth 50000 in
theorem right_34 (x : Int) (w : World) (h : Hid (Wd x)) :
    Calls Tryd.prog 85 #[.int .u64 x, .int .i64 34] w fun e w' => e = .returned (.int .u64 (rot x 34)) ∧ w = w' := by
  go_enter Tryd.func85, Tryd.ntmps85
  go_wp2_with (go_at_call 87; refine (rl_34 x _ h).mono ?_; rintro e w' ⟨rfl, rfl⟩)
  go_ret
  exact ⟨rfl, rfl⟩
set_option maxRecDepth 50000 in
theorem rl_39 (x : Int) (w : World) (h : Hid (Wd x)) :
    Calls Tryd.prog 87 #[.int .u64 x, .int .i64 (-39)] w fun e w' => e = .returned (.int .u64 (rot x 39)) ∧ w = w' := by
  have k1 : bits .and .u64 (IntKind.u64.wrap (-39)) 63 = 25 := by kernel_rfl
  go_enter Tryd.func87, Tryd.ntmps87
  go_wp2
  go_ret
  exact ⟨ret_int (by have := rot_or (n := 39) (by omega) h.out; simpa using this), rfl⟩
set_option maxRecDepth 50000 in
theorem right_39 (x : Int) (w : World) (h : Hid (Wd x)) :
    Calls Tryd.prog 85 #[.int .u64 x, .int .i64 39] w fun e w' => e = .returned (.int .u64 (rot x 39)) ∧ w = w' := by
  go_enter Tryd.func85, Tryd.ntmps85
  go_wp2_with (go_at_call 87; refine (rl_39 x _ h).mono ?_; rintro e w' ⟨rfl, rfl⟩)
  go_ret
  exact ⟨rfl, rfl⟩
set_option maxRecDepth 50000 in
theorem rl_1 (x : Int) (w : World) (h : Hid (Wd x)) :
    Calls Tryd.prog 87 #[.int .u64 x, .int .i64 (-1)] w fun e w' => e = .returned (.int .u64 (rot x 1)) ∧ w = w' := by
  have k1 : bits .and .u64 (IntKind.u64.wrap (-1)) 63 = 63 := by kernel_rfl
  go_enter Tryd.func87, Tryd.ntmps87
  go_wp2
  go_ret
  exact ⟨ret_int (by have := rot_or (n := 1) (by omega) h.out; simpa using this), rfl⟩
set_option maxRecDepth 50000 in
theorem right_1 (x : Int) (w : World) (h : Hid (Wd x)) :
    Calls Tryd.prog 85 #[.int .u64 x, .int .i64 1] w fun e w' => e = .returned (.int .u64 (rot x 1)) ∧ w = w' := by
  go_enter Tryd.func85, Tryd.ntmps85
  go_wp2_with (go_at_call 87; refine (rl_1 x _ h).mono ?_; rintro e w' ⟨rfl, rfl⟩)
  go_ret
  exact ⟨rfl, rfl⟩
set_option maxRecDepth 50000 in
theorem rl_8 (x : Int) (w : World) (h : Hid (Wd x)) :
    Calls Tryd.prog 87 #[.int .u64 x, .int .i64 (-8)] w fun e w' => e = .returned (.int .u64 (rot x 8)) ∧ w = w' := by
  have k1 : bits .and .u64 (IntKind.u64.wrap (-8)) 63 = 56 := by kernel_rfl
  go_enter Tryd.func87, Tryd.ntmps87
  go_wp2
  go_ret
  exact ⟨ret_int (by have := rot_or (n := 8) (by omega) h.out; simpa using this), rfl⟩
set_option maxRecDepth 50000 in
theorem right_8 (x : Int) (w : World) (h : Hid (Wd x)) :
    Calls Tryd.prog 85 #[.int .u64 x, .int .i64 8] w fun e w' => e = .returned (.int .u64 (rot x 8)) ∧ w = w' := by
  go_enter Tryd.func85, Tryd.ntmps85
  go_wp2_with (go_at_call 87; refine (rl_8 x _ h).mono ?_; rintro e w' ⟨rfl, rfl⟩)
  go_ret
  exact ⟨rfl, rfl⟩
set_option maxRecDepth 50000 in
theorem rl_19 (x : Int) (w : World) (h : Hid (Wd x)) :
    Calls Tryd.prog 87 #[.int .u64 x, .int .i64 (-19)] w fun e w' => e = .returned (.int .u64 (rot x 19)) ∧ w = w' := by
  have k1 : bits .and .u64 (IntKind.u64.wrap (-19)) 63 = 45 := by kernel_rfl
  go_enter Tryd.func87, Tryd.ntmps87
  go_wp2
  go_ret
  exact ⟨ret_int (by have := rot_or (n := 19) (by omega) h.out; simpa using this), rfl⟩
set_option maxRecDepth 50000 in
theorem right_19 (x : Int) (w : World) (h : Hid (Wd x)) :
    Calls Tryd.prog 85 #[.int .u64 x, .int .i64 19] w fun e w' => e = .returned (.int .u64 (rot x 19)) ∧ w = w' := by
  go_enter Tryd.func85, Tryd.ntmps85
  go_wp2_with (go_at_call 87; refine (rl_19 x _ h).mono ?_; rintro e w' ⟨rfl, rfl⟩)
  go_ret
  exact ⟨rfl, rfl⟩
set_option maxRecDepth 50000 in
theorem rl_61 (x : Int) (w : World) (h : Hid (Wd x)) :
    Calls Tryd.prog 87 #[.int .u64 x, .int .i64 (-61)] w fun e w' => e = .returned (.int .u64 (rot x 61)) ∧ w = w' := by
  have k1 : bits .and .u64 (IntKind.u64.wrap (-61)) 63 = 3 := by kernel_rfl
  go_enter Tryd.func87, Tryd.ntmps87
  go_wp2
  go_ret
  exact ⟨ret_int (by have := rot_or (n := 61) (by omega) h.out; simpa using this), rfl⟩
set_option maxRecDepth 50000 in
theorem right_61 (x : Int) (w : World) (h : Hid (Wd x)) :
    Calls Tryd.prog 85 #[.int .u64 x, .int .i64 61] w fun e w' => e = .returned (.int .u64 (rot x 61)) ∧ w = w' := by
  go_enter Tryd.func85, Tryd.ntmps85
  go_wp2_with (go_at_call 87; refine (rl_61 x _ h).mono ?_; rintro e w' ⟨rfl, rfl⟩)
  go_ret
  exact ⟨rfl, rfl⟩
/-- Three turns. -/
def tri (x : Int) (i j k : Nat) : Int := xr (xr (rot x i) (rot x j)) (rot x k)
set_option maxRecDepth 50000 in
theorem turns_e (x : Int) (w : World) (h : Hid (Wd x)) :
    Calls Tryd.prog 81 #[.int .u64 x, .int .i64 14, .int .i64 18, .int .i64 41] w fun e w' => e = .returned (.int .u64 (tri x 14 18 41)) ∧ w = w' := by
  go_enter Tryd.func81, Tryd.ntmps81
  go_wp2_with (go_at_call 85; (first | (with_reducible refine (right_14 x _ h).mono ?_) | (with_reducible refine (right_18 x _ h).mono ?_) | (with_reducible refine (right_41 x _ h).mono ?_)); rintro e w' ⟨rfl, rfl⟩)
  go_ret
  exact ⟨rfl, rfl⟩
set_option maxRecDepth 50000 in
theorem turns_a (x : Int) (w : World) (h : Hid (Wd x)) :
    Calls Tryd.prog 81 #[.int .u64 x, .int .i64 28, .int .i64 34, .int .i64 39] w fun e w' => e = .returned (.int .u64 (tri x 28 34 39)) ∧ w = w' := by
  go_enter Tryd.func81, Tryd.ntmps81
  go_wp2_with (go_at_call 85; (first | (with_reducible refine (right_28 x _ h).mono ?_) | (with_reducible refine (right_34 x _ h).mono ?_) | (with_reducible refine (right_39 x _ h).mono ?_)); rintro e w' ⟨rfl, rfl⟩)
  go_ret
  exact ⟨rfl, rfl⟩
end Go.Proofs.YtkblmdakejmmhaaDoor
