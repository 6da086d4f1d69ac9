/- Numbers as bytes: plain facts on integers and lists. No condition. -/
namespace Go.Proofs.YtpncohoonfahpaaGreatDoor

/-- Byte number i of n, the lowest is number 0. -/
def dig (n : Int) (i : Nat) : Int := n / 2 ^ (8 * i) % 256
set_option maxRecDepth 50000 in
theorem dig_bd (n : Int) (i : Nat) : 0 ≤ dig n i ∧ dig n i < 256 := by unfold dig; omega

/-- Which byte of a number of s bytes stands at place p. -/
def plc (hi : Bool) (p s : Nat) : Nat := if hi then s - 1 - p else p

/-- The bytes of numbers, s bytes each. -/
def splitB (hi : Bool) (s : Nat) (l : List Int) : List Int := (List.range (l.length * s)).map fun i => dig (l.getD (i / s) 0) (plc hi (i % s) s)

set_option maxRecDepth 50000 in
theorem splitB_length (hi : Bool) (s : Nat) (l : List Int) : (splitB hi s l).length = l.length * s := by simp [splitB]
set_option maxRecDepth 50000 in
theorem splitB_at (hi : Bool) (s : Nat) (l : List Int) {i : Nat} (h : i < l.length * s) : (splitB hi s l)[i]? = some (dig (l.getD (i / s) 0) (plc hi (i % s) s)) := by
  simp [splitB, h]

set_option maxRecDepth 50000 in
theorem div_step (n : Int) (k : Nat) : n / 2 ^ (8 * k) / 256 = n / 2 ^ (8 * (k + 1)) := by
  have hp : (0 : Int) < 2 ^ (8 * k) := Int.pow_pos (by omega)
  rw [Int.ediv_ediv_of_nonneg (by omega), show 8 * (k + 1) = 8 * k + 8 by omega, Int.pow_add]
  rfl
set_option maxRecDepth 50000 in
/-- The bytes of one number. -/
theorem split_one (hi : Bool) (s : Nat) (n : Int) {k : Nat} (hk : k < s) : (splitB hi s [n])[k]? = some (n / 2 ^ (8 * plc hi k s) % 256) := by
  rw [splitB_at hi s [n] (by simpa using hk), Nat.div_eq_of_lt hk, Nat.mod_eq_of_lt hk]
  rfl

/-- All of them bytes. -/
def HByt (l : List Int) : Prop := ∀ x ∈ l, 0 ≤ x ∧ x < 256
set_option maxRecDepth 50000 in
theorem HByt.take {l : List Int} (h : HByt l) (n : Nat) : HByt (l.take n) := fun x hx => h x (List.mem_of_mem_take hx)
set_option maxRecDepth 50000 in
theorem HByt.drop {l : List Int} (h : HByt l) (n : Nat) : HByt (l.drop n) := fun x hx => h x (List.mem_of_mem_drop hx)
set_option maxRecDepth 50000 in
theorem HByt.rev {l : List Int} (h : HByt l) : HByt l.reverse := fun x hx => h x (List.mem_reverse.1 hx)
set_option maxRecDepth 50000 in
theorem HByt.at_ {l : List Int} (h : HByt l) {i : Nat} {x : Int} (hx : l[i]? = some x) : 0 ≤ x ∧ x < 256 := h x (List.mem_of_getElem? hx)
set_option maxRecDepth 50000 in
theorem splitB_byt (hi : Bool) (s : Nat) (l : List Int) : HByt (splitB hi s l) := by
  intro x hx
  simp only [splitB, List.mem_map] at hx
  obtain ⟨i, _, rfl⟩ := hx
  exact dig_bd _ _

/-- The number of bytes, the highest first. -/
def hiv (l : List Int) : Int := l.foldl (fun n c => 256 * n + c) 0
set_option maxRecDepth 50000 in
theorem hiv_nil : hiv [] = 0 := rfl
set_option maxRecDepth 50000 in
theorem hiv_snoc (l : List Int) (c : Int) : hiv (l ++ [c]) = 256 * hiv l + c := by simp [hiv]
set_option maxRecDepth 50000 in
theorem pow8 (n : Nat) : (2 : Int) ^ (8 * (n + 1)) = 256 * 2 ^ (8 * n) := by
  rw [show 8 * (n + 1) = 8 * n + 8 by omega, Int.pow_add]
  simp [Int.mul_comm]
set_option maxRecDepth 50000 in
theorem foldl_hiv (l : List Int) (a : Int) : l.foldl (fun n c => 256 * n + c) a = a * 2 ^ (8 * l.length) + hiv l := by
  induction l generalizing a with
  | nil => simp [hiv]
  | cons c l ih =>
    rw [List.foldl_cons, ih, List.length_cons, pow8]
    have : hiv (c :: l) = c * 2 ^ (8 * l.length) + hiv l := by
      show List.foldl _ (256 * 0 + c) l = _
      rw [ih]; simp
    rw [this, Int.add_mul]
    have : 256 * a * 2 ^ (8 * l.length) = a * (256 * 2 ^ (8 * l.length)) := by
      rw [Int.mul_comm 256 a, Int.mul_assoc]
    omega
set_option maxRecDepth 50000 in
theorem hiv_cons (c : Int) (l : List Int) : hiv (c :: l) = c * 2 ^ (8 * l.length) + hiv l := by
  show List.foldl _ (256 * 0 + c) l = _
  rw [foldl_hiv]; simp
set_option maxRecDepth 50000 in
theorem pow_pos8 (n : Nat) : (0 : Int) < 2 ^ n := Int.pow_pos (by omega)
set_option maxRecDepth 50000 in
theorem hiv_bd (l : List Int) (h : HByt l) : 0 ≤ hiv l ∧ hiv l < 2 ^ (8 * l.length) := by
  induction l with
  | nil => simp [hiv]
  | cons c l ih =>
    have hc := h c (by simp)
    have := ih (fun x hx => h x (by simp [hx]))
    rw [hiv_cons, List.length_cons, pow8]
    have hp := pow_pos8 (8 * l.length)
    have h1 : 0 ≤ c * 2 ^ (8 * l.length) := Int.mul_nonneg hc.1 (by omega)
    have h2 : c * 2 ^ (8 * l.length) ≤ 255 * 2 ^ (8 * l.length) := Int.mul_le_mul_of_nonneg_right (by omega) (by omega)
    omega

set_option maxRecDepth 50000 in
theorem hiv_append (a b : List Int) : hiv (a ++ b) = hiv a * 2 ^ (8 * b.length) + hiv b := by
  unfold hiv
  rw [List.foldl_append]
  exact foldl_hiv b _
set_option maxRecDepth 50000 in
theorem hiv_take_le (l : List Int) (h : HByt l) (k : Nat) : hiv (l.take k) ≤ hiv l := by
  have e : hiv l = hiv (l.take k) * 2 ^ (8 * (l.drop k).length) + hiv (l.drop k) := by rw [← hiv_append, List.take_append_drop]
  have h1 := (hiv_bd _ (h.take k)).1
  have h2 := (hiv_bd _ (h.drop k)).1
  have hp := pow_pos8 (8 * (l.drop k).length)
  have h3 : hiv (l.take k) * 1 ≤ hiv (l.take k) * 2 ^ (8 * (l.drop k).length) := Int.mul_le_mul_of_nonneg_left (by omega) h1
  omega

set_option maxRecDepth 50000 in
theorem split_len (hi : Bool) (s : Nat) (n : Int) : (splitB hi s [n]).length = s := by rw [splitB_length]; simp
set_option maxRecDepth 50000 in
theorem split_snoc (s : Nat) (n : Int) : splitB true (s + 1) [n] = splitB true s [n / 256] ++ [n % 256] := by
  apply List.ext_getElem?
  intro i
  rcases Nat.lt_trichotomy i s with h | h | h
  · rw [split_one true (s + 1) n (by omega), List.getElem?_append_left (by rw [split_len]; exact h), split_one true s _ h]
    simp only [plc, if_true]
    have e : s + 1 - 1 - i = (s - 1 - i) + 1 := by omega
    rw [e, ← div_step]
    have e2 : n / 2 ^ (8 * (s - 1 - i)) / 256 = n / 256 / 2 ^ (8 * (s - 1 - i)) := by
      have hp := Int.pow_pos (n := 2) (m := 8 * (s - 1 - i)) (by omega)
      rw [Int.ediv_ediv_of_nonneg (by omega), Int.ediv_ediv_of_nonneg (by omega), Int.mul_comm]
    rw [e2]
  · subst h
    rw [split_one true (i + 1) n (by omega), List.getElem?_append_right (by rw [split_len]; omega), split_len]
    simp [plc]
  · rw [List.getElem?_eq_none (by rw [split_len]; omega), List.getElem?_eq_none (by rw [List.length_append, split_len]; simp; omega)]
set_option maxRecDepth 50000 in
theorem hiv_split (s : Nat) (n : Int) (h0 : 0 ≤ n) (h1 : n < 2 ^ (8 * s)) : hiv (splitB true s [n]) = n := by
  induction s generalizing n with
  | zero => simp at h1; simp [splitB, hiv]; omega
  | succ s ih =>
    rw [pow8] at h1
    rw [split_snoc, hiv_snoc, ih (n / 256) (by omega) (by omega)]
    omega
set_option maxRecDepth 50000 in
theorem snoc_cases {P : List Int → Prop} (h0 : P []) (h1 : ∀ l c, P l → P (l ++ [c])) : ∀ l, P l := by
  have : ∀ n l, l.length = n → P l := by
    intro n
    induction n with
    | zero => intro l hl; rw [List.eq_nil_of_length_eq_zero hl]; exact h0
    | succ n ih =>
      intro l hl
      have hne : l ≠ [] := by intro h; subst h; simp at hl
      rw [← List.dropLast_concat_getLast hne]
      exact h1 _ _ (ih _ (by simp; omega))
  exact fun l => this _ l rfl
set_option maxRecDepth 50000 in
theorem split_hiv : ∀ b : List Int, HByt b → splitB true b.length [hiv b] = b := by
  apply snoc_cases
  · intro _; rfl
  · intro l c ih h
    have hc : 0 ≤ c ∧ c < 256 := h c (by simp)
    have hl : HByt l := fun x hx => h x (by simp [hx])
    rw [List.length_append, List.length_singleton, split_snoc, hiv_snoc]
    rw [show (256 * hiv l + c) / 256 = hiv l by omega, show (256 * hiv l + c) % 256 = c by omega, ih hl]

/-- What the first r bytes of a word of s bytes give. -/
def pval (hi : Bool) (s : Nat) (c : List Int) (r : Nat) : Int := if hi then hiv (c.take r) * 2 ^ (8 * (s - r)) else hiv (c.take r).reverse
set_option maxRecDepth 50000 in
theorem pval_zero (hi : Bool) (s : Nat) (c : List Int) : pval hi s c 0 = 0 := by cases hi <;> simp [pval, hiv]
set_option maxRecDepth 50000 in
theorem take_succ_at {l : List Int} {r : Nat} {x : Int} (h : l[r]? = some x) : l.take (r + 1) = l.take r ++ [x] := by
  rw [List.take_add_one, h]; rfl
set_option maxRecDepth 50000 in
theorem len_take_at {l : List Int} {r : Nat} {x : Int} (h : l[r]? = some x) : (l.take r).length = r := by
  have := (List.getElem?_eq_some_iff.1 h).1
  simp; omega
set_option maxRecDepth 50000 in
theorem pval_succ (hi : Bool) (s : Nat) (c : List Int) {r : Nat} {x : Int} (hr : r < s) (h : c[r]? = some x) : pval hi s c (r + 1) = pval hi s c r + x * 2 ^ (8 * plc hi r s) := by
  cases hi
  · simp only [pval, plc, Bool.false_eq_true, if_false]
    rw [take_succ_at h, List.reverse_append, List.reverse_singleton, List.singleton_append, hiv_cons, List.length_reverse, len_take_at h]
    omega
  · simp only [pval, plc, if_true]
    rw [take_succ_at h, hiv_snoc, Int.add_mul, show s - (r + 1) = s - 1 - r by omega, show s - r = (s - 1 - r) + 1 by omega, pow8]
    have : 256 * hiv (c.take r) * 2 ^ (8 * (s - 1 - r)) = hiv (c.take r) * (256 * 2 ^ (8 * (s - 1 - r))) := by
      rw [Int.mul_comm 256, Int.mul_assoc]
    omega

set_option maxRecDepth 50000 in
/-- The bits of the two do not meet. -/
theorem or_apart (n : Nat) (a y : Int) (ha : 0 ≤ a) (hy : 0 ≤ y) (hy2 : y < 2 ^ n) : (((a * 2 ^ n).toNat ||| y.toNat : Nat) : Int) = a * 2 ^ n + y := by
  obtain ⟨A, rfl⟩ := Int.eq_ofNat_of_zero_le ha
  obtain ⟨Y, rfl⟩ := Int.eq_ofNat_of_zero_le hy
  have e : ((A : Int) * 2 ^ n) = ((A * 2 ^ n : Nat) : Int) := by simp
  rw [e, Int.toNat_natCast, Int.toNat_natCast]
  have hlt : Y < 2 ^ n := by
    have : ((Y : Nat) : Int) < ((2 ^ n : Nat) : Int) := by simpa using hy2
    omega
  have := Nat.two_pow_add_eq_or_of_lt hlt A
  rw [Nat.mul_comm] at this
  rw [← this]
  simp
set_option maxRecDepth 50000 in
theorem or_comm_int (a b : Int) : ((a.toNat ||| b.toNat : Nat) : Int) = ((b.toNat ||| a.toNat : Nat) : Int) := by rw [Nat.or_comm]

set_option maxRecDepth 50000 in
theorem pval_or (hi : Bool) (s : Nat) (c : List Int) {r : Nat} {x : Int} (hr : r < s) (hb : HByt c) (h : c[r]? = some x) :
    (((pval hi s c r).toNat ||| (x * 2 ^ (8 * plc hi r s)).toNat : Nat) : Int) = pval hi s c (r + 1) := by
  have hx := hb.at_ h
  rw [pval_succ hi s c hr h]
  have hv := hiv_bd _ (hb.take r)
  have hv2 := hiv_bd _ (hb.take r).rev
  rw [List.length_reverse, len_take_at h] at hv2
  cases hi
  · simp only [pval, plc, Bool.false_eq_true, if_false]
    rw [or_comm_int, or_apart _ _ _ hx.1 hv2.1 hv2.2]
    omega
  · simp only [pval, plc, if_true]
    have hp := pow_pos8 (8 * (s - 1 - r))
    have h1 : 0 ≤ x * 2 ^ (8 * (s - 1 - r)) := Int.mul_nonneg hx.1 (by omega)
    have h2 : x * 2 ^ (8 * (s - 1 - r)) ≤ 255 * 2 ^ (8 * (s - 1 - r)) := Int.mul_le_mul_of_nonneg_right (by omega) (by omega)
    have h3 : (2 : Int) ^ (8 * (s - r)) = 256 * 2 ^ (8 * (s - 1 - r)) := by rw [show s - r = (s - 1 - r) + 1 by omega, pow8]
    rw [or_apart _ _ _ hv.1 h1 (by omega)]

set_option maxRecDepth 50000 in
theorem pow_mono2 {a b : Nat} (h : a ≤ b) : (2 : Int) ^ a ≤ 2 ^ b := by
  have := Nat.pow_le_pow_right (show 0 < 2 by omega) h
  exact_mod_cast this

set_option maxRecDepth 50000 in
theorem pval_bd (hi : Bool) (s : Nat) (c : List Int) {r : Nat} (hr : r ≤ s) (hb : HByt c) : 0 ≤ pval hi s c r ∧ pval hi s c r < 2 ^ (8 * s) := by
  have hv := hiv_bd _ (hb.take r)
  have hv2 := hiv_bd _ (hb.take r).rev
  have hl : (c.take r).length ≤ r := List.length_take_le _ _
  rw [List.length_reverse] at hv2
  have hp := pow_mono2 (a := 8 * (c.take r).length) (b := 8 * r) (by omega)
  cases hi
  · simp only [pval, Bool.false_eq_true, if_false]
    have := pow_mono2 (a := 8 * r) (b := 8 * s) (by omega)
    omega
  · simp only [pval, if_true]
    have h0 := pow_pos8 (8 * (s - r))
    refine ⟨Int.mul_nonneg hv.1 (by omega), ?_⟩
    have e : (2 : Int) ^ (8 * s) = 2 ^ (8 * r) * 2 ^ (8 * (s - r)) := by rw [← Int.pow_add]; congr 1; omega
    rw [e]
    exact Int.mul_lt_mul_of_pos_right (by omega) h0
set_option maxRecDepth 50000 in
theorem byte_shift_bd (hi : Bool) {p s : Nat} {x : Int} (hp : p < s) (h0 : 0 ≤ x) (h1 : x < 256) : 0 ≤ x * 2 ^ (8 * plc hi p s) ∧ x * 2 ^ (8 * plc hi p s) < 2 ^ (8 * s) := by
  have hq := pow_pos8 (8 * plc hi p s)
  refine ⟨Int.mul_nonneg h0 (by omega), ?_⟩
  have h2 : x * 2 ^ (8 * plc hi p s) ≤ 255 * 2 ^ (8 * plc hi p s) := Int.mul_le_mul_of_nonneg_right (by omega) (by omega)
  have h3 := pow8 (plc hi p s)
  have h4 := pow_mono2 (a := 8 * (plc hi p s + 1)) (b := 8 * s) (by unfold plc; split <;> omega)
  omega

/-- The bytes of word j. -/
def chunk (s : Nat) (b : List Int) (j : Nat) : List Int := (b.drop (j * s)).take s
set_option maxRecDepth 50000 in
theorem chunk_byt {b : List Int} (h : HByt b) (s j : Nat) : HByt (chunk s b j) := (h.drop _).take _
set_option maxRecDepth 50000 in
theorem chunk_at (s : Nat) (b : List Int) (j : Nat) {r : Nat} (hr : r < s) : (chunk s b j)[r]? = b[j * s + r]? := by
  unfold chunk
  rw [List.getElem?_take, if_pos hr, List.getElem?_drop]

/-- The words as far as the first k bytes give them. -/
def partK (hi : Bool) (s : Nat) (b : List Int) (k : Nat) : List Int := (List.range (b.length / s)).map fun j => pval hi s (chunk s b j) (min (k - j * s) s)
def joinB (hi : Bool) (s : Nat) (b : List Int) : List Int := (List.range (b.length / s)).map fun j => pval hi s (chunk s b j) s
set_option maxRecDepth 50000 in
theorem partK_length (hi : Bool) (s : Nat) (b : List Int) (k : Nat) : (partK hi s b k).length = b.length / s := by simp [partK]
set_option maxRecDepth 50000 in
theorem joinB_length (hi : Bool) (s : Nat) (b : List Int) : (joinB hi s b).length = b.length / s := by simp [joinB]
set_option maxRecDepth 50000 in
theorem partK_at (hi : Bool) (s : Nat) (b : List Int) (k : Nat) {j : Nat} (hj : j < b.length / s) : (partK hi s b k)[j]? = some (pval hi s (chunk s b j) (min (k - j * s) s)) := by
  simp [partK, hj]
set_option maxRecDepth 50000 in
theorem joinB_at (hi : Bool) (s : Nat) (b : List Int) {j : Nat} (hj : j < b.length / s) : (joinB hi s b)[j]? = some (pval hi s (chunk s b j) s) := by
  simp [joinB, hj]
set_option maxRecDepth 50000 in
theorem partK_zero (hi : Bool) (s : Nat) (b : List Int) : partK hi s b 0 = List.replicate (b.length / s) 0 := by
  rw [List.eq_replicate_iff]
  refine ⟨partK_length _ _ _ _, fun x hx => ?_⟩
  simp only [partK, List.mem_map] at hx
  obtain ⟨j, _, rfl⟩ := hx
  rw [Nat.zero_sub, Nat.zero_min, pval_zero]
set_option maxRecDepth 50000 in
theorem partK_end (hi : Bool) (s : Nat) (b : List Int) : partK hi s b b.length = joinB hi s b := by
  unfold partK joinB
  apply List.map_congr_left
  intro j hj
  have hj' : j < b.length / s := List.mem_range.1 hj
  have : (j + 1) * s ≤ b.length := by
    have h1 : (j + 1) * s ≤ (b.length / s) * s := Nat.mul_le_mul_right _ hj'
    exact Nat.le_trans h1 (Nat.div_mul_le_self _ _)
  rw [Nat.add_mul] at this
  rw [show min (b.length - j * s) s = s by omega]
set_option maxRecDepth 50000 in
theorem partK_set (hi : Bool) (s : Nat) (b : List Int) {k q r : Nat} {z : Int} (hq : q = k / s) (hr : r = k % s) (hs : 0 < s) (hlt : q < b.length / s)
    (hz : z = pval hi s (chunk s b q) (r + 1)) : (partK hi s b k).set q z = partK hi s b (k + 1) := by
  have hk : q * s + r = k := by rw [hq, hr, Nat.mul_comm]; exact Nat.div_add_mod k s
  have hrs : r < s := by rw [hr]; exact Nat.mod_lt _ hs
  apply List.ext_getElem?
  intro j
  by_cases hj : j < b.length / s
  · by_cases e : q = j
    · subst e
      rw [List.getElem?_set_self (by rw [partK_length]; exact hlt), partK_at _ _ _ _ hlt, hz]
      rw [show min (k + 1 - q * s) s = r + 1 by omega]
    · rw [List.getElem?_set_ne e, partK_at _ _ _ _ hj, partK_at _ _ _ _ hj]
      rcases Nat.lt_or_ge j q with h | h
      · have h1 : (j + 1) * s ≤ q * s := Nat.mul_le_mul_right _ h
        rw [Nat.add_mul] at h1
        rw [show min (k - j * s) s = s by omega, show min (k + 1 - j * s) s = s by omega]
      · have h1 : (q + 1) * s ≤ j * s := Nat.mul_le_mul_right _ (by omega)
        rw [Nat.add_mul] at h1
        rw [show min (k - j * s) s = 0 by omega, show min (k + 1 - j * s) s = 0 by omega]
  · rw [List.getElem?_eq_none (by rw [List.length_set, partK_length]; omega), List.getElem?_eq_none (by rw [partK_length]; omega)]
set_option maxRecDepth 50000 in
theorem partK_cur (hi : Bool) (s : Nat) (b : List Int) {k q r : Nat} (hq : q = k / s) (hr : r = k % s) (hs : 0 < s) (hlt : q < b.length / s) :
    (partK hi s b k)[q]? = some (pval hi s (chunk s b q) r) := by
  have hk : q * s + r = k := by rw [hq, hr, Nat.mul_comm]; exact Nat.div_add_mod k s
  have hrs : r < s := by rw [hr]; exact Nat.mod_lt _ hs
  rw [partK_at _ _ _ _ hlt, show min (k - q * s) s = r by omega]

set_option maxRecDepth 50000 in
/-- The bytes of words are the bytes that the words were made of. -/
theorem dig_pval (hi : Bool) (c : List Int) (hc : HByt c) {r : Nat} (hr : r < c.length) : some (dig (pval hi c.length c c.length) (plc hi r c.length)) = c[r]? := by
  cases hi
  · simp only [pval, Bool.false_eq_true, if_false, List.take_length, plc]
    have h := split_hiv c.reverse hc.rev
    have h2 := split_one true c.reverse.length (hiv c.reverse) (k := c.length - 1 - r) (by rw [List.length_reverse]; omega)
    rw [h, List.getElem?_reverse (by omega)] at h2
    simp only [plc, if_true, List.length_reverse] at h2
    rw [show c.length - 1 - (c.length - 1 - r) = r by omega] at h2
    exact h2.symm
  · simp only [pval, if_true, List.take_length, plc, Nat.sub_self, Nat.mul_zero, Int.pow_zero, Int.mul_one]
    have h := split_hiv c hc
    have h2 := split_one true c.length (hiv c) hr
    rw [h] at h2
    exact h2.symm
set_option maxRecDepth 50000 in
theorem chunk_len {s : Nat} {b : List Int} {j : Nat} (h : j < b.length / s) : (chunk s b j).length = s := by
  have : (j + 1) * s ≤ b.length := Nat.le_trans (Nat.mul_le_mul_right _ h) (Nat.div_mul_le_self _ _)
  rw [Nat.add_mul] at this
  simp [chunk]
  omega
set_option maxRecDepth 50000 in
theorem split_join (hi : Bool) (s : Nat) (b : List Int) (hs : 0 < s) (hm : b.length % s = 0) (hb : HByt b) : splitB hi s (joinB hi s b) = b := by
  have hd : b.length / s * s = b.length := by have := Nat.div_add_mod b.length s; rw [Nat.mul_comm]; omega
  have hl : (splitB hi s (joinB hi s b)).length = b.length := by rw [splitB_length, joinB_length, hd]
  apply List.ext_getElem?
  intro i
  by_cases h : i < b.length
  · have hq : i / s < b.length / s := by rw [Nat.div_lt_iff_lt_mul hs, hd]; exact h
    have hr : i % s < s := Nat.mod_lt _ hs
    rw [splitB_at _ _ _ (by rw [joinB_length, hd]; exact h)]
    have e : (joinB hi s b).getD (i / s) 0 = pval hi s (chunk s b (i / s)) s := by simp [List.getD, joinB_at hi s b hq]
    have hcl := chunk_len (s := s) (b := b) hq
    have h3 := dig_pval hi (chunk s b (i / s)) (chunk_byt hb _ _) (r := i % s) (by rw [hcl]; exact hr)
    rw [hcl] at h3
    rw [e, h3, chunk_at _ _ _ hr]
    congr 1
    rw [Nat.mul_comm]; exact Nat.div_add_mod i s
  · rw [List.getElem?_eq_none (by omega), List.getElem?_eq_none (by omega)]
set_option maxRecDepth 50000 in
theorem join_get (hi : Bool) (s : Nat) (b : List Int) {j : Nat} {x : Int} (h : (joinB hi s b)[j]? = some x) : j * s + s ≤ b.length ∧ x = if hi then hiv (chunk s b j) else hiv (chunk s b j).reverse := by
  have hj : j < b.length / s := by
    rcases Nat.lt_or_ge j (b.length / s) with h1 | h1
    · exact h1
    · rw [List.getElem?_eq_none (by rw [joinB_length]; exact h1)] at h; cases h
  have h2 : (j + 1) * s ≤ b.length := Nat.le_trans (Nat.mul_le_mul_right _ hj) (Nat.div_mul_le_self _ _)
  rw [Nat.add_mul] at h2
  rw [joinB_at hi s b hj] at h
  injection h with h
  refine ⟨by omega, ?_⟩
  have hcl := chunk_len (s := s) (b := b) hj
  rw [← h]
  cases hi
  · simp only [pval, Bool.false_eq_true, if_false]
    rw [List.take_of_length_le (by omega)]
  · simp only [pval, if_true, Nat.sub_self, Nat.mul_zero, Int.pow_zero, Int.mul_one]
    rw [List.take_of_length_le (by omega)]

end Go.Proofs.YtpncohoonfahpaaGreatDoor
