/- The decoding as a plain function, and that it inverts the encoding. No program is named. -/
import Derived.Test.YtcahcecohjohpaaDoorSize
import Derived.Test.YtcahcecohjohpaaDoorWBack
namespace Go.Proofs.YtcahcecohjohpaaDoor
open Go.RowKit

/-- What is left and the value; or why not. -/
abbrev Res (α : Type) := Except Int (α × List Int)

def parseN (f : List Int → Res V) : Nat → List Int → Res (List V)
  | 0, bs => .ok ([], bs)
  | n + 1, bs => match f bs with
    | .error e => .error e
    | .ok (v, r) => match parseN f n r with
      | .error e => .error e
      | .ok (l, r') => .ok (v :: l, r')

/-- The number of at most eight bytes. -/
def numP (bs : List Int) : Except Int V :=
  if bs.length = 0 then .ok (.mk 1 0 [] []) else if bs.getD 0 0 = 0 then .error 11 else
    if gerr bs.length (hiv bs) = 0 then .ok (.mk 1 (hiv bs) [] []) else .error (gerr bs.length (hiv bs))

/-- The most that a kind may say. -/
def mostP (k : Int) : Int := if k = 1 then 8 else if k = 2 then 16777215 else 4096

/-- A kind and how much follows, and what is left. -/
def headP (lists : Nat) (bs : List Int) : Except Int ((Int × Nat) × List Int) :=
  if bs.length = 0 then .error 10 else
    let k := bs.getD 0 0
    if k < 1 ∨ 3 < k ∨ (k = 3 ∧ lists = 0) then .error 11 else
      if bs.length - 1 < (wid k).toNat then .error 10 else
        if mostP k < hiv ((bs.drop 1).take (wid k).toNat) then .error 11 else .ok ((k, (hiv ((bs.drop 1).take (wid k).toNat)).toNat), bs.drop (1 + (wid k).toNat))

def bodyP (k : Int) (n : Nat) (bs : List Int) : Res V :=
  if bs.length < n then .error 10 else
    if k = 2 then .ok (.mk 2 0 (bs.take n) [], bs.drop n) else
      match numP (bs.take n) with
      | .error e => .error e
      | .ok v => .ok (v, bs.drop n)

def parse : Nat → List Int → Res V
  | 0, bs => match headP 0 bs with
    | .error e => .error e
    | .ok ((k, n), r) => bodyP k n r
  | t + 1, bs => match headP (t + 1) bs with
    | .error e => .error e
    | .ok ((k, n), r) => if k = 3 then (match parseN (parse t) n r with
      | .error e => .error e
      | .ok (l, r') => .ok (.mk 3 0 [] l, r')) else bodyP k n r

theorem nb_ge : ∀ (f : Nat) (n : Int), 0 < n → n ≤ 4611686018427387904 → n.toNat ≤ f → 256 ^ (nb n - 1) ≤ n := by
  intro f
  induction f using Nat.strongRecOn with
  | _ f ih =>
    intro n h0 h1 hf
    rw [nb_step n h0 h1, Nat.add_sub_cancel]
    by_cases hz : n / 256 = 0
    · rw [hz, nb_zero]
      show (1 : Int) ≤ n
      omega
    · have h := ih (n / 256).toNat (by omega) (n / 256) (by omega) (by omega) (Nat.le_refl _)
      have hs := nb_step (n / 256) (by omega) (by omega)
      obtain ⟨m, hm⟩ : ∃ m, nb (n / 256) = m + 1 := ⟨_, hs⟩
      rw [hm, Nat.add_sub_cancel] at h
      rw [hm, Int.pow_succ]
      omega
theorem pow256 (n : Nat) : (2 : Int) ^ (8 * n) = 256 ^ n := by rw [Int.pow_mul]; rfl
theorem pow_mono {a b : Nat} (h : a ≤ b) : (256 : Int) ^ a ≤ 256 ^ b := by
  have h1 := Nat.pow_le_pow_right (n := 256) (by omega) h
  have h2 : (((256 ^ a : Nat)) : Int) ≤ ((256 ^ b : Nat) : Int) := Int.ofNat_le.2 h1
  simpa using h2
theorem nb_is {n : Int} {s : Nat} (hs : 0 < s) (h0 : 0 < n) (h1 : n ≤ 4611686018427387904) (hlo : 256 ^ (s - 1) ≤ n) (hhi : n < 256 ^ s) : nb n = s := by
  have l := nb_lt n.toNat n (by omega) h1 (Nat.le_refl _)
  have g := nb_ge n.toNat n h0 h1 (Nat.le_refl _)
  rcases Nat.lt_trichotomy (nb n) s with h | h | h
  · have := pow_mono (show nb n ≤ s - 1 by omega); omega
  · exact h
  · have := pow_mono (show s ≤ nb n - 1 by omega); omega

/-- A row of bytes whose first is not zero gives a number of just so many bytes. -/
theorem nb_hiv {c : Int} {l : List Int} (hb : Byt (c :: l)) (hc : c ≠ 0) (h1 : hiv (c :: l) ≤ 4611686018427387904) : nb (hiv (c :: l)) = l.length + 1 ∧ 0 < hiv (c :: l) := by
  have hcb := hb c (by simp)
  have hl := hiv_bd l (fun x hx => hb x (by simp [hx]))
  have hp := hiv_cons c l
  have hhi := (hiv_bd (c :: l) hb).2
  rw [pow256] at hp hl hhi
  have hpos : (0 : Int) < 256 ^ l.length := Int.pow_pos (by omega)
  have hge : (256 : Int) ^ l.length ≤ c * 256 ^ l.length := by
    have := Int.mul_le_mul_of_nonneg_right (show (1 : Int) ≤ c by omega) (Int.le_of_lt hpos)
    omega
  exact ⟨nb_is (Nat.succ_pos _) (by omega) h1 (by rw [Nat.add_sub_cancel]; omega) hhi, by omega⟩

/-- The first byte of a number's own bytes is not zero. -/
theorem top_byte {n : Int} (h0 : 0 < n) (h1 : n ≤ 4611686018427387904) : (pbytes true n (nb n)).getD 0 0 ≠ 0 := by
  have hf := fits_nb h0 h1
  have hl : (pbytes true n (nb n)).length = nb n := by rw [pbytes_len hf]; simp
  have hv := (back_num true hf).1
  have hv2 : hiv (pbytes true n (nb n)) = n := by
    obtain ⟨a, b, c, d, e⟩ := fits_lt hf
    rw [pbytes, if_pos hf, Int.toNat_natCast, hiv_split (nb n) n a c]
  have hbt := pbytes_byt true n (nb n)
  have hs := nb_step n h0 h1
  generalize pbytes true n (nb n) = bs at *
  cases bs with
  | nil => simp at hl; omega
  | cons c l =>
    intro hc
    have hc0 : c = 0 := by simpa using hc
    subst hc0
    have hlb := hiv_bd l (fun x hx => hbt x (by simp [hx]))
    have hp := hiv_cons 0 l
    have g := nb_ge n.toNat n h0 h1 (Nat.le_refl _)
    rw [pow256] at hlb hp
    have hll : l.length = nb n - 1 := by simp at hl; omega
    rw [hll] at hlb
    omega

theorem numP_back {n : Int} (h0 : 0 ≤ n) (h1 : n ≤ 4611686018427387904) : numP (pbytes true n (nb n)) = .ok (.mk 1 n [] []) := by
  unfold numP
  by_cases hz : n = 0
  · subst hz
    rw [nb_zero, if_pos (by decide +kernel)]
  · have hf := fits_nb (show 0 < n by omega) h1
    have hl : (pbytes true n (nb n)).length = nb n := by rw [pbytes_len hf]; simp
    have hs := nb_step n (by omega) h1
    obtain ⟨hg, he⟩ := back_num true hf
    have hv2 : hiv (pbytes true n (nb n)) = n := by
      obtain ⟨a, b, c, d, e⟩ := fits_lt hf
      rw [pbytes, if_pos hf, Int.toNat_natCast, hiv_split (nb n) n a c]
    have he2 : gerr (pbytes true n (nb n)).length (hiv (pbytes true n (nb n))) = 0 := he
    rw [if_neg (by omega), if_neg (top_byte (by omega) h1), if_pos he2, hv2]
theorem numP_forth {bs : List Int} {v : V} (hb : Byt bs) (h : numP bs = .ok v) : ∃ n, v = .mk 1 n [] [] ∧ 0 ≤ n ∧ n ≤ 4611686018427387904 ∧ nb n = bs.length ∧ pbytes true n (nb n) = bs := by
  unfold numP at h
  split at h
  · rename_i h0
    obtain rfl := List.eq_nil_of_length_eq_zero h0
    injection h with h
    exact ⟨0, h.symm, by omega, by omega, nb_zero, by rw [nb_zero]; decide +kernel⟩
  · split at h
    · cases h
    · split at h
      · rename_i h0 h1 h2
        injection h with h
        cases bs with
        | nil => simp at h0
        | cons c l =>
          have hc : c ≠ 0 := by simpa using h1
          obtain ⟨hf, hp⟩ := fits_back (b := c :: l) hb h2
          have hgn : gnum (c :: l).length (bval true (c :: l)) = hiv (c :: l) := by
            obtain ⟨a, b, d, e, g⟩ := fits_lt hf
            unfold gnum at d ⊢
            have : ¬ (c :: l).length = 0 := by simp
            have h8 : ¬ 8 < (c :: l).length := by omega
            have h62 : ¬ 4611686018427387904 < bval true (c :: l) := by
              intro h62
              unfold gerr at h2
              have hb2 : bval true (c :: l) = hiv (c :: l) := rfl
              rw [if_neg this, if_neg h8, ← hb2, if_pos h62] at h2
              cases h2
            rw [if_neg this, if_neg h8, if_neg h62]
            rfl
          rw [hgn] at hf hp
          obtain ⟨a, b, d, e, g⟩ := fits_lt hf
          obtain ⟨hn, hpos⟩ := nb_hiv hb hc b
          have hn2 : nb (hiv (c :: l)) = (c :: l).length := by rw [hn]; rfl
          exact ⟨hiv (c :: l), h.symm, a, b, hn2, by rw [hn2]; exact hp⟩
      · cases h
end Go.Proofs.YtcahcecohjohpaaDoor
