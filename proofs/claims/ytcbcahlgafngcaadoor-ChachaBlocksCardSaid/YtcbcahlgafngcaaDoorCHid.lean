/- Bytes combined with the key stream, as numbers. No condition. -/
import Derived.Test.YtcbcahlgafngcaaDoorCMath
namespace Go.Proofs.YtcbcahlgafngcaaDoor
open Go.RowKit

abbrev xb (a b : Int) : Int := bits .xor .u8 a b
theorem nat_lt8 (x : Int) (h : 0 ≤ x ∧ x < 256) : x.toNat < 2 ^ 8 := by have := h.1; have := h.2; omega
theorem xb_byt {a b : Int} (ha : 0 ≤ a ∧ a < 256) (hb : 0 ≤ b ∧ b < 256) : 0 ≤ xb a b ∧ xb a b < 256 := by
  show 0 ≤ bits .xor .u8 a b ∧ bits .xor .u8 a b < 256
  rw [u8_xor _ _ ha.1 ha.2 hb.1 hb.2]
  have := Nat.xor_lt_two_pow (nat_lt8 a ha) (nat_lt8 b hb)
  exact ⟨by omega, by omega⟩
theorem xb_twice {a b : Int} (ha : 0 ≤ a ∧ a < 256) (hb : 0 ≤ b ∧ b < 256) : xb (xb a b) b = a := by
  have h := xb_byt ha hb
  show bits .xor .u8 (xb a b) b = a
  rw [u8_xor _ _ h.1 h.2 hb.1 hb.2]
  show (((bits .xor .u8 a b).toNat ^^^ b.toNat : Nat) : Int) = a
  rw [u8_xor _ _ ha.1 ha.2 hb.1 hb.2, Int.toNat_natCast, Nat.xor_assoc, Nat.xor_self, Nat.xor_zero]
  omega
def hideL (b s : List Int) : List Int := List.zipWith xb b s
theorem hideL_length {b s : List Int} (h : b.length ≤ s.length) : (hideL b s).length = b.length := by simp [hideL]; omega
theorem hideL_at {b s : List Int} {i : Nat} {x y : Int} (hx : b[i]? = some x) (hy : s[i]? = some y) : (hideL b s)[i]? = some (xb x y) := by
  unfold hideL
  rw [List.getElem?_zipWith, hx, hy]
theorem hideL_byt {b s : List Int} (hb : HByt b) (hs : HByt s) : HByt (hideL b s) := fun z hz => by
  obtain ⟨i, hi⟩ := List.mem_iff_getElem?.1 hz
  unfold hideL at hi
  rw [List.getElem?_zipWith] at hi
  cases h1 : b[i]? with
  | none => rw [h1] at hi; simp at hi
  | some x =>
    cases h2 : s[i]? with
    | none => rw [h1, h2] at hi; simp at hi
    | some y =>
      rw [h1, h2] at hi
      simp at hi
      rw [← hi]
      exact xb_byt (hb.at_ h1) (hs.at_ h2)
theorem hideL_twice {b s : List Int} (hb : HByt b) (hs : HByt s) (h : b.length ≤ s.length) : hideL (hideL b s) s = b := by
  apply List.ext_getElem?
  intro i
  by_cases hi : i < b.length
  · obtain ⟨x, hx⟩ : ∃ x, b[i]? = some x := ⟨b[i], by simp [hi]⟩
    have hi2 : i < s.length := by omega
    obtain ⟨y, hy⟩ : ∃ y, s[i]? = some y := ⟨s[i], by simp [hi2]⟩
    rw [hideL_at (hideL_at hx hy) hy, hx, xb_twice (hb.at_ hx) (hs.at_ hy)]
  · rw [List.getElem?_eq_none (by rw [hideL_length (by rw [hideL_length h]; exact h), hideL_length h]; omega), List.getElem?_eq_none (by omega)]
theorem hideL_take (b s : List Int) (k : Nat) : hideL (b.take k) s = (hideL b s).take k := by
  apply List.ext_getElem?
  intro i
  unfold hideL
  rw [List.getElem?_zipWith, List.getElem?_take, List.getElem?_take]
  by_cases h : i < k
  · rw [if_pos h, if_pos h, List.getElem?_zipWith]
  · rw [if_neg h, if_neg h]
/-- Only as much of the stream as there are bytes matters. -/
theorem hideL_more {b s t : List Int} (h : s <+: t) (hl : b.length ≤ s.length) : hideL b t = hideL b s := by
  obtain ⟨r, rfl⟩ := h
  apply List.ext_getElem?
  intro i
  unfold hideL
  rw [List.getElem?_zipWith, List.getElem?_zipWith]
  by_cases hi : i < b.length
  · rw [List.getElem?_append_left (by omega)]
  · rw [List.getElem?_eq_none (l := b) (by omega)]
theorem hideL_len_le (b s : List Int) : (hideL b s).length ≤ s.length := by simp [hideL]; omega
theorem hideL_len {b s : List Int} (h : s.length ≤ b.length) : (hideL b s).length = s.length := by simp [hideL]; omega
theorem hideL_snoc {b l : List Int} {x y : Int} (hx : b[l.length]? = some x) : hideL b (l ++ [y]) = hideL b l ++ [xb x y] := by
  have hl := (List.getElem?_eq_some_iff.1 hx).1
  apply List.ext_getElem?
  intro i
  by_cases h : i < l.length
  · rw [List.getElem?_append_left (by rw [hideL_len (by omega)]; exact h)]
    unfold hideL
    rw [List.getElem?_zipWith, List.getElem?_zipWith, List.getElem?_append_left h]
  · rw [List.getElem?_append_right (by rw [hideL_len (by omega)]; omega), hideL_len (by omega)]
    unfold hideL
    rw [List.getElem?_zipWith, List.getElem?_append_right (by omega)]
    by_cases e : i = l.length
    · subst e; rw [hx]; simp
    · rw [List.getElem?_eq_none (l := [y]) (by simp; omega), List.getElem?_eq_none (l := [xb x y]) (by simp; omega)]
      cases b[i]? <;> rfl
/-- What goes behind the bytes does not matter. -/
theorem hideL_over {b l : List Int} (y : List Int) (h : b.length ≤ l.length) : hideL b (l ++ y) = hideL b l := hideL_more (List.prefix_append l y) h
theorem strm_at {key nonce : List Int} {c : Nat} (hk : key.length = 32) (hn : nonce.length = 12) : ∀ (n : Nat) {k j : Nat}, k < n → j < 64 → (strm key nonce c n)[64 * k + j]? = (blockL key nonce ((c + k : Nat) : Int))[j]?
  | 0, _, _, h, _ => by omega
  | n + 1, k, j, h, hj => by
    rw [strm]
    by_cases e : k < n
    · rw [List.getElem?_append_left (by rw [strm_length hk hn]; omega)]
      exact strm_at hk hn n e hj
    · have e : k = n := by omega
      subst e
      rw [List.getElem?_append_right (by rw [strm_length hk hn]; omega), strm_length hk hn]
      congr 1; omega
end Go.Proofs.YtcbcahlgafngcaaDoor
