/- Which bytes are a point's, and that the point has these bytes. -/
import Derived.Test.YtpaopdjbhmdfjaaDoorPLawAM
namespace Go.Proofs.YtpaopdjbhmdfjaaDoor
open Go Go.RowKit

theorem mask128 (x : Int) (h : 0 ≤ x ∧ x < 256) : bits .and .u8 x 128 = (if 128 ≤ x then 128 else 0) ∧ bits .andNot .u8 x 128 = x % 128 := by
  have key : ∀ n : Fin 256, bits .and .u8 (n.val : Int) 128 = (if 128 ≤ (n.val : Int) then 128 else 0) ∧ bits .andNot .u8 (n.val : Int) 128 = (n.val : Int) % 128 := by decide +kernel
  have := key ⟨x.toNat, by omega⟩
  have e : (x.toNat : Int) = x := Int.toNat_of_nonneg h.1
  simpa [e] using this
/-- The bytes without the highest bit. -/
def offB (bs : List Int) : List Int := bs.set 31 (bs.getD 31 0 % 128)
section
variable {bs : List Int}
theorem offB_len (lb : bs.length = 32) : (offB bs).length = 32 := by unfold offB; rw [List.length_set]; exact lb
theorem at31 (lb : bs.length = 32) : bs[31]? = some (bs.getD 31 0) := getD_some (by omega)
theorem offB_31 (lb : bs.length = 32) : (offB bs).getD 31 0 = bs.getD 31 0 % 128 := by
  unfold offB
  rw [List.getD_eq_getElem?_getD, List.getElem?_set_self (by omega)]; rfl
theorem offB_byt (lb : bs.length = 32) (hb : Byt bs) : Byt (offB bs) := fun x hx => by
  rcases List.mem_or_eq_of_mem_set hx with h | h
  · exact hb x h
  · have := hb.at_ (at31 lb)
    omega
theorem offB_low (lb : bs.length = 32) (_ : Byt bs) : (offB bs).getD 31 0 < 128 := by
  rw [offB_31 lb]; omega
theorem offB_same (lb : bs.length = 32) (hb : Byt bs) (h : bs.getD 31 0 < 128) : offB bs = bs := by
  have h2 := hb.at_ (at31 lb)
  unfold offB
  rw [Int.emod_eq_of_lt h2.1 h]
  apply List.ext_getElem?
  intro i
  by_cases e : 31 = i
  · subst e; rw [List.getElem?_set_self (by omega), at31 lb]
  · rw [List.getElem?_set_ne e]
theorem offB_back (lb : bs.length = 32) (hb : Byt bs) (h : 128 ≤ bs.getD 31 0) : (offB bs).set 31 ((offB bs).getD 31 0 + 128) = bs := by
  have h2 := hb.at_ (at31 lb)
  rw [offB_31 lb, show bs.getD 31 0 % 128 + 128 = bs.getD 31 0 by omega]
  unfold offB
  apply List.ext_getElem?
  intro i
  by_cases e : 31 = i
  · subst e; rw [List.getElem?_set_self (by rw [List.length_set]; omega), at31 lb]
  · rw [List.getElem?_set_ne e, List.getElem?_set_ne e]
end
theorem den_alg {n : Nat} [NeZero n] {d e b : Fin n} (he : d = -e) (h : d * (b * b) + 1 = 0) : 1 * 1 = e * (b * b) := by
  rw [he] at h
  grind
theorem den_ne (b : Fin NT.PN) : dF * (b * b) + 1 ≠ 0 := fun h => by
  have h1 := ns_e 1 b (den_alg de h)
  rw [h1, z_mul, mul_z] at h
  exact pn_fld.one (by rw [← h]; exact (Fin.zero_add 1).symm)
theorem take_alg {n : Nat} [NeZero n] {d b k v : Fin n} (hk : k * k = (b * b - 1) * v) (hv : (d * (b * b) + 1) * v = 1) : b * b - k * k = 1 + d * (k * b * (k * b)) := by
  have h1 : k * k * (d * (b * b) + 1) = (b * b - 1) * ((d * (b * b) + 1) * v) := by rw [hk]; grind
  rw [hv] at h1
  clear hk hv
  grind
theorem take_on {b k : Fin NT.PN} (hk : k * k = xxF b) : Edw.On eF ⟨iF * k, b⟩ := on_of (take_alg hk (iv_mul (den_ne b)))
theorem neg_sq {n : Nat} [NeZero n] (k : Fin n) : (0 - k) * (0 - k) = k * k := by grind
theorem odd_val (m : Nat) : oddB m = decide (m % 2 = 1) := by
  unfold oddB dig0
  rw [show m % 65536 % 2 = m % 2 by omega]
  rcases Nat.mod_two_eq_zero_or_one m with h | h <;> rw [h] <;> rfl
theorem odd_nat {j p : Nat} (h1 : 0 < j) (h2 : j < p) (hp : p % 2 = 1) (h : j % 2 = 0) : (p - j) % p % 2 = 1 := by
  have e : (p - j) % p = p - j := Nat.mod_eq_of_lt (by omega)
  rw [e]
  omega
theorem neg_odd {k : Fin NT.PN} (h0 : k ≠ 0) (h : k.val % 2 = 0) : (0 - k).val % 2 = 1 := by
  have h3 := sub_val 0 k
  rw [show (0 : Fin NT.PN).val = 0 from rfl, Nat.zero_add] at h3
  rw [← h3]
  exact odd_nat (fin_pos h0) k.isLt (by decide) h
section
variable {bs : List Int}
theorem bn_small (h : bn bs < NT.PN) : (ph NT.PN (bn bs)).val = bn bs := Nat.mod_eq_of_lt h
/-- The point is none. -/
def Bad (bs : List Int) : Prop := NT.PN ≤ bn (offB bs) ∨ isSq (xxF (ph NT.PN (bn (offB bs)))).val = false ∨ (xxF (ph NT.PN (bn (offB bs))) = 0 ∧ 128 ≤ bs.getD 31 0)
theorem of_bad (lb : bs.length = 32) (hb : Byt bs) (h : Bad bs) : CallsT 7 #[.agg (ints .u8 bs).toArray] (.tuple #[.agg (ints .i64 (zeros 64)).toArray, .int .i64 21]) := by
  have hx := at31 lb
  have hxb := hb.at_ hx
  obtain ⟨hk1, hk2⟩ := mask128 _ hxb
  have ly := offB_len lb
  have hyb := offB_byt lb hb
  obtain ⟨y, ky, hy⟩ := nf_of ly hyb (offB_low lb hb)
  have hbb := hy.bytes
  by_cases hN : NT.PN ≤ bn (offB bs)
  · have hne : rbytes (ph NT.PN (bn (offB bs))).val ≠ offB bs := fun e => by
      have h1 := congrArg bn e
      have h2 : (ph NT.PN (bn (offB bs))).val < NT.PN := (ph NT.PN (bn (offB bs))).isLt
      have h3 : NT.PN < 65536 ^ 16 := by decide
      rw [bn_rbytes (by omega)] at h1
      omega
    by_cases ho : 128 ≤ bs.getD 31 0
    · rw [if_pos ho] at hk1
      exact of_nb_odd lb ly hx rfl hk1 hk2 hy ky (rbytes_length _) hne hbb
    · rw [if_neg ho] at hk1
      exact of_nb_even lb ly hx rfl hk1 hk2 hy ky (rbytes_length _) hne hbb
  · have hN' : bn (offB bs) < NT.PN := by omega
    have hv := bn_small hN'
    rw [hv, rbytes_bn ly hyb] at hbb
    obtain ⟨r, k, kbe, hr, hs⟩ := c_beside hy
    rcases h with h | h | ⟨h, ho⟩
    · exact absurd h hN
    · rw [h] at kbe
      by_cases ho : 128 ≤ bs.getD 31 0
      · rw [if_pos ho] at hk1
        exact of_ns_odd lb ly hx rfl hk1 hk2 hy ky hbb hr kbe
      · rw [if_neg ho] at hk1
        exact of_ns_even lb ly hx rfl hk1 hk2 hy ky hbb hr kbe
    · rw [if_pos ho] at hk1
      cases hq : isSq (xxF (ph NT.PN (bn (offB bs)))).val with
      | false =>
        rw [hq] at kbe
        exact of_ns_odd lb ly hx rfl hk1 hk2 hy ky hbb hr kbe
      | true =>
        rw [hq] at kbe
        obtain ⟨e1, _⟩ := hs hq
        rw [h] at e1
        have k0 : k = 0 := by rcases pn_fld.dom e1 with h | h <;> exact h
        exact of_z_odd lb ly hx rfl hk1 hk2 hy ky hbb hr kbe k0
theorem of_good (lb : bs.length = 32) (hb : Byt bs) (h : ¬ Bad bs) : ∃ r P, CallsT 7 #[.agg (ints .u8 bs).toArray] (.tuple #[.agg (ints .i64 r).toArray, .int .i64 0]) ∧ PR r P ∧ bytesP P = bs := by
  have hx := at31 lb
  have hxb := hb.at_ hx
  obtain ⟨hk1, hk2⟩ := mask128 _ hxb
  have ly := offB_len lb
  have hyb := offB_byt lb hb
  obtain ⟨y, ky, hy⟩ := nf_of ly hyb (offB_low lb hb)
  have hbb := hy.bytes
  have hN' : bn (offB bs) < NT.PN := Nat.lt_of_not_le fun e => h (.inl e)
  have hv := bn_small hN'
  rw [hv, rbytes_bn ly hyb] at hbb
  obtain ⟨rt, k, kbe, hr, hs⟩ := c_beside hy
  have hq : isSq (xxF (ph NT.PN (bn (offB bs)))).val = true := by
    cases hq : isSq (xxF (ph NT.PN (bn (offB bs)))).val with
    | true => rfl
    | false => exact absurd (.inr (.inl hq)) h
  rw [hq] at kbe
  obtain ⟨e1, e2⟩ := hs hq
  by_cases ho : 128 ≤ bs.getD 31 0
  · rw [if_pos ho] at hk1
    have k0 : k ≠ 0 := fun e => h (.inr (.inr ⟨by rw [← e1, e, z_mul], ho⟩))
    obtain ⟨r, ka, hra⟩ := of_ok_odd lb ly hx rfl hk1 hk2 hy ky hbb hr kbe k0
    refine ⟨r, ⟨iF * (0 - k), ph NT.PN (bn (offB bs))⟩, ka, ⟨_, hra, rep_at pn_fld i_sq _ _, take_on ((neg_sq k).trans e1)⟩, ?_⟩
    show pbytes (ph NT.PN (bn (offB bs))).val (oddB (-(iF * (iF * (0 - k)))).val) = bs
    rw [back_alg i_sq, hv, odd_val, decide_eq_true (neg_odd k0 e2)]
    show (rbytes (bn (offB bs))).set 31 _ = bs
    rw [rbytes_bn ly hyb]
    exact offB_back lb hb ho
  · rw [if_neg ho] at hk1
    obtain ⟨r, ka, hra⟩ := of_ok_even lb ly hx rfl hk1 hk2 hy ky hbb hr kbe
    refine ⟨r, ⟨iF * k, ph NT.PN (bn (offB bs))⟩, ka, ⟨_, hra, rep_at pn_fld i_sq _ _, take_on e1⟩, ?_⟩
    show pbytes (ph NT.PN (bn (offB bs))).val (oddB (-(iF * (iF * k))).val) = bs
    rw [back_alg i_sq, hv, odd_val, decide_eq_false (by omega)]
    show rbytes (bn (offB bs)) = bs
    rw [rbytes_bn ly hyb]
    exact offB_same lb hb (by omega)
end
end Go.Proofs.YtpaopdjbhmdfjaaDoor
