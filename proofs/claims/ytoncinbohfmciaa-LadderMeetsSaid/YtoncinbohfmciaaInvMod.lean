/- Inverses modulo the prime; elements of bytes. -/
import Derived.Test.YtoncinbohfmciaaMod
import Derived.Test.YtoncinbohfmciaaCert
import Derived.Test.YtoncinbohfmciaaInv
namespace Go.Proofs.Ytoncinbohfmciaa

theorem pn_int : ((NT.PN : Nat) : Int) = P := by decide
theorem int_pow_mod (x : Int) (n : Nat) : Eqv (x ^ n) ((((x % P).toNat ^ n % NT.PN : Nat)) : Int) := by
  have h0 : 0 ≤ x % P := Int.emod_nonneg _ (by decide)
  have h1 : ((x % P).toNat : Int) = x % P := Int.toNat_of_nonneg h0
  unfold Eqv
  rw [Int.natCast_emod, pn_int, Int.emod_emod_of_dvd _ (Int.dvd_refl P), Int.natCast_pow, h1]
  exact Eqv.pow (show Eqv x (x % P) from (Int.emod_emod_of_dvd _ (Int.dvd_refl P)).symm) n
theorem not_zero {x : Int} (h : ¬ Eqv x 0) : 0 < (x % P).toNat ∧ (x % P).toNat < NT.PN := by
  have h0 : 0 ≤ x % P := Int.emod_nonneg _ (by decide)
  have h1 : x % P < P := Int.emod_lt_of_pos _ (by decide)
  have h2 : x % P ≠ 0 := fun e => h (by unfold Eqv; rw [e]; rfl)
  have h3 := pn_int
  constructor
  · omega
  · have : ((x % P).toNat : Int) < (NT.PN : Nat) := by rw [h3]; omega
    exact Int.ofNat_lt.1 this
theorem fermat_eqv {x : Int} (h : ¬ Eqv x 0) : Eqv (x ^ (NT.PN - 1)) 1 := by
  obtain ⟨h1, h2⟩ := not_zero h
  refine (int_pow_mod x _).trans ?_
  rw [NT.fermat _ h1 h2]
  exact Eqv.refl _
theorem bv_inv : (bv (onesL 235 127)).toNat = NT.PN - 2 := by decide +kernel
theorem bv_root : (bv (onesL 253 15)).toNat = (NT.PN - 5) / 8 := by decide +kernel
theorem inv_eqv {xs : List Int} (hx : El xs) : Eqv (ev (invL xs)) (ev xs ^ (NT.PN - 2)) := by
  have h := powL_num hx (onesL_byt (a := 235) (b := 127) (by omega) (by omega)) (onesL_length _ _)
  rw [bv_inv] at h
  exact h
theorem inv_one {x : Int} (h : ¬ Eqv x 0) : Eqv (x * x ^ (NT.PN - 2)) 1 := by
  have e : x * x ^ (NT.PN - 2) = x ^ (NT.PN - 1) := by
    have : NT.PN - 1 = (NT.PN - 2) + 1 := by decide
    rw [this, Int.pow_succ, Int.mul_comm]
  rw [e]
  exact fermat_eqv h
/-- No two that are not 0 make 0. -/
theorem mul_zero {x y : Int} (h : Eqv (x * y) 0) : Eqv x 0 ∨ Eqv y 0 := by
  by_cases hx : Eqv x 0
  · exact .inl hx
  · right
    have h1 := inv_one hx
    have h2 : Eqv (x ^ (NT.PN - 2) * (x * y)) (x ^ (NT.PN - 2) * 0) := (Eqv.refl _).mul h
    rw [Int.mul_zero, ← Int.mul_assoc, Int.mul_comm (x ^ _)] at h2
    have h3 : Eqv (x * x ^ (NT.PN - 2) * y) (1 * y) := h1.mul (Eqv.refl _)
    rw [Int.one_mul] at h3
    exact h3.symm.trans h2
theorem byt_getD {bs : List Int} (hb : Byt bs) (i : Nat) : 0 ≤ bs.getD i 0 ∧ bs.getD i 0 < 256 := by
  rw [List.getD_eq_getElem?_getD]
  cases h : bs[i]? with
  | none => simp
  | some x => exact hb.at_ h
theorem ofL_dg {bs : List Int} (hb : Byt bs) : Dg (ofL bs) := by
  refine ⟨ofL_length bs, fun i x hi => ?_⟩
  have h15 : (dgs bs)[15]? = some ((dgs bs).getD 15 0) := getD_some (by rw [dgs_length]; omega)
  have key : ∀ (i : Nat) (x : Int), (dgs bs)[i]? = some x → 0 ≤ x ∧ x < 65536 := fun i x hi => by
    have h16 := (List.getElem?_eq_some_iff.1 hi).1
    rw [dgs_length] at h16
    rw [dgs_at bs h16] at hi
    have h1 := byt_getD hb (2 * i)
    have h2 := byt_getD hb (2 * i + 1)
    rw [← Option.some.inj hi]
    omega
  unfold ofL at hi
  by_cases e : 15 = i
  · subst e
    rw [List.getElem?_set_self (by rw [dgs_length]; omega)] at hi
    rw [← Option.some.inj hi]
    omega
  · rw [List.getElem?_set_ne e] at hi
    have := key i x hi
    omega
theorem ofL_el {bs : List Int} (hb : Byt bs) : El (ofL bs) := el_set (ofL_dg hb)
end Go.Proofs.Ytoncinbohfmciaa
