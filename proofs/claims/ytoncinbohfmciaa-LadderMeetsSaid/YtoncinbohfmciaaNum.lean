/- The number of an element, below the prime; its bytes; the calls' results by numbers. -/
import Derived.Test.YtoncinbohfmciaaCalls
import Derived.Test.YtoncinbohfmciaaRefJ
namespace Go.Proofs.Ytoncinbohfmciaa
open Go.RowKit

def dgN (m : Nat) : Nat → List Nat
  | 0 => []
  | k + 1 => m % 65536 :: dgN (m / 65536) k
theorem dgN_rp (k : Nat) : ∀ m, m < 65536 ^ k → (dgN m k).length = k ∧ Digs (dgN m k) ∧ dv (dgN m k) = m := by
  induction k with
  | zero => intro m h; simp at h; subst h; exact ⟨rfl, fun v hv => by simp [dgN] at hv, rfl⟩
  | succ k ih =>
    intro m h
    rw [Nat.pow_succ, Nat.mul_comm] at h
    obtain ⟨h1, h2, h3⟩ := ih (m / 65536) (by omega)
    refine ⟨by simp [dgN, h1], fun v hv => ?_, ?_⟩
    · rcases List.mem_cons.1 hv with e | e
      · omega
      · exact h2 v e
    · simp only [dgN, dv, h3]; omega
theorem Rp.eq {a : List Nat} {m : Nat} (h : Rp a m) : a = dgN m 16 := by
  have hl := dv_lt a h.2.1
  rw [h.1, h.2.2] at hl
  obtain ⟨h1, h2, h3⟩ := dgN_rp 16 m hl
  exact rp_inj h ⟨h1, h2, h3⟩
/-- The bytes of a number. -/
def rbytes (m : Nat) : List Int := byd (nl (dgN m 16))
theorem rbytes_length (m : Nat) : (rbytes m).length = 32 := byd_length _
theorem rbytes_out {A : Option Addr} {cA m : Nat} {a : List Nat} {w : World} (ha : Rp a m) (hA : Nums w .i64 A (nl a)) : Calls Try.prog 19 #[.slice A 16 cA] w fun e w' => e = .returned (.agg (ints .u8 (rbytes m)).toArray) ∧ Below w.heap.size w w' := by
  have h := rbytes_walk (cA := cA) ha hA
  rw [ha.eq] at h
  exact h
/-- An element and its number. -/
def Nm (x : List Int) (m : Nat) : Prop := El x ∧ (ev x % P).toNat = m
theorem emod_nat (a : Int) : ((a % P).toNat : Int) = a % P := Int.toNat_of_nonneg (Int.emod_nonneg _ (by decide))
theorem Nm.int {x : List Int} {m : Nat} (h : Nm x m) : ev x % P = (m : Int) := by rw [← h.2, emod_nat]
theorem Nm.lt {x : List Int} {m : Nat} (h : Nm x m) : m < NT.PN := by
  have h1 : ev x % P < P := Int.emod_lt_of_pos _ (by decide)
  rw [h.int, ← pn_int] at h1
  exact Int.ofNat_lt.1 h1
theorem Nm.mk {x : List Int} {m : Nat} (h : El x) (e : ev x % P = (m : Int)) : Nm x m := ⟨h, by rw [e]; omega⟩
theorem Nm.of {x : List Int} (h : El x) : Nm x (ev x % P).toNat := ⟨h, rfl⟩
section
variable {x y : List Int} {m n : Nat}
theorem Nm.add (h : Nm x m) (k : Nm y n) : Nm (cy (plus x y)) ((m + n) % NT.PN) :=
  .mk (addL_el h.1 k.1).1 (by rw [(addL_el h.1 k.1).2, Int.add_emod, h.int, k.int, Int.natCast_emod, pn_int, Int.natCast_add])
theorem Nm.mul (h : Nm x m) (k : Nm y n) : Nm (mulL x y) (m * n % NT.PN) :=
  .mk (mulL_el h.1 k.1).1 (by rw [(mulL_el h.1 k.1).2, Int.mul_emod, h.int, k.int, Int.natCast_emod, pn_int, Int.natCast_mul])
theorem sub_int (m n : Nat) (hn : n < NT.PN) : (((m + NT.PN - n) % NT.PN : Nat) : Int) = ((m : Int) - n) % P := by
  rw [Int.natCast_emod, pn_int, Int.ofNat_sub (by omega), Int.natCast_add, pn_int, show (m : Int) + P - n = (m - n) + P by omega, Int.add_emod_right]
theorem Nm.sub (h : Nm x m) (k : Nm y n) : Nm (cy (minus x y)) ((m + NT.PN - n) % NT.PN) :=
  .mk (subL_el h.1 k.1).1 (by rw [(subL_el h.1 k.1).2, Int.sub_emod, h.int, k.int, sub_int m n k.lt])
theorem Nm.neg (h : Nm x m) : Nm (cy (minus (zeros 16) x)) ((0 + NT.PN - m) % NT.PN) :=
  .mk (negL_el h.1).1 (by rw [(negL_el h.1).2, sub_int 0 m h.lt, show -ev x = 0 - ev x by omega, Int.sub_emod, h.int]; rfl)
theorem Nm.pow (h : Nm x m) {bs : List Int} (hl : bs.length = 32) (hb : Byt bs) : Nm (powL x bs 256) (m ^ (bv bs).toNat % NT.PN) := by
  have h1 := (powL_num h.1 hb hl).trans (int_pow_mod (ev x) (bv bs).toNat)
  rw [h.2] at h1
  have h2 : ev (powL x bs 256) % P = ((m ^ (bv bs).toNat % NT.PN : Nat) : Int) % P := h1
  refine .mk (powL_el h.1 256) (h2.trans ?_)
  rw [← pn_int, ← Int.natCast_emod, Nat.mod_mod]
theorem Nm.inv (h : Nm x m) : Nm (invL x) (m ^ (NT.PN - 2) % NT.PN) := by
  have := h.pow (onesL_length 235 127) (onesL_byt (a := 235) (b := 127) (by omega) (by omega))
  rw [bv_inv] at this
  exact this
theorem Nm.small (n : Nat) (h : n < 65536) : Nm (smallL n) n := .mk (el_set (small_dg n)) (by
  rw [small_ev n (by omega)]
  apply Int.emod_eq_of_lt (by omega)
  have : (65536 : Int) < P := by decide
  omega)
theorem Nm.reds (h : Nm x m) : byd (red x) = rbytes m := by
  obtain ⟨hd, he⟩ := red_dg h.1
  obtain ⟨a, ha, hr⟩ := dg_nat hd
  rw [he, h.2] at hr
  unfold rbytes
  rw [← ha, hr.eq]
theorem Nm.bytes (h : Nm x m) : CallsTo 28 #[.agg (ints .i64 x).toArray] (.agg (ints .u8 (rbytes m)).toArray) := by
  have := c_bytes h.1
  rwa [h.reds] at this
theorem Nm.eqv (h : Nm x m) (k : Nm y n) : red x = red y ↔ m = n := by
  rw [red_eq h.1 k.1, h.int, k.int]
  omega
end
/-- The reference's number of bytes is the element's. -/
theorem rof_out {bs : List Int} {w : World} (hl : bs.length = 32) (hb : Byt bs) {m : Nat} (h : Nm (ofL bs) m) : Calls Try.prog 13 #[.agg (ints .u8 bs).toArray] w (ROut m w) := by
  have h1 := rof_walk (w := w) hl hb
  have h0 := (ofL_dg hb).bd.1
  obtain ⟨N, hN⟩ := Int.eq_ofNat_of_zero_le h0
  have h2 : (ev (ofL bs)).toNat % NT.PN = m := by
    have h3 := h.int
    rw [hN] at h3 ⊢
    rw [← pn_int, ← Int.natCast_emod] at h3
    have : ((N : Int)).toNat = N := by omega
    rw [this]; omega
  rwa [h2] at h1
end Go.Proofs.Ytoncinbohfmciaa
