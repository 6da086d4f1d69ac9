/- Texts of this proof, laid together: RefF, RefG, RefH, RefI, RefJ, Num. -/
import Derived.Test.YthpibkpljakeeaaDoorG4
import Derived.Test.YthpibkpljakeeaaDoorG5
/- The reference's digits of bytes, and its number of bytes. -/
namespace Go.Proofs.YthpibkpljakeeaaDoor
open Go.RowKit

end Go.Proofs.YthpibkpljakeeaaDoor

/- The reference's number of bytes. -/
namespace Go.Proofs.YthpibkpljakeeaaDoor
open Go.RowKit

theorem dg_nat {l : List Int} (h : Dg l) : ∃ a : List Nat, nl a = l ∧ Rp a (ev l).toNat := by
  have h1 : nl (l.map Int.toNat) = l := by
    unfold nl
    rw [List.map_map]
    conv => rhs; rw [← List.map_id l]
    refine List.map_congr_left fun x hx => ?_
    have := h.all x hx
    simp; omega
  refine ⟨l.map Int.toNat, h1, by rw [List.length_map]; exact h.1, fun v hv => ?_, ?_⟩
  · obtain ⟨x, hx, rfl⟩ := List.mem_map.1 hv
    have := h.all x hx
    omega
  · have h2 := ev_nl (l.map Int.toNat)
    rw [h1] at h2
    rw [h2]; simp
end Go.Proofs.YthpibkpljakeeaaDoor

/- The reference's product. -/
namespace Go.Proofs.YthpibkpljakeeaaDoor
open Go.RowKit

theorem e64 (T : Nat) (h : T < 4294967296) : Value.int .i64 (wrap64 ((T : Int) / 65536)) = Value.int .i64 ((T / 65536 : Nat) : Int) := by
  congr 1
  unfold wrap64
  omega
end Go.Proofs.YthpibkpljakeeaaDoor

/- The reference's powers. -/
namespace Go.Proofs.YthpibkpljakeeaaDoor
open Go.RowKit

/-- The bits of the bytes, as naturals. -/
theorem byte_bit {bs : List Int} (hb : Byt bs) (i k x : Nat) (hk : k < 8) (hx : bs[i]? = some (x : Int)) : (bv bs).toNat / 2 ^ (8 * i + k) % 2 = x / 2 ^ k % 2 := by
  have h1 := bit_eq bs hb (8 * i + k)
  unfold bitAt at h1
  have e1 : (8 * i + k) / 8 = i := by omega
  have e2 : (8 * i + k) % 8 = k := by omega
  rw [e1, e2] at h1
  have e3 : bs.getD i 0 = x := by rw [List.getD_eq_getElem?_getD, hx]; rfl
  rw [e3] at h1
  have h0 := (bv_bd bs hb).1
  obtain ⟨N, hN⟩ := Int.eq_ofNat_of_zero_le h0
  rw [hN] at h1 ⊢
  have h2 : ((2 : Int) ^ k) = ((2 ^ k : Nat) : Int) := by simp
  have h3 : ((2 : Int) ^ (8 * i + k)) = ((2 ^ (8 * i + k) : Nat) : Int) := by simp
  rw [h2, h3] at h1
  have t : ((N : Int)).toNat = N := by omega
  rw [t]
  generalize 2 ^ (8 * i + k) = P at *
  generalize 2 ^ k = q at *
  have e4 : ((x / q % 2 : Nat) : Int) = (x : Int) / (q : Int) % 2 := by simp
  have e5 : ((N / P % 2 : Nat) : Int) = (N : Int) / (P : Int) % 2 := by simp
  omega
end Go.Proofs.YthpibkpljakeeaaDoor

/- Whether the reference takes a number for a square. -/
namespace Go.Proofs.YthpibkpljakeeaaDoor
open Go.RowKit

theorem rp_inj {a b : List Nat} {n : Nat} (ha : Rp a n) (hb : Rp b n) : a = b := by
  have inj : ∀ (a b : List Nat), a.length = b.length → Digs a → Digs b → dv a = dv b → a = b := by
    intro a
    induction a with
    | nil => intro b hl _ _ _; exact (List.length_eq_zero_iff.1 hl.symm).symm
    | cons x a ih =>
      intro b hl ha hb he
      cases b with
      | nil => simp at hl
      | cons y b =>
        have h1 := ha x (by simp)
        have h2 := hb y (by simp)
        simp only [dv] at he
        have e1 : x = y := by omega
        have e2 : dv a = dv b := by omega
        rw [e1, ih b (by simpa using hl) (fun v hv => ha v (by simp [hv])) (fun v hv => hb v (by simp [hv])) e2]
  exact inj a b (by rw [ha.1, hb.1]) ha.2.1 hb.2.1 (by rw [ha.2.2, hb.2.2])
def MD : List Nat := 65516 :: (List.replicate 14 65535 ++ [32767])
def HD2 : List Nat := 65526 :: (List.replicate 14 65535 ++ [16383])
def isSq (m : Nat) : Bool := decide (m = 0) || decide (m ^ ((NT.PN - 1) / 2) % NT.PN = 1)
end Go.Proofs.YthpibkpljakeeaaDoor

/- The number of an element, below the prime; its bytes; the calls' results by numbers. -/
namespace Go.Proofs.YthpibkpljakeeaaDoor
open Go.RowKit

def dgN (m : Nat) : Nat → List Nat
  | 0 => []
  | k + 1 => m % 65536 :: dgN (m / 65536) k
theorem dgN_rp (k : Nat) : ∀ m, m < 65536 ^ k → (dgN m k).length = k ∧ Digs (dgN m k) ∧ dv (dgN m k) = m := by
  induction k with
  | zero => intro m h; simp at h; subst h; exact ⟨rfl, fun v hv => by simp [dgN] at hv, rfl⟩
  | succ k ih =>
    intro m h
    rw [Nat.pow_succ, Nat.mul_comm] at h
    obtain ⟨h1, h2, h3⟩ := ih (m / 65536) (by omega)
    refine ⟨by simp [dgN, h1], fun v hv => ?_, ?_⟩
    · rcases List.mem_cons.1 hv with e | e
      · omega
      · exact h2 v e
    · simp only [dgN, dv, h3]; omega
theorem Rp.eq {a : List Nat} {m : Nat} (h : Rp a m) : a = dgN m 16 := by
  have hl := dv_lt a h.2.1
  rw [h.1, h.2.2] at hl
  obtain ⟨h1, h2, h3⟩ := dgN_rp 16 m hl
  exact rp_inj h ⟨h1, h2, h3⟩
/-- The bytes of a number. -/
def rbytes (m : Nat) : List Int := byd (nl (dgN m 16))
theorem rbytes_length (m : Nat) : (rbytes m).length = 32 := byd_length _
/-- An element and its number. -/
def Nm (x : List Int) (m : Nat) : Prop := El x ∧ (ev x % P).toNat = m
theorem emod_nat (a : Int) : ((a % P).toNat : Int) = a % P := Int.toNat_of_nonneg (Int.emod_nonneg _ (by decide))
theorem Nm.int {x : List Int} {m : Nat} (h : Nm x m) : ev x % P = (m : Int) := by rw [← h.2, emod_nat]
theorem Nm.lt {x : List Int} {m : Nat} (h : Nm x m) : m < NT.PN := by
  have h1 : ev x % P < P := Int.emod_lt_of_pos _ (by decide)
  rw [h.int, ← pn_int] at h1
  exact Int.ofNat_lt.1 h1
theorem Nm.mk {x : List Int} {m : Nat} (h : El x) (e : ev x % P = (m : Int)) : Nm x m := ⟨h, by rw [e]; omega⟩
section
variable {x y : List Int} {m n : Nat}
theorem Nm.add (h : Nm x m) (k : Nm y n) : Nm (cy (plus x y)) ((m + n) % NT.PN) :=
  .mk (addL_el h.1 k.1).1 (by rw [(addL_el h.1 k.1).2, Int.add_emod, h.int, k.int, Int.natCast_emod, pn_int, Int.natCast_add])
theorem Nm.mul (h : Nm x m) (k : Nm y n) : Nm (mulL x y) (m * n % NT.PN) :=
  .mk (mulL_el h.1 k.1).1 (by rw [(mulL_el h.1 k.1).2, Int.mul_emod, h.int, k.int, Int.natCast_emod, pn_int, Int.natCast_mul])
theorem sub_int (m n : Nat) (hn : n < NT.PN) : (((m + NT.PN - n) % NT.PN : Nat) : Int) = ((m : Int) - n) % P := by
  rw [Int.natCast_emod, pn_int, Int.ofNat_sub (by omega), Int.natCast_add, pn_int, show (m : Int) + P - n = (m - n) + P by omega, Int.add_emod_right]
theorem Nm.sub (h : Nm x m) (k : Nm y n) : Nm (cy (minus x y)) ((m + NT.PN - n) % NT.PN) :=
  .mk (subL_el h.1 k.1).1 (by rw [(subL_el h.1 k.1).2, Int.sub_emod, h.int, k.int, sub_int m n k.lt])
theorem Nm.neg (h : Nm x m) : Nm (cy (minus (zeros 16) x)) ((0 + NT.PN - m) % NT.PN) :=
  .mk (negL_el h.1).1 (by rw [(negL_el h.1).2, sub_int 0 m h.lt, show -ev x = 0 - ev x by omega, Int.sub_emod, h.int]; rfl)
theorem Nm.pow (h : Nm x m) {bs : List Int} (hl : bs.length = 32) (hb : Byt bs) : Nm (powL x bs 256) (m ^ (bv bs).toNat % NT.PN) := by
  have h1 := (powL_num h.1 hb hl).trans (int_pow_mod (ev x) (bv bs).toNat)
  rw [h.2] at h1
  have h2 : ev (powL x bs 256) % P = ((m ^ (bv bs).toNat % NT.PN : Nat) : Int) % P := h1
  refine .mk (powL_el h.1 256) (h2.trans ?_)
  rw [← pn_int, ← Int.natCast_emod, Nat.mod_mod]
theorem Nm.inv (h : Nm x m) : Nm (invL x) (m ^ (NT.PN - 2) % NT.PN) := by
  have := h.pow (onesL_length 235 127) (onesL_byt (a := 235) (b := 127) (by omega) (by omega))
  rw [bv_inv] at this
  exact this
theorem Nm.small (n : Nat) (h : n < 65536) : Nm (smallL n) n := .mk (el_set (small_dg n)) (by
  rw [small_ev n (by omega)]
  apply Int.emod_eq_of_lt (by omega)
  have : (65536 : Int) < P := by decide
  omega)
theorem Nm.reds (h : Nm x m) : byd (red x) = rbytes m := by
  obtain ⟨hd, he⟩ := red_dg h.1
  obtain ⟨a, ha, hr⟩ := dg_nat hd
  rw [he, h.2] at hr
  unfold rbytes
  rw [← ha, hr.eq]
theorem Nm.bytes (h : Nm x m) : CallsTo 23 #[.agg (ints .i64 x).toArray] (.agg (ints .u8 (rbytes m)).toArray) := by
  have := c_bytes h.1
  rwa [h.reds] at this
theorem Nm.eqv (h : Nm x m) (k : Nm y n) : red x = red y ↔ m = n := by
  rw [red_eq h.1 k.1, h.int, k.int]
  omega
end
end Go.Proofs.YthpibkpljakeeaaDoor
