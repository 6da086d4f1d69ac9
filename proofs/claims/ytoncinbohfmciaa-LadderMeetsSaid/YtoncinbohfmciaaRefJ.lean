/- Whether the reference takes a number for a square. -/
import Derived.Test.YtoncinbohfmciaaRefI
namespace Go.Proofs.Ytoncinbohfmciaa
open Go.RowKit

theorem rp_inj {a b : List Nat} {n : Nat} (ha : Rp a n) (hb : Rp b n) : a = b := by
  have inj : ∀ (a b : List Nat), a.length = b.length → Digs a → Digs b → dv a = dv b → a = b := by
    intro a
    induction a with
    | nil => intro b hl _ _ _; exact (List.length_eq_zero_iff.1 hl.symm).symm
    | cons x a ih =>
      intro b hl ha hb he
      cases b with
      | nil => simp at hl
      | cons y b =>
        have h1 := ha x (by simp)
        have h2 := hb y (by simp)
        simp only [dv] at he
        have e1 : x = y := by omega
        have e2 : dv a = dv b := by omega
        rw [e1, ih b (by simpa using hl) (fun v hv => ha v (by simp [hv])) (fun v hv => hb v (by simp [hv])) e2]
  exact inj a b (by rw [ha.1, hb.1]) ha.2.1 hb.2.1 (by rw [ha.2.2, hb.2.2])
def MD : List Nat := 65516 :: (List.replicate 14 65535 ++ [32767])
def HD2 : List Nat := 65526 :: (List.replicate 14 65535 ++ [16383])
theorem digs_dec {l : List Nat} (h : l.all (fun v => decide (v < 65536)) = true) : Digs l := fun v hv => of_decide_eq_true (List.all_eq_true.1 h v hv)
theorem md_rp : Rp MD (NT.PN - 1) := ⟨by decide, digs_dec (by decide), by decide⟩
theorem hd_rp : Rp HD2 ((NT.PN - 1) / 2) := ⟨by decide, digs_dec (by decide), by decide⟩
theorem hd_at : ∀ k : Nat, k < 16 → HD2[k]? = some (HD2.getD k 0) ∧ HD2.getD k 0 = MD.getD k 0 / 2 + (if k < 15 then MD.getD (k + 1) 0 % 2 * 32768 else 0) := by decide
theorem hd_bytes : (bv (byd (nl HD2))).toNat = (NT.PN - 1) / 2 := by decide +kernel
theorem hd_byt : Byt (byd (nl HD2)) := fun x hx => by
  have h : (byd (nl HD2)).all (fun v => decide (0 ≤ v ∧ v < 256)) = true := by decide +kernel
  exact of_decide_eq_true (List.all_eq_true.1 h x hx)
def isSq (m : Nat) : Bool := decide (m = 0) || decide (m ^ ((NT.PN - 1) / 2) % NT.PN = 1)
end Go.Proofs.Ytoncinbohfmciaa
