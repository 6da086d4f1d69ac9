import Derived.Test.YthpibkpljakeeaaDoorPBaseM
import Derived.KernelRfl
namespace Go.Proofs.YthpibkpljakeeaaDoor.NT
end Go.Proofs.YthpibkpljakeeaaDoor.NT
namespace Go.Proofs.YthpibkpljakeeaaDoor
open Go.RowKit
theorem mul_rest {P : Edw.Pt NT.PN} (hP : Edw.On eF P) {a b : Nat} (ha : Edw.mul eF a P = Edw.O) (hb : Edw.mul eF b P = Edw.O) : Edw.mul eF (b % a) P = Edw.O := by
 have h := Edw.mul_add pn_fld ns_e hP (b / a * a) (b % a)
 rw [Nat.div_add_mod', hb, ← Edw.mul_mul pn_fld ns_e hP a (b / a), ha, Edw.mul_O pn_fld ns_e, Edw.O_add pn_fld ns_e (Edw.mul_on pn_fld ns_e hP _)] at h
 exact h.symm
theorem mul_gcd {P : Edw.Pt NT.PN} (hP : Edw.On eF P) : ∀ (a b : Nat), Edw.mul eF a P = Edw.O → Edw.mul eF b P = Edw.O → Edw.mul eF (Nat.gcd a b) P = Edw.O := by
 intro a
 induction a using Nat.strongRecOn with
 | _ a ih =>
   intro b ha hb
   by_cases h0 : a = 0
   · subst h0; rw [Nat.gcd_zero_left]; exact hb
   · rw [Nat.gcd_rec]
     exact ih (b % a) (Nat.mod_lt _ (by omega)) a (mul_rest hP ha hb) ha
end Go.Proofs.YthpibkpljakeeaaDoor
