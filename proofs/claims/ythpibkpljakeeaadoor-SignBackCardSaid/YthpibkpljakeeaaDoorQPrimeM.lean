/- The order is a prime: its certificate; what takes the base to the neutral point is a multiple of it. No program. -/
import Derived.Test.YthpibkpljakeeaaDoorPBaseM
import Derived.KernelRfl
namespace Go.Proofs.YthpibkpljakeeaaDoor.NT
theorem qr_2 : Pr 2 := small_prime (by kernel_rfl)
theorem qr_3 : Pr 3 := small_prime (by kernel_rfl)
theorem qr_11 : Pr 11 := small_prime (by kernel_rfl)
theorem qr_23 : Pr 23 := small_prime (by kernel_rfl)
theorem qr_47 : Pr 47 := small_prime (by kernel_rfl)
theorem qr_34123 : Pr 34123 :=
  cert_prime (a := 2) (f := 16) (fs := [2, 3, 11, 11, 47]) (by kernel_rfl) (by intro q hq; simp only [List.mem_cons, List.not_mem_nil, or_false] at hq; rcases hq with rfl | rfl | rfl | rfl | rfl <;> first | exact qr_2 | exact qr_3 | exact qr_11 | exact qr_47) (by decide)
theorem qr_409477 : Pr 409477 :=
  cert_prime (a := 2) (f := 19) (fs := [2, 2, 3, 34123]) (by kernel_rfl) (by intro q hq; simp only [List.mem_cons, List.not_mem_nil, or_false] at hq; rcases hq with rfl | rfl | rfl | rfl <;> first | exact qr_2 | exact qr_3 | exact qr_34123) (by decide)
theorem qr_14741173 : Pr 14741173 :=
  cert_prime (a := 2) (f := 24) (fs := [2, 2, 3, 3, 409477]) (by kernel_rfl) (by intro q hq; simp only [List.mem_cons, List.not_mem_nil, or_false] at hq; rcases hq with rfl | rfl | rfl | rfl | rfl <;> first | exact qr_2 | exact qr_3 | exact qr_409477) (by decide)
theorem qr_58964693 : Pr 58964693 :=
  cert_prime (a := 2) (f := 26) (fs := [2, 2, 14741173]) (by kernel_rfl) (by intro q hq; simp only [List.mem_cons, List.not_mem_nil, or_false] at hq; rcases hq with rfl | rfl | rfl <;> first | exact qr_2 | exact qr_14741173) (by decide)
theorem qr_7 : Pr 7 := small_prime (by kernel_rfl)
theorem qr_17 : Pr 17 := small_prime (by kernel_rfl)
theorem qr_43 : Pr 43 := small_prime (by kernel_rfl)
theorem qr_30703 : Pr 30703 :=
  cert_prime (a := 3) (f := 15) (fs := [2, 3, 7, 17, 43]) (by kernel_rfl) (by intro q hq; simp only [List.mem_cons, List.not_mem_nil, or_false] at hq; rcases hq with rfl | rfl | rfl | rfl | rfl <;> first | exact qr_2 | exact qr_3 | exact qr_7 | exact qr_17 | exact qr_43) (by decide)
theorem qr_5 : Pr 5 := small_prime (by kernel_rfl)
theorem qr_13 : Pr 13 := small_prime (by kernel_rfl)
theorem qr_79 : Pr 79 := small_prime (by kernel_rfl)
theorem qr_41081 : Pr 41081 :=
  cert_prime (a := 3) (f := 16) (fs := [2, 2, 2, 5, 13, 79]) (by kernel_rfl) (by intro q hq; simp only [List.mem_cons, List.not_mem_nil, or_false] at hq; rcases hq with rfl | rfl | rfl | rfl | rfl | rfl <;> first | exact qr_2 | exact qr_5 | exact qr_13 | exact qr_79) (by decide)
theorem qr_82163 : Pr 82163 :=
  cert_prime (a := 2) (f := 17) (fs := [2, 41081]) (by kernel_rfl) (by intro q hq; simp only [List.mem_cons, List.not_mem_nil, or_false] at hq; rcases hq with rfl | rfl <;> first | exact qr_2 | exact qr_41081) (by decide)
theorem qr_67 : Pr 67 := small_prime (by kernel_rfl)
theorem qr_22111 : Pr 22111 :=
  cert_prime (a := 6) (f := 15) (fs := [2, 3, 5, 11, 67]) (by kernel_rfl) (by intro q hq; simp only [List.mem_cons, List.not_mem_nil, or_false] at hq; rcases hq with rfl | rfl | rfl | rfl | rfl <;> first | exact qr_2 | exact qr_3 | exact qr_5 | exact qr_11 | exact qr_67) (by decide)
theorem qr_132667 : Pr 132667 :=
  cert_prime (a := 5) (f := 18) (fs := [2, 3, 22111]) (by kernel_rfl) (by intro q hq; simp only [List.mem_cons, List.not_mem_nil, or_false] at hq; rcases hq with rfl | rfl | rfl <;> first | exact qr_2 | exact qr_3 | exact qr_22111) (by decide)
theorem qr_1723 : Pr 1723 := small_prime (by kernel_rfl)
theorem qr_17231 : Pr 17231 :=
  cert_prime (a := 13) (f := 15) (fs := [2, 5, 1723]) (by kernel_rfl) (by intro q hq; simp only [List.mem_cons, List.not_mem_nil, or_false] at hq; rcases hq with rfl | rfl | rfl <;> first | exact qr_2 | exact qr_5 | exact qr_1723) (by decide)
theorem qr_137849 : Pr 137849 :=
  cert_prime (a := 3) (f := 18) (fs := [2, 2, 2, 17231]) (by kernel_rfl) (by intro q hq; simp only [List.mem_cons, List.not_mem_nil, or_false] at hq; rcases hq with rfl | rfl | rfl | rfl <;> first | exact qr_2 | exact qr_17231) (by decide)
theorem qr_3044861653679985063343 : Pr 3044861653679985063343 :=
  cert_prime (a := 5) (f := 72) (fs := [2, 3, 11, 30703, 82163, 132667, 137849]) (by kernel_rfl) (by intro q hq; simp only [List.mem_cons, List.not_mem_nil, or_false] at hq; rcases hq with rfl | rfl | rfl | rfl | rfl | rfl | rfl <;> first | exact qr_2 | exact qr_3 | exact qr_11 | exact qr_30703 | exact qr_82163 | exact qr_132667 | exact qr_137849) (by decide)
theorem qr_198211423230930754013084525763697 : Pr 198211423230930754013084525763697 :=
  cert_prime (a := 5) (f := 108) (fs := [2, 2, 2, 2, 3, 23, 58964693, 3044861653679985063343]) (by kernel_rfl) (by intro q hq; simp only [List.mem_cons, List.not_mem_nil, or_false] at hq; rcases hq with rfl | rfl | rfl | rfl | rfl | rfl | rfl | rfl <;> first | exact qr_2 | exact qr_3 | exact qr_23 | exact qr_58964693 | exact qr_3044861653679985063343) (by decide)
theorem qr_269 : Pr 269 := small_prime (by kernel_rfl)
theorem qr_73 : Pr 73 := small_prime (by kernel_rfl)
theorem qr_307 : Pr 307 := small_prime (by kernel_rfl)
theorem qr_113 : Pr 113 := small_prime (by kernel_rfl)
theorem qr_2939 : Pr 2939 :=
  cert_prime (a := 2) (f := 12) (fs := [2, 13, 113]) (by kernel_rfl) (by intro q hq; simp only [List.mem_cons, List.not_mem_nil, or_false] at hq; rcases hq with rfl | rfl | rfl <;> first | exact qr_2 | exact qr_13 | exact qr_113) (by decide)
theorem qr_5879 : Pr 5879 :=
  cert_prime (a := 11) (f := 13) (fs := [2, 2939]) (by kernel_rfl) (by intro q hq; simp only [List.mem_cons, List.not_mem_nil, or_false] at hq; rcases hq with rfl | rfl <;> first | exact qr_2 | exact qr_2939) (by decide)
theorem qr_292386187 : Pr 292386187 :=
  cert_prime (a := 2) (f := 29) (fs := [2, 3, 3, 3, 3, 307, 5879]) (by kernel_rfl) (by intro q hq; simp only [List.mem_cons, List.not_mem_nil, or_false] at hq; rcases hq with rfl | rfl | rfl | rfl | rfl | rfl | rfl <;> first | exact qr_2 | exact qr_3 | exact qr_307 | exact qr_5879) (by decide)
theorem qr_213441916511 : Pr 213441916511 :=
  cert_prime (a := 13) (f := 38) (fs := [2, 5, 73, 292386187]) (by kernel_rfl) (by intro q hq; simp only [List.mem_cons, List.not_mem_nil, or_false] at hq; rcases hq with rfl | rfl | rfl | rfl <;> first | exact qr_2 | exact qr_5 | exact qr_73 | exact qr_292386187) (by decide)
theorem qr_1361 : Pr 1361 := small_prime (by kernel_rfl)
theorem qr_19 : Pr 19 := small_prime (by kernel_rfl)
theorem qr_2851 : Pr 2851 :=
  cert_prime (a := 2) (f := 12) (fs := [2, 3, 5, 5, 19]) (by kernel_rfl) (by intro q hq; simp only [List.mem_cons, List.not_mem_nil, or_false] at hq; rcases hq with rfl | rfl | rfl | rfl | rfl <;> first | exact qr_2 | exact qr_3 | exact qr_5 | exact qr_19) (by decide)
theorem qr_41 : Pr 41 := small_prime (by kernel_rfl)
theorem qr_3797 : Pr 3797 :=
  cert_prime (a := 2) (f := 12) (fs := [2, 2, 13, 73]) (by kernel_rfl) (by intro q hq; simp only [List.mem_cons, List.not_mem_nil, or_false] at hq; rcases hq with rfl | rfl | rfl | rfl <;> first | exact qr_2 | exact qr_13 | exact qr_73) (by decide)
theorem qr_531581 : Pr 531581 :=
  cert_prime (a := 2) (f := 20) (fs := [2, 2, 5, 7, 3797]) (by kernel_rfl) (by intro q hq; simp only [List.mem_cons, List.not_mem_nil, or_false] at hq; rcases hq with rfl | rfl | rfl | rfl | rfl <;> first | exact qr_2 | exact qr_5 | exact qr_7 | exact qr_3797) (by decide)
theorem qr_2551 : Pr 2551 :=
  cert_prime (a := 6) (f := 12) (fs := [2, 3, 5, 5, 17]) (by kernel_rfl) (by intro q hq; simp only [List.mem_cons, List.not_mem_nil, or_false] at hq; rcases hq with rfl | rfl | rfl | rfl | rfl <;> first | exact qr_2 | exact qr_3 | exact qr_5 | exact qr_17) (by decide)
theorem qr_1224481 : Pr 1224481 :=
  cert_prime (a := 13) (f := 21) (fs := [2, 2, 2, 2, 2, 3, 5, 2551]) (by kernel_rfl) (by intro q hq; simp only [List.mem_cons, List.not_mem_nil, or_false] at hq; rcases hq with rfl | rfl | rfl | rfl | rfl | rfl | rfl | rfl <;> first | exact qr_2 | exact qr_3 | exact qr_5 | exact qr_2551) (by decide)
theorem qr_1257559732178653 : Pr 1257559732178653 :=
  cert_prime (a := 2) (f := 51) (fs := [2, 2, 3, 7, 23, 531581, 1224481]) (by kernel_rfl) (by intro q hq; simp only [List.mem_cons, List.not_mem_nil, or_false] at hq; rcases hq with rfl | rfl | rfl | rfl | rfl | rfl | rfl <;> first | exact qr_2 | exact qr_3 | exact qr_7 | exact qr_23 | exact qr_531581 | exact qr_1224481) (by decide)
theorem qr_4434155615661930479 : Pr 4434155615661930479 :=
  cert_prime (a := 17) (f := 62) (fs := [2, 41, 43, 1257559732178653]) (by kernel_rfl) (by intro q hq; simp only [List.mem_cons, List.not_mem_nil, or_false] at hq; rcases hq with rfl | rfl | rfl | rfl <;> first | exact qr_2 | exact qr_41 | exact qr_43 | exact qr_1257559732178653) (by decide)
theorem qr_172054593956031949258510691 : Pr 172054593956031949258510691 :=
  cert_prime (a := 2) (f := 88) (fs := [2, 5, 1361, 2851, 4434155615661930479]) (by kernel_rfl) (by intro q hq; simp only [List.mem_cons, List.not_mem_nil, or_false] at hq; rcases hq with rfl | rfl | rfl | rfl | rfl <;> first | exact qr_2 | exact qr_5 | exact qr_1361 | exact qr_2851 | exact qr_4434155615661930479) (by decide)
theorem qr_19757330305831588566944191468367130476339 : Pr 19757330305831588566944191468367130476339 :=
  cert_prime (a := 2) (f := 134) (fs := [2, 269, 213441916511, 172054593956031949258510691]) (by kernel_rfl) (by intro q hq; simp only [List.mem_cons, List.not_mem_nil, or_false] at hq; rcases hq with rfl | rfl | rfl | rfl <;> first | exact qr_2 | exact qr_269 | exact qr_213441916511 | exact qr_172054593956031949258510691) (by decide)
theorem qr_276602624281642239937218680557139826668747 : Pr 276602624281642239937218680557139826668747 :=
  cert_prime (a := 2) (f := 138) (fs := [2, 7, 19757330305831588566944191468367130476339]) (by kernel_rfl) (by intro q hq; simp only [List.mem_cons, List.not_mem_nil, or_false] at hq; rcases hq with rfl | rfl | rfl <;> first | exact qr_2 | exact qr_7 | exact qr_19757330305831588566944191468367130476339) (by decide)
theorem qr_7237005577332262213973186563042994240857116359379907606001950938285454250989 : Pr 7237005577332262213973186563042994240857116359379907606001950938285454250989 :=
  cert_prime (a := 2) (f := 253) (fs := [2, 2, 3, 11, 198211423230930754013084525763697, 276602624281642239937218680557139826668747]) (by kernel_rfl) (by intro q hq; simp only [List.mem_cons, List.not_mem_nil, or_false] at hq; rcases hq with rfl | rfl | rfl | rfl | rfl | rfl <;> first | exact qr_2 | exact qr_3 | exact qr_11 | exact qr_198211423230930754013084525763697 | exact qr_276602624281642239937218680557139826668747) (by decide)
end Go.Proofs.YthpibkpljakeeaaDoor.NT
namespace Go.Proofs.YthpibkpljakeeaaDoor
open Go.RowKit
theorem q_prime : NT.Pr QN := NT.qr_7237005577332262213973186563042994240857116359379907606001950938285454250989
theorem mul_rest {P : Edw.Pt NT.PN} (hP : Edw.On eF P) {a b : Nat} (ha : Edw.mul eF a P = Edw.O) (hb : Edw.mul eF b P = Edw.O) : Edw.mul eF (b % a) P = Edw.O := by
  have h := Edw.mul_add pn_fld ns_e hP (b / a * a) (b % a)
  rw [Nat.div_add_mod', hb, ← Edw.mul_mul pn_fld ns_e hP a (b / a), ha, Edw.mul_O pn_fld ns_e, Edw.O_add pn_fld ns_e (Edw.mul_on pn_fld ns_e hP _)] at h
  exact h.symm
theorem mul_gcd {P : Edw.Pt NT.PN} (hP : Edw.On eF P) : ∀ (a b : Nat), Edw.mul eF a P = Edw.O → Edw.mul eF b P = Edw.O → Edw.mul eF (Nat.gcd a b) P = Edw.O := by
  intro a
  induction a using Nat.strongRecOn with
  | _ a ih =>
    intro b ha hb
    by_cases h0 : a = 0
    · subst h0; rw [Nat.gcd_zero_left]; exact hb
    · rw [Nat.gcd_rec]
      exact ih (b % a) (Nat.mod_lt _ (by omega)) a (mul_rest hP ha hb) ha
theorem base_ne : baseP ≠ Edw.O := fun h => by
  have h1 : byF = 1 := congrArg Edw.Pt.y h
  have h2 := congrArg Fin.val h1
  rw [show byF.val = byN from Nat.mod_eq_of_lt (by decide +kernel)] at h2
  exact absurd h2 (by decide)
/-- The base's order is the order, and no less. -/
theorem base_order {j : Nat} (h : Edw.mul eF j baseP = Edw.O) : QN ∣ j := by
  have h1 := mul_gcd base_on j QN h order_base
  rcases q_prime.2 _ (Nat.gcd_dvd_right j QN) with e | e
  · rw [e, Edw.mul_one pn_fld ns_e base_on] at h1
    exact absurd h1 base_ne
  · rw [← e]; exact Nat.gcd_dvd_left j QN
end Go.Proofs.YthpibkpljakeeaaDoor
