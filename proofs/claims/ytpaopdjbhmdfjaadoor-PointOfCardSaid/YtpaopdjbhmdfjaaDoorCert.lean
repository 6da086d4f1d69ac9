/- The prime 2^255 - 19: its certificate, and Fermat's theorem for it. No program. -/
import Derived.Test.YtpaopdjbhmdfjaaDoorPrime
import Derived.KernelRfl
namespace Go.Proofs.YtpaopdjbhmdfjaaDoor.NT
theorem pr_2 : Pr 2 := small_prime (by kernel_rfl)
theorem pr_17 : Pr 17 := small_prime (by kernel_rfl)
theorem pr_479 : Pr 479 := small_prime (by kernel_rfl)
theorem pr_32573 : Pr 32573 :=
  cert_prime (a := 2) (f := 15) (fs := [2, 2, 17, 479]) (by kernel_rfl) (by intro q hq; simp only [List.mem_cons, List.not_mem_nil, or_false] at hq; rcases hq with rfl | rfl | rfl | rfl <;> first | exact pr_2 | exact pr_17 | exact pr_479) (by decide)
theorem pr_65147 : Pr 65147 :=
  cert_prime (a := 2) (f := 16) (fs := [2, 32573]) (by kernel_rfl) (by intro q hq; simp only [List.mem_cons, List.not_mem_nil, or_false] at hq; rcases hq with rfl | rfl <;> first | exact pr_2 | exact pr_32573) (by decide)
theorem pr_353 : Pr 353 := small_prime (by kernel_rfl)
theorem pr_3 : Pr 3 := small_prime (by kernel_rfl)
theorem pr_5 : Pr 5 := small_prime (by kernel_rfl)
theorem pr_13 : Pr 13 := small_prime (by kernel_rfl)
theorem pr_97 : Pr 97 := small_prime (by kernel_rfl)
theorem pr_419 : Pr 419 := small_prime (by kernel_rfl)
theorem pr_7 : Pr 7 := small_prime (by kernel_rfl)
theorem pr_569003 : Pr 569003 :=
  cert_prime (a := 2) (f := 20) (fs := [2, 7, 97, 419]) (by kernel_rfl) (by intro q hq; simp only [List.mem_cons, List.not_mem_nil, or_false] at hq; rcases hq with rfl | rfl | rfl | rfl <;> first | exact pr_2 | exact pr_7 | exact pr_97 | exact pr_419) (by decide)
theorem pr_2437 : Pr 2437 := small_prime (by kernel_rfl)
theorem pr_2773320623 : Pr 2773320623 :=
  cert_prime (a := 5) (f := 32) (fs := [2, 2437, 569003]) (by kernel_rfl) (by intro q hq; simp only [List.mem_cons, List.not_mem_nil, or_false] at hq; rcases hq with rfl | rfl | rfl <;> first | exact pr_2 | exact pr_2437 | exact pr_569003) (by decide)
theorem pr_72106336199 : Pr 72106336199 :=
  cert_prime (a := 7) (f := 37) (fs := [2, 13, 2773320623]) (by kernel_rfl) (by intro q hq; simp only [List.mem_cons, List.not_mem_nil, or_false] at hq; rcases hq with rfl | rfl | rfl <;> first | exact pr_2 | exact pr_13 | exact pr_2773320623) (by decide)
theorem pr_47 : Pr 47 := small_prime (by kernel_rfl)
theorem pr_19 : Pr 19 := small_prime (by kernel_rfl)
theorem pr_103 : Pr 103 := small_prime (by kernel_rfl)
theorem pr_991 : Pr 991 := small_prime (by kernel_rfl)
theorem pr_8574133 : Pr 8574133 :=
  cert_prime (a := 2) (f := 24) (fs := [2, 2, 3, 7, 103, 991]) (by kernel_rfl) (by intro q hq; simp only [List.mem_cons, List.not_mem_nil, or_false] at hq; rcases hq with rfl | rfl | rfl | rfl | rfl | rfl <;> first | exact pr_2 | exact pr_3 | exact pr_7 | exact pr_103 | exact pr_991) (by decide)
theorem pr_127 : Pr 127 := small_prime (by kernel_rfl)
theorem pr_1919519569386763 : Pr 1919519569386763 :=
  cert_prime (a := 2) (f := 51) (fs := [2, 3, 7, 19, 47, 47, 127, 8574133]) (by kernel_rfl) (by intro q hq; simp only [List.mem_cons, List.not_mem_nil, or_false] at hq; rcases hq with rfl | rfl | rfl | rfl | rfl | rfl | rfl | rfl <;> first | exact pr_2 | exact pr_3 | exact pr_7 | exact pr_19 | exact pr_47 | exact pr_127 | exact pr_8574133) (by decide)
theorem pr_83 : Pr 83 := small_prime (by kernel_rfl)
theorem pr_9463 : Pr 9463 :=
  cert_prime (a := 3) (f := 14) (fs := [2, 3, 19, 83]) (by kernel_rfl) (by intro q hq; simp only [List.mem_cons, List.not_mem_nil, or_false] at hq; rcases hq with rfl | rfl | rfl | rfl <;> first | exact pr_2 | exact pr_3 | exact pr_19 | exact pr_83) (by decide)
theorem pr_37853 : Pr 37853 :=
  cert_prime (a := 2) (f := 16) (fs := [2, 2, 9463]) (by kernel_rfl) (by intro q hq; simp only [List.mem_cons, List.not_mem_nil, or_false] at hq; rcases hq with rfl | rfl | rfl <;> first | exact pr_2 | exact pr_9463) (by decide)
theorem pr_75707 : Pr 75707 :=
  cert_prime (a := 2) (f := 17) (fs := [2, 37853]) (by kernel_rfl) (by intro q hq; simp only [List.mem_cons, List.not_mem_nil, or_false] at hq; rcases hq with rfl | rfl <;> first | exact pr_2 | exact pr_37853) (by decide)
theorem pr_75445702479781427272750846543864801 : Pr 75445702479781427272750846543864801 :=
  cert_prime (a := 7) (f := 116) (fs := [2, 2, 2, 2, 2, 3, 3, 5, 5, 75707, 72106336199, 1919519569386763]) (by kernel_rfl) (by intro q hq; simp only [List.mem_cons, List.not_mem_nil, or_false] at hq; rcases hq with rfl | rfl | rfl | rfl | rfl | rfl | rfl | rfl | rfl | rfl | rfl | rfl <;> first | exact pr_2 | exact pr_3 | exact pr_5 | exact pr_75707 | exact pr_72106336199 | exact pr_1919519569386763) (by decide)
theorem pr_131 : Pr 131 := small_prime (by kernel_rfl)
theorem pr_132049 : Pr 132049 :=
  cert_prime (a := 26) (f := 18) (fs := [2, 2, 2, 2, 3, 3, 7, 131]) (by kernel_rfl) (by intro q hq; simp only [List.mem_cons, List.not_mem_nil, or_false] at hq; rcases hq with rfl | rfl | rfl | rfl | rfl | rfl | rfl | rfl <;> first | exact pr_2 | exact pr_3 | exact pr_7 | exact pr_131) (by decide)
theorem pr_107 : Pr 107 := small_prime (by kernel_rfl)
theorem pr_1723 : Pr 1723 := small_prime (by kernel_rfl)
theorem pr_430751 : Pr 430751 :=
  cert_prime (a := 17) (f := 19) (fs := [2, 5, 5, 5, 1723]) (by kernel_rfl) (by intro q hq; simp only [List.mem_cons, List.not_mem_nil, or_false] at hq; rcases hq with rfl | rfl | rfl | rfl | rfl <;> first | exact pr_2 | exact pr_5 | exact pr_1723) (by decide)
theorem pr_173 : Pr 173 := small_prime (by kernel_rfl)
theorem pr_4153 : Pr 4153 :=
  cert_prime (a := 5) (f := 13) (fs := [2, 2, 2, 3, 173]) (by kernel_rfl) (by intro q hq; simp only [List.mem_cons, List.not_mem_nil, or_false] at hq; rcases hq with rfl | rfl | rfl | rfl | rfl <;> first | exact pr_2 | exact pr_3 | exact pr_173) (by decide)
theorem pr_31 : Pr 31 := small_prime (by kernel_rfl)
theorem pr_223 : Pr 223 := small_prime (by kernel_rfl)
theorem pr_31757755568855353 : Pr 31757755568855353 :=
  cert_prime (a := 10) (f := 55) (fs := [2, 2, 2, 3, 31, 107, 223, 4153, 430751]) (by kernel_rfl) (by intro q hq; simp only [List.mem_cons, List.not_mem_nil, or_false] at hq; rcases hq with rfl | rfl | rfl | rfl | rfl | rfl | rfl | rfl | rfl <;> first | exact pr_2 | exact pr_3 | exact pr_31 | exact pr_107 | exact pr_223 | exact pr_4153 | exact pr_430751) (by decide)
theorem pr_59 : Pr 59 := small_prime (by kernel_rfl)
theorem pr_487 : Pr 487 := small_prime (by kernel_rfl)
theorem pr_57467 : Pr 57467 :=
  cert_prime (a := 2) (f := 16) (fs := [2, 59, 487]) (by kernel_rfl) (by intro q hq; simp only [List.mem_cons, List.not_mem_nil, or_false] at hq; rcases hq with rfl | rfl | rfl <;> first | exact pr_2 | exact pr_59 | exact pr_487) (by decide)
theorem pr_43 : Pr 43 := small_prime (by kernel_rfl)
theorem pr_23 : Pr 23 := small_prime (by kernel_rfl)
theorem pr_3727 : Pr 3727 :=
  cert_prime (a := 3) (f := 12) (fs := [2, 3, 3, 3, 3, 23]) (by kernel_rfl) (by intro q hq; simp only [List.mem_cons, List.not_mem_nil, or_false] at hq; rcases hq with rfl | rfl | rfl | rfl | rfl | rfl <;> first | exact pr_2 | exact pr_3 | exact pr_23) (by decide)
theorem pr_1923133 : Pr 1923133 :=
  cert_prime (a := 2) (f := 21) (fs := [2, 2, 3, 43, 3727]) (by kernel_rfl) (by intro q hq; simp only [List.mem_cons, List.not_mem_nil, or_false] at hq; rcases hq with rfl | rfl | rfl | rfl | rfl <;> first | exact pr_2 | exact pr_3 | exact pr_43 | exact pr_3727) (by decide)
theorem pr_74058212732561358302231226437062788676166966415465897661863160754340907 : Pr 74058212732561358302231226437062788676166966415465897661863160754340907 :=
  cert_prime (a := 2) (f := 236) (fs := [2, 3, 353, 57467, 132049, 1923133, 31757755568855353, 75445702479781427272750846543864801]) (by kernel_rfl) (by intro q hq; simp only [List.mem_cons, List.not_mem_nil, or_false] at hq; rcases hq with rfl | rfl | rfl | rfl | rfl | rfl | rfl | rfl <;> first | exact pr_2 | exact pr_3 | exact pr_353 | exact pr_57467 | exact pr_132049 | exact pr_1923133 | exact pr_31757755568855353 | exact pr_75445702479781427272750846543864801) (by decide)
/-- The prime. -/
def PN : Nat := 57896044618658097711785492504343953926634992332820282019728792003956564819949
/-- The order of 2 modulo the prime. -/
theorem two_order : (2 : Nat) ^ (PN - 1) % PN = 1 ∧ ∀ d, 0 < d → d < PN - 1 → (2 : Nat) ^ d % PN ≠ 1 :=
  cert_order (m := PN) (a := 2) (f := 255) (fs := [2, 2, 3, 65147, 74058212732561358302231226437062788676166966415465897661863160754340907]) (by kernel_rfl) (by intro q hq; simp only [List.mem_cons, List.not_mem_nil, or_false] at hq; rcases hq with rfl | rfl | rfl | rfl | rfl <;> first | exact pr_2 | exact pr_3 | exact pr_65147 | exact pr_74058212732561358302231226437062788676166966415465897661863160754340907) (by decide)
theorem fermat (x : Nat) (hx0 : 0 < x) (hx : x < PN) : x ^ (PN - 1) % PN = 1 :=
  fermat_of_order (a := 2) (N := PN - 1) (by decide) (by decide) two_order.1 two_order.2 x hx0 hx
theorem two_half : (2 : Nat) ^ ((PN - 1) / 2) % PN = PN - 1 := pow_is 255 (by decide) (by kernel_rfl)
end Go.Proofs.YtpaopdjbhmdfjaaDoor.NT
