import Derived.Test.YthpibkpljakeeaaGreatDoorG8
namespace Go.Proofs.YthpibkpljakeeaaGreatDoor
open Go.RowKit
def QN : Nat := 7237005577332262213973186563042994240857116359379907606001950938285454250989
theorem qn_pos : 0 < QN := by decide
def bn (l : List Int) : Nat := (bv l).toNat
theorem bn_int {l : List Int} (h : Byt l) : (bn l : Int) = bv l := Int.toNat_of_nonneg (bv_bd l h).1
theorem bn_lt {l : List Int} (h : Byt l) : bn l < 256 ^ l.length := by
 have h1 := (bv_bd l h).2
 rw [← bn_int h] at h1
 have e : ((256 ^ l.length : Nat) : Int) = (256 : Int) ^ l.length := by simp
 rw [← e] at h1
 exact Int.ofNat_lt.1 h1
def pr : List Int → List Int
 | [] => []
 | [a] => [a]
 | a :: b :: r => (a + 256 * b) :: pr r
theorem pr_ev : ∀ l, ev (pr l) = bv l
 | [] => rfl
 | [a] => by simp [pr, ev, bv]
 | a :: b :: r => by simp only [pr, ev, bv, pr_ev r]; omega
theorem pr_length : ∀ l : List Int, (pr l).length = (l.length + 1) / 2
 | [] => rfl
 | [a] => by simp [pr]
 | a :: b :: r => by simp only [pr, List.length_cons, pr_length r]; omega
theorem pr_at : ∀ (l : List Int) (i : Nat), 2 * i < l.length → (pr l)[i]? = some (l.getD (2 * i) 0 + 256 * l.getD (2 * i + 1) 0)
 | [], i, h => by simp at h
 | [a], i, h => by
   have : i = 0 := by simp at h; omega
   subst this
   simp [pr]
 | a :: b :: r, 0, h => by simp [pr]
 | a :: b :: r, i + 1, h => by
   have h1 := pr_at r i (by simp at h; omega)
   simp only [pr, List.getElem?_cons_succ, h1]
   have e : 2 * (i + 1) = 2 * i + 1 + 1 := by omega
   rw [e]
   simp
theorem pr_byt : ∀ l : List Int, Byt l → ∀ x ∈ pr l, 0 ≤ x ∧ x < 65536
 | [], _, x, hx => by simp [pr] at hx
 | [a], h, x, hx => by
   have := h a (by simp)
   simp [pr] at hx
   omega
 | a :: b :: r, h, x, hx => by
   have h1 := h a (by simp)
   have h2 := h b (by simp)
   rcases List.mem_cons.1 hx with e | e
   · omega
   · exact pr_byt r (fun y hy => h y (by simp [hy])) x e
theorem dgs_pr {l : List Int} (h : l.length = 32) : dgs l = pr l := by
 apply List.ext_getElem?
 intro i
 by_cases hi : i < 16
 · rw [dgs_at l hi, pr_at l i (by omega)]
 · rw [List.getElem?_eq_none (by rw [dgs_length]; omega), List.getElem?_eq_none (by rw [pr_length]; omega)]
theorem nl_of {l : List Int} (h : ∀ x ∈ l, 0 ≤ x ∧ x < 65536) : ∃ a : List Nat, nl a = l ∧ a.length = l.length ∧ Digs a ∧ dv a = (ev l).toNat := by
 have h1 : nl (l.map Int.toNat) = l := by
   unfold nl
   rw [List.map_map]
   conv => rhs; rw [← List.map_id l]
   refine List.map_congr_left fun x hx => ?_
   have := h x hx
   simp; omega
 refine ⟨l.map Int.toNat, h1, by rw [List.length_map], fun v hv => ?_, ?_⟩
 · obtain ⟨x, hx, rfl⟩ := List.mem_map.1 hv
   have := h x hx
   omega
 · have h2 := ev_nl (l.map Int.toNat)
   rw [h1] at h2
   rw [h2]; simp
theorem pr_nl {l : List Int} (h : Byt l) : ∃ a : List Nat, nl a = pr l ∧ a.length = (l.length + 1) / 2 ∧ Digs a ∧ dv a = bn l := by
 obtain ⟨a, h1, h2, h3, h4⟩ := nl_of (pr_byt l h)
 exact ⟨a, h1, by rw [h2, pr_length], h3, by rw [h4, pr_ev]; rfl⟩
theorem digits_of {b : List Int} (hl : b.length = 32) (hb : Byt b) : ∃ a : List Nat, nl a = dgs b ∧ Rp a (bn b) := by
 obtain ⟨a, h1, h2, h3, h4⟩ := pr_nl hb
 exact ⟨a, by rw [h1, dgs_pr hl], by omega, h3, h4⟩
theorem bn_lt32 {b : List Int} (hl : b.length = 32) (hb : Byt b) : bn b < 65536 ^ 16 := by
 have h := bn_lt hb
 rw [hl] at h
 exact h
theorem dgN_at (m : Nat) : ∀ (k j : Nat), j < k → (dgN m k)[j]? = some (m / 65536 ^ j % 65536) := by
 intro k
 induction k generalizing m with
 | zero => intro j h; omega
 | succ k ih =>
   intro j h
   cases j with
   | zero => simp [dgN]
   | succ j =>
     simp only [dgN, List.getElem?_cons_succ]
     rw [ih (m / 65536) j (by omega), Nat.div_div_eq_div_mul, Nat.pow_succ, Nat.mul_comm]
theorem dgN_length (m k : Nat) : (dgN m k).length = k := by
 induction k generalizing m with
 | zero => rfl
 | succ k ih => simp [dgN, ih]
theorem half_div (m p r : Nat) (h : r < 2) : m / 65536 ^ p % 65536 / 256 ^ r % 256 = m / 256 ^ (2 * p + r) % 256 := by
 have e : m / 256 ^ (2 * p + r) = m / 65536 ^ p / 256 ^ r := by
   rw [Nat.div_div_eq_div_mul, Nat.pow_add, Nat.pow_mul]
 rw [e]
 generalize m / 65536 ^ p = x
 have : r = 0 ∨ r = 1 := by omega
 rcases this with rfl | rfl <;> omega
theorem rbytes_at (m : Nat) {i : Nat} (h : i < 32) : (rbytes m)[i]? = some ((m / 256 ^ i % 256 : Nat) : Int) := by
 have h1 : (nl (dgN m 16)).getD (i / 2) 0 = ((m / 65536 ^ (i / 2) % 65536 : Nat) : Int) := by
   rw [List.getD_eq_getElem?_getD, nl_at (by rw [dgN_length]; omega), List.getD_eq_getElem?_getD, dgN_at m 16 (i / 2) (by omega)]
   rfl
 have h2 := half_div m (i / 2) (i % 2) (Nat.mod_lt _ (by omega))
 rw [Nat.div_add_mod] at h2
 rw [← h2]
 unfold rbytes byd
 rw [List.getElem?_map, List.getElem?_range h]
 simp only [Option.map_some, h1]
 congr 1
theorem rbytes_eq {b : List Int} {m : Nat} (hl : b.length = 32) (h : ∀ i, i < 32 → b[i]? = some ((m / 256 ^ i % 256 : Nat) : Int)) : b = rbytes m := by
 apply List.ext_getElem?
 intro i
 by_cases hi : i < 32
 · rw [h i hi, rbytes_at m hi]
 · rw [List.getElem?_eq_none (by omega), List.getElem?_eq_none (by rw [rbytes_length]; omega)]
theorem rbytes_bn {b : List Int} (hl : b.length = 32) (hb : Byt b) : rbytes (bn b) = b := by
 refine (rbytes_eq hl fun i hi => ?_).symm
 have h1 := bv_at b i hb
 rw [← bn_int hb] at h1
 rw [List.getElem?_eq_getElem (by omega)]
 have h2 : b.getD i 0 = b[i] := by rw [List.getD_eq_getElem?_getD, List.getElem?_eq_getElem (by omega)]; rfl
 rw [← h2, ← h1]
 congr 1
theorem bn_rbytes {m : Nat} (h : m < 65536 ^ 16) : bn (rbytes m) = m := by
 have h1 := dgs_byd (dgN m 16) (dgN_length m 16) (dgN_rp 16 m h).2.1
 have h2 : pr (rbytes m) = nl (dgN m 16) := by rw [← dgs_pr (rbytes_length m)]; exact h1
 unfold bn
 rw [← pr_ev, h2, ev_nl, (dgN_rp 16 m h).2.2]
 simp
theorem qn_lt : QN < 65536 ^ 16 := by decide
theorem modq_lt (m : Nat) : m % QN < 65536 ^ 16 := Nat.lt_trans (Nat.mod_lt _ qn_pos) qn_lt
theorem right_iff {b : List Int} (hl : b.length = 32) (hb : Byt b) : (rbytes (bn b % QN) = b) ↔ bn b < QN := by
 constructor
 · intro h
   have h1 := bn_rbytes (modq_lt (bn b))
   rw [h] at h1
   rw [h1]
   exact Nat.mod_lt _ qn_pos
 · intro h
   rw [Nat.mod_eq_of_lt h, rbytes_bn hl hb]
end Go.Proofs.YthpibkpljakeeaaGreatDoor
