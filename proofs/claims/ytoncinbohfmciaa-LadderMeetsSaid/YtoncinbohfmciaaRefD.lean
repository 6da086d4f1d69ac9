/- The reference's sum, its bytes, and its numbers of bytes. -/
import Derived.Test.YtoncinbohfmciaaRefC
namespace Go.Proofs.Ytoncinbohfmciaa
open Go.RowKit

/-- What has been added, digit by digit. -/
def SumI (l m ys : List Nat) (cy k : Nat) : Prop := ys.length = k ∧ Digs ys ∧ cy ≤ 1 ∧ dv ys + cy * 65536 ^ k = dv (l.take k) + dv (m.take k)
theorem SumI.step {l m ys : List Nat} {cy k : Nat} (h : SumI l m ys cy k) (h1 : k < l.length) (h2 : k < m.length) (dl : Digs l) (dm : Digs m) : SumI l m (ys ++ [(l.getD k 0 + m.getD k 0 + cy) % 65536]) ((l.getD k 0 + m.getD k 0 + cy) / 65536) (k + 1) := by
  obtain ⟨a, b, c, e⟩ := h
  have g1 : l[k]? = some (l.getD k 0) := by rw [List.getD_eq_getElem?_getD, List.getElem?_eq_getElem h1]; rfl
  have g2 : m[k]? = some (m.getD k 0) := by rw [List.getD_eq_getElem?_getD, List.getElem?_eq_getElem h2]; rfl
  have hx := getD_dig dl k
  have hy := getD_dig dm k
  refine ⟨by simp [a], digs_snoc b (Nat.mod_lt _ (by omega)), by omega, ?_⟩
  rw [dv_snoc, a, dv_take_succ l k _ g1, dv_take_succ m k _ g2, Nat.pow_succ]
  generalize l.getD k 0 = x at *
  generalize m.getD k 0 = y at *
  have hdm := Nat.div_add_mod (x + y + cy) 65536
  generalize (x + y + cy) % 65536 = r at *
  generalize (x + y + cy) / 65536 = q at *
  generalize 65536 ^ k = P at *
  have h3 : (65536 * q + r) * P = (x + y + cy) * P := by rw [hdm]
  have h4 : q * (P * 65536) = 65536 * q * P := by rw [Nat.mul_comm P, ← Nat.mul_assoc, Nat.mul_comm q]
  rw [Nat.add_mul, Nat.add_mul, Nat.add_mul] at h3
  rw [h4]
  omega
set_option maxRecDepth 4000 in
set_option maxHeartbeats 1000000 in
theorem radd_walk {A B : Option Addr} {cA cB m n : Nat} {a b : List Nat} {w : World} (ha : Rp a m) (hb : Rp b n) (hA : Nums w .i64 A (nl a)) (hB : Nums w .i64 B (nl b)) : Calls Try.prog 15 #[.slice A 16 cA, .slice B 16 cB] w (ROut ((m + n) % NT.PN) w) := by
  have HA := hid ha
  have HB := hid hb
  clear ha hb
  go_enter Try.func15, Try.ntmps15
  go_wp2
  go_loopw [5, 6, 7] (fun v b' i wr => ∃ (k : Nat) (ys : List Nat) (cy : Nat) (R : Option Addr) (n c : Nat), k ≤ 16 ∧ v = .slice R n c ∧ b' = .int .i64 cy ∧ i = .int .i64 k ∧ Hid (SumI a b ys cy k) ∧ Owns wr w.heap.size 3 .i64 (.slice R n c) (nl ys) ∧ Below w.heap.size w wr) (fun _ _ i _ => 16 - (intOf i).toNat)
  case atStart => exact ⟨0, [], 0, none, 0, 0, Nat.zero_le _, rfl, rfl, rfl, hid ⟨rfl, fun v hv => by simp at hv, by omega, by simp [dv]⟩, Owns.none_ _ _ _ _, Below.refl _ _⟩
  case round =>
    obtain ⟨k, ys, cy, R, n', c, hk, rfl, rfl, rfl, HI, hO, hbl⟩ := hrel
    have hsz := hbl.size
    have HY : Hid ((nl ys).length = k) := hid (by rw [nl_length]; exact HI.out.1)
    have hcy := HI.out.2.2.1
    by_cases hlt : k < 16
    · have hil : k < a.length := by rw [HA.out.1]; omega
      have him : k < b.length := by rw [HB.out.1]; omega
      obtain ⟨g, o, rfl, _, cA0⟩ := (hA.below hbl).num (by rw [nl_length, HA.out.1]; omega)
      obtain ⟨g2, o2, rfl, _, cB0⟩ := (hB.below hbl).num (by rw [nl_length, HB.out.1]; omega)
      have cl := cA0 k _ (nl_at hil)
      have cm := cB0 k _ (nl_at him)
      have hx := getD_dig HA.out.2.1 k
      have hy := getD_dig HB.out.2.1 k
      have HS := hid (HI.out.step hil him HA.out.2.1 HB.out.2.1)
      clear cA0 cB0 hil him
      generalize a.getD k 0 = x at *
      generalize b.getD k 0 = y at *
      have k0 : (0 : Int) ≤ k := by omega
      have k1 : (k : Int) < 16 := by omega
      obtain ⟨t, ht⟩ : ∃ t, t = x + y + cy := ⟨_, rfl⟩
      have w1 : IntKind.i64.wrap ((x : Int) + y) = (x : Int) + y := IntWalk.i64_in _ (by omega)
      have w2 : IntKind.i64.wrap ((x : Int) + y + cy) = t := by rw [IntWalk.i64_in _ (by omega)]; omega
      have htl : t < 200000 := by omega
      rw [← ht] at HS
      clear ht
      have e1 : ((t % 65536 : Nat) : Int) = (t : Int) % 65536 := by omega
      have e2 : Value.int .i64 ((t : Int) / 65536) = Value.int .i64 ((t / 65536 : Nat) : Int) := by congr 1
      have E1 := hid e1
      have E2 := hid e2
      clear e1 e2
      go_wp2
      go_quiet (fail)
      clear w1 w2
      go_wp2_with (at_builtin; refine app_one _ rfl (.tmp 24) (.tmp 27) 32 rfl w.heap.size 3 .i64 8 Try.underlying32 Try.info3 R n' c (nl ys) rfl (hO.drewN _) _ 1 rfl (by rw [HY.out]; omega) (by omega) (by simpa using hsz) ?_; intro A' n2 c' w2 hO2 hb2)
      go_roundw
      case rel => exact ⟨k + 1, _, t / 65536, A', n2, c', by omega, rfl, E2.out, by go_num, HS, by rw [← nl_snoc, E1.out]; exact hO2, (below_drewN hbl nq).trans hb2⟩
      case measure => simp [intOf]; omega
    · have e : k = 16 := by omega
      subst e
      have HE : Hid (dv (ys ++ [cy]) = m + n) := hid (by
        have h := HI.out.2.2.2
        rw [List.take_of_length_le (by rw [HA.out.1]; omega), List.take_of_length_le (by rw [HB.out.1]; omega), HA.out.2.2, HB.out.2.2] at h
        rw [dv_snoc, HI.out.1]; exact h)
      go_wp2_with (at_builtin; refine app_one _ rfl (.tmp 31) (.tmp 33) 32 rfl w.heap.size 3 .i64 8 Try.underlying32 Try.info3 R n' c (nl ys) rfl hO _ 1 rfl (by rw [HY.out]; omega) (by omega) hsz ?_; intro A' n2 c' w2 hO2 hb2)
      rw [nl_snoc] at hO2
      have hn2 := hO2.len
      rw [nl_length, List.length_append, HI.out.1] at hn2
      subst hn2
      replace hb2 := hbl.trans hb2
      refine (rmod_out A' c' 17 (m + n) (ys ++ [cy]) _ (by simp [HI.out.1]) (by omega) (by omega) (digs_snoc HI.out.2.1 (by omega)) hO2.nums HE.out).mono ?_
      rintro e3 w3 ⟨A3, c3, ys3, rfl, HY3, hN3, hb3⟩
      go_wp2
      go_ret
      exact ROut.mk HY3.out (hN3.less hb2.size) (hb2.trans (hb3.mono hb2.size))
end Go.Proofs.Ytoncinbohfmciaa
