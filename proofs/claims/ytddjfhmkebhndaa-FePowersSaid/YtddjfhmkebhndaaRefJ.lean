/- Whether the reference takes a number for a square. -/
import Derived.Test.YtddjfhmkebhndaaRefI
namespace Go.Proofs.Ytddjfhmkebhndaa
open Go.RowKit

theorem rp_inj {a b : List Nat} {n : Nat} (ha : Rp a n) (hb : Rp b n) : a = b := by
  have inj : ∀ (a b : List Nat), a.length = b.length → Digs a → Digs b → dv a = dv b → a = b := by
    intro a
    induction a with
    | nil => intro b hl _ _ _; exact (List.length_eq_zero_iff.1 hl.symm).symm
    | cons x a ih =>
      intro b hl ha hb he
      cases b with
      | nil => simp at hl
      | cons y b =>
        have h1 := ha x (by simp)
        have h2 := hb y (by simp)
        simp only [dv] at he
        have e1 : x = y := by omega
        have e2 : dv a = dv b := by omega
        rw [e1, ih b (by simpa using hl) (fun v hv => ha v (by simp [hv])) (fun v hv => hb v (by simp [hv])) e2]
  exact inj a b (by rw [ha.1, hb.1]) ha.2.1 hb.2.1 (by rw [ha.2.2, hb.2.2])
def MD : List Nat := 65516 :: (List.replicate 14 65535 ++ [32767])
def HD2 : List Nat := 65526 :: (List.replicate 14 65535 ++ [16383])
theorem digs_dec {l : List Nat} (h : l.all (fun v => decide (v < 65536)) = true) : Digs l := fun v hv => of_decide_eq_true (List.all_eq_true.1 h v hv)
theorem md_rp : Rp MD (NT.PN - 1) := ⟨by decide, digs_dec (by decide), by decide⟩
theorem hd_rp : Rp HD2 ((NT.PN - 1) / 2) := ⟨by decide, digs_dec (by decide), by decide⟩
theorem hd_at : ∀ k : Nat, k < 16 → HD2[k]? = some (HD2.getD k 0) ∧ HD2.getD k 0 = MD.getD k 0 / 2 + (if k < 15 then MD.getD (k + 1) 0 % 2 * 32768 else 0) := by decide
theorem hd_bytes : (bv (byd (nl HD2))).toNat = (NT.PN - 1) / 2 := by decide +kernel
theorem hd_byt : Byt (byd (nl HD2)) := fun x hx => by
  have h : (byd (nl HD2)).all (fun v => decide (0 ≤ v ∧ v < 256)) = true := by decide +kernel
  exact of_decide_eq_true (List.all_eq_true.1 h x hx)
def isSq (m : Nat) : Bool := decide (m = 0) || decide (m ^ ((NT.PN - 1) / 2) % NT.PN = 1)
set_option maxRecDepth 4000 in
set_option maxHeartbeats 1000000 in
theorem rsquare_walk {A : Option Addr} {cA m : Nat} {a : List Nat} {w : World} (ha : Rp a m) (hm : m < NT.PN) (hA : Nums w .i64 A (nl a)) : Calls Try.prog 31 #[.slice A 16 cA] w fun e w' => e = .returned (.bool (isSq m)) ∧ Below w.heap.size w w' := by
  have HA := hid ha
  have HM := hid hm
  clear ha hm
  have c1 : ∀ w : World, Calls Try.prog 17 #[.int .i64 1] w (ROut 1 w) := fun w => rsmall_out 1 (by omega) w
  have C1 := hid c1
  obtain ⟨x, hx⟩ : ∃ x : Bool, x = decide (m = 0) := ⟨_, rfl⟩
  obtain ⟨y, hy⟩ : ∃ y : Bool, y = decide (m ^ ((NT.PN - 1) / 2) % NT.PN = 1) := ⟨_, rfl⟩
  have e : isSq m = (x || y) := by rw [hx, hy]; rfl
  rw [e]
  have HX := hid hx
  have HY := hid hy
  clear c1 hx hy e
  go_enter Try.func31, Try.ntmps31
  go_wp2_with (fail)
  refine (rp_out _).mono ?_
  rintro e w1 ⟨P1, cP, ps, rfl, HP, hP, hb1⟩
  go_wp2_with (fail)
  refine (C1.out _).mono ?_
  rintro e w2 ⟨O1, cO, os, rfl, HO, hO, hb2⟩
  have hb12 := hb1.trans (hb2.mono hb1.size)
  go_wp2_with (fail)
  refine (rless_out HP.out HO.out (by decide) (hP.stay hb2).nums hO.nums).mono ?_
  rintro e w3 ⟨N1, cN, ns, rfl, HN, hN, hb3⟩
  obtain rfl : ns = MD := rp_inj HN.out md_rp
  have hb := hb12.trans (hb3.mono hb12.size)
  have hN1 := hN.less hb12.size
  have hA1 := hA.below hb
  obtain ⟨g, o, rfl, _, _⟩ := hN1.nums.num (by rw [nl_length]; decide)
  clear hb1 hb2 hb12 hb3 hN hO hP HP HO HN hA
  go_wp2
  go_loopw [4, 5] (fun v i wr => ∃ (k : Nat) (R : Option Addr) (n c : Nat), k ≤ 16 ∧ v = .slice R n c ∧ i = .int .i64 k ∧ Owns wr w3.heap.size 3 .i64 (.slice R n c) (nl (HD2.take k)) ∧ Below w3.heap.size w3 wr) (fun _ i _ => 16 - (intOf i).toNat)
  case atStart => exact ⟨0, none, 0, 0, Nat.zero_le _, rfl, rfl, Owns.none_ _ _ _ _, Below.refl _ _⟩
  case round =>
    obtain ⟨k, R, n, c, hk, rfl, rfl, hO, hb3⟩ := hrel
    have hsz := hb3.size
    by_cases hlt : k < 16
    · have hNw := hN1.nums.below hb3
      have ck := num_cell hNw (nl_at (l := MD) (i := k) (by rw [md_rp.1]; exact hlt))
      have HTL : Hid ((nl (HD2.take k)).length ≤ 16) := hid (by rw [nl_length, List.length_take]; omega)
      have hx0 := getD_dig md_rp.2.1 k
      have hat := hd_at k hlt
      have k0 : (0 : Int) ≤ k := by omega
      have k1 : (k : Int) < 16 := by omega
      by_cases hlt2 : k < 15
      · rw [if_pos hlt2] at hat
        have hy0 := getD_dig md_rp.2.1 (k + 1)
        have ck2 := num_cell hNw (nl_at (l := MD) (i := k + 1) (by rw [md_rp.1]; omega))
        have HT : Hid (nl (HD2.take (k + 1)) = nl (HD2.take k) ++ [((MD.getD k 0 / 2 + MD.getD (k + 1) 0 % 2 * 32768 : Nat) : Int)]) := hid (by rw [nl_snoc, List.take_add_one, hat.1, hat.2]; rfl)
        clear hat hNw
        generalize MD.getD k 0 = p at *
        generalize MD.getD (k + 1) 0 = q at *
        have hv : ((p / 2 + q % 2 * 32768 : Nat) : Int) = (p : Int) / 2 + (q : Int) % 2 * 32768 := by omega
        have HV := hid hv
        clear hv
        have k2n : ((k : Int) + 1).toNat = k + 1 := by omega
        go_wp2_with (at_builtin; refine app_oneG rfl (.tmp 30) (.tmp 32) 28 rfl w3.heap.size 3 .i64 8 Try.underlying28 Try.info3 (by omega) R n c (nl (HD2.take k)) rfl hO _ 1 rfl (by have := HTL.out; omega) hsz ?_; intro A' n' c' w2 hO2 hG2)
        go_roundw
        case rel =>
          rw [← HV.out, ← HT.out] at hO2
          exact ⟨k + 1, A', n', c', by omega, rfl, by go_num, hO2, hb3.trans (hG2.below hsz (fun g hg => (hO.lt g hg).1))⟩
        case measure => simp [intOf]; omega
      · rw [if_neg hlt2, Nat.add_zero] at hat
        have HT : Hid (nl (HD2.take (k + 1)) = nl (HD2.take k) ++ [((MD.getD k 0 / 2 : Nat) : Int)]) := hid (by rw [nl_snoc, List.take_add_one, hat.1, hat.2]; rfl)
        clear hat hNw
        generalize MD.getD k 0 = p at *
        have hv : ((p / 2 : Nat) : Int) = (p : Int) / 2 := by omega
        have HV := hid hv
        clear hv
        go_wp2_with (at_builtin; refine app_oneG rfl (.tmp 30) (.tmp 32) 28 rfl w3.heap.size 3 .i64 8 Try.underlying28 Try.info3 (by omega) R n c (nl (HD2.take k)) rfl hO _ 1 rfl (by have := HTL.out; omega) hsz ?_; intro A' n' c' w2 hO2 hG2)
        go_roundw
        case rel =>
          rw [← HV.out, ← HT.out] at hO2
          exact ⟨k + 1, A', n', c', by omega, rfl, by go_num, hO2, hb3.trans (hG2.below hsz (fun g hg => (hO.lt g hg).1))⟩
        case measure => simp [intOf]; omega
    · have e : k = 16 := by omega
      subst e
      have hf : HD2.take 16 = HD2 := rfl
      rw [hf] at hO
      have hm := hO.len
      rw [nl_length, hd_rp.1] at hm
      subst hm
      have hHN := hO.nums
      have hA2 := hA1.below hb3
      have hb4 := hb.trans (hb3.mono hb.size)
      clear hb3 hb hO hA1 hN1 hf hlt hk hsz
      have hsz4 := hb4.size
      have HPE : Hid (∀ M, M = m ^ (bv (byd (nl HD2))).toNat % NT.PN → M = m ^ ((NT.PN - 1) / 2) % NT.PN) := hid (fun M h => by rw [h, hd_bytes])
      cases x with
      | true =>
        have cz : ∀ w, Nums w .i64 A (nl a) → Calls Try.prog 28 #[.slice A 16 cA] w fun e w' => e = .returned (.bool true) ∧ Below w.heap.size w w' := fun w h => by
          have := rzero_walk (cA := cA) HA.out h
          rwa [← HX.out] at this
        have CZ := hid cz
        clear cz
        go_wp2_with (go_at_call 28; refine (CZ.out _ hA2).mono ?_; rintro e w4 ⟨rfl, hb5⟩)
        go_ret
        exact ⟨rfl, hb4.trans (hb5.mono hsz4)⟩
      | false =>
        have cz : ∀ w, Nums w .i64 A (nl a) → Calls Try.prog 28 #[.slice A 16 cA] w fun e w' => e = .returned (.bool false) ∧ Below w.heap.size w w' := fun w h => by
          have := rzero_walk (cA := cA) HA.out h
          rwa [← HX.out] at this
        have CZ := hid cz
        clear cz
        have cs : ∀ (A B : Option Addr) (cA cB : Nat) (a b : List Nat) (w : World), Rp a (m ^ (bv (byd (nl HD2))).toNat % NT.PN) → Rp b 1 → Nums w .i64 A (nl a) → Nums w .i64 B (nl b) → Calls Try.prog 15 #[.slice A 16 cA, .slice B 16 cB] w fun e w' => e = .returned (.bool y) ∧ Below w.heap.size w w' := fun A B cA cB a b w h1 h2 h3 h4 => by
          have := rsame_walk (cA := cA) (cB := cB) h1 h2 h3 h4
          rwa [HPE.out _ rfl, ← HY.out] at this
        have CS := hid cs
        clear cs
        have HBL := hid (byd_length (nl HD2))
        have HBB := hid hd_byt
        go_wp2_with (fail)
        refine (CZ.out _ hA2).mono ?_
        rintro e w4 ⟨rfl, hb5⟩
        have hA5 := hA2.below hb5
        have hH5 := hHN.below hb5
        replace hb4 := hb4.trans (hb5.mono hsz4)
        clear hb5 hA2 hHN hsz4
        go_wp2_with (fail)
        refine (rbytes_walk hd_rp hH5).mono ?_
        rintro e w5 ⟨rfl, hb5⟩
        have hA6 := hA5.below hb5
        replace hb4 := hb4.trans (hb5.mono hb4.size)
        clear hb5 hA5 hH5
        generalize byd (nl HD2) = bs at *
        go_wp2_with (fail)
        refine (rpower_walk HA.out HM.out HBL.out HBB.out hA6).mono ?_
        rintro e w6 ⟨A6, c6, y6, rfl, HY6, hN6, hb5⟩
        replace hb4 := hb4.trans (hb5.mono hb4.size)
        clear hb5 hA6
        go_wp2_with (fail)
        refine (C1.out _).mono ?_
        rintro e w7 ⟨A7, c7, y7, rfl, HY7, hN7, hb5⟩
        have hN6' := hN6.stay hb5
        replace hb4 := hb4.trans (hb5.mono hb4.size)
        clear hb5 hN6
        go_wp2_with (fail)
        refine (CS.out _ _ _ _ _ _ _ HY6.out HY7.out hN6'.nums hN7.nums).mono ?_
        rintro e w8 ⟨rfl, hb5⟩
        replace hb4 := hb4.trans (hb5.mono hb4.size)
        clear hb5
        go_wp2
        go_ret
        exact ⟨rfl, hb4⟩
end Go.Proofs.Ytddjfhmkebhndaa
