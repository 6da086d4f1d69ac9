/- The reference's powers. -/
import Derived.Test.YtoncinbohfmciaaRefH
namespace Go.Proofs.Ytoncinbohfmciaa
open Go.RowKit

theorem pow_sq (m t M : Nat) : (m ^ 2 ^ t % M) * (m ^ 2 ^ t % M) % M = m ^ 2 ^ (t + 1) % M := by
  rw [← Nat.mul_mod, ← Nat.pow_add, Nat.pow_succ]
  congr 2; omega
theorem pow_bit1 {m N t M : Nat} (h : N / 2 ^ t % 2 = 1) : (m ^ (N % 2 ^ t) % M) * (m ^ 2 ^ t % M) % M = m ^ (N % 2 ^ (t + 1)) % M := by
  rw [← Nat.mul_mod, ← Nat.pow_add, Nat.mod_pow_succ, h, Nat.mul_one]
theorem pow_bit0 {m N t : Nat} (h : N / 2 ^ t % 2 = 0) : m ^ (N % 2 ^ (t + 1)) = m ^ (N % 2 ^ t) := by
  rw [Nat.mod_pow_succ, h, Nat.mul_zero, Nat.add_zero]
/-- The bits of the bytes, as naturals. -/
theorem byte_bit {bs : List Int} (hb : Byt bs) (i k x : Nat) (hk : k < 8) (hx : bs[i]? = some (x : Int)) : (bv bs).toNat / 2 ^ (8 * i + k) % 2 = x / 2 ^ k % 2 := by
  have h1 := bit_eq bs hb (8 * i + k)
  unfold bitAt at h1
  have e1 : (8 * i + k) / 8 = i := by omega
  have e2 : (8 * i + k) % 8 = k := by omega
  rw [e1, e2] at h1
  have e3 : bs.getD i 0 = x := by rw [List.getD_eq_getElem?_getD, hx]; rfl
  rw [e3] at h1
  have h0 := (bv_bd bs hb).1
  obtain ⟨N, hN⟩ := Int.eq_ofNat_of_zero_le h0
  rw [hN] at h1 ⊢
  have h2 : ((2 : Int) ^ k) = ((2 ^ k : Nat) : Int) := by simp
  have h3 : ((2 : Int) ^ (8 * i + k)) = ((2 ^ (8 * i + k) : Nat) : Int) := by simp
  rw [h2, h3] at h1
  have t : ((N : Int)).toNat = N := by omega
  rw [t]
  generalize 2 ^ (8 * i + k) = P at *
  generalize 2 ^ k = q at *
  have e4 : ((x / q % 2 : Nat) : Int) = (x : Int) / (q : Int) % 2 := by simp
  have e5 : ((N / P % 2 : Nat) : Int) = (N : Int) / (P : Int) % 2 := by simp
  omega
theorem bv_lt {bs : List Int} (hb : Byt bs) (hl : bs.length = 32) : (bv bs).toNat % 2 ^ 256 = (bv bs).toNat := by
  have h := bv_bd bs hb
  rw [hl, pow256] at h
  apply Nat.mod_eq_of_lt
  have e : ((2 : Int) ^ (8 * 32)) = ((2 ^ 256 : Nat) : Int) := by decide
  rw [e] at h
  generalize 2 ^ 256 = P at *
  omega
set_option maxRecDepth 4000 in
set_option maxHeartbeats 1000000 in
theorem rpower_walk {A : Option Addr} {cA m : Nat} {a : List Nat} {bs : List Int} {w : World} (ha : Rp a m) (hm : m < NT.PN) (hl : bs.length = 32) (hbb : Byt bs) (hA : Nums w .i64 A (nl a)) :
    Calls Try.prog 18 #[.slice A 16 cA, .agg (ints .u8 bs).toArray] w (ROut (m ^ (bv bs).toNat % NT.PN) w) := by
  have HL := hid hl
  have HB := hid hbb
  have ha0 : Rp a (m ^ 2 ^ 0 % NT.PN) := by rw [Nat.pow_zero, Nat.pow_one, Nat.mod_eq_of_lt hm]; exact ha
  have HA := hid ha0
  have h10 : m ^ ((bv bs).toNat % 2 ^ 0) % NT.PN = 1 := by rw [Nat.pow_zero, Nat.mod_one, Nat.pow_zero]; decide
  have H10 := hid h10
  have HFIN : Hid (m ^ ((bv bs).toNat % 2 ^ 256) % NT.PN = m ^ (bv bs).toNat % NT.PN) := hid (by rw [bv_lt hbb hl])
  have HBIT : Hid (∀ i k x : Nat, k < 8 → bs[i]? = some (x : Int) → (bv bs).toNat / 2 ^ (8 * i + k) % 2 = x / 2 ^ k % 2) := hid fun i k x => byte_bit hbb i k x
  have hN := Arr.made w .u8 bs 22
  have hW := below_new w (.cells (ints .u8 bs).toArray 22)
  clear ha ha0 hl hbb hm h10
  rw [← HFIN.out]
  generalize (bv bs).toNat = N at *
  clear HFIN
  have c1 : ∀ w : World, Calls Try.prog 14 #[.int .i64 1] w (ROut 1 w) := fun w => rsmall_out 1 (by omega) w
  have C1 := hid c1
  clear c1
  go_enter Try.func18, Try.ntmps18
  go_wp2_with (fail)
  generalize w.alloc (.cells (ints .u8 bs).toArray 22) = W0 at *
  refine (C1.out _).mono ?_
  rintro e w1 ⟨B, cB, q, rfl, HQ, hQ, hb1⟩
  rw [← H10.out] at HQ
  have hA1 := (hA.below hW).below hb1
  have hQ1 := hQ.less hW.size
  have hN1 := hN.below hb1 (by have := hN.lt (by rw [HL.out]; omega); exact this)
  have hW1 := hW.trans (hb1.mono hW.size)
  clear hA hN hW hQ hb1 H10 C1
  go_wp2
  go_loopw [0, 5, 6] (fun x y i wr => ∃ (k : Nat) (A : Option Addr) (cA : Nat) (a : List Nat) (B : Option Addr) (cB : Nat) (q : List Nat), k ≤ 32 ∧ i = .int .i64 k ∧ x = .slice A 16 cA ∧ Hid (Rp a (m ^ 2 ^ (8 * k) % NT.PN)) ∧ Nums wr .i64 A (nl a) ∧ y = .slice B 16 cB ∧ Hid (Rp q (m ^ (N % 2 ^ (8 * k)) % NT.PN)) ∧ NumsF w.heap.size wr .i64 B (nl q) ∧ Arr wr w.heap.size 0 .u8 bs ∧ Below w.heap.size w wr) (fun _ _ i _ => 32 - (intOf i).toNat)
  case atStart => exact ⟨0, A, cA, a, B, cB, q, by omega, rfl, rfl, HA, hA1, rfl, HQ, hQ1, hN1, hW1⟩
  case round =>
    clear hA1 hN1 hW1 hQ1 HA HQ
    obtain ⟨i, A, cA, a, B, cB, q, hi, rfl, rfl, HA, hA, rfl, HQ, hQ, hN, hW⟩ := hrel
    by_cases hlt : i < 32
    · obtain ⟨x', cx, fx, HX'⟩ := hN.spot (i := i) (by rw [HL.out]; omega)
      rw [Nat.zero_add] at cx
      have hx' := HB.out.at_ HX'.out
      obtain ⟨x, rfl⟩ := Int.eq_ofNat_of_zero_le hx'.1
      have hx : x < 256 := by omega
      have HBT : Hid (∀ k, k < 8 → N / 2 ^ (8 * i + k) % 2 = x / 2 ^ k % 2) := hid fun k hk => HBIT.out i k x hk HX'.out
      have i0 : (0 : Int) ≤ i := by omega
      have i1 : (i : Int) < 32 := by omega
      have hxw : IntKind.i64.wrap (x : Int) = x := IntWalk.i64_in _ (by omega)
      clear hx' fx
      rename World => W1
      go_wp2
      go_loopw [0, 5, 7, 8] (fun x' y c j wr => ∃ (k cc : Nat) (A : Option Addr) (cA : Nat) (a : List Nat) (B : Option Addr) (cB : Nat) (q : List Nat), k ≤ 8 ∧ j = .int .i64 k ∧ c = .int .i64 cc ∧ cc < 256 ∧ Hid (cc = x / 2 ^ k) ∧ x' = .slice A 16 cA ∧ Hid (Rp a (m ^ 2 ^ (8 * i + k) % NT.PN)) ∧ Nums wr .i64 A (nl a) ∧ y = .slice B 16 cB ∧ Hid (Rp q (m ^ (N % 2 ^ (8 * i + k)) % NT.PN)) ∧ NumsF w.heap.size wr .i64 B (nl q) ∧ Arr wr w.heap.size 0 .u8 bs ∧ Below w.heap.size w wr) (fun _ _ _ j _ => 8 - (intOf j).toNat)
      case atStart => exact ⟨0, x, A, cA, a, B, cB, q, by omega, rfl, rfl, hx, hid (by simp), rfl, HA, hA, rfl, HQ, hQ, hN, hW⟩
      case round =>
        clear hA hQ hN hW cx HA HQ hlt
        obtain ⟨k, cc, A, cA, a, B, cB, q, hk, rfl, rfl, hcc, HC, rfl, HA, hA, rfl, HQ, hQ, hN, hW⟩ := hrel
        have hbl := hN.lt (by rw [HL.out]; omega)
        by_cases hlt : k < 8
        · have HBK : Hid (N / 2 ^ (8 * i + k) % 2 = cc % 2) := hid (by rw [HBT.out k hlt, HC.out])
          have HC2 : Hid (cc / 2 = x / 2 ^ (k + 1)) := hid (by rw [HC.out, Nat.pow_succ, Nat.div_div_eq_div_mul])
          have hcv : Value.int .i64 ((cc : Int) / 2) = Value.int .i64 ((cc / 2 : Nat) : Int) := by congr 1
          have HCV := hid hcv
          clear hcv
          by_cases hbit : cc % 2 = 1
          · have hbe : ((cc : Int) % 2 == 1) = true := by simp; omega
            have HQ2 : Hid (m ^ (N % 2 ^ (8 * i + k)) % NT.PN * (m ^ 2 ^ (8 * i + k) % NT.PN) % NT.PN = m ^ (N % 2 ^ (8 * i + (k + 1))) % NT.PN) := hid (pow_bit1 (by rw [HBK.out, hbit]))
            go_wp2_with (fail)
            refine (rmul_walk HQ.out HA.out hQ.nums hA).mono ?_
            rintro e1 w1 ⟨B1, cB1, q1, rfl, HQ1, hQ1, hb1⟩
            rw [HQ2.out] at HQ1
            go_wp2_with (fail)
            refine (rmul_walk HA.out HA.out (hA.below hb1) (hA.below hb1)).mono ?_
            rintro e2 w2 ⟨A2, cA2, a2, rfl, HA2, hA2, hb2⟩
            rw [pow_sq] at HA2
            have hW1 := hW.trans (hb1.mono hW.size)
            go_wp2
            go_roundw
            case rel => exact ⟨k + 1, cc / 2, A2, cA2, a2, B1, cB1, q1, by omega, by go_num, HCV.out, by omega, HC2, rfl, HA2, hA2.nums, rfl, HQ1, (hQ1.less hW.size).stay hb2, (hN.below hb1 hbl).below hb2 (Nat.lt_of_lt_of_le hbl hb1.size), hW1.trans (hb2.mono hW1.size)⟩
            case measure => simp [intOf]; omega
          · have hbe : ((cc : Int) % 2 == 1) = false := by simp; omega
            have HQ2 : Hid (m ^ (N % 2 ^ (8 * i + k)) % NT.PN = m ^ (N % 2 ^ (8 * i + (k + 1))) % NT.PN) := hid (by rw [show 8 * i + (k + 1) = 8 * i + k + 1 from rfl, pow_bit0 (by rw [HBK.out]; omega)])
            rw [HQ2.out] at HQ
            go_wp2_with (fail)
            refine (rmul_walk HA.out HA.out hA hA).mono ?_
            rintro e2 w2 ⟨A2, cA2, a2, rfl, HA2, hA2, hb2⟩
            rw [pow_sq] at HA2
            go_wp2
            go_roundw
            case rel => exact ⟨k + 1, cc / 2, A2, cA2, a2, B, cB, q, by omega, by go_num, HCV.out, by omega, HC2, rfl, HA2, hA2.nums, rfl, HQ, hQ.stay hb2, hN.below hb2 hbl, hW.trans (hb2.mono hW.size)⟩
            case measure => simp [intOf]; omega
        · have e : k = 8 := by omega
          have e8 : 8 * i + k = 8 * (i + 1) := by omega
          rw [e8] at HA HQ
          clear e8
          go_wp2
          go_roundw
          case rel => exact ⟨i + 1, A, cA, a, B, cB, q, by omega, by go_num, rfl, HA, hA, rfl, HQ, hQ, hN, hW⟩
          case measure => simp [intOf]; omega
    · have e : i = 32 := by omega
      have e8 : 8 * i = 256 := by omega
      rw [e8] at HQ
      clear e8 e
      go_wp2
      go_ret
      exact ROut.mk HQ.out hQ hW
end Go.Proofs.Ytoncinbohfmciaa
