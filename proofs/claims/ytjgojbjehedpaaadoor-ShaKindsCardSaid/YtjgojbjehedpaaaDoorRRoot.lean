/- The root, as the reference finds it. -/
import Derived.Test.YtjgojbjehedpaaaDoorAbove
namespace Go.Proofs.YtjgojbjehedpaaaDoor
open Go.RowKit
/-- What the digits are while bit m of digit i is looked for. -/
structure Sofar (k p i m : Nat) (A : List Nat) : Prop where
  len : A.length = 5
  dig : Digs A
  low : ∀ t, t < i → A.getD t 0 = 0
  mod : A.getD i 0 % 2 ^ m = 0
  top : A.getD i 0 + 2 ^ m ≤ 65536
  le : dv A ^ k ≤ p * 65536 ^ (4 * k)
  gt : p * 65536 ^ (4 * k) < (dv A + 2 ^ m * 65536 ^ i) ^ k
theorem sofar_start {k p : Nat} (hp : p ≤ 500) (hk : 2 ≤ k ∧ k ≤ 3) : Sofar k p 4 16 [0, 0, 0, 0, 0] := by
  refine ⟨rfl, by intro v hv; simp at hv; omega, by intro t _; rcases t with _ | _ | _ | _ | _ | t <;> simp, by simp, by simp, ?_, ?_⟩
  · have : dv [0, 0, 0, 0, 0] = 0 := by simp [dv]
    rw [this, Nat.zero_pow (by omega)]; exact Nat.zero_le _
  · have : k = 2 ∨ k = 3 := by omega
    rcases this with rfl | rfl <;> (simp [dv]; omega)
theorem sofar_next {k p i : Nat} {A : List Nat} (h : Sofar k p (i + 1) 0 A) : Sofar k p i 16 A := by
  refine ⟨h.len, h.dig, fun t ht => h.low t (by omega), ?_, ?_, h.le, ?_⟩
  · rw [h.low i (by omega)]
  · rw [h.low i (by omega)]; simp
  · have h2 := h.gt
    rw [Nat.pow_zero, Nat.one_mul, Nat.pow_succ] at h2
    have e : 2 ^ 16 * 65536 ^ i = 65536 ^ i * 65536 := by rw [Nat.mul_comm]
    rw [e]; exact h2
theorem dv_put {A : List Nat} {i b : Nat} (hi : i < A.length) : dv (A.set i (A.getD i 0 + b)) = dv A + b * 65536 ^ i := by
  have h := dv_set A i (A.getD i 0 + b) _ (get_ofN A hi)
  rw [Nat.add_mul] at h
  omega
theorem put_at (A : List Nat) {i v : Nat} (hi : i < A.length) : (A.set i v).getD i 0 = v := by simp [hi]
theorem put_ne (A : List Nat) {i t v : Nat} (h : t ≠ i) : (A.set i v).getD t 0 = A.getD t 0 := by
  rw [List.getD_eq_getElem?_getD, List.getElem?_set_ne (by omega), ← List.getD_eq_getElem?_getD]
theorem half_mod {d m : Nat} (h : d % 2 ^ (m + 1) = 0) : d % 2 ^ m = 0 := by
  rw [Nat.pow_succ] at h
  have := Nat.mod_mul_right_mod d (2 ^ m) 2
  rw [h] at this
  simpa using this.symm
theorem sofar_yes {k p i m : Nat} {A : List Nat} (hi : i ≤ 4) (h : Sofar k p i (m + 1) A) (hb : ¬ p * 65536 ^ (4 * k) < dv (A.set i (A.getD i 0 + 2 ^ m)) ^ k) : Sofar k p i m (A.set i (A.getD i 0 + 2 ^ m)) := by
  have hl : i < A.length := by rw [h.len]; omega
  have ht := h.top
  rw [Nat.pow_succ] at ht
  have hpos : 0 < 2 ^ m := Nat.pow_pos (by omega)
  refine ⟨by rw [List.length_set, h.len], set_digs h.dig _ _ (by omega), fun t ht => by rw [put_ne _ (by omega)]; exact h.low t ht, ?_, ?_, Nat.le_of_not_lt hb, ?_⟩
  · rw [put_at _ hl, Nat.add_mod_right]; exact half_mod h.mod
  · rw [put_at _ hl]; omega
  · rw [dv_put hl]
    have h2 := h.gt
    rw [Nat.pow_succ, show 2 ^ m * 2 * 65536 ^ i = 2 ^ m * 65536 ^ i + 2 ^ m * 65536 ^ i by rw [Nat.mul_comm (2 ^ m) 2, Nat.mul_assoc]; omega] at h2
    rw [Nat.add_assoc]; exact h2
theorem sofar_no {k p i m : Nat} {A : List Nat} (hi : i ≤ 4) (h : Sofar k p i (m + 1) A) (hb : p * 65536 ^ (4 * k) < dv (A.set i (A.getD i 0 + 2 ^ m)) ^ k) : Sofar k p i m A := by
  have hl : i < A.length := by rw [h.len]; omega
  have ht := h.top
  rw [Nat.pow_succ] at ht
  rw [dv_put hl] at hb
  exact ⟨h.len, h.dig, h.low, half_mod h.mod, by omega, h.le, hb⟩

def Stage (k p : Nat) (A : List Nat) : Nat → Prop
  | 0 => Sofar k p 0 0 A
  | j + 1 => Sofar k p j 16 A
theorem stage_of {k p : Nat} {A : List Nat} {i : Nat} (h : Sofar k p i 0 A) : Stage k p A i := by
  cases i with
  | zero => exact h
  | succ i => exact sofar_next h
theorem e64b (T : Nat) (h : T < 4294967296) : Value.int .i64 (wrap64 ((T : Int) / 2)) = Value.int .i64 ((T / 2 : Nat) : Int) := by
  congr 1
  unfold wrap64
  omega
theorem e64c (T : Nat) (h : T < 4294967296) : wrap64 ((T : Int) / 2) = ((T / 2 : Nat) : Int) := by
  unfold wrap64
  omega
theorem meas (a : Int) (B : Nat) (h : a = ((B / 2 : Nat) : Int)) (hb : 0 < B) : (intOf (.int .i64 a)).toNat < (intOf (.int .i64 (B : Int))).toNat := by
  subst h
  simp only [intOf]
  omega
theorem set_back (A : List Nat) (i v : Nat) (h : i < A.length) : (A.set i v).set i (A.getD i 0) = A := by
  rw [List.set_set]
  apply List.ext_getElem?
  intro t
  rw [List.getElem?_set]
  split
  · rename_i e; subst e; simp [h]
  · rfl

theorem root_end {k p : Nat} {A : List Nat} (h : Sofar k p 0 0 A) : dv (A.take 4) < 18446744073709551616 ∧ (dv (A.drop 4) * 18446744073709551616 + dv (A.take 4)) ^ k ≤ p * 18446744073709551616 ^ k ∧ p * 18446744073709551616 ^ k < (dv (A.drop 4) * 18446744073709551616 + dv (A.take 4) + 1) ^ k := by
  have e : (65536 : Nat) ^ 4 = 18446744073709551616 := by decide
  have hs := dv_split A 4 (by rw [h.len]; omega)
  rw [e, Nat.mul_comm, Nat.add_comm] at hs
  have ht := dv_lt (A.take 4) (fun v hv => h.dig v (List.mem_of_mem_take hv))
  rw [List.length_take, h.len, show min 4 5 = 4 from rfl, e] at ht
  have h1 := h.le
  have h2 := h.gt
  rw [Nat.pow_mul, e, hs] at h1 h2
  simp only [Nat.pow_zero, Nat.mul_one] at h2
  exact ⟨ht, h1, h2⟩

set_option maxRecDepth 4000 in
set_option maxHeartbeats 1000000 in
theorem rroot_any (p k : Nat) (w : World) (hp : 2 ≤ p ∧ p ≤ 500) (hk : 2 ≤ k ∧ k ≤ 3) :
    Calls Tryd.prog 16 #[.int .i64 p, .int .i64 k] w fun e w' => (∃ whole r : Nat, e = .returned (.int .u64 r) ∧ Hid (r < 18446744073709551616 ∧ (whole * 18446744073709551616 + r) ^ k ≤ p * 18446744073709551616 ^ k ∧ p * 18446744073709551616 ^ k < (whole * 18446744073709551616 + r + 1) ^ k)) ∧ Below w.heap.size w w' := by
  go_enter Tryd.func16, Tryd.ntmps16
  go_wp2
  have hA : Arr (w.alloc (.cells #[.int .i64 0, .int .i64 0, .int .i64 0, .int .i64 0, .int .i64 0] 3)) w.heap.size 0 .i64 (nl [0, 0, 0, 0, 0]) := Arr.made w .i64 (nl [0, 0, 0, 0, 0]) 3
  have hB := below_new w (.cells #[.int .i64 0, .int .i64 0, .int .i64 0, .int .i64 0, .int .i64 0] 3)
  have HS0 : Hid (Stage k p [0, 0, 0, 0, 0] 5) := hid (sofar_start hp.2 hk)
  generalize w.alloc (.cells #[.int .i64 0, .int .i64 0, .int .i64 0, .int .i64 0, .int .i64 0] 3) = W0 at *
  have HK := hid hk
  have k2 : (2 : Int) ≤ k := by omega
  have k3 : (k : Int) ≤ 3 := by omega
  clear hk
  go_loopw [6] (fun iv wr => ∃ (j : Nat) (A : List Nat), j ≤ 5 ∧ iv = .int .i64 ((j : Int) - 1) ∧ Hid (Stage k p A j) ∧ Below w.heap.size w wr ∧ Arr wr w.heap.size 0 .i64 (nl A)) (fun iv _ => (intOf iv + 1).toNat)
  case atStart => exact ⟨5, _, by omega, rfl, HS0, hB, hA⟩
  case round =>
    clear HS0 hA hB
    obtain ⟨j, A, hj, rfl, HS, hB, hA⟩ := hrel
    rename World => W1
    cases j with
    | zero =>
      go_wp2
      have hS0 : Hid (Sofar k p 0 0 A) := HS
      have HL5 := hid hS0.out.len
      have HT : Hid ((A.take 4).length = 4) := hid (by rw [List.length_take, HL5.out]; rfl)
      have HE := hid (root_end hS0.out)
      have HDT : Hid (Digs (A.take 4)) := hid (fun v hv => hS0.out.dig v (List.mem_of_mem_take hv))
      have HAT : Hid (∀ t, t < 4 → (A.take 4).getD t 0 = A.getD t 0) := hid (fun t ht => by simp [List.getD_eq_getElem?_getD, ht])
      have hd0 : Value.int .u64 0 = Value.int .u64 ((dv ((A.take 4).drop 4) : Nat) : Int) := by rw [List.drop_eq_nil_of_le (by rw [HT.out]; omega)]; rfl
      clear HS
      generalize A.take 4 = T at *
      go_loopw [10, 11] (fun rv iv wr => ∃ t : Nat, t ≤ 4 ∧ iv = .int .i64 ((t : Int) - 1) ∧ rv = .int .u64 ((dv (T.drop t) : Nat) : Int) ∧ Below w.heap.size w wr ∧ Arr wr w.heap.size 0 .i64 (nl A)) (fun _ iv _ => (intOf iv + 1).toNat)
      case atStart => exact ⟨4, by omega, rfl, hd0, hB, hA⟩
      case round =>
        clear hB hA hd0
        obtain ⟨t, ht, rfl, rfl, hB, hA⟩ := hrel
        cases t with
        | zero =>
          have e0 : T.drop 0 = T := rfl
          rw [e0]
          go_wp2
          go_ret
          exact ⟨⟨_, dv T, rfl, HE⟩, hB⟩
        | succ t =>
          have hz : ((t + 1 : Nat) : Int) - 1 = (t : Int) := by omega
          rw [hz]
          have t0 : (0 : Int) ≤ t := by omega
          have t5 : (t : Int) < 5 := by omega
          have tw : IntKind.i64.wrap ((t : Int) - 1) = (t : Int) - 1 := IntWalk.i64_in _ (by omega)
          have HDV := hid (dv_drop T (j := t) (by rw [HT.out]; omega))
          rw [HAT.out t (by omega)] at HDV
          have hlt := dv_lt (T.drop t) (fun v hv => HDT.out v (List.mem_of_mem_drop hv))
          have hle : 65536 ^ (T.drop t).length ≤ 65536 ^ 4 := Nat.pow_le_pow_right (by omega) (by rw [List.length_drop, HT.out]; omega)
          have hr0 : dv (T.drop t) < 18446744073709551616 := Nat.lt_of_lt_of_le hlt (Nat.le_trans hle (by decide))
          have hd := hA.at_ (i := t) (nl_at (by rw [HL5.out]; omega))
          rw [Nat.zero_add] at hd
          have hv := HDV.out
          have HR0 := hid hr0
          clear hlt hle hr0
          generalize hRR : dv (T.drop t) = R at *
          generalize dv (T.drop (t + 1)) = R1 at *
          generalize A.getD t 0 = d at *
          have w1 : IntKind.u64.wrap ((R1 : Int) * 65536) = ((R1 * 65536 : Nat) : Int) := by rw [IntWalk.u64_in _ (by have := HR0.out; omega)]; omega
          have w2 : IntKind.u64.wrap (d : Int) = d := IntWalk.u64_in _ (by have := HR0.out; omega)
          have w3 : IntKind.u64.wrap (((R1 * 65536 : Nat) : Int) + d) = (R : Int) := by rw [IntWalk.u64_in _ (by have := HR0.out; omega)]; omega
          have HRR := hid hRR
          obtain ⟨R2, hR2⟩ : ∃ R2, R2 = R1 * 65536 := ⟨_, rfl⟩
          rw [← hR2] at w1 w3
          clear hR2
          clear hRR hv HDV
          go_wp2
          go_roundw
          case rel => exact ⟨t, by omega, rfl, by rw [HRR.out], hB, hA⟩
          case measure => simp [intOf]
    | succ i =>
      have hz : ((i + 1 : Nat) : Int) - 1 = (i : Int) := by omega
      rw [hz]
      have i0 : (0 : Int) ≤ i := by omega
      have i4 : (i : Int) < 5 := by omega
      have iw : IntKind.i64.wrap ((i : Int) - 1) = (i : Int) - 1 := IntWalk.i64_in _ (by omega)
      have HS1 : Hid (Sofar k p i 16 A) := HS
      clear HS
      go_wp2
      go_loopw [7] (fun bv wr => ∃ (m bit : Nat) (A : List Nat), bv = .int .i64 bit ∧ Hid (bit = 2 ^ m / 2 ∧ m ≤ 16 ∧ Sofar k p i m A) ∧ Below w.heap.size w wr ∧ Arr wr w.heap.size 0 .i64 (nl A)) (fun bv _ => (intOf bv).toNat)
      case atStart => exact ⟨16, 32768, A, rfl, hid ⟨by decide, by omega, HS1.out⟩, hB, hA⟩
      case round =>
        clear hB hA HS1
        obtain ⟨m, bit, A, rfl, HS, hB, hA⟩ := hrel
        rename World => W2
        cases m with
        | zero =>
          have hb0 : bit = 0 := by have := HS.out.1; simpa using this
          subst hb0
          have HT := hid (stage_of HS.out.2.2)
          go_wp2
          go_roundw
          case rel => exact ⟨i, A, by omega, rfl, HT, hB, hA⟩
          case measure => simp [intOf]
        | succ m =>
          obtain ⟨hbit, hm, hS⟩ := HS.out
          have eb : bit = 2 ^ m := by rw [hbit, Nat.pow_succ]; omega
          have hm16 : 2 ^ m ≤ 2 ^ 15 := Nat.pow_le_pow_right (by omega) (by omega)
          have hb15 : bit ≤ 32768 := by omega
          have hb0 : (0 : Int) < bit := by have := Nat.pow_pos (n := m) (show 0 < 2 by omega); omega
          have hbn : 0 < bit := by omega
          have hl5 : A.length = 5 := hS.len
          have hd := hA.at_ (i := i) (nl_at (by omega))
          have hf := hA.free (i := i) (by rw [nl_length]; omega)
          rw [Nat.zero_add] at hd hf
          have hdt : A.getD i 0 < 65536 := getD_dig hS.dig i
          have HY := hid (fun h => sofar_yes (by omega) hS h)
          have HN := hid (fun h => sofar_no (by omega) hS h)
          rw [← eb] at HY HN
          have hsum : A.getD i 0 + bit < 65536 := by
            have h1 := hS.top
            rw [Nat.pow_succ, ← eb] at h1
            omega
          have HDA : Hid (Digs (A.set i (A.getD i 0 + bit))) := hid (set_digs hS.dig _ _ hsum)
          have HBK := hid (set_back A i (A.getD i 0 + bit) (by omega))
          have hw1 : IntKind.i64.wrap (((A.getD i 0 : Nat) : Int) + bit) = ((A.getD i 0 + bit : Nat) : Int) := by rw [IntWalk.i64_in _ (by omega)]; omega
          have hw2 : IntKind.i64.wrap (((A.getD i 0 + bit : Nat) : Int) - bit) = ((A.getD i 0 : Nat) : Int) := by rw [IntWalk.i64_in _ (by omega)]; omega
          have HEB := hid eb
          have HM := hid hm
          have HB15 := hid hb15
          have hA1 := hA.set i ((A.getD i 0 + bit : Nat) : Int)
          have HL5 : Hid ((A.set i (A.getD i 0 + bit)).length = 5) := hid (by rw [List.length_set, hl5])
          rw [nl_set, Nat.zero_add] at hA1
          generalize hA'0 : A.set i (A.getD i 0 + bit) = A' at *
          have HE2 : Hid ((nl (A.set i (A.getD i 0 + bit)))[i]? = some ((A.getD i 0 + bit : Nat) : Int)) := hid (by rw [nl_at (by rw [List.length_set]; omega), put_at _ (by omega)])
          rw [hA'0] at HE2
          generalize A.getD i 0 + bit = e2 at *
          clear hA'0
          generalize hdd : A.getD i 0 = d at *
          have HDD := hid hdd
          clear hsum hdd hS hbit eb hm hm16 hb15 hl5 HS hdt
          have hB1 := hB.setCell (p := ⟨w.heap.size, i, none⟩) (Nat.le_refl _) (.int .i64 (e2 : Int))
          clear hA hB
          go_wp2
          have hsz := hB1.size
          generalize (W2.setCell ⟨w.heap.size, i, none⟩ (.int .i64 (e2 : Int))) = W3 at *
          clear hd hf
          have hg3 : w.heap.size < W3.heap.size := hA1.lt (by rw [nl_length, HL5.out]; omega)
          have hN0 := hA1.nums
          have HG : Hid (w.heap.size < W3.heap.size) := hid hg3
          go_loopw [8, 9] (fun v jv wr => ∃ (j Bk c : Nat) (ds : List Nat), 1 ≤ j ∧ j ≤ k ∧ jv = .int .i64 j ∧ v = .slice (some ⟨Bk, 0, none⟩) ds.length c ∧ Hid (ds.length = 5 * j ∧ Digs ds ∧ dv ds = dv A' ^ j) ∧ Nums wr .i64 (some ⟨Bk, 0, none⟩) (nl ds) ∧ Below w.heap.size w wr ∧ Arr wr w.heap.size 0 .i64 (nl A')) (fun _ jv _ => 4 - (intOf jv).toNat)
          case atStart => exact ⟨1, w.heap.size, 5, A', by omega, by have := HK.out; omega, rfl, by rw [HL5.out], hid ⟨by rw [HL5.out], HDA.out, by simp⟩, hN0, hB1, hA1⟩
          case round =>
            clear hB1 hA1 hN0 hsz hg3
            obtain ⟨j, Bk, c, ds, hj1, hjk, rfl, rfl, HDS, hN, hB, hA⟩ := hrel
            rename World => W4
            have hgl : w.heap.size < W4.heap.size := hA.lt (by rw [nl_length, HL5.out]; omega)
            by_cases hlt : j < k
            · have hj3 : (j : Int) < k := by omega
              have HF := hid (rtimes_any Bk 0 c w.heap.size 0 5 ds A' W4 (by have := HDS.out.1; omega) (by rw [HL5.out]; omega) HDS.out.2.1 HDA.out hN hA.nums)
              rw [HL5.out] at HF
              go_wp2_with (go_at_call 27; refine (HF.out).mono ?_; rintro e w5 ⟨B, rfl, hD, hBl, hb5⟩)
              go_roundw
              case rel =>
                refine ⟨j + 1, B, ds.length + 5, digs ds A', by omega, by omega, by go_num, by rw [digs_length, HL5.out], hid ⟨by rw [digs_length, HL5.out, HDS.out.1]; omega, digs_digs _ _ HDS.out.2.1 HDA.out, by rw [digs_dv, HDS.out.2.2, Nat.pow_succ]⟩, hD.nums, hB.trans (hb5.mono hB.size), hA.below hb5 hgl⟩
              case measure => simp [intOf]; omega
            · have e : j = k := by omega
              subst e
              obtain ⟨q, hq⟩ : ∃ q, q = 4 * j := ⟨_, rfl⟩
              have hqw : IntKind.i64.wrap (4 * (j : Int)) = (q : Int) := by rw [IntWalk.i64_in _ (by have := HK.out; omega)]; omega
              have HF := hid (above_any Bk 0 c ds p q W4 (by have := HDS.out.1; omega) (by have := HDS.out.1; omega) (by omega) HDS.out.2.1 hN)
              rw [HDS.out.2.2, hq, ] at HF
              rw [← hq] at HF HY HN
              have HQ := hid hq
              clear hq hlt
              have he := hA.at_ (i := i) (x := (e2 : Int)) HE2.out
              have hf := hA.free (i := i) (by rw [nl_length, HL5.out]; omega)
              rw [Nat.zero_add] at he hf
              have hbw : wrap64 ((bit : Int) / 2) = ((bit / 2 : Nat) : Int) := e64c bit (by have := HB15.out; omega)
              go_wp2_with (go_at_call 28; refine (HF.out).mono ?_; rintro e w5 ⟨b, rfl, HBB, rfl⟩; cases b)
              · have HR := hid (HY.out (of_decide_eq_false HBB.out.symm))
                clear HBB HF HY HN
                go_roundw
                case rel => exact ⟨m, bit / 2, A', congrArg (Value.int .i64) hbw, hid ⟨by rw [HEB.out], by have := HM.out; omega, HR.out⟩, hB, hA⟩
                case measure => exact meas _ bit hbw hbn
              · have HR := hid (HN.out (of_decide_eq_true HBB.out.symm))
                have h := hA.set i (d : Int)
                rw [nl_set, Nat.zero_add, HBK.out] at h
                clear HBB HF HY HN
                go_roundw
                case rel => exact ⟨m, bit / 2, A, congrArg (Value.int .i64) hbw, hid ⟨by rw [HEB.out], by have := HM.out; omega, HR.out⟩, hB.setCell (Nat.le_refl _) _, h⟩
                case measure => exact meas _ bit hbw hbn
end Go.Proofs.YtjgojbjehedpaaaDoor
