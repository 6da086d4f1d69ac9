/- scalarOf: bytes modulo the order. -/
import Derived.Test.YtcoegehnipldpaaDoorSStepM
namespace Go.Proofs.YtcoegehnipldpaaDoor
open Go Go.RowKit

theorem mod_step (X b : Nat) : (2 * (X % QN) + b) % QN = (2 * X + b) % QN := by
  rw [Nat.add_mod, Nat.mul_mod, Nat.mod_mod, ← Nat.mul_mod, ← Nat.add_mod]
theorem half_step (N t : Nat) : 2 * (N / 2 ^ (t + 1)) + N / 2 ^ t % 2 = N / 2 ^ t := by
  rw [Nat.pow_succ, ← Nat.div_div_eq_div_mul]
  omega
theorem wd_zero : nl (wdN 0 4) = zeros 4 := by decide
theorem div_all {bs : List Int} (h : Byt bs) : bn bs / 2 ^ (8 * bs.length) = 0 := by
  have h1 := bn_lt h
  rw [show (256 : Nat) = 2 ^ 8 from rfl, ← Nat.pow_mul] at h1
  exact Nat.div_eq_of_lt h1
theorem bit_nat {bs : List Int} (hb : Byt bs) (t : Nat) (x s : Int) (b : Nat) (hx : bs[t / 8]? = some x) (hs : x / 2 ^ (t % 8) = s) (hbb : (b : Int) = s % 2) : bn bs / 2 ^ t % 2 = b := by
  have h1 := bit_eq bs hb t
  unfold bitAt at h1
  rw [List.getD_eq_getElem?_getD, hx, Option.getD_some, hs, ← hbb, ← bn_int hb] at h1
  have e : ((bn bs : Int) / 2 ^ t % 2) = ((bn bs / 2 ^ t % 2 : Nat) : Int) := by rw [Int.natCast_emod, Int.natCast_ediv]; simp
  rw [e] at h1
  exact (Int.ofNat.inj h1).symm
set_option maxRecDepth 4000 in
set_option maxHeartbeats 4000000 in
theorem scalarof_walk (A : Option Addr) (L c : Nat) (bs : List Int) (w : World) (hT : Tabs w) (hl : bs.length = L) (hn : L ≤ 1000) (hb : Byt bs) (hA : Nums w .u8 A bs) : Calls Tryd.prog 21 #[.slice A L c] w fun e w' => e = .returned (.agg (ints .u8 (rbytes (bn bs % QN))).toArray) ∧ Below w.heap.size w w' := by
  obtain ⟨z22, s22⟩ := zero_of_info inf22
  obtain ⟨z44, s44⟩ := zero_of_info inf44
  have HGA : Hid (0 < bs.length → ∀ g o s, A = some ⟨g, o, s⟩ → g < w.heap.size) := hid fun hp g o s e => by
    obtain ⟨g2, o2, e2, h2, _⟩ := hA.num hp
    rw [e2] at e; injection e with e; injection e with e1; omega
  have HL := hid hl
  have HB := hid hb
  have HM0 : Hid (bn bs / 2 ^ (8 * L) % QN = 0) := hid (by rw [← hl, div_all hb]; rfl)
  clear hl hb
  have hR := (Arr.made w .u8 (zeros 32) 23).alloc (.cells (ints .u64 (zeros 4)).toArray 44)
  have hN := Arr.made (w.alloc (.cells (ints .u8 (zeros 32)).toArray 23)) .u64 (zeros 4) 44
  have hW := (below_new w (.cells (ints .u8 (zeros 32)).toArray 23)).alloc (by simp) (.cells (ints .u64 (zeros 4)).toArray 44)
  rw [World.size_alloc] at hN
  have hA1 := hA.below hW
  have hwr : IntKind.i64.wrap (8 * (L : Int)) = 8 * (L : Int) := IntWalk.i64_in _ (by omega)
  have hwr2 : IntKind.i64.wrap (8 * (L : Int) - 1) = 8 * (L : Int) - 1 := IntWalk.i64_in _ (by omega)
  have hN1 : Arr ((w.alloc (.cells (ints .u8 (zeros 32)).toArray 23)).alloc (.cells (ints .u64 (zeros 4)).toArray 44)) (w.heap.size + 1) 0 .u64 (nl (wdN (bn bs / 2 ^ (8 * L) % QN) 4)) := by rw [HM0.out, wd_zero]; exact hN
  go_enter Tryd.func21, Tryd.ntmps21
  go_wp2
  go_loopw [4] (fun i wr => ∃ s : Nat, s ≤ 8 * L ∧ i = .int .i64 ((s : Int) - 1) ∧ Arr wr w.heap.size 0 .u8 (zeros 32) ∧ Arr wr (w.heap.size + 1) 0 .u64 (nl (wdN (bn bs / 2 ^ s % QN) 4)) ∧ Nums wr .u8 A bs ∧ Below w.heap.size w wr) (fun i _ => (intOf i + 1).toNat)
  case atStart => exact ⟨8 * L, by omega, by go_num, hR, hN1, hA1, hW⟩
  case round =>
    clear hR hN hN1 hA1 hW hwr hwr2 hA
    obtain ⟨s, hs, rfl, hR, hN, hA, hW⟩ := hrel
    rename World => W1
    have hT1 := hT.below hW hT.1
    cases s with
    | succ t =>
      have hz : ((t + 1 : Nat) : Int) - 1 = (t : Int) := by omega
      rw [hz]
      have hlp : 0 < bs.length := by rw [HL.out]; omega
      obtain ⟨g, f, rfl, hg, cA⟩ := hA.num hlp
      obtain ⟨q, hq⟩ : ∃ q, q = t / 8 := ⟨_, rfl⟩
      obtain ⟨r, hr⟩ : ∃ r, r = t % 8 := ⟨_, rfl⟩
      have hqt : Int.tdiv (t : Int) 8 = (q : Int) := by rw [Int.tdiv_eq_ediv_of_nonneg (by omega)]; omega
      have hrt : Int.tmod (t : Int) 8 = (r : Int) := by rw [Int.tmod_eq_emod_of_nonneg (by omega)]; omega
      have hqi : (t : Int) / 8 = (q : Int) := by omega
      have hri : (t : Int) % 8 = (r : Int) := by omega
      have hql : q < bs.length := by rw [HL.out]; omega
      have hx : bs[q]? = some (bs.getD q 0) := by rw [List.getD_eq_getElem?_getD, List.getElem?_eq_getElem hql]; rfl
      have cx := cA q _ hx
      have hxb := HB.out.at_ hx
      have HBT := fun s b => bit_nat HB.out t (bs.getD q 0) s b (by rw [← hq]; exact hx)
      rw [← hr] at HBT
      clear cA hx
      generalize bs.getD q 0 = x at *
      obtain ⟨s, hsd⟩ : ∃ s, x / 2 ^ r = s := ⟨_, rfl⟩
      have hsb : 0 ≤ s ∧ s < 256 := by
        have hp2 : (0 : Int) < 2 ^ r := Int.pow_pos (by omega)
        have h1 := Int.ediv_nonneg hxb.1 (Int.le_of_lt hp2)
        have h2 := Int.ediv_le_self (2 ^ r) hxb.1
        rw [← hsd]; omega
      obtain ⟨b, hbd⟩ : ∃ b : Nat, (b : Int) = s % 2 := ⟨(s % 2).toNat, by omega⟩
      have hbl : b ≤ 1 := by omega
      have hmk := mask1_u8 s hsb
      rw [← hbd] at hmk
      have hbit := HBT s b hsd hbd
      have hhs := half_step (bn bs) t
      rw [hbit] at hhs
      have hms := mod_step (bn bs / 2 ^ (t + 1)) b
      rw [hhs] at hms
      have hml : bn bs / 2 ^ (t + 1) % QN < QN := Nat.mod_lt _ qn_pos
      obtain ⟨m2, hm2⟩ : ∃ m2, bn bs / 2 ^ t % QN = m2 := ⟨_, rfl⟩
      rw [hm2] at hms
      have HM2 := hid hm2
      clear hm2 hhs hbit HBT
      generalize bn bs / 2 ^ (t + 1) % QN = m at *
      have kshift : CallsT 25 #[.agg (ints .u64 (nl (wdN m 4))).toArray, .int .u64 (b : Int)] (.agg (ints .u64 (nl (wdN m2 4))).toArray) := fun w0 hT0 => by
        have h := c_shift hml hbl w0 hT0
        rw [hms] at h
        exact h
      have hwl : (nl (wdN m 4)).length = 4 := by rw [nl_length]; exact (W4.of (Nat.lt_trans hml qn_w)).1
      have HW2 : Hid ((nl (wdN m2 4)).length = 4) := hid (by rw [nl_length, ← HM2.out]; exact (W4.modq _).1)
      have t0 : (0 : Int) ≤ t := by omega
      have q0 : (0 : Int) ≤ q := by omega
      have r0 : (0 : Int) ≤ r := by omega
      have r8 : (r : Int) ≤ 8 := by omega
      have hqw : IntKind.i64.wrap (q : Int) = (q : Int) := IntWalk.i64_in _ (by omega)
      have qL : (q : Int) < L := by rw [← HL.out]; omega
      have hb64 : IntKind.u64.wrap (b : Int) = (b : Int) := by rw [IntKind.wrap_u64]; omega
      have hwt : IntKind.i64.wrap ((t : Int) - 1) = (t : Int) - 1 := IntWalk.i64_in _ (by omega)
      have cxC : ∀ w0, Cl W1 w0 → w0.cell? ⟨g, f + q, none⟩ = some (.int .u8 x) := fun w0 h => cl_cell h hg cx
      have HG : Hid (g < w.heap.size) := hid (HGA.out hlp g f none rfl)
      have HQR := hid (And.intro hq hr)
      clear hbd hsb hxb hms hq hr hql hlp hz
      go_wp2_with (fail)
      refine region_spec2 12 27 (fun _ => false) [Is (.agg (ints .u64 (nl (wdN m 4))).toArray), Is (.slice (some ⟨g, f, none⟩) L c), Is (.int .i64 (t : Int)), Is (.int .i64 (q : Int)), Is (.pointer (some ⟨g, f + q, none⟩)), Is (.int .u8 x), Is (.int .i64 (t : Int)), Is (.int .i64 (r : Int)), Is (.int .u8 s), Is (.int .u8 (b : Int)), Is (.int .u64 (b : Int)), Is (.agg (ints .u64 (nl (wdN m2 4))).toArray)] [13, 14, 15, 16, 17, 18, 19, 20, 21, 22, 23, 24] (by kernel_rfl) (by kernel_rfl) (by kernel_rfl) (Nat.le_of_eq rfl) (grows_cons (Is.grows _) (grows_cons (Is.grows _) (grows_cons (Is.grows _) (grows_cons (Is.grows _) (grows_cons (Is.grows _) (grows_cons (Is.grows _) (grows_cons (Is.grows _) (grows_cons (Is.grows _) (grows_cons (Is.grows _) (grows_cons (Is.grows _) (grows_cons (Is.grows _) (grows_cons (Is.grows _) grows_nil))))))))))))
        ⟨(step_44 rfl (.inl rfl) hN hwl 3 rfl (by kernel_rfl) rfl rfl),
         (step_ex (.slice (some ⟨g, f, none⟩) L c) rfl (.inl rfl) rfl fun a ww hw hf hd => by
             have h0 : a.eval (.tmp 0) = (.slice (some ⟨g, f, none⟩) L c) := ((knows_out (v := (.slice (some ⟨g, f, none⟩) L c)) 0 (by kernel_rfl) rfl) : Knows _ _ W1 _ 12 _ 1 _ _) a ww hw hf hd
             revert h0
             generalize a.eval = ev
             intro h0
             unfold execOp
             simp only [h0]
             go_simp),
         (step_ex (.int .i64 (t : Int)) rfl (.inl rfl) rfl fun a ww hw hf hd => by
             have h4 : a.eval (.tmp 4) = (.int .i64 (t : Int)) := ((knows_out (v := (.int .i64 (t : Int))) 4 (by kernel_rfl) rfl) : Knows _ _ W1 _ 12 _ 2 _ _) a ww hw hf hd
             revert h4
             generalize a.eval = ev
             intro h4
             unfold execOp
             simp only [h4]
             go_simp),
         (step_ex (.int .i64 (q : Int)) rfl (.inl rfl) rfl fun a ww hw hf hd => by
             have h15 : a.eval (.tmp 15) = (.int .i64 (t : Int)) := ((knows_in (v := (.int .i64 (t : Int))) 2 15 (by decide) (by kernel_rfl) rfl rfl) : Knows _ _ W1 _ 12 _ 3 _ _) a ww hw hf hd
             have c0 : a.eval (.const (.int .i64 (8))) = .int .i64 (8) := rfl
             revert h15 c0
             generalize a.eval = ev
             intro h15 c0
             unfold execOp
             simp only [h15, c0]
             go_simp),
         (step_ex (.pointer (some ⟨g, f + q, none⟩)) rfl (.inl rfl) rfl fun a ww hw hf hd => by
             have h14 : a.eval (.tmp 14) = (.slice (some ⟨g, f, none⟩) L c) := ((knows_in (v := (.slice (some ⟨g, f, none⟩) L c)) 1 14 (by decide) (by kernel_rfl) rfl rfl) : Knows _ _ W1 _ 12 _ 4 _ _) a ww hw hf hd
             have h16 : a.eval (.tmp 16) = (.int .i64 (q : Int)) := ((knows_in (v := (.int .i64 (q : Int))) 3 16 (by decide) (by kernel_rfl) rfl rfl) : Knows _ _ W1 _ 12 _ 4 _ _) a ww hw hf hd
             revert h14 h16
             generalize a.eval = ev
             intro h14 h16
             unfold execOp
             simp only [h14, h16]
             go_simp),
         (step_ex (.int .u8 x) rfl (.inl rfl) rfl fun a ww hw hf hd => by
             have h17 : a.eval (.tmp 17) = (.pointer (some ⟨g, f + q, none⟩)) := ((knows_in (v := (.pointer (some ⟨g, f + q, none⟩))) 4 17 (by decide) (by kernel_rfl) rfl rfl) : Knows _ _ W1 _ 12 _ 5 _ _) a ww hw hf hd
             have hcc := cxC ww hw
             revert h17
             generalize a.eval = ev
             intro h17
             unfold execOp
             simp only [h17]
             go_simp),
         (step_ex (.int .i64 (t : Int)) rfl (.inl rfl) rfl fun a ww hw hf hd => by
             have h4 : a.eval (.tmp 4) = (.int .i64 (t : Int)) := ((knows_out (v := (.int .i64 (t : Int))) 4 (by kernel_rfl) rfl) : Knows _ _ W1 _ 12 _ 6 _ _) a ww hw hf hd
             revert h4
             generalize a.eval = ev
             intro h4
             unfold execOp
             simp only [h4]
             go_simp),
         (step_ex (.int .i64 (r : Int)) rfl (.inl rfl) rfl fun a ww hw hf hd => by
             have h19 : a.eval (.tmp 19) = (.int .i64 (t : Int)) := ((knows_in (v := (.int .i64 (t : Int))) 6 19 (by decide) (by kernel_rfl) rfl rfl) : Knows _ _ W1 _ 12 _ 7 _ _) a ww hw hf hd
             have c0 : a.eval (.const (.int .i64 (8))) = .int .i64 (8) := rfl
             revert h19 c0
             generalize a.eval = ev
             intro h19 c0
             unfold execOp
             simp only [h19, c0]
             go_simp),
         (step_ex (.int .u8 s) rfl (.inl rfl) rfl fun a ww hw hf hd => by
             have h18 : a.eval (.tmp 18) = (.int .u8 x) := ((knows_in (v := (.int .u8 x)) 5 18 (by decide) (by kernel_rfl) rfl rfl) : Knows _ _ W1 _ 12 _ 8 _ _) a ww hw hf hd
             have h20 : a.eval (.tmp 20) = (.int .i64 (r : Int)) := ((knows_in (v := (.int .i64 (r : Int))) 7 20 (by decide) (by kernel_rfl) rfl rfl) : Knows _ _ W1 _ 12 _ 8 _ _) a ww hw hf hd
             revert h18 h20
             generalize a.eval = ev
             intro h18 h20
             unfold execOp
             simp only [h18, h20]
             go_simp),
         (step_ex (.int .u8 (b : Int)) rfl (.inl rfl) rfl fun a ww hw hf hd => by
             have h21 : a.eval (.tmp 21) = (.int .u8 s) := ((knows_in (v := (.int .u8 s)) 8 21 (by decide) (by kernel_rfl) rfl rfl) : Knows _ _ W1 _ 12 _ 9 _ _) a ww hw hf hd
             have c0 : a.eval (.const (.int .u8 (1))) = .int .u8 (1) := rfl
             revert h21 c0
             generalize a.eval = ev
             intro h21 c0
             unfold execOp
             simp only [h21, c0]
             go_simp),
         (step_ex (.int .u64 (b : Int)) rfl (.inl rfl) rfl fun a ww hw hf hd => by
             have h22 : a.eval (.tmp 22) = (.int .u8 (b : Int)) := ((knows_in (v := (.int .u8 (b : Int))) 9 22 (by decide) (by kernel_rfl) rfl rfl) : Knows _ _ W1 _ 12 _ 10 _ _) a ww hw hf hd
             revert h22
             generalize a.eval = ev
             intro h22
             unfold execOp
             simp only [h22]
             go_simp),
         (step_toT rfl (.inl rfl) rfl cfT25 hT1 kshift rfl (two_args (knows_in (v := (.agg (ints .u64 (nl (wdN m 4))).toArray)) 0 13 (by decide) (by kernel_rfl) rfl rfl) (knows_in (v := (.int .u64 (b : Int))) 10 23 (by decide) (by kernel_rfl) rfl rfl))), trivial⟩ ?_
      intro val w9 hw hS hap hla
      have e13 : val 13 = (.agg (ints .u64 (nl (wdN m 4))).toArray) := hS 0 13 (by decide) rfl
      have e14 : val 14 = (.slice (some ⟨g, f, none⟩) L c) := hS 1 14 (by decide) rfl
      have e15 : val 15 = (.int .i64 (t : Int)) := hS 2 15 (by decide) rfl
      have e16 : val 16 = (.int .i64 (q : Int)) := hS 3 16 (by decide) rfl
      have e17 : val 17 = (.pointer (some ⟨g, f + q, none⟩)) := hS 4 17 (by decide) rfl
      have e18 : val 18 = (.int .u8 x) := hS 5 18 (by decide) rfl
      have e19 : val 19 = (.int .i64 (t : Int)) := hS 6 19 (by decide) rfl
      have e20 : val 20 = (.int .i64 (r : Int)) := hS 7 20 (by decide) rfl
      have e21 : val 21 = (.int .u8 s) := hS 8 21 (by decide) rfl
      have e22 : val 22 = (.int .u8 (b : Int)) := hS 9 22 (by decide) rfl
      have e23 : val 23 = (.int .u64 (b : Int)) := hS 10 23 (by decide) rfl
      have e24 : val 24 = (.agg (ints .u64 (nl (wdN m2 4))).toArray) := hS 11 24 (by decide) rfl
      simp only [putVals, List.foldl_cons, List.foldl_nil, List.drop_succ_cons, List.drop_zero, Act.put, List.setIfInBounds_toArray, List.set_cons_succ, List.set_cons_zero, e13, e14, e15, e16, e17, e18, e19, e20, e21, e22, e23, e24]
      clear hS hap hla e13 e14 e15 e16 e17 e18 e19 e20 e21 e22 e23 e24
      have hN9 := hN.below hw (hN.lt (by rw [hwl]; omega))
      have hR9 := hR.below hw (hR.lt (by rw [zeros_len]; omega))
      have hA9 := hA.below hw
      have hW9 := hW.trans (Below.mono hw hW.size)
      have hs1 : w9.there (w.heap.size + 1) 0 (ints .u64 (nl (wdN m2 4))).toArray.size := hN9.room (by rw [HW2.out, hwl])
      have hN8 := hN9.stored (l' := nl (wdN m2 4)) (by rw [HW2.out, hwl])
      have hR8 := hR9.past (b' := w.heap.size + 1) (o' := 0) (ints .u64 (nl (wdN m2 4))).toArray.toList (.inl (by omega))
      have hA8 : Nums (w9.setCells (w.heap.size + 1) 0 (ints .u64 (nl (wdN m2 4))).toArray.toList) .u8 (some ⟨g, f, none⟩) bs := nums_past hA9 _ (fun g' o' s' e => by injection e with e; injection e with e1; have := HG.out; omega)
      have hW8 := Below.setCells hW9 (g := w.heap.size + 1) (by omega) 0 (ints .u64 (nl (wdN m2 4))).toArray.toList
      clear hN hR hA hW hw hN9 hR9 hA9 hW9 cxC cx hT1
      go_wp2_with (first
        | (with_reducible refine wpList_store_mid (op := ⟨none, .store 44 (.tmp 3) (.tmp 24), _, _, _, _⟩) rfl 44 (.tmp 3) (.tmp 24) rfl (w.heap.size + 1) 0 (ints .u64 (nl (wdN m2 4))).toArray rfl rfl hs1 (a44 HW2.out) (ints_all _ _) ?_; generalize w9.setCells (w.heap.size + 1) 0 (ints .u64 (nl (wdN m2 4))).toArray.toList = W5 at *))
      go_roundw
      case rel => exact ⟨t, by omega, by go_num, hR8, (by rw [HM2.out]; exact hN8), hA8, hW8⟩
      case measure => simp [intOf]
    | zero =>
      have hz : ((0 : Nat) : Int) - 1 = -1 := by omega
      rw [hz]
      have hm : bn bs / 2 ^ 0 % QN = bn bs % QN := by rw [Nat.pow_zero, Nat.div_one]
      rw [hm] at hN
      have HK := hid (fun w0 => bytesof_walk (bn bs % QN) w0 (modq_lt _))
      have hwl : (nl (wdN (bn bs % QN) 4)).length = 4 := by rw [nl_length]; exact (W4.modq _).1
      have HBL := hid (rbytes_length (bn bs % QN))
      clear hz hm HM0
      generalize nl (wdN (bn bs % QN) 4) = ns at *
      obtain ⟨rs, hrs⟩ : ∃ rs, rbytes (bn bs % QN) = rs := ⟨_, rfl⟩
      rw [hrs] at HK HBL
      have HRS := hid hrs
      clear hrs
      go_wp2_with (first
        | (with_reducible refine wpList_load_mid (op := ⟨some 25, .load 44 (.tmp 3), _, _, _, _⟩) rfl 44 (.tmp 3) rfl (w.heap.size + 1) 0 rfl (ints .u64 ns) _ (hN.range) Tryd.underlying44 rfl (l44 hwl) ?_))
      refine (HK.out _).mono ?_
      rintro e w2 ⟨rfl, hb2⟩
      have hR2 := hR.below hb2 (hR.lt (by rw [zeros_len]; omega))
      have hs1 : w2.there w.heap.size 0 (ints .u8 rs).toArray.size := hR2.room (by rw [zeros_len]; exact HBL.out)
      have hR3 := hR2.stored (l' := rs) (by rw [zeros_len]; exact HBL.out)
      have hW2 := Below.setCells (hW.trans (Below.mono hb2 hW.size)) (g := w.heap.size) (Nat.le_refl _) 0 (ints .u8 rs).toArray.toList
      clear hR hN hW hb2 hR2 hA hT1
      go_wp2_with (first
        | (with_reducible refine wpList_store_mid (op := ⟨none, .store 23 (.tmp 2) (.tmp 26), _, _, _, _⟩) rfl 23 (.tmp 2) (.tmp 26) rfl w.heap.size 0 (ints .u8 rs).toArray rfl rfl hs1 (a22 HBL.out) (ints_all _ _) ?_; generalize w2.setCells w.heap.size 0 (ints .u8 rs).toArray.toList = W5 at *))
      exact ret_rows rfl w.heap.size 0 rfl (ints .u8 rs) _ hR3.range Tryd.underlying23 rfl (l22 HBL.out) rfl ⟨by rw [HRS.out], hW2⟩
end Go.Proofs.YtcoegehnipldpaaDoor
