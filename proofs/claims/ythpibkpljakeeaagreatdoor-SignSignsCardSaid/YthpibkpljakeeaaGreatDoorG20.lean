/- Texts laid together. -/
import Derived.Test.YthpibkpljakeeaaGreatDoorG7
import Derived.Test.YthpibkpljakeeaaGreatDoorG19
import Derived.Test.YthpibkpljakeeaaGreatDoorSConvM
import Derived.Test.YthpibkpljakeeaaGreatDoorG5
namespace Go.Proofs.YthpibkpljakeeaaGreatDoor
open Go Go.RowKit
theorem mod_step (X b : Nat) : (2 * (X % QN) + b) % QN = (2 * X + b) % QN := by
 rw [Nat.add_mod, Nat.mul_mod, Nat.mod_mod, ← Nat.mul_mod, ← Nat.add_mod]
theorem half_step (N t : Nat) : 2 * (N / 2 ^ (t + 1)) + N / 2 ^ t % 2 = N / 2 ^ t := by
 rw [Nat.pow_succ, ← Nat.div_div_eq_div_mul]
 omega
theorem wd_zero : nl (wdN 0 4) = zeros 4 := by decide
theorem div_all {bs : List Int} (h : Byt bs) : bn bs / 2 ^ (8 * bs.length) = 0 := by
 have h1 := bn_lt h
 rw [show (256 : Nat) = 2 ^ 8 from rfl, ← Nat.pow_mul] at h1
 exact Nat.div_eq_of_lt h1
theorem bit_nat {bs : List Int} (hb : Byt bs) (t : Nat) (x s : Int) (b : Nat) (hx : bs[t / 8]? = some x) (hs : x / 2 ^ (t % 8) = s) (hbb : (b : Int) = s % 2) : bn bs / 2 ^ t % 2 = b := by
 have h1 := bit_eq bs hb t
 unfold bitAt at h1
 rw [List.getD_eq_getElem?_getD, hx, Option.getD_some, hs, ← hbb, ← bn_int hb] at h1
 have e : ((bn bs : Int) / 2 ^ t % 2) = ((bn bs / 2 ^ t % 2 : Nat) : Int) := by rw [Int.natCast_emod, Int.natCast_ediv]; simp
 rw [e] at h1
 exact (Int.ofNat.inj h1).symm
set_option maxRecDepth 4000 in
set_option maxHeartbeats 4000000 in
theorem scalarof_walk (A : Option Addr) (L c : Nat) (bs : List Int) (w : World) (hT : TabsQ w) (hl : bs.length = L) (hn : L ≤ 1000) (hb : Byt bs) (hA : Nums w .u8 A bs) : Calls Tryz.prog 45 #[.slice A L c] w fun e w' => e = .returned (.agg (ints .u8 (rbytes (bn bs % QN))).toArray) ∧ Below w.heap.size w w' := by
 obtain ⟨z22, s22⟩ := zero_of_info inf22
 obtain ⟨z44, s44⟩ := zero_of_info inf44
 have HGA : Hid (0 < bs.length → ∀ g o s, A = some ⟨g, o, s⟩ → g < w.heap.size) := hid fun hp g o s e => by
   obtain ⟨g2, o2, e2, h2, _⟩ := hA.num hp
   rw [e2] at e; injection e with e; injection e with e1; omega
 have HL := hid hl
 have HB := hid hb
 have HM0 : Hid (bn bs / 2 ^ (8 * L) % QN = 0) := hid (by rw [← hl, div_all hb]; rfl)
 clear hl hb
 have hR := (Arr.made w .u8 (zeros 32) 22).alloc (.cells (ints .u64 (zeros 4)).toArray 108)
 have hN := Arr.made (w.alloc (.cells (ints .u8 (zeros 32)).toArray 22)) .u64 (zeros 4) 108
 have hW := (below_new w (.cells (ints .u8 (zeros 32)).toArray 22)).alloc (by simp) (.cells (ints .u64 (zeros 4)).toArray 108)
 rw [World.size_alloc] at hN
 have hA1 := hA.below hW
 have hwr : IntKind.i64.wrap (8 * (L : Int)) = 8 * (L : Int) := IntWalk.i64_in _ (by omega)
 have hwr2 : IntKind.i64.wrap (8 * (L : Int) - 1) = 8 * (L : Int) - 1 := IntWalk.i64_in _ (by omega)
 have hN1 : Arr ((w.alloc (.cells (ints .u8 (zeros 32)).toArray 22)).alloc (.cells (ints .u64 (zeros 4)).toArray 108)) (w.heap.size + 1) 0 .u64 (nl (wdN (bn bs / 2 ^ (8 * L) % QN) 4)) := by rw [HM0.out, wd_zero]; exact hN
 go_enter Tryz.func45, Tryz.ntmps45
 go_wp2
 go_loopw [4] (fun i wr => ∃ s : Nat, s ≤ 8 * L ∧ i = .int .i64 ((s : Int) - 1) ∧ Arr wr w.heap.size 0 .u8 (zeros 32) ∧ Arr wr (w.heap.size + 1) 0 .u64 (nl (wdN (bn bs / 2 ^ s % QN) 4)) ∧ Nums wr .u8 A bs ∧ Below w.heap.size w wr) (fun i _ => (intOf i + 1).toNat)
 case atStart => exact ⟨8 * L, by omega, by go_num, hR, hN1, hA1, hW⟩
 case round =>
   clear hR hN hN1 hA1 hW hwr hwr2 hA
   obtain ⟨s, hs, rfl, hR, hN, hA, hW⟩ := hrel
   rename World => W1
   have hT1 := hT.below hW hT.1
   cases s with
   | succ t =>
     have hz : ((t + 1 : Nat) : Int) - 1 = (t : Int) := by omega
     rw [hz]
     have hlp : 0 < bs.length := by rw [HL.out]; omega
     obtain ⟨g, f, rfl, hg, cA⟩ := hA.num hlp
     obtain ⟨q, hq⟩ : ∃ q, q = t / 8 := ⟨_, rfl⟩
     obtain ⟨r, hr⟩ : ∃ r, r = t % 8 := ⟨_, rfl⟩
     have hqt : Int.tdiv (t : Int) 8 = (q : Int) := by rw [Int.tdiv_eq_ediv_of_nonneg (by omega)]; omega
     have hrt : Int.tmod (t : Int) 8 = (r : Int) := by rw [Int.tmod_eq_emod_of_nonneg (by omega)]; omega
     have hqi : (t : Int) / 8 = (q : Int) := by omega
     have hri : (t : Int) % 8 = (r : Int) := by omega
     have hql : q < bs.length := by rw [HL.out]; omega
     have hx : bs[q]? = some (bs.getD q 0) := by rw [List.getD_eq_getElem?_getD, List.getElem?_eq_getElem hql]; rfl
     have cx := cA q _ hx
     have hxb := HB.out.at_ hx
     have HBT := fun s b => bit_nat HB.out t (bs.getD q 0) s b (by rw [← hq]; exact hx)
     rw [← hr] at HBT
     clear cA hx
     generalize bs.getD q 0 = x at *
     obtain ⟨s, hsd⟩ : ∃ s, x / 2 ^ r = s := ⟨_, rfl⟩
     have hsb : 0 ≤ s ∧ s < 256 := by
       have hp2 : (0 : Int) < 2 ^ r := Int.pow_pos (by omega)
       have h1 := Int.ediv_nonneg hxb.1 (Int.le_of_lt hp2)
       have h2 := Int.ediv_le_self (2 ^ r) hxb.1
       rw [← hsd]; omega
     obtain ⟨b, hbd⟩ : ∃ b : Nat, (b : Int) = s % 2 := ⟨(s % 2).toNat, by omega⟩
     have hbl : b ≤ 1 := by omega
     have hmk := mask1_u8 s hsb
     rw [← hbd] at hmk
     have hbit := HBT s b hsd hbd
     have hhs := half_step (bn bs) t
     rw [hbit] at hhs
     have hms := mod_step (bn bs / 2 ^ (t + 1)) b
     rw [hhs] at hms
     have hml : bn bs / 2 ^ (t + 1) % QN < QN := Nat.mod_lt _ qn_pos
     obtain ⟨m2, hm2⟩ : ∃ m2, bn bs / 2 ^ t % QN = m2 := ⟨_, rfl⟩
     rw [hm2] at hms
     have HM2 := hid hm2
     clear hm2 hhs hbit HBT
     generalize bn bs / 2 ^ (t + 1) % QN = m at *
     have kshift : CallsQ 75 #[.agg (ints .u64 (nl (wdN m 4))).toArray, .int .u64 (b : Int)] (.agg (ints .u64 (nl (wdN m2 4))).toArray) := fun w0 hT0 => by
       have h := cs_shift hml hbl w0 hT0
       rw [hms] at h
       exact h
     have hwl : (nl (wdN m 4)).length = 4 := by rw [nl_length]; exact (W4.of (Nat.lt_trans hml qn_w)).1
     have HW2 : Hid ((nl (wdN m2 4)).length = 4) := hid (by rw [nl_length, ← HM2.out]; exact (W4.modq _).1)
     have t0 : (0 : Int) ≤ t := by omega
     have q0 : (0 : Int) ≤ q := by omega
     have r0 : (0 : Int) ≤ r := by omega
     have r8 : (r : Int) ≤ 8 := by omega
     have hqw : IntKind.i64.wrap (q : Int) = (q : Int) := IntWalk.i64_in _ (by omega)
     have qL : (q : Int) < L := by rw [← HL.out]; omega
     have hb64 : IntKind.u64.wrap (b : Int) = (b : Int) := by rw [IntKind.wrap_u64]; omega
     have hwt : IntKind.i64.wrap ((t : Int) - 1) = (t : Int) - 1 := IntWalk.i64_in _ (by omega)
     have cxC : ∀ w0, Cl W1 w0 → w0.cell? ⟨g, f + q, none⟩ = some (.int .u8 x) := fun w0 h => cl_cell h hg cx
     have HG : Hid (g < w.heap.size) := hid (HGA.out hlp g f none rfl)
     have HQR := hid (And.intro hq hr)
     clear hbd hsb hxb hms hq hr hql hlp hz
     go_wp2_with (fail)
     refine rSpec 12 27 (fun _ => false) [Is (.agg (ints .u64 (nl (wdN m 4))).toArray), Is (.slice (some ⟨g, f, none⟩) L c), Is (.int .i64 (t : Int)), Is (.int .i64 (q : Int)), Is (.pointer (some ⟨g, f + q, none⟩)), Is (.int .u8 x), Is (.int .i64 (t : Int)), Is (.int .i64 (r : Int)), Is (.int .u8 s), Is (.int .u8 (b : Int)), Is (.int .u64 (b : Int)), Is (.agg (ints .u64 (nl (wdN m2 4))).toArray)] [13, 14, 15, 16, 17, 18, 19, 20, 21, 22, 23, 24] (gC (gC (gC (gC (gC (gC (gC (gC (gC (gC (gC (gC grows_nil))))))))))))
       ⟨(step_44 rfl (.inl rfl) hN hwl 3 rfl (by kernel_rfl) rfl rfl),
        (step_ex (.slice (some ⟨g, f, none⟩) L c) rfl (.inl rfl) rfl fun a ww hw hf hd => by
            have h0 : a.eval (.tmp 0) = (.slice (some ⟨g, f, none⟩) L c) := ((knows_out (v := (.slice (some ⟨g, f, none⟩) L c)) 0 (by kernel_rfl) rfl) : Knows _ _ W1 _ 12 _ 1 _ _) a ww hw hf hd
            revert h0
            generalize a.eval = ev
            intro h0
            unfold execOp
            simp only [h0]
            go_simp),
        (step_ex (.int .i64 (t : Int)) rfl (.inl rfl) rfl fun a ww hw hf hd => by
            have h4 : a.eval (.tmp 4) = (.int .i64 (t : Int)) := ((knows_out (v := (.int .i64 (t : Int))) 4 (by kernel_rfl) rfl) : Knows _ _ W1 _ 12 _ 2 _ _) a ww hw hf hd
            revert h4
            generalize a.eval = ev
            intro h4
            unfold execOp
            simp only [h4]
            go_simp),
        (step_ex (.int .i64 (q : Int)) rfl (.inl rfl) rfl fun a ww hw hf hd => by
            have h15 : a.eval (.tmp 15) = (.int .i64 (t : Int)) := ((knows_in (v := (.int .i64 (t : Int))) 2 15 (by decide) (by kernel_rfl) rfl rfl) : Knows _ _ W1 _ 12 _ 3 _ _) a ww hw hf hd
            have c0 : a.eval (.const (.int .i64 (8))) = .int .i64 (8) := rfl
            revert h15 c0
            generalize a.eval = ev
            intro h15 c0
            unfold execOp
            simp only [h15, c0]
            go_simp),
        (step_ex (.pointer (some ⟨g, f + q, none⟩)) rfl (.inl rfl) rfl fun a ww hw hf hd => by
            have h14 : a.eval (.tmp 14) = (.slice (some ⟨g, f, none⟩) L c) := ((knows_in (v := (.slice (some ⟨g, f, none⟩) L c)) 1 14 (by decide) (by kernel_rfl) rfl rfl) : Knows _ _ W1 _ 12 _ 4 _ _) a ww hw hf hd
            have h16 : a.eval (.tmp 16) = (.int .i64 (q : Int)) := ((knows_in (v := (.int .i64 (q : Int))) 3 16 (by decide) (by kernel_rfl) rfl rfl) : Knows _ _ W1 _ 12 _ 4 _ _) a ww hw hf hd
            revert h14 h16
            generalize a.eval = ev
            intro h14 h16
            unfold execOp
            simp only [h14, h16]
            go_simp),
        (step_ex (.int .u8 x) rfl (.inl rfl) rfl fun a ww hw hf hd => by
            have h17 : a.eval (.tmp 17) = (.pointer (some ⟨g, f + q, none⟩)) := ((knows_in (v := (.pointer (some ⟨g, f + q, none⟩))) 4 17 (by decide) (by kernel_rfl) rfl rfl) : Knows _ _ W1 _ 12 _ 5 _ _) a ww hw hf hd
            have hcc := cxC ww hw
            revert h17
            generalize a.eval = ev
            intro h17
            unfold execOp
            simp only [h17]
            go_simp),
        (step_ex (.int .i64 (t : Int)) rfl (.inl rfl) rfl fun a ww hw hf hd => by
            have h4 : a.eval (.tmp 4) = (.int .i64 (t : Int)) := ((knows_out (v := (.int .i64 (t : Int))) 4 (by kernel_rfl) rfl) : Knows _ _ W1 _ 12 _ 6 _ _) a ww hw hf hd
            revert h4
            generalize a.eval = ev
            intro h4
            unfold execOp
            simp only [h4]
            go_simp),
        (step_ex (.int .i64 (r : Int)) rfl (.inl rfl) rfl fun a ww hw hf hd => by
            have h19 : a.eval (.tmp 19) = (.int .i64 (t : Int)) := ((knows_in (v := (.int .i64 (t : Int))) 6 19 (by decide) (by kernel_rfl) rfl rfl) : Knows _ _ W1 _ 12 _ 7 _ _) a ww hw hf hd
            have c0 : a.eval (.const (.int .i64 (8))) = .int .i64 (8) := rfl
            revert h19 c0
            generalize a.eval = ev
            intro h19 c0
            unfold execOp
            simp only [h19, c0]
            go_simp),
        (step_ex (.int .u8 s) rfl (.inl rfl) rfl fun a ww hw hf hd => by
            have h18 : a.eval (.tmp 18) = (.int .u8 x) := ((knows_in (v := (.int .u8 x)) 5 18 (by decide) (by kernel_rfl) rfl rfl) : Knows _ _ W1 _ 12 _ 8 _ _) a ww hw hf hd
            have h20 : a.eval (.tmp 20) = (.int .i64 (r : Int)) := ((knows_in (v := (.int .i64 (r : Int))) 7 20 (by decide) (by kernel_rfl) rfl rfl) : Knows _ _ W1 _ 12 _ 8 _ _) a ww hw hf hd
            revert h18 h20
            generalize a.eval = ev
            intro h18 h20
            unfold execOp
            simp only [h18, h20]
            go_simp),
        (step_ex (.int .u8 (b : Int)) rfl (.inl rfl) rfl fun a ww hw hf hd => by
            have h21 : a.eval (.tmp 21) = (.int .u8 s) := ((knows_in (v := (.int .u8 s)) 8 21 (by decide) (by kernel_rfl) rfl rfl) : Knows _ _ W1 _ 12 _ 9 _ _) a ww hw hf hd
            have c0 : a.eval (.const (.int .u8 (1))) = .int .u8 (1) := rfl
            revert h21 c0
            generalize a.eval = ev
            intro h21 c0
            unfold execOp
            simp only [h21, c0]
            go_simp),
        (step_ex (.int .u64 (b : Int)) rfl (.inl rfl) rfl fun a ww hw hf hd => by
            have h22 : a.eval (.tmp 22) = (.int .u8 (b : Int)) := ((knows_in (v := (.int .u8 (b : Int))) 9 22 (by decide) (by kernel_rfl) rfl rfl) : Knows _ _ W1 _ 12 _ 10 _ _) a ww hw hf hd
            revert h22
            generalize a.eval = ev
            intro h22
            unfold execOp
            simp only [h22]
            go_simp),
        (step_toQ rfl (.inl rfl) rfl cfT25 hT1 kshift rfl (two_args (knows_in (v := (.agg (ints .u64 (nl (wdN m 4))).toArray)) 0 13 (by decide) (by kernel_rfl) rfl rfl) (knows_in (v := (.int .u64 (b : Int))) 10 23 (by decide) (by kernel_rfl) rfl rfl))), trivial⟩ ?_
     intro val w9 hw hS hap hla
     simp only [pA, pB, pC, pD, pE, Act.put, pG, pH, pI, eVal hS 0 13 rfl rfl, eVal hS 1 14 rfl rfl, eVal hS 2 15 rfl rfl, eVal hS 3 16 rfl rfl, eVal hS 4 17 rfl rfl, eVal hS 5 18 rfl rfl, eVal hS 6 19 rfl rfl, eVal hS 7 20 rfl rfl, eVal hS 8 21 rfl rfl, eVal hS 9 22 rfl rfl, eVal hS 10 23 rfl rfl, eVal hS 11 24 rfl rfl]
     clear hS hap hla
     have hN9 := hN.below hw (hN.lt (by rw [hwl]; omega))
     have hR9 := hR.below hw (hR.lt (by rw [zeros_len]; omega))
     have hA9 := hA.below hw
     have hW9 := bT hW hw
     have hs1 : w9.there (w.heap.size + 1) 0 (ints .u64 (nl (wdN m2 4))).toArray.size := hN9.room (by rw [HW2.out, hwl])
     have hN8 := hN9.stored (l' := nl (wdN m2 4)) (by rw [HW2.out, hwl])
     have hR8 := hR9.past (b' := w.heap.size + 1) (o' := 0) (ints .u64 (nl (wdN m2 4))).toArray.toList (.inl (by omega))
     have hA8 : Nums (w9.setCells (w.heap.size + 1) 0 (ints .u64 (nl (wdN m2 4))).toArray.toList) .u8 (some ⟨g, f, none⟩) bs := nums_past hA9 _ (fun g' o' s' e => by injection e with e; injection e with e1; have := HG.out; omega)
     have hW8 := Below.setCells hW9 (g := w.heap.size + 1) (by omega) 0 (ints .u64 (nl (wdN m2 4))).toArray.toList
     clear hN hR hA hW hw hN9 hR9 hA9 hW9 cxC cx hT1
     go_wp2_with (first
       | (with_reducible refine wpList_store_mid (op := ⟨none, .store 108 (.tmp 3) (.tmp 24), _, _, _, _⟩) rfl 108 (.tmp 3) (.tmp 24) rfl (w.heap.size + 1) 0 (ints .u64 (nl (wdN m2 4))).toArray rfl rfl hs1 (a44 HW2.out) (ints_all _ _) ?_; generalize w9.setCells (w.heap.size + 1) 0 (ints .u64 (nl (wdN m2 4))).toArray.toList = W5 at *))
     go_roundw
     case rel => exact ⟨t, by omega, by go_num, hR8, (by rw [HM2.out]; exact hN8), hA8, hW8⟩
     case measure => simp [intOf]
   | zero =>
     have hz : ((0 : Nat) : Int) - 1 = -1 := by omega
     rw [hz]
     have hm : bn bs / 2 ^ 0 % QN = bn bs % QN := by rw [Nat.pow_zero, Nat.div_one]
     rw [hm] at hN
     have HK := hid (fun w0 => bytesof_walk (bn bs % QN) w0 (modq_lt _))
     have hwl : (nl (wdN (bn bs % QN) 4)).length = 4 := by rw [nl_length]; exact (W4.modq _).1
     have HBL := hid (rbytes_length (bn bs % QN))
     clear hz hm HM0
     generalize nl (wdN (bn bs % QN) 4) = ns at *
     obtain ⟨rs, hrs⟩ : ∃ rs, rbytes (bn bs % QN) = rs := ⟨_, rfl⟩
     rw [hrs] at HK HBL
     have HRS := hid hrs
     clear hrs
     go_wp2_with (first
       | (with_reducible refine wpList_load_mid (op := ⟨some 25, .load 108 (.tmp 3), _, _, _, _⟩) rfl 108 (.tmp 3) rfl (w.heap.size + 1) 0 rfl (ints .u64 ns) _ (hN.range) Tryz.underlying108 rfl (l44 hwl) ?_))
     refine (HK.out _).mono ?_
     rintro e w2 ⟨rfl, hb2⟩
     have hR2 := hR.below hb2 (hR.lt (by rw [zeros_len]; omega))
     have hs1 : w2.there w.heap.size 0 (ints .u8 rs).toArray.size := hR2.room (by rw [zeros_len]; exact HBL.out)
     have hR3 := hR2.stored (l' := rs) (by rw [zeros_len]; exact HBL.out)
     have hW2 := Below.setCells (hW.trans (Below.mono hb2 hW.size)) (g := w.heap.size) (Nat.le_refl _) 0 (ints .u8 rs).toArray.toList
     clear hR hN hW hb2 hR2 hA hT1
     go_wp2_with (first
       | (with_reducible refine wpList_store_mid (op := ⟨none, .store 22 (.tmp 2) (.tmp 26), _, _, _, _⟩) rfl 22 (.tmp 2) (.tmp 26) rfl w.heap.size 0 (ints .u8 rs).toArray rfl rfl hs1 (a22 HBL.out) (ints_all _ _) ?_; generalize w2.setCells w.heap.size 0 (ints .u8 rs).toArray.toList = W5 at *))
     exact ret_rows rfl w.heap.size 0 rfl (ints .u8 rs) _ hR3.range Tryz.underlying22 rfl (l22 HBL.out) rfl ⟨by rw [HRS.out], hW2⟩
open Go.RowKit
theorem inf46 : (Tryz.prog.info? 29).map (fun i => (i.zero, i.size)) = some (some (.agg (ints .u8 (zeros 64)).toArray), 64) := by kernel_rfl
theorem l46 {q : List Int} (h : q.length = 64) : (Tryz.prog.info? 29).map (·.size) = some (ints .u8 q).length := (siz inf46 h).1
theorem a46 {q : List Int} (h : q.length = 64) : (Tryz.prog.info? 29).map (·.size) = some (ints .u8 q).toArray.size := (siz inf46 h).2
theorem zeros_nl (n : Nat) : zeros n = nl (List.replicate n 0) := by simp [zeros, nl]
def LM (w0 w : World) (a b c : List Int) (xs : List Int) : Prop :=
 Arr w w0.heap.size 0 .u8 a ∧ Arr w (w0.heap.size + 1) 0 .u8 b ∧ Arr w (w0.heap.size + 1 + 1) 0 .u8 c ∧ Arr w (w0.heap.size + 1 + 1 + 1) 0 .u8 (zeros 64) ∧ Arr w (w0.heap.size + 1 + 1 + 1 + 1) 0 .u8 xs ∧ Below w0.heap.size w0 w
theorem LM.drewN {w0 w : World} {a b c xs : List Int} (h : LM w0 w a b c xs) (n : Nat) : LM w0 (w.drewN n) a b c xs := ⟨h.1, h.2.1, h.2.2.1, h.2.2.2.1, h.2.2.2.2.1, below_drewN h.2.2.2.2.2 n⟩
theorem LM.set {w0 w : World} {a b c xs : List Int} (h : LM w0 w a b c xs) (k : Nat) (v : Int) : LM w0 (w.setCell ⟨w0.heap.size + 1 + 1 + 1 + 1, k, none⟩ (.int .u8 v)) a b c (xs.set k v) := by
 have h5 := h.2.2.2.2.1.set k v
 rw [Nat.zero_add] at h5
 exact ⟨h.1.apart _ (.inl (by show w0.heap.size + 1 + 1 + 1 + 1 ≠ w0.heap.size; omega)), h.2.1.apart _ (.inl (by show w0.heap.size + 1 + 1 + 1 + 1 ≠ w0.heap.size + 1; omega)), h.2.2.1.apart _ (.inl (by show w0.heap.size + 1 + 1 + 1 + 1 ≠ w0.heap.size + 1 + 1; omega)), h.2.2.2.1.apart _ (.inl (by show w0.heap.size + 1 + 1 + 1 + 1 ≠ w0.heap.size + 1 + 1 + 1; omega)), h5, h.2.2.2.2.2.setCell (by show w0.heap.size ≤ w0.heap.size + 1 + 1 + 1 + 1; omega) _⟩
set_option maxRecDepth 4000 in
set_option maxHeartbeats 4000000 in
theorem long_walk (a b c : List Nat) (w : World) (ha : a.length = 32) (hb : b.length = 32) (hc : c.length = 32) (ya : Bys a) (yb : Bys b) (yc : Bys c) :
   Calls Tryz.prog 44 #[.agg (ints .u8 (nl a)).toArray, .agg (ints .u8 (nl b)).toArray, .agg (ints .u8 (nl c)).toArray] w fun e w' => ∃ zs, e = .returned (.agg (ints .u8 (nl zs)).toArray) ∧ Hid (zs.length = 64 ∧ Bys zs ∧ bnn zs = bnn a * bnn b + bnn c) ∧ Below w.heap.size w w' := by
 obtain ⟨z46, s46⟩ := zero_of_info inf46
 have HA := hid (And.intro ha ya)
 have HB := hid (And.intro hb yb)
 have HC := hid (And.intro hc yc)
 have HPB : Hid (∀ t j, ps a b t j ≤ j * 65025) := hid fun t j => ps_bd a b ya yb t j
 have HPL : Hid (∀ t j, j + 31 ≤ t → ps a b t j = 0) := hid fun t j => ps_low a b hb t j
 have HPE : Hid (∀ t j, j ≤ 32 → j ≤ t + 1 → ¬ (j < 32 ∧ j ≤ t) → ps a b t j = cvl a b t) := hid fun t j => ps_end a b ha t j
 have HEND : Hid (∀ ns o, LongI a b c ns o 64 → bnn ns = bnn a * bnn b + bnn c) := hid fun ns o h => h.end_ ha hb hc ya yb yc
 clear ha hb hc ya yb yc
 have hM : LM w (((((w.alloc (.cells (ints .u8 (nl a)).toArray 22)).alloc (.cells (ints .u8 (nl b)).toArray 22)).alloc (.cells (ints .u8 (nl c)).toArray 22)).alloc (.cells (ints .u8 (zeros 64)).toArray 29)).alloc (.cells (ints .u8 (zeros 64)).toArray 29)) (nl a) (nl b) (nl c) (zeros 64) := by
   have h1 := ((((Arr.made w .u8 (nl a) 22).alloc (.cells (ints .u8 (nl b)).toArray 22)).alloc (.cells (ints .u8 (nl c)).toArray 22)).alloc (.cells (ints .u8 (zeros 64)).toArray 29)).alloc (.cells (ints .u8 (zeros 64)).toArray 29)
   have h2 := (((Arr.made (w.alloc (.cells (ints .u8 (nl a)).toArray 22)) .u8 (nl b) 22).alloc (.cells (ints .u8 (nl c)).toArray 22)).alloc (.cells (ints .u8 (zeros 64)).toArray 29)).alloc (.cells (ints .u8 (zeros 64)).toArray 29)
   have h3 := ((Arr.made ((w.alloc (.cells (ints .u8 (nl a)).toArray 22)).alloc (.cells (ints .u8 (nl b)).toArray 22)) .u8 (nl c) 22).alloc (.cells (ints .u8 (zeros 64)).toArray 29)).alloc (.cells (ints .u8 (zeros 64)).toArray 29)
   have h4 := (Arr.made (((w.alloc (.cells (ints .u8 (nl a)).toArray 22)).alloc (.cells (ints .u8 (nl b)).toArray 22)).alloc (.cells (ints .u8 (nl c)).toArray 22)) .u8 (zeros 64) 29).alloc (.cells (ints .u8 (zeros 64)).toArray 29)
   have h5 := Arr.made ((((w.alloc (.cells (ints .u8 (nl a)).toArray 22)).alloc (.cells (ints .u8 (nl b)).toArray 22)).alloc (.cells (ints .u8 (nl c)).toArray 22)).alloc (.cells (ints .u8 (zeros 64)).toArray 29)) .u8 (zeros 64) 29
   simp only [World.size_alloc] at h2 h3 h4 h5
   exact ⟨h1, h2, h3, h4, h5, ((((below_new w (.cells (ints .u8 (nl a)).toArray 22)).alloc (by simp) (.cells (ints .u8 (nl b)).toArray 22)).alloc (by simp; omega) (.cells (ints .u8 (nl c)).toArray 22)).alloc (by simp; omega) (.cells (ints .u8 (zeros 64)).toArray 29)).alloc (by simp; omega) (.cells (ints .u8 (zeros 64)).toArray 29)⟩
 go_enter Tryz.func44, Tryz.ntmps44
 go_wp2
 go_loopw [8, 11] (fun v i wr => ∃ (k o : Nat) (ns : List Nat), k ≤ 64 ∧ i = .int .i64 k ∧ v = .int .i64 o ∧ Hid (LongI a b c ns o k) ∧ LM w wr (nl a) (nl b) (nl c) (nl ns)) (fun _ i _ => 64 - (intOf i).toNat)
 case atStart => exact ⟨0, 0, List.replicate 64 0, by omega, rfl, rfl, hid (LongI.start a b c), by rw [← zeros_nl]; exact hM⟩
 case round =>
   clear hM
   obtain ⟨k, o, ns, hk, rfl, rfl, HI, hM⟩ := hrel
   rename World => W1
   by_cases hlt : k < 64
   · have k0 : (0 : Int) ≤ k := by omega
     have k64 : (k : Int) < 64 := by omega
     have ho := HI.out.2.2.1
     obtain ⟨o1, ho1⟩ : ∃ o1, o1 = o + c.getD k 0 := ⟨_, rfl⟩
     have HO1 : Hid (o1 ≤ 8455) := hid (by have := bys_at HC.out.2 k; omega)
     have HST : Hid (∀ T, T = o1 + cvl a b k → T ≤ 2089300 → LongI a b c (ns.set k (T % 256)) (T / 256) (k + 1)) := hid fun T hT hb => HI.out.step hlt (by rw [hT, ho1]) hb
     have HNL := hid HI.out.1
     clear HI
     have w1 : IntKind.i64.wrap ((k : Int) - 32) = (k : Int) - 32 := IntWalk.i64_in _ (by omega)
     have w2 : IntKind.i64.wrap ((k : Int) - 32 + 1) = (k : Int) - 32 + 1 := IntWalk.i64_in _ (by omega)
     by_cases h32 : k < 32
     · have hk32 : (k : Int) < 32 := by omega
       have cx := hM.2.2.1.at_ (nl_at (l := c) (i := k) (by rw [HC.out.1]; exact h32))
       rw [Nat.zero_add] at cx
       have hxl := bys_at HC.out.2 k
       generalize c.getD k 0 = x at *
       have hx64 : IntKind.i64.wrap (x : Int) = (x : Int) := IntWalk.i64_in _ (by omega)
       have hxo : IntKind.i64.wrap ((o : Int) + x) = (o1 : Int) := by rw [IntWalk.i64_in _ (by omega)]; omega
       have HOX := hid ho1
       clear ho1 hxl ho
       go_wp2
       go_loopw [8, 10] (fun v j wr => ∃ m : Nat, m ≤ 32 ∧ m ≤ k + 1 ∧ k ≤ m + 31 ∧ j = .int .i64 m ∧ v = .int .i64 ((o1 + ps a b k m : Nat) : Int) ∧ LM w wr (nl a) (nl b) (nl c) (nl ns)) (fun _ j _ => 33 - (intOf j).toNat)
       case atStart => exact ⟨0, by omega, by omega, by omega, rfl, by simp [ps], hM⟩
       case round =>
         clear hM
         obtain ⟨m, hm1, hm2, hm3, rfl, rfl, hM⟩ := hrel
         rename World => W2
         by_cases hc1 : m < 32
         · by_cases hc2 : m ≤ k
           · have hc1i : (m : Int) < 32 := by omega
             have hc2i : (m : Int) ≤ k := by omega
             obtain ⟨q, hq⟩ : ∃ q, q = k - m := ⟨_, rfl⟩
             have HPS : Hid (ps a b k (m + 1) = ps a b k m + a.getD m 0 * b.getD q 0) := hid (by rw [ps, hq])
             have HPM := hid (HPB.out k m)
             have HQ : Hid (q < 32 ∨ b.getD q 0 = 0 ∧ ¬ q < 32) := hid (by
               by_cases h : q < 32
               · exact .inl h
               · exact .inr ⟨by rw [List.getD_eq_getElem?_getD, List.getElem?_eq_none (by rw [HB.out.1]; omega)]; rfl, h⟩)
             have hq32 : q < 32 := by omega
             have cx := hM.1.at_ (nl_at (l := a) (i := m) (by rw [HA.out.1]; exact hc1))
             have cy := hM.2.1.at_ (nl_at (l := b) (i := q) (by rw [HB.out.1]; exact hq32))
             rw [Nat.zero_add] at cx cy
             have hxl := bys_at HA.out.2 m
             have hyl := bys_at HB.out.2 q
             generalize a.getD m 0 = x at *
             generalize b.getD q 0 = y at *
             generalize ps a b k m = pm at *
             have HXY : Hid (x * y ≤ 65025) := hid (Nat.mul_le_mul (show x ≤ 255 by omega) (show y ≤ 255 by omega))
             have hx64 : IntKind.i64.wrap (x : Int) = (x : Int) := IntWalk.i64_in _ (by omega)
             have hy64 : IntKind.i64.wrap (y : Int) = (y : Int) := IntWalk.i64_in _ (by omega)
             have hqw : IntKind.i64.wrap ((k : Int) - m) = (q : Int) := by rw [IntWalk.i64_in _ (by omega)]; omega
             have hpw : IntKind.i64.wrap ((x : Int) * y) = ((x * y : Nat) : Int) := by rw [Int.natCast_mul]; exact IntWalk.i64_in _ (by have := HXY.out; rw [← Int.natCast_mul]; omega)
             obtain ⟨u, hu⟩ : ∃ u, u = o1 + pm := ⟨_, rfl⟩
             rw [← hu]
             obtain ⟨v, hv⟩ : ∃ v, v = o1 + (pm + x * y) := ⟨_, rfl⟩
             have hsw : IntKind.i64.wrap ((u : Int) + ((x * y : Nat) : Int)) = (v : Int) := by rw [IntWalk.i64_in _ (by have := HXY.out; have := HPM.out; have := HO1.out; omega)]; omega
             generalize x * y = xy at *
             have m0 : (0 : Int) ≤ m := by omega
             have q0 : (0 : Int) ≤ q := by omega
             have q32 : (q : Int) < 32 := by omega
             have HUV := hid (And.intro hq (And.intro hu hv))
             clear hq hu hv hxl hyl hq32
             go_wp2
             go_quiet (fail)
             have hM9 := hM.drewN nq
             clear cx cy hM
             generalize W2.drewN nq = W3 at *
             go_wp2
             go_roundw
             case rel => exact ⟨m + 1, by omega, by omega, by omega, by go_num, by rw [HPS.out, HUV.out.2.2], hM9⟩
             case measure => simp [intOf]; omega
           · have hc1i : (m : Int) < 32 := by omega
             have hc2i : ¬ (m : Int) ≤ k := by omega
             have hnn : ¬ (m < 32 ∧ m ≤ k) := by omega
             have HTE := hid (HPE.out k m hm1 hm2 hnn)
             have HTB := hid (HPB.out k m)
             rw [HTE.out] at HTB
             obtain ⟨T, hT⟩ : ∃ T, T = o1 + cvl a b k := ⟨_, rfl⟩
             have HN := hid (HST.out T hT (by have := HTB.out; have := HO1.out; omega))
             rw [HTE.out, ← hT]
             have HTL : Hid (T ≤ 2089300) := hid (by have := HTB.out; have := HO1.out; omega)
             have h0 : (nl ns)[k]? = some (((ns.getD k 0 : Nat)) : Int) := nl_at (by rw [HNL.out]; exact hlt)
             have cz := hM.2.2.2.2.1.at_ h0
             have fz := hM.2.2.2.2.1.free (i := k) (by rw [nl_length, HNL.out]; exact hlt)
             rw [Nat.zero_add] at cz fz
             generalize ns.getD k 0 = z at *
             have hT8 : IntKind.u8.wrap (T : Int) = ((T % 256 : Nat) : Int) := by rw [IntKind.wrap_u8]; omega
             have hTs : (T : Int) / 256 = ((T / 256 : Nat) : Int) := by omega
             have hM9 := hM.set k ((T % 256 : Nat) : Int)
             rw [nl_set] at hM9
             generalize T % 256 = t8 at *
             generalize T / 256 = ts at *
             have HTT := hid hT
             clear HTE HTB HST hT h0 hM
             go_wp2
             go_roundw
             case rel => exact ⟨k + 1, ts, ns.set k t8, by omega, by go_num, rfl, HN, hM9⟩
             case measure => simp [intOf]; omega
         · have hc1i : ¬ (m : Int) < 32 := by omega
           have hnn : ¬ (m < 32 ∧ m ≤ k) := by omega
           have HTE := hid (HPE.out k m hm1 hm2 hnn)
           have HTB := hid (HPB.out k m)
           rw [HTE.out] at HTB
           obtain ⟨T, hT⟩ : ∃ T, T = o1 + cvl a b k := ⟨_, rfl⟩
           have HN := hid (HST.out T hT (by have := HTB.out; have := HO1.out; omega))
           rw [HTE.out, ← hT]
           have HTL : Hid (T ≤ 2089300) := hid (by have := HTB.out; have := HO1.out; omega)
           have h0 : (nl ns)[k]? = some (((ns.getD k 0 : Nat)) : Int) := nl_at (by rw [HNL.out]; exact hlt)
           have cz := hM.2.2.2.2.1.at_ h0
           have fz := hM.2.2.2.2.1.free (i := k) (by rw [nl_length, HNL.out]; exact hlt)
           rw [Nat.zero_add] at cz fz
           generalize ns.getD k 0 = z at *
           have hT8 : IntKind.u8.wrap (T : Int) = ((T % 256 : Nat) : Int) := by rw [IntKind.wrap_u8]; omega
           have hTs : (T : Int) / 256 = ((T / 256 : Nat) : Int) := by omega
           have hM9 := hM.set k ((T % 256 : Nat) : Int)
           rw [nl_set] at hM9
           generalize T % 256 = t8 at *
           generalize T / 256 = ts at *
           have HTT := hid hT
           clear HTE HTB HST hT h0 hM
           go_wp2
           go_roundw
           case rel => exact ⟨k + 1, ts, ns.set k t8, by omega, by go_num, rfl, HN, hM9⟩
           case measure => simp [intOf]; omega
     · have hk32 : ¬ (k : Int) < 32 := by omega
       have ho1' : o1 = o := by
         rw [ho1, List.getD_eq_getElem?_getD, List.getElem?_eq_none (by rw [HC.out.1]; omega)]; rfl
       subst ho1'
       obtain ⟨j0, hj0⟩ : ∃ j0, j0 + 31 = k := ⟨k - 31, by omega⟩
       have w3 : IntKind.i64.wrap ((k : Int) - 32 + 1) = (j0 : Int) := by rw [w2]; omega
       have j00 : (0 : Int) < (j0 : Int) := by omega
       have HJ0 := hid hj0
       clear w2 ho1 hj0 ho
       go_wp2
       go_loopw [8, 10] (fun v j wr => ∃ m : Nat, m ≤ 32 ∧ m ≤ k + 1 ∧ k ≤ m + 31 ∧ j = .int .i64 m ∧ v = .int .i64 ((o1 + ps a b k m : Nat) : Int) ∧ LM w wr (nl a) (nl b) (nl c) (nl ns)) (fun _ j _ => 33 - (intOf j).toNat)
       case atStart => exact ⟨j0, by have := HJ0.out; omega, by have := HJ0.out; omega, by have := HJ0.out; omega, rfl, by rw [HPL.out k j0 (by have := HJ0.out; omega)]; rfl, hM⟩
       case round =>
         clear hM
         obtain ⟨m, hm1, hm2, hm3, rfl, rfl, hM⟩ := hrel
         rename World => W2
         by_cases hc1 : m < 32
         · by_cases hc2 : m ≤ k
           · have hc1i : (m : Int) < 32 := by omega
             have hc2i : (m : Int) ≤ k := by omega
             obtain ⟨q, hq⟩ : ∃ q, q = k - m := ⟨_, rfl⟩
             have HPS : Hid (ps a b k (m + 1) = ps a b k m + a.getD m 0 * b.getD q 0) := hid (by rw [ps, hq])
             have HPM := hid (HPB.out k m)
             have HQ : Hid (q < 32 ∨ b.getD q 0 = 0 ∧ ¬ q < 32) := hid (by
               by_cases h : q < 32
               · exact .inl h
               · exact .inr ⟨by rw [List.getD_eq_getElem?_getD, List.getElem?_eq_none (by rw [HB.out.1]; omega)]; rfl, h⟩)
             have hq32 : q < 32 := by omega
             have cx := hM.1.at_ (nl_at (l := a) (i := m) (by rw [HA.out.1]; exact hc1))
             have cy := hM.2.1.at_ (nl_at (l := b) (i := q) (by rw [HB.out.1]; exact hq32))
             rw [Nat.zero_add] at cx cy
             have hxl := bys_at HA.out.2 m
             have hyl := bys_at HB.out.2 q
             generalize a.getD m 0 = x at *
             generalize b.getD q 0 = y at *
             generalize ps a b k m = pm at *
             have HXY : Hid (x * y ≤ 65025) := hid (Nat.mul_le_mul (show x ≤ 255 by omega) (show y ≤ 255 by omega))
             have hx64 : IntKind.i64.wrap (x : Int) = (x : Int) := IntWalk.i64_in _ (by omega)
             have hy64 : IntKind.i64.wrap (y : Int) = (y : Int) := IntWalk.i64_in _ (by omega)
             have hqw : IntKind.i64.wrap ((k : Int) - m) = (q : Int) := by rw [IntWalk.i64_in _ (by omega)]; omega
             have hpw : IntKind.i64.wrap ((x : Int) * y) = ((x * y : Nat) : Int) := by rw [Int.natCast_mul]; exact IntWalk.i64_in _ (by have := HXY.out; rw [← Int.natCast_mul]; omega)
             obtain ⟨u, hu⟩ : ∃ u, u = o1 + pm := ⟨_, rfl⟩
             rw [← hu]
             obtain ⟨v, hv⟩ : ∃ v, v = o1 + (pm + x * y) := ⟨_, rfl⟩
             have hsw : IntKind.i64.wrap ((u : Int) + ((x * y : Nat) : Int)) = (v : Int) := by rw [IntWalk.i64_in _ (by have := HXY.out; have := HPM.out; have := HO1.out; omega)]; omega
             generalize x * y = xy at *
             have m0 : (0 : Int) ≤ m := by omega
             have q0 : (0 : Int) ≤ q := by omega
             have q32 : (q : Int) < 32 := by omega
             have HUV := hid (And.intro hq (And.intro hu hv))
             clear hq hu hv hxl hyl hq32
             go_wp2
             go_quiet (fail)
             have hM9 := hM.drewN nq
             clear cx cy hM
             generalize W2.drewN nq = W3 at *
             go_wp2
             go_roundw
             case rel => exact ⟨m + 1, by omega, by omega, by omega, by go_num, by rw [HPS.out, HUV.out.2.2], hM9⟩
             case measure => simp [intOf]; omega
           · have hc1i : (m : Int) < 32 := by omega
             have hc2i : ¬ (m : Int) ≤ k := by omega
             have hnn : ¬ (m < 32 ∧ m ≤ k) := by omega
             exfalso; omega
         · have hc1i : ¬ (m : Int) < 32 := by omega
           have hnn : ¬ (m < 32 ∧ m ≤ k) := by omega
           have HTE := hid (HPE.out k m hm1 hm2 hnn)
           have HTB := hid (HPB.out k m)
           rw [HTE.out] at HTB
           obtain ⟨T, hT⟩ : ∃ T, T = o1 + cvl a b k := ⟨_, rfl⟩
           have HN := hid (HST.out T hT (by have := HTB.out; have := HO1.out; omega))
           rw [HTE.out, ← hT]
           have HTL : Hid (T ≤ 2089300) := hid (by have := HTB.out; have := HO1.out; omega)
           have h0 : (nl ns)[k]? = some (((ns.getD k 0 : Nat)) : Int) := nl_at (by rw [HNL.out]; exact hlt)
           have cz := hM.2.2.2.2.1.at_ h0
           have fz := hM.2.2.2.2.1.free (i := k) (by rw [nl_length, HNL.out]; exact hlt)
           rw [Nat.zero_add] at cz fz
           generalize ns.getD k 0 = z at *
           have hT8 : IntKind.u8.wrap (T : Int) = ((T % 256 : Nat) : Int) := by rw [IntKind.wrap_u8]; omega
           have hTs : (T : Int) / 256 = ((T / 256 : Nat) : Int) := by omega
           have hM9 := hM.set k ((T % 256 : Nat) : Int)
           rw [nl_set] at hM9
           generalize T % 256 = t8 at *
           generalize T / 256 = ts at *
           have HTT := hid hT
           clear HTE HTB HST hT h0 hM
           go_wp2
           go_roundw
           case rel => exact ⟨k + 1, ts, ns.set k t8, by omega, by go_num, rfl, HN, hM9⟩
           case measure => simp [intOf]; omega
   · have e : k = 64 := by omega
     subst e
     have HE := hid (HEND.out ns o HI.out)
     have HL : Hid ((nl ns).length = 64) := hid (by rw [nl_length]; exact HI.out.1)
     have HNS : Hid (ns.length = 64 ∧ Bys ns) := hid ⟨HI.out.1, HI.out.2.1⟩
     obtain ⟨_, _, _, hR, hN, hW⟩ := hM
     have hs1 : W1.there (w.heap.size + 1 + 1 + 1) 0 (ints .u8 (nl ns)).toArray.size := hR.room (by rw [zeros_len]; exact HL.out)
     have hR2 := hR.stored (l' := nl ns) (by rw [zeros_len]; exact HL.out)
     have hW2 := Below.setCells hW (g := w.heap.size + 1 + 1 + 1) (by omega) 0 (ints .u8 (nl ns)).toArray.toList
     clear hlt hk HI HEND hR hW
     go_wp2_with (first
       | (with_reducible refine wpList_load_mid (op := ⟨some 55, .load 29 (.tmp 7), _, _, _, _⟩) rfl 29 (.tmp 7) rfl (w.heap.size + 1 + 1 + 1 + 1) 0 rfl (ints .u8 (nl ns)) _ (hN.range) Tryz.underlying29 rfl (l46 HL.out) ?_)
       | (with_reducible refine wpList_store_mid (op := ⟨none, .store 29 (.tmp 6) (.tmp 55), _, _, _, _⟩) rfl 29 (.tmp 6) (.tmp 55) rfl (w.heap.size + 1 + 1 + 1) 0 (ints .u8 (nl ns)).toArray rfl rfl hs1 (a46 HL.out) (ints_all _ _) ?_; generalize W1.setCells (w.heap.size + 1 + 1 + 1) 0 (ints .u8 (nl ns)).toArray.toList = W5 at *))
     exact ret_rows rfl (w.heap.size + 1 + 1 + 1) 0 rfl (ints .u8 (nl ns)) _ hR2.range Tryz.underlying29 rfl (l46 HL.out) rfl ⟨ns, rfl, hid ⟨HNS.out.1, HNS.out.2, HE.out⟩, hW2⟩
open Go.RowKit
set_option maxRecDepth 4000 in
set_option maxHeartbeats 2000000 in
theorem muladd_walk (a b c : List Nat) (rs : List Int) (w : World) (hT : TabsQ w) (ha : a.length = 32) (hb : b.length = 32) (hc : c.length = 32) (ya : Bys a) (yb : Bys b) (yc : Bys c) (HRS : Hid (rbytes ((bnn a * bnn b + bnn c) % QN) = rs)) :
   Calls Tryz.prog 19 #[.agg (ints .u8 (nl a)).toArray, .agg (ints .u8 (nl b)).toArray, .agg (ints .u8 (nl c)).toArray] w fun e w' => e = .returned (.agg (ints .u8 rs).toArray) ∧ Below w.heap.size w w' := by
 obtain ⟨z22, s22⟩ := zero_of_info inf22
 obtain ⟨z46, s46⟩ := zero_of_info inf46
 have HK := hid (fun w0 => long_walk a b c w0 ha hb hc ya yb yc)
 have HRL : Hid (rs.length = 32) := hid (by rw [← HRS.out]; exact rbytes_length _)
 have hla : (nl a).length = 32 := by rw [nl_length]; exact ha
 have hlb : (nl b).length = 32 := by rw [nl_length]; exact hb
 have hlc : (nl c).length = 32 := by rw [nl_length]; exact hc
 clear ha hb hc ya yb yc
 generalize bnn a * bnn b + bnn c = M at *
 generalize nl a = al at *
 generalize nl b = bl at *
 generalize nl c = cl at *
 have h1 := ((Arr.made w .u8 al 22).alloc (.cells (ints .u8 bl).toArray 22)).alloc (.cells (ints .u8 cl).toArray 22) |>.alloc (.cells (ints .u8 (zeros 32)).toArray 22)
 have h2 := ((Arr.made (w.alloc (.cells (ints .u8 al).toArray 22)) .u8 bl 22).alloc (.cells (ints .u8 cl).toArray 22)).alloc (.cells (ints .u8 (zeros 32)).toArray 22)
 have h3 := (Arr.made ((w.alloc (.cells (ints .u8 al).toArray 22)).alloc (.cells (ints .u8 bl).toArray 22)) .u8 cl 22).alloc (.cells (ints .u8 (zeros 32)).toArray 22)
 have h4 := Arr.made (((w.alloc (.cells (ints .u8 al).toArray 22)).alloc (.cells (ints .u8 bl).toArray 22)).alloc (.cells (ints .u8 cl).toArray 22)) .u8 (zeros 32) 22
 simp only [World.size_alloc] at h2 h3 h4
 have hW := (((below_new w (.cells (ints .u8 al).toArray 22)).alloc (by simp) (.cells (ints .u8 bl).toArray 22)).alloc (by simp; omega) (.cells (ints .u8 cl).toArray 22)).alloc (by simp; omega) (.cells (ints .u8 (zeros 32)).toArray 22)
 go_enter Tryz.func19, Tryz.ntmps19
 go_wp2_with (first
   | (with_reducible refine wpList_load_mid (op := ⟨some 8, .load 22 (.tmp 3), _, _, _, _⟩) rfl 22 (.tmp 3) rfl w.heap.size 0 rfl (ints .u8 al) _ h1.range Tryz.underlying22 rfl (l22 hla) ?_)
   | (with_reducible refine wpList_load_mid (op := ⟨some 9, .load 22 (.tmp 4), _, _, _, _⟩) rfl 22 (.tmp 4) rfl (w.heap.size + 1) 0 rfl (ints .u8 bl) _ h2.range Tryz.underlying22 rfl (l22 hlb) ?_)
   | (with_reducible refine wpList_load_mid (op := ⟨some 10, .load 22 (.tmp 5), _, _, _, _⟩) rfl 22 (.tmp 5) rfl (w.heap.size + 1 + 1) 0 rfl (ints .u8 cl) _ h3.range Tryz.underlying22 rfl (l22 hlc) ?_))
 generalize (((w.alloc (.cells (ints .u8 al).toArray 22)).alloc (.cells (ints .u8 bl).toArray 22)).alloc (.cells (ints .u8 cl).toArray 22)).alloc (.cells (ints .u8 (zeros 32)).toArray 22) = W0 at *
 refine (HK.out _).mono ?_
 rintro e w2 ⟨zs, rfl, HZ, hb2⟩
 have h5 := h4.below hb2 (h4.lt (by rw [zeros_len]; omega))
 have hW2 := hW.trans (Below.mono hb2 hW.size)
 have hlt := h5.lt (by rw [zeros_len]; omega)
 have hZL : (nl zs).length = 64 := by rw [nl_length]; exact HZ.out.1
 have h6 := Arr.made w2 .u8 (zeros 64) 29
 have h7 := h5.alloc (.cells (ints .u8 (zeros 64)).toArray 29)
 have hW3 := hW2.alloc hW2.size (.cells (ints .u8 (zeros 64)).toArray 29)
 have hs1 : (w2.alloc (.cells (ints .u8 (zeros 64)).toArray 29)).there w2.heap.size 0 (ints .u8 (nl zs)).toArray.size := h6.room (by rw [zeros_len]; exact hZL)
 have h8 := h6.stored (l' := nl zs) (by rw [zeros_len]; exact hZL)
 have h9 := h7.past (b' := w2.heap.size) (o' := 0) (ints .u8 (nl zs)).toArray.toList (.inl (by omega))
 have hW4 := Below.setCells hW3 (g := w2.heap.size) hW2.size 0 (ints .u8 (nl zs)).toArray.toList
 have hT4 := hT.below hW4 hT.1
 clear h1 h2 h3 h4 hW hb2 h5 hW2 h6 h7 hW3 hT
 go_wp2_with (first
   | (with_reducible refine wpList_store_mid (op := ⟨none, .store 29 (.tmp 7) (.tmp 11), _, _, _, _⟩) rfl 29 (.tmp 7) (.tmp 11) rfl w2.heap.size 0 (ints .u8 (nl zs)).toArray rfl rfl hs1 (a46 hZL) (ints_all _ _) ?_; generalize (w2.alloc (.cells (ints .u8 (zeros 64)).toArray 29)).setCells w2.heap.size 0 (ints .u8 (nl zs)).toArray.toList = W5 at *; generalize w2.heap.size = d at *))
 have HS : Hid (bn (nl zs) = M) := hid (by rw [bn_nl, HZ.out.2.2])
 refine (scalarof_walk (some ⟨d, 0, none⟩) 64 64 (nl zs) W5 hT4 hZL (by omega) (byt_nl HZ.out.2.1) h8.nums).mono ?_
 rw [HS.out, HRS.out]
 rintro e w3 ⟨rfl, hb3⟩
 have h10 := h9.below hb3 (h9.lt (by rw [zeros_len]; omega))
 have hs2 : w3.there (w.heap.size + 1 + 1 + 1) 0 (ints .u8 rs).toArray.size := h10.room (by rw [zeros_len]; exact HRL.out)
 have h11 := h10.stored (l' := rs) (by rw [zeros_len]; exact HRL.out)
 have hW6 := Below.setCells (hW4.trans (Below.mono hb3 hW4.size)) (g := w.heap.size + 1 + 1 + 1) (by omega) 0 (ints .u8 rs).toArray.toList
 clear h8 h9 hb3 h10 hT4 hW4 hs1
 go_wp2_with (first
   | (with_reducible refine wpList_store_mid (op := ⟨none, .store 22 (.tmp 6) (.tmp 13), _, _, _, _⟩) rfl 22 (.tmp 6) (.tmp 13) rfl (w.heap.size + 1 + 1 + 1) 0 (ints .u8 rs).toArray rfl rfl hs2 (a22 HRL.out) (ints_all _ _) ?_; generalize w3.setCells (w.heap.size + 1 + 1 + 1) 0 (ints .u8 rs).toArray.toList = W6 at *))
 exact ret_rows rfl (w.heap.size + 1 + 1 + 1) 0 rfl (ints .u8 rs) _ h11.range Tryz.underlying22 rfl (l22 HRL.out) rfl ⟨rfl, hW6⟩
section
variable {a b c : List Int}
theorem cs_muladd (la : a.length = 32) (lb : b.length = 32) (lc : c.length = 32) (ya : Byt a) (yb : Byt b) (yc : Byt c) :
   CallsQ 19 #[.agg (ints .u8 a).toArray, .agg (ints .u8 b).toArray, .agg (ints .u8 c).toArray] (.agg (ints .u8 (rbytes ((bn a * bn b + bn c) % QN))).toArray) := fun w hT => by
 obtain ⟨a, rfl, ha, ya⟩ := nl_byt ya
 obtain ⟨b, rfl, hb, yb⟩ := nl_byt yb
 obtain ⟨c, rfl, hc, yc⟩ := nl_byt yc
 rw [bn_nl, bn_nl, bn_nl]
 exact muladd_walk a b c _ w hT (by omega) (by omega) (by omega) ya yb yc (hid rfl)
end
def oneQ : List Int := 1 :: zeros 31
theorem oneQ_len : oneQ.length = 32 := by simp [oneQ, zeros]
theorem builtQ_one : Tryz.prog.built 22 [(0, .int .u8 1)] = some (ints .u8 oneQ).toArray := by kernel_rfl
theorem small_byt {x : Int} (h : 0 ≤ x ∧ x < 256) : Byt (x :: zeros 31) := fun y hy => by
 rcases List.mem_cons.1 hy with h1 | h1
 · omega
 · have := List.eq_of_mem_replicate h1
   omega
set_option maxRecDepth 4000 in
theorem right_core {al rs : List Int} {d : Bool} (la : al.length = 32) (ya : Byt al) (hr : Hid (rbytes (bn al % QN) = rs)) (hd : Hid (decide (rs = al) = d)) : CallsQ 31 #[.agg (ints .u8 al).toArray] (.bool d) := fun w hT => by
 have hN := Arr.made w .u8 al 22
 have hW := below_new w (.cells (ints .u8 al).toArray 22)
 have hT0 := hT.below hW hT.1
 have HK : Hid (∀ (w0 : World), TabsQ w0 → Nums w0 .u8 (some ⟨w.heap.size, 0, none⟩) al → Calls Tryz.prog 45 #[.slice (some ⟨w.heap.size, 0, none⟩) 32 32] w0 fun e w' => e = .returned (.agg (ints .u8 rs).toArray) ∧ Below w0.heap.size w0 w') := hid fun w0 h1 h2 => by
   rw [← hr.out]
   exact scalarof_walk (some ⟨w.heap.size, 0, none⟩) 32 32 al w0 h1 la (by omega) ya h2
 have HL := hid la
 have HRL : Hid (rs.length = 32) := hid (by rw [← hr.out]; exact rbytes_length _)
 have HD := hd
 clear la ya hr hd hT
 go_enter Tryz.func31, Tryz.ntmps31
 go_wp2_with (fail)
 generalize w.alloc (.cells (ints .u8 al).toArray 22) = W0 at *
 refine rSpec 4 7 (fun _ => false) [Is (.slice (some ⟨w.heap.size, 0, none⟩) 32 32), Is (.agg (ints .u8 rs).toArray), Is (.agg (ints .u8 al).toArray), Is (.bool d)] [3, 4, 5, 6] (gC (gC (gC (gC grows_nil))))
   ⟨(step_ex (.slice (some ⟨w.heap.size, 0, none⟩) 32 32) rfl (.inl rfl) rfl fun a ww hw hf hd => by
        have h1 : a.eval (.tmp 1) = (.pointer (some ⟨w.heap.size, 0, none⟩)) := ((knows_out (v := (.pointer (some ⟨w.heap.size, 0, none⟩))) 1 (by kernel_rfl) rfl) : Knows _ _ W0 _ 4 _ 0 _ _) a ww hw hf hd
        revert h1
        generalize a.eval = ev
        intro h1
        unfold execOp
        simp only [h1]
        go_simp),
    (step_call rfl (.inl rfl) fun a ww hw hf hd => ⟨45, #[.slice (some ⟨w.heap.size, 0, none⟩) 32 32], ex_fn rfl cfT21 rfl _ (one_arg (knows_in (v := (.slice (some ⟨w.heap.size, 0, none⟩) 32 32)) 0 3 (by decide) (by kernel_rfl) rfl rfl) a ww hw hf hd) ww, (HK.out ww (hT0.next hw) (hN.nums.below hw)).mono fun _ _ ⟨he, hb⟩ => ⟨_, he, rfl, hb⟩⟩),
    (step_by rfl (.inl rfl) ⟨hN, HL.out⟩ 1 rfl (by kernel_rfl) rfl rfl),
    (step_eq22 rfl (.inl rfl) rfl HRL.out HL.out (by rw [HD.out]; exact rfl) (knows_in (v := (.agg (ints .u8 rs).toArray)) 1 4 (by decide) (by kernel_rfl) rfl rfl) (knows_in (v := (.agg (ints .u8 al).toArray)) 2 5 (by decide) (by kernel_rfl) rfl rfl)), trivial⟩ ?_
 intro val w9 hw hS hap hla
 simp only [pA, pB, pC, pD, pE, Act.put, pG, pH, pI, eVal hS 0 3 rfl rfl, eVal hS 1 4 rfl rfl, eVal hS 2 5 rfl rfl, eVal hS 3 6 rfl rfl]
 clear hS hap hla
 have hW9 := bT hW hw
 clear hN hT0 HK hw
 go_wp2
 go_ret
 exact ⟨rfl, hW9⟩
theorem one_byt : Byt oneQ := small_byt (by omega)
section
variable {a b : List Int}
theorem cs_right (la : a.length = 32) (ya : Byt a) : CallsQ 31 #[.agg (ints .u8 a).toArray] (.bool (decide (bn a < QN))) :=
 right_core la ya (hid rfl) (hid (decide_eq_decide.2 (right_iff la ya)))
end
set_option maxRecDepth 4000 in
set_option maxHeartbeats 2000000 in
theorem of_yes (A : Option Addr) (L c : Nat) (bs : List Int) (w : World) (hT : TabsQ w) (hl : bs.length = L) (hn : L ≤ 128) (hb : Byt bs) (hA : Nums w .u8 A bs) : Calls Tryz.prog 34 #[.slice A L c] w fun e w' => e = .returned (.tuple #[.agg (ints .u8 (rbytes (bn bs % QN))).toArray, .int .i64 0]) ∧ Below w.heap.size w w' := by
 obtain ⟨z22, s22⟩ := zero_of_info inf22
 have hR := Arr.made w .u8 (zeros 32) 22
 have hW := below_new w (.cells (ints .u8 (zeros 32)).toArray 22)
 have hT0 := hT.next hW
 have HK : Hid (∀ w0 : World, TabsQ w0 → Nums w0 .u8 A bs → Calls Tryz.prog 45 #[.slice A L c] w0 fun e w' => e = .returned (.agg (ints .u8 (rbytes (bn bs % QN))).toArray) ∧ Below w0.heap.size w0 w') := hid fun w0 h1 h2 => scalarof_walk A L c bs w0 h1 hl (by omega) hb h2
 have HRL := hid (rbytes_length (bn bs % QN))
 have hA0 := hA.below hW
 have hL : ¬ (128 : Int) < (L : Int) := by omega
 obtain ⟨rs, hrs⟩ : ∃ rs, rbytes (bn bs % QN) = rs := ⟨_, rfl⟩
 rw [hrs] at HK HRL ⊢
 clear hrs hl hb hA hT hn
 go_enter Tryz.func34, Tryz.ntmps34
 go_wp2_with (fail)
 generalize w.alloc (.cells (ints .u8 (zeros 32)).toArray 22) = W0 at *
 refine (HK.out _ hT0 hA0).mono ?_
 rintro e w2 ⟨rfl, hb2⟩
 have hR2 := hR.below hb2 (hR.lt (by rw [zeros_len]; omega))
 have hs1 : w2.there w.heap.size 0 (ints .u8 rs).toArray.size := hR2.room (by rw [zeros_len]; exact HRL.out)
 have hR3 := hR2.stored (l' := rs) (by rw [zeros_len]; exact HRL.out)
 have hW2 := Below.setCells (hW.trans (Below.mono hb2 hW.size)) (g := w.heap.size) (Nat.le_refl _) 0 (ints .u8 rs).toArray.toList
 clear hR hW hb2 hR2 hT0 hA0 HK
 go_wp2_with (first
   | (with_reducible refine wpList_store_mid (op := ⟨none, .store 22 (.tmp 2) (.tmp 9), _, _, _, _⟩) rfl 22 (.tmp 2) (.tmp 9) rfl w.heap.size 0 (ints .u8 rs).toArray rfl rfl hs1 (a22 HRL.out) (ints_all _ _) ?_; generalize w2.setCells w.heap.size 0 (ints .u8 rs).toArray.toList = W5 at *))
 exact bodyPost_ret (results_row2 rfl _ _ w.heap.size 0 rfl (.int .i64 0) rfl (ints .u8 rs) _ hR3.range Tryz.underlying22 rfl (l22 HRL.out)) rfl ⟨rfl, hW2⟩
end Go.Proofs.YthpibkpljakeeaaGreatDoor
