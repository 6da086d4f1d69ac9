/- Texts of this proof, laid together: QBy, QBase, QMul, QStep. -/
import Derived.Test.YtpaopdjbhmdfjaaDoorQFnM
import Derived.Test.YtpaopdjbhmdfjaaDoorG9
import Derived.Test.YtpaopdjbhmdfjaaDoorPLawAM
import Derived.Test.YtpaopdjbhmdfjaaDoorSRefQM
import Derived.Test.YtpaopdjbhmdfjaaDoorPTakeM
/- The reference's Bytes. -/
namespace Go.Proofs.YtpaopdjbhmdfjaaDoor
open Go Go.RowKit

theorem dig0_lt (m : Nat) : dig0 m < 65536 := Nat.mod_lt _ (by omega)
theorem wrap_u8 (x : Int) (h : 0 ≤ x ∧ x < 256) : IntKind.u8.wrap x = x := by
  have key : ∀ n : Fin 256, IntKind.u8.wrap (n.val : Int) = (n.val : Int) := by decide +kernel
  have := key ⟨x.toNat, by omega⟩
  have e : (x.toNat : Int) = x := Int.toNat_of_nonneg h.1
  simpa [e] using this
set_option maxRecDepth 4000 in
set_option maxHeartbeats 16000000 in
theorem rbytes_odd {c : C3 NT.PN} {W : World} {bs m : List Int} (hbs : Hid (rbytes (c.y * iv c.z).val = bs)) (hbl : bs.length = 32) (lm : m.length = 32) (hb : 0 ≤ bs.getD 31 0 ∧ bs.getD 31 0 < 128) (hm : bs.set 31 (bs.getD 31 0 + 128) = m) (hodd : dig0 (c.x * iv c.z).val % 2 = 1) {Ap Bp Cp : Option Addr} {ap b_p dp : Nat} {xp yp zp : List Nat} (Hxp : Hid (Rp xp c.x.val)) (Hyp : Hid (Rp yp c.y.val)) (Hzp : Hid (Rp zp c.z.val)) (Mxp : Nums W .i64 Ap (nl xp)) (Myp : Nums W .i64 Bp (nl yp)) (Mzp : Nums W .i64 Cp (nl zp)) : Calls Tryd.prog 27 #[.agg (pv3 Ap Bp Cp ap b_p dp).toArray] W fun e w' => e = .returned (.agg (ints .u8 m).toArray) ∧ Below W.heap.size W w' := by
  obtain ⟨z22, s22⟩ := zero_of_info inf22
  have h1 := (RB.new W (pv3 Ap Bp Cp ap b_p dp) 47 rfl (pv3_sl _ _ _ _ _ _)).next (below_new _ (.cells (ints .u8 (zeros 32)).toArray 22))
  have h2 := By.new (W.alloc (.cells (pv3 Ap Bp Cp ap b_p dp).toArray 47)) (zeros 32) (zeros_len 32)
  have hW := (below_new W (.cells (pv3 Ap Bp Cp ap b_p dp).toArray 47)).alloc (by simp) (.cells (ints .u8 (zeros 32)).toArray 22)
  simp only [World.size_alloc] at h2
  replace Mxp := Mxp.below hW
  replace Myp := Myp.below hW
  replace Mzp := Mzp.below hW
  go_enter Tryd.func27, Tryd.ntmps27
  go_upto_region 1 with (fail)
  generalize (W.alloc (.cells (pv3 Ap Bp Cp ap b_p dp).toArray 47)).alloc (.cells (ints .u8 (zeros 32)).toArray 22) = w0 at *
  have s0 := hW.size
  refine region_seq2 4 28 (fun _ => false) [Is (.pointer (some ⟨W.heap.size, 2, none⟩)), Is (.slice Cp 16 dp), IsN ((iv c.z)).val, IsN ((iv c.z)).val] [6, 7, 8, 3] (by kernel_rfl) (by kernel_rfl) (Nat.le_of_eq rfl) (grows_cons (Is.grows _) (grows_cons (Is.grows _) (grows_cons (IsN.grows _) (grows_cons (IsN.grows _) grows_nil))))
    ⟨step_fr2 rfl (.inl rfl) rfl rfl (knows_out 1 (by kernel_rfl) rfl),
     step_ld32 rfl (.inl rfl) h1 rfl rfl rfl (knows_in 0 6 (by decide) (by kernel_rfl) rfl rfl),
     step_rn rfl (.inl rfl) rfl cg19 rfl (rn1 ((knows_in 1 7 (by decide) (by kernel_rfl) rfl rfl).r Hzp Mzp) (fun h1 h2 => rf_inv h1 h2)),
     step_copyN rfl (.inl rfl) 2 8 (.inr rfl) rfl (by decide) (by kernel_rfl) rfl rfl, trivial⟩ ?_
  intro val w1 hw hS hap hla
  have e6 : val 6 = (.pointer (some ⟨W.heap.size, 2, none⟩)) := hS 0 6 (by decide) rfl
  have e7 : val 7 = (.slice Cp 16 dp) := hS 1 7 (by decide) rfl
  obtain ⟨A8, c8, y8, e8, H8, M8⟩ := hS 2 8 (by decide) rfl
  obtain ⟨A3, c3, y3, e3, H3, M3⟩ := hS 3 3 (by decide) rfl
  simp only [putVals, List.foldl_cons, List.foldl_nil, List.drop_succ_cons, List.drop_zero, Act.put, List.setIfInBounds_toArray, List.set_cons_succ, List.set_cons_zero, e6, e7, e8, e3]
  clear hS hap hla e6 e7 e8 e3 H8 M8
  replace h1 := h1.next hw
  replace h2 := h2.next hw
  replace Mxp := Mxp.below hw
  replace Myp := Myp.below hw
  replace Mzp := Mzp.below hw
  replace hW := hW.trans (Below.mono hw hW.size)
  clear hw
  go_upto_region 2 with (fail)
  have s1 := hW.size
  refine region_seq2 5 28 (fun _ => false) [Is (.pointer (some ⟨W.heap.size, 0, none⟩)), Is (.slice Ap 16 ap), Is (.slice A3 16 c3), IsN ((c.x * (iv c.z) : Fin NT.PN)).val, IsN ((c.x * (iv c.z) : Fin NT.PN)).val] [9, 10, 11, 12, 4] (by kernel_rfl) (by kernel_rfl) (Nat.le_of_eq rfl) (grows_cons (Is.grows _) (grows_cons (Is.grows _) (grows_cons (Is.grows _) (grows_cons (IsN.grows _) (grows_cons (IsN.grows _) grows_nil)))))
    ⟨step_fr0 rfl (.inl rfl) rfl rfl (knows_out 1 (by kernel_rfl) rfl),
     step_ld32 rfl (.inl rfl) h1 rfl rfl rfl (knows_in 0 9 (by decide) (by kernel_rfl) rfl rfl),
     step_mv rfl (.inl rfl) rfl rfl (knows_out 3 (by kernel_rfl) rfl),
     step_rn rfl (.inl rfl) rfl cf23 rfl (rn2 ((knows_in 1 10 (by decide) (by kernel_rfl) rfl rfl).r Hxp Mxp) ((knows_in 2 11 (by decide) (by kernel_rfl) rfl rfl).r H3 M3) (fun h1 h2 h3 h4 => rf_mul h1 h2 h3 h4)),
     step_copyN rfl (.inl rfl) 3 12 (.inr rfl) rfl (by decide) (by kernel_rfl) rfl rfl, trivial⟩ ?_
  intro val w2 hw hS hap hla
  have e9 : val 9 = (.pointer (some ⟨W.heap.size, 0, none⟩)) := hS 0 9 (by decide) rfl
  have e10 : val 10 = (.slice Ap 16 ap) := hS 1 10 (by decide) rfl
  have e11 : val 11 = (.slice A3 16 c3) := hS 2 11 (by decide) rfl
  obtain ⟨A12, c12, y12, e12, H12, M12⟩ := hS 3 12 (by decide) rfl
  obtain ⟨A4, c4, y4, e4, H4, M4⟩ := hS 4 4 (by decide) rfl
  simp only [putVals, List.foldl_cons, List.foldl_nil, List.drop_succ_cons, List.drop_zero, Act.put, List.setIfInBounds_toArray, List.set_cons_succ, List.set_cons_zero, e9, e10, e11, e12, e4]
  clear hS hap hla e9 e10 e11 e12 e4 H12 M12
  replace h1 := h1.next hw
  replace h2 := h2.next hw
  replace Mxp := Mxp.below hw
  replace Myp := Myp.below hw
  replace Mzp := Mzp.below hw
  replace M3 := M3.below hw
  replace hW := hW.trans (Below.mono hw hW.size)
  clear hw
  go_upto_region 3 with (fail)
  have lt2 := h2.lt
  have s2 := hW.size
  refine region_seq2 6 28 (fun i => i == 5) [Is (.pointer (some ⟨W.heap.size, 1, none⟩)), Is (.slice Bp 16 b_p), Is (.slice A3 16 c3), IsN ((c.y * (iv c.z) : Fin NT.PN)).val, Is (.agg (ints .u8 bs).toArray), IsZ22 w2.heap.size] [13, 14, 15, 16, 17, 5] (by kernel_rfl) (by kernel_rfl) (Nat.le_of_eq rfl) (grows_cons (Is.grows _) (grows_cons (Is.grows _) (grows_cons (Is.grows _) (grows_cons (IsN.grows _) (grows_cons (Is.grows _) (grows_cons (IsZ22.grows _) grows_nil))))))
    ⟨step_fr1 rfl (.inl rfl) rfl rfl (knows_out 1 (by kernel_rfl) rfl),
     step_ld32 rfl (.inl rfl) h1 rfl rfl rfl (knows_in 0 13 (by decide) (by kernel_rfl) rfl rfl),
     step_mv rfl (.inl rfl) rfl rfl (knows_out 3 (by kernel_rfl) rfl),
     step_rn rfl (.inl rfl) rfl cf23 rfl (rn2 ((knows_in 1 14 (by decide) (by kernel_rfl) rfl rfl).r Hyp Myp) ((knows_in 2 15 (by decide) (by kernel_rfl) rfl rfl).r H3 M3) (fun h1 h2 h3 h4 => rf_mul h1 h2 h3 h4)),
     step_rbytesQ rfl (.inl rfl) rfl cf12 hbs.out rfl (knowsN_in 3 16 (by decide) (by kernel_rfl) rfl rfl),
     step_alloc22 (.inl rfl) rfl rfl, trivial⟩ ?_
  intro val w3 hw hS hap hla
  have e13 : val 13 = (.pointer (some ⟨W.heap.size, 1, none⟩)) := hS 0 13 (by decide) rfl
  have e14 : val 14 = (.slice Bp 16 b_p) := hS 1 14 (by decide) rfl
  have e15 : val 15 = (.slice A3 16 c3) := hS 2 15 (by decide) rfl
  obtain ⟨A16, c16, y16, e16, H16, M16⟩ := hS 3 16 (by decide) rfl
  have e17 : val 17 = (.agg (ints .u8 bs).toArray) := hS 4 17 (by decide) rfl
  obtain ⟨b5, e5, L5, Z5⟩ := hS 5 5 (by decide) rfl
  simp only [putVals, List.foldl_cons, List.foldl_nil, List.drop_succ_cons, List.drop_zero, Act.put, List.setIfInBounds_toArray, List.set_cons_succ, List.set_cons_zero, e13, e14, e15, e16, e17, e5]
  clear hS hap hla e13 e14 e15 e16 e17 e5 H16 M16
  have LL5 := hid hbl
  have R5 := Z5.room (l' := bs) hbl
  have hB5 := Z5.stored (l' := bs) hbl
  replace h1 := h1.next (Below.setCells hw L5 0 (ints .u8 bs).toArray.toList)
  replace h2 := h2.next (Below.setCells hw L5 0 (ints .u8 bs).toArray.toList)
  replace Mxp := Mxp.below (Below.setCells hw L5 0 (ints .u8 bs).toArray.toList)
  replace Myp := Myp.below (Below.setCells hw L5 0 (ints .u8 bs).toArray.toList)
  replace Mzp := Mzp.below (Below.setCells hw L5 0 (ints .u8 bs).toArray.toList)
  replace M3 := M3.below (Below.setCells hw L5 0 (ints .u8 bs).toArray.toList)
  replace M4 := M4.below (Below.setCells hw L5 0 (ints .u8 bs).toArray.toList)
  replace hW := hW.trans (Below.mono (Below.setCells hw L5 0 (ints .u8 bs).toArray.toList) hW.size)
  with_reducible refine wpList_store_mid (op := ⟨none, .store 22 (.tmp 5) (.tmp 17), _, _, _, _⟩) rfl 22 (.tmp 5) (.tmp 17) rfl b5 0 (ints .u8 bs).toArray rfl rfl R5 (a22 LL5.out) (ints_all _ _) ?_
  generalize (w3.setCells b5 0 (ints .u8 bs).toArray.toList) = w4 at *
  clear hw R5 LL5 Z5 
  have w5_ : W.heap.size ≤ b5 := by omega
  have n52 : b5 ≠ W.heap.size + 1 := by omega
  obtain ⟨g, o, hA4, _, cA⟩ := M4.num (by rw [nl_length, H4.out.1]; omega)
  subst hA4
  have c0 := cA 0 _ H4.out.first
  rw [show o + 0 = o from rfl] at c0
  clear cA M4 H4 Mxp Myp Mzp h1
  have q0 := dig0_lt (c.x * iv c.z).val
  have ho' := hodd
  generalize dig0 (c.x * iv c.z).val = q at *
  have htm : Int.tmod (q : Int) 2 = 1 := by
    rw [Int.tmod_eq_emod_of_nonneg (by omega)]; omega
  have q00 : (0 : Int) ≤ q := by omega
  clear ho' hodd
  obtain ⟨x, cx, fx, HX⟩ := hB5.1.spot (i := 31) (by rw [hbl]; omega)
  rw [Nat.zero_add] at cx fx
  have hx31 : bs.getD 31 0 = x := by simp [List.getD, HX.out]
  rw [hx31] at hb hm
  have hmk : IntKind.u8.wrap (x + 128) = x + 128 := wrap_u8 _ (by omega)
  have hD1 := hB5.1.set 31 (x + 128)
  rw [Nat.zero_add, hm] at hD1
  have hR1 := h2.1.apart (p := ⟨b5, 31, none⟩) (.int .u8 (x + 128)) (.inl n52)
  have hW1 := hW.setCell (p := ⟨b5, 31, none⟩) w5_ (.int .u8 (x + 128))
  have hs1 := hR1.room (k' := .u8) (l' := m) (by rw [zeros_len]; exact lm)
  have hR2 := hR1.stored (l' := m) (by rw [zeros_len]; exact lm)
  have hW2 := Below.setCells hW1 (g := W.heap.size + 1) (by omega) 0 (ints .u8 m).toArray.toList
  have LM := hid lm
  clear hm hx31 HX hb hB5 h2 hW hR1 hW1 lm hbl hbs
  go_wp2_with (first
    | (with_reducible refine wpList_load_mid (op := ⟨some 27, .load 22 (.tmp 5), _, _, _, _⟩) rfl 22 (.tmp 5) rfl b5 0 rfl (ints .u8 m) _ (hD1.range) Tryd.underlying22 rfl (l22 LM.out) ?_)
    | (with_reducible refine wpList_store_mid (op := ⟨none, .store 22 (.tmp 2) (.tmp 27), _, _, _, _⟩) rfl 22 (.tmp 2) (.tmp 27) rfl (W.heap.size + 1) 0 (ints .u8 m).toArray rfl rfl hs1 (a22 LM.out) (ints_all _ _) ?_))
  exact ret_rows rfl (W.heap.size + 1) 0 rfl (ints .u8 m) _ hR2.range Tryd.underlying22 rfl (l22 LM.out) rfl ⟨rfl, hW2⟩
set_option maxRecDepth 4000 in
set_option maxHeartbeats 16000000 in
theorem rbytes_even {c : C3 NT.PN} {W : World} {bs m : List Int} (hbs : Hid (rbytes (c.y * iv c.z).val = bs)) (hbl : bs.length = 32) (lm : m.length = 32) (hm : bs = m) (hodd : dig0 (c.x * iv c.z).val % 2 = 0) {Ap Bp Cp : Option Addr} {ap b_p dp : Nat} {xp yp zp : List Nat} (Hxp : Hid (Rp xp c.x.val)) (Hyp : Hid (Rp yp c.y.val)) (Hzp : Hid (Rp zp c.z.val)) (Mxp : Nums W .i64 Ap (nl xp)) (Myp : Nums W .i64 Bp (nl yp)) (Mzp : Nums W .i64 Cp (nl zp)) : Calls Tryd.prog 27 #[.agg (pv3 Ap Bp Cp ap b_p dp).toArray] W fun e w' => e = .returned (.agg (ints .u8 m).toArray) ∧ Below W.heap.size W w' := by
  obtain ⟨z22, s22⟩ := zero_of_info inf22
  have h1 := (RB.new W (pv3 Ap Bp Cp ap b_p dp) 47 rfl (pv3_sl _ _ _ _ _ _)).next (below_new _ (.cells (ints .u8 (zeros 32)).toArray 22))
  have h2 := By.new (W.alloc (.cells (pv3 Ap Bp Cp ap b_p dp).toArray 47)) (zeros 32) (zeros_len 32)
  have hW := (below_new W (.cells (pv3 Ap Bp Cp ap b_p dp).toArray 47)).alloc (by simp) (.cells (ints .u8 (zeros 32)).toArray 22)
  simp only [World.size_alloc] at h2
  replace Mxp := Mxp.below hW
  replace Myp := Myp.below hW
  replace Mzp := Mzp.below hW
  go_enter Tryd.func27, Tryd.ntmps27
  go_upto_region 1 with (fail)
  generalize (W.alloc (.cells (pv3 Ap Bp Cp ap b_p dp).toArray 47)).alloc (.cells (ints .u8 (zeros 32)).toArray 22) = w0 at *
  have s0 := hW.size
  refine region_seq2 4 28 (fun _ => false) [Is (.pointer (some ⟨W.heap.size, 2, none⟩)), Is (.slice Cp 16 dp), IsN ((iv c.z)).val, IsN ((iv c.z)).val] [6, 7, 8, 3] (by kernel_rfl) (by kernel_rfl) (Nat.le_of_eq rfl) (grows_cons (Is.grows _) (grows_cons (Is.grows _) (grows_cons (IsN.grows _) (grows_cons (IsN.grows _) grows_nil))))
    ⟨step_fr2 rfl (.inl rfl) rfl rfl (knows_out 1 (by kernel_rfl) rfl),
     step_ld32 rfl (.inl rfl) h1 rfl rfl rfl (knows_in 0 6 (by decide) (by kernel_rfl) rfl rfl),
     step_rn rfl (.inl rfl) rfl cg19 rfl (rn1 ((knows_in 1 7 (by decide) (by kernel_rfl) rfl rfl).r Hzp Mzp) (fun h1 h2 => rf_inv h1 h2)),
     step_copyN rfl (.inl rfl) 2 8 (.inr rfl) rfl (by decide) (by kernel_rfl) rfl rfl, trivial⟩ ?_
  intro val w1 hw hS hap hla
  have e6 : val 6 = (.pointer (some ⟨W.heap.size, 2, none⟩)) := hS 0 6 (by decide) rfl
  have e7 : val 7 = (.slice Cp 16 dp) := hS 1 7 (by decide) rfl
  obtain ⟨A8, c8, y8, e8, H8, M8⟩ := hS 2 8 (by decide) rfl
  obtain ⟨A3, c3, y3, e3, H3, M3⟩ := hS 3 3 (by decide) rfl
  simp only [putVals, List.foldl_cons, List.foldl_nil, List.drop_succ_cons, List.drop_zero, Act.put, List.setIfInBounds_toArray, List.set_cons_succ, List.set_cons_zero, e6, e7, e8, e3]
  clear hS hap hla e6 e7 e8 e3 H8 M8
  replace h1 := h1.next hw
  replace h2 := h2.next hw
  replace Mxp := Mxp.below hw
  replace Myp := Myp.below hw
  replace Mzp := Mzp.below hw
  replace hW := hW.trans (Below.mono hw hW.size)
  clear hw
  go_upto_region 2 with (fail)
  have s1 := hW.size
  refine region_seq2 5 28 (fun _ => false) [Is (.pointer (some ⟨W.heap.size, 0, none⟩)), Is (.slice Ap 16 ap), Is (.slice A3 16 c3), IsN ((c.x * (iv c.z) : Fin NT.PN)).val, IsN ((c.x * (iv c.z) : Fin NT.PN)).val] [9, 10, 11, 12, 4] (by kernel_rfl) (by kernel_rfl) (Nat.le_of_eq rfl) (grows_cons (Is.grows _) (grows_cons (Is.grows _) (grows_cons (Is.grows _) (grows_cons (IsN.grows _) (grows_cons (IsN.grows _) grows_nil)))))
    ⟨step_fr0 rfl (.inl rfl) rfl rfl (knows_out 1 (by kernel_rfl) rfl),
     step_ld32 rfl (.inl rfl) h1 rfl rfl rfl (knows_in 0 9 (by decide) (by kernel_rfl) rfl rfl),
     step_mv rfl (.inl rfl) rfl rfl (knows_out 3 (by kernel_rfl) rfl),
     step_rn rfl (.inl rfl) rfl cf23 rfl (rn2 ((knows_in 1 10 (by decide) (by kernel_rfl) rfl rfl).r Hxp Mxp) ((knows_in 2 11 (by decide) (by kernel_rfl) rfl rfl).r H3 M3) (fun h1 h2 h3 h4 => rf_mul h1 h2 h3 h4)),
     step_copyN rfl (.inl rfl) 3 12 (.inr rfl) rfl (by decide) (by kernel_rfl) rfl rfl, trivial⟩ ?_
  intro val w2 hw hS hap hla
  have e9 : val 9 = (.pointer (some ⟨W.heap.size, 0, none⟩)) := hS 0 9 (by decide) rfl
  have e10 : val 10 = (.slice Ap 16 ap) := hS 1 10 (by decide) rfl
  have e11 : val 11 = (.slice A3 16 c3) := hS 2 11 (by decide) rfl
  obtain ⟨A12, c12, y12, e12, H12, M12⟩ := hS 3 12 (by decide) rfl
  obtain ⟨A4, c4, y4, e4, H4, M4⟩ := hS 4 4 (by decide) rfl
  simp only [putVals, List.foldl_cons, List.foldl_nil, List.drop_succ_cons, List.drop_zero, Act.put, List.setIfInBounds_toArray, List.set_cons_succ, List.set_cons_zero, e9, e10, e11, e12, e4]
  clear hS hap hla e9 e10 e11 e12 e4 H12 M12
  replace h1 := h1.next hw
  replace h2 := h2.next hw
  replace Mxp := Mxp.below hw
  replace Myp := Myp.below hw
  replace Mzp := Mzp.below hw
  replace M3 := M3.below hw
  replace hW := hW.trans (Below.mono hw hW.size)
  clear hw
  go_upto_region 3 with (fail)
  have lt2 := h2.lt
  have s2 := hW.size
  refine region_seq2 6 28 (fun i => i == 5) [Is (.pointer (some ⟨W.heap.size, 1, none⟩)), Is (.slice Bp 16 b_p), Is (.slice A3 16 c3), IsN ((c.y * (iv c.z) : Fin NT.PN)).val, Is (.agg (ints .u8 bs).toArray), IsZ22 w2.heap.size] [13, 14, 15, 16, 17, 5] (by kernel_rfl) (by kernel_rfl) (Nat.le_of_eq rfl) (grows_cons (Is.grows _) (grows_cons (Is.grows _) (grows_cons (Is.grows _) (grows_cons (IsN.grows _) (grows_cons (Is.grows _) (grows_cons (IsZ22.grows _) grows_nil))))))
    ⟨step_fr1 rfl (.inl rfl) rfl rfl (knows_out 1 (by kernel_rfl) rfl),
     step_ld32 rfl (.inl rfl) h1 rfl rfl rfl (knows_in 0 13 (by decide) (by kernel_rfl) rfl rfl),
     step_mv rfl (.inl rfl) rfl rfl (knows_out 3 (by kernel_rfl) rfl),
     step_rn rfl (.inl rfl) rfl cf23 rfl (rn2 ((knows_in 1 14 (by decide) (by kernel_rfl) rfl rfl).r Hyp Myp) ((knows_in 2 15 (by decide) (by kernel_rfl) rfl rfl).r H3 M3) (fun h1 h2 h3 h4 => rf_mul h1 h2 h3 h4)),
     step_rbytesQ rfl (.inl rfl) rfl cf12 hbs.out rfl (knowsN_in 3 16 (by decide) (by kernel_rfl) rfl rfl),
     step_alloc22 (.inl rfl) rfl rfl, trivial⟩ ?_
  intro val w3 hw hS hap hla
  have e13 : val 13 = (.pointer (some ⟨W.heap.size, 1, none⟩)) := hS 0 13 (by decide) rfl
  have e14 : val 14 = (.slice Bp 16 b_p) := hS 1 14 (by decide) rfl
  have e15 : val 15 = (.slice A3 16 c3) := hS 2 15 (by decide) rfl
  obtain ⟨A16, c16, y16, e16, H16, M16⟩ := hS 3 16 (by decide) rfl
  have e17 : val 17 = (.agg (ints .u8 bs).toArray) := hS 4 17 (by decide) rfl
  obtain ⟨b5, e5, L5, Z5⟩ := hS 5 5 (by decide) rfl
  simp only [putVals, List.foldl_cons, List.foldl_nil, List.drop_succ_cons, List.drop_zero, Act.put, List.setIfInBounds_toArray, List.set_cons_succ, List.set_cons_zero, e13, e14, e15, e16, e17, e5]
  clear hS hap hla e13 e14 e15 e16 e17 e5 H16 M16
  have LL5 := hid hbl
  have R5 := Z5.room (l' := bs) hbl
  have hB5 := Z5.stored (l' := bs) hbl
  replace h1 := h1.next (Below.setCells hw L5 0 (ints .u8 bs).toArray.toList)
  replace h2 := h2.next (Below.setCells hw L5 0 (ints .u8 bs).toArray.toList)
  replace Mxp := Mxp.below (Below.setCells hw L5 0 (ints .u8 bs).toArray.toList)
  replace Myp := Myp.below (Below.setCells hw L5 0 (ints .u8 bs).toArray.toList)
  replace Mzp := Mzp.below (Below.setCells hw L5 0 (ints .u8 bs).toArray.toList)
  replace M3 := M3.below (Below.setCells hw L5 0 (ints .u8 bs).toArray.toList)
  replace M4 := M4.below (Below.setCells hw L5 0 (ints .u8 bs).toArray.toList)
  replace hW := hW.trans (Below.mono (Below.setCells hw L5 0 (ints .u8 bs).toArray.toList) hW.size)
  with_reducible refine wpList_store_mid (op := ⟨none, .store 22 (.tmp 5) (.tmp 17), _, _, _, _⟩) rfl 22 (.tmp 5) (.tmp 17) rfl b5 0 (ints .u8 bs).toArray rfl rfl R5 (a22 LL5.out) (ints_all _ _) ?_
  generalize (w3.setCells b5 0 (ints .u8 bs).toArray.toList) = w4 at *
  clear hw R5 LL5 Z5 
  have w5_ : W.heap.size ≤ b5 := by omega
  have n52 : b5 ≠ W.heap.size + 1 := by omega
  obtain ⟨g, o, hA4, _, cA⟩ := M4.num (by rw [nl_length, H4.out.1]; omega)
  subst hA4
  have c0 := cA 0 _ H4.out.first
  rw [show o + 0 = o from rfl] at c0
  clear cA M4 H4 Mxp Myp Mzp h1
  have q0 := dig0_lt (c.x * iv c.z).val
  have ho' := hodd
  generalize dig0 (c.x * iv c.z).val = q at *
  have htm : Int.tmod (q : Int) 2 = 0 := by
    rw [Int.tmod_eq_emod_of_nonneg (by omega)]; omega
  have q00 : (0 : Int) ≤ q := by omega
  clear ho' hodd
  subst hm
  have hD1 := hB5.1
  have hs1 := h2.1.room (k' := .u8) (l' := bs) (by rw [zeros_len]; exact lm)
  have hR2 := h2.1.stored (l' := bs) (by rw [zeros_len]; exact lm)
  have hW2 := Below.setCells hW (g := W.heap.size + 1) (by omega) 0 (ints .u8 bs).toArray.toList
  have LM := hid lm
  clear hB5 h2 hW lm hbl hbs
  go_wp2_with (first
    | (with_reducible refine wpList_load_mid (op := ⟨some 27, .load 22 (.tmp 5), _, _, _, _⟩) rfl 22 (.tmp 5) rfl b5 0 rfl (ints .u8 bs) _ (hD1.range) Tryd.underlying22 rfl (l22 LM.out) ?_)
    | (with_reducible refine wpList_store_mid (op := ⟨none, .store 22 (.tmp 2) (.tmp 27), _, _, _, _⟩) rfl 22 (.tmp 2) (.tmp 27) rfl (W.heap.size + 1) 0 (ints .u8 bs).toArray rfl rfl hs1 (a22 LM.out) (ints_all _ _) ?_))
  exact ret_rows rfl (W.heap.size + 1) 0 rfl (ints .u8 bs) _ hR2.range Tryd.underlying22 rfl (l22 LM.out) rfl ⟨rfl, hW2⟩
/-- The calls, told by what a point's value is. -/
theorem rp_add {c c' : C3 NT.PN} {d : Fin NT.PN} {v v' : Value} {A : Option Addr} {cd : Nat} {y : List Nat} {w : World} (h : IsP c v w) (h' : IsP c' v' w) (hy : Rp y d.val) (hN : Nums w .i64 A (nl y)) : Calls Tryd.prog 31 #[v, v', .slice A 16 cd] w fun e w' => ∃ u, e = .returned u ∧ IsP (add3 d c c') u w' ∧ Below w.heap.size w w' := by
  obtain ⟨_, _, _, _, _, _, _, _, _, rfl, h1, h2, h3, h4, h5, h6⟩ := h
  obtain ⟨_, _, _, _, _, _, _, _, _, rfl, k1, k2, k3, k4, k5, k6⟩ := h'
  exact rf_padd h1 h2 h3 h4 h5 h6 k1 k2 k3 k4 k5 k6 (hid hy) hN
theorem rp_bytes {c : C3 NT.PN} {v : Value} {w : World} (h : IsP c v w) : Calls Tryd.prog 27 #[v] w fun e w' => e = .returned (.agg (ints .u8 (pbytes (c.y * iv c.z).val (oddB (c.x * iv c.z).val))).toArray) ∧ Below w.heap.size w w' := by
  obtain ⟨_, _, _, _, _, _, _, _, _, rfl, h1, h2, h3, h4, h5, h6⟩ := h
  have hb := rb_top (c.y * iv c.z).isLt
  rcases Nat.mod_two_eq_zero_or_one (dig0 (c.x * iv c.z).val) with e | e
  · have ho : oddB (c.x * iv c.z).val = false := by unfold oddB; rw [e]; rfl
    rw [ho]
    exact rbytes_even (hid rfl) (rbytes_length _) (pbytes_len _ _) rfl e h1 h2 h3 h4 h5 h6
  · have ho : oddB (c.x * iv c.z).val = true := by unfold oddB; rw [e]; rfl
    rw [ho]
    exact rbytes_odd (hid rfl) (rbytes_length _) (pbytes_len _ _) hb rfl e h1 h2 h3 h4 h5 h6

end Go.Proofs.YtpaopdjbhmdfjaaDoor

/- The reference's base. -/
namespace Go.Proofs.YtpaopdjbhmdfjaaDoor
open Go Go.RowKit

section
variable {ops : Array Oper} {md : Region.Mode} {W : World} {a0 : Act} {n : Nat} {al : Nat → Bool} {S : Nat → Value → World → Prop} {Q : Exit → Act → World → Prop} {i : Nat} {o : Oper}
/-- A call that returns a point. -/
theorem step_rp (hal : al i = false) (hg : GuardOn ops md n S i o) {f : FuncId} {xs : Array Operand} {ts : Array TypeId} {c : C3 NT.PN} (ho : o.op = .call { callee := .value (.func f), args := xs, argTypes := ts }) (hcf : ∀ vs w, (callFunc f vs).run Tryd.prog w = .ok (.enter f vs) w)
    (hS : S i = IsP c) (hv : ∀ (a : Act) (w : World), Cl W w → Fr ops n a0 a → Dp ops md n S i a w → ∃ vs, xs.map a.eval = vs ∧ Calls Tryd.prog f vs w fun e w' => ∃ v, e = .returned v ∧ IsP c v w' ∧ Below w.heap.size w w') : StepOk Tryd.prog ops md W a0 n al S Q i o :=
  step_call hal hg fun a w hw hf hd => by
    obtain ⟨vs, h1, h2⟩ := hv a w hw hf hd
    refine ⟨f, vs, ex_fn rfl hcf ho vs h1 w, h2.mono fun _ w' ⟨v, he, hP, hb⟩ => ⟨v, he, ?_, hb⟩⟩
    rw [hS]; exact hP
end
/-- The decimal digits of the base's first part, as letters. -/
def BD : List Nat := [49, 53, 49, 49, 50, 50, 50, 49, 51, 52, 57, 53, 51, 53, 52, 48, 48, 55, 55, 50, 53, 48, 49, 49, 53, 49, 52, 48, 57, 53, 56, 56, 53, 51, 49, 53, 49, 49, 52, 53, 52, 48, 49, 50, 54, 57, 51, 48, 52, 49, 56, 53, 55, 50, 48, 54, 48, 52, 54, 49, 49, 51, 50, 56, 51, 57, 52, 57, 56, 52, 55, 55, 54, 50, 50, 48, 50]
def bvN (k : Nat) : Nat := (BD.take k).foldl (fun v d => 10 * v + (d - 48)) 0
theorem bvN_step {k : Nat} (h : k < 77) : bvN (k + 1) = 10 * bvN k + (BD.getD k 0 - 48) := by
  unfold bvN
  rw [List.take_add_one, List.foldl_append]
  have : BD[k]? = some (BD.getD k 0) := by rw [List.getD_eq_getElem?_getD, List.getElem?_eq_getElem h]; rfl
  rw [this]; rfl
theorem bd_at : ∀ k, k < 77 → 48 ≤ BD.getD k 0 ∧ BD.getD k 0 ≤ 57 := by
  have h : ∀ k : Fin 77, 48 ≤ BD.getD k.val 0 ∧ BD.getD k.val 0 ≤ 57 := by decide +kernel
  exact fun k hk => h ⟨k, hk⟩
theorem bvN_lt : ∀ k, k ≤ 77 → bvN k < 10 ^ k
  | 0, _ => by decide
  | k + 1, h => by
    have h1 := bvN_lt k (by omega)
    have h2 := bd_at k (by omega)
    rw [bvN_step (by omega), Nat.pow_succ]
    omega
theorem bvN_all : bvN 77 = bxN := by decide +kernel
theorem ten_lt : (10 : Nat) ^ 77 < 65536 ^ 16 := by decide +kernel
abbrev BB : ByteArray := { data := #[49, 53, 49, 49, 50, 50, 50, 49, 51, 52, 57, 53, 51, 53, 52, 48, 48, 55, 55, 50, 53, 48, 49, 49, 53, 49, 52, 48, 57, 53, 56, 56, 53, 51, 49, 53, 49, 49, 52, 53, 52, 48, 49, 50, 54, 57, 51, 48, 52, 49, 56, 53, 55, 50, 48, 54, 48, 52, 54, 49, 49, 51, 50, 56, 51, 57, 52, 57, 56, 52, 55, 55, 54, 50, 50, 48, 50] }
theorem bb_size : BB.size = 77 := rfl
theorem bb_at (k : Nat) (hk : k < 77) (w : World) : (Instr.index 9 (.string BB) (.int .i64 (k : Int))).run Tryd.prog w = .ok (.int .u8 ((BD.getD k 0 : Nat) : Int)) w := by
  rw [run_index_string (P := Tryd.prog) w 9 BB .i64 (k : Int) Tryd.underlying9, dif_pos ⟨by omega, by rw [bb_size]; omega⟩]
  congr 2
  have h : ∀ k : Fin 77, ((BB[k.val]'(by rw [bb_size]; exact k.isLt)).toNat : Int) = ((BD.getD k.val 0 : Nat) : Int) := by decide +kernel
  exact h ⟨k, hk⟩
theorem four_alg {n : Nat} [NeZero n] {y v : Fin n} (h : y * 5 = 4) (hv : 5 * v = 1) : 4 * v = y := by
  have h1 : y * (5 * v) = 4 * v := by rw [← h]; grind
  rw [hv] at h1
  clear h hv
  grind
theorem by_is : (4 : Fin NT.PN) * iv 5 = byF := four_alg (Fin.ext (by decide +kernel)) (iv_mul fun h => by
  have := congrArg Fin.val h
  exact absurd this (by decide))

section
variable {ops : Array Oper} {md : Region.Mode} {W : World} {a0 : Act} {n : Nat} {S : Nat → Value → World → Prop} {i : Nat}
theorem rp2 {f : FuncId} {x y : Operand} {m k : Nat} {c : C3 NT.PN} (hx : KnowsR ops md W a0 n S i x m) (hy : KnowsR ops md W a0 n S i y k) (hc : ∀ {A B : Option Addr} {cA cB : Nat} {a b : List Nat} {w : World}, Rp a m → Rp b k → Nums w .i64 A (nl a) → Nums w .i64 B (nl b) → Calls Tryd.prog f #[.slice A 16 cA, .slice B 16 cB] w fun e w' => ∃ v, e = .returned v ∧ IsP c v w' ∧ Below w.heap.size w w') :
    ∀ (a : Act) (w : World), Cl W w → Fr ops n a0 a → Dp ops md n S i a w → ∃ vs, #[x, y].map a.eval = vs ∧ Calls Tryd.prog f vs w fun e w' => ∃ v, e = .returned v ∧ IsP c v w' ∧ Below w.heap.size w w' := fun a w hw hf hd => by
  obtain ⟨A, c, ys, h1, h2, h3⟩ := hx a w hw hf hd
  obtain ⟨B, d, zs, k1, k2, k3⟩ := hy a w hw hf hd
  refine ⟨_, rfl, ?_⟩
  rw [map2, h1, k1]
  exact hc h2 k2 h3 k3
end

set_option maxRecDepth 4000 in
set_option maxHeartbeats 16000000 in
theorem rf_base (w : World) : Calls Tryd.prog 26 #[] w fun e w' => ∃ v, e = .returned v ∧ IsP ⟨bxF, byF, 1⟩ v w' ∧ Below w.heap.size w w' := by
  have HSB : Hid (∀ k : Nat, k < 77 → ∀ w, (Instr.index 9 (.string { data := #[49, 53, 49, 49, 50, 50, 50, 49, 51, 52, 57, 53, 51, 53, 52, 48, 48, 55, 55, 50, 53, 48, 49, 49, 53, 49, 52, 48, 57, 53, 56, 56, 53, 51, 49, 53, 49, 49, 52, 53, 52, 48, 49, 50, 54, 57, 51, 48, 52, 49, 56, 53, 55, 50, 48, 54, 48, 52, 54, 49, 49, 51, 50, 56, 51, 57, 52, 57, 56, 52, 55, 55, 54, 50, 50, 48, 50] }) (.int .i64 (k : Int))).run Tryd.prog w = .ok (.int .u8 ((BD.getD k 0 : Nat) : Int)) w) := hid bb_at
  have HSZ : ({ data := #[49, 53, 49, 49, 50, 50, 50, 49, 51, 52, 57, 53, 51, 53, 52, 48, 48, 55, 55, 50, 53, 48, 49, 49, 53, 49, 52, 48, 57, 53, 56, 56, 53, 51, 49, 53, 49, 49, 52, 53, 52, 48, 49, 50, 54, 57, 51, 48, 52, 49, 56, 53, 55, 50, 48, 54, 48, 52, 54, 49, 49, 51, 50, 56, 51, 57, 52, 57, 56, 52, 55, 55, 54, 50, 50, 48, 50] } : ByteArray).size = 77 := bb_size
  obtain ⟨z47, s47⟩ := zero_of_info inf47
  have h0 := RB.new w nil3 47 rfl nil3_sl
  have hW0 := below_new w (.cells nil3.toArray 47)
  have hsz0 : (w.alloc (.cells nil3.toArray 47)).heap.size = w.heap.size + 1 := by simp
  obtain ⟨z16, hz⟩ : ∃ z, z = List.replicate 16 0 := ⟨_, rfl⟩
  have hmk : ∀ w : World, (Instr.makeSlice 32 (.int .i64 16) (.int .i64 16)).run Tryd.prog w = .ok (.slice (some ⟨w.heap.size, 0, none⟩) 16 16) (w.alloc (.cells (ints .i64 (nl z16)).toArray 3)) := by rw [hz]; exact make28 16 (by omega)
  have HO : Hid (Owns ((w.alloc (.cells nil3.toArray 47)).alloc (.cells (ints .i64 (nl z16)).toArray 3)) (w.heap.size + 1) 3 .i64 (.slice (some ⟨w.heap.size + 1, 0, none⟩) 16 16) (nl (dgN (bvN 0) 16))) := by
    rw [hz, ← hsz0]; exact hid (Owns.new _ _ 3 .i64 (nl (List.replicate 16 0)) (Nat.le_refl _) (by simp [maxLen]))
  have h0b := h0.next (below_new _ (.cells (ints .i64 (nl z16)).toArray 3))
  have hW := hW0.alloc (by simp) (.cells (ints .i64 (nl z16)).toArray 3)
  clear hz h0 hW0
  have HPV := hid (fun k => @bvN_lt k)
  have HPS : Hid (∀ k, k < 77 → bvN (k + 1) = 10 * bvN k + (BD.getD k 0 - 48)) := hid fun k h => bvN_step h
  have HD : Hid (∀ k, k < 77 → 48 ≤ BD.getD k 0 ∧ BD.getD k 0 ≤ 57) := hid bd_at
  have HALL := hid bvN_all
  have HTEN := hid ten_lt
  have HX2 : Hid (Rp (dgN bxN 16) bxF.val) := by
    rw [bx_val]
    exact hid (dgN_rp 16 bxN (Nat.lt_trans bx_lt (by decide)))
  go_enter Tryd.func26, Tryd.ntmps26
  go_wp2
  have HP0 : Hid (bvN 0 < 10 ^ 0) := hid (HPV.out 0 (by omega))
  clear hmk
  generalize (w.alloc (.cells nil3.toArray 47)).alloc (.cells (ints .i64 (nl z16)).toArray 3) = W0 at *
  generalize ({ data := #[49, 53, 49, 49, 50, 50, 50, 49, 51, 52, 57, 53, 51, 53, 52, 48, 48, 55, 55, 50, 53, 48, 49, 49, 53, 49, 52, 48, 57, 53, 56, 56, 53, 51, 49, 53, 49, 49, 52, 53, 52, 48, 49, 50, 54, 57, 51, 48, 52, 49, 56, 53, 55, 50, 48, 54, 48, 52, 54, 49, 49, 51, 50, 56, 51, 57, 52, 57, 56, 52, 55, 55, 54, 50, 50, 48, 50] } : ByteArray) = sb at *
  go_loopw [3] (fun i wr => ∃ k : Nat, k ≤ 77 ∧ i = .int .i64 k ∧ Owns wr (w.heap.size + 1) 3 .i64 (.slice (some ⟨w.heap.size + 1, 0, none⟩) 16 16) (nl (dgN (bvN k) 16)) ∧ RB wr w.heap.size nil3 ∧ Below w.heap.size w wr) (fun i _ => 77 - (intOf i).toNat)
  case atStart => exact ⟨0, by omega, rfl, HO.out, h0b, hW⟩
  case round =>
    clear HO hW h0b
    obtain ⟨k, hk, rfl, hO, h0, hW⟩ := hrel
    rename World => W1
    by_cases hlt : k < 77
    · have hix := HSB.out k hlt
      have hd := HD.out k hlt
      have HPN := hid (HPS.out k hlt)
      have HPK := hid (HPV.out k hk)
      have HPK1 := hid (HPV.out (k + 1) (by omega))
      generalize BD.getD k 0 = x at *
      obtain ⟨hXL, hXD, hXV⟩ := dgN_rp 16 (bvN k) (Nat.lt_of_lt_of_le (Nat.lt_of_lt_of_le HPK.out (Nat.pow_le_pow_right (by omega) hk)) (Nat.le_of_lt HTEN.out))
      have HX := hid (And.intro hXL (And.intro hXD hXV))
      have HNX : Hid (∀ zs, zs.length = 16 ∧ Digs zs ∧ dv zs = bvN (k + 1) → zs = dgN (bvN (k + 1)) 16) := hid fun zs h => (show Rp zs (bvN (k + 1)) from h).eq
      have HLT : Hid (10 * bvN k + (x - 48) < 65536 ^ 16) := hid (by
        have h1 := HPK1.out
        rw [HPN.out] at h1
        exact Nat.lt_of_lt_of_le (Nat.lt_of_lt_of_le h1 (Nat.pow_le_pow_right (by omega) (by omega))) (Nat.le_of_lt HTEN.out))
      obtain ⟨p1, hp1⟩ : ∃ p1, bvN (k + 1) = p1 := ⟨_, rfl⟩
      rw [hp1] at HPN HPK1 HNX
      have HP1 := hid hp1
      clear hp1
      generalize dgN (bvN k) 16 = xs at *
      obtain ⟨c, hc⟩ : ∃ c, c = x - 48 := ⟨_, rfl⟩
      rw [← hc] at HPN HLT
      have HMI := hid (MulI.start (m := 10) (c := c) HX.out.2.1 (by omega))
      have hx64 : IntKind.i64.wrap (x : Int) = (x : Int) := IntWalk.i64_in _ (by omega)
      have hxc : IntKind.i64.wrap ((x : Int) - 48) = (c : Int) := by rw [IntWalk.i64_in _ (by omega)]; omega
      have k0 : (0 : Int) ≤ k := by omega
      have k38 : (k : Int) < 77 := by omega
      have HC := hid hc
      clear hXL hXD hXV hd hc
      go_wp2
      go_loopw [4, 5] (fun v j wr => ∃ (m cy : Nat) (zs : List Nat), m ≤ 16 ∧ j = .int .i64 m ∧ v = .int .i64 cy ∧ Hid (MulI 10 c xs zs cy m) ∧ Owns wr (w.heap.size + 1) 3 .i64 (.slice (some ⟨w.heap.size + 1, 0, none⟩) 16 16) (nl zs) ∧ RB wr w.heap.size nil3 ∧ Below w.heap.size w wr) (fun _ j _ => 16 - (intOf j).toNat)
      case atStart => exact ⟨0, c, xs, by omega, rfl, rfl, HMI, hO, h0, hW⟩
      case round =>
        clear hO hW HMI h0
        obtain ⟨m, cy, zs, hm, rfl, rfl, HI, hO, h0, hW⟩ := hrel
        rename World => W2
        by_cases hlt2 : m < 16
        · have hzl : (nl zs).length = 16 := by rw [nl_length, HI.out.1]; exact HX.out.1
          have hzm : zs[m]? = some (xs.getD m 0) := by rw [HI.out.2.2.2.2 m (Nat.le_refl _), List.getD_eq_getElem?_getD, List.getElem?_eq_getElem (by rw [HX.out.1]; exact hlt2)]; rfl
          obtain ⟨y, cy0, fy0, HY⟩ := hO.spot (j := m) (by rw [hzl]; exact hlt2)
          have hyx : y = ((xs.getD m 0 : Nat) : Int) := by
            have h := HY.out
            unfold nl at h
            rw [List.getElem?_map, hzm] at h
            exact (Option.some.inj h).symm
          subst hyx
          have hdx := getD_dig HX.out.2.1 m
          have hcy := HI.out.2.2.1
          obtain ⟨n, hn⟩ : ∃ n, n = 10 * xs.getD m 0 + cy := ⟨_, rfl⟩
          have HN := hid (HI.out.step HX.out.2.1 (by rw [HX.out.1]; exact hlt2) hn)
          generalize xs.getD m 0 = x0 at *
          have w1 : IntKind.i64.wrap (10 * (x0 : Int)) = 10 * (x0 : Int) := IntWalk.i64_in _ (by omega)
          have w2 : IntKind.i64.wrap (10 * (x0 : Int) + cy) = (n : Int) := by rw [IntWalk.i64_in _ (by omega)]; omega
          have hnm : (n : Int) % 65536 = ((n % 65536 : Nat) : Int) := by omega
          have hnd : (n : Int) / 65536 = ((n / 65536 : Nat) : Int) := by omega
          have hnt : Int.tmod (n : Int) 65536 = ((n % 65536 : Nat) : Int) := by rw [Int.tmod_eq_emod_of_nonneg (by omega)]; omega
          have hnq : Int.tdiv (n : Int) 65536 = ((n / 65536 : Nat) : Int) := by rw [Int.tdiv_eq_ediv_of_nonneg (by omega)]; omega
          have HNB : Hid (n / 65536 < 10) := hid (by omega)
          have hO9 := hO.store m ((n % 65536 : Nat) : Int)
          rw [nl_set] at hO9
          generalize n % 65536 = r at *
          generalize n / 65536 = q at *
          have hqw : IntKind.i64.wrap (q : Int) = (q : Int) := IntWalk.i64_in _ (by have := HNB.out; omega)
          have hrw : IntKind.i64.wrap (r : Int) = (r : Int) := IntWalk.i64_in _ (by omega)
          have hW9 := hW.setCell (p := ⟨w.heap.size + 1, m, none⟩) (by show w.heap.size ≤ w.heap.size + 1; omega) (.int .i64 (r : Int))
          have h09 := h0.cell (p := ⟨w.heap.size + 1, m, none⟩) (v := .int .i64 (r : Int)) (by show w.heap.size + 1 ≠ w.heap.size; omega)
          have m0 : (0 : Int) ≤ m := by omega
          have m16 : (m : Int) < 16 := by omega
          clear hn HY hdx hcy hzl hzm HI
          go_wp2
          go_roundw
          case rel => exact ⟨m + 1, q, zs.set m r, by omega, by go_num, rfl, HN, hO9, h09, hW9⟩
          case measure => simp [intOf]; omega
        · have e : m = 16 := by omega
          subst e
          have HE : Hid (zs = dgN p1 16) := hid (HNX.out zs (by
            have h := HI.out.end_ HX.out.1 (by rw [HX.out.2.2]; exact HLT.out)
            rw [HX.out.2.2, ← HPN.out] at h
            exact h))
          rw [HE.out] at hO
          clear HI
          go_wp2
          go_roundw
          case rel => exact ⟨k + 1, by omega, by go_num, (by rw [HP1.out]; exact hO), h0, hW⟩
          case measure => simp [intOf]; omega
    · have e : k = 77 := by omega
      rw [e, HALL.out] at hO
      have hk38 : ¬ (k : Int) < 77 := by omega
      have M2 := hO.nums
      clear e HPV HPS HD HSB HALL hlt hO HTEN HP0
      go_upto_region 13 with (fail)
      generalize hw0 : W1 = w0 at *
      clear hw0
      have s0 := hW.size
      refine region_seq2 6 43 (fun _ => false) [Is (.slice (some ⟨w.heap.size + 1, 0, none⟩) 16 16), IsN ((4 : Fin NT.PN)).val, IsN ((5 : Fin NT.PN)).val, IsN ((iv (5 : Fin NT.PN))).val, IsN (((4 : Fin NT.PN) * (iv (5 : Fin NT.PN)) : Fin NT.PN)).val, IsP ⟨bxF, byF, 1⟩] [37, 38, 39, 40, 41, 42] (by kernel_rfl) (by kernel_rfl) (Nat.le_of_eq rfl) (grows_cons (Is.grows _) (grows_cons (IsN.grows _) (grows_cons (IsN.grows _) (grows_cons (IsN.grows _) (grows_cons (IsN.grows _) (grows_cons (IsP.grows _) grows_nil))))))
        ⟨step_mv rfl (.inl rfl) rfl rfl (knows_out 2 (by kernel_rfl) rfl),
         step_rn rfl (.inl rfl) rfl cf17 rfl (fun a w hw hf hd => ⟨_, rfl, by rw [map1]; exact rf_small 4 (by decide) w⟩),
         step_rn rfl (.inl rfl) rfl cf17 rfl (fun a w hw hf hd => ⟨_, rfl, by rw [map1]; exact rf_small 5 (by decide) w⟩),
         step_rn rfl (.inl rfl) rfl cg19 rfl (rn1 (knowsN_in 2 39 (by decide) (by kernel_rfl) rfl rfl) (fun h1 h2 => rf_inv h1 h2)),
         step_rn rfl (.inl rfl) rfl cf23 rfl (rn2 (knowsN_in 1 38 (by decide) (by kernel_rfl) rfl rfl) (knowsN_in 3 40 (by decide) (by kernel_rfl) rfl rfl) (fun h1 h2 h3 h4 => rf_mul h1 h2 h3 h4)),
         step_rp rfl (.inl rfl) rfl cg56 rfl (rp2 ((knows_in 0 37 (by decide) (by kernel_rfl) rfl rfl).r HX2 M2) (knowsN_in 4 41 (by decide) (by kernel_rfl) rfl rfl) (fun h1 h2 h3 h4 => by rw [by_is] at h2; exact rf_of (hid h1) h3 (hid h2) h4)), trivial⟩ ?_
      intro val w1 hw hS hap hla
      have e37 : val 37 = (.slice (some ⟨w.heap.size + 1, 0, none⟩) 16 16) := hS 0 37 (by decide) rfl
      obtain ⟨A38, c38, y38, e38, H38, M38⟩ := hS 1 38 (by decide) rfl
      obtain ⟨A39, c39, y39, e39, H39, M39⟩ := hS 2 39 (by decide) rfl
      obtain ⟨A40, c40, y40, e40, H40, M40⟩ := hS 3 40 (by decide) rfl
      obtain ⟨A41, c41, y41, e41, H41, M41⟩ := hS 4 41 (by decide) rfl
      obtain ⟨A42, B42, C42, a42, b_42, d42, x42, y42, z42, e42, Hx42, Hy42, Hz42, Mx42, My42, Mz42⟩ := hS 5 42 (by decide) rfl
      simp only [putVals, List.foldl_cons, List.foldl_nil, List.drop_succ_cons, List.drop_zero, Act.put, List.setIfInBounds_toArray, List.set_cons_succ, List.set_cons_zero, e37, e38, e39, e40, e41, e42]
      clear hS hap hla e37 e38 e39 e40 e41 e42 
      replace h0 := h0.next hw
      replace M2 := M2.below hw
      replace hW := hW.trans (Below.mono hw hW.size)
      clear hw
      have R0 := h0.room (us := (pv3 A42 B42 C42 a42 b_42 d42)) rfl
      replace M2 := h0.row HX2 M2 (pv3 A42 B42 C42 a42 b_42 d42).toArray.toList
      replace M38 := h0.row H38 M38 (pv3 A42 B42 C42 a42 b_42 d42).toArray.toList
      replace M39 := h0.row H39 M39 (pv3 A42 B42 C42 a42 b_42 d42).toArray.toList
      replace M40 := h0.row H40 M40 (pv3 A42 B42 C42 a42 b_42 d42).toArray.toList
      replace M41 := h0.row H41 M41 (pv3 A42 B42 C42 a42 b_42 d42).toArray.toList
      replace Mx42 := h0.row Hx42 Mx42 (pv3 A42 B42 C42 a42 b_42 d42).toArray.toList
      replace My42 := h0.row Hy42 My42 (pv3 A42 B42 C42 a42 b_42 d42).toArray.toList
      replace Mz42 := h0.row Hz42 Mz42 (pv3 A42 B42 C42 a42 b_42 d42).toArray.toList
      replace h0 := h0.stored (us := (pv3 A42 B42 C42 a42 b_42 d42)) rfl (pv3_sl _ _ _ _ _ _)
      replace hW := Below.setCells hW (g := w.heap.size) (by omega) 0 (pv3 A42 B42 C42 a42 b_42 d42).toArray.toList
      with_reducible refine wpList_store_mid (op := ⟨none, .store 47 (.tmp 0) (.tmp 42), _, _, _, _⟩) rfl 47 (.tmp 0) (.tmp 42) rfl w.heap.size 0 (pv3 A42 B42 C42 a42 b_42 d42).toArray rfl rfl R0 (a47 rfl) (sl_one (pv3_sl _ _ _ _ _ _)) ?_
      generalize (w1.setCells w.heap.size 0 (pv3 A42 B42 C42 a42 b_42 d42).toArray.toList) = w2 at *
      clear R0
      go_wp2_with (fail)
      exact ret_rows rfl w.heap.size 0 rfl (pv3 A42 B42 C42 a42 b_42 d42) _ h0.range Tryd.underlying47 rfl (l47 rfl) rfl ⟨_, rfl, ⟨_, _, _, _, _, _, x42, y42, z42, rfl, Hx42, Hy42, Hz42, Mx42, My42, Mz42⟩, hW⟩
end Go.Proofs.YtpaopdjbhmdfjaaDoor

/- The reference's multiples. -/
namespace Go.Proofs.YtpaopdjbhmdfjaaDoor
open Go Go.RowKit

theorem RB.isp {w : World} {b : Nat} {vs : List Value} (h : RB w b vs) {c : C3 NT.PN} {v : Value} (hI : IsP c v w) (us : List Value) : IsP c v (w.setCells b 0 us) := by
  obtain ⟨A, B, C, a, b', d, x, y, z, h0, h1, h2, h3, h4, h5, h6⟩ := hI
  exact ⟨A, B, C, a, b', d, x, y, z, h0, h1, h2, h3, h.row h1 h4 us, h.row h2 h5 us, h.row h3 h6 us⟩
/-- A box with a point. -/
def PBox (w : World) (b : Nat) (c : C3 NT.PN) : Prop := ∃ A B C a b' d, RB w b (pv3 A B C a b' d) ∧ IsP c (.agg (pv3 A B C a b' d).toArray) w
theorem PBox.next {w w' : World} {b : Nat} {c : C3 NT.PN} (h : PBox w b c) (hb : Below w.heap.size w w') : PBox w' b c := by
  obtain ⟨A, B, C, a, b', d, h1, h2⟩ := h
  exact ⟨A, B, C, a, b', d, h1.next hb, h2.next hb⟩
theorem IsP.box {w : World} {c : C3 NT.PN} {v : Value} (h : IsP c v w) : ∃ A B C a b' d, v = .agg (pv3 A B C a b' d).toArray ∧ IsP c (.agg (pv3 A B C a b' d).toArray) w := by
  obtain ⟨A, B, C, a, b', d, x, y, z, h0, h1⟩ := h
  exact ⟨A, B, C, a, b', d, h0, A, B, C, a, b', d, x, y, z, rfl, h1⟩
section
variable {ops : Array Oper} {md : Region.Mode} {W : World} {a0 : Act} {n : Nat} {S : Nat → Value → World → Prop} {i : Nat}
theorem rp3 {f : FuncId} {x y z : Operand} {m : Nat} {c c' c2 : C3 NT.PN} (hx : KnowsP ops md W a0 n S i x c) (hy : KnowsP ops md W a0 n S i y c') (hz : KnowsR ops md W a0 n S i z m)
    (hc : ∀ {v v' : Value} {A : Option Addr} {cd : Nat} {a : List Nat} {w : World}, IsP c v w → IsP c' v' w → Rp a m → Nums w .i64 A (nl a) → Calls Tryd.prog f #[v, v', .slice A 16 cd] w fun e w' => ∃ v, e = .returned v ∧ IsP c2 v w' ∧ Below w.heap.size w w') :
    ∀ (a : Act) (w : World), Cl W w → Fr ops n a0 a → Dp ops md n S i a w → ∃ vs, #[x, y, z].map a.eval = vs ∧ Calls Tryd.prog f vs w fun e w' => ∃ v, e = .returned v ∧ IsP c2 v w' ∧ Below w.heap.size w w' := fun a w hw hf hd => by
  obtain ⟨A, cd, ys, h1, h2, h3⟩ := hz a w hw hf hd
  refine ⟨_, rfl, ?_⟩
  have e : #[x, y, z].map a.eval = #[a.eval x, a.eval y, a.eval z] := by simp
  rw [e, h1]
  exact hc (hx a w hw hf hd) (hy a w hw hf hd) h2 h3
end
section
variable {P : Edw.Pt NT.PN}
theorem out_one (hP : Edw.On eF P) {N t : Nat} (h : N / 2 ^ t % 2 = 1) : Edw.add eF (Edw.mul eF (N % 2 ^ t) P) (Edw.mul eF (2 ^ t) P) = Edw.mul eF (N % 2 ^ (t + 1)) P := by
  rw [← Edw.mul_add pn_fld ns_e hP, Nat.mod_pow_succ, h, Nat.mul_one]
theorem out_zero {N t : Nat} (h : N / 2 ^ t % 2 = 0) : N % 2 ^ (t + 1) = N % 2 ^ t := by
  rw [Nat.mod_pow_succ, h, Nat.mul_zero, Nat.add_zero]
theorem two_more (hP : Edw.On eF P) {t : Nat} : Edw.add eF (Edw.mul eF (2 ^ t) P) (Edw.mul eF (2 ^ t) P) = Edw.mul eF (2 ^ (t + 1)) P := by
  rw [dbl_mul pn_fld ns_e hP, Nat.pow_succ, Nat.mul_comm]
theorem rep_sum {c c' : C3 NT.PN} (hP : Edw.On eF P) {j k : Nat} (h : Rep3 iF c (Edw.mul eF j P)) (h' : Rep3 iF c' (Edw.mul eF k P)) : Rep3 iF (add3 dF c c') (Edw.add eF (Edw.mul eF j P) (Edw.mul eF k P)) :=
  rep3_add pn_fld ns_e i_sq de (Edw.mul_on pn_fld ns_e hP j) (Edw.mul_on pn_fld ns_e hP k) h h'
end
theorem bv_high : ∀ (l : List Int) (n : Nat), Byt l → (∀ j, n ≤ j → j < l.length → l.getD j 0 = 0) → bv l < 256 ^ n
  | [], n, _, _ => Int.pow_pos (by omega)
  | a :: l, 0, hb, h => by
    have ih := bv_high l 0 (fun x hx => hb x (List.mem_cons_of_mem _ hx)) (fun j _ hj => by
      have := h (j + 1) (by omega) (by simp; omega)
      simpa using this)
    have h0 := (bv_bd l (fun x hx => hb x (List.mem_cons_of_mem _ hx))).1
    have ha : a = 0 := by
      have := h 0 (by omega) (by simp)
      simpa using this
    rw [Int.pow_zero] at ih ⊢
    show a + 256 * bv l < 1
    omega
  | a :: l, n + 1, hb, h => by
    have ih := bv_high l n (fun x hx => hb x (List.mem_cons_of_mem _ hx)) (fun j hn hj => by
      have := h (j + 1) (by omega) (by simp; omega)
      simpa using this)
    have ha := hb a (List.mem_cons_self ..)
    rw [Int.pow_succ]
    show a + 256 * bv l < 256 ^ n * 256
    omega
theorem all_low {nb : List Int} {l : Nat} (hb : Byt nb) (h : ∀ j, l ≤ j → j < nb.length → nb.getD j 0 = 0) : (bv nb).toNat % 2 ^ (8 * l) = (bv nb).toNat := by
  have h1 := bv_high nb l hb h
  have h2 := (bv_bd nb hb).1
  have e : ((256 : Int) ^ l) = ((2 ^ (8 * l) : Nat) : Int) := by
    rw [Nat.pow_mul, Int.natCast_pow]; rfl
  rw [e] at h1
  exact Nat.mod_eq_of_lt (by generalize 2 ^ (8 * l) = M at *; omega)

set_option maxRecDepth 4000 in
set_option maxHeartbeats 16000000 in
theorem rmul_coreP {c : C3 NT.PN} {P : Edw.Pt NT.PN} {nb : List Int} {W : World} (ln : nb.length = 32) (HB : Hid (Byt nb)) (HR : Hid (Rep3 iF c P)) (HP : Hid (Edw.On eF P)) {Ap Bp Cp : Option Addr} {ap b_p dp : Nat} (Ip : IsP c (.agg (pv3 Ap Bp Cp ap b_p dp).toArray) W) :
    Calls Tryd.prog 30 #[.agg (pv3 Ap Bp Cp ap b_p dp).toArray, .agg (ints .u8 nb).toArray] W fun e w' => ∃ u c', e = .returned u ∧ IsP c' u w' ∧ Rep3 iF c' (Edw.mul eF (bv nb).toNat P) ∧ Below W.heap.size W w' := by
  obtain ⟨z47, s47⟩ := zero_of_info inf47
  have h2 := ((RB.new W (pv3 Ap Bp Cp ap b_p dp) 47 rfl (pv3_sl _ _ _ _ _ _)).next (below_new _ (.cells (ints .u8 nb).toArray 22))).next (below_new _ (.cells nil3.toArray 47))
  have h3 := (By.new (W.alloc (.cells (pv3 Ap Bp Cp ap b_p dp).toArray 47)) nb ln).next (below_new _ (.cells nil3.toArray 47))
  have h4 := RB.new ((W.alloc (.cells (pv3 Ap Bp Cp ap b_p dp).toArray 47)).alloc (.cells (ints .u8 nb).toArray 22)) nil3 47 rfl nil3_sl
  have hW := ((below_new W (.cells (pv3 Ap Bp Cp ap b_p dp).toArray 47)).alloc (by simp) (.cells (ints .u8 nb).toArray 22)).alloc (by simp; omega) (.cells nil3.toArray 47)
  simp only [World.size_alloc] at h3 h4
  replace Ip := Ip.next hW
  go_enter Tryd.func30, Tryd.ntmps30
  go_upto_region 1 with (fail)
  generalize ((W.alloc (.cells (pv3 Ap Bp Cp ap b_p dp).toArray 47)).alloc (.cells (ints .u8 nb).toArray 22)).alloc (.cells nil3.toArray 47) = w0 at *
  have s0 := hW.size
  refine region_seq2 2 53 (fun _ => false) [IsN (dF).val, IsN (dF).val] [12, 5] (by kernel_rfl) (by kernel_rfl) (Nat.le_of_eq rfl) (grows_cons (IsN.grows _) (grows_cons (IsN.grows _) grows_nil))
    ⟨step_rn rfl (.inl rfl) rfl cg21 rfl (fun a w hw hf hd => ⟨#[], by simp, rf_d w⟩),
     step_copyN rfl (.inl rfl) 0 12 (.inr rfl) rfl (by decide) (by kernel_rfl) rfl rfl, trivial⟩ ?_
  intro val w1 hw hS hap hla
  obtain ⟨A12, c12, y12, e12, H12, M12⟩ := hS 0 12 (by decide) rfl
  obtain ⟨A5, c5, y5, e5, H5, M5⟩ := hS 1 5 (by decide) rfl
  simp only [putVals, List.foldl_cons, List.foldl_nil, List.drop_succ_cons, List.drop_zero, Act.put, List.setIfInBounds_toArray, List.set_cons_succ, List.set_cons_zero, e12, e5]
  clear hS hap hla e12 e5 H12 M12
  replace h2 := h2.next hw
  replace h3 := h3.next hw
  replace h4 := h4.next hw
  replace Ip := Ip.next hw
  replace hW := hW.trans (Below.mono hw hW.size)
  clear hw
  go_upto_region 2 with (fail)
  have s1 := hW.size
  refine region_seq2 3 53 (fun _ => false) [IsN ((0 : Fin NT.PN)).val, IsN ((1 : Fin NT.PN)).val, IsP ⟨0, 1, 1⟩] [13, 14, 15] (by kernel_rfl) (by kernel_rfl) (Nat.le_of_eq rfl) (grows_cons (IsN.grows _) (grows_cons (IsN.grows _) (grows_cons (IsP.grows _) grows_nil)))
    ⟨step_rn rfl (.inl rfl) rfl cf17 rfl (fun a w hw hf hd => ⟨_, rfl, by rw [map1]; exact rf_small 0 (by decide) w⟩),
     step_rn rfl (.inl rfl) rfl cf17 rfl (fun a w hw hf hd => ⟨_, rfl, by rw [map1]; exact rf_small 1 (by decide) w⟩),
     step_rp rfl (.inl rfl) rfl cg56 rfl (rp2 (knowsN_in 0 13 (by decide) (by kernel_rfl) rfl rfl) (knowsN_in 1 14 (by decide) (by kernel_rfl) rfl rfl) (fun h1 h2 h3 h4 => rf_of (hid h1) h3 (hid h2) h4)), trivial⟩ ?_
  intro val w2 hw hS hap hla
  obtain ⟨A13, c13, y13, e13, H13, M13⟩ := hS 0 13 (by decide) rfl
  obtain ⟨A14, c14, y14, e14, H14, M14⟩ := hS 1 14 (by decide) rfl
  obtain ⟨A15, B15, C15, a15, b_15, d15, x15, y15, z15, e15, Hx15, Hy15, Hz15, Mx15, My15, Mz15⟩ := hS 2 15 (by decide) rfl
  simp only [putVals, List.foldl_cons, List.foldl_nil, List.drop_succ_cons, List.drop_zero, Act.put, List.setIfInBounds_toArray, List.set_cons_succ, List.set_cons_zero, e13, e14, e15]
  clear hS hap hla e13 e14 e15 
  replace h2 := h2.next hw
  replace h3 := h3.next hw
  replace h4 := h4.next hw
  replace Ip := Ip.next hw
  replace M5 := M5.below hw
  replace hW := hW.trans (Below.mono hw hW.size)
  clear hw
  have hn := RB.new w2 nil3 47 rfl nil3_sl
  have Rn := hn.room (us := (pv3 A15 B15 C15 a15 b_15 d15)) rfl
  have bn_ := below_new w2 (.cells nil3.toArray 47)
  have lt2 := h2.lt
  have lt3 := h3.lt
  have lt4 := h4.lt
  have I15 : IsP ⟨0, 1, 1⟩ (.agg (pv3 A15 B15 C15 a15 b_15 d15).toArray) w2 := ⟨_, _, _, _, _, _, x15, y15, z15, rfl, Hx15, Hy15, Hz15, Mx15, My15, Mz15⟩
  replace I15 := hn.isp (I15.next bn_) (pv3 A15 B15 C15 a15 b_15 d15).toArray.toList
  replace Ip := hn.isp (Ip.next bn_) (pv3 A15 B15 C15 a15 b_15 d15).toArray.toList
  replace M5 := hn.row H5 (M5.below bn_) (pv3 A15 B15 C15 a15 b_15 d15).toArray.toList
  replace h2 := (h2.next bn_).pastAt (b' := w2.heap.size) 0 (pv3 A15 B15 C15 a15 b_15 d15).toArray.toList (by omega)
  replace h3 := (h3.next bn_).past (b' := w2.heap.size) (pv3 A15 B15 C15 a15 b_15 d15).toArray.toList (by omega)
  replace h4 := (h4.next bn_).pastAt (b' := w2.heap.size) 0 (pv3 A15 B15 C15 a15 b_15 d15).toArray.toList (by omega)
  have h6 := hn.stored (us := (pv3 A15 B15 C15 a15 b_15 d15)) rfl (pv3_sl _ _ _ _ _ _)
  replace hW := Below.setCells (hW.trans (Below.mono bn_ hW.size)) (g := w2.heap.size) hW.size 0 (pv3 A15 B15 C15 a15 b_15 d15).toArray.toList
  have w6_ : W.heap.size + 1 + 1 < w2.heap.size := lt4
  clear Mx15 My15 Mz15 bn_ hn M13 M14 lt2 lt3 lt4
  go_wp2_with (first
    | (with_reducible refine wpList_store_mid (op := ⟨none, .store 47 (.tmp 6) (.tmp 15), _, _, _, _⟩) rfl 47 (.tmp 6) (.tmp 15) rfl w2.heap.size 0 (pv3 A15 B15 C15 a15 b_15 d15).toArray rfl rfl Rn (a47 rfl) (sl_one (pv3_sl _ _ _ _ _ _)) ?_; generalize (w2.alloc (.cells nil3.toArray 47)).setCells w2.heap.size 0 (pv3 A15 B15 C15 a15 b_15 d15).toArray.toList = w30 at *))
  clear Rn
  generalize w2.heap.size = b6 at *
  have hp : PBox w30 W.heap.size c := ⟨_, _, _, _, _, _, h2, Ip⟩
  have ho : PBox w30 b6 ⟨0, 1, 1⟩ := ⟨_, _, _, _, _, _, h6, I15⟩
  have HLN := hid ln
  clear h2 Ip h6 I15 Hx15 Hy15 Hz15 H13 H14
  go_loopw [7, 8] (fun v i wr => ∃ (k l : Nat), k ≤ 32 ∧ l ≤ k ∧ i = .int .i64 k ∧ v = .int .i64 l ∧ Hid (∀ j, l ≤ j → j < k → nb.getD j 0 = 0) ∧ PBox wr W.heap.size c ∧ PBox wr b6 ⟨0, 1, 1⟩ ∧ By wr (W.heap.size + 1) nb ∧ RB wr (W.heap.size + 1 + 1) nil3 ∧ Nums wr .i64 A5 (nl y5) ∧ Below W.heap.size W wr) (fun _ i _ => 32 - (intOf i).toNat)
  case atStart => exact ⟨0, 0, by omega, by omega, rfl, rfl, hid (fun j h1 h2 => by omega), hp, ho, h3, h4, M5, hW⟩
  case round =>
    clear hp ho h3 h4 M5 hW
    obtain ⟨k, l, hk, hlk, rfl, rfl, HZ, hp, ho, h3, h4, M5, hW⟩ := hrel
    rename World => w31
    by_cases hlt : k < 32
    · have k0 : (0 : Int) ≤ k := by omega
      have k32 : (k : Int) < 32 := by omega
      obtain ⟨x, cx, _, HX⟩ := h3.1.spot (i := k) (by rw [HLN.out]; omega)
      rw [Nat.zero_add] at cx
      have hxb := HB.out.at_ HX.out
      have HXD : Hid (nb.getD k 0 = x) := hid (by simp [List.getD, HX.out])
      have hkw : IntKind.i64.wrap ((k : Int) + 1) = ((k + 1 : Nat) : Int) := by rw [IntWalk.i64_in _ (by omega)]; omega
      clear HX
      by_cases hx0 : 0 < x
      · clear hxb
        go_wp2
        go_roundw
        case rel => exact ⟨k + 1, k + 1, by omega, by omega, by go_num, by go_num, hid (fun j h1 h2 => by omega), hp, ho, h3, h4, M5, hW⟩
        case measure => simp [intOf]; omega
      · have hx1 : x = 0 := by omega
        subst hx1
        clear hxb hx0
        go_wp2
        go_roundw
        case rel =>
          refine ⟨k + 1, l, by omega, by omega, by go_num, rfl, hid (fun j h1 h2 => ?_), hp, ho, h3, h4, M5, hW⟩
          by_cases hj : j = k
          · rw [hj]; exact HXD.out
          · exact HZ.out j h1 (by omega)
        case measure => simp [intOf]; omega
    · have e : k = 32 := by omega
      rw [e] at HZ
      have hk32 : ¬ (k : Int) < 32 := by omega
      have HFIN : Hid ((bv nb).toNat % 2 ^ (8 * l) = (bv nb).toNat) := hid (all_low HB.out (fun j h1 h2 => HZ.out j h1 (by rw [HLN.out] at h2; exact h2)))
      have hl32 : l ≤ 32 := by omega
      have HRO : Hid (Rep3 iF ⟨0, 1, 1⟩ (Edw.mul eF ((bv nb).toNat % 2 ^ (8 * 0)) P)) := hid (by
        rw [Nat.mul_zero, Nat.pow_zero, Nat.mod_one]
        exact rep3_nought pn_fld i_sq)
      have HRP : Hid (Rep3 iF c (Edw.mul eF (2 ^ (8 * 0)) P)) := hid (by
        rw [Nat.mul_zero, Nat.pow_zero, Edw.mul_one pn_fld ns_e HP.out]
        exact HR.out)
      clear e HZ hlk hk hlt
      go_wp2
      go_loopw [9] (fun i wr => ∃ (k : Nat) (cp co : C3 NT.PN), k ≤ l ∧ i = .int .i64 k ∧ Hid (Rep3 iF co (Edw.mul eF ((bv nb).toNat % 2 ^ (8 * k)) P)) ∧ Hid (Rep3 iF cp (Edw.mul eF (2 ^ (8 * k)) P)) ∧ PBox wr W.heap.size cp ∧ PBox wr b6 co ∧ By wr (W.heap.size + 1) nb ∧ RB wr (W.heap.size + 1 + 1) nil3 ∧ Nums wr .i64 A5 (nl y5) ∧ Below W.heap.size W wr) (fun i _ => l - (intOf i).toNat)
      case atStart => exact ⟨0, c, ⟨0, 1, 1⟩, by omega, rfl, HRO, HRP, hp, ho, h3, h4, M5, hW⟩
      case round =>
        clear hp ho h3 h4 M5 hW HRO HRP hk32
        obtain ⟨i, cp, co, hi, rfl, HRO, HRP, hp, ho, h3, h4, M5, hW⟩ := hrel
        rename World => w32
        by_cases hlt : i < l
        · obtain ⟨x', cx, _, HX'⟩ := h3.1.spot (i := i) (by rw [HLN.out]; omega)
          rw [Nat.zero_add] at cx
          have hx' := HB.out.at_ HX'.out
          obtain ⟨x, rfl⟩ := Int.eq_ofNat_of_zero_le hx'.1
          have hx : x < 256 := by omega
          have HBT : Hid (∀ k, k < 8 → (bv nb).toNat / 2 ^ (8 * i + k) % 2 = x / 2 ^ k % 2) := hid fun k hk => byte_bit HB.out i k x hk HX'.out
          have i0 : (0 : Int) ≤ i := by omega
          have i1 : (i : Int) < l := by omega
          have i32 : (i : Int) < 32 := by omega
          have hxw : IntKind.i64.wrap (x : Int) = x := IntWalk.i64_in _ (by omega)
          have hiw : IntKind.i64.wrap ((i : Int) + 1) = ((i + 1 : Nat) : Int) := by rw [IntWalk.i64_in _ (by omega)]; omega
          clear hx' HX'
          go_wp2
          go_loopw [10, 11] (fun cv j wr => ∃ (k cc : Nat) (cp co : C3 NT.PN), k ≤ 8 ∧ j = .int .i64 k ∧ cv = .int .i64 cc ∧ cc < 256 ∧ Hid (cc = x / 2 ^ k) ∧ Hid (Rep3 iF co (Edw.mul eF ((bv nb).toNat % 2 ^ (8 * i + k)) P)) ∧ Hid (Rep3 iF cp (Edw.mul eF (2 ^ (8 * i + k)) P)) ∧ PBox wr W.heap.size cp ∧ PBox wr b6 co ∧ By wr (W.heap.size + 1) nb ∧ RB wr (W.heap.size + 1 + 1) nil3 ∧ Nums wr .i64 A5 (nl y5) ∧ Below W.heap.size W wr) (fun _ j _ => 8 - (intOf j).toNat)
          case atStart => exact ⟨0, x, cp, co, by omega, rfl, rfl, hx, hid (by simp), HRO, HRP, hp, ho, h3, h4, M5, hW⟩
          case round =>
            clear hp ho h3 h4 M5 hW HRO HRP cx hlt
            obtain ⟨k, cc, cp, co, hk, rfl, rfl, hcc, HC, HRO, HRP, hp, ho, h3, h4, M5, hW⟩ := hrel
            rename World => w40
            by_cases hlt : k < 8
            · have HBK : Hid ((bv nb).toNat / 2 ^ (8 * i + k) % 2 = cc % 2) := hid (by rw [HBT.out k hlt, HC.out])
              have HC2 : Hid (cc / 2 = x / 2 ^ (k + 1)) := hid (by rw [HC.out, Nat.pow_succ, Nat.div_div_eq_div_mul])
              have HCV : Hid (Value.int .i64 ((cc : Int) / 2) = Value.int .i64 ((cc / 2 : Nat) : Int)) := hid (by congr 1)
              have k0 : (0 : Int) ≤ k := by omega
              have k8 : (k : Int) < 8 := by omega
              have hkw : IntKind.i64.wrap ((k : Int) + 1) = ((k + 1 : Nat) : Int) := by rw [IntWalk.i64_in _ (by omega)]; omega
              obtain ⟨Ap, Bp, Cp, ap, b_p, dp, h2, Ip⟩ := hp
              obtain ⟨Ao, Bo, Co, ao, b_o, do_, h6, Io⟩ := ho
              have HR2 := hid (rep_sum HP.out HRP.out HRP.out)
              rw [two_more HP.out] at HR2
              by_cases hbit : cc % 2 = 1
              · have hbe : ((cc : Int) % 2 == 1) = true := by simp; omega
                have HRO2 := hid (rep_sum HP.out HRO.out HRP.out)
                rw [out_one HP.out (HBK.out.trans hbit)] at HRO2
                go_upto_region 17 with (fail)
                have s40 := hW.size
                refine region_seq2 4 53 (fun _ => false) [Is (.agg (pv3 Ao Bo Co ao b_o do_).toArray), Is (.agg (pv3 Ap Bp Cp ap b_p dp).toArray), Is (.slice A5 16 c5), IsP (add3 dF co cp)] [42, 43, 44, 45] (by kernel_rfl) (by kernel_rfl) (Nat.le_of_eq rfl) (grows_cons (Is.grows _) (grows_cons (Is.grows _) (grows_cons (Is.grows _) (grows_cons (IsP.grows _) grows_nil))))
                  ⟨step_rb rfl (.inl rfl) h6 6 rfl (by kernel_rfl) rfl rfl,
                   step_rb rfl (.inl rfl) h2 2 rfl (by kernel_rfl) rfl rfl,
                   step_mv rfl (.inl rfl) rfl rfl (knows_out 5 (by kernel_rfl) rfl),
                   step_rp rfl (.inl rfl) rfl cg31 rfl (rp3 ((knows_in 0 42 (by decide) (by kernel_rfl) rfl rfl).p Io) ((knows_in 1 43 (by decide) (by kernel_rfl) rfl rfl).p Ip) ((knows_in 2 44 (by decide) (by kernel_rfl) rfl rfl).r H5 M5) (fun h1 h2 h3 h4 => rp_add h1 h2 h3 h4)), trivial⟩ ?_
                intro val w41 hw hS hap hla
                have e42 : val 42 = (.agg (pv3 Ao Bo Co ao b_o do_).toArray) := hS 0 42 (by decide) rfl
                have e43 : val 43 = (.agg (pv3 Ap Bp Cp ap b_p dp).toArray) := hS 1 43 (by decide) rfl
                have e44 : val 44 = (.slice A5 16 c5) := hS 2 44 (by decide) rfl
                obtain ⟨A45, B45, C45, a45, b_45, d45, x45, y45, z45, e45, Hx45, Hy45, Hz45, Mx45, My45, Mz45⟩ := hS 3 45 (by decide) rfl
                simp only [putVals, List.foldl_cons, List.foldl_nil, List.drop_succ_cons, List.drop_zero, Act.put, List.setIfInBounds_toArray, List.set_cons_succ, List.set_cons_zero, e42, e43, e44, e45]
                clear hS hap hla e42 e43 e44 e45 
                replace h2 := h2.next hw
                replace h3 := h3.next hw
                replace h4 := h4.next hw
                replace h6 := h6.next hw
                replace Ip := Ip.next hw
                replace Io := Io.next hw
                replace M5 := M5.below hw
                replace hW := hW.trans (Below.mono hw hW.size)
                clear hw
                have Io2 : IsP (add3 dF co cp) (.agg (pv3 A45 B45 C45 a45 b_45 d45).toArray) w41 := ⟨_, _, _, _, _, _, x45, y45, z45, rfl, Hx45, Hy45, Hz45, Mx45, My45, Mz45⟩
                have R6 := h6.room (us := (pv3 A45 B45 C45 a45 b_45 d45)) rfl
                replace Io2 := h6.isp Io2 (pv3 A45 B45 C45 a45 b_45 d45).toArray.toList
                replace Ip := h6.isp Ip (pv3 A45 B45 C45 a45 b_45 d45).toArray.toList
                replace M5 := h6.row H5 M5 (pv3 A45 B45 C45 a45 b_45 d45).toArray.toList
                replace h2 := h2.pastAt 0 (b' := b6) (pv3 A45 B45 C45 a45 b_45 d45).toArray.toList (by omega)
                replace h3 := h3.past (b' := b6) (pv3 A45 B45 C45 a45 b_45 d45).toArray.toList (by omega)
                replace h4 := h4.pastAt 0 (b' := b6) (pv3 A45 B45 C45 a45 b_45 d45).toArray.toList (by omega)
                replace h6 := h6.stored (us := (pv3 A45 B45 C45 a45 b_45 d45)) rfl (pv3_sl _ _ _ _ _ _)
                replace hW := Below.setCells hW (g := b6) (by omega) 0 (pv3 A45 B45 C45 a45 b_45 d45).toArray.toList
                clear Mx45 My45 Mz45 Hx45 Hy45 Hz45
                with_reducible refine wpList_store_mid (op := ⟨none, .store 47 (.tmp 6) (.tmp 45), _, _, _, _⟩) rfl 47 (.tmp 6) (.tmp 45) rfl b6 0 (pv3 A45 B45 C45 a45 b_45 d45).toArray rfl rfl R6 (a47 rfl) (sl_one (pv3_sl _ _ _ _ _ _)) ?_
                generalize (w41.setCells b6 0 (pv3 A45 B45 C45 a45 b_45 d45).toArray.toList) = w42 at *
                clear R6
                clear Io
                go_upto_region 18 with (fail)
                have s42 := hW.size
                refine region_seq2 4 53 (fun _ => false) [Is (.agg (pv3 Ap Bp Cp ap b_p dp).toArray), Is (.agg (pv3 Ap Bp Cp ap b_p dp).toArray), Is (.slice A5 16 c5), IsP (add3 dF cp cp)] [46, 47, 48, 49] (by kernel_rfl) (by kernel_rfl) (Nat.le_of_eq rfl) (grows_cons (Is.grows _) (grows_cons (Is.grows _) (grows_cons (Is.grows _) (grows_cons (IsP.grows _) grows_nil))))
                  ⟨step_rb rfl (.inl rfl) h2 2 rfl (by kernel_rfl) rfl rfl,
                   step_rb rfl (.inl rfl) h2 2 rfl (by kernel_rfl) rfl rfl,
                   step_mv rfl (.inl rfl) rfl rfl (knows_out 5 (by kernel_rfl) rfl),
                   step_rp rfl (.inl rfl) rfl cg31 rfl (rp3 ((knows_in 0 46 (by decide) (by kernel_rfl) rfl rfl).p Ip) ((knows_in 1 47 (by decide) (by kernel_rfl) rfl rfl).p Ip) ((knows_in 2 48 (by decide) (by kernel_rfl) rfl rfl).r H5 M5) (fun h1 h2 h3 h4 => rp_add h1 h2 h3 h4)), trivial⟩ ?_
                intro val w43 hw hS hap hla
                have e46 : val 46 = (.agg (pv3 Ap Bp Cp ap b_p dp).toArray) := hS 0 46 (by decide) rfl
                have e47 : val 47 = (.agg (pv3 Ap Bp Cp ap b_p dp).toArray) := hS 1 47 (by decide) rfl
                have e48 : val 48 = (.slice A5 16 c5) := hS 2 48 (by decide) rfl
                obtain ⟨A49, B49, C49, a49, b_49, d49, x49, y49, z49, e49, Hx49, Hy49, Hz49, Mx49, My49, Mz49⟩ := hS 3 49 (by decide) rfl
                simp only [putVals, List.foldl_cons, List.foldl_nil, List.drop_succ_cons, List.drop_zero, Act.put, List.setIfInBounds_toArray, List.set_cons_succ, List.set_cons_zero, e46, e47, e48, e49]
                clear hS hap hla e46 e47 e48 e49 
                replace h2 := h2.next hw
                replace h3 := h3.next hw
                replace h4 := h4.next hw
                replace h6 := h6.next hw
                replace Ip := Ip.next hw
                replace M5 := M5.below hw
                replace Io2 := Io2.next hw
                replace hW := hW.trans (Below.mono hw hW.size)
                clear hw
                have Ip2 : IsP (add3 dF cp cp) (.agg (pv3 A49 B49 C49 a49 b_49 d49).toArray) w43 := ⟨_, _, _, _, _, _, x49, y49, z49, rfl, Hx49, Hy49, Hz49, Mx49, My49, Mz49⟩
                have R2 := h2.room (us := (pv3 A49 B49 C49 a49 b_49 d49)) rfl
                replace Ip2 := h2.isp Ip2 (pv3 A49 B49 C49 a49 b_49 d49).toArray.toList
                replace Io2 := h2.isp Io2 (pv3 A49 B49 C49 a49 b_49 d49).toArray.toList
                replace M5 := h2.row H5 M5 (pv3 A49 B49 C49 a49 b_49 d49).toArray.toList
                replace h3 := h3.past (b' := W.heap.size) (pv3 A49 B49 C49 a49 b_49 d49).toArray.toList (by omega)
                replace h4 := h4.pastAt 0 (b' := W.heap.size) (pv3 A49 B49 C49 a49 b_49 d49).toArray.toList (by omega)
                replace h6 := h6.pastAt 0 (b' := W.heap.size) (pv3 A49 B49 C49 a49 b_49 d49).toArray.toList (by omega)
                replace h2 := h2.stored (us := (pv3 A49 B49 C49 a49 b_49 d49)) rfl (pv3_sl _ _ _ _ _ _)
                replace hW := Below.setCells hW (g := W.heap.size) (by omega) 0 (pv3 A49 B49 C49 a49 b_49 d49).toArray.toList
                clear Mx49 My49 Mz49 Hx49 Hy49 Hz49
                with_reducible refine wpList_store_mid (op := ⟨none, .store 47 (.tmp 2) (.tmp 49), _, _, _, _⟩) rfl 47 (.tmp 2) (.tmp 49) rfl W.heap.size 0 (pv3 A49 B49 C49 a49 b_49 d49).toArray rfl rfl R2 (a47 rfl) (sl_one (pv3_sl _ _ _ _ _ _)) ?_
                generalize (w43.setCells W.heap.size 0 (pv3 A49 B49 C49 a49 b_49 d49).toArray.toList) = w44 at *
                clear R2
                clear Ip
                go_wp2
                go_roundw
                case rel => exact ⟨k + 1, cc / 2, _, _, by omega, by go_num, HCV.out, by omega, HC2, HRO2, HR2, ⟨_, _, _, _, _, _, h2, Ip2⟩, ⟨_, _, _, _, _, _, h6, Io2⟩, h3, h4, M5, hW⟩
                case measure => simp [intOf]; omega
              · have hbe : ((cc : Int) % 2 == 1) = false := by simp; omega
                have HRO2 := HRO
                rw [← out_zero (N := (bv nb).toNat) (t := 8 * i + k) (by rw [HBK.out]; omega)] at HRO2
                go_upto_region 18 with (fail)
                have s40 := hW.size
                refine region_seq2 4 53 (fun _ => false) [Is (.agg (pv3 Ap Bp Cp ap b_p dp).toArray), Is (.agg (pv3 Ap Bp Cp ap b_p dp).toArray), Is (.slice A5 16 c5), IsP (add3 dF cp cp)] [46, 47, 48, 49] (by kernel_rfl) (by kernel_rfl) (Nat.le_of_eq rfl) (grows_cons (Is.grows _) (grows_cons (Is.grows _) (grows_cons (Is.grows _) (grows_cons (IsP.grows _) grows_nil))))
                  ⟨step_rb rfl (.inl rfl) h2 2 rfl (by kernel_rfl) rfl rfl,
                   step_rb rfl (.inl rfl) h2 2 rfl (by kernel_rfl) rfl rfl,
                   step_mv rfl (.inl rfl) rfl rfl (knows_out 5 (by kernel_rfl) rfl),
                   step_rp rfl (.inl rfl) rfl cg31 rfl (rp3 ((knows_in 0 46 (by decide) (by kernel_rfl) rfl rfl).p Ip) ((knows_in 1 47 (by decide) (by kernel_rfl) rfl rfl).p Ip) ((knows_in 2 48 (by decide) (by kernel_rfl) rfl rfl).r H5 M5) (fun h1 h2 h3 h4 => rp_add h1 h2 h3 h4)), trivial⟩ ?_
                intro val w41 hw hS hap hla
                have e46 : val 46 = (.agg (pv3 Ap Bp Cp ap b_p dp).toArray) := hS 0 46 (by decide) rfl
                have e47 : val 47 = (.agg (pv3 Ap Bp Cp ap b_p dp).toArray) := hS 1 47 (by decide) rfl
                have e48 : val 48 = (.slice A5 16 c5) := hS 2 48 (by decide) rfl
                obtain ⟨A49, B49, C49, a49, b_49, d49, x49, y49, z49, e49, Hx49, Hy49, Hz49, Mx49, My49, Mz49⟩ := hS 3 49 (by decide) rfl
                simp only [putVals, List.foldl_cons, List.foldl_nil, List.drop_succ_cons, List.drop_zero, Act.put, List.setIfInBounds_toArray, List.set_cons_succ, List.set_cons_zero, e46, e47, e48, e49]
                clear hS hap hla e46 e47 e48 e49 
                replace h2 := h2.next hw
                replace h3 := h3.next hw
                replace h4 := h4.next hw
                replace h6 := h6.next hw
                replace Ip := Ip.next hw
                replace Io := Io.next hw
                replace M5 := M5.below hw
                replace hW := hW.trans (Below.mono hw hW.size)
                clear hw
                have Ip2 : IsP (add3 dF cp cp) (.agg (pv3 A49 B49 C49 a49 b_49 d49).toArray) w41 := ⟨_, _, _, _, _, _, x49, y49, z49, rfl, Hx49, Hy49, Hz49, Mx49, My49, Mz49⟩
                have R2 := h2.room (us := (pv3 A49 B49 C49 a49 b_49 d49)) rfl
                replace Ip2 := h2.isp Ip2 (pv3 A49 B49 C49 a49 b_49 d49).toArray.toList
                replace Io := h2.isp Io (pv3 A49 B49 C49 a49 b_49 d49).toArray.toList
                replace M5 := h2.row H5 M5 (pv3 A49 B49 C49 a49 b_49 d49).toArray.toList
                replace h3 := h3.past (b' := W.heap.size) (pv3 A49 B49 C49 a49 b_49 d49).toArray.toList (by omega)
                replace h4 := h4.pastAt 0 (b' := W.heap.size) (pv3 A49 B49 C49 a49 b_49 d49).toArray.toList (by omega)
                replace h6 := h6.pastAt 0 (b' := W.heap.size) (pv3 A49 B49 C49 a49 b_49 d49).toArray.toList (by omega)
                replace h2 := h2.stored (us := (pv3 A49 B49 C49 a49 b_49 d49)) rfl (pv3_sl _ _ _ _ _ _)
                replace hW := Below.setCells hW (g := W.heap.size) (by omega) 0 (pv3 A49 B49 C49 a49 b_49 d49).toArray.toList
                clear Mx49 My49 Mz49 Hx49 Hy49 Hz49
                with_reducible refine wpList_store_mid (op := ⟨none, .store 47 (.tmp 2) (.tmp 49), _, _, _, _⟩) rfl 47 (.tmp 2) (.tmp 49) rfl W.heap.size 0 (pv3 A49 B49 C49 a49 b_49 d49).toArray rfl rfl R2 (a47 rfl) (sl_one (pv3_sl _ _ _ _ _ _)) ?_
                generalize (w41.setCells W.heap.size 0 (pv3 A49 B49 C49 a49 b_49 d49).toArray.toList) = w42 at *
                clear R2
                clear Ip
                go_wp2
                go_roundw
                case rel => exact ⟨k + 1, cc / 2, _, _, by omega, by go_num, HCV.out, by omega, HC2, HRO2, HR2, ⟨_, _, _, _, _, _, h2, Ip2⟩, ⟨_, _, _, _, _, _, h6, Io⟩, h3, h4, M5, hW⟩
                case measure => simp [intOf]; omega
            · have e : k = 8 := by omega
              have e8 : 8 * i + k = 8 * (i + 1) := by omega
              rw [e8] at HRO HRP
              have hk8 : ¬ (k : Int) < 8 := by omega
              clear e8 e
              go_wp2
              go_roundw
              case rel => exact ⟨i + 1, cp, co, by omega, by go_num, HRO, HRP, hp, ho, h3, h4, M5, hW⟩
              case measure => simp [intOf]; omega
        · have e : i = l := by omega
          rw [e, HFIN.out] at HRO
          have hil : ¬ (i : Int) < l := by omega
          obtain ⟨Ao, Bo, Co, ao, b_o, do_, h6, Io⟩ := ho
          clear e hp h3 HRP hlt hi
          have VR := h4.room (us := (pv3 Ao Bo Co ao b_o do_)) rfl
          have Io2 := h4.isp Io (pv3 Ao Bo Co ao b_o do_).toArray.toList
          have h9 := h4.stored (us := (pv3 Ao Bo Co ao b_o do_)) rfl (pv3_sl _ _ _ _ _ _)
          replace hW := Below.setCells hW (g := W.heap.size + 1 + 1) (by omega) 0 (pv3 Ao Bo Co ao b_o do_).toArray.toList
          clear h4 Io
          go_wp2_with (first
            | (with_reducible refine wpList_load_mid (op := ⟨some 52, .load 47 (.tmp 6), _, _, _, _⟩) rfl 47 (.tmp 6) rfl b6 0 rfl (pv3 Ao Bo Co ao b_o do_) _ (h6.range) Tryd.underlying47 rfl (l47 rfl) ?_)
            | (with_reducible refine wpList_store_mid (op := ⟨none, .store 47 (.tmp 4) (.tmp 52), _, _, _, _⟩) rfl 47 (.tmp 4) (.tmp 52) rfl (W.heap.size + 1 + 1) 0 (pv3 Ao Bo Co ao b_o do_).toArray rfl rfl VR (a47 rfl) (sl_one (pv3_sl _ _ _ _ _ _)) ?_))
          refine ret_rows rfl (W.heap.size + 1 + 1) 0 rfl (pv3 Ao Bo Co ao b_o do_) _ h9.range Tryd.underlying47 rfl (l47 rfl) rfl ?_
          first | exact ⟨_, rfl, co, Io2, HRO.out, hW⟩ | exact ⟨_, co, rfl, Io2, HRO.out, hW⟩
end Go.Proofs.YtpaopdjbhmdfjaaDoor

/- Steps of the laws' regions: the reference's points, told by points of Edwards' curve. -/
namespace Go.Proofs.YtpaopdjbhmdfjaaDoor
open Go Go.RowKit

/-- The value holds a point of Edwards' curve, by numerators and one denominator. -/
def IsQ (P : Edw.Pt NT.PN) : Value → World → Prop := fun v w => ∃ c, IsP c v w ∧ Rep3 iF c P
theorem IsQ.next {P : Edw.Pt NT.PN} {v : Value} {w w' : World} (h : IsQ P v w) (hb : Below w.heap.size w w') : IsQ P v w' := by
  obtain ⟨c, h1, h2⟩ := h
  exact ⟨c, h1.next hb, h2⟩
theorem IsQ.grows (P : Edw.Pt NT.PN) : Grows (IsQ P) := fun _ _ _ h hb => h.next hb
theorem RB.isq {w : World} {b : Nat} {vs : List Value} (h : RB w b vs) {P : Edw.Pt NT.PN} {v : Value} (hI : IsQ P v w) (us : List Value) : IsQ P v (w.setCells b 0 us) := by
  obtain ⟨c, h1, h2⟩ := hI
  exact ⟨c, h.isp h1 us, h2⟩
theorem IsQ.val {P : Edw.Pt NT.PN} {v : Value} {w : World} (h : IsQ P v w) : ∃ A B C a b d, v = .agg (pv3 A B C a b d).toArray ∧ IsQ P (.agg (pv3 A B C a b d).toArray) w := by
  obtain ⟨c, h1, h2⟩ := h
  obtain ⟨A, B, C, a, b, d, rfl, h3⟩ := h1.box
  exact ⟨A, B, C, a, b, d, rfl, c, h3, h2⟩
theorem rq_mul {P : Edw.Pt NT.PN} (hP : Edw.On eF P) {v : Value} {w : World} {nb : List Int} (h : IsQ P v w) (ln : nb.length = 32) (hb : Byt nb) : Calls Tryd.prog 30 #[v, .agg (ints .u8 nb).toArray] w fun e w' => ∃ u, e = .returned u ∧ IsQ (Edw.mul eF (bn nb) P) u w' ∧ Below w.heap.size w w' := by
  obtain ⟨c, h1, h2⟩ := h
  obtain ⟨A, B, C, a, b, d, rfl, h3⟩ := h1.box
  refine (rmul_coreP ln (hid hb) (hid h2) (hid hP) h3).mono ?_
  rintro e w' ⟨u, c', he, hu, hr, hB⟩
  exact ⟨u, he, ⟨c', hu, hr⟩, hB⟩
theorem rq_add {P Q : Edw.Pt NT.PN} (hP : Edw.On eF P) (hQ : Edw.On eF Q) {v v' : Value} {A : Option Addr} {cd : Nat} {y : List Nat} {w : World} (h : IsQ P v w) (h' : IsQ Q v' w) (hy : Rp y dF.val) (hN : Nums w .i64 A (nl y)) : Calls Tryd.prog 31 #[v, v', .slice A 16 cd] w fun e w' => ∃ u, e = .returned u ∧ IsQ (Edw.add eF P Q) u w' ∧ Below w.heap.size w w' := by
  obtain ⟨c, h1, h2⟩ := h
  obtain ⟨c', k1, k2⟩ := h'
  refine (rp_add h1 k1 hy hN).mono ?_
  rintro e w' ⟨u, he, hu, hB⟩
  exact ⟨u, he, ⟨_, hu, rep3_add pn_fld ns_e i_sq de hP hQ h2 k2⟩, hB⟩
theorem rq_bytes {P : Edw.Pt NT.PN} {v : Value} {w : World} (h : IsQ P v w) : Calls Tryd.prog 27 #[v] w fun e w' => e = .returned (.agg (ints .u8 (bytesP P)).toArray) ∧ Below w.heap.size w w' := by
  obtain ⟨c, h1, h2⟩ := h
  have h3 := rp_bytes h1
  obtain ⟨e1, e2⟩ := rep3_aff h2 (iv_mul h2.nz)
  rw [e1, e2] at h3
  exact h3
theorem rq_base (w : World) : Calls Tryd.prog 26 #[] w fun e w' => ∃ u, e = .returned u ∧ IsP ⟨bxF, byF, 1⟩ u w' ∧ Below w.heap.size w w' := rf_base w
theorem base_q {v : Value} {w : World} (h : IsP ⟨bxF, byF, 1⟩ v w) : IsQ baseP v w := ⟨_, h, rep3_of pn_fld i_sq bxF byF⟩
theorem base_flat : byF * byF - bxF * bxF = 1 + dF * (bxF * bxF * (byF * byF)) := by
  rw [base_curve]
  exact flat_alg bxF byF dF
where
  flat_alg {n : Nat} [NeZero n] (x y d : Fin n) : 1 + d * (x * y * (x * y)) = 1 + d * (x * x * (y * y)) := by grind
theorem rdig_n {b : List Int} {w : World} (hl : b.length = 32) (hb : Byt b) : Calls Tryd.prog 8 #[.agg (ints .u8 b).toArray] w (RN (bn b) w) := by
  obtain ⟨a, h1, h2⟩ := digits_of hl hb
  refine (rdigits_walk hl hb).mono ?_
  rintro e w' ⟨g, c, he, hO, hB⟩
  rw [← h1] at hO
  exact ⟨some ⟨g, 0, none⟩, c, a, he, hid h2, hO.nums, hB⟩
section
variable {ops : Array Oper} {md : Region.Mode} {W : World} {a0 : Act} {n : Nat} {al : Nat → Bool} {S : Nat → Value → World → Prop} {Q : Exit → Act → World → Prop} {i : Nat} {o : Oper}
def KnowsQ (ops : Array Oper) (md : Region.Mode) (W : World) (a0 : Act) (n : Nat) (S : Nat → Value → World → Prop) (i : Nat) (x : Operand) (P : Edw.Pt NT.PN) : Prop := ∀ (a : Act) (w : World), Cl W w → Fr ops n a0 a → Dp ops md n S i a w → IsQ P (a.eval x) w
theorem knowsQ_in (j d : Nat) {P : Edw.Pt NT.PN} (hj : j < n) (hw : Region.waitsFor md ops i j = true) (hd : dstOf ops j = some d) (hS : S j = IsQ P) : KnowsQ ops md W a0 n S i (.tmp d) P := fun a w _ _ hdp => by
  have h := hdp j d hj hw hd
  rw [hS] at h
  exact h
theorem Knows.q {x : Operand} {P : Edw.Pt NT.PN} {v : Value} (h : Knows ops md W a0 n S i x v) (hP : IsQ P v W) : KnowsQ ops md W a0 n S i x P := fun a w hw hf hd => by
  rw [h a w hw hf hd]; exact hP.next hw
theorem step_rq (hal : al i = false) (hg : GuardOn ops md n S i o) {f : FuncId} {xs : Array Operand} {ts : Array TypeId} {P : Edw.Pt NT.PN} (ho : o.op = .call { callee := .value (.func f), args := xs, argTypes := ts }) (hcf : ∀ vs w, (callFunc f vs).run Tryd.prog w = .ok (.enter f vs) w)
    (hS : S i = IsQ P) (hv : ∀ (a : Act) (w : World), Cl W w → Fr ops n a0 a → Dp ops md n S i a w → ∃ vs, xs.map a.eval = vs ∧ Calls Tryd.prog f vs w fun e w' => ∃ v, e = .returned v ∧ IsQ P v w' ∧ Below w.heap.size w w') : StepOk Tryd.prog ops md W a0 n al S Q i o :=
  step_call hal hg fun a w hw hf hd => by
    obtain ⟨vs, h1, h2⟩ := hv a w hw hf hd
    refine ⟨f, vs, ex_fn rfl hcf ho vs h1 w, h2.mono fun _ w' ⟨v, he, hP, hb⟩ => ⟨v, he, ?_, hb⟩⟩
    rw [hS]; exact hP
theorem step_qmul (hal : al i = false) (hg : GuardOn ops md n S i o) {x y : Operand} {ts : Array TypeId} {P R : Edw.Pt NT.PN} {nb : List Int} (hP : Edw.On eF P) (ln : nb.length = 32) (hb : Byt nb) (hR : Edw.mul eF (bn nb) P = R) (ho : o.op = .call { callee := .value (.func 30), args := #[x, y], argTypes := ts })
    (hS : S i = IsQ R) (hx : KnowsQ ops md W a0 n S i x P) (hy : Knows ops md W a0 n S i y (.agg (ints .u8 nb).toArray)) : StepOk Tryd.prog ops md W a0 n al S Q i o :=
  step_rq hal hg ho cg30 hS fun a w hw hf hd => ⟨_, rfl, by
    rw [map2, hy a w hw hf hd, ← hR]
    exact rq_mul hP (hx a w hw hf hd) ln hb⟩
theorem step_qadd (hal : al i = false) (hg : GuardOn ops md n S i o) {x y z : Operand} {ts : Array TypeId} {P R : Edw.Pt NT.PN} (hP : Edw.On eF P) (hR : Edw.On eF R) (ho : o.op = .call { callee := .value (.func 31), args := #[x, y, z], argTypes := ts })
    (hS : S i = IsQ (Edw.add eF P R)) (hx : KnowsQ ops md W a0 n S i x P) (hy : KnowsQ ops md W a0 n S i y R) (hz : KnowsR ops md W a0 n S i z dF.val) : StepOk Tryd.prog ops md W a0 n al S Q i o :=
  step_rq hal hg ho cg31 hS fun a w hw hf hd => by
    obtain ⟨A, cd, ys, h1, h2, h3⟩ := hz a w hw hf hd
    refine ⟨_, rfl, ?_⟩
    have e : #[x, y, z].map a.eval = #[a.eval x, a.eval y, a.eval z] := by simp
    rw [e, h1]
    exact rq_add hP hR (hx a w hw hf hd) (hy a w hw hf hd) h2 h3
theorem step_qbytes (hal : al i = false) (hg : GuardOn ops md n S i o) {x : Operand} {ts : Array TypeId} {P : Edw.Pt NT.PN} {l : List Int} (hl : bytesP P = l) (ho : o.op = .call { callee := .value (.func 27), args := #[x], argTypes := ts })
    (hS : S i = Is (.agg (ints .u8 l).toArray)) (hx : KnowsQ ops md W a0 n S i x P) : StepOk Tryd.prog ops md W a0 n al S Q i o :=
  step_call hal hg fun a w hw hf hd => ⟨27, #[a.eval x], ex_fn rfl cg27 ho _ (map1 _ _) w, (rq_bytes (hx a w hw hf hd)).mono fun _ _ ⟨he, hb⟩ => ⟨_, he, by rw [hS, ← hl]; exact rfl, hb⟩⟩
theorem step_qbase (hal : al i = false) (hg : GuardOn ops md n S i o) {ts : Array TypeId} (ho : o.op = .call { callee := .value (.func 26), args := #[], argTypes := ts }) (hS : S i = IsP ⟨bxF, byF, 1⟩) : StepOk Tryd.prog ops md W a0 n al S Q i o :=
  step_rp hal hg ho cg26 hS fun a w hw hf hd => ⟨#[], by simp, rf_base w⟩
theorem step_ron (hal : al i = false) (hg : GuardOn ops md n S i o) {x y : Operand} {ts : Array TypeId} {a b : Fin NT.PN} (hon : b * b - a * a = 1 + dF * (a * a * (b * b))) (ho : o.op = .call { callee := .value (.func 28), args := #[x, y], argTypes := ts })
    (hS : S i = Is (.bool true)) (hx : KnowsR ops md W a0 n S i x a.val) (hy : KnowsR ops md W a0 n S i y b.val) : StepOk Tryd.prog ops md W a0 n al S Q i o :=
  step_call hal hg fun a w hw hf hd => by
    obtain ⟨A, c, ys, h1, h2, h3⟩ := hx a w hw hf hd
    obtain ⟨B, d, zs, k1, k2, k3⟩ := hy a w hw hf hd
    exact ⟨28, #[.slice A 16 c, .slice B 16 d], ex_fn rfl cg28 ho _ (by rw [map2, h1, k1]) w, (rf_on hon (hid h2) h3 (hid k2) k3).mono fun _ _ ⟨he, hb⟩ => ⟨_, he, by rw [hS]; exact rfl, hb⟩⟩
theorem step_dgs (hal : al i = false) (hg : GuardOn ops md n S i o) {x : Operand} {ts : Array TypeId} {b : List Int} (lb : b.length = 32) (hb : Byt b) (ho : o.op = .call { callee := .value (.func 8), args := #[x], argTypes := ts })
    (hS : S i = IsN (bn b)) (hx : Knows ops md W a0 n S i x (.agg (ints .u8 b).toArray)) : StepOk Tryd.prog ops md W a0 n al S Q i o :=
  step_rn hal hg ho cg8 hS fun a w hw hf hd => ⟨_, rfl, by
    rw [map1, hx a w hw hf hd]
    exact rdig_n lb hb⟩
theorem step_atl (hal : al i = false) (hg : GuardOn ops md n S i o) {x y : Operand} {ts : Array TypeId} {m k : Nat} {bb : Bool} (hbb : decide (k ≤ m) = bb) (ho : o.op = .call { callee := .value (.func 14), args := #[x, y], argTypes := ts }) (hS : S i = Is (.bool bb)) (hx : KnowsR ops md W a0 n S i x m) (hy : KnowsR ops md W a0 n S i y k) : StepOk Tryd.prog ops md W a0 n al S Q i o :=
  step_call hal hg fun a w hw hf hd => by
    obtain ⟨A, c, ys, h1, h2, h3⟩ := hx a w hw hf hd
    obtain ⟨B, d, zs, k1, k2, k3⟩ := hy a w hw hf hd
    refine ⟨14, #[.slice A 16 c, .slice B 16 d], ex_fn rfl cg14 ho _ (by rw [map2, h1, k1]) w, (ral_out h2 k2 h3 k3).mono fun _ _ ⟨he, hb⟩ => ⟨_, he, by rw [hS, ← hbb]; exact rfl, hb⟩⟩
theorem step_sqr (hal : al i = false) (hg : GuardOn ops md n S i o) {x : Operand} {ts : Array TypeId} {m : Fin NT.PN} {bb : Bool} (hbb : isSq m.val = bb) (ho : o.op = .call { callee := .value (.func 22), args := #[x], argTypes := ts }) (hS : S i = Is (.bool bb)) (hx : KnowsR ops md W a0 n S i x m.val) : StepOk Tryd.prog ops md W a0 n al S Q i o := by
  subst hbb
  exact step_rsquare hal hg m.isLt ho cf31 hS hx
theorem step_zer (hal : al i = false) (hg : GuardOn ops md n S i o) {x : Operand} {ts : Array TypeId} {m : Fin NT.PN} {bb : Bool} (hbb : decide (m = 0) = bb) (ho : o.op = .call { callee := .value (.func 23), args := #[x], argTypes := ts }) (hS : S i = Is (.bool bb)) (hx : KnowsR ops md W a0 n S i x m.val) : StepOk Tryd.prog ops md W a0 n al S Q i o := by
  subst hbb
  refine step_rzero hal hg ho cf28 ?_ hx
  rw [hS]
  have e : decide (m = 0) = decide (m.val = 0) := decide_eq_decide.2 ⟨fun h => by rw [h]; rfl, fun h => Fin.ext h⟩
  rw [e]
end
def oneL : List Int := 1 :: zeros 31
theorem one_len : oneL.length = 32 := by simp [oneL, zeros]
theorem built_one : Tryd.prog.built 22 [(0, .int .u8 1)] = some (ints .u8 oneL).toArray := by kernel_rfl
theorem nought_alg {n : Nat} [NeZero n] (i : Fin n) : -(i * 0) = 0 := by grind
theorem nought_bytes : bytesP (Edw.O : Edw.Pt NT.PN) = oneL := by
  show pbytes (1 : Fin NT.PN).val (oddB (-(iF * 0)).val) = oneL
  rw [nought_alg]
  decide +kernel
end Go.Proofs.YtpaopdjbhmdfjaaDoor
