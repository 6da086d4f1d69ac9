/- The reference's Add. -/
import Derived.Test.YtpaopdjbhmdfjaaDoorG9
namespace Go.Proofs.YtpaopdjbhmdfjaaDoor
open Go Go.RowKit

set_option maxRecDepth 4000 in
set_option maxHeartbeats 16000000 in
theorem rf_padd {c c' : C3 NT.PN} {d : Fin NT.PN} {W : World} {Ap Bp Cp : Option Addr} {ap b_p dp : Nat} {xp yp zp : List Nat} (Hxp : Hid (Rp xp c.x.val)) (Hyp : Hid (Rp yp c.y.val)) (Hzp : Hid (Rp zp c.z.val)) (Mxp : Nums W .i64 Ap (nl xp)) (Myp : Nums W .i64 Bp (nl yp)) (Mzp : Nums W .i64 Cp (nl zp)) {Aq Bq Cq : Option Addr} {aq b_q dq : Nat} {xq yq zq : List Nat} (Hxq : Hid (Rp xq c'.x.val)) (Hyq : Hid (Rp yq c'.y.val)) (Hzq : Hid (Rp zq c'.z.val)) (Mxq : Nums W .i64 Aq (nl xq)) (Myq : Nums W .i64 Bq (nl yq)) (Mzq : Nums W .i64 Cq (nl zq)) {Ad : Option Addr} {cd : Nat} {yd : List Nat} (Hd : Hid (Rp yd d.val)) (Md : Nums W .i64 Ad (nl yd)) : Calls Tryd.prog 31 #[.agg (pv3 Ap Bp Cp ap b_p dp).toArray, .agg (pv3 Aq Bq Cq aq b_q dq).toArray, .slice Ad 16 cd] W (fun e w' => ∃ v, e = .returned v ∧ IsP (add3 d c c') v w' ∧ Below W.heap.size W w') := by
  obtain ⟨z47, s47⟩ := zero_of_info inf47
  have h3 := ((RB.new W (pv3 Ap Bp Cp ap b_p dp) 47 rfl (pv3_sl _ _ _ _ _ _)).next (below_new _ (.cells (pv3 Aq Bq Cq aq b_q dq).toArray 47))).next (below_new _ (.cells nil3.toArray 47))
  have h4 := (RB.new (W.alloc (.cells (pv3 Ap Bp Cp ap b_p dp).toArray 47)) (pv3 Aq Bq Cq aq b_q dq) 47 rfl (pv3_sl _ _ _ _ _ _)).next (below_new _ (.cells nil3.toArray 47))
  have h6 := RB.new ((W.alloc (.cells (pv3 Ap Bp Cp ap b_p dp).toArray 47)).alloc (.cells (pv3 Aq Bq Cq aq b_q dq).toArray 47)) nil3 47 rfl nil3_sl
  have hW := ((below_new W (.cells (pv3 Ap Bp Cp ap b_p dp).toArray 47)).alloc (by simp) (.cells (pv3 Aq Bq Cq aq b_q dq).toArray 47)).alloc (by simp; omega) (.cells nil3.toArray 47)
  simp only [World.size_alloc] at h4 h6
  replace Mxp := Mxp.below hW
  replace Myp := Myp.below hW
  replace Mzp := Mzp.below hW
  replace Mxq := Mxq.below hW
  replace Myq := Myq.below hW
  replace Mzq := Mzq.below hW
  replace Md := Md.below hW
  go_enter Tryd.func31, Tryd.ntmps31
  go_upto_region 1 with (fail)
  generalize ((W.alloc (.cells (pv3 Ap Bp Cp ap b_p dp).toArray 47)).alloc (.cells (pv3 Aq Bq Cq aq b_q dq).toArray 47)).alloc (.cells nil3.toArray 47) = w0 at *
  have s0 := hW.size
  refine region_seq2 6 75 (fun _ => false) [Is (.pointer (some ⟨W.heap.size, 2, none⟩)), Is (.slice Cp 16 dp), Is (.pointer (some ⟨(W.heap.size + 1), 2, none⟩)), Is (.slice Cq 16 dq), IsN ((c.z * c'.z : Fin NT.PN)).val, IsN ((c.z * c'.z : Fin NT.PN)).val] [15, 16, 17, 18, 19, 7] (by kernel_rfl) (by kernel_rfl) (Nat.le_of_eq rfl) (grows_cons (Is.grows _) (grows_cons (Is.grows _) (grows_cons (Is.grows _) (grows_cons (Is.grows _) (grows_cons (IsN.grows _) (grows_cons (IsN.grows _) grows_nil))))))
    ⟨step_fr2 rfl (.inl rfl) rfl rfl (knows_out 3 (by kernel_rfl) rfl),
     step_ld32 rfl (.inl rfl) h3 rfl rfl rfl (knows_in 0 15 (by decide) (by kernel_rfl) rfl rfl),
     step_fr2 rfl (.inl rfl) rfl rfl (knows_out 4 (by kernel_rfl) rfl),
     step_ld32 rfl (.inl rfl) h4 rfl rfl rfl (knows_in 2 17 (by decide) (by kernel_rfl) rfl rfl),
     step_rn rfl (.inl rfl) rfl cf23 rfl (rn2 ((knows_in 1 16 (by decide) (by kernel_rfl) rfl rfl).r Hzp Mzp) ((knows_in 3 18 (by decide) (by kernel_rfl) rfl rfl).r Hzq Mzq) (fun h1 h2 h3 h4 => rf_mul h1 h2 h3 h4)),
     step_copyN rfl (.inl rfl) 4 19 (.inr rfl) rfl (by decide) (by kernel_rfl) rfl rfl, trivial⟩ ?_
  intro val w1 hw hS hap hla
  have e15 : val 15 = (.pointer (some ⟨W.heap.size, 2, none⟩)) := hS 0 15 (by decide) rfl
  have e16 : val 16 = (.slice Cp 16 dp) := hS 1 16 (by decide) rfl
  have e17 : val 17 = (.pointer (some ⟨(W.heap.size + 1), 2, none⟩)) := hS 2 17 (by decide) rfl
  have e18 : val 18 = (.slice Cq 16 dq) := hS 3 18 (by decide) rfl
  obtain ⟨A19, c19, y19, e19, H19, M19⟩ := hS 4 19 (by decide) rfl
  obtain ⟨A7, c7, y7, e7, H7, M7⟩ := hS 5 7 (by decide) rfl
  simp only [putVals, List.foldl_cons, List.foldl_nil, List.drop_succ_cons, List.drop_zero, Act.put, List.setIfInBounds_toArray, List.set_cons_succ, List.set_cons_zero, e15, e16, e17, e18, e19, e7]
  clear hS hap hla e15 e16 e17 e18 e19 e7 H19 M19
  replace h3 := h3.next hw
  replace h4 := h4.next hw
  replace h6 := h6.next hw
  replace Mxp := Mxp.below hw
  replace Myp := Myp.below hw
  replace Mzp := Mzp.below hw
  replace Mxq := Mxq.below hw
  replace Myq := Myq.below hw
  replace Mzq := Mzq.below hw
  replace Md := Md.below hw
  replace hW := hW.trans (Below.mono hw hW.size)
  clear hw
  go_upto_region 2 with (fail)
  have s1 := hW.size
  refine region_seq2 4 75 (fun _ => false) [Is (.slice A7 16 c7), Is (.slice A7 16 c7), IsN (((c.z * c'.z : Fin NT.PN) * (c.z * c'.z : Fin NT.PN) : Fin NT.PN)).val, IsN (((c.z * c'.z : Fin NT.PN) * (c.z * c'.z : Fin NT.PN) : Fin NT.PN)).val] [20, 21, 22, 8] (by kernel_rfl) (by kernel_rfl) (Nat.le_of_eq rfl) (grows_cons (Is.grows _) (grows_cons (Is.grows _) (grows_cons (IsN.grows _) (grows_cons (IsN.grows _) grows_nil))))
    ⟨step_mv rfl (.inl rfl) rfl rfl (knows_out 7 (by kernel_rfl) rfl),
     step_mv rfl (.inl rfl) rfl rfl (knows_out 7 (by kernel_rfl) rfl),
     step_rn rfl (.inl rfl) rfl cf23 rfl (rn2 ((knows_in 0 20 (by decide) (by kernel_rfl) rfl rfl).r H7 M7) ((knows_in 1 21 (by decide) (by kernel_rfl) rfl rfl).r H7 M7) (fun h1 h2 h3 h4 => rf_mul h1 h2 h3 h4)),
     step_copyN rfl (.inl rfl) 2 22 (.inr rfl) rfl (by decide) (by kernel_rfl) rfl rfl, trivial⟩ ?_
  intro val w2 hw hS hap hla
  have e20 : val 20 = (.slice A7 16 c7) := hS 0 20 (by decide) rfl
  have e21 : val 21 = (.slice A7 16 c7) := hS 1 21 (by decide) rfl
  obtain ⟨A22, c22, y22, e22, H22, M22⟩ := hS 2 22 (by decide) rfl
  obtain ⟨A8, c8, y8, e8, H8, M8⟩ := hS 3 8 (by decide) rfl
  simp only [putVals, List.foldl_cons, List.foldl_nil, List.drop_succ_cons, List.drop_zero, Act.put, List.setIfInBounds_toArray, List.set_cons_succ, List.set_cons_zero, e20, e21, e22, e8]
  clear hS hap hla e20 e21 e22 e8 H22 M22
  replace h3 := h3.next hw
  replace h4 := h4.next hw
  replace h6 := h6.next hw
  replace Mxp := Mxp.below hw
  replace Myp := Myp.below hw
  replace Mzp := Mzp.below hw
  replace Mxq := Mxq.below hw
  replace Myq := Myq.below hw
  replace Mzq := Mzq.below hw
  replace Md := Md.below hw
  replace M7 := M7.below hw
  replace hW := hW.trans (Below.mono hw hW.size)
  clear hw
  go_upto_region 3 with (fail)
  have s2 := hW.size
  refine region_seq2 6 75 (fun _ => false) [Is (.pointer (some ⟨W.heap.size, 0, none⟩)), Is (.slice Ap 16 ap), Is (.pointer (some ⟨(W.heap.size + 1), 0, none⟩)), Is (.slice Aq 16 aq), IsN ((c.x * c'.x : Fin NT.PN)).val, IsN ((c.x * c'.x : Fin NT.PN)).val] [23, 24, 25, 26, 27, 9] (by kernel_rfl) (by kernel_rfl) (Nat.le_of_eq rfl) (grows_cons (Is.grows _) (grows_cons (Is.grows _) (grows_cons (Is.grows _) (grows_cons (Is.grows _) (grows_cons (IsN.grows _) (grows_cons (IsN.grows _) grows_nil))))))
    ⟨step_fr0 rfl (.inl rfl) rfl rfl (knows_out 3 (by kernel_rfl) rfl),
     step_ld32 rfl (.inl rfl) h3 rfl rfl rfl (knows_in 0 23 (by decide) (by kernel_rfl) rfl rfl),
     step_fr0 rfl (.inl rfl) rfl rfl (knows_out 4 (by kernel_rfl) rfl),
     step_ld32 rfl (.inl rfl) h4 rfl rfl rfl (knows_in 2 25 (by decide) (by kernel_rfl) rfl rfl),
     step_rn rfl (.inl rfl) rfl cf23 rfl (rn2 ((knows_in 1 24 (by decide) (by kernel_rfl) rfl rfl).r Hxp Mxp) ((knows_in 3 26 (by decide) (by kernel_rfl) rfl rfl).r Hxq Mxq) (fun h1 h2 h3 h4 => rf_mul h1 h2 h3 h4)),
     step_copyN rfl (.inl rfl) 4 27 (.inr rfl) rfl (by decide) (by kernel_rfl) rfl rfl, trivial⟩ ?_
  intro val w3 hw hS hap hla
  have e23 : val 23 = (.pointer (some ⟨W.heap.size, 0, none⟩)) := hS 0 23 (by decide) rfl
  have e24 : val 24 = (.slice Ap 16 ap) := hS 1 24 (by decide) rfl
  have e25 : val 25 = (.pointer (some ⟨(W.heap.size + 1), 0, none⟩)) := hS 2 25 (by decide) rfl
  have e26 : val 26 = (.slice Aq 16 aq) := hS 3 26 (by decide) rfl
  obtain ⟨A27, c27, y27, e27, H27, M27⟩ := hS 4 27 (by decide) rfl
  obtain ⟨A9, c9, y9, e9, H9, M9⟩ := hS 5 9 (by decide) rfl
  simp only [putVals, List.foldl_cons, List.foldl_nil, List.drop_succ_cons, List.drop_zero, Act.put, List.setIfInBounds_toArray, List.set_cons_succ, List.set_cons_zero, e23, e24, e25, e26, e27, e9]
  clear hS hap hla e23 e24 e25 e26 e27 e9 H27 M27
  replace h3 := h3.next hw
  replace h4 := h4.next hw
  replace h6 := h6.next hw
  replace Mxp := Mxp.below hw
  replace Myp := Myp.below hw
  replace Mzp := Mzp.below hw
  replace Mxq := Mxq.below hw
  replace Myq := Myq.below hw
  replace Mzq := Mzq.below hw
  replace Md := Md.below hw
  replace M7 := M7.below hw
  replace M8 := M8.below hw
  replace hW := hW.trans (Below.mono hw hW.size)
  clear hw
  go_upto_region 4 with (fail)
  have s3 := hW.size
  refine region_seq2 6 75 (fun _ => false) [Is (.pointer (some ⟨W.heap.size, 1, none⟩)), Is (.slice Bp 16 b_p), Is (.pointer (some ⟨(W.heap.size + 1), 1, none⟩)), Is (.slice Bq 16 b_q), IsN ((c.y * c'.y : Fin NT.PN)).val, IsN ((c.y * c'.y : Fin NT.PN)).val] [28, 29, 30, 31, 32, 10] (by kernel_rfl) (by kernel_rfl) (Nat.le_of_eq rfl) (grows_cons (Is.grows _) (grows_cons (Is.grows _) (grows_cons (Is.grows _) (grows_cons (Is.grows _) (grows_cons (IsN.grows _) (grows_cons (IsN.grows _) grows_nil))))))
    ⟨step_fr1 rfl (.inl rfl) rfl rfl (knows_out 3 (by kernel_rfl) rfl),
     step_ld32 rfl (.inl rfl) h3 rfl rfl rfl (knows_in 0 28 (by decide) (by kernel_rfl) rfl rfl),
     step_fr1 rfl (.inl rfl) rfl rfl (knows_out 4 (by kernel_rfl) rfl),
     step_ld32 rfl (.inl rfl) h4 rfl rfl rfl (knows_in 2 30 (by decide) (by kernel_rfl) rfl rfl),
     step_rn rfl (.inl rfl) rfl cf23 rfl (rn2 ((knows_in 1 29 (by decide) (by kernel_rfl) rfl rfl).r Hyp Myp) ((knows_in 3 31 (by decide) (by kernel_rfl) rfl rfl).r Hyq Myq) (fun h1 h2 h3 h4 => rf_mul h1 h2 h3 h4)),
     step_copyN rfl (.inl rfl) 4 32 (.inr rfl) rfl (by decide) (by kernel_rfl) rfl rfl, trivial⟩ ?_
  intro val w4 hw hS hap hla
  have e28 : val 28 = (.pointer (some ⟨W.heap.size, 1, none⟩)) := hS 0 28 (by decide) rfl
  have e29 : val 29 = (.slice Bp 16 b_p) := hS 1 29 (by decide) rfl
  have e30 : val 30 = (.pointer (some ⟨(W.heap.size + 1), 1, none⟩)) := hS 2 30 (by decide) rfl
  have e31 : val 31 = (.slice Bq 16 b_q) := hS 3 31 (by decide) rfl
  obtain ⟨A32, c32, y32, e32, H32, M32⟩ := hS 4 32 (by decide) rfl
  obtain ⟨A10, c10, y10, e10, H10, M10⟩ := hS 5 10 (by decide) rfl
  simp only [putVals, List.foldl_cons, List.foldl_nil, List.drop_succ_cons, List.drop_zero, Act.put, List.setIfInBounds_toArray, List.set_cons_succ, List.set_cons_zero, e28, e29, e30, e31, e32, e10]
  clear hS hap hla e28 e29 e30 e31 e32 e10 H32 M32
  replace h3 := h3.next hw
  replace h4 := h4.next hw
  replace h6 := h6.next hw
  replace Mxp := Mxp.below hw
  replace Myp := Myp.below hw
  replace Mzp := Mzp.below hw
  replace Mxq := Mxq.below hw
  replace Myq := Myq.below hw
  replace Mzq := Mzq.below hw
  replace Md := Md.below hw
  replace M7 := M7.below hw
  replace M8 := M8.below hw
  replace M9 := M9.below hw
  replace hW := hW.trans (Below.mono hw hW.size)
  clear hw
  go_upto_region 5 with (fail)
  have s4 := hW.size
  refine region_seq2 6 75 (fun _ => false) [Is (.slice Ad 16 cd), Is (.slice A9 16 c9), Is (.slice A10 16 c10), IsN (((c.x * c'.x : Fin NT.PN) * (c.y * c'.y : Fin NT.PN) : Fin NT.PN)).val, IsN ((d * ((c.x * c'.x : Fin NT.PN) * (c.y * c'.y : Fin NT.PN) : Fin NT.PN) : Fin NT.PN)).val, IsN ((d * ((c.x * c'.x : Fin NT.PN) * (c.y * c'.y : Fin NT.PN) : Fin NT.PN) : Fin NT.PN)).val] [33, 34, 35, 36, 37, 11] (by kernel_rfl) (by kernel_rfl) (Nat.le_of_eq rfl) (grows_cons (Is.grows _) (grows_cons (Is.grows _) (grows_cons (Is.grows _) (grows_cons (IsN.grows _) (grows_cons (IsN.grows _) (grows_cons (IsN.grows _) grows_nil))))))
    ⟨step_mv rfl (.inl rfl) rfl rfl (knows_out 2 (by kernel_rfl) rfl),
     step_mv rfl (.inl rfl) rfl rfl (knows_out 9 (by kernel_rfl) rfl),
     step_mv rfl (.inl rfl) rfl rfl (knows_out 10 (by kernel_rfl) rfl),
     step_rn rfl (.inl rfl) rfl cf23 rfl (rn2 ((knows_in 1 34 (by decide) (by kernel_rfl) rfl rfl).r H9 M9) ((knows_in 2 35 (by decide) (by kernel_rfl) rfl rfl).r H10 M10) (fun h1 h2 h3 h4 => rf_mul h1 h2 h3 h4)),
     step_rn rfl (.inl rfl) rfl cf23 rfl (rn2 ((knows_in 0 33 (by decide) (by kernel_rfl) rfl rfl).r Hd Md) (knowsN_in 3 36 (by decide) (by kernel_rfl) rfl rfl) (fun h1 h2 h3 h4 => rf_mul h1 h2 h3 h4)),
     step_copyN rfl (.inl rfl) 4 37 (.inr rfl) rfl (by decide) (by kernel_rfl) rfl rfl, trivial⟩ ?_
  intro val w5 hw hS hap hla
  have e33 : val 33 = (.slice Ad 16 cd) := hS 0 33 (by decide) rfl
  have e34 : val 34 = (.slice A9 16 c9) := hS 1 34 (by decide) rfl
  have e35 : val 35 = (.slice A10 16 c10) := hS 2 35 (by decide) rfl
  obtain ⟨A36, c36, y36, e36, H36, M36⟩ := hS 3 36 (by decide) rfl
  obtain ⟨A37, c37, y37, e37, H37, M37⟩ := hS 4 37 (by decide) rfl
  obtain ⟨A11, c11, y11, e11, H11, M11⟩ := hS 5 11 (by decide) rfl
  simp only [putVals, List.foldl_cons, List.foldl_nil, List.drop_succ_cons, List.drop_zero, Act.put, List.setIfInBounds_toArray, List.set_cons_succ, List.set_cons_zero, e33, e34, e35, e36, e37, e11]
  clear hS hap hla e33 e34 e35 e36 e37 e11 H36 M36 H37 M37
  replace h3 := h3.next hw
  replace h4 := h4.next hw
  replace h6 := h6.next hw
  replace Mxp := Mxp.below hw
  replace Myp := Myp.below hw
  replace Mzp := Mzp.below hw
  replace Mxq := Mxq.below hw
  replace Myq := Myq.below hw
  replace Mzq := Mzq.below hw
  replace Md := Md.below hw
  replace M7 := M7.below hw
  replace M8 := M8.below hw
  replace M9 := M9.below hw
  replace M10 := M10.below hw
  replace hW := hW.trans (Below.mono hw hW.size)
  clear hw
  go_upto_region 6 with (fail)
  have s5 := hW.size
  refine region_seq2 4 75 (fun _ => false) [Is (.slice A8 16 c8), Is (.slice A11 16 c11), IsN ((((c.z * c'.z : Fin NT.PN) * (c.z * c'.z : Fin NT.PN) : Fin NT.PN) - (d * ((c.x * c'.x : Fin NT.PN) * (c.y * c'.y : Fin NT.PN) : Fin NT.PN) : Fin NT.PN) : Fin NT.PN)).val, IsN ((((c.z * c'.z : Fin NT.PN) * (c.z * c'.z : Fin NT.PN) : Fin NT.PN) - (d * ((c.x * c'.x : Fin NT.PN) * (c.y * c'.y : Fin NT.PN) : Fin NT.PN) : Fin NT.PN) : Fin NT.PN)).val] [38, 39, 40, 12] (by kernel_rfl) (by kernel_rfl) (Nat.le_of_eq rfl) (grows_cons (Is.grows _) (grows_cons (Is.grows _) (grows_cons (IsN.grows _) (grows_cons (IsN.grows _) grows_nil))))
    ⟨step_mv rfl (.inl rfl) rfl rfl (knows_out 8 (by kernel_rfl) rfl),
     step_mv rfl (.inl rfl) rfl rfl (knows_out 11 (by kernel_rfl) rfl),
     step_rn rfl (.inl rfl) rfl cf21 rfl (rn2 ((knows_in 0 38 (by decide) (by kernel_rfl) rfl rfl).r H8 M8) ((knows_in 1 39 (by decide) (by kernel_rfl) rfl rfl).r H11 M11) (fun h1 h2 h3 h4 => rf_sub h1 h2 h3 h4)),
     step_copyN rfl (.inl rfl) 2 40 (.inr rfl) rfl (by decide) (by kernel_rfl) rfl rfl, trivial⟩ ?_
  intro val w6 hw hS hap hla
  have e38 : val 38 = (.slice A8 16 c8) := hS 0 38 (by decide) rfl
  have e39 : val 39 = (.slice A11 16 c11) := hS 1 39 (by decide) rfl
  obtain ⟨A40, c40, y40, e40, H40, M40⟩ := hS 2 40 (by decide) rfl
  obtain ⟨A12, c12, y12, e12, H12, M12⟩ := hS 3 12 (by decide) rfl
  simp only [putVals, List.foldl_cons, List.foldl_nil, List.drop_succ_cons, List.drop_zero, Act.put, List.setIfInBounds_toArray, List.set_cons_succ, List.set_cons_zero, e38, e39, e40, e12]
  clear hS hap hla e38 e39 e40 e12 H40 M40
  replace h3 := h3.next hw
  replace h4 := h4.next hw
  replace h6 := h6.next hw
  replace Mxp := Mxp.below hw
  replace Myp := Myp.below hw
  replace Mzp := Mzp.below hw
  replace Mxq := Mxq.below hw
  replace Myq := Myq.below hw
  replace Mzq := Mzq.below hw
  replace Md := Md.below hw
  replace M7 := M7.below hw
  replace M8 := M8.below hw
  replace M9 := M9.below hw
  replace M10 := M10.below hw
  replace M11 := M11.below hw
  replace hW := hW.trans (Below.mono hw hW.size)
  clear hw
  go_upto_region 7 with (fail)
  have s6 := hW.size
  refine region_seq2 4 75 (fun _ => false) [Is (.slice A8 16 c8), Is (.slice A11 16 c11), IsN ((((c.z * c'.z : Fin NT.PN) * (c.z * c'.z : Fin NT.PN) : Fin NT.PN) + (d * ((c.x * c'.x : Fin NT.PN) * (c.y * c'.y : Fin NT.PN) : Fin NT.PN) : Fin NT.PN) : Fin NT.PN)).val, IsN ((((c.z * c'.z : Fin NT.PN) * (c.z * c'.z : Fin NT.PN) : Fin NT.PN) + (d * ((c.x * c'.x : Fin NT.PN) * (c.y * c'.y : Fin NT.PN) : Fin NT.PN) : Fin NT.PN) : Fin NT.PN)).val] [41, 42, 43, 13] (by kernel_rfl) (by kernel_rfl) (Nat.le_of_eq rfl) (grows_cons (Is.grows _) (grows_cons (Is.grows _) (grows_cons (IsN.grows _) (grows_cons (IsN.grows _) grows_nil))))
    ⟨step_mv rfl (.inl rfl) rfl rfl (knows_out 8 (by kernel_rfl) rfl),
     step_mv rfl (.inl rfl) rfl rfl (knows_out 11 (by kernel_rfl) rfl),
     step_rn rfl (.inl rfl) rfl cf19 rfl (rn2 ((knows_in 0 41 (by decide) (by kernel_rfl) rfl rfl).r H8 M8) ((knows_in 1 42 (by decide) (by kernel_rfl) rfl rfl).r H11 M11) (fun h1 h2 h3 h4 => rf_add h1 h2 h3 h4)),
     step_copyN rfl (.inl rfl) 2 43 (.inr rfl) rfl (by decide) (by kernel_rfl) rfl rfl, trivial⟩ ?_
  intro val w7 hw hS hap hla
  have e41 : val 41 = (.slice A8 16 c8) := hS 0 41 (by decide) rfl
  have e42 : val 42 = (.slice A11 16 c11) := hS 1 42 (by decide) rfl
  obtain ⟨A43, c43, y43, e43, H43, M43⟩ := hS 2 43 (by decide) rfl
  obtain ⟨A13, c13, y13, e13, H13, M13⟩ := hS 3 13 (by decide) rfl
  simp only [putVals, List.foldl_cons, List.foldl_nil, List.drop_succ_cons, List.drop_zero, Act.put, List.setIfInBounds_toArray, List.set_cons_succ, List.set_cons_zero, e41, e42, e43, e13]
  clear hS hap hla e41 e42 e43 e13 H43 M43
  replace h3 := h3.next hw
  replace h4 := h4.next hw
  replace h6 := h6.next hw
  replace Mxp := Mxp.below hw
  replace Myp := Myp.below hw
  replace Mzp := Mzp.below hw
  replace Mxq := Mxq.below hw
  replace Myq := Myq.below hw
  replace Mzq := Mzq.below hw
  replace Md := Md.below hw
  replace M7 := M7.below hw
  replace M8 := M8.below hw
  replace M9 := M9.below hw
  replace M10 := M10.below hw
  replace M11 := M11.below hw
  replace M12 := M12.below hw
  replace hW := hW.trans (Below.mono hw hW.size)
  clear hw
  go_wp2_with (fail)
  have s7 := hW.size
  refine region_spec2 15 75 (fun _ => false) [Is (.pointer (some ⟨W.heap.size, 0, none⟩)), Is (.slice Ap 16 ap), Is (.pointer (some ⟨W.heap.size, 1, none⟩)), Is (.slice Bp 16 b_p), IsN ((c.x + c.y : Fin NT.PN)).val, Is (.pointer (some ⟨(W.heap.size + 1), 0, none⟩)), Is (.slice Aq 16 aq), Is (.pointer (some ⟨(W.heap.size + 1), 1, none⟩)), Is (.slice Bq 16 b_q), IsN ((c'.x + c'.y : Fin NT.PN)).val, IsN (((c.x + c.y : Fin NT.PN) * (c'.x + c'.y : Fin NT.PN) : Fin NT.PN)).val, Is (.slice A9 16 c9), IsN ((((c.x + c.y : Fin NT.PN) * (c'.x + c'.y : Fin NT.PN) : Fin NT.PN) - (c.x * c'.x : Fin NT.PN) : Fin NT.PN)).val, Is (.slice A10 16 c10), IsN (((((c.x + c.y : Fin NT.PN) * (c'.x + c'.y : Fin NT.PN) : Fin NT.PN) - (c.x * c'.x : Fin NT.PN) : Fin NT.PN) - (c.y * c'.y : Fin NT.PN) : Fin NT.PN)).val] [44, 45, 46, 47, 48, 49, 50, 51, 52, 53, 54, 55, 56, 57, 58] (by kernel_rfl) (by kernel_rfl) (by kernel_rfl) (Nat.le_of_eq rfl) (grows_cons (Is.grows _) (grows_cons (Is.grows _) (grows_cons (Is.grows _) (grows_cons (Is.grows _) (grows_cons (IsN.grows _) (grows_cons (Is.grows _) (grows_cons (Is.grows _) (grows_cons (Is.grows _) (grows_cons (Is.grows _) (grows_cons (IsN.grows _) (grows_cons (IsN.grows _) (grows_cons (Is.grows _) (grows_cons (IsN.grows _) (grows_cons (Is.grows _) (grows_cons (IsN.grows _) grows_nil)))))))))))))))
    ⟨step_fr0 rfl (.inl rfl) rfl rfl (knows_out 3 (by kernel_rfl) rfl),
     step_ld32 rfl (.inl rfl) h3 rfl rfl rfl (knows_in 0 44 (by decide) (by kernel_rfl) rfl rfl),
     step_fr1 rfl (.inl rfl) rfl rfl (knows_out 3 (by kernel_rfl) rfl),
     step_ld32 rfl (.inl rfl) h3 rfl rfl rfl (knows_in 2 46 (by decide) (by kernel_rfl) rfl rfl),
     step_rn rfl (.inl rfl) rfl cf19 rfl (rn2 ((knows_in 1 45 (by decide) (by kernel_rfl) rfl rfl).r Hxp Mxp) ((knows_in 3 47 (by decide) (by kernel_rfl) rfl rfl).r Hyp Myp) (fun h1 h2 h3 h4 => rf_add h1 h2 h3 h4)),
     step_fr0 rfl (.inl rfl) rfl rfl (knows_out 4 (by kernel_rfl) rfl),
     step_ld32 rfl (.inl rfl) h4 rfl rfl rfl (knows_in 5 49 (by decide) (by kernel_rfl) rfl rfl),
     step_fr1 rfl (.inl rfl) rfl rfl (knows_out 4 (by kernel_rfl) rfl),
     step_ld32 rfl (.inl rfl) h4 rfl rfl rfl (knows_in 7 51 (by decide) (by kernel_rfl) rfl rfl),
     step_rn rfl (.inl rfl) rfl cf19 rfl (rn2 ((knows_in 6 50 (by decide) (by kernel_rfl) rfl rfl).r Hxq Mxq) ((knows_in 8 52 (by decide) (by kernel_rfl) rfl rfl).r Hyq Myq) (fun h1 h2 h3 h4 => rf_add h1 h2 h3 h4)),
     step_rn rfl (.inl rfl) rfl cf23 rfl (rn2 (knowsN_in 4 48 (by decide) (by kernel_rfl) rfl rfl) (knowsN_in 9 53 (by decide) (by kernel_rfl) rfl rfl) (fun h1 h2 h3 h4 => rf_mul h1 h2 h3 h4)),
     step_mv rfl (.inl rfl) rfl rfl (knows_out 9 (by kernel_rfl) rfl),
     step_rn rfl (.inl rfl) rfl cf21 rfl (rn2 (knowsN_in 10 54 (by decide) (by kernel_rfl) rfl rfl) ((knows_in 11 55 (by decide) (by kernel_rfl) rfl rfl).r H9 M9) (fun h1 h2 h3 h4 => rf_sub h1 h2 h3 h4)),
     step_mv rfl (.inl rfl) rfl rfl (knows_out 10 (by kernel_rfl) rfl),
     step_rn rfl (.inl rfl) rfl cf21 rfl (rn2 (knowsN_in 12 56 (by decide) (by kernel_rfl) rfl rfl) ((knows_in 13 57 (by decide) (by kernel_rfl) rfl rfl).r H10 M10) (fun h1 h2 h3 h4 => rf_sub h1 h2 h3 h4)), trivial⟩ ?_
  intro val w8 hw hS hap hla
  have e44 : val 44 = (.pointer (some ⟨W.heap.size, 0, none⟩)) := hS 0 44 (by decide) rfl
  have e45 : val 45 = (.slice Ap 16 ap) := hS 1 45 (by decide) rfl
  have e46 : val 46 = (.pointer (some ⟨W.heap.size, 1, none⟩)) := hS 2 46 (by decide) rfl
  have e47 : val 47 = (.slice Bp 16 b_p) := hS 3 47 (by decide) rfl
  obtain ⟨A48, c48, y48, e48, H48, M48⟩ := hS 4 48 (by decide) rfl
  have e49 : val 49 = (.pointer (some ⟨(W.heap.size + 1), 0, none⟩)) := hS 5 49 (by decide) rfl
  have e50 : val 50 = (.slice Aq 16 aq) := hS 6 50 (by decide) rfl
  have e51 : val 51 = (.pointer (some ⟨(W.heap.size + 1), 1, none⟩)) := hS 7 51 (by decide) rfl
  have e52 : val 52 = (.slice Bq 16 b_q) := hS 8 52 (by decide) rfl
  obtain ⟨A53, c53, y53, e53, H53, M53⟩ := hS 9 53 (by decide) rfl
  obtain ⟨A54, c54, y54, e54, H54, M54⟩ := hS 10 54 (by decide) rfl
  have e55 : val 55 = (.slice A9 16 c9) := hS 11 55 (by decide) rfl
  obtain ⟨A56, c56, y56, e56, H56, M56⟩ := hS 12 56 (by decide) rfl
  have e57 : val 57 = (.slice A10 16 c10) := hS 13 57 (by decide) rfl
  obtain ⟨A58, c58, y58, e58, H58, M58⟩ := hS 14 58 (by decide) rfl
  simp only [putVals, List.foldl_cons, List.foldl_nil, List.drop_succ_cons, List.drop_zero, Act.put, List.setIfInBounds_toArray, List.set_cons_succ, List.set_cons_zero, e44, e45, e46, e47, e48, e49, e50, e51, e52, e53, e54, e55, e56, e57, e58]
  clear hS hap hla e44 e45 e46 e47 e48 e49 e50 e51 e52 e53 e54 e55 e56 e57 e58 H48 M48 H53 M53 H54 M54 H56 M56
  replace h3 := h3.next hw
  replace h4 := h4.next hw
  replace h6 := h6.next hw
  replace Mxp := Mxp.below hw
  replace Myp := Myp.below hw
  replace Mzp := Mzp.below hw
  replace Mxq := Mxq.below hw
  replace Myq := Myq.below hw
  replace Mzq := Mzq.below hw
  replace Md := Md.below hw
  replace M7 := M7.below hw
  replace M8 := M8.below hw
  replace M9 := M9.below hw
  replace M10 := M10.below hw
  replace M11 := M11.below hw
  replace M12 := M12.below hw
  replace M13 := M13.below hw
  replace hW := hW.trans (Below.mono hw hW.size)
  clear hw
  go_upto_region 9 with (fail)
  have s8 := hW.size
  refine region_seq2 16 75 (fun _ => false) [Is (.slice A7 16 c7), Is (.slice A12 16 c12), Is (.slice A58 16 c58), IsN (((((c.z * c'.z : Fin NT.PN) * (c.z * c'.z : Fin NT.PN) : Fin NT.PN) - (d * ((c.x * c'.x : Fin NT.PN) * (c.y * c'.y : Fin NT.PN) : Fin NT.PN) : Fin NT.PN) : Fin NT.PN) * ((((c.x + c.y : Fin NT.PN) * (c'.x + c'.y : Fin NT.PN) : Fin NT.PN) - (c.x * c'.x : Fin NT.PN) : Fin NT.PN) - (c.y * c'.y : Fin NT.PN) : Fin NT.PN) : Fin NT.PN)).val, IsN (((c.z * c'.z : Fin NT.PN) * ((((c.z * c'.z : Fin NT.PN) * (c.z * c'.z : Fin NT.PN) : Fin NT.PN) - (d * ((c.x * c'.x : Fin NT.PN) * (c.y * c'.y : Fin NT.PN) : Fin NT.PN) : Fin NT.PN) : Fin NT.PN) * ((((c.x + c.y : Fin NT.PN) * (c'.x + c'.y : Fin NT.PN) : Fin NT.PN) - (c.x * c'.x : Fin NT.PN) : Fin NT.PN) - (c.y * c'.y : Fin NT.PN) : Fin NT.PN) : Fin NT.PN) : Fin NT.PN)).val, Is (.slice A7 16 c7), Is (.slice A13 16 c13), Is (.slice A10 16 c10), Is (.slice A9 16 c9), IsN (((c.y * c'.y : Fin NT.PN) + (c.x * c'.x : Fin NT.PN) : Fin NT.PN)).val, IsN (((((c.z * c'.z : Fin NT.PN) * (c.z * c'.z : Fin NT.PN) : Fin NT.PN) + (d * ((c.x * c'.x : Fin NT.PN) * (c.y * c'.y : Fin NT.PN) : Fin NT.PN) : Fin NT.PN) : Fin NT.PN) * ((c.y * c'.y : Fin NT.PN) + (c.x * c'.x : Fin NT.PN) : Fin NT.PN) : Fin NT.PN)).val, IsN (((c.z * c'.z : Fin NT.PN) * ((((c.z * c'.z : Fin NT.PN) * (c.z * c'.z : Fin NT.PN) : Fin NT.PN) + (d * ((c.x * c'.x : Fin NT.PN) * (c.y * c'.y : Fin NT.PN) : Fin NT.PN) : Fin NT.PN) : Fin NT.PN) * ((c.y * c'.y : Fin NT.PN) + (c.x * c'.x : Fin NT.PN) : Fin NT.PN) : Fin NT.PN) : Fin NT.PN)).val, Is (.slice A12 16 c12), Is (.slice A13 16 c13), IsN (((((c.z * c'.z : Fin NT.PN) * (c.z * c'.z : Fin NT.PN) : Fin NT.PN) - (d * ((c.x * c'.x : Fin NT.PN) * (c.y * c'.y : Fin NT.PN) : Fin NT.PN) : Fin NT.PN) : Fin NT.PN) * (((c.z * c'.z : Fin NT.PN) * (c.z * c'.z : Fin NT.PN) : Fin NT.PN) + (d * ((c.x * c'.x : Fin NT.PN) * (c.y * c'.y : Fin NT.PN) : Fin NT.PN) : Fin NT.PN) : Fin NT.PN) : Fin NT.PN)).val, IsP ⟨((c.z * c'.z : Fin NT.PN) * ((((c.z * c'.z : Fin NT.PN) * (c.z * c'.z : Fin NT.PN) : Fin NT.PN) - (d * ((c.x * c'.x : Fin NT.PN) * (c.y * c'.y : Fin NT.PN) : Fin NT.PN) : Fin NT.PN) : Fin NT.PN) * ((((c.x + c.y : Fin NT.PN) * (c'.x + c'.y : Fin NT.PN) : Fin NT.PN) - (c.x * c'.x : Fin NT.PN) : Fin NT.PN) - (c.y * c'.y : Fin NT.PN) : Fin NT.PN) : Fin NT.PN) : Fin NT.PN), ((c.z * c'.z : Fin NT.PN) * ((((c.z * c'.z : Fin NT.PN) * (c.z * c'.z : Fin NT.PN) : Fin NT.PN) + (d * ((c.x * c'.x : Fin NT.PN) * (c.y * c'.y : Fin NT.PN) : Fin NT.PN) : Fin NT.PN) : Fin NT.PN) * ((c.y * c'.y : Fin NT.PN) + (c.x * c'.x : Fin NT.PN) : Fin NT.PN) : Fin NT.PN) : Fin NT.PN), ((((c.z * c'.z : Fin NT.PN) * (c.z * c'.z : Fin NT.PN) : Fin NT.PN) - (d * ((c.x * c'.x : Fin NT.PN) * (c.y * c'.y : Fin NT.PN) : Fin NT.PN) : Fin NT.PN) : Fin NT.PN) * (((c.z * c'.z : Fin NT.PN) * (c.z * c'.z : Fin NT.PN) : Fin NT.PN) + (d * ((c.x * c'.x : Fin NT.PN) * (c.y * c'.y : Fin NT.PN) : Fin NT.PN) : Fin NT.PN) : Fin NT.PN) : Fin NT.PN)⟩] [59, 60, 61, 62, 63, 64, 65, 66, 67, 68, 69, 70, 71, 72, 73, 74] (by kernel_rfl) (by kernel_rfl) (Nat.le_of_eq rfl) (grows_cons (Is.grows _) (grows_cons (Is.grows _) (grows_cons (Is.grows _) (grows_cons (IsN.grows _) (grows_cons (IsN.grows _) (grows_cons (Is.grows _) (grows_cons (Is.grows _) (grows_cons (Is.grows _) (grows_cons (Is.grows _) (grows_cons (IsN.grows _) (grows_cons (IsN.grows _) (grows_cons (IsN.grows _) (grows_cons (Is.grows _) (grows_cons (Is.grows _) (grows_cons (IsN.grows _) (grows_cons (IsP.grows _) grows_nil))))))))))))))))
    ⟨step_mv rfl (.inl rfl) rfl rfl (knows_out 7 (by kernel_rfl) rfl),
     step_mv rfl (.inl rfl) rfl rfl (knows_out 12 (by kernel_rfl) rfl),
     step_mv rfl (.inl rfl) rfl rfl (knows_out 14 (by kernel_rfl) rfl),
     step_rn rfl (.inl rfl) rfl cf23 rfl (rn2 ((knows_in 1 60 (by decide) (by kernel_rfl) rfl rfl).r H12 M12) ((knows_in 2 61 (by decide) (by kernel_rfl) rfl rfl).r H58 M58) (fun h1 h2 h3 h4 => rf_mul h1 h2 h3 h4)),
     step_rn rfl (.inl rfl) rfl cf23 rfl (rn2 ((knows_in 0 59 (by decide) (by kernel_rfl) rfl rfl).r H7 M7) (knowsN_in 3 62 (by decide) (by kernel_rfl) rfl rfl) (fun h1 h2 h3 h4 => rf_mul h1 h2 h3 h4)),
     step_mv rfl (.inl rfl) rfl rfl (knows_out 7 (by kernel_rfl) rfl),
     step_mv rfl (.inl rfl) rfl rfl (knows_out 13 (by kernel_rfl) rfl),
     step_mv rfl (.inl rfl) rfl rfl (knows_out 10 (by kernel_rfl) rfl),
     step_mv rfl (.inl rfl) rfl rfl (knows_out 9 (by kernel_rfl) rfl),
     step_rn rfl (.inl rfl) rfl cf19 rfl (rn2 ((knows_in 7 66 (by decide) (by kernel_rfl) rfl rfl).r H10 M10) ((knows_in 8 67 (by decide) (by kernel_rfl) rfl rfl).r H9 M9) (fun h1 h2 h3 h4 => rf_add h1 h2 h3 h4)),
     step_rn rfl (.inl rfl) rfl cf23 rfl (rn2 ((knows_in 6 65 (by decide) (by kernel_rfl) rfl rfl).r H13 M13) (knowsN_in 9 68 (by decide) (by kernel_rfl) rfl rfl) (fun h1 h2 h3 h4 => rf_mul h1 h2 h3 h4)),
     step_rn rfl (.inl rfl) rfl cf23 rfl (rn2 ((knows_in 5 64 (by decide) (by kernel_rfl) rfl rfl).r H7 M7) (knowsN_in 10 69 (by decide) (by kernel_rfl) rfl rfl) (fun h1 h2 h3 h4 => rf_mul h1 h2 h3 h4)),
     step_mv rfl (.inl rfl) rfl rfl (knows_out 12 (by kernel_rfl) rfl),
     step_mv rfl (.inl rfl) rfl rfl (knows_out 13 (by kernel_rfl) rfl),
     step_rn rfl (.inl rfl) rfl cf23 rfl (rn2 ((knows_in 12 71 (by decide) (by kernel_rfl) rfl rfl).r H12 M12) ((knows_in 13 72 (by decide) (by kernel_rfl) rfl rfl).r H13 M13) (fun h1 h2 h3 h4 => rf_mul h1 h2 h3 h4)),
     step_make47 (c := ⟨((c.z * c'.z : Fin NT.PN) * ((((c.z * c'.z : Fin NT.PN) * (c.z * c'.z : Fin NT.PN) : Fin NT.PN) - (d * ((c.x * c'.x : Fin NT.PN) * (c.y * c'.y : Fin NT.PN) : Fin NT.PN) : Fin NT.PN) : Fin NT.PN) * ((((c.x + c.y : Fin NT.PN) * (c'.x + c'.y : Fin NT.PN) : Fin NT.PN) - (c.x * c'.x : Fin NT.PN) : Fin NT.PN) - (c.y * c'.y : Fin NT.PN) : Fin NT.PN) : Fin NT.PN) : Fin NT.PN), ((c.z * c'.z : Fin NT.PN) * ((((c.z * c'.z : Fin NT.PN) * (c.z * c'.z : Fin NT.PN) : Fin NT.PN) + (d * ((c.x * c'.x : Fin NT.PN) * (c.y * c'.y : Fin NT.PN) : Fin NT.PN) : Fin NT.PN) : Fin NT.PN) * ((c.y * c'.y : Fin NT.PN) + (c.x * c'.x : Fin NT.PN) : Fin NT.PN) : Fin NT.PN) : Fin NT.PN), ((((c.z * c'.z : Fin NT.PN) * (c.z * c'.z : Fin NT.PN) : Fin NT.PN) - (d * ((c.x * c'.x : Fin NT.PN) * (c.y * c'.y : Fin NT.PN) : Fin NT.PN) : Fin NT.PN) : Fin NT.PN) * (((c.z * c'.z : Fin NT.PN) * (c.z * c'.z : Fin NT.PN) : Fin NT.PN) + (d * ((c.x * c'.x : Fin NT.PN) * (c.y * c'.y : Fin NT.PN) : Fin NT.PN) : Fin NT.PN) : Fin NT.PN) : Fin NT.PN)⟩) rfl (.inl rfl) rfl rfl (knowsN_in 4 63 (by decide) (by kernel_rfl) rfl rfl) (knowsN_in 11 70 (by decide) (by kernel_rfl) rfl rfl) (knowsN_in 14 73 (by decide) (by kernel_rfl) rfl rfl), trivial⟩ ?_
  intro val w9 hw hS hap hla
  have e59 : val 59 = (.slice A7 16 c7) := hS 0 59 (by decide) rfl
  have e60 : val 60 = (.slice A12 16 c12) := hS 1 60 (by decide) rfl
  have e61 : val 61 = (.slice A58 16 c58) := hS 2 61 (by decide) rfl
  obtain ⟨A62, c62, y62, e62, H62, M62⟩ := hS 3 62 (by decide) rfl
  obtain ⟨A63, c63, y63, e63, H63, M63⟩ := hS 4 63 (by decide) rfl
  have e64 : val 64 = (.slice A7 16 c7) := hS 5 64 (by decide) rfl
  have e65 : val 65 = (.slice A13 16 c13) := hS 6 65 (by decide) rfl
  have e66 : val 66 = (.slice A10 16 c10) := hS 7 66 (by decide) rfl
  have e67 : val 67 = (.slice A9 16 c9) := hS 8 67 (by decide) rfl
  obtain ⟨A68, c68, y68, e68, H68, M68⟩ := hS 9 68 (by decide) rfl
  obtain ⟨A69, c69, y69, e69, H69, M69⟩ := hS 10 69 (by decide) rfl
  obtain ⟨A70, c70, y70, e70, H70, M70⟩ := hS 11 70 (by decide) rfl
  have e71 : val 71 = (.slice A12 16 c12) := hS 12 71 (by decide) rfl
  have e72 : val 72 = (.slice A13 16 c13) := hS 13 72 (by decide) rfl
  obtain ⟨A73, c73, y73, e73, H73, M73⟩ := hS 14 73 (by decide) rfl
  obtain ⟨A74, B74, C74, a74, b_74, d74, x74, y74, z74, e74, Hx74, Hy74, Hz74, Mx74, My74, Mz74⟩ := hS 15 74 (by decide) rfl
  simp only [putVals, List.foldl_cons, List.foldl_nil, List.drop_succ_cons, List.drop_zero, Act.put, List.setIfInBounds_toArray, List.set_cons_succ, List.set_cons_zero, e59, e60, e61, e62, e63, e64, e65, e66, e67, e68, e69, e70, e71, e72, e73, e74]
  clear hS hap hla e59 e60 e61 e62 e63 e64 e65 e66 e67 e68 e69 e70 e71 e72 e73 e74 
  replace h3 := h3.next hw
  replace h4 := h4.next hw
  replace h6 := h6.next hw
  replace Mxp := Mxp.below hw
  replace Myp := Myp.below hw
  replace Mzp := Mzp.below hw
  replace Mxq := Mxq.below hw
  replace Myq := Myq.below hw
  replace Mzq := Mzq.below hw
  replace Md := Md.below hw
  replace M7 := M7.below hw
  replace M8 := M8.below hw
  replace M9 := M9.below hw
  replace M10 := M10.below hw
  replace M11 := M11.below hw
  replace M12 := M12.below hw
  replace M13 := M13.below hw
  replace M58 := M58.below hw
  replace hW := hW.trans (Below.mono hw hW.size)
  clear hw
  have R6 := h6.room (us := (pv3 A74 B74 C74 a74 b_74 d74)) rfl
  replace h3 := h3.pastAt 0 (b' := (W.heap.size + 1 + 1)) (pv3 A74 B74 C74 a74 b_74 d74).toArray.toList (by omega)
  replace h4 := h4.pastAt 0 (b' := (W.heap.size + 1 + 1)) (pv3 A74 B74 C74 a74 b_74 d74).toArray.toList (by omega)
  replace Mxp := h6.row Hxp Mxp (pv3 A74 B74 C74 a74 b_74 d74).toArray.toList
  replace Myp := h6.row Hyp Myp (pv3 A74 B74 C74 a74 b_74 d74).toArray.toList
  replace Mzp := h6.row Hzp Mzp (pv3 A74 B74 C74 a74 b_74 d74).toArray.toList
  replace Mxq := h6.row Hxq Mxq (pv3 A74 B74 C74 a74 b_74 d74).toArray.toList
  replace Myq := h6.row Hyq Myq (pv3 A74 B74 C74 a74 b_74 d74).toArray.toList
  replace Mzq := h6.row Hzq Mzq (pv3 A74 B74 C74 a74 b_74 d74).toArray.toList
  replace Md := h6.row Hd Md (pv3 A74 B74 C74 a74 b_74 d74).toArray.toList
  replace M7 := h6.row H7 M7 (pv3 A74 B74 C74 a74 b_74 d74).toArray.toList
  replace M8 := h6.row H8 M8 (pv3 A74 B74 C74 a74 b_74 d74).toArray.toList
  replace M9 := h6.row H9 M9 (pv3 A74 B74 C74 a74 b_74 d74).toArray.toList
  replace M10 := h6.row H10 M10 (pv3 A74 B74 C74 a74 b_74 d74).toArray.toList
  replace M11 := h6.row H11 M11 (pv3 A74 B74 C74 a74 b_74 d74).toArray.toList
  replace M12 := h6.row H12 M12 (pv3 A74 B74 C74 a74 b_74 d74).toArray.toList
  replace M13 := h6.row H13 M13 (pv3 A74 B74 C74 a74 b_74 d74).toArray.toList
  replace M58 := h6.row H58 M58 (pv3 A74 B74 C74 a74 b_74 d74).toArray.toList
  replace M62 := h6.row H62 M62 (pv3 A74 B74 C74 a74 b_74 d74).toArray.toList
  replace M63 := h6.row H63 M63 (pv3 A74 B74 C74 a74 b_74 d74).toArray.toList
  replace M68 := h6.row H68 M68 (pv3 A74 B74 C74 a74 b_74 d74).toArray.toList
  replace M69 := h6.row H69 M69 (pv3 A74 B74 C74 a74 b_74 d74).toArray.toList
  replace M70 := h6.row H70 M70 (pv3 A74 B74 C74 a74 b_74 d74).toArray.toList
  replace M73 := h6.row H73 M73 (pv3 A74 B74 C74 a74 b_74 d74).toArray.toList
  replace Mx74 := h6.row Hx74 Mx74 (pv3 A74 B74 C74 a74 b_74 d74).toArray.toList
  replace My74 := h6.row Hy74 My74 (pv3 A74 B74 C74 a74 b_74 d74).toArray.toList
  replace Mz74 := h6.row Hz74 Mz74 (pv3 A74 B74 C74 a74 b_74 d74).toArray.toList
  replace h6 := h6.stored (us := (pv3 A74 B74 C74 a74 b_74 d74)) rfl (pv3_sl _ _ _ _ _ _)
  replace hW := Below.setCells hW (g := (W.heap.size + 1 + 1)) (by omega) 0 (pv3 A74 B74 C74 a74 b_74 d74).toArray.toList
  with_reducible refine wpList_store_mid (op := ⟨none, .store 47 (.tmp 6) (.tmp 74), _, _, _, _⟩) rfl 47 (.tmp 6) (.tmp 74) rfl (W.heap.size + 1 + 1) 0 (pv3 A74 B74 C74 a74 b_74 d74).toArray rfl rfl R6 (a47 rfl) (sl_one (pv3_sl _ _ _ _ _ _)) ?_
  generalize (w9.setCells (W.heap.size + 1 + 1) 0 (pv3 A74 B74 C74 a74 b_74 d74).toArray.toList) = w10 at *
  clear R6
  go_wp2_with (fail)
  exact ret_rows rfl (W.heap.size + 1 + 1) 0 rfl (pv3 A74 B74 C74 a74 b_74 d74) _ h6.range Tryd.underlying47 rfl (l47 rfl) rfl ⟨_, rfl, ⟨_, _, _, _, _, _, x74, y74, z74, rfl, Hx74, Hy74, Hz74, Mx74, My74, Mz74⟩, hW⟩
end Go.Proofs.YtpaopdjbhmdfjaaDoor
