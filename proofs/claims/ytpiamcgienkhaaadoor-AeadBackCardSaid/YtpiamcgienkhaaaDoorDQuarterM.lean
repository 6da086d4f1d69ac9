/- The reference's quarter rounds. -/
import Derived.Test.YtpiamcgienkhaaaDoorG7
import Derived.Test.YtpiamcgienkhaaaDoorG8
namespace Go.Proofs.YtpiamcgienkhaaaDoor
open Go Go.RowKit

set_option maxRecDepth 50000 in
theorem set8 (l : List Int) {a b c d : Nat} (h1 : a ≠ b) (h2 : a ≠ c) (h3 : a ≠ d) (h4 : b ≠ c) (h5 : b ≠ d) (h6 : c ≠ d) (a1 d1 c1 b1 a2 d2 c2 b2 : Int) :
    ((((((((l.set a a1).set d d1).set c c1).set b b1).set a a2).set d d2).set c c2).set b b2) = (((l.set a a2).set b b2).set c c2).set d d2 := by
  apply List.ext_getElem?
  intro i
  simp only [List.getElem?_set, List.length_set]
  by_cases ha : a = i <;> by_cases hb : b = i <;> by_cases hc : c = i <;> by_cases hd : d = i <;> simp [ha, hb, hc, hd] <;> omega

set_option maxRecDepth 4000 in
set_option maxHeartbeats 4000000 in
theorem rquarter_any (g n cp ia ib ic ie : Nat) (l : List Int) (w : World) (hl : Hid (l.length = n)) (hw0 : Hid (Wds l)) (q1 : ia < n) (q2 : ib < n) (q3 : ic < n) (q4 : ie < n)
    (D12 : ia ≠ ib) (D13 : ia ≠ ic) (D14 : ia ≠ ie) (D23 : ib ≠ ic) (D24 : ib ≠ ie) (D34 : ic ≠ ie) (hA : Arr w g 0 .u32 l) :
    Calls Tryd.prog 35 #[.slice (some ⟨g, 0, none⟩) n cp, .int .i64 (ia : Int), .int .i64 (ib : Int), .int .i64 (ic : Int), .int .i64 (ie : Int)] w fun e w' => e = .returned (.tuple #[]) ∧ Arr w' g 0 .u32 (qAt l (ia, ib, ic, ie)) ∧ Only g w w' := by
  have D21 := Ne.symm D12
  have D31 := Ne.symm D13
  have D41 := Ne.symm D14
  have D32 := Ne.symm D23
  have D42 := Ne.symm D24
  have D43 := Ne.symm D34
  have ha0 : (0 : Int) ≤ ia := by omega
  have hb0 : (0 : Int) ≤ ib := by omega
  have hc0 : (0 : Int) ≤ ic := by omega
  have he0 : (0 : Int) ≤ ie := by omega
  have ha1 : (ia : Int) < n := by omega
  have hb1 : (ib : Int) < n := by omega
  have hc1 : (ic : Int) < n := by omega
  have he1 : (ie : Int) < n := by omega
  obtain ⟨xa, hxa⟩ : ∃ x, l[ia]? = some x := ⟨l[ia]'(by rw [hl.out]; exact q1), by simp [hl.out, q1]⟩
  obtain ⟨xb, hxb⟩ : ∃ x, l[ib]? = some x := ⟨l[ib]'(by rw [hl.out]; exact q2), by simp [hl.out, q2]⟩
  obtain ⟨xc, hxc⟩ : ∃ x, l[ic]? = some x := ⟨l[ic]'(by rw [hl.out]; exact q3), by simp [hl.out, q3]⟩
  obtain ⟨xd, hxd⟩ : ∃ x, l[ie]? = some x := ⟨l[ie]'(by rw [hl.out]; exact q4), by simp [hl.out, q4]⟩
  have hwb := hw0.out.at_ hxb
  have hwd := hw0.out.at_ hxd
  obtain ⟨a1, e1⟩ : ∃ z, (xa + xb) % 4294967296 = z := ⟨_, rfl⟩
  obtain ⟨x1, f1⟩ : ∃ z, bits .xor .u32 xd a1 = z := ⟨_, rfl⟩
  obtain ⟨d1, g1⟩ : ∃ z, rot x1 16 = z := ⟨_, rfl⟩
  obtain ⟨c1, e2⟩ : ∃ z, (xc + d1) % 4294967296 = z := ⟨_, rfl⟩
  obtain ⟨x2, f2⟩ : ∃ z, bits .xor .u32 xb c1 = z := ⟨_, rfl⟩
  obtain ⟨b1, g2⟩ : ∃ z, rot x2 20 = z := ⟨_, rfl⟩
  obtain ⟨a2, e3⟩ : ∃ z, (a1 + b1) % 4294967296 = z := ⟨_, rfl⟩
  obtain ⟨x3, f3⟩ : ∃ z, bits .xor .u32 d1 a2 = z := ⟨_, rfl⟩
  obtain ⟨d2, g3⟩ : ∃ z, rot x3 24 = z := ⟨_, rfl⟩
  obtain ⟨c2, e4⟩ : ∃ z, (c1 + d2) % 4294967296 = z := ⟨_, rfl⟩
  obtain ⟨x4, f4⟩ : ∃ z, bits .xor .u32 b1 c2 = z := ⟨_, rfl⟩
  obtain ⟨b2, g4⟩ : ∃ z, rot x4 25 = z := ⟨_, rfl⟩
  have r1 : qa xa xb xc xd = a2 := by subst e1 f1 g1 e2 f2 g2 e3; rfl
  have r2 : qb xa xb xc xd = b2 := by subst e1 f1 g1 e2 f2 g2 e3 f3 g3 e4 f4 g4; rfl
  have r3 : qc xa xb xc xd = c2 := by subst e1 f1 g1 e2 f2 g2 e3 f3 g3 e4; rfl
  have r4 : qd xa xb xc xd = d2 := by subst e1 f1 g1 e2 f2 g2 e3 f3 g3; rfl
  have Hx1 : Hid (Wd x1) := hid (by rw [← f1]; exact xr_wd hwd (by rw [← e1]; exact pl_wd _ _))
  have k1 : Wd d1 := by rw [← g1]; exact rot_wd (by omega) Hx1.out
  have Hx2 : Hid (Wd x2) := hid (by rw [← f2]; exact xr_wd hwb (by rw [← e2]; exact pl_wd _ _))
  have k2 : Wd b1 := by rw [← g2]; exact rot_wd (by omega) Hx2.out
  have Hx3 : Hid (Wd x3) := hid (by rw [← f3]; exact xr_wd k1 (by rw [← e3]; exact pl_wd _ _))
  have Hx4 : Hid (Wd x4) := hid (by rw [← f4]; exact xr_wd k2 (by rw [← e4]; exact pl_wd _ _))
  have Gx1 := hid g1
  have Gx2 := hid g2
  have Gx3 := hid g3
  have Gx4 := hid g4
  have RES : Hid (qAt l (ia, ib, ic, ie) = ((((((((l.set ia a1).set ie d1).set ic c1).set ib b1).set ia a2).set ie d2).set ic c2).set ib b2)) := hid (by
    rw [set8 l D12 D13 D14 D23 D24 D34]
    unfold qAt
    simp only [List.getD_eq_getElem?_getD, hxa, hxb, hxc, hxd, Option.getD_some, r1, r2, r3, r4])
  have F1 := hid hxa
  have F2 := hid hxb
  have F3 := hid hxc
  have F4 := hid hxd
  have HP0 : Hid (0 < l.length) := hid (by rw [hl.out]; omega)
  have hgl : g < w.heap.size := hA.lt HP0.out
  have hO : Only g w w := Only.refl _ _
  clear g1 g2 g3 g4 k1 k2 r1 r2 r3 r4 hxa hxb hxc hxd hwb hwd hl hw0 q1 q2 q3 q4
  obtain ⟨l1, hl1⟩ : ∃ m, l.set ia a1 = m := ⟨_, rfl⟩
  obtain ⟨l2, hl2⟩ : ∃ m, l1.set ie d1 = m := ⟨_, rfl⟩
  obtain ⟨l3, hl3⟩ : ∃ m, l2.set ic c1 = m := ⟨_, rfl⟩
  obtain ⟨l4, hl4⟩ : ∃ m, l3.set ib b1 = m := ⟨_, rfl⟩
  obtain ⟨l5, hl5⟩ : ∃ m, l4.set ia a2 = m := ⟨_, rfl⟩
  obtain ⟨l6, hl6⟩ : ∃ m, l5.set ie d2 = m := ⟨_, rfl⟩
  obtain ⟨l7, hl7⟩ : ∃ m, l6.set ic c2 = m := ⟨_, rfl⟩
  obtain ⟨l8, hl8⟩ : ∃ m, l7.set ib b2 = m := ⟨_, rfl⟩
  have RES2 : Hid (qAt l (ia, ib, ic, ie) = l8) := hid (by rw [RES.out, hl1, hl2, hl3, hl4, hl5, hl6, hl7, hl8])
  have L1 := hid hl1
  have L2 := hid hl2
  have L3 := hid hl3
  have L4 := hid hl4
  have L5 := hid hl5
  have L6 := hid hl6
  have L7 := hid hl7
  have L8 := hid hl8
  clear RES hl1 hl2 hl3 hl4 hl5 hl6 hl7 hl8
  have E1 : IntKind.u32.wrap (xa + xb) = a1 := by rw [IntKind.wrap_u32]; exact e1
  have E2 : IntKind.u32.wrap (xc + d1) = c1 := by rw [IntKind.wrap_u32]; exact e2
  have E3 : IntKind.u32.wrap (a1 + b1) = a2 := by rw [IntKind.wrap_u32]; exact e3
  have E4 : IntKind.u32.wrap (c1 + d2) = c2 := by rw [IntKind.wrap_u32]; exact e4
  rw [RES2.out]
  go_enter Tryd.func35, Tryd.ntmps35
  go_wp2
  have hS0 : ∀ ww, Cl w ww → Arr ww g 0 .u32 l := fun ww h => hA.below h hgl
  obtain ⟨up, hup⟩ : ∃ up : Nat → World → World, up = fun _ ww => ww.setCell ⟨g, ia, none⟩ (.int .u32 a1) := ⟨_, rfl⟩
  have hu : ∀ ww, up 0 ww = ww.setCell ⟨g, ia, none⟩ (.int .u32 a1) := fun ww => by rw [hup]
  clear hup
  refine region_many 110 (tvOf [(10, (.slice (some ⟨g, 0, none⟩) n cp)), (11, (.int .i64 (ia : Int))), (12, (.slice (some ⟨g, 0, none⟩) n cp)), (13, (.int .i64 (ia : Int))), (14, (.pointer (some ⟨g, ia, none⟩))), (15, (.int .u32 xa)), (16, (.slice (some ⟨g, 0, none⟩) n cp)), (17, (.int .i64 (ib : Int))), (18, (.pointer (some ⟨g, ib, none⟩))), (19, (.int .u32 xb)), (20, (.int .u32 a1)), (21, (.pointer (some ⟨g, ia, none⟩)))]) (kdOf [0, 0, 0, 0, 0, 1, 0, 0, 0, 1, 0, 0, 2]) [12] up [10, 11, 12, 13, 14, 15, 16, 17, 18, 19, 20, 21] (by kernel_rfl) (by kernel_rfl) (by kernel_rfl) (Nat.le_of_eq rfl)
    ⟨.pure rfl rfl 10 rfl fun a ww hf hd => show _ = Result.ok (Next.value ((.slice (some ⟨g, 0, none⟩) n cp))) ww by
       have h0 : a.eval (.tmp 0) = (.slice (some ⟨g, 0, none⟩) n cp) := (outM hf 0 (by kernel_rfl)).trans rfl
       revert h0
       generalize a.eval = ev
       intro h0
       unfold execOp
       simp only [h0]
       (try go_simp),
     .pure rfl rfl 11 rfl fun a ww hf hd => show _ = Result.ok (Next.value ((.int .i64 (ia : Int)))) ww by
       have h1 : a.eval (.tmp 1) = (.int .i64 (ia : Int)) := (outM hf 1 (by kernel_rfl)).trans rfl
       revert h1
       generalize a.eval = ev
       intro h1
       unfold execOp
       simp only [h1]
       (try go_simp),
     .pure rfl rfl 12 rfl fun a ww hf hd => show _ = Result.ok (Next.value ((.slice (some ⟨g, 0, none⟩) n cp))) ww by
       have h0 : a.eval (.tmp 0) = (.slice (some ⟨g, 0, none⟩) n cp) := (outM hf 0 (by kernel_rfl)).trans rfl
       revert h0
       generalize a.eval = ev
       intro h0
       unfold execOp
       simp only [h0]
       (try go_simp),
     .pure rfl rfl 13 rfl fun a ww hf hd => show _ = Result.ok (Next.value ((.int .i64 (ia : Int)))) ww by
       have h1 : a.eval (.tmp 1) = (.int .i64 (ia : Int)) := (outM hf 1 (by kernel_rfl)).trans rfl
       revert h1
       generalize a.eval = ev
       intro h1
       unfold execOp
       simp only [h1]
       (try go_simp),
     .pure rfl rfl 14 rfl fun a ww hf hd => show _ = Result.ok (Next.value ((.pointer (some ⟨g, ia, none⟩)))) ww by
       have h12 : a.eval (.tmp 12) = (.slice (some ⟨g, 0, none⟩) n cp) := hd 2 12 (by kernel_rfl) rfl
       have h13 : a.eval (.tmp 13) = (.int .i64 (ia : Int)) := hd 3 13 (by kernel_rfl) rfl
       revert h12 h13
       generalize a.eval = ev
       intro h12 h13
       unfold execOp
       simp only [h12, h13]
       (try go_simp),
     .run rfl rfl 15 rfl fun a ww hw hf hd => show _ = Result.ok (Next.value ((.int .u32 xa))) ww by
       have h14 : a.eval (.tmp 14) = (.pointer (some ⟨g, ia, none⟩)) := hd 4 14 (by kernel_rfl) rfl
       have hcc := (hS0 ww hw).at_ F1.out
       rw [Nat.zero_add] at hcc
       revert h14
       generalize a.eval = ev
       intro h14
       unfold execOp
       simp only [h14]
       (try go_simp),
     .pure rfl rfl 16 rfl fun a ww hf hd => show _ = Result.ok (Next.value ((.slice (some ⟨g, 0, none⟩) n cp))) ww by
       have h0 : a.eval (.tmp 0) = (.slice (some ⟨g, 0, none⟩) n cp) := (outM hf 0 (by kernel_rfl)).trans rfl
       revert h0
       generalize a.eval = ev
       intro h0
       unfold execOp
       simp only [h0]
       (try go_simp),
     .pure rfl rfl 17 rfl fun a ww hf hd => show _ = Result.ok (Next.value ((.int .i64 (ib : Int)))) ww by
       have h2 : a.eval (.tmp 2) = (.int .i64 (ib : Int)) := (outM hf 2 (by kernel_rfl)).trans rfl
       revert h2
       generalize a.eval = ev
       intro h2
       unfold execOp
       simp only [h2]
       (try go_simp),
     .pure rfl rfl 18 rfl fun a ww hf hd => show _ = Result.ok (Next.value ((.pointer (some ⟨g, ib, none⟩)))) ww by
       have h16 : a.eval (.tmp 16) = (.slice (some ⟨g, 0, none⟩) n cp) := hd 6 16 (by kernel_rfl) rfl
       have h17 : a.eval (.tmp 17) = (.int .i64 (ib : Int)) := hd 7 17 (by kernel_rfl) rfl
       revert h16 h17
       generalize a.eval = ev
       intro h16 h17
       unfold execOp
       simp only [h16, h17]
       (try go_simp),
     .run rfl rfl 19 rfl fun a ww hw hf hd => show _ = Result.ok (Next.value ((.int .u32 xb))) ww by
       have h18 : a.eval (.tmp 18) = (.pointer (some ⟨g, ib, none⟩)) := hd 8 18 (by kernel_rfl) rfl
       have hcc := (hS0 ww hw).at_ F2.out
       rw [Nat.zero_add] at hcc
       revert h18
       generalize a.eval = ev
       intro h18
       unfold execOp
       simp only [h18]
       (try go_simp),
     .pure rfl rfl 20 rfl fun a ww hf hd => show _ = Result.ok (Next.value ((.int .u32 a1))) ww by
       have h15 : a.eval (.tmp 15) = (.int .u32 xa) := hd 5 15 (by kernel_rfl) rfl
       have h19 : a.eval (.tmp 19) = (.int .u32 xb) := hd 9 19 (by kernel_rfl) rfl
       revert h15 h19
       generalize a.eval = ev
       intro h15 h19
       unfold execOp
       simp only [h15, h19]
       (try go_simp),
     .pure rfl rfl 21 rfl fun a ww hf hd => show _ = Result.ok (Next.value ((.pointer (some ⟨g, ia, none⟩)))) ww by
       have h10 : a.eval (.tmp 10) = (.slice (some ⟨g, 0, none⟩) n cp) := hd 0 10 (by kernel_rfl) rfl
       have h11 : a.eval (.tmp 11) = (.int .i64 (ia : Int)) := hd 1 11 (by kernel_rfl) rfl
       revert h10 h11
       generalize a.eval = ev
       intro h10 h11
       unfold execOp
       simp only [h10, h11]
       (try go_simp),
     .put 0 rfl rfl rfl ⟨g, ia, none⟩ (.int .u32 a1) hu fun a ww hw hf hd => by
       have h21 : a.eval (.tmp 21) = (.pointer (some ⟨g, ia, none⟩)) := hd 11 21 (by kernel_rfl) rfl
       have h20 : a.eval (.tmp 20) = (.int .u32 a1) := hd 10 20 (by kernel_rfl) rfl
       have hst : Arr (behind up 0 ww) g 0 .u32 l := hS0 ww hw
       have hcc := hst.at_ F1.out
       have hff := hst.free (List.getElem?_eq_some_iff.1 F1.out).1
       rw [Nat.zero_add] at hcc hff
       generalize behind up 0 ww = wb at *
       revert h21 h20
       generalize a.eval = ev
       intro h21 h20
       unfold execOp
       simp only [h21, h20]
       (try go_simp), trivial⟩ ?_
  intro val w9 hv hw
  have e10 : val 10 = (.slice (some ⟨g, 0, none⟩) n cp) := hv 10
  have e11 : val 11 = (.int .i64 (ia : Int)) := hv 11
  have e12 : val 12 = (.slice (some ⟨g, 0, none⟩) n cp) := hv 12
  have e13 : val 13 = (.int .i64 (ia : Int)) := hv 13
  have e14 : val 14 = (.pointer (some ⟨g, ia, none⟩)) := hv 14
  have e15 : val 15 = (.int .u32 xa) := hv 15
  have e16 : val 16 = (.slice (some ⟨g, 0, none⟩) n cp) := hv 16
  have e17 : val 17 = (.int .i64 (ib : Int)) := hv 17
  have e18 : val 18 = (.pointer (some ⟨g, ib, none⟩)) := hv 18
  have e19 : val 19 = (.int .u32 xb) := hv 19
  have e20 : val 20 = (.int .u32 a1) := hv 20
  have e21 : val 21 = (.pointer (some ⟨g, ia, none⟩)) := hv 21
  simp only [putVals, List.foldl_cons, List.foldl_nil, Act.put, List.setIfInBounds_toArray, List.set_cons_succ, List.set_cons_zero, e10, e11, e12, e13, e14, e15, e16, e17, e18, e19, e20, e21]
  clear hv e10 e11 e12 e13 e14 e15 e16 e17 e18 e19 e20 e21
  have hA9 : Arr (up 0 w9) g 0 .u32 l1 := by rw [hu, ← L1.out]; have := (hS0 w9 hw).set ia a1; rwa [Nat.zero_add] at this
  have hO9 : Only g w (up 0 w9) := by rw [hu]; exact (hO.trans (Only.of hw g)).setCell (.inl rfl) _
  change Arr (behind up [12].length w9) _ _ _ _ at hA9
  change Only g w (behind up [12].length w9) at hO9
  clear hA hO hS0 hu hw
  generalize behind up [12].length w9 = w1 at *
  clear up
  have hgl : g < w1.heap.size := hA9.lt (by rw [← L1.out, List.length_set]; exact HP0.out)
  have HP1 : Hid (0 < l1.length) := hid (by rw [← L1.out, List.length_set]; exact HP0.out)
  have hA := hA9
  have hO := hO9
  clear hA9 hO9
  have F1n : Hid (l1[ia]? = some a1) := hid (by rw [← L1.out, List.getElem?_set_self (List.getElem?_eq_some_iff.1 F1.out).1])
  have F2n : Hid (l1[ib]? = some xb) := hid (by rw [← L1.out, List.getElem?_set_ne D12]; exact F2.out)
  have F3n : Hid (l1[ic]? = some xc) := hid (by rw [← L1.out, List.getElem?_set_ne D13]; exact F3.out)
  have F4n : Hid (l1[ie]? = some xd) := hid (by rw [← L1.out, List.getElem?_set_ne D14]; exact F4.out)
  clear F1 F2 F3 F4
  have F1 := F1n
  have F2 := F2n
  have F3 := F3n
  have F4 := F4n
  clear F1n F2n F3n F4n
  go_wp2
  have hS0 : ∀ ww, Cl w1 ww → Arr ww g 0 .u32 l1 := fun ww h => hA.below h hgl
  obtain ⟨up, hup⟩ : ∃ up : Nat → World → World, up = fun _ ww => ww.setCell ⟨g, ie, none⟩ (.int .u32 d1) := ⟨_, rfl⟩
  have hu : ∀ ww, up 0 ww = ww.setCell ⟨g, ie, none⟩ (.int .u32 d1) := fun ww => by rw [hup]
  clear hup
  refine region_many 110 (tvOf [(22, (.slice (some ⟨g, 0, none⟩) n cp)), (23, (.int .i64 (ie : Int))), (24, (.slice (some ⟨g, 0, none⟩) n cp)), (25, (.int .i64 (ie : Int))), (26, (.pointer (some ⟨g, ie, none⟩))), (27, (.int .u32 xd)), (28, (.slice (some ⟨g, 0, none⟩) n cp)), (29, (.int .i64 (ia : Int))), (30, (.pointer (some ⟨g, ia, none⟩))), (31, (.int .u32 a1)), (32, (.int .u32 x1)), (33, (.int .u32 d1)), (34, (.pointer (some ⟨g, ie, none⟩)))]) (kdOf [0, 0, 0, 0, 0, 1, 0, 0, 0, 1, 0, 1, 0, 2]) [13] up [22, 23, 24, 25, 26, 27, 28, 29, 30, 31, 32, 33, 34] (by kernel_rfl) (by kernel_rfl) (by kernel_rfl) (Nat.le_of_eq rfl)
    ⟨.pure rfl rfl 22 rfl fun a ww hf hd => show _ = Result.ok (Next.value ((.slice (some ⟨g, 0, none⟩) n cp))) ww by
       have h0 : a.eval (.tmp 0) = (.slice (some ⟨g, 0, none⟩) n cp) := (outM hf 0 (by kernel_rfl)).trans rfl
       revert h0
       generalize a.eval = ev
       intro h0
       unfold execOp
       simp only [h0]
       (try go_simp),
     .pure rfl rfl 23 rfl fun a ww hf hd => show _ = Result.ok (Next.value ((.int .i64 (ie : Int)))) ww by
       have h4 : a.eval (.tmp 4) = (.int .i64 (ie : Int)) := (outM hf 4 (by kernel_rfl)).trans rfl
       revert h4
       generalize a.eval = ev
       intro h4
       unfold execOp
       simp only [h4]
       (try go_simp),
     .pure rfl rfl 24 rfl fun a ww hf hd => show _ = Result.ok (Next.value ((.slice (some ⟨g, 0, none⟩) n cp))) ww by
       have h0 : a.eval (.tmp 0) = (.slice (some ⟨g, 0, none⟩) n cp) := (outM hf 0 (by kernel_rfl)).trans rfl
       revert h0
       generalize a.eval = ev
       intro h0
       unfold execOp
       simp only [h0]
       (try go_simp),
     .pure rfl rfl 25 rfl fun a ww hf hd => show _ = Result.ok (Next.value ((.int .i64 (ie : Int)))) ww by
       have h4 : a.eval (.tmp 4) = (.int .i64 (ie : Int)) := (outM hf 4 (by kernel_rfl)).trans rfl
       revert h4
       generalize a.eval = ev
       intro h4
       unfold execOp
       simp only [h4]
       (try go_simp),
     .pure rfl rfl 26 rfl fun a ww hf hd => show _ = Result.ok (Next.value ((.pointer (some ⟨g, ie, none⟩)))) ww by
       have h24 : a.eval (.tmp 24) = (.slice (some ⟨g, 0, none⟩) n cp) := hd 2 24 (by kernel_rfl) rfl
       have h25 : a.eval (.tmp 25) = (.int .i64 (ie : Int)) := hd 3 25 (by kernel_rfl) rfl
       revert h24 h25
       generalize a.eval = ev
       intro h24 h25
       unfold execOp
       simp only [h24, h25]
       (try go_simp),
     .run rfl rfl 27 rfl fun a ww hw hf hd => show _ = Result.ok (Next.value ((.int .u32 xd))) ww by
       have h26 : a.eval (.tmp 26) = (.pointer (some ⟨g, ie, none⟩)) := hd 4 26 (by kernel_rfl) rfl
       have hcc := (hS0 ww hw).at_ F4.out
       rw [Nat.zero_add] at hcc
       revert h26
       generalize a.eval = ev
       intro h26
       unfold execOp
       simp only [h26]
       (try go_simp),
     .pure rfl rfl 28 rfl fun a ww hf hd => show _ = Result.ok (Next.value ((.slice (some ⟨g, 0, none⟩) n cp))) ww by
       have h0 : a.eval (.tmp 0) = (.slice (some ⟨g, 0, none⟩) n cp) := (outM hf 0 (by kernel_rfl)).trans rfl
       revert h0
       generalize a.eval = ev
       intro h0
       unfold execOp
       simp only [h0]
       (try go_simp),
     .pure rfl rfl 29 rfl fun a ww hf hd => show _ = Result.ok (Next.value ((.int .i64 (ia : Int)))) ww by
       have h1 : a.eval (.tmp 1) = (.int .i64 (ia : Int)) := (outM hf 1 (by kernel_rfl)).trans rfl
       revert h1
       generalize a.eval = ev
       intro h1
       unfold execOp
       simp only [h1]
       (try go_simp),
     .pure rfl rfl 30 rfl fun a ww hf hd => show _ = Result.ok (Next.value ((.pointer (some ⟨g, ia, none⟩)))) ww by
       have h28 : a.eval (.tmp 28) = (.slice (some ⟨g, 0, none⟩) n cp) := hd 6 28 (by kernel_rfl) rfl
       have h29 : a.eval (.tmp 29) = (.int .i64 (ia : Int)) := hd 7 29 (by kernel_rfl) rfl
       revert h28 h29
       generalize a.eval = ev
       intro h28 h29
       unfold execOp
       simp only [h28, h29]
       (try go_simp),
     .run rfl rfl 31 rfl fun a ww hw hf hd => show _ = Result.ok (Next.value ((.int .u32 a1))) ww by
       have h30 : a.eval (.tmp 30) = (.pointer (some ⟨g, ia, none⟩)) := hd 8 30 (by kernel_rfl) rfl
       have hcc := (hS0 ww hw).at_ F1.out
       rw [Nat.zero_add] at hcc
       revert h30
       generalize a.eval = ev
       intro h30
       unfold execOp
       simp only [h30]
       (try go_simp),
     .pure rfl rfl 32 rfl fun a ww hf hd => show _ = Result.ok (Next.value ((.int .u32 x1))) ww by
       have h27 : a.eval (.tmp 27) = (.int .u32 xd) := hd 5 27 (by kernel_rfl) rfl
       have h31 : a.eval (.tmp 31) = (.int .u32 a1) := hd 9 31 (by kernel_rfl) rfl
       revert h27 h31
       generalize a.eval = ev
       intro h27 h31
       unfold execOp
       simp only [h27, h31]
       (try go_simp),
     .call rfl rfl 33 rfl fun a ww hw hf hd => by
       have h32 : a.eval (.tmp 32) = (.int .u32 x1) := hd 10 32 (by kernel_rfl) rfl
       have c0 : a.eval (.const (.int .i64 (16))) = .int .i64 (16) := rfl
       have f16 : a.eval (.func 50) = .func (.func 50) #[] #[] := rfl
       refine ⟨50, #[(.int .u32 x1), (.int .i64 16)], ?_, (left_any x1 16 16 ww (by omega) (hid rfl) Hx1).mono fun e w2 ⟨he, hw2⟩ => ⟨by rw [he, Gx1.out]; rfl, by rw [← hw2]; exact Below.refl _ _⟩⟩
       revert h32 c0 f16
       generalize a.eval = ev
       intro h32 c0 f16
       unfold execOp
       simp only [h32, c0, f16]
       (try go_simp),
     .pure rfl rfl 34 rfl fun a ww hf hd => show _ = Result.ok (Next.value ((.pointer (some ⟨g, ie, none⟩)))) ww by
       have h22 : a.eval (.tmp 22) = (.slice (some ⟨g, 0, none⟩) n cp) := hd 0 22 (by kernel_rfl) rfl
       have h23 : a.eval (.tmp 23) = (.int .i64 (ie : Int)) := hd 1 23 (by kernel_rfl) rfl
       revert h22 h23
       generalize a.eval = ev
       intro h22 h23
       unfold execOp
       simp only [h22, h23]
       (try go_simp),
     .put 0 rfl rfl rfl ⟨g, ie, none⟩ (.int .u32 d1) hu fun a ww hw hf hd => by
       have h34 : a.eval (.tmp 34) = (.pointer (some ⟨g, ie, none⟩)) := hd 12 34 (by kernel_rfl) rfl
       have h33 : a.eval (.tmp 33) = (.int .u32 d1) := hd 11 33 (by kernel_rfl) rfl
       have hst : Arr (behind up 0 ww) g 0 .u32 l1 := hS0 ww hw
       have hcc := hst.at_ F4.out
       have hff := hst.free (List.getElem?_eq_some_iff.1 F4.out).1
       rw [Nat.zero_add] at hcc hff
       generalize behind up 0 ww = wb at *
       revert h34 h33
       generalize a.eval = ev
       intro h34 h33
       unfold execOp
       simp only [h34, h33]
       (try go_simp), trivial⟩ ?_
  intro val w9 hv hw
  have e22 : val 22 = (.slice (some ⟨g, 0, none⟩) n cp) := hv 22
  have e23 : val 23 = (.int .i64 (ie : Int)) := hv 23
  have e24 : val 24 = (.slice (some ⟨g, 0, none⟩) n cp) := hv 24
  have e25 : val 25 = (.int .i64 (ie : Int)) := hv 25
  have e26 : val 26 = (.pointer (some ⟨g, ie, none⟩)) := hv 26
  have e27 : val 27 = (.int .u32 xd) := hv 27
  have e28 : val 28 = (.slice (some ⟨g, 0, none⟩) n cp) := hv 28
  have e29 : val 29 = (.int .i64 (ia : Int)) := hv 29
  have e30 : val 30 = (.pointer (some ⟨g, ia, none⟩)) := hv 30
  have e31 : val 31 = (.int .u32 a1) := hv 31
  have e32 : val 32 = (.int .u32 x1) := hv 32
  have e33 : val 33 = (.int .u32 d1) := hv 33
  have e34 : val 34 = (.pointer (some ⟨g, ie, none⟩)) := hv 34
  simp only [putVals, List.foldl_cons, List.foldl_nil, Act.put, List.setIfInBounds_toArray, List.set_cons_succ, List.set_cons_zero, e22, e23, e24, e25, e26, e27, e28, e29, e30, e31, e32, e33, e34]
  clear hv e22 e23 e24 e25 e26 e27 e28 e29 e30 e31 e32 e33 e34
  have hA9 : Arr (up 0 w9) g 0 .u32 l2 := by rw [hu, ← L2.out]; have := (hS0 w9 hw).set ie d1; rwa [Nat.zero_add] at this
  have hO9 : Only g w (up 0 w9) := by rw [hu]; exact (hO.trans (Only.of hw g)).setCell (.inl rfl) _
  change Arr (behind up [13].length w9) _ _ _ _ at hA9
  change Only g w (behind up [13].length w9) at hO9
  clear hA hO hS0 hu hw
  generalize behind up [13].length w9 = w2 at *
  clear up
  have hgl : g < w2.heap.size := hA9.lt (by rw [← L2.out, List.length_set]; exact HP1.out)
  have HP2 : Hid (0 < l2.length) := hid (by rw [← L2.out, List.length_set]; exact HP1.out)
  have hA := hA9
  have hO := hO9
  clear hA9 hO9
  have F1n : Hid (l2[ia]? = some a1) := hid (by rw [← L2.out, List.getElem?_set_ne D41]; exact F1.out)
  have F2n : Hid (l2[ib]? = some xb) := hid (by rw [← L2.out, List.getElem?_set_ne D42]; exact F2.out)
  have F3n : Hid (l2[ic]? = some xc) := hid (by rw [← L2.out, List.getElem?_set_ne D43]; exact F3.out)
  have F4n : Hid (l2[ie]? = some d1) := hid (by rw [← L2.out, List.getElem?_set_self (List.getElem?_eq_some_iff.1 F4.out).1])
  clear F1 F2 F3 F4
  have F1 := F1n
  have F2 := F2n
  have F3 := F3n
  have F4 := F4n
  clear F1n F2n F3n F4n
  go_wp2
  have hS0 : ∀ ww, Cl w2 ww → Arr ww g 0 .u32 l2 := fun ww h => hA.below h hgl
  obtain ⟨up, hup⟩ : ∃ up : Nat → World → World, up = fun _ ww => ww.setCell ⟨g, ic, none⟩ (.int .u32 c1) := ⟨_, rfl⟩
  have hu : ∀ ww, up 0 ww = ww.setCell ⟨g, ic, none⟩ (.int .u32 c1) := fun ww => by rw [hup]
  clear hup
  refine region_many 110 (tvOf [(35, (.slice (some ⟨g, 0, none⟩) n cp)), (36, (.int .i64 (ic : Int))), (37, (.slice (some ⟨g, 0, none⟩) n cp)), (38, (.int .i64 (ic : Int))), (39, (.pointer (some ⟨g, ic, none⟩))), (40, (.int .u32 xc)), (41, (.slice (some ⟨g, 0, none⟩) n cp)), (42, (.int .i64 (ie : Int))), (43, (.pointer (some ⟨g, ie, none⟩))), (44, (.int .u32 d1)), (45, (.int .u32 c1)), (46, (.pointer (some ⟨g, ic, none⟩)))]) (kdOf [0, 0, 0, 0, 0, 1, 0, 0, 0, 1, 0, 0, 2]) [12] up [35, 36, 37, 38, 39, 40, 41, 42, 43, 44, 45, 46] (by kernel_rfl) (by kernel_rfl) (by kernel_rfl) (Nat.le_of_eq rfl)
    ⟨.pure rfl rfl 35 rfl fun a ww hf hd => show _ = Result.ok (Next.value ((.slice (some ⟨g, 0, none⟩) n cp))) ww by
       have h0 : a.eval (.tmp 0) = (.slice (some ⟨g, 0, none⟩) n cp) := (outM hf 0 (by kernel_rfl)).trans rfl
       revert h0
       generalize a.eval = ev
       intro h0
       unfold execOp
       simp only [h0]
       (try go_simp),
     .pure rfl rfl 36 rfl fun a ww hf hd => show _ = Result.ok (Next.value ((.int .i64 (ic : Int)))) ww by
       have h3 : a.eval (.tmp 3) = (.int .i64 (ic : Int)) := (outM hf 3 (by kernel_rfl)).trans rfl
       revert h3
       generalize a.eval = ev
       intro h3
       unfold execOp
       simp only [h3]
       (try go_simp),
     .pure rfl rfl 37 rfl fun a ww hf hd => show _ = Result.ok (Next.value ((.slice (some ⟨g, 0, none⟩) n cp))) ww by
       have h0 : a.eval (.tmp 0) = (.slice (some ⟨g, 0, none⟩) n cp) := (outM hf 0 (by kernel_rfl)).trans rfl
       revert h0
       generalize a.eval = ev
       intro h0
       unfold execOp
       simp only [h0]
       (try go_simp),
     .pure rfl rfl 38 rfl fun a ww hf hd => show _ = Result.ok (Next.value ((.int .i64 (ic : Int)))) ww by
       have h3 : a.eval (.tmp 3) = (.int .i64 (ic : Int)) := (outM hf 3 (by kernel_rfl)).trans rfl
       revert h3
       generalize a.eval = ev
       intro h3
       unfold execOp
       simp only [h3]
       (try go_simp),
     .pure rfl rfl 39 rfl fun a ww hf hd => show _ = Result.ok (Next.value ((.pointer (some ⟨g, ic, none⟩)))) ww by
       have h37 : a.eval (.tmp 37) = (.slice (some ⟨g, 0, none⟩) n cp) := hd 2 37 (by kernel_rfl) rfl
       have h38 : a.eval (.tmp 38) = (.int .i64 (ic : Int)) := hd 3 38 (by kernel_rfl) rfl
       revert h37 h38
       generalize a.eval = ev
       intro h37 h38
       unfold execOp
       simp only [h37, h38]
       (try go_simp),
     .run rfl rfl 40 rfl fun a ww hw hf hd => show _ = Result.ok (Next.value ((.int .u32 xc))) ww by
       have h39 : a.eval (.tmp 39) = (.pointer (some ⟨g, ic, none⟩)) := hd 4 39 (by kernel_rfl) rfl
       have hcc := (hS0 ww hw).at_ F3.out
       rw [Nat.zero_add] at hcc
       revert h39
       generalize a.eval = ev
       intro h39
       unfold execOp
       simp only [h39]
       (try go_simp),
     .pure rfl rfl 41 rfl fun a ww hf hd => show _ = Result.ok (Next.value ((.slice (some ⟨g, 0, none⟩) n cp))) ww by
       have h0 : a.eval (.tmp 0) = (.slice (some ⟨g, 0, none⟩) n cp) := (outM hf 0 (by kernel_rfl)).trans rfl
       revert h0
       generalize a.eval = ev
       intro h0
       unfold execOp
       simp only [h0]
       (try go_simp),
     .pure rfl rfl 42 rfl fun a ww hf hd => show _ = Result.ok (Next.value ((.int .i64 (ie : Int)))) ww by
       have h4 : a.eval (.tmp 4) = (.int .i64 (ie : Int)) := (outM hf 4 (by kernel_rfl)).trans rfl
       revert h4
       generalize a.eval = ev
       intro h4
       unfold execOp
       simp only [h4]
       (try go_simp),
     .pure rfl rfl 43 rfl fun a ww hf hd => show _ = Result.ok (Next.value ((.pointer (some ⟨g, ie, none⟩)))) ww by
       have h41 : a.eval (.tmp 41) = (.slice (some ⟨g, 0, none⟩) n cp) := hd 6 41 (by kernel_rfl) rfl
       have h42 : a.eval (.tmp 42) = (.int .i64 (ie : Int)) := hd 7 42 (by kernel_rfl) rfl
       revert h41 h42
       generalize a.eval = ev
       intro h41 h42
       unfold execOp
       simp only [h41, h42]
       (try go_simp),
     .run rfl rfl 44 rfl fun a ww hw hf hd => show _ = Result.ok (Next.value ((.int .u32 d1))) ww by
       have h43 : a.eval (.tmp 43) = (.pointer (some ⟨g, ie, none⟩)) := hd 8 43 (by kernel_rfl) rfl
       have hcc := (hS0 ww hw).at_ F4.out
       rw [Nat.zero_add] at hcc
       revert h43
       generalize a.eval = ev
       intro h43
       unfold execOp
       simp only [h43]
       (try go_simp),
     .pure rfl rfl 45 rfl fun a ww hf hd => show _ = Result.ok (Next.value ((.int .u32 c1))) ww by
       have h40 : a.eval (.tmp 40) = (.int .u32 xc) := hd 5 40 (by kernel_rfl) rfl
       have h44 : a.eval (.tmp 44) = (.int .u32 d1) := hd 9 44 (by kernel_rfl) rfl
       revert h40 h44
       generalize a.eval = ev
       intro h40 h44
       unfold execOp
       simp only [h40, h44]
       (try go_simp),
     .pure rfl rfl 46 rfl fun a ww hf hd => show _ = Result.ok (Next.value ((.pointer (some ⟨g, ic, none⟩)))) ww by
       have h35 : a.eval (.tmp 35) = (.slice (some ⟨g, 0, none⟩) n cp) := hd 0 35 (by kernel_rfl) rfl
       have h36 : a.eval (.tmp 36) = (.int .i64 (ic : Int)) := hd 1 36 (by kernel_rfl) rfl
       revert h35 h36
       generalize a.eval = ev
       intro h35 h36
       unfold execOp
       simp only [h35, h36]
       (try go_simp),
     .put 0 rfl rfl rfl ⟨g, ic, none⟩ (.int .u32 c1) hu fun a ww hw hf hd => by
       have h46 : a.eval (.tmp 46) = (.pointer (some ⟨g, ic, none⟩)) := hd 11 46 (by kernel_rfl) rfl
       have h45 : a.eval (.tmp 45) = (.int .u32 c1) := hd 10 45 (by kernel_rfl) rfl
       have hst : Arr (behind up 0 ww) g 0 .u32 l2 := hS0 ww hw
       have hcc := hst.at_ F3.out
       have hff := hst.free (List.getElem?_eq_some_iff.1 F3.out).1
       rw [Nat.zero_add] at hcc hff
       generalize behind up 0 ww = wb at *
       revert h46 h45
       generalize a.eval = ev
       intro h46 h45
       unfold execOp
       simp only [h46, h45]
       (try go_simp), trivial⟩ ?_
  intro val w9 hv hw
  have e35 : val 35 = (.slice (some ⟨g, 0, none⟩) n cp) := hv 35
  have e36 : val 36 = (.int .i64 (ic : Int)) := hv 36
  have e37 : val 37 = (.slice (some ⟨g, 0, none⟩) n cp) := hv 37
  have e38 : val 38 = (.int .i64 (ic : Int)) := hv 38
  have e39 : val 39 = (.pointer (some ⟨g, ic, none⟩)) := hv 39
  have e40 : val 40 = (.int .u32 xc) := hv 40
  have e41 : val 41 = (.slice (some ⟨g, 0, none⟩) n cp) := hv 41
  have e42 : val 42 = (.int .i64 (ie : Int)) := hv 42
  have e43 : val 43 = (.pointer (some ⟨g, ie, none⟩)) := hv 43
  have e44 : val 44 = (.int .u32 d1) := hv 44
  have e45 : val 45 = (.int .u32 c1) := hv 45
  have e46 : val 46 = (.pointer (some ⟨g, ic, none⟩)) := hv 46
  simp only [putVals, List.foldl_cons, List.foldl_nil, Act.put, List.setIfInBounds_toArray, List.set_cons_succ, List.set_cons_zero, e35, e36, e37, e38, e39, e40, e41, e42, e43, e44, e45, e46]
  clear hv e35 e36 e37 e38 e39 e40 e41 e42 e43 e44 e45 e46
  have hA9 : Arr (up 0 w9) g 0 .u32 l3 := by rw [hu, ← L3.out]; have := (hS0 w9 hw).set ic c1; rwa [Nat.zero_add] at this
  have hO9 : Only g w (up 0 w9) := by rw [hu]; exact (hO.trans (Only.of hw g)).setCell (.inl rfl) _
  change Arr (behind up [12].length w9) _ _ _ _ at hA9
  change Only g w (behind up [12].length w9) at hO9
  clear hA hO hS0 hu hw
  generalize behind up [12].length w9 = w3 at *
  clear up
  have hgl : g < w3.heap.size := hA9.lt (by rw [← L3.out, List.length_set]; exact HP2.out)
  have HP3 : Hid (0 < l3.length) := hid (by rw [← L3.out, List.length_set]; exact HP2.out)
  have hA := hA9
  have hO := hO9
  clear hA9 hO9
  have F1n : Hid (l3[ia]? = some a1) := hid (by rw [← L3.out, List.getElem?_set_ne D31]; exact F1.out)
  have F2n : Hid (l3[ib]? = some xb) := hid (by rw [← L3.out, List.getElem?_set_ne D32]; exact F2.out)
  have F3n : Hid (l3[ic]? = some c1) := hid (by rw [← L3.out, List.getElem?_set_self (List.getElem?_eq_some_iff.1 F3.out).1])
  have F4n : Hid (l3[ie]? = some d1) := hid (by rw [← L3.out, List.getElem?_set_ne D34]; exact F4.out)
  clear F1 F2 F3 F4
  have F1 := F1n
  have F2 := F2n
  have F3 := F3n
  have F4 := F4n
  clear F1n F2n F3n F4n
  go_wp2
  have hS0 : ∀ ww, Cl w3 ww → Arr ww g 0 .u32 l3 := fun ww h => hA.below h hgl
  obtain ⟨up, hup⟩ : ∃ up : Nat → World → World, up = fun _ ww => ww.setCell ⟨g, ib, none⟩ (.int .u32 b1) := ⟨_, rfl⟩
  have hu : ∀ ww, up 0 ww = ww.setCell ⟨g, ib, none⟩ (.int .u32 b1) := fun ww => by rw [hup]
  clear hup
  refine region_many 110 (tvOf [(47, (.slice (some ⟨g, 0, none⟩) n cp)), (48, (.int .i64 (ib : Int))), (49, (.slice (some ⟨g, 0, none⟩) n cp)), (50, (.int .i64 (ib : Int))), (51, (.pointer (some ⟨g, ib, none⟩))), (52, (.int .u32 xb)), (53, (.slice (some ⟨g, 0, none⟩) n cp)), (54, (.int .i64 (ic : Int))), (55, (.pointer (some ⟨g, ic, none⟩))), (56, (.int .u32 c1)), (57, (.int .u32 x2)), (58, (.int .u32 b1)), (59, (.pointer (some ⟨g, ib, none⟩)))]) (kdOf [0, 0, 0, 0, 0, 1, 0, 0, 0, 1, 0, 1, 0, 2]) [13] up [47, 48, 49, 50, 51, 52, 53, 54, 55, 56, 57, 58, 59] (by kernel_rfl) (by kernel_rfl) (by kernel_rfl) (Nat.le_of_eq rfl)
    ⟨.pure rfl rfl 47 rfl fun a ww hf hd => show _ = Result.ok (Next.value ((.slice (some ⟨g, 0, none⟩) n cp))) ww by
       have h0 : a.eval (.tmp 0) = (.slice (some ⟨g, 0, none⟩) n cp) := (outM hf 0 (by kernel_rfl)).trans rfl
       revert h0
       generalize a.eval = ev
       intro h0
       unfold execOp
       simp only [h0]
       (try go_simp),
     .pure rfl rfl 48 rfl fun a ww hf hd => show _ = Result.ok (Next.value ((.int .i64 (ib : Int)))) ww by
       have h2 : a.eval (.tmp 2) = (.int .i64 (ib : Int)) := (outM hf 2 (by kernel_rfl)).trans rfl
       revert h2
       generalize a.eval = ev
       intro h2
       unfold execOp
       simp only [h2]
       (try go_simp),
     .pure rfl rfl 49 rfl fun a ww hf hd => show _ = Result.ok (Next.value ((.slice (some ⟨g, 0, none⟩) n cp))) ww by
       have h0 : a.eval (.tmp 0) = (.slice (some ⟨g, 0, none⟩) n cp) := (outM hf 0 (by kernel_rfl)).trans rfl
       revert h0
       generalize a.eval = ev
       intro h0
       unfold execOp
       simp only [h0]
       (try go_simp),
     .pure rfl rfl 50 rfl fun a ww hf hd => show _ = Result.ok (Next.value ((.int .i64 (ib : Int)))) ww by
       have h2 : a.eval (.tmp 2) = (.int .i64 (ib : Int)) := (outM hf 2 (by kernel_rfl)).trans rfl
       revert h2
       generalize a.eval = ev
       intro h2
       unfold execOp
       simp only [h2]
       (try go_simp),
     .pure rfl rfl 51 rfl fun a ww hf hd => show _ = Result.ok (Next.value ((.pointer (some ⟨g, ib, none⟩)))) ww by
       have h49 : a.eval (.tmp 49) = (.slice (some ⟨g, 0, none⟩) n cp) := hd 2 49 (by kernel_rfl) rfl
       have h50 : a.eval (.tmp 50) = (.int .i64 (ib : Int)) := hd 3 50 (by kernel_rfl) rfl
       revert h49 h50
       generalize a.eval = ev
       intro h49 h50
       unfold execOp
       simp only [h49, h50]
       (try go_simp),
     .run rfl rfl 52 rfl fun a ww hw hf hd => show _ = Result.ok (Next.value ((.int .u32 xb))) ww by
       have h51 : a.eval (.tmp 51) = (.pointer (some ⟨g, ib, none⟩)) := hd 4 51 (by kernel_rfl) rfl
       have hcc := (hS0 ww hw).at_ F2.out
       rw [Nat.zero_add] at hcc
       revert h51
       generalize a.eval = ev
       intro h51
       unfold execOp
       simp only [h51]
       (try go_simp),
     .pure rfl rfl 53 rfl fun a ww hf hd => show _ = Result.ok (Next.value ((.slice (some ⟨g, 0, none⟩) n cp))) ww by
       have h0 : a.eval (.tmp 0) = (.slice (some ⟨g, 0, none⟩) n cp) := (outM hf 0 (by kernel_rfl)).trans rfl
       revert h0
       generalize a.eval = ev
       intro h0
       unfold execOp
       simp only [h0]
       (try go_simp),
     .pure rfl rfl 54 rfl fun a ww hf hd => show _ = Result.ok (Next.value ((.int .i64 (ic : Int)))) ww by
       have h3 : a.eval (.tmp 3) = (.int .i64 (ic : Int)) := (outM hf 3 (by kernel_rfl)).trans rfl
       revert h3
       generalize a.eval = ev
       intro h3
       unfold execOp
       simp only [h3]
       (try go_simp),
     .pure rfl rfl 55 rfl fun a ww hf hd => show _ = Result.ok (Next.value ((.pointer (some ⟨g, ic, none⟩)))) ww by
       have h53 : a.eval (.tmp 53) = (.slice (some ⟨g, 0, none⟩) n cp) := hd 6 53 (by kernel_rfl) rfl
       have h54 : a.eval (.tmp 54) = (.int .i64 (ic : Int)) := hd 7 54 (by kernel_rfl) rfl
       revert h53 h54
       generalize a.eval = ev
       intro h53 h54
       unfold execOp
       simp only [h53, h54]
       (try go_simp),
     .run rfl rfl 56 rfl fun a ww hw hf hd => show _ = Result.ok (Next.value ((.int .u32 c1))) ww by
       have h55 : a.eval (.tmp 55) = (.pointer (some ⟨g, ic, none⟩)) := hd 8 55 (by kernel_rfl) rfl
       have hcc := (hS0 ww hw).at_ F3.out
       rw [Nat.zero_add] at hcc
       revert h55
       generalize a.eval = ev
       intro h55
       unfold execOp
       simp only [h55]
       (try go_simp),
     .pure rfl rfl 57 rfl fun a ww hf hd => show _ = Result.ok (Next.value ((.int .u32 x2))) ww by
       have h52 : a.eval (.tmp 52) = (.int .u32 xb) := hd 5 52 (by kernel_rfl) rfl
       have h56 : a.eval (.tmp 56) = (.int .u32 c1) := hd 9 56 (by kernel_rfl) rfl
       revert h52 h56
       generalize a.eval = ev
       intro h52 h56
       unfold execOp
       simp only [h52, h56]
       (try go_simp),
     .call rfl rfl 58 rfl fun a ww hw hf hd => by
       have h57 : a.eval (.tmp 57) = (.int .u32 x2) := hd 10 57 (by kernel_rfl) rfl
       have c0 : a.eval (.const (.int .i64 (12))) = .int .i64 (12) := rfl
       have f16 : a.eval (.func 50) = .func (.func 50) #[] #[] := rfl
       refine ⟨50, #[(.int .u32 x2), (.int .i64 12)], ?_, (left_any x2 12 20 ww (by omega) (hid rfl) Hx2).mono fun e w2 ⟨he, hw2⟩ => ⟨by rw [he, Gx2.out]; rfl, by rw [← hw2]; exact Below.refl _ _⟩⟩
       revert h57 c0 f16
       generalize a.eval = ev
       intro h57 c0 f16
       unfold execOp
       simp only [h57, c0, f16]
       (try go_simp),
     .pure rfl rfl 59 rfl fun a ww hf hd => show _ = Result.ok (Next.value ((.pointer (some ⟨g, ib, none⟩)))) ww by
       have h47 : a.eval (.tmp 47) = (.slice (some ⟨g, 0, none⟩) n cp) := hd 0 47 (by kernel_rfl) rfl
       have h48 : a.eval (.tmp 48) = (.int .i64 (ib : Int)) := hd 1 48 (by kernel_rfl) rfl
       revert h47 h48
       generalize a.eval = ev
       intro h47 h48
       unfold execOp
       simp only [h47, h48]
       (try go_simp),
     .put 0 rfl rfl rfl ⟨g, ib, none⟩ (.int .u32 b1) hu fun a ww hw hf hd => by
       have h59 : a.eval (.tmp 59) = (.pointer (some ⟨g, ib, none⟩)) := hd 12 59 (by kernel_rfl) rfl
       have h58 : a.eval (.tmp 58) = (.int .u32 b1) := hd 11 58 (by kernel_rfl) rfl
       have hst : Arr (behind up 0 ww) g 0 .u32 l3 := hS0 ww hw
       have hcc := hst.at_ F2.out
       have hff := hst.free (List.getElem?_eq_some_iff.1 F2.out).1
       rw [Nat.zero_add] at hcc hff
       generalize behind up 0 ww = wb at *
       revert h59 h58
       generalize a.eval = ev
       intro h59 h58
       unfold execOp
       simp only [h59, h58]
       (try go_simp), trivial⟩ ?_
  intro val w9 hv hw
  have e47 : val 47 = (.slice (some ⟨g, 0, none⟩) n cp) := hv 47
  have e48 : val 48 = (.int .i64 (ib : Int)) := hv 48
  have e49 : val 49 = (.slice (some ⟨g, 0, none⟩) n cp) := hv 49
  have e50 : val 50 = (.int .i64 (ib : Int)) := hv 50
  have e51 : val 51 = (.pointer (some ⟨g, ib, none⟩)) := hv 51
  have e52 : val 52 = (.int .u32 xb) := hv 52
  have e53 : val 53 = (.slice (some ⟨g, 0, none⟩) n cp) := hv 53
  have e54 : val 54 = (.int .i64 (ic : Int)) := hv 54
  have e55 : val 55 = (.pointer (some ⟨g, ic, none⟩)) := hv 55
  have e56 : val 56 = (.int .u32 c1) := hv 56
  have e57 : val 57 = (.int .u32 x2) := hv 57
  have e58 : val 58 = (.int .u32 b1) := hv 58
  have e59 : val 59 = (.pointer (some ⟨g, ib, none⟩)) := hv 59
  simp only [putVals, List.foldl_cons, List.foldl_nil, Act.put, List.setIfInBounds_toArray, List.set_cons_succ, List.set_cons_zero, e47, e48, e49, e50, e51, e52, e53, e54, e55, e56, e57, e58, e59]
  clear hv e47 e48 e49 e50 e51 e52 e53 e54 e55 e56 e57 e58 e59
  have hA9 : Arr (up 0 w9) g 0 .u32 l4 := by rw [hu, ← L4.out]; have := (hS0 w9 hw).set ib b1; rwa [Nat.zero_add] at this
  have hO9 : Only g w (up 0 w9) := by rw [hu]; exact (hO.trans (Only.of hw g)).setCell (.inl rfl) _
  change Arr (behind up [13].length w9) _ _ _ _ at hA9
  change Only g w (behind up [13].length w9) at hO9
  clear hA hO hS0 hu hw
  generalize behind up [13].length w9 = w4 at *
  clear up
  have hgl : g < w4.heap.size := hA9.lt (by rw [← L4.out, List.length_set]; exact HP3.out)
  have HP4 : Hid (0 < l4.length) := hid (by rw [← L4.out, List.length_set]; exact HP3.out)
  have hA := hA9
  have hO := hO9
  clear hA9 hO9
  have F1n : Hid (l4[ia]? = some a1) := hid (by rw [← L4.out, List.getElem?_set_ne D21]; exact F1.out)
  have F2n : Hid (l4[ib]? = some b1) := hid (by rw [← L4.out, List.getElem?_set_self (List.getElem?_eq_some_iff.1 F2.out).1])
  have F3n : Hid (l4[ic]? = some c1) := hid (by rw [← L4.out, List.getElem?_set_ne D23]; exact F3.out)
  have F4n : Hid (l4[ie]? = some d1) := hid (by rw [← L4.out, List.getElem?_set_ne D24]; exact F4.out)
  clear F1 F2 F3 F4
  have F1 := F1n
  have F2 := F2n
  have F3 := F3n
  have F4 := F4n
  clear F1n F2n F3n F4n
  go_wp2
  have hS0 : ∀ ww, Cl w4 ww → Arr ww g 0 .u32 l4 := fun ww h => hA.below h hgl
  obtain ⟨up, hup⟩ : ∃ up : Nat → World → World, up = fun _ ww => ww.setCell ⟨g, ia, none⟩ (.int .u32 a2) := ⟨_, rfl⟩
  have hu : ∀ ww, up 0 ww = ww.setCell ⟨g, ia, none⟩ (.int .u32 a2) := fun ww => by rw [hup]
  clear hup
  refine region_many 110 (tvOf [(60, (.slice (some ⟨g, 0, none⟩) n cp)), (61, (.int .i64 (ia : Int))), (62, (.slice (some ⟨g, 0, none⟩) n cp)), (63, (.int .i64 (ia : Int))), (64, (.pointer (some ⟨g, ia, none⟩))), (65, (.int .u32 a1)), (66, (.slice (some ⟨g, 0, none⟩) n cp)), (67, (.int .i64 (ib : Int))), (68, (.pointer (some ⟨g, ib, none⟩))), (69, (.int .u32 b1)), (70, (.int .u32 a2)), (71, (.pointer (some ⟨g, ia, none⟩)))]) (kdOf [0, 0, 0, 0, 0, 1, 0, 0, 0, 1, 0, 0, 2]) [12] up [60, 61, 62, 63, 64, 65, 66, 67, 68, 69, 70, 71] (by kernel_rfl) (by kernel_rfl) (by kernel_rfl) (Nat.le_of_eq rfl)
    ⟨.pure rfl rfl 60 rfl fun a ww hf hd => show _ = Result.ok (Next.value ((.slice (some ⟨g, 0, none⟩) n cp))) ww by
       have h0 : a.eval (.tmp 0) = (.slice (some ⟨g, 0, none⟩) n cp) := (outM hf 0 (by kernel_rfl)).trans rfl
       revert h0
       generalize a.eval = ev
       intro h0
       unfold execOp
       simp only [h0]
       (try go_simp),
     .pure rfl rfl 61 rfl fun a ww hf hd => show _ = Result.ok (Next.value ((.int .i64 (ia : Int)))) ww by
       have h1 : a.eval (.tmp 1) = (.int .i64 (ia : Int)) := (outM hf 1 (by kernel_rfl)).trans rfl
       revert h1
       generalize a.eval = ev
       intro h1
       unfold execOp
       simp only [h1]
       (try go_simp),
     .pure rfl rfl 62 rfl fun a ww hf hd => show _ = Result.ok (Next.value ((.slice (some ⟨g, 0, none⟩) n cp))) ww by
       have h0 : a.eval (.tmp 0) = (.slice (some ⟨g, 0, none⟩) n cp) := (outM hf 0 (by kernel_rfl)).trans rfl
       revert h0
       generalize a.eval = ev
       intro h0
       unfold execOp
       simp only [h0]
       (try go_simp),
     .pure rfl rfl 63 rfl fun a ww hf hd => show _ = Result.ok (Next.value ((.int .i64 (ia : Int)))) ww by
       have h1 : a.eval (.tmp 1) = (.int .i64 (ia : Int)) := (outM hf 1 (by kernel_rfl)).trans rfl
       revert h1
       generalize a.eval = ev
       intro h1
       unfold execOp
       simp only [h1]
       (try go_simp),
     .pure rfl rfl 64 rfl fun a ww hf hd => show _ = Result.ok (Next.value ((.pointer (some ⟨g, ia, none⟩)))) ww by
       have h62 : a.eval (.tmp 62) = (.slice (some ⟨g, 0, none⟩) n cp) := hd 2 62 (by kernel_rfl) rfl
       have h63 : a.eval (.tmp 63) = (.int .i64 (ia : Int)) := hd 3 63 (by kernel_rfl) rfl
       revert h62 h63
       generalize a.eval = ev
       intro h62 h63
       unfold execOp
       simp only [h62, h63]
       (try go_simp),
     .run rfl rfl 65 rfl fun a ww hw hf hd => show _ = Result.ok (Next.value ((.int .u32 a1))) ww by
       have h64 : a.eval (.tmp 64) = (.pointer (some ⟨g, ia, none⟩)) := hd 4 64 (by kernel_rfl) rfl
       have hcc := (hS0 ww hw).at_ F1.out
       rw [Nat.zero_add] at hcc
       revert h64
       generalize a.eval = ev
       intro h64
       unfold execOp
       simp only [h64]
       (try go_simp),
     .pure rfl rfl 66 rfl fun a ww hf hd => show _ = Result.ok (Next.value ((.slice (some ⟨g, 0, none⟩) n cp))) ww by
       have h0 : a.eval (.tmp 0) = (.slice (some ⟨g, 0, none⟩) n cp) := (outM hf 0 (by kernel_rfl)).trans rfl
       revert h0
       generalize a.eval = ev
       intro h0
       unfold execOp
       simp only [h0]
       (try go_simp),
     .pure rfl rfl 67 rfl fun a ww hf hd => show _ = Result.ok (Next.value ((.int .i64 (ib : Int)))) ww by
       have h2 : a.eval (.tmp 2) = (.int .i64 (ib : Int)) := (outM hf 2 (by kernel_rfl)).trans rfl
       revert h2
       generalize a.eval = ev
       intro h2
       unfold execOp
       simp only [h2]
       (try go_simp),
     .pure rfl rfl 68 rfl fun a ww hf hd => show _ = Result.ok (Next.value ((.pointer (some ⟨g, ib, none⟩)))) ww by
       have h66 : a.eval (.tmp 66) = (.slice (some ⟨g, 0, none⟩) n cp) := hd 6 66 (by kernel_rfl) rfl
       have h67 : a.eval (.tmp 67) = (.int .i64 (ib : Int)) := hd 7 67 (by kernel_rfl) rfl
       revert h66 h67
       generalize a.eval = ev
       intro h66 h67
       unfold execOp
       simp only [h66, h67]
       (try go_simp),
     .run rfl rfl 69 rfl fun a ww hw hf hd => show _ = Result.ok (Next.value ((.int .u32 b1))) ww by
       have h68 : a.eval (.tmp 68) = (.pointer (some ⟨g, ib, none⟩)) := hd 8 68 (by kernel_rfl) rfl
       have hcc := (hS0 ww hw).at_ F2.out
       rw [Nat.zero_add] at hcc
       revert h68
       generalize a.eval = ev
       intro h68
       unfold execOp
       simp only [h68]
       (try go_simp),
     .pure rfl rfl 70 rfl fun a ww hf hd => show _ = Result.ok (Next.value ((.int .u32 a2))) ww by
       have h65 : a.eval (.tmp 65) = (.int .u32 a1) := hd 5 65 (by kernel_rfl) rfl
       have h69 : a.eval (.tmp 69) = (.int .u32 b1) := hd 9 69 (by kernel_rfl) rfl
       revert h65 h69
       generalize a.eval = ev
       intro h65 h69
       unfold execOp
       simp only [h65, h69]
       (try go_simp),
     .pure rfl rfl 71 rfl fun a ww hf hd => show _ = Result.ok (Next.value ((.pointer (some ⟨g, ia, none⟩)))) ww by
       have h60 : a.eval (.tmp 60) = (.slice (some ⟨g, 0, none⟩) n cp) := hd 0 60 (by kernel_rfl) rfl
       have h61 : a.eval (.tmp 61) = (.int .i64 (ia : Int)) := hd 1 61 (by kernel_rfl) rfl
       revert h60 h61
       generalize a.eval = ev
       intro h60 h61
       unfold execOp
       simp only [h60, h61]
       (try go_simp),
     .put 0 rfl rfl rfl ⟨g, ia, none⟩ (.int .u32 a2) hu fun a ww hw hf hd => by
       have h71 : a.eval (.tmp 71) = (.pointer (some ⟨g, ia, none⟩)) := hd 11 71 (by kernel_rfl) rfl
       have h70 : a.eval (.tmp 70) = (.int .u32 a2) := hd 10 70 (by kernel_rfl) rfl
       have hst : Arr (behind up 0 ww) g 0 .u32 l4 := hS0 ww hw
       have hcc := hst.at_ F1.out
       have hff := hst.free (List.getElem?_eq_some_iff.1 F1.out).1
       rw [Nat.zero_add] at hcc hff
       generalize behind up 0 ww = wb at *
       revert h71 h70
       generalize a.eval = ev
       intro h71 h70
       unfold execOp
       simp only [h71, h70]
       (try go_simp), trivial⟩ ?_
  intro val w9 hv hw
  have e60 : val 60 = (.slice (some ⟨g, 0, none⟩) n cp) := hv 60
  have e61 : val 61 = (.int .i64 (ia : Int)) := hv 61
  have e62 : val 62 = (.slice (some ⟨g, 0, none⟩) n cp) := hv 62
  have e63 : val 63 = (.int .i64 (ia : Int)) := hv 63
  have e64 : val 64 = (.pointer (some ⟨g, ia, none⟩)) := hv 64
  have e65 : val 65 = (.int .u32 a1) := hv 65
  have e66 : val 66 = (.slice (some ⟨g, 0, none⟩) n cp) := hv 66
  have e67 : val 67 = (.int .i64 (ib : Int)) := hv 67
  have e68 : val 68 = (.pointer (some ⟨g, ib, none⟩)) := hv 68
  have e69 : val 69 = (.int .u32 b1) := hv 69
  have e70 : val 70 = (.int .u32 a2) := hv 70
  have e71 : val 71 = (.pointer (some ⟨g, ia, none⟩)) := hv 71
  simp only [putVals, List.foldl_cons, List.foldl_nil, Act.put, List.setIfInBounds_toArray, List.set_cons_succ, List.set_cons_zero, e60, e61, e62, e63, e64, e65, e66, e67, e68, e69, e70, e71]
  clear hv e60 e61 e62 e63 e64 e65 e66 e67 e68 e69 e70 e71
  have hA9 : Arr (up 0 w9) g 0 .u32 l5 := by rw [hu, ← L5.out]; have := (hS0 w9 hw).set ia a2; rwa [Nat.zero_add] at this
  have hO9 : Only g w (up 0 w9) := by rw [hu]; exact (hO.trans (Only.of hw g)).setCell (.inl rfl) _
  change Arr (behind up [12].length w9) _ _ _ _ at hA9
  change Only g w (behind up [12].length w9) at hO9
  clear hA hO hS0 hu hw
  generalize behind up [12].length w9 = w5 at *
  clear up
  have hgl : g < w5.heap.size := hA9.lt (by rw [← L5.out, List.length_set]; exact HP4.out)
  have HP5 : Hid (0 < l5.length) := hid (by rw [← L5.out, List.length_set]; exact HP4.out)
  have hA := hA9
  have hO := hO9
  clear hA9 hO9
  have F1n : Hid (l5[ia]? = some a2) := hid (by rw [← L5.out, List.getElem?_set_self (List.getElem?_eq_some_iff.1 F1.out).1])
  have F2n : Hid (l5[ib]? = some b1) := hid (by rw [← L5.out, List.getElem?_set_ne D12]; exact F2.out)
  have F3n : Hid (l5[ic]? = some c1) := hid (by rw [← L5.out, List.getElem?_set_ne D13]; exact F3.out)
  have F4n : Hid (l5[ie]? = some d1) := hid (by rw [← L5.out, List.getElem?_set_ne D14]; exact F4.out)
  clear F1 F2 F3 F4
  have F1 := F1n
  have F2 := F2n
  have F3 := F3n
  have F4 := F4n
  clear F1n F2n F3n F4n
  go_wp2
  have hS0 : ∀ ww, Cl w5 ww → Arr ww g 0 .u32 l5 := fun ww h => hA.below h hgl
  obtain ⟨up, hup⟩ : ∃ up : Nat → World → World, up = fun _ ww => ww.setCell ⟨g, ie, none⟩ (.int .u32 d2) := ⟨_, rfl⟩
  have hu : ∀ ww, up 0 ww = ww.setCell ⟨g, ie, none⟩ (.int .u32 d2) := fun ww => by rw [hup]
  clear hup
  refine region_many 110 (tvOf [(72, (.slice (some ⟨g, 0, none⟩) n cp)), (73, (.int .i64 (ie : Int))), (74, (.slice (some ⟨g, 0, none⟩) n cp)), (75, (.int .i64 (ie : Int))), (76, (.pointer (some ⟨g, ie, none⟩))), (77, (.int .u32 d1)), (78, (.slice (some ⟨g, 0, none⟩) n cp)), (79, (.int .i64 (ia : Int))), (80, (.pointer (some ⟨g, ia, none⟩))), (81, (.int .u32 a2)), (82, (.int .u32 x3)), (83, (.int .u32 d2)), (84, (.pointer (some ⟨g, ie, none⟩)))]) (kdOf [0, 0, 0, 0, 0, 1, 0, 0, 0, 1, 0, 1, 0, 2]) [13] up [72, 73, 74, 75, 76, 77, 78, 79, 80, 81, 82, 83, 84] (by kernel_rfl) (by kernel_rfl) (by kernel_rfl) (Nat.le_of_eq rfl)
    ⟨.pure rfl rfl 72 rfl fun a ww hf hd => show _ = Result.ok (Next.value ((.slice (some ⟨g, 0, none⟩) n cp))) ww by
       have h0 : a.eval (.tmp 0) = (.slice (some ⟨g, 0, none⟩) n cp) := (outM hf 0 (by kernel_rfl)).trans rfl
       revert h0
       generalize a.eval = ev
       intro h0
       unfold execOp
       simp only [h0]
       (try go_simp),
     .pure rfl rfl 73 rfl fun a ww hf hd => show _ = Result.ok (Next.value ((.int .i64 (ie : Int)))) ww by
       have h4 : a.eval (.tmp 4) = (.int .i64 (ie : Int)) := (outM hf 4 (by kernel_rfl)).trans rfl
       revert h4
       generalize a.eval = ev
       intro h4
       unfold execOp
       simp only [h4]
       (try go_simp),
     .pure rfl rfl 74 rfl fun a ww hf hd => show _ = Result.ok (Next.value ((.slice (some ⟨g, 0, none⟩) n cp))) ww by
       have h0 : a.eval (.tmp 0) = (.slice (some ⟨g, 0, none⟩) n cp) := (outM hf 0 (by kernel_rfl)).trans rfl
       revert h0
       generalize a.eval = ev
       intro h0
       unfold execOp
       simp only [h0]
       (try go_simp),
     .pure rfl rfl 75 rfl fun a ww hf hd => show _ = Result.ok (Next.value ((.int .i64 (ie : Int)))) ww by
       have h4 : a.eval (.tmp 4) = (.int .i64 (ie : Int)) := (outM hf 4 (by kernel_rfl)).trans rfl
       revert h4
       generalize a.eval = ev
       intro h4
       unfold execOp
       simp only [h4]
       (try go_simp),
     .pure rfl rfl 76 rfl fun a ww hf hd => show _ = Result.ok (Next.value ((.pointer (some ⟨g, ie, none⟩)))) ww by
       have h74 : a.eval (.tmp 74) = (.slice (some ⟨g, 0, none⟩) n cp) := hd 2 74 (by kernel_rfl) rfl
       have h75 : a.eval (.tmp 75) = (.int .i64 (ie : Int)) := hd 3 75 (by kernel_rfl) rfl
       revert h74 h75
       generalize a.eval = ev
       intro h74 h75
       unfold execOp
       simp only [h74, h75]
       (try go_simp),
     .run rfl rfl 77 rfl fun a ww hw hf hd => show _ = Result.ok (Next.value ((.int .u32 d1))) ww by
       have h76 : a.eval (.tmp 76) = (.pointer (some ⟨g, ie, none⟩)) := hd 4 76 (by kernel_rfl) rfl
       have hcc := (hS0 ww hw).at_ F4.out
       rw [Nat.zero_add] at hcc
       revert h76
       generalize a.eval = ev
       intro h76
       unfold execOp
       simp only [h76]
       (try go_simp),
     .pure rfl rfl 78 rfl fun a ww hf hd => show _ = Result.ok (Next.value ((.slice (some ⟨g, 0, none⟩) n cp))) ww by
       have h0 : a.eval (.tmp 0) = (.slice (some ⟨g, 0, none⟩) n cp) := (outM hf 0 (by kernel_rfl)).trans rfl
       revert h0
       generalize a.eval = ev
       intro h0
       unfold execOp
       simp only [h0]
       (try go_simp),
     .pure rfl rfl 79 rfl fun a ww hf hd => show _ = Result.ok (Next.value ((.int .i64 (ia : Int)))) ww by
       have h1 : a.eval (.tmp 1) = (.int .i64 (ia : Int)) := (outM hf 1 (by kernel_rfl)).trans rfl
       revert h1
       generalize a.eval = ev
       intro h1
       unfold execOp
       simp only [h1]
       (try go_simp),
     .pure rfl rfl 80 rfl fun a ww hf hd => show _ = Result.ok (Next.value ((.pointer (some ⟨g, ia, none⟩)))) ww by
       have h78 : a.eval (.tmp 78) = (.slice (some ⟨g, 0, none⟩) n cp) := hd 6 78 (by kernel_rfl) rfl
       have h79 : a.eval (.tmp 79) = (.int .i64 (ia : Int)) := hd 7 79 (by kernel_rfl) rfl
       revert h78 h79
       generalize a.eval = ev
       intro h78 h79
       unfold execOp
       simp only [h78, h79]
       (try go_simp),
     .run rfl rfl 81 rfl fun a ww hw hf hd => show _ = Result.ok (Next.value ((.int .u32 a2))) ww by
       have h80 : a.eval (.tmp 80) = (.pointer (some ⟨g, ia, none⟩)) := hd 8 80 (by kernel_rfl) rfl
       have hcc := (hS0 ww hw).at_ F1.out
       rw [Nat.zero_add] at hcc
       revert h80
       generalize a.eval = ev
       intro h80
       unfold execOp
       simp only [h80]
       (try go_simp),
     .pure rfl rfl 82 rfl fun a ww hf hd => show _ = Result.ok (Next.value ((.int .u32 x3))) ww by
       have h77 : a.eval (.tmp 77) = (.int .u32 d1) := hd 5 77 (by kernel_rfl) rfl
       have h81 : a.eval (.tmp 81) = (.int .u32 a2) := hd 9 81 (by kernel_rfl) rfl
       revert h77 h81
       generalize a.eval = ev
       intro h77 h81
       unfold execOp
       simp only [h77, h81]
       (try go_simp),
     .call rfl rfl 83 rfl fun a ww hw hf hd => by
       have h82 : a.eval (.tmp 82) = (.int .u32 x3) := hd 10 82 (by kernel_rfl) rfl
       have c0 : a.eval (.const (.int .i64 (8))) = .int .i64 (8) := rfl
       have f16 : a.eval (.func 50) = .func (.func 50) #[] #[] := rfl
       refine ⟨50, #[(.int .u32 x3), (.int .i64 8)], ?_, (left_any x3 8 24 ww (by omega) (hid rfl) Hx3).mono fun e w2 ⟨he, hw2⟩ => ⟨by rw [he, Gx3.out]; rfl, by rw [← hw2]; exact Below.refl _ _⟩⟩
       revert h82 c0 f16
       generalize a.eval = ev
       intro h82 c0 f16
       unfold execOp
       simp only [h82, c0, f16]
       (try go_simp),
     .pure rfl rfl 84 rfl fun a ww hf hd => show _ = Result.ok (Next.value ((.pointer (some ⟨g, ie, none⟩)))) ww by
       have h72 : a.eval (.tmp 72) = (.slice (some ⟨g, 0, none⟩) n cp) := hd 0 72 (by kernel_rfl) rfl
       have h73 : a.eval (.tmp 73) = (.int .i64 (ie : Int)) := hd 1 73 (by kernel_rfl) rfl
       revert h72 h73
       generalize a.eval = ev
       intro h72 h73
       unfold execOp
       simp only [h72, h73]
       (try go_simp),
     .put 0 rfl rfl rfl ⟨g, ie, none⟩ (.int .u32 d2) hu fun a ww hw hf hd => by
       have h84 : a.eval (.tmp 84) = (.pointer (some ⟨g, ie, none⟩)) := hd 12 84 (by kernel_rfl) rfl
       have h83 : a.eval (.tmp 83) = (.int .u32 d2) := hd 11 83 (by kernel_rfl) rfl
       have hst : Arr (behind up 0 ww) g 0 .u32 l5 := hS0 ww hw
       have hcc := hst.at_ F4.out
       have hff := hst.free (List.getElem?_eq_some_iff.1 F4.out).1
       rw [Nat.zero_add] at hcc hff
       generalize behind up 0 ww = wb at *
       revert h84 h83
       generalize a.eval = ev
       intro h84 h83
       unfold execOp
       simp only [h84, h83]
       (try go_simp), trivial⟩ ?_
  intro val w9 hv hw
  have e72 : val 72 = (.slice (some ⟨g, 0, none⟩) n cp) := hv 72
  have e73 : val 73 = (.int .i64 (ie : Int)) := hv 73
  have e74 : val 74 = (.slice (some ⟨g, 0, none⟩) n cp) := hv 74
  have e75 : val 75 = (.int .i64 (ie : Int)) := hv 75
  have e76 : val 76 = (.pointer (some ⟨g, ie, none⟩)) := hv 76
  have e77 : val 77 = (.int .u32 d1) := hv 77
  have e78 : val 78 = (.slice (some ⟨g, 0, none⟩) n cp) := hv 78
  have e79 : val 79 = (.int .i64 (ia : Int)) := hv 79
  have e80 : val 80 = (.pointer (some ⟨g, ia, none⟩)) := hv 80
  have e81 : val 81 = (.int .u32 a2) := hv 81
  have e82 : val 82 = (.int .u32 x3) := hv 82
  have e83 : val 83 = (.int .u32 d2) := hv 83
  have e84 : val 84 = (.pointer (some ⟨g, ie, none⟩)) := hv 84
  simp only [putVals, List.foldl_cons, List.foldl_nil, Act.put, List.setIfInBounds_toArray, List.set_cons_succ, List.set_cons_zero, e72, e73, e74, e75, e76, e77, e78, e79, e80, e81, e82, e83, e84]
  clear hv e72 e73 e74 e75 e76 e77 e78 e79 e80 e81 e82 e83 e84
  have hA9 : Arr (up 0 w9) g 0 .u32 l6 := by rw [hu, ← L6.out]; have := (hS0 w9 hw).set ie d2; rwa [Nat.zero_add] at this
  have hO9 : Only g w (up 0 w9) := by rw [hu]; exact (hO.trans (Only.of hw g)).setCell (.inl rfl) _
  change Arr (behind up [13].length w9) _ _ _ _ at hA9
  change Only g w (behind up [13].length w9) at hO9
  clear hA hO hS0 hu hw
  generalize behind up [13].length w9 = w6 at *
  clear up
  have hgl : g < w6.heap.size := hA9.lt (by rw [← L6.out, List.length_set]; exact HP5.out)
  have HP6 : Hid (0 < l6.length) := hid (by rw [← L6.out, List.length_set]; exact HP5.out)
  have hA := hA9
  have hO := hO9
  clear hA9 hO9
  have F1n : Hid (l6[ia]? = some a2) := hid (by rw [← L6.out, List.getElem?_set_ne D41]; exact F1.out)
  have F2n : Hid (l6[ib]? = some b1) := hid (by rw [← L6.out, List.getElem?_set_ne D42]; exact F2.out)
  have F3n : Hid (l6[ic]? = some c1) := hid (by rw [← L6.out, List.getElem?_set_ne D43]; exact F3.out)
  have F4n : Hid (l6[ie]? = some d2) := hid (by rw [← L6.out, List.getElem?_set_self (List.getElem?_eq_some_iff.1 F4.out).1])
  clear F1 F2 F3 F4
  have F1 := F1n
  have F2 := F2n
  have F3 := F3n
  have F4 := F4n
  clear F1n F2n F3n F4n
  go_wp2
  have hS0 : ∀ ww, Cl w6 ww → Arr ww g 0 .u32 l6 := fun ww h => hA.below h hgl
  obtain ⟨up, hup⟩ : ∃ up : Nat → World → World, up = fun _ ww => ww.setCell ⟨g, ic, none⟩ (.int .u32 c2) := ⟨_, rfl⟩
  have hu : ∀ ww, up 0 ww = ww.setCell ⟨g, ic, none⟩ (.int .u32 c2) := fun ww => by rw [hup]
  clear hup
  refine region_many 110 (tvOf [(85, (.slice (some ⟨g, 0, none⟩) n cp)), (86, (.int .i64 (ic : Int))), (87, (.slice (some ⟨g, 0, none⟩) n cp)), (88, (.int .i64 (ic : Int))), (89, (.pointer (some ⟨g, ic, none⟩))), (90, (.int .u32 c1)), (91, (.slice (some ⟨g, 0, none⟩) n cp)), (92, (.int .i64 (ie : Int))), (93, (.pointer (some ⟨g, ie, none⟩))), (94, (.int .u32 d2)), (95, (.int .u32 c2)), (96, (.pointer (some ⟨g, ic, none⟩)))]) (kdOf [0, 0, 0, 0, 0, 1, 0, 0, 0, 1, 0, 0, 2]) [12] up [85, 86, 87, 88, 89, 90, 91, 92, 93, 94, 95, 96] (by kernel_rfl) (by kernel_rfl) (by kernel_rfl) (Nat.le_of_eq rfl)
    ⟨.pure rfl rfl 85 rfl fun a ww hf hd => show _ = Result.ok (Next.value ((.slice (some ⟨g, 0, none⟩) n cp))) ww by
       have h0 : a.eval (.tmp 0) = (.slice (some ⟨g, 0, none⟩) n cp) := (outM hf 0 (by kernel_rfl)).trans rfl
       revert h0
       generalize a.eval = ev
       intro h0
       unfold execOp
       simp only [h0]
       (try go_simp),
     .pure rfl rfl 86 rfl fun a ww hf hd => show _ = Result.ok (Next.value ((.int .i64 (ic : Int)))) ww by
       have h3 : a.eval (.tmp 3) = (.int .i64 (ic : Int)) := (outM hf 3 (by kernel_rfl)).trans rfl
       revert h3
       generalize a.eval = ev
       intro h3
       unfold execOp
       simp only [h3]
       (try go_simp),
     .pure rfl rfl 87 rfl fun a ww hf hd => show _ = Result.ok (Next.value ((.slice (some ⟨g, 0, none⟩) n cp))) ww by
       have h0 : a.eval (.tmp 0) = (.slice (some ⟨g, 0, none⟩) n cp) := (outM hf 0 (by kernel_rfl)).trans rfl
       revert h0
       generalize a.eval = ev
       intro h0
       unfold execOp
       simp only [h0]
       (try go_simp),
     .pure rfl rfl 88 rfl fun a ww hf hd => show _ = Result.ok (Next.value ((.int .i64 (ic : Int)))) ww by
       have h3 : a.eval (.tmp 3) = (.int .i64 (ic : Int)) := (outM hf 3 (by kernel_rfl)).trans rfl
       revert h3
       generalize a.eval = ev
       intro h3
       unfold execOp
       simp only [h3]
       (try go_simp),
     .pure rfl rfl 89 rfl fun a ww hf hd => show _ = Result.ok (Next.value ((.pointer (some ⟨g, ic, none⟩)))) ww by
       have h87 : a.eval (.tmp 87) = (.slice (some ⟨g, 0, none⟩) n cp) := hd 2 87 (by kernel_rfl) rfl
       have h88 : a.eval (.tmp 88) = (.int .i64 (ic : Int)) := hd 3 88 (by kernel_rfl) rfl
       revert h87 h88
       generalize a.eval = ev
       intro h87 h88
       unfold execOp
       simp only [h87, h88]
       (try go_simp),
     .run rfl rfl 90 rfl fun a ww hw hf hd => show _ = Result.ok (Next.value ((.int .u32 c1))) ww by
       have h89 : a.eval (.tmp 89) = (.pointer (some ⟨g, ic, none⟩)) := hd 4 89 (by kernel_rfl) rfl
       have hcc := (hS0 ww hw).at_ F3.out
       rw [Nat.zero_add] at hcc
       revert h89
       generalize a.eval = ev
       intro h89
       unfold execOp
       simp only [h89]
       (try go_simp),
     .pure rfl rfl 91 rfl fun a ww hf hd => show _ = Result.ok (Next.value ((.slice (some ⟨g, 0, none⟩) n cp))) ww by
       have h0 : a.eval (.tmp 0) = (.slice (some ⟨g, 0, none⟩) n cp) := (outM hf 0 (by kernel_rfl)).trans rfl
       revert h0
       generalize a.eval = ev
       intro h0
       unfold execOp
       simp only [h0]
       (try go_simp),
     .pure rfl rfl 92 rfl fun a ww hf hd => show _ = Result.ok (Next.value ((.int .i64 (ie : Int)))) ww by
       have h4 : a.eval (.tmp 4) = (.int .i64 (ie : Int)) := (outM hf 4 (by kernel_rfl)).trans rfl
       revert h4
       generalize a.eval = ev
       intro h4
       unfold execOp
       simp only [h4]
       (try go_simp),
     .pure rfl rfl 93 rfl fun a ww hf hd => show _ = Result.ok (Next.value ((.pointer (some ⟨g, ie, none⟩)))) ww by
       have h91 : a.eval (.tmp 91) = (.slice (some ⟨g, 0, none⟩) n cp) := hd 6 91 (by kernel_rfl) rfl
       have h92 : a.eval (.tmp 92) = (.int .i64 (ie : Int)) := hd 7 92 (by kernel_rfl) rfl
       revert h91 h92
       generalize a.eval = ev
       intro h91 h92
       unfold execOp
       simp only [h91, h92]
       (try go_simp),
     .run rfl rfl 94 rfl fun a ww hw hf hd => show _ = Result.ok (Next.value ((.int .u32 d2))) ww by
       have h93 : a.eval (.tmp 93) = (.pointer (some ⟨g, ie, none⟩)) := hd 8 93 (by kernel_rfl) rfl
       have hcc := (hS0 ww hw).at_ F4.out
       rw [Nat.zero_add] at hcc
       revert h93
       generalize a.eval = ev
       intro h93
       unfold execOp
       simp only [h93]
       (try go_simp),
     .pure rfl rfl 95 rfl fun a ww hf hd => show _ = Result.ok (Next.value ((.int .u32 c2))) ww by
       have h90 : a.eval (.tmp 90) = (.int .u32 c1) := hd 5 90 (by kernel_rfl) rfl
       have h94 : a.eval (.tmp 94) = (.int .u32 d2) := hd 9 94 (by kernel_rfl) rfl
       revert h90 h94
       generalize a.eval = ev
       intro h90 h94
       unfold execOp
       simp only [h90, h94]
       (try go_simp),
     .pure rfl rfl 96 rfl fun a ww hf hd => show _ = Result.ok (Next.value ((.pointer (some ⟨g, ic, none⟩)))) ww by
       have h85 : a.eval (.tmp 85) = (.slice (some ⟨g, 0, none⟩) n cp) := hd 0 85 (by kernel_rfl) rfl
       have h86 : a.eval (.tmp 86) = (.int .i64 (ic : Int)) := hd 1 86 (by kernel_rfl) rfl
       revert h85 h86
       generalize a.eval = ev
       intro h85 h86
       unfold execOp
       simp only [h85, h86]
       (try go_simp),
     .put 0 rfl rfl rfl ⟨g, ic, none⟩ (.int .u32 c2) hu fun a ww hw hf hd => by
       have h96 : a.eval (.tmp 96) = (.pointer (some ⟨g, ic, none⟩)) := hd 11 96 (by kernel_rfl) rfl
       have h95 : a.eval (.tmp 95) = (.int .u32 c2) := hd 10 95 (by kernel_rfl) rfl
       have hst : Arr (behind up 0 ww) g 0 .u32 l6 := hS0 ww hw
       have hcc := hst.at_ F3.out
       have hff := hst.free (List.getElem?_eq_some_iff.1 F3.out).1
       rw [Nat.zero_add] at hcc hff
       generalize behind up 0 ww = wb at *
       revert h96 h95
       generalize a.eval = ev
       intro h96 h95
       unfold execOp
       simp only [h96, h95]
       (try go_simp), trivial⟩ ?_
  intro val w9 hv hw
  have e85 : val 85 = (.slice (some ⟨g, 0, none⟩) n cp) := hv 85
  have e86 : val 86 = (.int .i64 (ic : Int)) := hv 86
  have e87 : val 87 = (.slice (some ⟨g, 0, none⟩) n cp) := hv 87
  have e88 : val 88 = (.int .i64 (ic : Int)) := hv 88
  have e89 : val 89 = (.pointer (some ⟨g, ic, none⟩)) := hv 89
  have e90 : val 90 = (.int .u32 c1) := hv 90
  have e91 : val 91 = (.slice (some ⟨g, 0, none⟩) n cp) := hv 91
  have e92 : val 92 = (.int .i64 (ie : Int)) := hv 92
  have e93 : val 93 = (.pointer (some ⟨g, ie, none⟩)) := hv 93
  have e94 : val 94 = (.int .u32 d2) := hv 94
  have e95 : val 95 = (.int .u32 c2) := hv 95
  have e96 : val 96 = (.pointer (some ⟨g, ic, none⟩)) := hv 96
  simp only [putVals, List.foldl_cons, List.foldl_nil, Act.put, List.setIfInBounds_toArray, List.set_cons_succ, List.set_cons_zero, e85, e86, e87, e88, e89, e90, e91, e92, e93, e94, e95, e96]
  clear hv e85 e86 e87 e88 e89 e90 e91 e92 e93 e94 e95 e96
  have hA9 : Arr (up 0 w9) g 0 .u32 l7 := by rw [hu, ← L7.out]; have := (hS0 w9 hw).set ic c2; rwa [Nat.zero_add] at this
  have hO9 : Only g w (up 0 w9) := by rw [hu]; exact (hO.trans (Only.of hw g)).setCell (.inl rfl) _
  change Arr (behind up [12].length w9) _ _ _ _ at hA9
  change Only g w (behind up [12].length w9) at hO9
  clear hA hO hS0 hu hw
  generalize behind up [12].length w9 = w7 at *
  clear up
  have hgl : g < w7.heap.size := hA9.lt (by rw [← L7.out, List.length_set]; exact HP6.out)
  have HP7 : Hid (0 < l7.length) := hid (by rw [← L7.out, List.length_set]; exact HP6.out)
  have hA := hA9
  have hO := hO9
  clear hA9 hO9
  have F1n : Hid (l7[ia]? = some a2) := hid (by rw [← L7.out, List.getElem?_set_ne D31]; exact F1.out)
  have F2n : Hid (l7[ib]? = some b1) := hid (by rw [← L7.out, List.getElem?_set_ne D32]; exact F2.out)
  have F3n : Hid (l7[ic]? = some c2) := hid (by rw [← L7.out, List.getElem?_set_self (List.getElem?_eq_some_iff.1 F3.out).1])
  have F4n : Hid (l7[ie]? = some d2) := hid (by rw [← L7.out, List.getElem?_set_ne D34]; exact F4.out)
  clear F1 F2 F3 F4
  have F1 := F1n
  have F2 := F2n
  have F3 := F3n
  have F4 := F4n
  clear F1n F2n F3n F4n
  go_wp2
  have hS0 : ∀ ww, Cl w7 ww → Arr ww g 0 .u32 l7 := fun ww h => hA.below h hgl
  obtain ⟨up, hup⟩ : ∃ up : Nat → World → World, up = fun _ ww => ww.setCell ⟨g, ib, none⟩ (.int .u32 b2) := ⟨_, rfl⟩
  have hu : ∀ ww, up 0 ww = ww.setCell ⟨g, ib, none⟩ (.int .u32 b2) := fun ww => by rw [hup]
  clear hup
  refine region_many 110 (tvOf [(97, (.slice (some ⟨g, 0, none⟩) n cp)), (98, (.int .i64 (ib : Int))), (99, (.slice (some ⟨g, 0, none⟩) n cp)), (100, (.int .i64 (ib : Int))), (101, (.pointer (some ⟨g, ib, none⟩))), (102, (.int .u32 b1)), (103, (.slice (some ⟨g, 0, none⟩) n cp)), (104, (.int .i64 (ic : Int))), (105, (.pointer (some ⟨g, ic, none⟩))), (106, (.int .u32 c2)), (107, (.int .u32 x4)), (108, (.int .u32 b2)), (109, (.pointer (some ⟨g, ib, none⟩)))]) (kdOf [0, 0, 0, 0, 0, 1, 0, 0, 0, 1, 0, 1, 0, 2]) [13] up [97, 98, 99, 100, 101, 102, 103, 104, 105, 106, 107, 108, 109] (by kernel_rfl) (by kernel_rfl) (by kernel_rfl) (Nat.le_of_eq rfl)
    ⟨.pure rfl rfl 97 rfl fun a ww hf hd => show _ = Result.ok (Next.value ((.slice (some ⟨g, 0, none⟩) n cp))) ww by
       have h0 : a.eval (.tmp 0) = (.slice (some ⟨g, 0, none⟩) n cp) := (outM hf 0 (by kernel_rfl)).trans rfl
       revert h0
       generalize a.eval = ev
       intro h0
       unfold execOp
       simp only [h0]
       (try go_simp),
     .pure rfl rfl 98 rfl fun a ww hf hd => show _ = Result.ok (Next.value ((.int .i64 (ib : Int)))) ww by
       have h2 : a.eval (.tmp 2) = (.int .i64 (ib : Int)) := (outM hf 2 (by kernel_rfl)).trans rfl
       revert h2
       generalize a.eval = ev
       intro h2
       unfold execOp
       simp only [h2]
       (try go_simp),
     .pure rfl rfl 99 rfl fun a ww hf hd => show _ = Result.ok (Next.value ((.slice (some ⟨g, 0, none⟩) n cp))) ww by
       have h0 : a.eval (.tmp 0) = (.slice (some ⟨g, 0, none⟩) n cp) := (outM hf 0 (by kernel_rfl)).trans rfl
       revert h0
       generalize a.eval = ev
       intro h0
       unfold execOp
       simp only [h0]
       (try go_simp),
     .pure rfl rfl 100 rfl fun a ww hf hd => show _ = Result.ok (Next.value ((.int .i64 (ib : Int)))) ww by
       have h2 : a.eval (.tmp 2) = (.int .i64 (ib : Int)) := (outM hf 2 (by kernel_rfl)).trans rfl
       revert h2
       generalize a.eval = ev
       intro h2
       unfold execOp
       simp only [h2]
       (try go_simp),
     .pure rfl rfl 101 rfl fun a ww hf hd => show _ = Result.ok (Next.value ((.pointer (some ⟨g, ib, none⟩)))) ww by
       have h99 : a.eval (.tmp 99) = (.slice (some ⟨g, 0, none⟩) n cp) := hd 2 99 (by kernel_rfl) rfl
       have h100 : a.eval (.tmp 100) = (.int .i64 (ib : Int)) := hd 3 100 (by kernel_rfl) rfl
       revert h99 h100
       generalize a.eval = ev
       intro h99 h100
       unfold execOp
       simp only [h99, h100]
       (try go_simp),
     .run rfl rfl 102 rfl fun a ww hw hf hd => show _ = Result.ok (Next.value ((.int .u32 b1))) ww by
       have h101 : a.eval (.tmp 101) = (.pointer (some ⟨g, ib, none⟩)) := hd 4 101 (by kernel_rfl) rfl
       have hcc := (hS0 ww hw).at_ F2.out
       rw [Nat.zero_add] at hcc
       revert h101
       generalize a.eval = ev
       intro h101
       unfold execOp
       simp only [h101]
       (try go_simp),
     .pure rfl rfl 103 rfl fun a ww hf hd => show _ = Result.ok (Next.value ((.slice (some ⟨g, 0, none⟩) n cp))) ww by
       have h0 : a.eval (.tmp 0) = (.slice (some ⟨g, 0, none⟩) n cp) := (outM hf 0 (by kernel_rfl)).trans rfl
       revert h0
       generalize a.eval = ev
       intro h0
       unfold execOp
       simp only [h0]
       (try go_simp),
     .pure rfl rfl 104 rfl fun a ww hf hd => show _ = Result.ok (Next.value ((.int .i64 (ic : Int)))) ww by
       have h3 : a.eval (.tmp 3) = (.int .i64 (ic : Int)) := (outM hf 3 (by kernel_rfl)).trans rfl
       revert h3
       generalize a.eval = ev
       intro h3
       unfold execOp
       simp only [h3]
       (try go_simp),
     .pure rfl rfl 105 rfl fun a ww hf hd => show _ = Result.ok (Next.value ((.pointer (some ⟨g, ic, none⟩)))) ww by
       have h103 : a.eval (.tmp 103) = (.slice (some ⟨g, 0, none⟩) n cp) := hd 6 103 (by kernel_rfl) rfl
       have h104 : a.eval (.tmp 104) = (.int .i64 (ic : Int)) := hd 7 104 (by kernel_rfl) rfl
       revert h103 h104
       generalize a.eval = ev
       intro h103 h104
       unfold execOp
       simp only [h103, h104]
       (try go_simp),
     .run rfl rfl 106 rfl fun a ww hw hf hd => show _ = Result.ok (Next.value ((.int .u32 c2))) ww by
       have h105 : a.eval (.tmp 105) = (.pointer (some ⟨g, ic, none⟩)) := hd 8 105 (by kernel_rfl) rfl
       have hcc := (hS0 ww hw).at_ F3.out
       rw [Nat.zero_add] at hcc
       revert h105
       generalize a.eval = ev
       intro h105
       unfold execOp
       simp only [h105]
       (try go_simp),
     .pure rfl rfl 107 rfl fun a ww hf hd => show _ = Result.ok (Next.value ((.int .u32 x4))) ww by
       have h102 : a.eval (.tmp 102) = (.int .u32 b1) := hd 5 102 (by kernel_rfl) rfl
       have h106 : a.eval (.tmp 106) = (.int .u32 c2) := hd 9 106 (by kernel_rfl) rfl
       revert h102 h106
       generalize a.eval = ev
       intro h102 h106
       unfold execOp
       simp only [h102, h106]
       (try go_simp),
     .call rfl rfl 108 rfl fun a ww hw hf hd => by
       have h107 : a.eval (.tmp 107) = (.int .u32 x4) := hd 10 107 (by kernel_rfl) rfl
       have c0 : a.eval (.const (.int .i64 (7))) = .int .i64 (7) := rfl
       have f16 : a.eval (.func 50) = .func (.func 50) #[] #[] := rfl
       refine ⟨50, #[(.int .u32 x4), (.int .i64 7)], ?_, (left_any x4 7 25 ww (by omega) (hid rfl) Hx4).mono fun e w2 ⟨he, hw2⟩ => ⟨by rw [he, Gx4.out]; rfl, by rw [← hw2]; exact Below.refl _ _⟩⟩
       revert h107 c0 f16
       generalize a.eval = ev
       intro h107 c0 f16
       unfold execOp
       simp only [h107, c0, f16]
       (try go_simp),
     .pure rfl rfl 109 rfl fun a ww hf hd => show _ = Result.ok (Next.value ((.pointer (some ⟨g, ib, none⟩)))) ww by
       have h97 : a.eval (.tmp 97) = (.slice (some ⟨g, 0, none⟩) n cp) := hd 0 97 (by kernel_rfl) rfl
       have h98 : a.eval (.tmp 98) = (.int .i64 (ib : Int)) := hd 1 98 (by kernel_rfl) rfl
       revert h97 h98
       generalize a.eval = ev
       intro h97 h98
       unfold execOp
       simp only [h97, h98]
       (try go_simp),
     .put 0 rfl rfl rfl ⟨g, ib, none⟩ (.int .u32 b2) hu fun a ww hw hf hd => by
       have h109 : a.eval (.tmp 109) = (.pointer (some ⟨g, ib, none⟩)) := hd 12 109 (by kernel_rfl) rfl
       have h108 : a.eval (.tmp 108) = (.int .u32 b2) := hd 11 108 (by kernel_rfl) rfl
       have hst : Arr (behind up 0 ww) g 0 .u32 l7 := hS0 ww hw
       have hcc := hst.at_ F2.out
       have hff := hst.free (List.getElem?_eq_some_iff.1 F2.out).1
       rw [Nat.zero_add] at hcc hff
       generalize behind up 0 ww = wb at *
       revert h109 h108
       generalize a.eval = ev
       intro h109 h108
       unfold execOp
       simp only [h109, h108]
       (try go_simp), trivial⟩ ?_
  intro val w9 hv hw
  have e97 : val 97 = (.slice (some ⟨g, 0, none⟩) n cp) := hv 97
  have e98 : val 98 = (.int .i64 (ib : Int)) := hv 98
  have e99 : val 99 = (.slice (some ⟨g, 0, none⟩) n cp) := hv 99
  have e100 : val 100 = (.int .i64 (ib : Int)) := hv 100
  have e101 : val 101 = (.pointer (some ⟨g, ib, none⟩)) := hv 101
  have e102 : val 102 = (.int .u32 b1) := hv 102
  have e103 : val 103 = (.slice (some ⟨g, 0, none⟩) n cp) := hv 103
  have e104 : val 104 = (.int .i64 (ic : Int)) := hv 104
  have e105 : val 105 = (.pointer (some ⟨g, ic, none⟩)) := hv 105
  have e106 : val 106 = (.int .u32 c2) := hv 106
  have e107 : val 107 = (.int .u32 x4) := hv 107
  have e108 : val 108 = (.int .u32 b2) := hv 108
  have e109 : val 109 = (.pointer (some ⟨g, ib, none⟩)) := hv 109
  simp only [putVals, List.foldl_cons, List.foldl_nil, Act.put, List.setIfInBounds_toArray, List.set_cons_succ, List.set_cons_zero, e97, e98, e99, e100, e101, e102, e103, e104, e105, e106, e107, e108, e109]
  clear hv e97 e98 e99 e100 e101 e102 e103 e104 e105 e106 e107 e108 e109
  have hA9 : Arr (up 0 w9) g 0 .u32 l8 := by rw [hu, ← L8.out]; have := (hS0 w9 hw).set ib b2; rwa [Nat.zero_add] at this
  have hO9 : Only g w (up 0 w9) := by rw [hu]; exact (hO.trans (Only.of hw g)).setCell (.inl rfl) _
  change Arr (behind up [13].length w9) _ _ _ _ at hA9
  change Only g w (behind up [13].length w9) at hO9
  clear hA hO hS0 hu hw
  generalize behind up [13].length w9 = w8 at *
  clear up
  have hgl : g < w8.heap.size := hA9.lt (by rw [← L8.out, List.length_set]; exact HP7.out)
  have HP8 : Hid (0 < l8.length) := hid (by rw [← L8.out, List.length_set]; exact HP7.out)
  have hA := hA9
  have hO := hO9
  clear hA9 hO9
  have F1n : Hid (l8[ia]? = some a2) := hid (by rw [← L8.out, List.getElem?_set_ne D21]; exact F1.out)
  have F2n : Hid (l8[ib]? = some b2) := hid (by rw [← L8.out, List.getElem?_set_self (List.getElem?_eq_some_iff.1 F2.out).1])
  have F3n : Hid (l8[ic]? = some c2) := hid (by rw [← L8.out, List.getElem?_set_ne D23]; exact F3.out)
  have F4n : Hid (l8[ie]? = some d2) := hid (by rw [← L8.out, List.getElem?_set_ne D24]; exact F4.out)
  clear F1 F2 F3 F4
  have F1 := F1n
  have F2 := F2n
  have F3 := F3n
  have F4 := F4n
  clear F1n F2n F3n F4n
  go_wp2
  go_end0
  exact ⟨rfl, hA, hO⟩
end Go.Proofs.YtpiamcgienkhaaaDoor
