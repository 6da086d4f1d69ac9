/- The chapter's example, and the laws of sums: the walks. -/
import Derived.Test.YtpaopdjbhmdfjaaDoorPMulM
import Derived.Test.YtpaopdjbhmdfjaaDoorSRefPM
namespace Go.Proofs.YtpaopdjbhmdfjaaDoor
open Go Go.RowKit

section
variable {ops : Array Oper} {md : Region.Mode} {W : World} {a0 : Act} {n : Nat} {al : Nat → Bool} {S : Nat → Value → World → Prop} {Q : Exit → Act → World → Prop} {i : Nat} {o : Oper}
theorem built_none : Tryd.prog.built 22 [] = some (ints .u8 (zeros 32)).toArray := by kernel_rfl
theorem step_oneB (hal : al i = false) (hg : GuardOn ops md n S i o) {c : Int} {m : List Int} (ho : o.op = .build 22 #[(0, .const (.int .u8 c))]) (hb : Tryd.prog.built 22 [(0, .int .u8 c)] = some (ints .u8 m).toArray) (hS : S i = Is (.agg (ints .u8 m).toArray)) : StepOk Tryd.prog ops md W a0 n al S Q i o :=
  step_run hal hg fun a w hw hf hd => ⟨.agg (ints .u8 m).toArray, by
    have hc : a.eval (.const (.int .u8 c)) = .int .u8 c := rfl
    revert hc
    generalize a.eval = ev
    intro hc
    have h := run_build (P := Tryd.prog) w 22 #[(0, .int .u8 c)] _ hb
    unfold execOp
    simp only [ho, Sem.run_bind]
    simp only [List.map_toArray, List.map_cons, List.map_nil, hc, h, Result.andThen_ok, Sem.run_pure], by rw [hS]; exact rfl⟩
theorem step_noneB (hal : al i = false) (hg : GuardOn ops md n S i o) (ho : o.op = .build 22 #[]) (hS : S i = Is (.agg (ints .u8 (zeros 32)).toArray)) : StepOk Tryd.prog ops md W a0 n al S Q i o :=
  step_run hal hg fun a w hw hf hd => ⟨.agg (ints .u8 (zeros 32)).toArray, by
    generalize a.eval = ev
    have h := run_build (P := Tryd.prog) w 22 #[] _ built_none
    unfold execOp
    simp only [ho, Sem.run_bind]
    simp only [List.map_toArray, List.map_nil, h, Result.andThen_ok, Sem.run_pure], by rw [hS]; exact rfl⟩
theorem step_eqE (hal : al i = false) (hg : GuardOn ops md n S i o) {x : Operand} {a c : Int} {b : Bool} (ho : o.op = .binOp .eql 29 x (.const (.int .i64 c)) 29) (hS : S i = Is (.bool b)) (hb : b = (a == c)) (hx : Knows ops md W a0 n S i x (.int .i64 a)) : StepOk Tryd.prog ops md W a0 n al S Q i o :=
  step_run hal hg fun a' w hw hf hd => ⟨.bool b, by
    have h := hx a' w hw hf hd
    have hc : a'.eval (.const (.int .i64 c)) = .int .i64 c := rfl
    rw [hb]
    revert h hc
    generalize a'.eval = ev
    intro h hc
    unfold execOp
    simp only [ho, h, hc]
    go_simp, by rw [hS]; exact rfl⟩
end
theorem q_out (w : World) : Calls Tryd.prog 35 #[] w (ROut QN w) :=
  (q_walk w).mono fun _ _ ⟨g, c, he, hO, hB⟩ => ⟨some ⟨g, 0, none⟩, c, dgN QN 16, he, dgN_rp 16 QN qn_lt, hO.fresh, hB⟩
def threeL : List Int := 3 :: zeros 31
theorem built_three : Tryd.prog.built 22 [(0, .int .u8 3)] = some (ints .u8 threeL).toArray := by kernel_rfl
theorem three_len : threeL.length = 32 := by simp [threeL, zeros]
theorem three_byt : Byt threeL := byt_dec (by decide)
theorem three_bn : bn threeL = 3 := by decide +kernel
theorem back_alg {n : Nat} [NeZero n] {i x : Fin n} (hi : i * i = -1) : -(i * (i * x)) = x := by grind
theorem base_even : oddB bxN = false := by decide +kernel
theorem bx_val : bxF.val = bxN := Nat.mod_eq_of_lt bx_lt
theorem by_val : byF.val = byN := Nat.mod_eq_of_lt (by decide +kernel)
theorem base_bytes : bytesP baseP = BYL := by
  show pbytes byF.val (oddB (-(iF * (iF * bxF))).val) = BYL
  rw [back_alg i_sq, bx_val, by_val, base_even]
  show rbytes byN = BYL
  rw [← byl_bn, rbytes_bn byl_len byl_byt]

set_option maxRecDepth 4000 in
set_option maxHeartbeats 16000000 in
theorem awake_any : CallsT 6 #[] (.bool true) := by
  obtain ⟨bb, kb, hbb⟩ := pr_base
  have ky := hbb.bytes
  rw [base_bytes] at ky
  intro w0 hT
  have hW := Below.refl w0.heap.size w0
  go_enter Tryd.func6, Tryd.ntmps6
  go_upto_region 1 with (fail)
  have s0 := hW.size
  refine region_seq2 3 17 (fun i => i == 2) [Is (.agg (ints .i64 bb).toArray), Is (.agg (ints .u8 BYL).toArray), IsZ22 w0.heap.size] [2, 3, 1] (by kernel_rfl) (by kernel_rfl) (Nat.le_of_eq rfl) (grows_cons (Is.grows _) (grows_cons (Is.grows _) (grows_cons (IsZ22.grows _) grows_nil)))
    ⟨step_toT rfl (.inl rfl) rfl cg25 hT kb rfl (no_args),
     step_to rfl (.inl rfl) rfl cg10 ky rfl (one_arg (knows_in 0 2 (by decide) (by kernel_rfl) rfl rfl)),
     step_alloc22 (.inl rfl) rfl rfl, trivial⟩ ?_
  intro val w1 hw hS hap hla
  have e2 : val 2 = (.agg (ints .i64 bb).toArray) := hS 0 2 (by decide) rfl
  have e3 : val 3 = (.agg (ints .u8 BYL).toArray) := hS 1 3 (by decide) rfl
  obtain ⟨b1, e1, L1, Z1⟩ := hS 2 1 (by decide) rfl
  simp only [putVals, List.foldl_cons, List.foldl_nil, List.drop_succ_cons, List.drop_zero, Act.put, List.setIfInBounds_toArray, List.set_cons_succ, List.set_cons_zero, e2, e3, e1]
  clear hS hap hla e2 e3 e1 
  have LL1 := hid byl_len
  have R1 := Z1.room (l' := BYL) byl_len
  have hB1 := Z1.stored (l' := BYL) byl_len
  replace hT := hT.next (Below.setCells hw L1 0 (ints .u8 BYL).toArray.toList)
  replace hW := hW.trans (Below.mono (Below.setCells hw L1 0 (ints .u8 BYL).toArray.toList) hW.size)
  with_reducible refine wpList_store_mid (op := ⟨none, .store 22 (.tmp 1) (.tmp 3), _, _, _, _⟩) rfl 22 (.tmp 1) (.tmp 3) rfl b1 0 (ints .u8 BYL).toArray rfl rfl R1 (a22 LL1.out) (ints_all _ _) ?_
  generalize (w1.setCells b1 0 (ints .u8 BYL).toArray.toList) = w2 at *
  clear hw R1 LL1 Z1 
  have c0 := (hB1.1 0 88 rfl).1
  have c1 := (hB1.1 1 102 rfl).1
  have c31 := (hB1.1 31 102 rfl).1
  rw [Nat.zero_add] at c0 c1 c31
  clear hB1
  go_wp2_with (fail)
  go_ret
  exact ⟨rfl, hW⟩
theorem neg_neg_pt {n : Nat} [NeZero n] (P : Edw.Pt n) : Edw.neg (Edw.neg P) = P := Edw.pt_ext (by show -(-P.x) = P.x; grind) rfl

section
variable {ops : Array Oper} {md : Region.Mode} {W : World} {a0 : Act} {n : Nat} {al : Nat → Bool} {S : Nat → Value → World → Prop} {Q : Exit → Act → World → Prop} {i : Nat} {o : Oper}
theorem step_rbytesQ (hal : al i = false) (hg : GuardOn ops md n S i o) {x : Operand} {ts : Array TypeId} {m : Nat} {l : List Int} (ho : o.op = .call { callee := .value (.func 34), args := #[x], argTypes := ts }) (hcf : ∀ vs w, (callFunc 34 vs).run Tryd.prog w = .ok (.enter 34 vs) w) (hl : rbytes m = l) (hS : S i = Is (.agg (ints .u8 l).toArray)) (hx : KnowsR ops md W a0 n S i x m) : StepOk Tryd.prog ops md W a0 n al S Q i o := by
  subst hl
  exact step_rbytes hal hg ho hcf hS hx
end

set_option maxRecDepth 4000 in
set_option maxHeartbeats 16000000 in
theorem laws_ok {a m n : List Int} (bm : Byt m) (bn' : Byt n) (la : a.length = 32) (lm : m.length = 32) (ln : n.length = 32) {P : Edw.Pt NT.PN} {off : List Int} (kof : CallsT 7 #[.agg (ints .u8 a).toArray] (.tuple #[.agg (ints .i64 off).toArray, .int .i64 0])) {bb : List Int} (kb : CallsT 25 #[] (.agg (ints .i64 bb).toArray)) (hbb : PR bb baseP) (hoff : PR off P) : CallsT 5 #[.agg (ints .u8 a).toArray, .agg (ints .u8 m).toArray, .agg (ints .u8 n).toArray] (.bool true) := by
  have hnou := nouL_spec.2
  obtain ⟨qq, kq, hqq⟩ := hbb.mul lm bm
  obtain ⟨k1, hu1⟩ := hoff.add hqq
  obtain ⟨k2, hu2⟩ := hqq.add hoff
  rw [Edw.comm] at hu2
  have e1 := hu1.same hu2
  have o1 := hu1.on
  obtain ⟨np, kn, hnp⟩ := hoff.neg
  obtain ⟨k3, hu3⟩ := hoff.add hnp
  have onP : Edw.On eF P := by obtain ⟨_, _, _, h⟩ := hoff; exact h
  have onB := base_on
  rw [Edw.comm, Edw.neg_add pn_fld ns_e onP] at hu3
  have e2 := hu3.same hnou
  obtain ⟨k4, hu4⟩ := hoff.add hnou
  rw [Edw.comm, Edw.O_add pn_fld ns_e onP] at hu4
  have e3 := hu4.same hoff
  obtain ⟨nn, knn, hnn⟩ := hnp.neg
  rw [neg_neg_pt] at hnn
  have e4 := hnn.same hoff
  have lmn : (rbytes ((bn m + bn n) % QN)).length = 32 := rbytes_length _
  have kmn : CallsTo 32 #[.agg (ints .u8 m).toArray, .agg (ints .u8 n).toArray] (.agg (ints .u8 (rbytes ((bn m + bn n) % QN))).toArray) := fun w => raddq_walk lm ln bm bn'
  obtain ⟨t1, j1, ht1⟩ := hbb.mul lmn (rbytes_byt _)
  rw [bn_rbytes (modq_lt _), mul_mod] at ht1
  obtain ⟨t2, j2, ht2⟩ := hbb.mul ln bn'
  obtain ⟨j3, ht3⟩ := hqq.add ht2
  rw [← Edw.mul_add pn_fld ns_e onB] at ht3
  have e5 := ht1.same ht3
  obtain ⟨t4, j4, ht4⟩ := hqq.mul ln bn'
  rw [Edw.mul_mul pn_fld ns_e onB] at ht4
  have lmx : (rbytes (bn m * bn n % QN)).length = 32 := rbytes_length _
  have kmx : CallsTo 33 #[.agg (ints .u8 m).toArray, .agg (ints .u8 n).toArray] (.agg (ints .u8 (rbytes (bn m * bn n % QN))).toArray) := fun w => rmulq_walk lm ln bm bn'
  obtain ⟨t5, j5, ht5⟩ := hbb.mul lmx (rbytes_byt _)
  rw [bn_rbytes (modq_lt _), mul_mod, Nat.mul_comm] at ht5
  have e6 := ht4.same ht5
  have lqb : (rbytes QN).length = 32 := rbytes_length _
  obtain ⟨t6, j6, ht6⟩ := hbb.mul lqb (rbytes_byt _)
  rw [bn_rbytes qn_lt, order_base] at ht6
  have e7 := ht6.same hnou
  obtain ⟨t7, j7, ht7⟩ := hoff.mul three_len three_byt
  rw [three_bn] at ht7
  obtain ⟨j8, ht8⟩ := hoff.add hoff
  obtain ⟨j9, ht9⟩ := ht8.add hoff
  have e3P : Edw.add eF (Edw.add eF P P) P = Edw.mul eF 3 P := by
    show _ = Edw.add eF (Edw.add eF (Edw.add eF Edw.O P) P) P
    rw [Edw.O_add pn_fld ns_e onP]
  rw [e3P] at ht9
  have e8 := ht7.same ht9
  generalize rbytes ((bn m + bn n) % QN) = mn at kmn lmn j1
  generalize rbytes (bn m * bn n % QN) = mx at kmx lmx j5
  obtain ⟨qb, hqb⟩ : ∃ l, rbytes QN = l := ⟨_, rfl⟩
  rw [hqb] at lqb j6
  have HQB := hid hqb
  clear hqb
  generalize sumL off qq = u1 at k1 hu1 e1 o1
  generalize sumL qq off = u2 at k2 hu2 e1
  generalize sumL off np = u3 at k3 hu3 e2
  generalize sumL off nouL = u4 at k4 hu4 e3
  generalize sumL qq t2 = t3 at j3 ht3 e5
  generalize sumL off off = t8 at j8 ht8 j9 ht9 e8
  generalize sumL t8 off = t9 at j9 ht9 e8

  intro W hT
  have h3 := ((By.new W a la).next (below_new _ (.cells (ints .u8 m).toArray 22))).next (below_new _ (.cells (ints .u8 n).toArray 22))
  have h4 := (By.new (W.alloc (.cells (ints .u8 a).toArray 22)) m lm).next (below_new _ (.cells (ints .u8 n).toArray 22))
  have h5 := By.new ((W.alloc (.cells (ints .u8 a).toArray 22)).alloc (.cells (ints .u8 m).toArray 22)) n ln
  have hW := ((below_new W (.cells (ints .u8 a).toArray 22)).alloc (by simp) (.cells (ints .u8 m).toArray 22)).alloc (by simp; omega) (.cells (ints .u8 n).toArray 22)
  have hT0 := hT
  replace hT := (((hT.alloc (.cells (ints .u8 a).toArray 22)).alloc (.cells (ints .u8 m).toArray 22)).alloc (.cells (ints .u8 n).toArray 22))
  simp only [World.size_alloc] at h4 h5
  go_enter Tryd.func5, Tryd.ntmps5
  go_upto_region 1 with (fail)
  generalize ((W.alloc (.cells (ints .u8 a).toArray 22)).alloc (.cells (ints .u8 m).toArray 22)).alloc (.cells (ints .u8 n).toArray 22) = w0 at *
  have s0 := hW.size
  refine region_seq2 2 108 (fun _ => false) [Is (.bool true), Is (.bool false)] [11, 12] (by kernel_rfl) (by kernel_rfl) (Nat.le_of_eq rfl) (grows_cons (Is.grows _) (grows_cons (Is.grows _) grows_nil))
    ⟨step_toT rfl (.inl rfl) rfl cg6 hT awake_any rfl (no_args),
     step_not rfl (.inl rfl) (b := true) rfl rfl (knows_in 0 11 (by decide) (by kernel_rfl) rfl rfl), trivial⟩ ?_
  intro val w1 hw hS hap hla
  have e11 : val 11 = (.bool true) := hS 0 11 (by decide) rfl
  have e12 : val 12 = (.bool false) := hS 1 12 (by decide) rfl
  simp only [putVals, List.foldl_cons, List.foldl_nil, List.drop_succ_cons, List.drop_zero, Act.put, List.setIfInBounds_toArray, List.set_cons_succ, List.set_cons_zero, e11, e12]
  clear hS hap hla e11 e12 
  replace hT := hT.next hw
  replace h3 := h3.next hw
  replace h4 := h4.next hw
  replace h5 := h5.next hw
  replace hW := hW.trans (Below.mono hw hW.size)
  clear hw
  go_upto_region 3 with (fail)
  have s1 := hW.size
  refine region_seq2 2 108 (fun i => i == 1) [Is (.agg (ints .i64 bb).toArray), IsZ4 w1.heap.size] [13, 7] (by kernel_rfl) (by kernel_rfl) (Nat.le_of_eq rfl) (grows_cons (Is.grows _) (grows_cons (IsZ4.grows _) grows_nil))
    ⟨step_toT rfl (.inl rfl) rfl cg25 hT kb rfl (no_args),
     step_alloc28 (.inl rfl) rfl rfl, trivial⟩ ?_
  intro val w2 hw hS hap hla
  have e13 : val 13 = (.agg (ints .i64 bb).toArray) := hS 0 13 (by decide) rfl
  obtain ⟨b7, e7, L7, Z7⟩ := hS 1 7 (by decide) rfl
  simp only [putVals, List.foldl_cons, List.foldl_nil, List.drop_succ_cons, List.drop_zero, Act.put, List.setIfInBounds_toArray, List.set_cons_succ, List.set_cons_zero, e13, e7]
  clear hS hap hla e13 e7 
  have LL7 := hid hbb.len
  have R7 := Z7.room (l' := bb) hbb.len
  have hB7 := Z7.stored (l' := bb) hbb.len
  replace hT := hT.next (Below.setCells hw L7 0 (ints .i64 bb).toArray.toList)
  replace h3 := h3.next (Below.setCells hw L7 0 (ints .i64 bb).toArray.toList)
  replace h4 := h4.next (Below.setCells hw L7 0 (ints .i64 bb).toArray.toList)
  replace h5 := h5.next (Below.setCells hw L7 0 (ints .i64 bb).toArray.toList)
  replace hW := hW.trans (Below.mono (Below.setCells hw L7 0 (ints .i64 bb).toArray.toList) hW.size)
  with_reducible refine wpList_store_mid (op := ⟨none, .store 28 (.tmp 7) (.tmp 13), _, _, _, _⟩) rfl 28 (.tmp 7) (.tmp 13) rfl b7 0 (ints .i64 bb).toArray rfl rfl R7 (a28 LL7.out) (ints_all _ _) ?_
  generalize (w2.setCells b7 0 (ints .i64 bb).toArray.toList) = w3 at *
  clear hw R7 LL7 Z7 
  go_upto_region 4 with (fail)
  have lt7 := hB7.lt
  have lt3 := h3.lt
  have lt4 := h4.lt
  have lt5 := h5.lt
  have s3 := hW.size
  refine region_seq2 6 108 (fun i => i == 5) [Is (.agg (ints .u8 a).toArray), Is (.tuple #[(.agg (ints .i64 off).toArray), (.int .i64 0)]), Is (.tuple #[(.agg (ints .i64 off).toArray), (.int .i64 0)]), Is (.agg (ints .i64 off).toArray), Is (.int .i64 0), IsZ4 w3.heap.size] [15, 16, 14, 17, 18, 8] (by kernel_rfl) (by kernel_rfl) (Nat.le_of_eq rfl) (grows_cons (Is.grows _) (grows_cons (Is.grows _) (grows_cons (Is.grows _) (grows_cons (Is.grows _) (grows_cons (Is.grows _) (grows_cons (IsZ4.grows _) grows_nil))))))
    ⟨step_by rfl (.inl rfl) h3 3 rfl (by kernel_rfl) rfl rfl,
     step_toT rfl (.inl rfl) rfl cg7 hT kof rfl (one_arg (knows_in 0 15 (by decide) (by kernel_rfl) rfl rfl)),
     step_mv rfl (.inl rfl) rfl rfl (knows_in 1 16 (by decide) (by kernel_rfl) rfl rfl),
     step_fst rfl (.inl rfl) rfl rfl (knows_in 2 14 (by decide) (by kernel_rfl) rfl rfl),
     step_snd rfl (.inl rfl) rfl rfl (knows_in 2 14 (by decide) (by kernel_rfl) rfl rfl),
     step_alloc28 (.inl rfl) rfl rfl, trivial⟩ ?_
  intro val w4 hw hS hap hla
  have e15 : val 15 = (.agg (ints .u8 a).toArray) := hS 0 15 (by decide) rfl
  have e16 : val 16 = (.tuple #[(.agg (ints .i64 off).toArray), (.int .i64 0)]) := hS 1 16 (by decide) rfl
  have e14 : val 14 = (.tuple #[(.agg (ints .i64 off).toArray), (.int .i64 0)]) := hS 2 14 (by decide) rfl
  have e17 : val 17 = (.agg (ints .i64 off).toArray) := hS 3 17 (by decide) rfl
  have e18 : val 18 = (.int .i64 0) := hS 4 18 (by decide) rfl
  obtain ⟨b8, e8, L8, Z8⟩ := hS 5 8 (by decide) rfl
  simp only [putVals, List.foldl_cons, List.foldl_nil, List.drop_succ_cons, List.drop_zero, Act.put, List.setIfInBounds_toArray, List.set_cons_succ, List.set_cons_zero, e15, e16, e14, e17, e18, e8]
  clear hS hap hla e15 e16 e14 e17 e18 e8 
  have LL8 := hid hoff.len
  have R8 := Z8.room (l' := off) hoff.len
  have hB8 := Z8.stored (l' := off) hoff.len
  replace hT := hT.next (Below.setCells hw L8 0 (ints .i64 off).toArray.toList)
  replace h3 := h3.next (Below.setCells hw L8 0 (ints .i64 off).toArray.toList)
  replace h4 := h4.next (Below.setCells hw L8 0 (ints .i64 off).toArray.toList)
  replace h5 := h5.next (Below.setCells hw L8 0 (ints .i64 off).toArray.toList)
  replace hB7 := hB7.next (Below.setCells hw L8 0 (ints .i64 off).toArray.toList)
  replace hW := hW.trans (Below.mono (Below.setCells hw L8 0 (ints .i64 off).toArray.toList) hW.size)
  with_reducible refine wpList_store_mid (op := ⟨none, .store 28 (.tmp 8) (.tmp 17), _, _, _, _⟩) rfl 28 (.tmp 8) (.tmp 17) rfl b8 0 (ints .i64 off).toArray rfl rfl R8 (a28 LL8.out) (ints_all _ _) ?_
  generalize (w4.setCells b8 0 (ints .i64 off).toArray.toList) = w5 at *
  clear hw R8 LL8 Z8 
  go_upto_region 7 with (fail)
  have s5 := hW.size
  refine region_seq2 4 108 (fun i => i == 3) [Is (.agg (ints .i64 bb).toArray), Is (.agg (ints .u8 m).toArray), Is (.agg (ints .i64 qq).toArray), IsZ4 w5.heap.size] [24, 25, 26, 10] (by kernel_rfl) (by kernel_rfl) (Nat.le_of_eq rfl) (grows_cons (Is.grows _) (grows_cons (Is.grows _) (grows_cons (Is.grows _) (grows_cons (IsZ4.grows _) grows_nil))))
    ⟨step_pt rfl (.inl rfl) hB7 7 rfl (by kernel_rfl) rfl rfl,
     step_by rfl (.inl rfl) h4 4 rfl (by kernel_rfl) rfl rfl,
     step_toT rfl (.inl rfl) rfl cg12 hT kq rfl (two_args (knows_in 0 24 (by decide) (by kernel_rfl) rfl rfl) (knows_in 1 25 (by decide) (by kernel_rfl) rfl rfl)),
     step_alloc28 (.inl rfl) rfl rfl, trivial⟩ ?_
  intro val w6 hw hS hap hla
  have e24 : val 24 = (.agg (ints .i64 bb).toArray) := hS 0 24 (by decide) rfl
  have e25 : val 25 = (.agg (ints .u8 m).toArray) := hS 1 25 (by decide) rfl
  have e26 : val 26 = (.agg (ints .i64 qq).toArray) := hS 2 26 (by decide) rfl
  obtain ⟨b10, e10, L10, Z10⟩ := hS 3 10 (by decide) rfl
  simp only [putVals, List.foldl_cons, List.foldl_nil, List.drop_succ_cons, List.drop_zero, Act.put, List.setIfInBounds_toArray, List.set_cons_succ, List.set_cons_zero, e24, e25, e26, e10]
  clear hS hap hla e24 e25 e26 e10 
  have LL10 := hid hqq.len
  have R10 := Z10.room (l' := qq) hqq.len
  have hB10 := Z10.stored (l' := qq) hqq.len
  replace hT := hT.next (Below.setCells hw L10 0 (ints .i64 qq).toArray.toList)
  replace h3 := h3.next (Below.setCells hw L10 0 (ints .i64 qq).toArray.toList)
  replace h4 := h4.next (Below.setCells hw L10 0 (ints .i64 qq).toArray.toList)
  replace h5 := h5.next (Below.setCells hw L10 0 (ints .i64 qq).toArray.toList)
  replace hB7 := hB7.next (Below.setCells hw L10 0 (ints .i64 qq).toArray.toList)
  replace hB8 := hB8.next (Below.setCells hw L10 0 (ints .i64 qq).toArray.toList)
  replace hW := hW.trans (Below.mono (Below.setCells hw L10 0 (ints .i64 qq).toArray.toList) hW.size)
  with_reducible refine wpList_store_mid (op := ⟨none, .store 28 (.tmp 10) (.tmp 26), _, _, _, _⟩) rfl 28 (.tmp 10) (.tmp 26) rfl b10 0 (ints .i64 qq).toArray rfl rfl R10 (a28 LL10.out) (ints_all _ _) ?_
  generalize (w6.setCells b10 0 (ints .i64 qq).toArray.toList) = w7 at *
  clear hw R10 LL10 Z10 
  go_wp2_with (fail)
  have s7 := hW.size
  refine region_spec2 39 108 (fun _ => false) [Is (.agg (ints .i64 off).toArray), Is (.agg (ints .i64 qq).toArray), Is (.agg (ints .i64 u1).toArray), Is (.agg (ints .i64 qq).toArray), Is (.agg (ints .i64 off).toArray), Is (.agg (ints .i64 u2).toArray), Is (.bool true), Is (.bool false), Is (.bool false), Is (.agg (ints .i64 off).toArray), Is (.agg (ints .i64 off).toArray), Is (.agg (ints .i64 np).toArray), Is (.agg (ints .i64 u3).toArray), Is (.agg (ints .i64 nouL).toArray), Is (.bool true), Is (.bool false), Is (.bool false), Is (.bool false), Is (.agg (ints .i64 off).toArray), Is (.agg (ints .i64 nouL).toArray), Is (.agg (ints .i64 u4).toArray), Is (.agg (ints .i64 off).toArray), Is (.bool true), Is (.bool false), Is (.bool false), Is (.bool false), Is (.agg (ints .i64 off).toArray), Is (.agg (ints .i64 np).toArray), Is (.agg (ints .i64 nn).toArray), Is (.agg (ints .i64 off).toArray), Is (.bool true), Is (.bool false), Is (.bool false), Is (.bool false), Is (.agg (ints .i64 off).toArray), Is (.agg (ints .i64 qq).toArray), Is (.agg (ints .i64 u1).toArray), Is (.bool true), Is (.bool false)] [27, 28, 29, 30, 31, 32, 33, 34, 35, 36, 37, 38, 39, 40, 41, 42, 43, 44, 45, 46, 47, 48, 49, 50, 51, 52, 53, 54, 55, 56, 57, 58, 59, 60, 61, 62, 63, 64, 65] (by kernel_rfl) (by kernel_rfl) (by kernel_rfl) (Nat.le_of_eq rfl) (grows_cons (Is.grows _) (grows_cons (Is.grows _) (grows_cons (Is.grows _) (grows_cons (Is.grows _) (grows_cons (Is.grows _) (grows_cons (Is.grows _) (grows_cons (Is.grows _) (grows_cons (Is.grows _) (grows_cons (Is.grows _) (grows_cons (Is.grows _) (grows_cons (Is.grows _) (grows_cons (Is.grows _) (grows_cons (Is.grows _) (grows_cons (Is.grows _) (grows_cons (Is.grows _) (grows_cons (Is.grows _) (grows_cons (Is.grows _) (grows_cons (Is.grows _) (grows_cons (Is.grows _) (grows_cons (Is.grows _) (grows_cons (Is.grows _) (grows_cons (Is.grows _) (grows_cons (Is.grows _) (grows_cons (Is.grows _) (grows_cons (Is.grows _) (grows_cons (Is.grows _) (grows_cons (Is.grows _) (grows_cons (Is.grows _) (grows_cons (Is.grows _) (grows_cons (Is.grows _) (grows_cons (Is.grows _) (grows_cons (Is.grows _) (grows_cons (Is.grows _) (grows_cons (Is.grows _) (grows_cons (Is.grows _) (grows_cons (Is.grows _) (grows_cons (Is.grows _) (grows_cons (Is.grows _) (grows_cons (Is.grows _) grows_nil)))))))))))))))))))))))))))))))))))))))
    ⟨step_pt rfl (.inl rfl) hB8 8 rfl (by kernel_rfl) rfl rfl,
     step_pt rfl (.inl rfl) hB10 10 rfl (by kernel_rfl) rfl rfl,
     step_toT rfl (.inl rfl) rfl cg11 hT k1 rfl (two_args (knows_in 0 27 (by decide) (by kernel_rfl) rfl rfl) (knows_in 1 28 (by decide) (by kernel_rfl) rfl rfl)),
     step_pt rfl (.inl rfl) hB10 10 rfl (by kernel_rfl) rfl rfl,
     step_pt rfl (.inl rfl) hB8 8 rfl (by kernel_rfl) rfl rfl,
     step_toT rfl (.inl rfl) rfl cg11 hT k2 rfl (two_args (knows_in 3 30 (by decide) (by kernel_rfl) rfl rfl) (knows_in 4 31 (by decide) (by kernel_rfl) rfl rfl)),
     step_to rfl (.inl rfl) rfl cg24 e1 rfl (two_args (knows_in 2 29 (by decide) (by kernel_rfl) rfl rfl) (knows_in 5 32 (by decide) (by kernel_rfl) rfl rfl)),
     step_not rfl (.inl rfl) (b := true) rfl rfl (knows_in 6 33 (by decide) (by kernel_rfl) rfl rfl),
     step_mv rfl (.inl rfl) rfl rfl (knows_in 7 34 (by decide) (by kernel_rfl) rfl rfl),
     step_pt rfl (.inr ⟨8, false, 35, rfl, by decide, by kernel_rfl, rfl, fun _ _ h => h⟩) hB8 8 rfl (by kernel_rfl) rfl rfl,
     step_pt rfl (.inr ⟨8, false, 35, rfl, by decide, by kernel_rfl, rfl, fun _ _ h => h⟩) hB8 8 rfl (by kernel_rfl) rfl rfl,
     step_to rfl (.inr ⟨8, false, 35, rfl, by decide, by kernel_rfl, rfl, fun _ _ h => h⟩) rfl cg13 kn rfl (one_arg (knows_in 10 37 (by decide) (by kernel_rfl) rfl rfl)),
     step_toT rfl (.inr ⟨8, false, 35, rfl, by decide, by kernel_rfl, rfl, fun _ _ h => h⟩) rfl cg11 hT k3 rfl (two_args (knows_in 9 36 (by decide) (by kernel_rfl) rfl rfl) (knows_in 11 38 (by decide) (by kernel_rfl) rfl rfl)),
     step_to rfl (.inr ⟨8, false, 35, rfl, by decide, by kernel_rfl, rfl, fun _ _ h => h⟩) rfl cg29 nouL_spec.1 rfl (no_args),
     step_to rfl (.inr ⟨8, false, 35, rfl, by decide, by kernel_rfl, rfl, fun _ _ h => h⟩) rfl cg24 e2 rfl (two_args (knows_in 12 39 (by decide) (by kernel_rfl) rfl rfl) (knows_in 13 40 (by decide) (by kernel_rfl) rfl rfl)),
     step_not rfl (.inr ⟨8, false, 35, rfl, by decide, by kernel_rfl, rfl, fun _ _ h => h⟩) (b := true) rfl rfl (knows_in 14 41 (by decide) (by kernel_rfl) rfl rfl),
     step_pick rfl (.inl rfl) (b := false) rfl rfl (knows_in 8 35 (by decide) (by kernel_rfl) rfl rfl) (knows_in 15 42 (by decide) (by kernel_rfl) rfl rfl),
     step_mv rfl (.inl rfl) rfl rfl (knows_in 16 43 (by decide) (by kernel_rfl) rfl rfl),
     step_pt rfl (.inr ⟨17, false, 44, rfl, by decide, by kernel_rfl, rfl, fun _ _ h => h⟩) hB8 8 rfl (by kernel_rfl) rfl rfl,
     step_to rfl (.inr ⟨17, false, 44, rfl, by decide, by kernel_rfl, rfl, fun _ _ h => h⟩) rfl cg29 nouL_spec.1 rfl (no_args),
     step_toT rfl (.inr ⟨17, false, 44, rfl, by decide, by kernel_rfl, rfl, fun _ _ h => h⟩) rfl cg11 hT k4 rfl (two_args (knows_in 18 45 (by decide) (by kernel_rfl) rfl rfl) (knows_in 19 46 (by decide) (by kernel_rfl) rfl rfl)),
     step_pt rfl (.inr ⟨17, false, 44, rfl, by decide, by kernel_rfl, rfl, fun _ _ h => h⟩) hB8 8 rfl (by kernel_rfl) rfl rfl,
     step_to rfl (.inr ⟨17, false, 44, rfl, by decide, by kernel_rfl, rfl, fun _ _ h => h⟩) rfl cg24 e3 rfl (two_args (knows_in 20 47 (by decide) (by kernel_rfl) rfl rfl) (knows_in 21 48 (by decide) (by kernel_rfl) rfl rfl)),
     step_not rfl (.inr ⟨17, false, 44, rfl, by decide, by kernel_rfl, rfl, fun _ _ h => h⟩) (b := true) rfl rfl (knows_in 22 49 (by decide) (by kernel_rfl) rfl rfl),
     step_pick rfl (.inl rfl) (b := false) rfl rfl (knows_in 17 44 (by decide) (by kernel_rfl) rfl rfl) (knows_in 23 50 (by decide) (by kernel_rfl) rfl rfl),
     step_mv rfl (.inl rfl) rfl rfl (knows_in 24 51 (by decide) (by kernel_rfl) rfl rfl),
     step_pt rfl (.inr ⟨25, false, 52, rfl, by decide, by kernel_rfl, rfl, fun _ _ h => h⟩) hB8 8 rfl (by kernel_rfl) rfl rfl,
     step_to rfl (.inr ⟨25, false, 52, rfl, by decide, by kernel_rfl, rfl, fun _ _ h => h⟩) rfl cg13 kn rfl (one_arg (knows_in 26 53 (by decide) (by kernel_rfl) rfl rfl)),
     step_to rfl (.inr ⟨25, false, 52, rfl, by decide, by kernel_rfl, rfl, fun _ _ h => h⟩) rfl cg13 knn rfl (one_arg (knows_in 27 54 (by decide) (by kernel_rfl) rfl rfl)),
     step_pt rfl (.inr ⟨25, false, 52, rfl, by decide, by kernel_rfl, rfl, fun _ _ h => h⟩) hB8 8 rfl (by kernel_rfl) rfl rfl,
     step_to rfl (.inr ⟨25, false, 52, rfl, by decide, by kernel_rfl, rfl, fun _ _ h => h⟩) rfl cg24 e4 rfl (two_args (knows_in 28 55 (by decide) (by kernel_rfl) rfl rfl) (knows_in 29 56 (by decide) (by kernel_rfl) rfl rfl)),
     step_not rfl (.inr ⟨25, false, 52, rfl, by decide, by kernel_rfl, rfl, fun _ _ h => h⟩) (b := true) rfl rfl (knows_in 30 57 (by decide) (by kernel_rfl) rfl rfl),
     step_pick rfl (.inl rfl) (b := false) rfl rfl (knows_in 25 52 (by decide) (by kernel_rfl) rfl rfl) (knows_in 31 58 (by decide) (by kernel_rfl) rfl rfl),
     step_mv rfl (.inl rfl) rfl rfl (knows_in 32 59 (by decide) (by kernel_rfl) rfl rfl),
     step_pt rfl (.inr ⟨33, false, 60, rfl, by decide, by kernel_rfl, rfl, fun _ _ h => h⟩) hB8 8 rfl (by kernel_rfl) rfl rfl,
     step_pt rfl (.inr ⟨33, false, 60, rfl, by decide, by kernel_rfl, rfl, fun _ _ h => h⟩) hB10 10 rfl (by kernel_rfl) rfl rfl,
     step_toT rfl (.inr ⟨33, false, 60, rfl, by decide, by kernel_rfl, rfl, fun _ _ h => h⟩) rfl cg11 hT k1 rfl (two_args (knows_in 34 61 (by decide) (by kernel_rfl) rfl rfl) (knows_in 35 62 (by decide) (by kernel_rfl) rfl rfl)),
     step_toT rfl (.inr ⟨33, false, 60, rfl, by decide, by kernel_rfl, rfl, fun _ _ h => h⟩) rfl cg9 hT o1 rfl (one_arg (knows_in 36 63 (by decide) (by kernel_rfl) rfl rfl)),
     step_not rfl (.inr ⟨33, false, 60, rfl, by decide, by kernel_rfl, rfl, fun _ _ h => h⟩) (b := true) rfl rfl (knows_in 37 64 (by decide) (by kernel_rfl) rfl rfl), trivial⟩ ?_
  intro val w8 hw hS hap hla
  have e27 : val 27 = (.agg (ints .i64 off).toArray) := hS 0 27 (by decide) rfl
  have e28 : val 28 = (.agg (ints .i64 qq).toArray) := hS 1 28 (by decide) rfl
  have e29 : val 29 = (.agg (ints .i64 u1).toArray) := hS 2 29 (by decide) rfl
  have e30 : val 30 = (.agg (ints .i64 qq).toArray) := hS 3 30 (by decide) rfl
  have e31 : val 31 = (.agg (ints .i64 off).toArray) := hS 4 31 (by decide) rfl
  have e32 : val 32 = (.agg (ints .i64 u2).toArray) := hS 5 32 (by decide) rfl
  have e33 : val 33 = (.bool true) := hS 6 33 (by decide) rfl
  have e34 : val 34 = (.bool false) := hS 7 34 (by decide) rfl
  have e35 : val 35 = (.bool false) := hS 8 35 (by decide) rfl
  have e36 : val 36 = (.agg (ints .i64 off).toArray) := hS 9 36 (by decide) rfl
  have e37 : val 37 = (.agg (ints .i64 off).toArray) := hS 10 37 (by decide) rfl
  have e38 : val 38 = (.agg (ints .i64 np).toArray) := hS 11 38 (by decide) rfl
  have e39 : val 39 = (.agg (ints .i64 u3).toArray) := hS 12 39 (by decide) rfl
  have e40 : val 40 = (.agg (ints .i64 nouL).toArray) := hS 13 40 (by decide) rfl
  have e41 : val 41 = (.bool true) := hS 14 41 (by decide) rfl
  have e42 : val 42 = (.bool false) := hS 15 42 (by decide) rfl
  have e43 : val 43 = (.bool false) := hS 16 43 (by decide) rfl
  have e44 : val 44 = (.bool false) := hS 17 44 (by decide) rfl
  have e45 : val 45 = (.agg (ints .i64 off).toArray) := hS 18 45 (by decide) rfl
  have e46 : val 46 = (.agg (ints .i64 nouL).toArray) := hS 19 46 (by decide) rfl
  have e47 : val 47 = (.agg (ints .i64 u4).toArray) := hS 20 47 (by decide) rfl
  have e48 : val 48 = (.agg (ints .i64 off).toArray) := hS 21 48 (by decide) rfl
  have e49 : val 49 = (.bool true) := hS 22 49 (by decide) rfl
  have e50 : val 50 = (.bool false) := hS 23 50 (by decide) rfl
  have e51 : val 51 = (.bool false) := hS 24 51 (by decide) rfl
  have e52 : val 52 = (.bool false) := hS 25 52 (by decide) rfl
  have e53 : val 53 = (.agg (ints .i64 off).toArray) := hS 26 53 (by decide) rfl
  have e54 : val 54 = (.agg (ints .i64 np).toArray) := hS 27 54 (by decide) rfl
  have e55 : val 55 = (.agg (ints .i64 nn).toArray) := hS 28 55 (by decide) rfl
  have e56 : val 56 = (.agg (ints .i64 off).toArray) := hS 29 56 (by decide) rfl
  have e57 : val 57 = (.bool true) := hS 30 57 (by decide) rfl
  have e58 : val 58 = (.bool false) := hS 31 58 (by decide) rfl
  have e59 : val 59 = (.bool false) := hS 32 59 (by decide) rfl
  have e60 : val 60 = (.bool false) := hS 33 60 (by decide) rfl
  have e61 : val 61 = (.agg (ints .i64 off).toArray) := hS 34 61 (by decide) rfl
  have e62 : val 62 = (.agg (ints .i64 qq).toArray) := hS 35 62 (by decide) rfl
  have e63 : val 63 = (.agg (ints .i64 u1).toArray) := hS 36 63 (by decide) rfl
  have e64 : val 64 = (.bool true) := hS 37 64 (by decide) rfl
  have e65 : val 65 = (.bool false) := hS 38 65 (by decide) rfl
  simp only [putVals, List.foldl_cons, List.foldl_nil, List.drop_succ_cons, List.drop_zero, Act.put, List.setIfInBounds_toArray, List.set_cons_succ, List.set_cons_zero, e27, e28, e29, e30, e31, e32, e33, e34, e35, e36, e37, e38, e39, e40, e41, e42, e43, e44, e45, e46, e47, e48, e49, e50, e51, e52, e53, e54, e55, e56, e57, e58, e59, e60, e61, e62, e63, e64, e65]
  clear hS hap hla e27 e28 e29 e30 e31 e32 e33 e34 e35 e36 e37 e38 e39 e40 e41 e42 e43 e44 e45 e46 e47 e48 e49 e50 e51 e52 e53 e54 e55 e56 e57 e58 e59 e60 e61 e62 e63 e64 e65 
  replace hT := hT.next hw
  replace h3 := h3.next hw
  replace h4 := h4.next hw
  replace h5 := h5.next hw
  replace hB7 := hB7.next hw
  replace hB8 := hB8.next hw
  replace hB10 := hB10.next hw
  replace hW := hW.trans (Below.mono hw hW.size)
  clear hw
  go_wp2_with (fail)
  have s8 := hW.size
  refine region_spec2 23 108 (fun _ => false) [Is (.agg (ints .i64 bb).toArray), Is (.agg (ints .u8 m).toArray), Is (.agg (ints .u8 n).toArray), Is (.agg (ints .u8 mn).toArray), Is (.agg (ints .i64 t1).toArray), Is (.agg (ints .i64 qq).toArray), Is (.agg (ints .i64 bb).toArray), Is (.agg (ints .u8 n).toArray), Is (.agg (ints .i64 t2).toArray), Is (.agg (ints .i64 t3).toArray), Is (.bool true), Is (.bool false), Is (.bool false), Is (.agg (ints .i64 qq).toArray), Is (.agg (ints .u8 n).toArray), Is (.agg (ints .i64 t4).toArray), Is (.agg (ints .i64 bb).toArray), Is (.agg (ints .u8 m).toArray), Is (.agg (ints .u8 n).toArray), Is (.agg (ints .u8 mx).toArray), Is (.agg (ints .i64 t5).toArray), Is (.bool true), Is (.bool false)] [67, 68, 69, 70, 71, 72, 73, 74, 75, 76, 77, 78, 79, 80, 81, 82, 83, 84, 85, 86, 87, 88, 89] (by kernel_rfl) (by kernel_rfl) (by kernel_rfl) (Nat.le_of_eq rfl) (grows_cons (Is.grows _) (grows_cons (Is.grows _) (grows_cons (Is.grows _) (grows_cons (Is.grows _) (grows_cons (Is.grows _) (grows_cons (Is.grows _) (grows_cons (Is.grows _) (grows_cons (Is.grows _) (grows_cons (Is.grows _) (grows_cons (Is.grows _) (grows_cons (Is.grows _) (grows_cons (Is.grows _) (grows_cons (Is.grows _) (grows_cons (Is.grows _) (grows_cons (Is.grows _) (grows_cons (Is.grows _) (grows_cons (Is.grows _) (grows_cons (Is.grows _) (grows_cons (Is.grows _) (grows_cons (Is.grows _) (grows_cons (Is.grows _) (grows_cons (Is.grows _) (grows_cons (Is.grows _) grows_nil)))))))))))))))))))))))
    ⟨step_pt rfl (.inl rfl) hB7 7 rfl (by kernel_rfl) rfl rfl,
     step_by rfl (.inl rfl) h4 4 rfl (by kernel_rfl) rfl rfl,
     step_by rfl (.inl rfl) h5 5 rfl (by kernel_rfl) rfl rfl,
     step_to rfl (.inl rfl) rfl cg32 kmn rfl (two_args (knows_in 1 68 (by decide) (by kernel_rfl) rfl rfl) (knows_in 2 69 (by decide) (by kernel_rfl) rfl rfl)),
     step_toT rfl (.inl rfl) rfl cg12 hT j1 rfl (two_args (knows_in 0 67 (by decide) (by kernel_rfl) rfl rfl) (knows_in 3 70 (by decide) (by kernel_rfl) rfl rfl)),
     step_pt rfl (.inl rfl) hB10 10 rfl (by kernel_rfl) rfl rfl,
     step_pt rfl (.inl rfl) hB7 7 rfl (by kernel_rfl) rfl rfl,
     step_by rfl (.inl rfl) h5 5 rfl (by kernel_rfl) rfl rfl,
     step_toT rfl (.inl rfl) rfl cg12 hT j2 rfl (two_args (knows_in 6 73 (by decide) (by kernel_rfl) rfl rfl) (knows_in 7 74 (by decide) (by kernel_rfl) rfl rfl)),
     step_toT rfl (.inl rfl) rfl cg11 hT j3 rfl (two_args (knows_in 5 72 (by decide) (by kernel_rfl) rfl rfl) (knows_in 8 75 (by decide) (by kernel_rfl) rfl rfl)),
     step_to rfl (.inl rfl) rfl cg24 e5 rfl (two_args (knows_in 4 71 (by decide) (by kernel_rfl) rfl rfl) (knows_in 9 76 (by decide) (by kernel_rfl) rfl rfl)),
     step_not rfl (.inl rfl) (b := true) rfl rfl (knows_in 10 77 (by decide) (by kernel_rfl) rfl rfl),
     step_mv rfl (.inl rfl) rfl rfl (knows_in 11 78 (by decide) (by kernel_rfl) rfl rfl),
     step_pt rfl (.inr ⟨12, false, 79, rfl, by decide, by kernel_rfl, rfl, fun _ _ h => h⟩) hB10 10 rfl (by kernel_rfl) rfl rfl,
     step_by rfl (.inr ⟨12, false, 79, rfl, by decide, by kernel_rfl, rfl, fun _ _ h => h⟩) h5 5 rfl (by kernel_rfl) rfl rfl,
     step_toT rfl (.inr ⟨12, false, 79, rfl, by decide, by kernel_rfl, rfl, fun _ _ h => h⟩) rfl cg12 hT j4 rfl (two_args (knows_in 13 80 (by decide) (by kernel_rfl) rfl rfl) (knows_in 14 81 (by decide) (by kernel_rfl) rfl rfl)),
     step_pt rfl (.inr ⟨12, false, 79, rfl, by decide, by kernel_rfl, rfl, fun _ _ h => h⟩) hB7 7 rfl (by kernel_rfl) rfl rfl,
     step_by rfl (.inr ⟨12, false, 79, rfl, by decide, by kernel_rfl, rfl, fun _ _ h => h⟩) h4 4 rfl (by kernel_rfl) rfl rfl,
     step_by rfl (.inr ⟨12, false, 79, rfl, by decide, by kernel_rfl, rfl, fun _ _ h => h⟩) h5 5 rfl (by kernel_rfl) rfl rfl,
     step_to rfl (.inr ⟨12, false, 79, rfl, by decide, by kernel_rfl, rfl, fun _ _ h => h⟩) rfl cg33 kmx rfl (two_args (knows_in 17 84 (by decide) (by kernel_rfl) rfl rfl) (knows_in 18 85 (by decide) (by kernel_rfl) rfl rfl)),
     step_toT rfl (.inr ⟨12, false, 79, rfl, by decide, by kernel_rfl, rfl, fun _ _ h => h⟩) rfl cg12 hT j5 rfl (two_args (knows_in 16 83 (by decide) (by kernel_rfl) rfl rfl) (knows_in 19 86 (by decide) (by kernel_rfl) rfl rfl)),
     step_to rfl (.inr ⟨12, false, 79, rfl, by decide, by kernel_rfl, rfl, fun _ _ h => h⟩) rfl cg24 e6 rfl (two_args (knows_in 15 82 (by decide) (by kernel_rfl) rfl rfl) (knows_in 20 87 (by decide) (by kernel_rfl) rfl rfl)),
     step_not rfl (.inr ⟨12, false, 79, rfl, by decide, by kernel_rfl, rfl, fun _ _ h => h⟩) (b := true) rfl rfl (knows_in 21 88 (by decide) (by kernel_rfl) rfl rfl), trivial⟩ ?_
  intro val w9 hw hS hap hla
  have e67 : val 67 = (.agg (ints .i64 bb).toArray) := hS 0 67 (by decide) rfl
  have e68 : val 68 = (.agg (ints .u8 m).toArray) := hS 1 68 (by decide) rfl
  have e69 : val 69 = (.agg (ints .u8 n).toArray) := hS 2 69 (by decide) rfl
  have e70 : val 70 = (.agg (ints .u8 mn).toArray) := hS 3 70 (by decide) rfl
  have e71 : val 71 = (.agg (ints .i64 t1).toArray) := hS 4 71 (by decide) rfl
  have e72 : val 72 = (.agg (ints .i64 qq).toArray) := hS 5 72 (by decide) rfl
  have e73 : val 73 = (.agg (ints .i64 bb).toArray) := hS 6 73 (by decide) rfl
  have e74 : val 74 = (.agg (ints .u8 n).toArray) := hS 7 74 (by decide) rfl
  have e75 : val 75 = (.agg (ints .i64 t2).toArray) := hS 8 75 (by decide) rfl
  have e76 : val 76 = (.agg (ints .i64 t3).toArray) := hS 9 76 (by decide) rfl
  have e77 : val 77 = (.bool true) := hS 10 77 (by decide) rfl
  have e78 : val 78 = (.bool false) := hS 11 78 (by decide) rfl
  have e79 : val 79 = (.bool false) := hS 12 79 (by decide) rfl
  have e80 : val 80 = (.agg (ints .i64 qq).toArray) := hS 13 80 (by decide) rfl
  have e81 : val 81 = (.agg (ints .u8 n).toArray) := hS 14 81 (by decide) rfl
  have e82 : val 82 = (.agg (ints .i64 t4).toArray) := hS 15 82 (by decide) rfl
  have e83 : val 83 = (.agg (ints .i64 bb).toArray) := hS 16 83 (by decide) rfl
  have e84 : val 84 = (.agg (ints .u8 m).toArray) := hS 17 84 (by decide) rfl
  have e85 : val 85 = (.agg (ints .u8 n).toArray) := hS 18 85 (by decide) rfl
  have e86 : val 86 = (.agg (ints .u8 mx).toArray) := hS 19 86 (by decide) rfl
  have e87 : val 87 = (.agg (ints .i64 t5).toArray) := hS 20 87 (by decide) rfl
  have e88 : val 88 = (.bool true) := hS 21 88 (by decide) rfl
  have e89 : val 89 = (.bool false) := hS 22 89 (by decide) rfl
  simp only [putVals, List.foldl_cons, List.foldl_nil, List.drop_succ_cons, List.drop_zero, Act.put, List.setIfInBounds_toArray, List.set_cons_succ, List.set_cons_zero, e67, e68, e69, e70, e71, e72, e73, e74, e75, e76, e77, e78, e79, e80, e81, e82, e83, e84, e85, e86, e87, e88, e89]
  clear hS hap hla e67 e68 e69 e70 e71 e72 e73 e74 e75 e76 e77 e78 e79 e80 e81 e82 e83 e84 e85 e86 e87 e88 e89 
  replace hT := hT.next hw
  replace h3 := h3.next hw
  replace h4 := h4.next hw
  replace h5 := h5.next hw
  replace hB7 := hB7.next hw
  replace hB8 := hB8.next hw
  replace hB10 := hB10.next hw
  replace hW := hW.trans (Below.mono hw hW.size)
  clear hw
  go_wp2_with (fail)
  have s9 := hW.size
  refine region_spec2 17 108 (fun i => i == 1) [Is (.agg (ints .i64 bb).toArray), IsR w9.heap.size QN, Is (.agg (ints .u8 qb).toArray), Is (.agg (ints .i64 t6).toArray), Is (.agg (ints .i64 nouL).toArray), Is (.bool true), Is (.bool true), Is (.agg (ints .i64 off).toArray), Is (.agg (ints .u8 threeL).toArray), Is (.agg (ints .i64 t7).toArray), Is (.agg (ints .i64 off).toArray), Is (.agg (ints .i64 off).toArray), Is (.agg (ints .i64 t8).toArray), Is (.agg (ints .i64 off).toArray), Is (.agg (ints .i64 t9).toArray), Is (.bool true), Is (.bool true)] [91, 92, 93, 94, 95, 96, 97, 98, 99, 100, 101, 102, 103, 104, 105, 106, 107] (by kernel_rfl) (by kernel_rfl) (by kernel_rfl) (Nat.le_of_eq rfl) (grows_cons (Is.grows _) (grows_cons (IsR.grows _ _) (grows_cons (Is.grows _) (grows_cons (Is.grows _) (grows_cons (Is.grows _) (grows_cons (Is.grows _) (grows_cons (Is.grows _) (grows_cons (Is.grows _) (grows_cons (Is.grows _) (grows_cons (Is.grows _) (grows_cons (Is.grows _) (grows_cons (Is.grows _) (grows_cons (Is.grows _) (grows_cons (Is.grows _) (grows_cons (Is.grows _) (grows_cons (Is.grows _) (grows_cons (Is.grows _) grows_nil)))))))))))))))))
    ⟨step_pt rfl (.inl rfl) hB7 7 rfl (by kernel_rfl) rfl rfl,
     step_rout (.inl rfl) rfl cg35 rfl (fun a w hw hf hd => ⟨#[], by simp, q_out w⟩),
     step_rbytesQ rfl (.inl rfl) rfl cf12 HQB.out rfl (knowsR_in 1 92 (by decide) (by kernel_rfl) rfl rfl),
     step_toT rfl (.inl rfl) rfl cg12 hT j6 rfl (two_args (knows_in 0 91 (by decide) (by kernel_rfl) rfl rfl) (knows_in 2 93 (by decide) (by kernel_rfl) rfl rfl)),
     step_to rfl (.inl rfl) rfl cg29 nouL_spec.1 rfl (no_args),
     step_to rfl (.inl rfl) rfl cg24 e7 rfl (two_args (knows_in 3 94 (by decide) (by kernel_rfl) rfl rfl) (knows_in 4 95 (by decide) (by kernel_rfl) rfl rfl)),
     step_mv rfl (.inl rfl) rfl rfl (knows_in 5 96 (by decide) (by kernel_rfl) rfl rfl),
     step_pt rfl (.inr ⟨6, true, 97, rfl, by decide, by kernel_rfl, rfl, fun _ _ h => h⟩) hB8 8 rfl (by kernel_rfl) rfl rfl,
     step_oneB rfl (.inr ⟨6, true, 97, rfl, by decide, by kernel_rfl, rfl, fun _ _ h => h⟩) rfl built_three rfl,
     step_toT rfl (.inr ⟨6, true, 97, rfl, by decide, by kernel_rfl, rfl, fun _ _ h => h⟩) rfl cg12 hT j7 rfl (two_args (knows_in 7 98 (by decide) (by kernel_rfl) rfl rfl) (knows_in 8 99 (by decide) (by kernel_rfl) rfl rfl)),
     step_pt rfl (.inr ⟨6, true, 97, rfl, by decide, by kernel_rfl, rfl, fun _ _ h => h⟩) hB8 8 rfl (by kernel_rfl) rfl rfl,
     step_pt rfl (.inr ⟨6, true, 97, rfl, by decide, by kernel_rfl, rfl, fun _ _ h => h⟩) hB8 8 rfl (by kernel_rfl) rfl rfl,
     step_toT rfl (.inr ⟨6, true, 97, rfl, by decide, by kernel_rfl, rfl, fun _ _ h => h⟩) rfl cg11 hT j8 rfl (two_args (knows_in 10 101 (by decide) (by kernel_rfl) rfl rfl) (knows_in 11 102 (by decide) (by kernel_rfl) rfl rfl)),
     step_pt rfl (.inr ⟨6, true, 97, rfl, by decide, by kernel_rfl, rfl, fun _ _ h => h⟩) hB8 8 rfl (by kernel_rfl) rfl rfl,
     step_toT rfl (.inr ⟨6, true, 97, rfl, by decide, by kernel_rfl, rfl, fun _ _ h => h⟩) rfl cg11 hT j9 rfl (two_args (knows_in 12 103 (by decide) (by kernel_rfl) rfl rfl) (knows_in 13 104 (by decide) (by kernel_rfl) rfl rfl)),
     step_to rfl (.inr ⟨6, true, 97, rfl, by decide, by kernel_rfl, rfl, fun _ _ h => h⟩) rfl cg24 e8 rfl (two_args (knows_in 9 100 (by decide) (by kernel_rfl) rfl rfl) (knows_in 14 105 (by decide) (by kernel_rfl) rfl rfl)),
     step_pick rfl (.inl rfl) (b := true) rfl rfl (knows_in 6 97 (by decide) (by kernel_rfl) rfl rfl) (knows_in 15 106 (by decide) (by kernel_rfl) rfl rfl), trivial⟩ ?_
  intro val w10 hw hS hap hla
  have e91 : val 91 = (.agg (ints .i64 bb).toArray) := hS 0 91 (by decide) rfl
  obtain ⟨A92, c92, y92, e92, H92, N92⟩ := hS 1 92 (by decide) rfl
  have e93 : val 93 = (.agg (ints .u8 qb).toArray) := hS 2 93 (by decide) rfl
  have e94 : val 94 = (.agg (ints .i64 t6).toArray) := hS 3 94 (by decide) rfl
  have e95 : val 95 = (.agg (ints .i64 nouL).toArray) := hS 4 95 (by decide) rfl
  have e96 : val 96 = (.bool true) := hS 5 96 (by decide) rfl
  have e97 : val 97 = (.bool true) := hS 6 97 (by decide) rfl
  have e98 : val 98 = (.agg (ints .i64 off).toArray) := hS 7 98 (by decide) rfl
  have e99 : val 99 = (.agg (ints .u8 threeL).toArray) := hS 8 99 (by decide) rfl
  have e100 : val 100 = (.agg (ints .i64 t7).toArray) := hS 9 100 (by decide) rfl
  have e101 : val 101 = (.agg (ints .i64 off).toArray) := hS 10 101 (by decide) rfl
  have e102 : val 102 = (.agg (ints .i64 off).toArray) := hS 11 102 (by decide) rfl
  have e103 : val 103 = (.agg (ints .i64 t8).toArray) := hS 12 103 (by decide) rfl
  have e104 : val 104 = (.agg (ints .i64 off).toArray) := hS 13 104 (by decide) rfl
  have e105 : val 105 = (.agg (ints .i64 t9).toArray) := hS 14 105 (by decide) rfl
  have e106 : val 106 = (.bool true) := hS 15 106 (by decide) rfl
  have e107 : val 107 = (.bool true) := hS 16 107 (by decide) rfl
  simp only [putVals, List.foldl_cons, List.foldl_nil, List.drop_succ_cons, List.drop_zero, Act.put, List.setIfInBounds_toArray, List.set_cons_succ, List.set_cons_zero, e91, e92, e93, e94, e95, e96, e97, e98, e99, e100, e101, e102, e103, e104, e105, e106, e107]
  clear hS hap hla e91 e92 e93 e94 e95 e96 e97 e98 e99 e100 e101 e102 e103 e104 e105 e106 e107 N92 H92
  replace hT := hT.next hw
  replace h3 := h3.next hw
  replace h4 := h4.next hw
  replace h5 := h5.next hw
  replace hB7 := hB7.next hw
  replace hB8 := hB8.next hw
  replace hB10 := hB10.next hw
  replace hW := hW.trans (Below.mono hw hW.size)
  clear hw
  go_wp2_with (fail)
  go_ret
  exact ⟨rfl, hW⟩
set_option maxRecDepth 4000 in
set_option maxHeartbeats 16000000 in
theorem laws_err {a m n : List Int} (bm : Byt m) (bn' : Byt n) (la : a.length = 32) (lm : m.length = 32) (ln : n.length = 32) {P : Edw.Pt NT.PN} {off pp : List Int} (loff : off.length = 64) (kof : CallsT 7 #[.agg (ints .u8 a).toArray] (.tuple #[.agg (ints .i64 off).toArray, .int .i64 21])) {bb : List Int} (kb : CallsT 25 #[] (.agg (ints .i64 bb).toArray)) (kp : CallsT 12 #[.agg (ints .i64 bb).toArray, .agg (ints .u8 a).toArray] (.agg (ints .i64 pp).toArray)) (hbb : PR bb baseP) (hpp : PR pp P) : CallsT 5 #[.agg (ints .u8 a).toArray, .agg (ints .u8 m).toArray, .agg (ints .u8 n).toArray] (.bool true) := by
  have hnou := nouL_spec.2
  obtain ⟨qq, kq, hqq⟩ := hbb.mul lm bm
  obtain ⟨k1, hu1⟩ := hpp.add hqq
  obtain ⟨k2, hu2⟩ := hqq.add hpp
  rw [Edw.comm] at hu2
  have e1 := hu1.same hu2
  have o1 := hu1.on
  obtain ⟨np, kn, hnp⟩ := hpp.neg
  obtain ⟨k3, hu3⟩ := hpp.add hnp
  have onP : Edw.On eF P := by obtain ⟨_, _, _, h⟩ := hpp; exact h
  have onB := base_on
  rw [Edw.comm, Edw.neg_add pn_fld ns_e onP] at hu3
  have e2 := hu3.same hnou
  obtain ⟨k4, hu4⟩ := hpp.add hnou
  rw [Edw.comm, Edw.O_add pn_fld ns_e onP] at hu4
  have e3 := hu4.same hpp
  obtain ⟨nn, knn, hnn⟩ := hnp.neg
  rw [neg_neg_pt] at hnn
  have e4 := hnn.same hpp
  have lmn : (rbytes ((bn m + bn n) % QN)).length = 32 := rbytes_length _
  have kmn : CallsTo 32 #[.agg (ints .u8 m).toArray, .agg (ints .u8 n).toArray] (.agg (ints .u8 (rbytes ((bn m + bn n) % QN))).toArray) := fun w => raddq_walk lm ln bm bn'
  obtain ⟨t1, j1, ht1⟩ := hbb.mul lmn (rbytes_byt _)
  rw [bn_rbytes (modq_lt _), mul_mod] at ht1
  obtain ⟨t2, j2, ht2⟩ := hbb.mul ln bn'
  obtain ⟨j3, ht3⟩ := hqq.add ht2
  rw [← Edw.mul_add pn_fld ns_e onB] at ht3
  have e5 := ht1.same ht3
  obtain ⟨t4, j4, ht4⟩ := hqq.mul ln bn'
  rw [Edw.mul_mul pn_fld ns_e onB] at ht4
  have lmx : (rbytes (bn m * bn n % QN)).length = 32 := rbytes_length _
  have kmx : CallsTo 33 #[.agg (ints .u8 m).toArray, .agg (ints .u8 n).toArray] (.agg (ints .u8 (rbytes (bn m * bn n % QN))).toArray) := fun w => rmulq_walk lm ln bm bn'
  obtain ⟨t5, j5, ht5⟩ := hbb.mul lmx (rbytes_byt _)
  rw [bn_rbytes (modq_lt _), mul_mod, Nat.mul_comm] at ht5
  have e6 := ht4.same ht5
  have lqb : (rbytes QN).length = 32 := rbytes_length _
  obtain ⟨t6, j6, ht6⟩ := hbb.mul lqb (rbytes_byt _)
  rw [bn_rbytes qn_lt, order_base] at ht6
  have e7 := ht6.same hnou
  obtain ⟨t7, j7, ht7⟩ := hpp.mul three_len three_byt
  rw [three_bn] at ht7
  obtain ⟨j8, ht8⟩ := hpp.add hpp
  obtain ⟨j9, ht9⟩ := ht8.add hpp
  have e3P : Edw.add eF (Edw.add eF P P) P = Edw.mul eF 3 P := by
    show _ = Edw.add eF (Edw.add eF (Edw.add eF Edw.O P) P) P
    rw [Edw.O_add pn_fld ns_e onP]
  rw [e3P] at ht9
  have e8 := ht7.same ht9
  generalize rbytes ((bn m + bn n) % QN) = mn at kmn lmn j1
  generalize rbytes (bn m * bn n % QN) = mx at kmx lmx j5
  obtain ⟨qb, hqb⟩ : ∃ l, rbytes QN = l := ⟨_, rfl⟩
  rw [hqb] at lqb j6
  have HQB := hid hqb
  clear hqb
  generalize sumL pp qq = u1 at k1 hu1 e1 o1
  generalize sumL qq pp = u2 at k2 hu2 e1
  generalize sumL pp np = u3 at k3 hu3 e2
  generalize sumL pp nouL = u4 at k4 hu4 e3
  generalize sumL qq t2 = t3 at j3 ht3 e5
  generalize sumL pp pp = t8 at j8 ht8 j9 ht9 e8
  generalize sumL t8 pp = t9 at j9 ht9 e8

  intro W hT
  have h3 := ((By.new W a la).next (below_new _ (.cells (ints .u8 m).toArray 22))).next (below_new _ (.cells (ints .u8 n).toArray 22))
  have h4 := (By.new (W.alloc (.cells (ints .u8 a).toArray 22)) m lm).next (below_new _ (.cells (ints .u8 n).toArray 22))
  have h5 := By.new ((W.alloc (.cells (ints .u8 a).toArray 22)).alloc (.cells (ints .u8 m).toArray 22)) n ln
  have hW := ((below_new W (.cells (ints .u8 a).toArray 22)).alloc (by simp) (.cells (ints .u8 m).toArray 22)).alloc (by simp; omega) (.cells (ints .u8 n).toArray 22)
  have hT0 := hT
  replace hT := (((hT.alloc (.cells (ints .u8 a).toArray 22)).alloc (.cells (ints .u8 m).toArray 22)).alloc (.cells (ints .u8 n).toArray 22))
  simp only [World.size_alloc] at h4 h5
  go_enter Tryd.func5, Tryd.ntmps5
  go_upto_region 1 with (fail)
  generalize ((W.alloc (.cells (ints .u8 a).toArray 22)).alloc (.cells (ints .u8 m).toArray 22)).alloc (.cells (ints .u8 n).toArray 22) = w0 at *
  have s0 := hW.size
  refine region_seq2 2 108 (fun _ => false) [Is (.bool true), Is (.bool false)] [11, 12] (by kernel_rfl) (by kernel_rfl) (Nat.le_of_eq rfl) (grows_cons (Is.grows _) (grows_cons (Is.grows _) grows_nil))
    ⟨step_toT rfl (.inl rfl) rfl cg6 hT awake_any rfl (no_args),
     step_not rfl (.inl rfl) (b := true) rfl rfl (knows_in 0 11 (by decide) (by kernel_rfl) rfl rfl), trivial⟩ ?_
  intro val w1 hw hS hap hla
  have e11 : val 11 = (.bool true) := hS 0 11 (by decide) rfl
  have e12 : val 12 = (.bool false) := hS 1 12 (by decide) rfl
  simp only [putVals, List.foldl_cons, List.foldl_nil, List.drop_succ_cons, List.drop_zero, Act.put, List.setIfInBounds_toArray, List.set_cons_succ, List.set_cons_zero, e11, e12]
  clear hS hap hla e11 e12 
  replace hT := hT.next hw
  replace h3 := h3.next hw
  replace h4 := h4.next hw
  replace h5 := h5.next hw
  replace hW := hW.trans (Below.mono hw hW.size)
  clear hw
  go_upto_region 3 with (fail)
  have s1 := hW.size
  refine region_seq2 2 108 (fun i => i == 1) [Is (.agg (ints .i64 bb).toArray), IsZ4 w1.heap.size] [13, 7] (by kernel_rfl) (by kernel_rfl) (Nat.le_of_eq rfl) (grows_cons (Is.grows _) (grows_cons (IsZ4.grows _) grows_nil))
    ⟨step_toT rfl (.inl rfl) rfl cg25 hT kb rfl (no_args),
     step_alloc28 (.inl rfl) rfl rfl, trivial⟩ ?_
  intro val w2 hw hS hap hla
  have e13 : val 13 = (.agg (ints .i64 bb).toArray) := hS 0 13 (by decide) rfl
  obtain ⟨b7, e7, L7, Z7⟩ := hS 1 7 (by decide) rfl
  simp only [putVals, List.foldl_cons, List.foldl_nil, List.drop_succ_cons, List.drop_zero, Act.put, List.setIfInBounds_toArray, List.set_cons_succ, List.set_cons_zero, e13, e7]
  clear hS hap hla e13 e7 
  have LL7 := hid hbb.len
  have R7 := Z7.room (l' := bb) hbb.len
  have hB7 := Z7.stored (l' := bb) hbb.len
  replace hT := hT.next (Below.setCells hw L7 0 (ints .i64 bb).toArray.toList)
  replace h3 := h3.next (Below.setCells hw L7 0 (ints .i64 bb).toArray.toList)
  replace h4 := h4.next (Below.setCells hw L7 0 (ints .i64 bb).toArray.toList)
  replace h5 := h5.next (Below.setCells hw L7 0 (ints .i64 bb).toArray.toList)
  replace hW := hW.trans (Below.mono (Below.setCells hw L7 0 (ints .i64 bb).toArray.toList) hW.size)
  with_reducible refine wpList_store_mid (op := ⟨none, .store 28 (.tmp 7) (.tmp 13), _, _, _, _⟩) rfl 28 (.tmp 7) (.tmp 13) rfl b7 0 (ints .i64 bb).toArray rfl rfl R7 (a28 LL7.out) (ints_all _ _) ?_
  generalize (w2.setCells b7 0 (ints .i64 bb).toArray.toList) = w3 at *
  clear hw R7 LL7 Z7 
  go_upto_region 4 with (fail)
  have lt7 := hB7.lt
  have lt3 := h3.lt
  have lt4 := h4.lt
  have lt5 := h5.lt
  have s3 := hW.size
  refine region_seq2 6 108 (fun i => i == 5) [Is (.agg (ints .u8 a).toArray), Is (.tuple #[(.agg (ints .i64 off).toArray), (.int .i64 21)]), Is (.tuple #[(.agg (ints .i64 off).toArray), (.int .i64 21)]), Is (.agg (ints .i64 off).toArray), Is (.int .i64 21), IsZ4 w3.heap.size] [15, 16, 14, 17, 18, 8] (by kernel_rfl) (by kernel_rfl) (Nat.le_of_eq rfl) (grows_cons (Is.grows _) (grows_cons (Is.grows _) (grows_cons (Is.grows _) (grows_cons (Is.grows _) (grows_cons (Is.grows _) (grows_cons (IsZ4.grows _) grows_nil))))))
    ⟨step_by rfl (.inl rfl) h3 3 rfl (by kernel_rfl) rfl rfl,
     step_toT rfl (.inl rfl) rfl cg7 hT kof rfl (one_arg (knows_in 0 15 (by decide) (by kernel_rfl) rfl rfl)),
     step_mv rfl (.inl rfl) rfl rfl (knows_in 1 16 (by decide) (by kernel_rfl) rfl rfl),
     step_fst rfl (.inl rfl) rfl rfl (knows_in 2 14 (by decide) (by kernel_rfl) rfl rfl),
     step_snd rfl (.inl rfl) rfl rfl (knows_in 2 14 (by decide) (by kernel_rfl) rfl rfl),
     step_alloc28 (.inl rfl) rfl rfl, trivial⟩ ?_
  intro val w4 hw hS hap hla
  have e15 : val 15 = (.agg (ints .u8 a).toArray) := hS 0 15 (by decide) rfl
  have e16 : val 16 = (.tuple #[(.agg (ints .i64 off).toArray), (.int .i64 21)]) := hS 1 16 (by decide) rfl
  have e14 : val 14 = (.tuple #[(.agg (ints .i64 off).toArray), (.int .i64 21)]) := hS 2 14 (by decide) rfl
  have e17 : val 17 = (.agg (ints .i64 off).toArray) := hS 3 17 (by decide) rfl
  have e18 : val 18 = (.int .i64 21) := hS 4 18 (by decide) rfl
  obtain ⟨b8, e8, L8, Z8⟩ := hS 5 8 (by decide) rfl
  simp only [putVals, List.foldl_cons, List.foldl_nil, List.drop_succ_cons, List.drop_zero, Act.put, List.setIfInBounds_toArray, List.set_cons_succ, List.set_cons_zero, e15, e16, e14, e17, e18, e8]
  clear hS hap hla e15 e16 e14 e17 e18 e8 
  have LL8 := hid loff
  have R8 := Z8.room (l' := off) loff
  have hB8 := Z8.stored (l' := off) loff
  replace hT := hT.next (Below.setCells hw L8 0 (ints .i64 off).toArray.toList)
  replace h3 := h3.next (Below.setCells hw L8 0 (ints .i64 off).toArray.toList)
  replace h4 := h4.next (Below.setCells hw L8 0 (ints .i64 off).toArray.toList)
  replace h5 := h5.next (Below.setCells hw L8 0 (ints .i64 off).toArray.toList)
  replace hB7 := hB7.next (Below.setCells hw L8 0 (ints .i64 off).toArray.toList)
  replace hW := hW.trans (Below.mono (Below.setCells hw L8 0 (ints .i64 off).toArray.toList) hW.size)
  with_reducible refine wpList_store_mid (op := ⟨none, .store 28 (.tmp 8) (.tmp 17), _, _, _, _⟩) rfl 28 (.tmp 8) (.tmp 17) rfl b8 0 (ints .i64 off).toArray rfl rfl R8 (a28 LL8.out) (ints_all _ _) ?_
  generalize (w4.setCells b8 0 (ints .i64 off).toArray.toList) = w5 at *
  clear hw R8 LL8 Z8 
  go_upto_region 6 with (fail)
  have s5 := hW.size
  refine region_seq2 3 108 (fun _ => false) [Is (.agg (ints .i64 bb).toArray), Is (.agg (ints .u8 a).toArray), Is (.agg (ints .i64 pp).toArray)] [21, 22, 23] (by kernel_rfl) (by kernel_rfl) (Nat.le_of_eq rfl) (grows_cons (Is.grows _) (grows_cons (Is.grows _) (grows_cons (Is.grows _) grows_nil)))
    ⟨step_pt rfl (.inl rfl) hB7 7 rfl (by kernel_rfl) rfl rfl,
     step_by rfl (.inl rfl) h3 3 rfl (by kernel_rfl) rfl rfl,
     step_toT rfl (.inl rfl) rfl cg12 hT kp rfl (two_args (knows_in 0 21 (by decide) (by kernel_rfl) rfl rfl) (knows_in 1 22 (by decide) (by kernel_rfl) rfl rfl)), trivial⟩ ?_
  intro val w6 hw hS hap hla
  have e21 : val 21 = (.agg (ints .i64 bb).toArray) := hS 0 21 (by decide) rfl
  have e22 : val 22 = (.agg (ints .u8 a).toArray) := hS 1 22 (by decide) rfl
  have e23 : val 23 = (.agg (ints .i64 pp).toArray) := hS 2 23 (by decide) rfl
  simp only [putVals, List.foldl_cons, List.foldl_nil, List.drop_succ_cons, List.drop_zero, Act.put, List.setIfInBounds_toArray, List.set_cons_succ, List.set_cons_zero, e21, e22, e23]
  clear hS hap hla e21 e22 e23 
  replace hT := hT.next hw
  replace h3 := h3.next hw
  replace h4 := h4.next hw
  replace h5 := h5.next hw
  replace hB7 := hB7.next hw
  replace hB8 := hB8.next hw
  replace hW := hW.trans (Below.mono hw hW.size)
  clear hw
  have LL8 := hid hpp.len
  have R8 := hB8.room (l' := pp) hpp.len
  replace hB8 := hB8.stored (l' := pp) hpp.len
  replace hB7 := hB7.past (b' := b8) (ints .i64 pp).toArray.toList (by omega)
  replace h3 := h3.past (b' := b8) (ints .i64 pp).toArray.toList (by omega)
  replace h4 := h4.past (b' := b8) (ints .i64 pp).toArray.toList (by omega)
  replace h5 := h5.past (b' := b8) (ints .i64 pp).toArray.toList (by omega)
  replace hW := Below.setCells hW (g := b8) (by omega) 0 (ints .i64 pp).toArray.toList
  replace hT := hT0.next hW
  with_reducible refine wpList_store_mid (op := ⟨none, .store 28 (.tmp 8) (.tmp 23), _, _, _, _⟩) rfl 28 (.tmp 8) (.tmp 23) rfl b8 0 (ints .i64 pp).toArray rfl rfl R8 (a28 LL8.out) (ints_all _ _) ?_
  generalize (w6.setCells b8 0 (ints .i64 pp).toArray.toList) = w7 at *
  clear R8 LL8
  go_upto_region 7 with (fail)
  have s7 := hW.size
  refine region_seq2 4 108 (fun i => i == 3) [Is (.agg (ints .i64 bb).toArray), Is (.agg (ints .u8 m).toArray), Is (.agg (ints .i64 qq).toArray), IsZ4 w7.heap.size] [24, 25, 26, 10] (by kernel_rfl) (by kernel_rfl) (Nat.le_of_eq rfl) (grows_cons (Is.grows _) (grows_cons (Is.grows _) (grows_cons (Is.grows _) (grows_cons (IsZ4.grows _) grows_nil))))
    ⟨step_pt rfl (.inl rfl) hB7 7 rfl (by kernel_rfl) rfl rfl,
     step_by rfl (.inl rfl) h4 4 rfl (by kernel_rfl) rfl rfl,
     step_toT rfl (.inl rfl) rfl cg12 hT kq rfl (two_args (knows_in 0 24 (by decide) (by kernel_rfl) rfl rfl) (knows_in 1 25 (by decide) (by kernel_rfl) rfl rfl)),
     step_alloc28 (.inl rfl) rfl rfl, trivial⟩ ?_
  intro val w8 hw hS hap hla
  have e24 : val 24 = (.agg (ints .i64 bb).toArray) := hS 0 24 (by decide) rfl
  have e25 : val 25 = (.agg (ints .u8 m).toArray) := hS 1 25 (by decide) rfl
  have e26 : val 26 = (.agg (ints .i64 qq).toArray) := hS 2 26 (by decide) rfl
  obtain ⟨b10, e10, L10, Z10⟩ := hS 3 10 (by decide) rfl
  simp only [putVals, List.foldl_cons, List.foldl_nil, List.drop_succ_cons, List.drop_zero, Act.put, List.setIfInBounds_toArray, List.set_cons_succ, List.set_cons_zero, e24, e25, e26, e10]
  clear hS hap hla e24 e25 e26 e10 
  have LL10 := hid hqq.len
  have R10 := Z10.room (l' := qq) hqq.len
  have hB10 := Z10.stored (l' := qq) hqq.len
  replace hT := hT.next (Below.setCells hw L10 0 (ints .i64 qq).toArray.toList)
  replace h3 := h3.next (Below.setCells hw L10 0 (ints .i64 qq).toArray.toList)
  replace h4 := h4.next (Below.setCells hw L10 0 (ints .i64 qq).toArray.toList)
  replace h5 := h5.next (Below.setCells hw L10 0 (ints .i64 qq).toArray.toList)
  replace hB7 := hB7.next (Below.setCells hw L10 0 (ints .i64 qq).toArray.toList)
  replace hB8 := hB8.next (Below.setCells hw L10 0 (ints .i64 qq).toArray.toList)
  replace hW := hW.trans (Below.mono (Below.setCells hw L10 0 (ints .i64 qq).toArray.toList) hW.size)
  with_reducible refine wpList_store_mid (op := ⟨none, .store 28 (.tmp 10) (.tmp 26), _, _, _, _⟩) rfl 28 (.tmp 10) (.tmp 26) rfl b10 0 (ints .i64 qq).toArray rfl rfl R10 (a28 LL10.out) (ints_all _ _) ?_
  generalize (w8.setCells b10 0 (ints .i64 qq).toArray.toList) = w9 at *
  clear hw R10 LL10 Z10 
  go_wp2_with (fail)
  have s9 := hW.size
  refine region_spec2 39 108 (fun _ => false) [Is (.agg (ints .i64 pp).toArray), Is (.agg (ints .i64 qq).toArray), Is (.agg (ints .i64 u1).toArray), Is (.agg (ints .i64 qq).toArray), Is (.agg (ints .i64 pp).toArray), Is (.agg (ints .i64 u2).toArray), Is (.bool true), Is (.bool false), Is (.bool false), Is (.agg (ints .i64 pp).toArray), Is (.agg (ints .i64 pp).toArray), Is (.agg (ints .i64 np).toArray), Is (.agg (ints .i64 u3).toArray), Is (.agg (ints .i64 nouL).toArray), Is (.bool true), Is (.bool false), Is (.bool false), Is (.bool false), Is (.agg (ints .i64 pp).toArray), Is (.agg (ints .i64 nouL).toArray), Is (.agg (ints .i64 u4).toArray), Is (.agg (ints .i64 pp).toArray), Is (.bool true), Is (.bool false), Is (.bool false), Is (.bool false), Is (.agg (ints .i64 pp).toArray), Is (.agg (ints .i64 np).toArray), Is (.agg (ints .i64 nn).toArray), Is (.agg (ints .i64 pp).toArray), Is (.bool true), Is (.bool false), Is (.bool false), Is (.bool false), Is (.agg (ints .i64 pp).toArray), Is (.agg (ints .i64 qq).toArray), Is (.agg (ints .i64 u1).toArray), Is (.bool true), Is (.bool false)] [27, 28, 29, 30, 31, 32, 33, 34, 35, 36, 37, 38, 39, 40, 41, 42, 43, 44, 45, 46, 47, 48, 49, 50, 51, 52, 53, 54, 55, 56, 57, 58, 59, 60, 61, 62, 63, 64, 65] (by kernel_rfl) (by kernel_rfl) (by kernel_rfl) (Nat.le_of_eq rfl) (grows_cons (Is.grows _) (grows_cons (Is.grows _) (grows_cons (Is.grows _) (grows_cons (Is.grows _) (grows_cons (Is.grows _) (grows_cons (Is.grows _) (grows_cons (Is.grows _) (grows_cons (Is.grows _) (grows_cons (Is.grows _) (grows_cons (Is.grows _) (grows_cons (Is.grows _) (grows_cons (Is.grows _) (grows_cons (Is.grows _) (grows_cons (Is.grows _) (grows_cons (Is.grows _) (grows_cons (Is.grows _) (grows_cons (Is.grows _) (grows_cons (Is.grows _) (grows_cons (Is.grows _) (grows_cons (Is.grows _) (grows_cons (Is.grows _) (grows_cons (Is.grows _) (grows_cons (Is.grows _) (grows_cons (Is.grows _) (grows_cons (Is.grows _) (grows_cons (Is.grows _) (grows_cons (Is.grows _) (grows_cons (Is.grows _) (grows_cons (Is.grows _) (grows_cons (Is.grows _) (grows_cons (Is.grows _) (grows_cons (Is.grows _) (grows_cons (Is.grows _) (grows_cons (Is.grows _) (grows_cons (Is.grows _) (grows_cons (Is.grows _) (grows_cons (Is.grows _) (grows_cons (Is.grows _) (grows_cons (Is.grows _) grows_nil)))))))))))))))))))))))))))))))))))))))
    ⟨step_pt rfl (.inl rfl) hB8 8 rfl (by kernel_rfl) rfl rfl,
     step_pt rfl (.inl rfl) hB10 10 rfl (by kernel_rfl) rfl rfl,
     step_toT rfl (.inl rfl) rfl cg11 hT k1 rfl (two_args (knows_in 0 27 (by decide) (by kernel_rfl) rfl rfl) (knows_in 1 28 (by decide) (by kernel_rfl) rfl rfl)),
     step_pt rfl (.inl rfl) hB10 10 rfl (by kernel_rfl) rfl rfl,
     step_pt rfl (.inl rfl) hB8 8 rfl (by kernel_rfl) rfl rfl,
     step_toT rfl (.inl rfl) rfl cg11 hT k2 rfl (two_args (knows_in 3 30 (by decide) (by kernel_rfl) rfl rfl) (knows_in 4 31 (by decide) (by kernel_rfl) rfl rfl)),
     step_to rfl (.inl rfl) rfl cg24 e1 rfl (two_args (knows_in 2 29 (by decide) (by kernel_rfl) rfl rfl) (knows_in 5 32 (by decide) (by kernel_rfl) rfl rfl)),
     step_not rfl (.inl rfl) (b := true) rfl rfl (knows_in 6 33 (by decide) (by kernel_rfl) rfl rfl),
     step_mv rfl (.inl rfl) rfl rfl (knows_in 7 34 (by decide) (by kernel_rfl) rfl rfl),
     step_pt rfl (.inr ⟨8, false, 35, rfl, by decide, by kernel_rfl, rfl, fun _ _ h => h⟩) hB8 8 rfl (by kernel_rfl) rfl rfl,
     step_pt rfl (.inr ⟨8, false, 35, rfl, by decide, by kernel_rfl, rfl, fun _ _ h => h⟩) hB8 8 rfl (by kernel_rfl) rfl rfl,
     step_to rfl (.inr ⟨8, false, 35, rfl, by decide, by kernel_rfl, rfl, fun _ _ h => h⟩) rfl cg13 kn rfl (one_arg (knows_in 10 37 (by decide) (by kernel_rfl) rfl rfl)),
     step_toT rfl (.inr ⟨8, false, 35, rfl, by decide, by kernel_rfl, rfl, fun _ _ h => h⟩) rfl cg11 hT k3 rfl (two_args (knows_in 9 36 (by decide) (by kernel_rfl) rfl rfl) (knows_in 11 38 (by decide) (by kernel_rfl) rfl rfl)),
     step_to rfl (.inr ⟨8, false, 35, rfl, by decide, by kernel_rfl, rfl, fun _ _ h => h⟩) rfl cg29 nouL_spec.1 rfl (no_args),
     step_to rfl (.inr ⟨8, false, 35, rfl, by decide, by kernel_rfl, rfl, fun _ _ h => h⟩) rfl cg24 e2 rfl (two_args (knows_in 12 39 (by decide) (by kernel_rfl) rfl rfl) (knows_in 13 40 (by decide) (by kernel_rfl) rfl rfl)),
     step_not rfl (.inr ⟨8, false, 35, rfl, by decide, by kernel_rfl, rfl, fun _ _ h => h⟩) (b := true) rfl rfl (knows_in 14 41 (by decide) (by kernel_rfl) rfl rfl),
     step_pick rfl (.inl rfl) (b := false) rfl rfl (knows_in 8 35 (by decide) (by kernel_rfl) rfl rfl) (knows_in 15 42 (by decide) (by kernel_rfl) rfl rfl),
     step_mv rfl (.inl rfl) rfl rfl (knows_in 16 43 (by decide) (by kernel_rfl) rfl rfl),
     step_pt rfl (.inr ⟨17, false, 44, rfl, by decide, by kernel_rfl, rfl, fun _ _ h => h⟩) hB8 8 rfl (by kernel_rfl) rfl rfl,
     step_to rfl (.inr ⟨17, false, 44, rfl, by decide, by kernel_rfl, rfl, fun _ _ h => h⟩) rfl cg29 nouL_spec.1 rfl (no_args),
     step_toT rfl (.inr ⟨17, false, 44, rfl, by decide, by kernel_rfl, rfl, fun _ _ h => h⟩) rfl cg11 hT k4 rfl (two_args (knows_in 18 45 (by decide) (by kernel_rfl) rfl rfl) (knows_in 19 46 (by decide) (by kernel_rfl) rfl rfl)),
     step_pt rfl (.inr ⟨17, false, 44, rfl, by decide, by kernel_rfl, rfl, fun _ _ h => h⟩) hB8 8 rfl (by kernel_rfl) rfl rfl,
     step_to rfl (.inr ⟨17, false, 44, rfl, by decide, by kernel_rfl, rfl, fun _ _ h => h⟩) rfl cg24 e3 rfl (two_args (knows_in 20 47 (by decide) (by kernel_rfl) rfl rfl) (knows_in 21 48 (by decide) (by kernel_rfl) rfl rfl)),
     step_not rfl (.inr ⟨17, false, 44, rfl, by decide, by kernel_rfl, rfl, fun _ _ h => h⟩) (b := true) rfl rfl (knows_in 22 49 (by decide) (by kernel_rfl) rfl rfl),
     step_pick rfl (.inl rfl) (b := false) rfl rfl (knows_in 17 44 (by decide) (by kernel_rfl) rfl rfl) (knows_in 23 50 (by decide) (by kernel_rfl) rfl rfl),
     step_mv rfl (.inl rfl) rfl rfl (knows_in 24 51 (by decide) (by kernel_rfl) rfl rfl),
     step_pt rfl (.inr ⟨25, false, 52, rfl, by decide, by kernel_rfl, rfl, fun _ _ h => h⟩) hB8 8 rfl (by kernel_rfl) rfl rfl,
     step_to rfl (.inr ⟨25, false, 52, rfl, by decide, by kernel_rfl, rfl, fun _ _ h => h⟩) rfl cg13 kn rfl (one_arg (knows_in 26 53 (by decide) (by kernel_rfl) rfl rfl)),
     step_to rfl (.inr ⟨25, false, 52, rfl, by decide, by kernel_rfl, rfl, fun _ _ h => h⟩) rfl cg13 knn rfl (one_arg (knows_in 27 54 (by decide) (by kernel_rfl) rfl rfl)),
     step_pt rfl (.inr ⟨25, false, 52, rfl, by decide, by kernel_rfl, rfl, fun _ _ h => h⟩) hB8 8 rfl (by kernel_rfl) rfl rfl,
     step_to rfl (.inr ⟨25, false, 52, rfl, by decide, by kernel_rfl, rfl, fun _ _ h => h⟩) rfl cg24 e4 rfl (two_args (knows_in 28 55 (by decide) (by kernel_rfl) rfl rfl) (knows_in 29 56 (by decide) (by kernel_rfl) rfl rfl)),
     step_not rfl (.inr ⟨25, false, 52, rfl, by decide, by kernel_rfl, rfl, fun _ _ h => h⟩) (b := true) rfl rfl (knows_in 30 57 (by decide) (by kernel_rfl) rfl rfl),
     step_pick rfl (.inl rfl) (b := false) rfl rfl (knows_in 25 52 (by decide) (by kernel_rfl) rfl rfl) (knows_in 31 58 (by decide) (by kernel_rfl) rfl rfl),
     step_mv rfl (.inl rfl) rfl rfl (knows_in 32 59 (by decide) (by kernel_rfl) rfl rfl),
     step_pt rfl (.inr ⟨33, false, 60, rfl, by decide, by kernel_rfl, rfl, fun _ _ h => h⟩) hB8 8 rfl (by kernel_rfl) rfl rfl,
     step_pt rfl (.inr ⟨33, false, 60, rfl, by decide, by kernel_rfl, rfl, fun _ _ h => h⟩) hB10 10 rfl (by kernel_rfl) rfl rfl,
     step_toT rfl (.inr ⟨33, false, 60, rfl, by decide, by kernel_rfl, rfl, fun _ _ h => h⟩) rfl cg11 hT k1 rfl (two_args (knows_in 34 61 (by decide) (by kernel_rfl) rfl rfl) (knows_in 35 62 (by decide) (by kernel_rfl) rfl rfl)),
     step_toT rfl (.inr ⟨33, false, 60, rfl, by decide, by kernel_rfl, rfl, fun _ _ h => h⟩) rfl cg9 hT o1 rfl (one_arg (knows_in 36 63 (by decide) (by kernel_rfl) rfl rfl)),
     step_not rfl (.inr ⟨33, false, 60, rfl, by decide, by kernel_rfl, rfl, fun _ _ h => h⟩) (b := true) rfl rfl (knows_in 37 64 (by decide) (by kernel_rfl) rfl rfl), trivial⟩ ?_
  intro val w10 hw hS hap hla
  have e27 : val 27 = (.agg (ints .i64 pp).toArray) := hS 0 27 (by decide) rfl
  have e28 : val 28 = (.agg (ints .i64 qq).toArray) := hS 1 28 (by decide) rfl
  have e29 : val 29 = (.agg (ints .i64 u1).toArray) := hS 2 29 (by decide) rfl
  have e30 : val 30 = (.agg (ints .i64 qq).toArray) := hS 3 30 (by decide) rfl
  have e31 : val 31 = (.agg (ints .i64 pp).toArray) := hS 4 31 (by decide) rfl
  have e32 : val 32 = (.agg (ints .i64 u2).toArray) := hS 5 32 (by decide) rfl
  have e33 : val 33 = (.bool true) := hS 6 33 (by decide) rfl
  have e34 : val 34 = (.bool false) := hS 7 34 (by decide) rfl
  have e35 : val 35 = (.bool false) := hS 8 35 (by decide) rfl
  have e36 : val 36 = (.agg (ints .i64 pp).toArray) := hS 9 36 (by decide) rfl
  have e37 : val 37 = (.agg (ints .i64 pp).toArray) := hS 10 37 (by decide) rfl
  have e38 : val 38 = (.agg (ints .i64 np).toArray) := hS 11 38 (by decide) rfl
  have e39 : val 39 = (.agg (ints .i64 u3).toArray) := hS 12 39 (by decide) rfl
  have e40 : val 40 = (.agg (ints .i64 nouL).toArray) := hS 13 40 (by decide) rfl
  have e41 : val 41 = (.bool true) := hS 14 41 (by decide) rfl
  have e42 : val 42 = (.bool false) := hS 15 42 (by decide) rfl
  have e43 : val 43 = (.bool false) := hS 16 43 (by decide) rfl
  have e44 : val 44 = (.bool false) := hS 17 44 (by decide) rfl
  have e45 : val 45 = (.agg (ints .i64 pp).toArray) := hS 18 45 (by decide) rfl
  have e46 : val 46 = (.agg (ints .i64 nouL).toArray) := hS 19 46 (by decide) rfl
  have e47 : val 47 = (.agg (ints .i64 u4).toArray) := hS 20 47 (by decide) rfl
  have e48 : val 48 = (.agg (ints .i64 pp).toArray) := hS 21 48 (by decide) rfl
  have e49 : val 49 = (.bool true) := hS 22 49 (by decide) rfl
  have e50 : val 50 = (.bool false) := hS 23 50 (by decide) rfl
  have e51 : val 51 = (.bool false) := hS 24 51 (by decide) rfl
  have e52 : val 52 = (.bool false) := hS 25 52 (by decide) rfl
  have e53 : val 53 = (.agg (ints .i64 pp).toArray) := hS 26 53 (by decide) rfl
  have e54 : val 54 = (.agg (ints .i64 np).toArray) := hS 27 54 (by decide) rfl
  have e55 : val 55 = (.agg (ints .i64 nn).toArray) := hS 28 55 (by decide) rfl
  have e56 : val 56 = (.agg (ints .i64 pp).toArray) := hS 29 56 (by decide) rfl
  have e57 : val 57 = (.bool true) := hS 30 57 (by decide) rfl
  have e58 : val 58 = (.bool false) := hS 31 58 (by decide) rfl
  have e59 : val 59 = (.bool false) := hS 32 59 (by decide) rfl
  have e60 : val 60 = (.bool false) := hS 33 60 (by decide) rfl
  have e61 : val 61 = (.agg (ints .i64 pp).toArray) := hS 34 61 (by decide) rfl
  have e62 : val 62 = (.agg (ints .i64 qq).toArray) := hS 35 62 (by decide) rfl
  have e63 : val 63 = (.agg (ints .i64 u1).toArray) := hS 36 63 (by decide) rfl
  have e64 : val 64 = (.bool true) := hS 37 64 (by decide) rfl
  have e65 : val 65 = (.bool false) := hS 38 65 (by decide) rfl
  simp only [putVals, List.foldl_cons, List.foldl_nil, List.drop_succ_cons, List.drop_zero, Act.put, List.setIfInBounds_toArray, List.set_cons_succ, List.set_cons_zero, e27, e28, e29, e30, e31, e32, e33, e34, e35, e36, e37, e38, e39, e40, e41, e42, e43, e44, e45, e46, e47, e48, e49, e50, e51, e52, e53, e54, e55, e56, e57, e58, e59, e60, e61, e62, e63, e64, e65]
  clear hS hap hla e27 e28 e29 e30 e31 e32 e33 e34 e35 e36 e37 e38 e39 e40 e41 e42 e43 e44 e45 e46 e47 e48 e49 e50 e51 e52 e53 e54 e55 e56 e57 e58 e59 e60 e61 e62 e63 e64 e65 
  replace hT := hT.next hw
  replace h3 := h3.next hw
  replace h4 := h4.next hw
  replace h5 := h5.next hw
  replace hB7 := hB7.next hw
  replace hB8 := hB8.next hw
  replace hB10 := hB10.next hw
  replace hW := hW.trans (Below.mono hw hW.size)
  clear hw
  go_wp2_with (fail)
  have s10 := hW.size
  refine region_spec2 23 108 (fun _ => false) [Is (.agg (ints .i64 bb).toArray), Is (.agg (ints .u8 m).toArray), Is (.agg (ints .u8 n).toArray), Is (.agg (ints .u8 mn).toArray), Is (.agg (ints .i64 t1).toArray), Is (.agg (ints .i64 qq).toArray), Is (.agg (ints .i64 bb).toArray), Is (.agg (ints .u8 n).toArray), Is (.agg (ints .i64 t2).toArray), Is (.agg (ints .i64 t3).toArray), Is (.bool true), Is (.bool false), Is (.bool false), Is (.agg (ints .i64 qq).toArray), Is (.agg (ints .u8 n).toArray), Is (.agg (ints .i64 t4).toArray), Is (.agg (ints .i64 bb).toArray), Is (.agg (ints .u8 m).toArray), Is (.agg (ints .u8 n).toArray), Is (.agg (ints .u8 mx).toArray), Is (.agg (ints .i64 t5).toArray), Is (.bool true), Is (.bool false)] [67, 68, 69, 70, 71, 72, 73, 74, 75, 76, 77, 78, 79, 80, 81, 82, 83, 84, 85, 86, 87, 88, 89] (by kernel_rfl) (by kernel_rfl) (by kernel_rfl) (Nat.le_of_eq rfl) (grows_cons (Is.grows _) (grows_cons (Is.grows _) (grows_cons (Is.grows _) (grows_cons (Is.grows _) (grows_cons (Is.grows _) (grows_cons (Is.grows _) (grows_cons (Is.grows _) (grows_cons (Is.grows _) (grows_cons (Is.grows _) (grows_cons (Is.grows _) (grows_cons (Is.grows _) (grows_cons (Is.grows _) (grows_cons (Is.grows _) (grows_cons (Is.grows _) (grows_cons (Is.grows _) (grows_cons (Is.grows _) (grows_cons (Is.grows _) (grows_cons (Is.grows _) (grows_cons (Is.grows _) (grows_cons (Is.grows _) (grows_cons (Is.grows _) (grows_cons (Is.grows _) (grows_cons (Is.grows _) grows_nil)))))))))))))))))))))))
    ⟨step_pt rfl (.inl rfl) hB7 7 rfl (by kernel_rfl) rfl rfl,
     step_by rfl (.inl rfl) h4 4 rfl (by kernel_rfl) rfl rfl,
     step_by rfl (.inl rfl) h5 5 rfl (by kernel_rfl) rfl rfl,
     step_to rfl (.inl rfl) rfl cg32 kmn rfl (two_args (knows_in 1 68 (by decide) (by kernel_rfl) rfl rfl) (knows_in 2 69 (by decide) (by kernel_rfl) rfl rfl)),
     step_toT rfl (.inl rfl) rfl cg12 hT j1 rfl (two_args (knows_in 0 67 (by decide) (by kernel_rfl) rfl rfl) (knows_in 3 70 (by decide) (by kernel_rfl) rfl rfl)),
     step_pt rfl (.inl rfl) hB10 10 rfl (by kernel_rfl) rfl rfl,
     step_pt rfl (.inl rfl) hB7 7 rfl (by kernel_rfl) rfl rfl,
     step_by rfl (.inl rfl) h5 5 rfl (by kernel_rfl) rfl rfl,
     step_toT rfl (.inl rfl) rfl cg12 hT j2 rfl (two_args (knows_in 6 73 (by decide) (by kernel_rfl) rfl rfl) (knows_in 7 74 (by decide) (by kernel_rfl) rfl rfl)),
     step_toT rfl (.inl rfl) rfl cg11 hT j3 rfl (two_args (knows_in 5 72 (by decide) (by kernel_rfl) rfl rfl) (knows_in 8 75 (by decide) (by kernel_rfl) rfl rfl)),
     step_to rfl (.inl rfl) rfl cg24 e5 rfl (two_args (knows_in 4 71 (by decide) (by kernel_rfl) rfl rfl) (knows_in 9 76 (by decide) (by kernel_rfl) rfl rfl)),
     step_not rfl (.inl rfl) (b := true) rfl rfl (knows_in 10 77 (by decide) (by kernel_rfl) rfl rfl),
     step_mv rfl (.inl rfl) rfl rfl (knows_in 11 78 (by decide) (by kernel_rfl) rfl rfl),
     step_pt rfl (.inr ⟨12, false, 79, rfl, by decide, by kernel_rfl, rfl, fun _ _ h => h⟩) hB10 10 rfl (by kernel_rfl) rfl rfl,
     step_by rfl (.inr ⟨12, false, 79, rfl, by decide, by kernel_rfl, rfl, fun _ _ h => h⟩) h5 5 rfl (by kernel_rfl) rfl rfl,
     step_toT rfl (.inr ⟨12, false, 79, rfl, by decide, by kernel_rfl, rfl, fun _ _ h => h⟩) rfl cg12 hT j4 rfl (two_args (knows_in 13 80 (by decide) (by kernel_rfl) rfl rfl) (knows_in 14 81 (by decide) (by kernel_rfl) rfl rfl)),
     step_pt rfl (.inr ⟨12, false, 79, rfl, by decide, by kernel_rfl, rfl, fun _ _ h => h⟩) hB7 7 rfl (by kernel_rfl) rfl rfl,
     step_by rfl (.inr ⟨12, false, 79, rfl, by decide, by kernel_rfl, rfl, fun _ _ h => h⟩) h4 4 rfl (by kernel_rfl) rfl rfl,
     step_by rfl (.inr ⟨12, false, 79, rfl, by decide, by kernel_rfl, rfl, fun _ _ h => h⟩) h5 5 rfl (by kernel_rfl) rfl rfl,
     step_to rfl (.inr ⟨12, false, 79, rfl, by decide, by kernel_rfl, rfl, fun _ _ h => h⟩) rfl cg33 kmx rfl (two_args (knows_in 17 84 (by decide) (by kernel_rfl) rfl rfl) (knows_in 18 85 (by decide) (by kernel_rfl) rfl rfl)),
     step_toT rfl (.inr ⟨12, false, 79, rfl, by decide, by kernel_rfl, rfl, fun _ _ h => h⟩) rfl cg12 hT j5 rfl (two_args (knows_in 16 83 (by decide) (by kernel_rfl) rfl rfl) (knows_in 19 86 (by decide) (by kernel_rfl) rfl rfl)),
     step_to rfl (.inr ⟨12, false, 79, rfl, by decide, by kernel_rfl, rfl, fun _ _ h => h⟩) rfl cg24 e6 rfl (two_args (knows_in 15 82 (by decide) (by kernel_rfl) rfl rfl) (knows_in 20 87 (by decide) (by kernel_rfl) rfl rfl)),
     step_not rfl (.inr ⟨12, false, 79, rfl, by decide, by kernel_rfl, rfl, fun _ _ h => h⟩) (b := true) rfl rfl (knows_in 21 88 (by decide) (by kernel_rfl) rfl rfl), trivial⟩ ?_
  intro val w11 hw hS hap hla
  have e67 : val 67 = (.agg (ints .i64 bb).toArray) := hS 0 67 (by decide) rfl
  have e68 : val 68 = (.agg (ints .u8 m).toArray) := hS 1 68 (by decide) rfl
  have e69 : val 69 = (.agg (ints .u8 n).toArray) := hS 2 69 (by decide) rfl
  have e70 : val 70 = (.agg (ints .u8 mn).toArray) := hS 3 70 (by decide) rfl
  have e71 : val 71 = (.agg (ints .i64 t1).toArray) := hS 4 71 (by decide) rfl
  have e72 : val 72 = (.agg (ints .i64 qq).toArray) := hS 5 72 (by decide) rfl
  have e73 : val 73 = (.agg (ints .i64 bb).toArray) := hS 6 73 (by decide) rfl
  have e74 : val 74 = (.agg (ints .u8 n).toArray) := hS 7 74 (by decide) rfl
  have e75 : val 75 = (.agg (ints .i64 t2).toArray) := hS 8 75 (by decide) rfl
  have e76 : val 76 = (.agg (ints .i64 t3).toArray) := hS 9 76 (by decide) rfl
  have e77 : val 77 = (.bool true) := hS 10 77 (by decide) rfl
  have e78 : val 78 = (.bool false) := hS 11 78 (by decide) rfl
  have e79 : val 79 = (.bool false) := hS 12 79 (by decide) rfl
  have e80 : val 80 = (.agg (ints .i64 qq).toArray) := hS 13 80 (by decide) rfl
  have e81 : val 81 = (.agg (ints .u8 n).toArray) := hS 14 81 (by decide) rfl
  have e82 : val 82 = (.agg (ints .i64 t4).toArray) := hS 15 82 (by decide) rfl
  have e83 : val 83 = (.agg (ints .i64 bb).toArray) := hS 16 83 (by decide) rfl
  have e84 : val 84 = (.agg (ints .u8 m).toArray) := hS 17 84 (by decide) rfl
  have e85 : val 85 = (.agg (ints .u8 n).toArray) := hS 18 85 (by decide) rfl
  have e86 : val 86 = (.agg (ints .u8 mx).toArray) := hS 19 86 (by decide) rfl
  have e87 : val 87 = (.agg (ints .i64 t5).toArray) := hS 20 87 (by decide) rfl
  have e88 : val 88 = (.bool true) := hS 21 88 (by decide) rfl
  have e89 : val 89 = (.bool false) := hS 22 89 (by decide) rfl
  simp only [putVals, List.foldl_cons, List.foldl_nil, List.drop_succ_cons, List.drop_zero, Act.put, List.setIfInBounds_toArray, List.set_cons_succ, List.set_cons_zero, e67, e68, e69, e70, e71, e72, e73, e74, e75, e76, e77, e78, e79, e80, e81, e82, e83, e84, e85, e86, e87, e88, e89]
  clear hS hap hla e67 e68 e69 e70 e71 e72 e73 e74 e75 e76 e77 e78 e79 e80 e81 e82 e83 e84 e85 e86 e87 e88 e89 
  replace hT := hT.next hw
  replace h3 := h3.next hw
  replace h4 := h4.next hw
  replace h5 := h5.next hw
  replace hB7 := hB7.next hw
  replace hB8 := hB8.next hw
  replace hB10 := hB10.next hw
  replace hW := hW.trans (Below.mono hw hW.size)
  clear hw
  go_wp2_with (fail)
  have s11 := hW.size
  refine region_spec2 17 108 (fun i => i == 1) [Is (.agg (ints .i64 bb).toArray), IsR w11.heap.size QN, Is (.agg (ints .u8 qb).toArray), Is (.agg (ints .i64 t6).toArray), Is (.agg (ints .i64 nouL).toArray), Is (.bool true), Is (.bool true), Is (.agg (ints .i64 pp).toArray), Is (.agg (ints .u8 threeL).toArray), Is (.agg (ints .i64 t7).toArray), Is (.agg (ints .i64 pp).toArray), Is (.agg (ints .i64 pp).toArray), Is (.agg (ints .i64 t8).toArray), Is (.agg (ints .i64 pp).toArray), Is (.agg (ints .i64 t9).toArray), Is (.bool true), Is (.bool true)] [91, 92, 93, 94, 95, 96, 97, 98, 99, 100, 101, 102, 103, 104, 105, 106, 107] (by kernel_rfl) (by kernel_rfl) (by kernel_rfl) (Nat.le_of_eq rfl) (grows_cons (Is.grows _) (grows_cons (IsR.grows _ _) (grows_cons (Is.grows _) (grows_cons (Is.grows _) (grows_cons (Is.grows _) (grows_cons (Is.grows _) (grows_cons (Is.grows _) (grows_cons (Is.grows _) (grows_cons (Is.grows _) (grows_cons (Is.grows _) (grows_cons (Is.grows _) (grows_cons (Is.grows _) (grows_cons (Is.grows _) (grows_cons (Is.grows _) (grows_cons (Is.grows _) (grows_cons (Is.grows _) (grows_cons (Is.grows _) grows_nil)))))))))))))))))
    ⟨step_pt rfl (.inl rfl) hB7 7 rfl (by kernel_rfl) rfl rfl,
     step_rout (.inl rfl) rfl cg35 rfl (fun a w hw hf hd => ⟨#[], by simp, q_out w⟩),
     step_rbytesQ rfl (.inl rfl) rfl cf12 HQB.out rfl (knowsR_in 1 92 (by decide) (by kernel_rfl) rfl rfl),
     step_toT rfl (.inl rfl) rfl cg12 hT j6 rfl (two_args (knows_in 0 91 (by decide) (by kernel_rfl) rfl rfl) (knows_in 2 93 (by decide) (by kernel_rfl) rfl rfl)),
     step_to rfl (.inl rfl) rfl cg29 nouL_spec.1 rfl (no_args),
     step_to rfl (.inl rfl) rfl cg24 e7 rfl (two_args (knows_in 3 94 (by decide) (by kernel_rfl) rfl rfl) (knows_in 4 95 (by decide) (by kernel_rfl) rfl rfl)),
     step_mv rfl (.inl rfl) rfl rfl (knows_in 5 96 (by decide) (by kernel_rfl) rfl rfl),
     step_pt rfl (.inr ⟨6, true, 97, rfl, by decide, by kernel_rfl, rfl, fun _ _ h => h⟩) hB8 8 rfl (by kernel_rfl) rfl rfl,
     step_oneB rfl (.inr ⟨6, true, 97, rfl, by decide, by kernel_rfl, rfl, fun _ _ h => h⟩) rfl built_three rfl,
     step_toT rfl (.inr ⟨6, true, 97, rfl, by decide, by kernel_rfl, rfl, fun _ _ h => h⟩) rfl cg12 hT j7 rfl (two_args (knows_in 7 98 (by decide) (by kernel_rfl) rfl rfl) (knows_in 8 99 (by decide) (by kernel_rfl) rfl rfl)),
     step_pt rfl (.inr ⟨6, true, 97, rfl, by decide, by kernel_rfl, rfl, fun _ _ h => h⟩) hB8 8 rfl (by kernel_rfl) rfl rfl,
     step_pt rfl (.inr ⟨6, true, 97, rfl, by decide, by kernel_rfl, rfl, fun _ _ h => h⟩) hB8 8 rfl (by kernel_rfl) rfl rfl,
     step_toT rfl (.inr ⟨6, true, 97, rfl, by decide, by kernel_rfl, rfl, fun _ _ h => h⟩) rfl cg11 hT j8 rfl (two_args (knows_in 10 101 (by decide) (by kernel_rfl) rfl rfl) (knows_in 11 102 (by decide) (by kernel_rfl) rfl rfl)),
     step_pt rfl (.inr ⟨6, true, 97, rfl, by decide, by kernel_rfl, rfl, fun _ _ h => h⟩) hB8 8 rfl (by kernel_rfl) rfl rfl,
     step_toT rfl (.inr ⟨6, true, 97, rfl, by decide, by kernel_rfl, rfl, fun _ _ h => h⟩) rfl cg11 hT j9 rfl (two_args (knows_in 12 103 (by decide) (by kernel_rfl) rfl rfl) (knows_in 13 104 (by decide) (by kernel_rfl) rfl rfl)),
     step_to rfl (.inr ⟨6, true, 97, rfl, by decide, by kernel_rfl, rfl, fun _ _ h => h⟩) rfl cg24 e8 rfl (two_args (knows_in 9 100 (by decide) (by kernel_rfl) rfl rfl) (knows_in 14 105 (by decide) (by kernel_rfl) rfl rfl)),
     step_pick rfl (.inl rfl) (b := true) rfl rfl (knows_in 6 97 (by decide) (by kernel_rfl) rfl rfl) (knows_in 15 106 (by decide) (by kernel_rfl) rfl rfl), trivial⟩ ?_
  intro val w12 hw hS hap hla
  have e91 : val 91 = (.agg (ints .i64 bb).toArray) := hS 0 91 (by decide) rfl
  obtain ⟨A92, c92, y92, e92, H92, N92⟩ := hS 1 92 (by decide) rfl
  have e93 : val 93 = (.agg (ints .u8 qb).toArray) := hS 2 93 (by decide) rfl
  have e94 : val 94 = (.agg (ints .i64 t6).toArray) := hS 3 94 (by decide) rfl
  have e95 : val 95 = (.agg (ints .i64 nouL).toArray) := hS 4 95 (by decide) rfl
  have e96 : val 96 = (.bool true) := hS 5 96 (by decide) rfl
  have e97 : val 97 = (.bool true) := hS 6 97 (by decide) rfl
  have e98 : val 98 = (.agg (ints .i64 pp).toArray) := hS 7 98 (by decide) rfl
  have e99 : val 99 = (.agg (ints .u8 threeL).toArray) := hS 8 99 (by decide) rfl
  have e100 : val 100 = (.agg (ints .i64 t7).toArray) := hS 9 100 (by decide) rfl
  have e101 : val 101 = (.agg (ints .i64 pp).toArray) := hS 10 101 (by decide) rfl
  have e102 : val 102 = (.agg (ints .i64 pp).toArray) := hS 11 102 (by decide) rfl
  have e103 : val 103 = (.agg (ints .i64 t8).toArray) := hS 12 103 (by decide) rfl
  have e104 : val 104 = (.agg (ints .i64 pp).toArray) := hS 13 104 (by decide) rfl
  have e105 : val 105 = (.agg (ints .i64 t9).toArray) := hS 14 105 (by decide) rfl
  have e106 : val 106 = (.bool true) := hS 15 106 (by decide) rfl
  have e107 : val 107 = (.bool true) := hS 16 107 (by decide) rfl
  simp only [putVals, List.foldl_cons, List.foldl_nil, List.drop_succ_cons, List.drop_zero, Act.put, List.setIfInBounds_toArray, List.set_cons_succ, List.set_cons_zero, e91, e92, e93, e94, e95, e96, e97, e98, e99, e100, e101, e102, e103, e104, e105, e106, e107]
  clear hS hap hla e91 e92 e93 e94 e95 e96 e97 e98 e99 e100 e101 e102 e103 e104 e105 e106 e107 N92 H92
  replace hT := hT.next hw
  replace h3 := h3.next hw
  replace h4 := h4.next hw
  replace h5 := h5.next hw
  replace hB7 := hB7.next hw
  replace hB8 := hB8.next hw
  replace hB10 := hB10.next hw
  replace hW := hW.trans (Below.mono hw hW.size)
  clear hw
  go_wp2_with (fail)
  go_ret
  exact ⟨rfl, hW⟩
end Go.Proofs.YtpaopdjbhmdfjaaDoor
