/- Steps of the laws' regions, and the chapter's example. -/
import Derived.Test.YtpaopdjbhmdfjaaDoorPMulM
namespace Go.Proofs.YtpaopdjbhmdfjaaDoor
open Go Go.RowKit

section
variable {ops : Array Oper} {md : Region.Mode} {W : World} {a0 : Act} {n : Nat} {al : Nat → Bool} {S : Nat → Value → World → Prop} {Q : Exit → Act → World → Prop} {i : Nat} {o : Oper}
theorem built_none : Tryd.prog.built 22 [] = some (ints .u8 (zeros 32)).toArray := by kernel_rfl
theorem step_oneB (hal : al i = false) (hg : GuardOn ops md n S i o) {c : Int} {m : List Int} (ho : o.op = .build 22 #[(0, .const (.int .u8 c))]) (hb : Tryd.prog.built 22 [(0, .int .u8 c)] = some (ints .u8 m).toArray) (hS : S i = Is (.agg (ints .u8 m).toArray)) : StepOk Tryd.prog ops md W a0 n al S Q i o :=
  step_run hal hg fun a w hw hf hd => ⟨.agg (ints .u8 m).toArray, by
    have hc : a.eval (.const (.int .u8 c)) = .int .u8 c := rfl
    revert hc
    generalize a.eval = ev
    intro hc
    have h := run_build (P := Tryd.prog) w 22 #[(0, .int .u8 c)] _ hb
    unfold execOp
    simp only [ho, Sem.run_bind]
    simp only [List.map_toArray, List.map_cons, List.map_nil, hc, h, Result.andThen_ok, Sem.run_pure], by rw [hS]; exact rfl⟩
theorem step_noneB (hal : al i = false) (hg : GuardOn ops md n S i o) (ho : o.op = .build 22 #[]) (hS : S i = Is (.agg (ints .u8 (zeros 32)).toArray)) : StepOk Tryd.prog ops md W a0 n al S Q i o :=
  step_run hal hg fun a w hw hf hd => ⟨.agg (ints .u8 (zeros 32)).toArray, by
    generalize a.eval = ev
    have h := run_build (P := Tryd.prog) w 22 #[] _ built_none
    unfold execOp
    simp only [ho, Sem.run_bind]
    simp only [List.map_toArray, List.map_nil, h, Result.andThen_ok, Sem.run_pure], by rw [hS]; exact rfl⟩
theorem step_eqE (hal : al i = false) (hg : GuardOn ops md n S i o) {x : Operand} {a c : Int} {b : Bool} (ho : o.op = .binOp .eql 29 x (.const (.int .i64 c)) 29) (hS : S i = Is (.bool b)) (hb : b = (a == c)) (hx : Knows ops md W a0 n S i x (.int .i64 a)) : StepOk Tryd.prog ops md W a0 n al S Q i o :=
  step_run hal hg fun a' w hw hf hd => ⟨.bool b, by
    have h := hx a' w hw hf hd
    have hc : a'.eval (.const (.int .i64 c)) = .int .i64 c := rfl
    rw [hb]
    revert h hc
    generalize a'.eval = ev
    intro h hc
    unfold execOp
    simp only [ho, h, hc]
    go_simp, by rw [hS]; exact rfl⟩
end
theorem back_alg {n : Nat} [NeZero n] {i x : Fin n} (hi : i * i = -1) : -(i * (i * x)) = x := by grind
theorem base_even : oddB bxN = false := by decide +kernel
theorem bx_val : bxF.val = bxN := Nat.mod_eq_of_lt bx_lt
theorem by_val : byF.val = byN := Nat.mod_eq_of_lt (by decide +kernel)
theorem base_bytes : bytesP baseP = BYL := by
  show pbytes byF.val (oddB (-(iF * (iF * bxF))).val) = BYL
  rw [back_alg i_sq, bx_val, by_val, base_even]
  show rbytes byN = BYL
  rw [← byl_bn, rbytes_bn byl_len byl_byt]

set_option maxRecDepth 4000 in
set_option maxHeartbeats 16000000 in
theorem awake_any : CallsT 6 #[] (.bool true) := by
  obtain ⟨bb, kb, hbb⟩ := pr_base
  have ky := hbb.bytes
  rw [base_bytes] at ky
  intro w0 hT
  have hW := Below.refl w0.heap.size w0
  go_enter Tryd.func6, Tryd.ntmps6
  go_upto_region 1 with (fail)
  have s0 := hW.size
  refine region_seq2 3 17 (fun i => i == 2) [Is (.agg (ints .i64 bb).toArray), Is (.agg (ints .u8 BYL).toArray), IsZ22 w0.heap.size] [2, 3, 1] (by kernel_rfl) (by kernel_rfl) (Nat.le_of_eq rfl) (grows_cons (Is.grows _) (grows_cons (Is.grows _) (grows_cons (IsZ22.grows _) grows_nil)))
    ⟨step_toT rfl (.inl rfl) rfl cg25 hT kb rfl (no_args),
     step_to rfl (.inl rfl) rfl cg10 ky rfl (one_arg (knows_in 0 2 (by decide) (by kernel_rfl) rfl rfl)),
     step_alloc22 (.inl rfl) rfl rfl, trivial⟩ ?_
  intro val w1 hw hS hap hla
  have e2 : val 2 = (.agg (ints .i64 bb).toArray) := hS 0 2 (by decide) rfl
  have e3 : val 3 = (.agg (ints .u8 BYL).toArray) := hS 1 3 (by decide) rfl
  obtain ⟨b1, e1, L1, Z1⟩ := hS 2 1 (by decide) rfl
  simp only [putVals, List.foldl_cons, List.foldl_nil, List.drop_succ_cons, List.drop_zero, Act.put, List.setIfInBounds_toArray, List.set_cons_succ, List.set_cons_zero, e2, e3, e1]
  clear hS hap hla e2 e3 e1 
  have LL1 := hid byl_len
  have R1 := Z1.room (l' := BYL) byl_len
  have hB1 := Z1.stored (l' := BYL) byl_len
  replace hT := hT.next (Below.setCells hw L1 0 (ints .u8 BYL).toArray.toList)
  replace hW := hW.trans (Below.mono (Below.setCells hw L1 0 (ints .u8 BYL).toArray.toList) hW.size)
  with_reducible refine wpList_store_mid (op := ⟨none, .store 22 (.tmp 1) (.tmp 3), _, _, _, _⟩) rfl 22 (.tmp 1) (.tmp 3) rfl b1 0 (ints .u8 BYL).toArray rfl rfl R1 (a22 LL1.out) (ints_all _ _) ?_
  generalize (w1.setCells b1 0 (ints .u8 BYL).toArray.toList) = w2 at *
  clear hw R1 LL1 Z1 
  have c0 := (hB1.1 0 88 rfl).1
  have c1 := (hB1.1 1 102 rfl).1
  have c31 := (hB1.1 31 102 rfl).1
  rw [Nat.zero_add] at c0 c1 c31
  clear hB1
  go_wp2_with (fail)
  go_ret
  exact ⟨rfl, hW⟩
end Go.Proofs.YtpaopdjbhmdfjaaDoor
