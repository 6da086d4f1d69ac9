/- Steps of the laws' regions, and the chapter's example. -/
import Derived.Test.YtcoegehnipldpaaDoorG7
import Derived.Test.YtcoegehnipldpaaDoorSRefPM
namespace Go.Proofs.YtcoegehnipldpaaDoor
open Go Go.RowKit

section
variable {ops : Array Oper} {md : Region.Mode} {W : World} {a0 : Act} {n : Nat} {al : Nat → Bool} {S : Nat → Value → World → Prop} {Q : Exit → Act → World → Prop} {i : Nat} {o : Oper}
theorem step_oneB (hal : al i = false) (hg : GuardOn ops md n S i o) {c : Int} {m : List Int} (ho : o.op = .build 23 #[(0, .const (.int .u8 c))]) (hb : Tryd.prog.built 23 [(0, .int .u8 c)] = some (ints .u8 m).toArray) (hS : S i = Is (.agg (ints .u8 m).toArray)) : StepOk Tryd.prog ops md W a0 n al S Q i o :=
  step_run hal hg fun a w hw hf hd => ⟨.agg (ints .u8 m).toArray, by
    have hc : a.eval (.const (.int .u8 c)) = .int .u8 c := rfl
    revert hc
    generalize a.eval = ev
    intro hc
    have h := run_build (P := Tryd.prog) w 23 #[(0, .int .u8 c)] _ hb
    unfold execOp
    simp only [ho, Sem.run_bind]
    simp only [List.map_toArray, List.map_cons, List.map_nil, hc, h, Result.andThen_ok, Sem.run_pure], by rw [hS]; exact rfl⟩
theorem step_noneB (hal : al i = false) (hg : GuardOn ops md n S i o) (ho : o.op = .build 23 #[]) (hS : S i = Is (.agg (ints .u8 (zeros 32)).toArray)) : StepOk Tryd.prog ops md W a0 n al S Q i o :=
  step_run hal hg fun a w hw hf hd => ⟨.agg (ints .u8 (zeros 32)).toArray, by
    generalize a.eval = ev
    have h := run_build (P := Tryd.prog) w 23 #[] _ built_none
    unfold execOp
    simp only [ho, Sem.run_bind]
    simp only [List.map_toArray, List.map_nil, h, Result.andThen_ok, Sem.run_pure], by rw [hS]; exact rfl⟩
theorem step_eqE (hal : al i = false) (hg : GuardOn ops md n S i o) {x : Operand} {a c : Int} {b : Bool} (ho : o.op = .binOp .eql 25 x (.const (.int .i64 c)) 25) (hS : S i = Is (.bool b)) (hb : b = (a == c)) (hx : Knows ops md W a0 n S i x (.int .i64 a)) : StepOk Tryd.prog ops md W a0 n al S Q i o :=
  step_run hal hg fun a' w hw hf hd => ⟨.bool b, by
    have h := hx a' w hw hf hd
    have hc : a'.eval (.const (.int .i64 c)) = .int .i64 c := rfl
    rw [hb]
    revert h hc
    generalize a'.eval = ev
    intro h hc
    unfold execOp
    simp only [ho, h, hc]
    go_simp, by rw [hS]; exact rfl⟩
theorem step_eqbn (hal : al i = false) (hg : GuardOn ops md n S i o) {x y : Operand} {b c : Bool} (hbc : (b == c) = false) (ho : o.op = .binOp .eql 4 x y 4) (hS : S i = Is (.bool false)) (hx : Knows ops md W a0 n S i x (.bool b)) (hy : Knows ops md W a0 n S i y (.bool c)) : StepOk Tryd.prog ops md W a0 n al S Q i o :=
  step_run hal hg fun a w hw hf hd => ⟨.bool false, by
    have h1 := hx a w hw hf hd
    have h2 := hy a w hw hf hd
    revert h1 h2
    generalize a.eval = ev
    intro h1 h2
    unfold execOp
    simp only [ho, h1, h2]
    cases b <;> cases c <;> first | (cases hbc; done) | go_simp, by rw [hS]; exact rfl⟩
theorem no_args : ∀ (a : Act) (w : World), Cl W w → Fr ops n a0 a → Dp ops md n S i a w → (#[] : Array Operand).map a.eval = #[] := fun _ _ _ _ _ => by simp
theorem three_args {x y z : Operand} {u v t : Value} (hx : Knows ops md W a0 n S i x u) (hy : Knows ops md W a0 n S i y v) (hz : Knows ops md W a0 n S i z t) : ∀ (a : Act) (w : World), Cl W w → Fr ops n a0 a → Dp ops md n S i a w → #[x, y, z].map a.eval = #[u, v, t] := fun a w hw hf hd => by
  have e : #[x, y, z].map a.eval = #[a.eval x, a.eval y, a.eval z] := by simp
  rw [e, hx a w hw hf hd, hy a w hw hf hd, hz a w hw hf hd]
/-- Whether one row of digits is at least another. -/
theorem step_ral (hal : al i = false) (hg : GuardOn ops md n S i o) {x y : Operand} {ts : Array TypeId} {m k : Nat} (ho : o.op = .call { callee := .value (.func 12), args := #[x, y], argTypes := ts }) (hcf : ∀ vs w, (callFunc 12 vs).run Tryd.prog w = .ok (.enter 12 vs) w) (hS : S i = Is (.bool (decide (k ≤ m)))) (hx : KnowsR ops md W a0 n S i x m) (hy : KnowsR ops md W a0 n S i y k) : StepOk Tryd.prog ops md W a0 n al S Q i o :=
  step_call hal hg fun a w hw hf hd => by
    obtain ⟨A, c, ys, h1, h2, h3⟩ := hx a w hw hf hd
    obtain ⟨B, d, zs, k1, k2, k3⟩ := hy a w hw hf hd
    refine ⟨12, #[.slice A 16 c, .slice B 16 d], ex_fn rfl hcf ho _ (by rw [map2, h1, k1]) w, (ral_out h2 k2 h3 k3).mono fun _ _ ⟨he, hb⟩ => ⟨_, he, by rw [hS]; exact rfl, hb⟩⟩
end
theorem q_out (w : World) : Calls Tryd.prog 10 #[] w (ROut QN w) :=
  (q_walk w).mono fun e w' ⟨g, c, he, hO, hB⟩ => ⟨some ⟨g, 0, none⟩, c, dgN QN 16, he, dgN_rp 16 QN qn_lt, hO.fresh, hB⟩
theorem cfT9 (vs : Array Value) (w : World) : (callFunc 9 vs).run Tryd.prog w = .ok (.enter 9 vs) w := by go_simp
theorem cfT10 (vs : Array Value) (w : World) : (callFunc 10 vs).run Tryd.prog w = .ok (.enter 10 vs) w := by go_simp
theorem cfT12 (vs : Array Value) (w : World) : (callFunc 12 vs).run Tryd.prog w = .ok (.enter 12 vs) w := by go_simp
theorem cfT13 (vs : Array Value) (w : World) : (callFunc 13 vs).run Tryd.prog w = .ok (.enter 13 vs) w := by go_simp
theorem cfT14 (vs : Array Value) (w : World) : (callFunc 14 vs).run Tryd.prog w = .ok (.enter 14 vs) w := by go_simp
theorem cfT17 (vs : Array Value) (w : World) : (callFunc 17 vs).run Tryd.prog w = .ok (.enter 17 vs) w := by go_simp
theorem cfT19 (vs : Array Value) (w : World) : (callFunc 19 vs).run Tryd.prog w = .ok (.enter 19 vs) w := by go_simp
def twoL : List Int := 2 :: zeros 31
def threeL : List Int := 3 :: zeros 31
def sixL : List Int := 6 :: zeros 31
theorem built_two : Tryd.prog.built 23 [(0, .int .u8 2)] = some (ints .u8 twoL).toArray := by kernel_rfl
theorem built_three : Tryd.prog.built 23 [(0, .int .u8 3)] = some (ints .u8 threeL).toArray := by kernel_rfl
theorem built_six : Tryd.prog.built 23 [(0, .int .u8 6)] = some (ints .u8 sixL).toArray := by kernel_rfl
theorem six_len : sixL.length = 32 := by simp [sixL, zeros]
theorem six_is : rbytes (bn twoL * bn threeL % QN) = sixL := by decide +kernel
theorem k_six : CallsT 18 #[.agg (ints .u8 twoL).toArray, .agg (ints .u8 threeL).toArray] (.agg (ints .u8 sixL).toArray) := by
  have h := c_mul (a := twoL) (b := threeL) (by simp [twoL, zeros]) (by simp [threeL, zeros]) (small_byt (by omega)) (small_byt (by omega))
  rw [six_is] at h
  exact h
set_option maxRecDepth 4000 in
set_option maxHeartbeats 4000000 in
theorem awake_any (W : World) (hT : Tabs W) : Calls Tryd.prog 6 #[] W fun e w' => e = .returned (.bool true) ∧ Below W.heap.size W w' := by
  have hW := Below.refl W.heap.size W
  go_enter Tryd.func6, Tryd.ntmps6
  go_upto_region 1 with (fail)
  generalize hw0 : W = w0 at hW hT ⊢
  subst hw0
  have s0 := hW.size
  refine region_seq2 5 6 (fun _ => false) [Is (.agg (ints .u8 twoL).toArray), Is (.agg (ints .u8 threeL).toArray), Is (.agg (ints .u8 sixL).toArray), Is (.agg (ints .u8 sixL).toArray), Is (.bool true)] [1, 2, 3, 4, 5] (by kernel_rfl) (by kernel_rfl) (Nat.le_of_eq rfl) (grows_cons (Is.grows _) (grows_cons (Is.grows _) (grows_cons (Is.grows _) (grows_cons (Is.grows _) (grows_cons (Is.grows _) grows_nil)))))
    ⟨step_oneB rfl (.inl rfl) rfl built_two rfl,
     step_oneB rfl (.inl rfl) rfl built_three rfl,
     step_toT rfl (.inl rfl) rfl cfT18 hT k_six rfl (two_args (knows_in 0 1 (by decide) (by kernel_rfl) rfl rfl) (knows_in 1 2 (by decide) (by kernel_rfl) rfl rfl)),
     step_oneB rfl (.inl rfl) rfl built_six rfl,
     step_eqs rfl (.inl rfl) rfl six_len rfl (knows_in 2 3 (by decide) (by kernel_rfl) rfl rfl) (knows_in 3 4 (by decide) (by kernel_rfl) rfl rfl), trivial⟩ ?_
  intro val w1 hw hS hap hla
  have e1 : val 1 = (.agg (ints .u8 twoL).toArray) := hS 0 1 (by decide) rfl
  have e2 : val 2 = (.agg (ints .u8 threeL).toArray) := hS 1 2 (by decide) rfl
  have e3 : val 3 = (.agg (ints .u8 sixL).toArray) := hS 2 3 (by decide) rfl
  have e4 : val 4 = (.agg (ints .u8 sixL).toArray) := hS 3 4 (by decide) rfl
  have e5 : val 5 = (.bool true) := hS 4 5 (by decide) rfl
  simp only [putVals, List.foldl_cons, List.foldl_nil, List.drop_succ_cons, List.drop_zero, Act.put, List.setIfInBounds_toArray, List.set_cons_succ, List.set_cons_zero, e1, e2, e3, e4, e5]
  clear hS hap hla e1 e2 e3 e4 e5
  replace hW := hW.trans (Below.mono hw hW.size)
  clear hw
  go_wp2_with (fail)
  go_ret
  exact ⟨rfl, hW⟩
end Go.Proofs.YtcoegehnipldpaaDoor
