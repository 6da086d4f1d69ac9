/- Texts of this proof, laid together: VLawS, VFive, VAwake. -/
import Derived.Test.YtihipgojeikdkaaDoorVStepM
import Derived.Test.YtihipgojeikdkaaDoorVRTagM
import Derived.Test.YtihipgojeikdkaaDoorG6
import Derived.Test.YtihipgojeikdkaaDoorG1
/- What the laws' regions call. -/
namespace Go.Proofs.YtihipgojeikdkaaDoor
open Go Go.RowKit

theorem cx6 (vs : Array Value) (w : World) : (callFunc 6 vs).run Tryd.prog w = .ok (.enter 6 vs) w := by go_simp
theorem cx7 (vs : Array Value) (w : World) : (callFunc 7 vs).run Tryd.prog w = .ok (.enter 7 vs) w := by go_simp
theorem cx8 (vs : Array Value) (w : World) : (callFunc 8 vs).run Tryd.prog w = .ok (.enter 8 vs) w := by go_simp
theorem cx12 (vs : Array Value) (w : World) : (callFunc 12 vs).run Tryd.prog w = .ok (.enter 12 vs) w := by go_simp
theorem cx11 (vs : Array Value) (w : World) : (callFunc 11 vs).run Tryd.prog w = .ok (.enter 11 vs) w := by go_simp
theorem cx13 (vs : Array Value) (w : World) : (callFunc 13 vs).run Tryd.prog w = .ok (.enter 13 vs) w := by go_simp
section
variable {ops : Array Oper} {md : Region.Mode} {W : World} {a0 : Act} {n : Nat} {al : Nat → Bool} {S : Nat → Value → World → Prop} {Q : Exit → Act → World → Prop} {i : Nat} {o : Oper}
theorem step_ex (v : Value) (hal : al i = false) (hg : GuardOn ops md n S i o) (hS : S i = Is v) (h : ∀ (a : Act) (w : World), Cl W w → Fr ops n a0 a → Dp ops md n S i a w → (execOp a.eval o).run Tryd.prog w = .ok (.value v) w) : StepOk Tryd.prog ops md W a0 n al S Q i o :=
  step_run hal hg fun a w hw hf hd => ⟨v, h a w hw hf hd, by rw [hS]; exact rfl⟩
/-- The tag of parts. -/
theorem step_tagV (hal : al i = false) (hg : GuardOn ops md n S i o) {x y : Operand} {ts : Array TypeId} {A : Option Addr} {l c q : Nat} {key r T : List Int} (ho : o.op = .call { callee := .value (.func 8), args := #[x, y], argTypes := ts }) (hT : TabsH W) (hK : key.length = l) (h1 : l ≤ 1000) (hlc : l ≤ c) (hkb : HByt key) (hA : Nums W .u8 A key) (hq2 : q ≤ 500) (hl : T.length ≤ 90000) (hr : tagV key T = r) (hS : S i = Is (.agg (ints .u8 r).toArray))
    (hx : Knows ops md W a0 n S i x (.slice A l c)) (hy : KnowsW ops md W a0 n S i y (IsPs q T)) : StepOk Tryd.prog ops md W a0 n al S Q i o :=
  step_call hal hg fun a w hw hf hd => by
    obtain ⟨PA, pc, ps, e1, e2, e3, e4, e5⟩ := hy a w hw hf hd
    refine ⟨8, #[.slice A l c, .slice PA q pc], ex_fn rfl cx8 ho _ (by rw [map2, hx a w hw hf hd, e1]) w, (vtag_any key T r A PA l c q pc ps w (hT.next hw) (hid hK) h1 hlc hkb (hA.below hw) e3 e4 (hid e2) hq2 (hid e5) (hid hl) (hid hr)).mono fun e w' ⟨he, hbl⟩ => ⟨_, he, by rw [hS]; exact rfl, hbl⟩⟩
end
/-- Two arrays compared, where nothing else is left. -/
theorem wpList_neA {w : World} {ops : Array Oper} {rest : List Oper} {o : Oper} {a : Act} {Q : Exit → Act → World → Prop} (hgd : o.guard = none) {T e m : Nat} {k : IntKind} {x y : Operand} {xs ys : List Int} {b : Bool} (ho : o.op = .binOp .neq T x y T)
    (hT : Tryd.prog.underlying T = some (.array m e) ∧ Tryd.prog.underlying e = some (.int k) ∧ (Tryd.prog.info? e).map (·.size) = some 1 ∧ Tryd.prog.eqGuardType Tryd.prog.depth T = false) (hx : xs.length = m) (hy : ys.length = m) (hb : decide (xs = ys) = b)
    (h1 : a.eval x = .agg (ints k xs).toArray) (h2 : a.eval y = .agg (ints k ys).toArray) (h : wpList Tryd.prog ops Q rest (a.put o.dst (.bool (!b))) w) : wpList Tryd.prog ops Q (o :: rest) a w := by
  have hrun : (execOp a.eval o).run Tryd.prog w = .ok (.value (.bool (!b))) w := by
    have he := arr_eq_run (P := Tryd.prog) T e m k xs ys hT.1 hT.2.1 hT.2.2.1 hx hy 9998 w
    have heg := hT.2.2.2
    rw [hb] at he
    clear h
    generalize a.eval = ev at h1 h2 ⊢
    unfold execOp
    simp only [ho, h1, h2]
    go_simp
  refine wpList_plain hgd fun _ hK => ?_
  unfold Oper.wp
  rw [hrun]
  exact hK _ _ h
section
variable {ops : Array Oper} {md : Region.Mode} {W : World} {a0 : Act} {n : Nat} {al : Nat → Bool} {S : Nat → Value → World → Prop} {Q : Exit → Act → World → Prop} {i : Nat} {o : Oper}
/-- A slice's beginning, and its rest. -/
theorem step_pre (hal : al i = false) (hg : GuardOn ops md n S i o) {x y : Operand} {A : Option Addr} {m c h : Nat} (ho : o.op = .slice 22 x none (some y) none) (hh : h ≤ c) (hS : S i = Is (.slice A h c)) (hx : Knows ops md W a0 n S i x (.slice A m c)) (hy : Knows ops md W a0 n S i y (.int .i64 (h : Int))) : StepOk Tryd.prog ops md W a0 n al S Q i o :=
  step_two hal hg (fun ev w h1 h2 _ => by
    unfold execOp
    simp only [ho, h1, Option.map_none, Option.map_some, h2, Sem.run_bind, run_sliceAt_slice w 22 _ _ _ _ uaVs, run_slice_h w 22 A m c uaVs .i64 (h : Int) (by omega) (by omega), zeVs, Result.andThen_ok, Sem.run_pure]
    cases A with
    | none => simp [sliced]
    | some a =>
      have : a.add 0 = a := by unfold Addr.add; simp
      simp [sliced, this]) hS hx hy
theorem step_suf (hal : al i = false) (hg : GuardOn ops md n S i o) {x y : Operand} {A A' : Option Addr} {m c h k d : Nat} (ho : o.op = .slice 22 x (some y) none none) (hrun : ∀ w : World, (Instr.slice 22 (.slice A m c) (some (.int .i64 (h : Int))) none none).run Tryd.prog w = .ok (.slice A' k d) w) (hS : S i = Is (.slice A' k d)) (hx : Knows ops md W a0 n S i x (.slice A m c)) (hy : Knows ops md W a0 n S i y (.int .i64 (h : Int))) : StepOk Tryd.prog ops md W a0 n al S Q i o :=
  step_two hal hg (fun ev w h1 h2 _ => by
    unfold execOp
    simp only [ho, h1, Option.map_none, Option.map_some, h2, Sem.run_bind, run_sliceAt_slice w 22 _ _ _ _ uaVs, hrun, Result.andThen_ok, Sem.run_pure]) hS hx hy
end
/-- The rest of a slice, wherever it is cut. -/
theorem rest_any {w : World} {A : Option Addr} {b : List Int} {c h L : Nat} (hA : Nums w .u8 A b) (hl : b.length = L) (hc : L ≤ c) (hh : h ≤ L) : ∃ A', (∀ W : World, (Instr.slice 22 (.slice A L c) (some (.int .i64 (h : Int))) none none).run Tryd.prog W = .ok (.slice A' (L - h) (c - h)) W) ∧ Nums w .u8 A' (b.drop h) := by
  subst hl
  rcases Nat.eq_zero_or_pos b.length with h0 | hp
  · have e : h = 0 := by omega
    subst e
    have e2 := List.eq_nil_of_length_eq_zero h0
    subst e2
    refine ⟨A, fun W => ?_, Nums.nil⟩
    have h1 := run_slice_l (P := Tryd.prog) W 22 A 0 c uaVs .i64 (0 : Int) (by omega) (by omega)
    show (Instr.slice 22 (.slice A 0 c) (some (.int .i64 (0 : Int))) none none).run Tryd.prog W = _
    rw [h1, zeVs]
    cases A with
    | none => simp [Result.andThen, sliced]
    | some a =>
      have : a.add 0 = a := by unfold Addr.add; simp
      by_cases hc0 : c = 0
      · simp [Result.andThen, sliced, hc0]
      · simp [Result.andThen, sliced, this]
  · obtain ⟨A', h1, h2, _⟩ := nums_from hA 22 5 Tryd.underlying22 (by kernel_rfl) c h hh hp hc
    exact ⟨A', h1, h2⟩

end Go.Proofs.YtihipgojeikdkaaDoor

/- The example's keys, reckoned. -/
namespace Go.Proofs.YtihipgojeikdkaaDoor
open Go Go.RowKit

def s5 : List Int := 5 :: hzeros 31
theorem s5_len : s5.length = 32 := rfl
theorem s5_byt : HByt s5 := fun x hx => by
  rcases List.mem_cons.1 hx with e | e
  · omega
  · exact hz_byt 31 x e
theorem next5 : nextV s5 ≠ s5 := by decide +kernel
theorem item5 : itemV s5 ≠ hzeros 32 := by decide +kernel
end Go.Proofs.YtihipgojeikdkaaDoor

/- The example that each law begins with. -/
namespace Go.Proofs.YtihipgojeikdkaaDoor
open Go Go.RowKit

theorem built5 : Tryd.prog.built 30 [(0, .int .u8 5)] = some (ints .u8 s5).toArray := by kernel_rfl
set_option maxRecDepth 50000 in
set_option maxHeartbeats 4000000 in
theorem awake_core (nx it : List Int) (w : World) (hT : TabsH w) (HNL : Hid (nx.length = 32)) (HIL : Hid (it.length = 32)) (HN5 : Hid (nx ≠ s5)) (HI5 : Hid (it ≠ hzeros 32))
    (HN : Hid (∀ w : World, TabsH w → Calls Tryd.prog 12 #[.agg (ints .u8 s5).toArray] w fun e w' => e = .returned (.agg (ints .u8 nx).toArray) ∧ Below w.heap.size w w')) (HI : Hid (∀ w : World, TabsH w → Calls Tryd.prog 11 #[.agg (ints .u8 s5).toArray] w fun e w' => e = .returned (.agg (ints .u8 it).toArray) ∧ Below w.heap.size w w')) :
    Calls Tryd.prog 6 #[] w fun e w' => e = .returned (.bool true) ∧ Below w.heap.size w w' := by
  obtain ⟨z32, s32⟩ := zero_of_info infS32
  go_enter Tryd.func6, Tryd.ntmps6
  go_wp2_with (first
    | (with_reducible refine wpList_build_eq (o := ⟨some 4, .build 30 #[(0, .const (.int .u8 5))], _, _, _, _⟩) rfl 30 #[(0, .const (.int .u8 5))] rfl (ints .u8 s5).toArray ?hb ?_; (case hb => exact built5))
    | (go_at_call 14; refine (back_any s5 0 _ hT s5_len s5_byt (by omega)).mono ?_; rintro e w1 ⟨rfl, hb1⟩
       rw [show backV s5 0 = s5 from rfl]
       have R1 := (Rw.new w1 (ints .u8 (hzeros 32)) 30).roomA (us := ints .u8 s5) ((il s5_len).trans (il (hz_len 32)).symm)
       have h1 := (Rw.new w1 (ints .u8 (hzeros 32)) 30).storedA (us := ints .u8 s5) ((il s5_len).trans (il (hz_len 32)).symm)
       have hW := hb1.trans (Below.mono (Below.setCells (below_new w1 (.cells (ints .u8 (hzeros 32)).toArray 30)) (Nat.le_refl _) 0 (ints .u8 s5).toArray.toList) hb1.size)
       replace hT := hT.next hW
       clear hb1)
    | (with_reducible refine wpList_store_mid (op := ⟨none, .store 30 (.tmp 1) (.tmp 6), _, _, _, _⟩) rfl 30 (.tmp 1) (.tmp 6) rfl w1.heap.size 0 (ints .u8 s5).toArray rfl rfl R1 (szA infS32 (il s5_len)) (ints_all _ _) ?_
       generalize (w1.alloc (.cells (ints .u8 (hzeros 32)).toArray 30)).setCells w1.heap.size 0 (ints .u8 s5).toArray.toList = w3 at *
       generalize w1.heap.size = b1 at *
       clear R1))
  have s3 := hW.size
  refine region_spec2 19 27 (fun _ => false) [Is (.int .i64 0), Is (.bool true), Is (.bool true), Is (.agg (ints .u8 s5).toArray), Is (.agg (ints .u8 s5).toArray), Is (.bool true), Is (.bool true), Is (.bool true), Is (.agg (ints .u8 s5).toArray), Is (.agg (ints .u8 nx).toArray), Is (.agg (ints .u8 s5).toArray), Is (.bool true), Is (.bool true), Is (.bool true), Is (.agg (ints .u8 s5).toArray), Is (.agg (ints .u8 it).toArray), Is (.agg (ints .u8 (hzeros 32)).toArray), Is (.bool true), Is (.bool true)] [8, 9, 10, 11, 12, 13, 14, 15, 16, 17, 18, 19, 20, 21, 22, 23, 24, 25, 26] (by kernel_rfl) (by kernel_rfl) (by kernel_rfl) (Nat.le_of_eq rfl) (grows_cons (Is.grows _) (grows_cons (Is.grows _) (grows_cons (Is.grows _) (grows_cons (Is.grows _) (grows_cons (Is.grows _) (grows_cons (Is.grows _) (grows_cons (Is.grows _) (grows_cons (Is.grows _) (grows_cons (Is.grows _) (grows_cons (Is.grows _) (grows_cons (Is.grows _) (grows_cons (Is.grows _) (grows_cons (Is.grows _) (grows_cons (Is.grows _) (grows_cons (Is.grows _) (grows_cons (Is.grows _) (grows_cons (Is.grows _) (grows_cons (Is.grows _) (grows_cons (Is.grows _) grows_nil)))))))))))))))))))
    ⟨step_mvP rfl (.inl rfl) rfl rfl (knows_out 2 (by kernel_rfl) rfl),
     step_eqC rfl (.inl rfl) rfl Tryd.underlying31 rfl (by decide) (knows_in 0 8 (by decide) (by kernel_rfl) rfl rfl),
     step_mvP rfl (.inl rfl) rfl rfl (knows_in 1 9 (by decide) (by kernel_rfl) rfl rfl),
     step_ldV rfl (.inr ⟨2, true, 10, rfl, by decide, by kernel_rfl, rfl, fun _ _ h => h⟩) (fun _ hw => (h1.next hw).range) rfl Tryd.underlying30 rfl (szV infS32 (il s5_len)) rfl (knows_out 1 (by kernel_rfl) rfl),
     step_buildP rfl (.inr ⟨2, true, 10, rfl, by decide, by kernel_rfl, rfl, fun _ _ h => h⟩) rfl built5 rfl (parts1 (knows_const _)),
     step_eqA rfl (.inr ⟨2, true, 10, rfl, by decide, by kernel_rfl, rfl, fun _ _ h => h⟩) rfl eqV32 s5_len s5_len (decide_eq_true rfl) rfl (knows_in 3 11 (by decide) (by kernel_rfl) rfl rfl) (knows_in 4 12 (by decide) (by kernel_rfl) rfl rfl),
     step_pick rfl (.inl rfl) (b := true) rfl rfl (knows_in 2 10 (by decide) (by kernel_rfl) rfl rfl) (knows_in 5 13 (by decide) (by kernel_rfl) rfl rfl),
     step_mvP rfl (.inl rfl) rfl rfl (knows_in 6 14 (by decide) (by kernel_rfl) rfl rfl),
     step_ldV rfl (.inr ⟨7, true, 15, rfl, by decide, by kernel_rfl, rfl, fun _ _ h => h⟩) (fun _ hw => (h1.next hw).range) rfl Tryd.underlying30 rfl (szV infS32 (il s5_len)) rfl (knows_out 1 (by kernel_rfl) rfl),
     step_cw rfl (.inr ⟨7, true, 15, rfl, by decide, by kernel_rfl, rfl, fun _ _ h => h⟩) rfl cx12 rfl (fun aa ww hw hf hd => ⟨_, (one_arg (knows_in 8 16 (by decide) (by kernel_rfl) rfl rfl)) aa ww hw hf hd, HN.out ww (hT.next hw)⟩),
     step_ldV rfl (.inr ⟨7, true, 15, rfl, by decide, by kernel_rfl, rfl, fun _ _ h => h⟩) (fun _ hw => (h1.next hw).range) rfl Tryd.underlying30 rfl (szV infS32 (il s5_len)) rfl (knows_out 1 (by kernel_rfl) rfl),
     step_neA rfl (.inr ⟨7, true, 15, rfl, by decide, by kernel_rfl, rfl, fun _ _ h => h⟩) rfl eqV32 HNL.out s5_len (decide_eq_false HN5.out) rfl (knows_in 9 17 (by decide) (by kernel_rfl) rfl rfl) (knows_in 10 18 (by decide) (by kernel_rfl) rfl rfl),
     step_pick rfl (.inl rfl) (b := true) rfl rfl (knows_in 7 15 (by decide) (by kernel_rfl) rfl rfl) (knows_in 11 19 (by decide) (by kernel_rfl) rfl rfl),
     step_mvP rfl (.inl rfl) rfl rfl (knows_in 12 20 (by decide) (by kernel_rfl) rfl rfl),
     step_ldV rfl (.inr ⟨13, true, 21, rfl, by decide, by kernel_rfl, rfl, fun _ _ h => h⟩) (fun _ hw => (h1.next hw).range) rfl Tryd.underlying30 rfl (szV infS32 (il s5_len)) rfl (knows_out 1 (by kernel_rfl) rfl),
     step_cw rfl (.inr ⟨13, true, 21, rfl, by decide, by kernel_rfl, rfl, fun _ _ h => h⟩) rfl cx11 rfl (fun aa ww hw hf hd => ⟨_, (one_arg (knows_in 14 22 (by decide) (by kernel_rfl) rfl rfl)) aa ww hw hf hd, HI.out ww (hT.next hw)⟩),
     step_buildP rfl (.inr ⟨13, true, 21, rfl, by decide, by kernel_rfl, rfl, fun _ _ h => h⟩) rfl builtV32 rfl (partsN),
     step_neA rfl (.inr ⟨13, true, 21, rfl, by decide, by kernel_rfl, rfl, fun _ _ h => h⟩) rfl eqV32 HIL.out (hz_len 32) (decide_eq_false HI5.out) rfl (knows_in 15 23 (by decide) (by kernel_rfl) rfl rfl) (knows_in 16 24 (by decide) (by kernel_rfl) rfl rfl),
     step_pick rfl (.inl rfl) (b := true) rfl rfl (knows_in 13 21 (by decide) (by kernel_rfl) rfl rfl) (knows_in 17 25 (by decide) (by kernel_rfl) rfl rfl), trivial⟩ ?_
  intro val w4 hw hS hap hla
  have e8 : val 8 = (.int .i64 0) := hS 0 8 (by decide) rfl
  have e9 : val 9 = (.bool true) := hS 1 9 (by decide) rfl
  have e10 : val 10 = (.bool true) := hS 2 10 (by decide) rfl
  have e11 : val 11 = (.agg (ints .u8 s5).toArray) := hS 3 11 (by decide) rfl
  have e12 : val 12 = (.agg (ints .u8 s5).toArray) := hS 4 12 (by decide) rfl
  have e13 : val 13 = (.bool true) := hS 5 13 (by decide) rfl
  have e14 : val 14 = (.bool true) := hS 6 14 (by decide) rfl
  have e15 : val 15 = (.bool true) := hS 7 15 (by decide) rfl
  have e16 : val 16 = (.agg (ints .u8 s5).toArray) := hS 8 16 (by decide) rfl
  have e17 : val 17 = (.agg (ints .u8 nx).toArray) := hS 9 17 (by decide) rfl
  have e18 : val 18 = (.agg (ints .u8 s5).toArray) := hS 10 18 (by decide) rfl
  have e19 : val 19 = (.bool true) := hS 11 19 (by decide) rfl
  have e20 : val 20 = (.bool true) := hS 12 20 (by decide) rfl
  have e21 : val 21 = (.bool true) := hS 13 21 (by decide) rfl
  have e22 : val 22 = (.agg (ints .u8 s5).toArray) := hS 14 22 (by decide) rfl
  have e23 : val 23 = (.agg (ints .u8 it).toArray) := hS 15 23 (by decide) rfl
  have e24 : val 24 = (.agg (ints .u8 (hzeros 32)).toArray) := hS 16 24 (by decide) rfl
  have e25 : val 25 = (.bool true) := hS 17 25 (by decide) rfl
  have e26 : val 26 = (.bool true) := hS 18 26 (by decide) rfl
  simp only [putVals, List.foldl_cons, List.foldl_nil, List.drop_succ_cons, List.drop_zero, Act.put, List.setIfInBounds_toArray, List.set_cons_succ, List.set_cons_zero, e8, e9, e10, e11, e12, e13, e14, e15, e16, e17, e18, e19, e20, e21, e22, e23, e24, e25, e26]
  clear hS hap hla e8 e9 e10 e11 e12 e13 e14 e15 e16 e17 e18 e19 e20 e21 e22 e23 e24 e25 e26 
  replace hW := hW.trans (Below.mono hw hW.size)
  clear hw
  go_wp2
  go_ret
  exact ⟨rfl, hW⟩
theorem awake_any (w : World) (hT : TabsH w) : Calls Tryd.prog 6 #[] w fun e w' => e = .returned (.bool true) ∧ Below w.heap.size w w' :=
  awake_core (nextV s5) (itemV s5) w hT (hid (nextV_len _)) (hid (itemV_len _)) (hid next5) (hid item5) (hid fun w hT => next_any s5 w hT s5_len s5_byt) (hid fun w hT => item_any s5 w hT s5_len s5_byt)
end Go.Proofs.YtihipgojeikdkaaDoor
