/- How many terms are in a term: what the code reckons. -/
import Derived.Test.YtpncohoonfahpaaGreatDoorG17
import Derived.Deep.Cut
namespace Go.Proofs.YtpncohoonfahpaaGreatDoor
open Go Go.RowKit

/-- At most 2^20. -/
def cap20 (n : Int) : Int := if (1048576 : Int) < n then 1048576 else n
/-- The size of a term, where the sizes of those before it are known. -/
def szOf (zs : List Int) (t : T3) : Int :=
  if t.1 = 4 ∨ t.1 = 5 ∨ t.1 = 8 then cap20 (1 + zs.getD t.2.2.toNat 0 + zs.getD t.2.1.toNat 0)
  else if t.1 = 2 ∨ t.1 = 3 ∨ t.1 = 6 ∨ t.1 = 7 ∨ t.1 = 10 then cap20 (1 + zs.getD t.2.1.toNat 0)
  else cap20 1
/-- A term that may stand behind n terms and x texts. -/
def WFt (n x : Nat) (t : T3) : Prop :=
  (t.1 = 1 ∧ 1 ≤ t.2.1 ∧ t.2.1 ≤ 4 ∧ 0 ≤ t.2.2) ∨ ((t.1 = 2 ∨ t.1 = 3 ∨ t.1 = 6 ∨ t.1 = 7 ∨ t.1 = 10) ∧ 0 ≤ t.2.1 ∧ t.2.1 < n ∧ t.2.2 = 0) ∨
  ((t.1 = 4 ∨ t.1 = 5 ∨ t.1 = 8) ∧ 0 ≤ t.2.1 ∧ t.2.1 < n ∧ 0 ≤ t.2.2 ∧ t.2.2 < n) ∨ (t.1 = 9 ∧ 0 ≤ t.2.1 ∧ t.2.1 < x ∧ t.2.2 = 0)
set_option maxRecDepth 50000 in
set_option maxHeartbeats 2000000 in
theorem size_atom (p cS : Nat) (AS : Option Addr) (zs : List Int) (k a b r : Int) (hk : k = 1) (w : World) (c20 : w.cell? ⟨p, 2, none⟩ = some (.slice AS zs.length cS)) (hS0 : Nums w .i64 AS zs) (hzb : ∀ z ∈ zs, 1 ≤ z ∧ z ≤ 1048576)
    (Hr : Hid ((if (1048576 : Int) < (1 : Int) then 1048576 else (1 : Int)) = r)) :
    Calls Tryz.prog 155 #[.pointer (some ⟨p, 0, none⟩), tv (k, a, b)] w fun e w' => e = .returned (.int .i64 r) ∧ Below w.heap.size w w' := by
  subst hk
  obtain ⟨W, hW, d0, d1, d2, hB, _⟩ := term_world (1, a, b) w
  have c2 := cellB c20 hB
  have hS := hS0.below hB
  have HB := hid hB
  clear c20 hS0 hB
  dsimp only at hW d0 d1 d2
  have HW := hid hW
  clear hW
  unfold tv
  go_enter Tryz.func155, Tryz.ntmps155
  go_upto_region 1 with (fail)
  rw [HW.out]
  clear hzb hS
  go_upto_region 13 with (fail)
  have HB2 := HB
  refine region_seq2 3 40 (fun _ => false) [Is (Value.int .i64 1), Is (Value.int .i64 r), Is (Value.int .i64 r)] [38, 39, 4] (by kernel_rfl) (by kernel_rfl) (Nat.le_of_eq rfl) (grows_cons (Is.grows _) (grows_cons (Is.grows _) (grows_cons (Is.grows _) grows_nil)))
    ⟨(step_ex (Value.int .i64 1) rfl (.inl rfl) rfl (fun a ww hw hf hd => by
           have h5 : a.eval (.tmp 5) = Value.int .i64 1 := ((knows_out 5 (by kernel_rfl) rfl) : Knows _ _ _ _ _ _ 0 _ _) a ww hw hf hd
           revert h5
           generalize a.eval = ev
           intro h5
           unfold execOp
           simp only [h5]
           go_simp)),
     (step_min rfl (.inl rfl) rfl rfl Hr.out (knows_in 0 38 (by decide) (by kernel_rfl) rfl rfl) (knows_const _)),
     (step_asgP rfl (.inl rfl) rfl rfl (knows_in 1 39 (by decide) (by kernel_rfl) rfl rfl)), trivial⟩ ?_
  intro val W2 hw hS _ _
  have e38 : val 38 = Value.int .i64 1 := hS 0 38 (by decide) rfl
  have e39 : val 39 = Value.int .i64 r := hS 1 39 (by decide) rfl
  have e4 : val 4 = Value.int .i64 r := hS 2 4 (by decide) rfl
  simp only [putVals, List.foldl_cons, List.foldl_nil, List.drop_succ_cons, List.drop_zero, Act.put, List.setIfInBounds_toArray, List.set_cons_succ, List.set_cons_zero, e38, e39, e4]
  clear e38 e39 e4 hS
  go_wp2
  go_ret
  exact ⟨rfl, HB2.out.trans (Below.mono hw HB2.out.size)⟩
set_option maxRecDepth 50000 in
set_option maxHeartbeats 2000000 in
theorem size_text (p cS : Nat) (AS : Option Addr) (zs : List Int) (k a b r : Int) (hk : k = 9) (w : World) (c20 : w.cell? ⟨p, 2, none⟩ = some (.slice AS zs.length cS)) (hS0 : Nums w .i64 AS zs) (hzb : ∀ z ∈ zs, 1 ≤ z ∧ z ≤ 1048576)
    (Hr : Hid ((if (1048576 : Int) < (1 : Int) then 1048576 else (1 : Int)) = r)) :
    Calls Tryz.prog 155 #[.pointer (some ⟨p, 0, none⟩), tv (k, a, b)] w fun e w' => e = .returned (.int .i64 r) ∧ Below w.heap.size w w' := by
  subst hk
  obtain ⟨W, hW, d0, d1, d2, hB, _⟩ := term_world (9, a, b) w
  have c2 := cellB c20 hB
  have hS := hS0.below hB
  have HB := hid hB
  clear c20 hS0 hB
  dsimp only at hW d0 d1 d2
  have HW := hid hW
  clear hW
  unfold tv
  go_enter Tryz.func155, Tryz.ntmps155
  go_upto_region 1 with (fail)
  rw [HW.out]
  clear hzb hS
  go_upto_region 13 with (fail)
  have HB2 := HB
  refine region_seq2 3 40 (fun _ => false) [Is (Value.int .i64 1), Is (Value.int .i64 r), Is (Value.int .i64 r)] [38, 39, 4] (by kernel_rfl) (by kernel_rfl) (Nat.le_of_eq rfl) (grows_cons (Is.grows _) (grows_cons (Is.grows _) (grows_cons (Is.grows _) grows_nil)))
    ⟨(step_ex (Value.int .i64 1) rfl (.inl rfl) rfl (fun a ww hw hf hd => by
           have h5 : a.eval (.tmp 5) = Value.int .i64 1 := ((knows_out 5 (by kernel_rfl) rfl) : Knows _ _ _ _ _ _ 0 _ _) a ww hw hf hd
           revert h5
           generalize a.eval = ev
           intro h5
           unfold execOp
           simp only [h5]
           go_simp)),
     (step_min rfl (.inl rfl) rfl rfl Hr.out (knows_in 0 38 (by decide) (by kernel_rfl) rfl rfl) (knows_const _)),
     (step_asgP rfl (.inl rfl) rfl rfl (knows_in 1 39 (by decide) (by kernel_rfl) rfl rfl)), trivial⟩ ?_
  intro val W2 hw hS _ _
  have e38 : val 38 = Value.int .i64 1 := hS 0 38 (by decide) rfl
  have e39 : val 39 = Value.int .i64 r := hS 1 39 (by decide) rfl
  have e4 : val 4 = Value.int .i64 r := hS 2 4 (by decide) rfl
  simp only [putVals, List.foldl_cons, List.foldl_nil, List.drop_succ_cons, List.drop_zero, Act.put, List.setIfInBounds_toArray, List.set_cons_succ, List.set_cons_zero, e38, e39, e4]
  clear e38 e39 e4 hS
  go_wp2
  go_ret
  exact ⟨rfl, HB2.out.trans (Below.mono hw HB2.out.size)⟩
set_option maxRecDepth 50000 in
set_option maxHeartbeats 2000000 in
theorem size_one2 (p cS : Nat) (AS : Option Addr) (zs : List Int) (k a b r : Int) (hk : k = 2) (na : Nat) (xa : Int) (ha : a = na) (w : World) (c20 : w.cell? ⟨p, 2, none⟩ = some (.slice AS zs.length cS)) (hS0 : Nums w .i64 AS zs) (hzb : ∀ z ∈ zs, 1 ≤ z ∧ z ≤ 1048576) (hx : Hid (zs[na]? = some xa))
    (Hr : Hid ((if (1048576 : Int) < 1 + xa then 1048576 else 1 + xa) = r)) :
    Calls Tryz.prog 155 #[.pointer (some ⟨p, 0, none⟩), tv (k, a, b)] w fun e w' => e = .returned (.int .i64 r) ∧ Below w.heap.size w w' := by
  subst hk
  obtain ⟨W, hW, d0, d1, d2, hB, _⟩ := term_world (2, a, b) w
  have c2 := cellB c20 hB
  have hS := hS0.below hB
  have HB := hid hB
  clear c20 hS0 hB
  dsimp only at hW d0 d1 d2
  have HW := hid hW
  clear hW
  unfold tv
  subst ha
  have hna : na < zs.length := (List.getElem?_eq_some_iff.1 hx.out).1
  obtain ⟨g, o, x, rfl, hg, hc, hxx⟩ := hS.get hna
  obtain rfl : x = xa := Option.some.inj (hxx.out.symm.trans hx.out)
  have hz1 := hzb x (List.mem_of_getElem? hx.out)
  have hw1 : IntKind.i64.wrap (1 + x) = 1 + x := IntWalk.i64_in _ ⟨by omega, by omega⟩
  go_enter Tryz.func155, Tryz.ntmps155
  go_upto_region 1 with (fail)
  rw [HW.out]
  clear hzb hS
  go_wp2
  go_quiet (fail)
  go_upto_region 13 with (fail)
  have HB2 : ∀ n, Below w.heap.size w (W.drewN n) := fun n => below_drewN HB.out n
  refine region_seq2 3 40 (fun _ => false) [Is (Value.int .i64 (1 + x)), Is (Value.int .i64 r), Is (Value.int .i64 r)] [38, 39, 4] (by kernel_rfl) (by kernel_rfl) (Nat.le_of_eq rfl) (grows_cons (Is.grows _) (grows_cons (Is.grows _) (grows_cons (Is.grows _) grows_nil)))
    ⟨(step_ex (Value.int .i64 (1 + x)) rfl (.inl rfl) rfl (fun a ww hw hf hd => by
           have h5 : a.eval (.tmp 5) = Value.int .i64 (1 + x) := ((knows_out 5 (by kernel_rfl) rfl) : Knows _ _ _ _ _ _ 0 _ _) a ww hw hf hd
           revert h5
           generalize a.eval = ev
           intro h5
           unfold execOp
           simp only [h5]
           go_simp)),
     (step_min rfl (.inl rfl) rfl rfl Hr.out (knows_in 0 38 (by decide) (by kernel_rfl) rfl rfl) (knows_const _)),
     (step_asgP rfl (.inl rfl) rfl rfl (knows_in 1 39 (by decide) (by kernel_rfl) rfl rfl)), trivial⟩ ?_
  intro val W2 hw hS _ _
  have e38 : val 38 = Value.int .i64 (1 + x) := hS 0 38 (by decide) rfl
  have e39 : val 39 = Value.int .i64 r := hS 1 39 (by decide) rfl
  have e4 : val 4 = Value.int .i64 r := hS 2 4 (by decide) rfl
  simp only [putVals, List.foldl_cons, List.foldl_nil, List.drop_succ_cons, List.drop_zero, Act.put, List.setIfInBounds_toArray, List.set_cons_succ, List.set_cons_zero, e38, e39, e4]
  clear e38 e39 e4 hS
  go_wp2
  go_ret
  exact ⟨rfl, (HB2 _).trans (Below.mono hw (HB2 _).size)⟩
set_option maxRecDepth 50000 in
set_option maxHeartbeats 2000000 in
theorem size_one3 (p cS : Nat) (AS : Option Addr) (zs : List Int) (k a b r : Int) (hk : k = 3) (na : Nat) (xa : Int) (ha : a = na) (w : World) (c20 : w.cell? ⟨p, 2, none⟩ = some (.slice AS zs.length cS)) (hS0 : Nums w .i64 AS zs) (hzb : ∀ z ∈ zs, 1 ≤ z ∧ z ≤ 1048576) (hx : Hid (zs[na]? = some xa))
    (Hr : Hid ((if (1048576 : Int) < 1 + xa then 1048576 else 1 + xa) = r)) :
    Calls Tryz.prog 155 #[.pointer (some ⟨p, 0, none⟩), tv (k, a, b)] w fun e w' => e = .returned (.int .i64 r) ∧ Below w.heap.size w w' := by
  subst hk
  obtain ⟨W, hW, d0, d1, d2, hB, _⟩ := term_world (3, a, b) w
  have c2 := cellB c20 hB
  have hS := hS0.below hB
  have HB := hid hB
  clear c20 hS0 hB
  dsimp only at hW d0 d1 d2
  have HW := hid hW
  clear hW
  unfold tv
  subst ha
  have hna : na < zs.length := (List.getElem?_eq_some_iff.1 hx.out).1
  obtain ⟨g, o, x, rfl, hg, hc, hxx⟩ := hS.get hna
  obtain rfl : x = xa := Option.some.inj (hxx.out.symm.trans hx.out)
  have hz1 := hzb x (List.mem_of_getElem? hx.out)
  have hw1 : IntKind.i64.wrap (1 + x) = 1 + x := IntWalk.i64_in _ ⟨by omega, by omega⟩
  go_enter Tryz.func155, Tryz.ntmps155
  go_upto_region 1 with (fail)
  rw [HW.out]
  clear hzb hS
  go_wp2
  go_quiet (fail)
  go_upto_region 13 with (fail)
  have HB2 : ∀ n, Below w.heap.size w (W.drewN n) := fun n => below_drewN HB.out n
  refine region_seq2 3 40 (fun _ => false) [Is (Value.int .i64 (1 + x)), Is (Value.int .i64 r), Is (Value.int .i64 r)] [38, 39, 4] (by kernel_rfl) (by kernel_rfl) (Nat.le_of_eq rfl) (grows_cons (Is.grows _) (grows_cons (Is.grows _) (grows_cons (Is.grows _) grows_nil)))
    ⟨(step_ex (Value.int .i64 (1 + x)) rfl (.inl rfl) rfl (fun a ww hw hf hd => by
           have h5 : a.eval (.tmp 5) = Value.int .i64 (1 + x) := ((knows_out 5 (by kernel_rfl) rfl) : Knows _ _ _ _ _ _ 0 _ _) a ww hw hf hd
           revert h5
           generalize a.eval = ev
           intro h5
           unfold execOp
           simp only [h5]
           go_simp)),
     (step_min rfl (.inl rfl) rfl rfl Hr.out (knows_in 0 38 (by decide) (by kernel_rfl) rfl rfl) (knows_const _)),
     (step_asgP rfl (.inl rfl) rfl rfl (knows_in 1 39 (by decide) (by kernel_rfl) rfl rfl)), trivial⟩ ?_
  intro val W2 hw hS _ _
  have e38 : val 38 = Value.int .i64 (1 + x) := hS 0 38 (by decide) rfl
  have e39 : val 39 = Value.int .i64 r := hS 1 39 (by decide) rfl
  have e4 : val 4 = Value.int .i64 r := hS 2 4 (by decide) rfl
  simp only [putVals, List.foldl_cons, List.foldl_nil, List.drop_succ_cons, List.drop_zero, Act.put, List.setIfInBounds_toArray, List.set_cons_succ, List.set_cons_zero, e38, e39, e4]
  clear e38 e39 e4 hS
  go_wp2
  go_ret
  exact ⟨rfl, (HB2 _).trans (Below.mono hw (HB2 _).size)⟩
set_option maxRecDepth 50000 in
set_option maxHeartbeats 2000000 in
theorem size_one6 (p cS : Nat) (AS : Option Addr) (zs : List Int) (k a b r : Int) (hk : k = 6) (na : Nat) (xa : Int) (ha : a = na) (w : World) (c20 : w.cell? ⟨p, 2, none⟩ = some (.slice AS zs.length cS)) (hS0 : Nums w .i64 AS zs) (hzb : ∀ z ∈ zs, 1 ≤ z ∧ z ≤ 1048576) (hx : Hid (zs[na]? = some xa))
    (Hr : Hid ((if (1048576 : Int) < 1 + xa then 1048576 else 1 + xa) = r)) :
    Calls Tryz.prog 155 #[.pointer (some ⟨p, 0, none⟩), tv (k, a, b)] w fun e w' => e = .returned (.int .i64 r) ∧ Below w.heap.size w w' := by
  subst hk
  obtain ⟨W, hW, d0, d1, d2, hB, _⟩ := term_world (6, a, b) w
  have c2 := cellB c20 hB
  have hS := hS0.below hB
  have HB := hid hB
  clear c20 hS0 hB
  dsimp only at hW d0 d1 d2
  have HW := hid hW
  clear hW
  unfold tv
  subst ha
  have hna : na < zs.length := (List.getElem?_eq_some_iff.1 hx.out).1
  obtain ⟨g, o, x, rfl, hg, hc, hxx⟩ := hS.get hna
  obtain rfl : x = xa := Option.some.inj (hxx.out.symm.trans hx.out)
  have hz1 := hzb x (List.mem_of_getElem? hx.out)
  have hw1 : IntKind.i64.wrap (1 + x) = 1 + x := IntWalk.i64_in _ ⟨by omega, by omega⟩
  go_enter Tryz.func155, Tryz.ntmps155
  go_upto_region 1 with (fail)
  rw [HW.out]
  clear hzb hS
  go_wp2
  go_quiet (fail)
  go_upto_region 13 with (fail)
  have HB2 : ∀ n, Below w.heap.size w (W.drewN n) := fun n => below_drewN HB.out n
  refine region_seq2 3 40 (fun _ => false) [Is (Value.int .i64 (1 + x)), Is (Value.int .i64 r), Is (Value.int .i64 r)] [38, 39, 4] (by kernel_rfl) (by kernel_rfl) (Nat.le_of_eq rfl) (grows_cons (Is.grows _) (grows_cons (Is.grows _) (grows_cons (Is.grows _) grows_nil)))
    ⟨(step_ex (Value.int .i64 (1 + x)) rfl (.inl rfl) rfl (fun a ww hw hf hd => by
           have h5 : a.eval (.tmp 5) = Value.int .i64 (1 + x) := ((knows_out 5 (by kernel_rfl) rfl) : Knows _ _ _ _ _ _ 0 _ _) a ww hw hf hd
           revert h5
           generalize a.eval = ev
           intro h5
           unfold execOp
           simp only [h5]
           go_simp)),
     (step_min rfl (.inl rfl) rfl rfl Hr.out (knows_in 0 38 (by decide) (by kernel_rfl) rfl rfl) (knows_const _)),
     (step_asgP rfl (.inl rfl) rfl rfl (knows_in 1 39 (by decide) (by kernel_rfl) rfl rfl)), trivial⟩ ?_
  intro val W2 hw hS _ _
  have e38 : val 38 = Value.int .i64 (1 + x) := hS 0 38 (by decide) rfl
  have e39 : val 39 = Value.int .i64 r := hS 1 39 (by decide) rfl
  have e4 : val 4 = Value.int .i64 r := hS 2 4 (by decide) rfl
  simp only [putVals, List.foldl_cons, List.foldl_nil, List.drop_succ_cons, List.drop_zero, Act.put, List.setIfInBounds_toArray, List.set_cons_succ, List.set_cons_zero, e38, e39, e4]
  clear e38 e39 e4 hS
  go_wp2
  go_ret
  exact ⟨rfl, (HB2 _).trans (Below.mono hw (HB2 _).size)⟩
set_option maxRecDepth 50000 in
set_option maxHeartbeats 2000000 in
theorem size_one7 (p cS : Nat) (AS : Option Addr) (zs : List Int) (k a b r : Int) (hk : k = 7) (na : Nat) (xa : Int) (ha : a = na) (w : World) (c20 : w.cell? ⟨p, 2, none⟩ = some (.slice AS zs.length cS)) (hS0 : Nums w .i64 AS zs) (hzb : ∀ z ∈ zs, 1 ≤ z ∧ z ≤ 1048576) (hx : Hid (zs[na]? = some xa))
    (Hr : Hid ((if (1048576 : Int) < 1 + xa then 1048576 else 1 + xa) = r)) :
    Calls Tryz.prog 155 #[.pointer (some ⟨p, 0, none⟩), tv (k, a, b)] w fun e w' => e = .returned (.int .i64 r) ∧ Below w.heap.size w w' := by
  subst hk
  obtain ⟨W, hW, d0, d1, d2, hB, _⟩ := term_world (7, a, b) w
  have c2 := cellB c20 hB
  have hS := hS0.below hB
  have HB := hid hB
  clear c20 hS0 hB
  dsimp only at hW d0 d1 d2
  have HW := hid hW
  clear hW
  unfold tv
  subst ha
  have hna : na < zs.length := (List.getElem?_eq_some_iff.1 hx.out).1
  obtain ⟨g, o, x, rfl, hg, hc, hxx⟩ := hS.get hna
  obtain rfl : x = xa := Option.some.inj (hxx.out.symm.trans hx.out)
  have hz1 := hzb x (List.mem_of_getElem? hx.out)
  have hw1 : IntKind.i64.wrap (1 + x) = 1 + x := IntWalk.i64_in _ ⟨by omega, by omega⟩
  go_enter Tryz.func155, Tryz.ntmps155
  go_upto_region 1 with (fail)
  rw [HW.out]
  clear hzb hS
  go_wp2
  go_quiet (fail)
  go_upto_region 13 with (fail)
  have HB2 : ∀ n, Below w.heap.size w (W.drewN n) := fun n => below_drewN HB.out n
  refine region_seq2 3 40 (fun _ => false) [Is (Value.int .i64 (1 + x)), Is (Value.int .i64 r), Is (Value.int .i64 r)] [38, 39, 4] (by kernel_rfl) (by kernel_rfl) (Nat.le_of_eq rfl) (grows_cons (Is.grows _) (grows_cons (Is.grows _) (grows_cons (Is.grows _) grows_nil)))
    ⟨(step_ex (Value.int .i64 (1 + x)) rfl (.inl rfl) rfl (fun a ww hw hf hd => by
           have h5 : a.eval (.tmp 5) = Value.int .i64 (1 + x) := ((knows_out 5 (by kernel_rfl) rfl) : Knows _ _ _ _ _ _ 0 _ _) a ww hw hf hd
           revert h5
           generalize a.eval = ev
           intro h5
           unfold execOp
           simp only [h5]
           go_simp)),
     (step_min rfl (.inl rfl) rfl rfl Hr.out (knows_in 0 38 (by decide) (by kernel_rfl) rfl rfl) (knows_const _)),
     (step_asgP rfl (.inl rfl) rfl rfl (knows_in 1 39 (by decide) (by kernel_rfl) rfl rfl)), trivial⟩ ?_
  intro val W2 hw hS _ _
  have e38 : val 38 = Value.int .i64 (1 + x) := hS 0 38 (by decide) rfl
  have e39 : val 39 = Value.int .i64 r := hS 1 39 (by decide) rfl
  have e4 : val 4 = Value.int .i64 r := hS 2 4 (by decide) rfl
  simp only [putVals, List.foldl_cons, List.foldl_nil, List.drop_succ_cons, List.drop_zero, Act.put, List.setIfInBounds_toArray, List.set_cons_succ, List.set_cons_zero, e38, e39, e4]
  clear e38 e39 e4 hS
  go_wp2
  go_ret
  exact ⟨rfl, (HB2 _).trans (Below.mono hw (HB2 _).size)⟩
set_option maxRecDepth 50000 in
set_option maxHeartbeats 2000000 in
theorem size_one10 (p cS : Nat) (AS : Option Addr) (zs : List Int) (k a b r : Int) (hk : k = 10) (na : Nat) (xa : Int) (ha : a = na) (w : World) (c20 : w.cell? ⟨p, 2, none⟩ = some (.slice AS zs.length cS)) (hS0 : Nums w .i64 AS zs) (hzb : ∀ z ∈ zs, 1 ≤ z ∧ z ≤ 1048576) (hx : Hid (zs[na]? = some xa))
    (Hr : Hid ((if (1048576 : Int) < 1 + xa then 1048576 else 1 + xa) = r)) :
    Calls Tryz.prog 155 #[.pointer (some ⟨p, 0, none⟩), tv (k, a, b)] w fun e w' => e = .returned (.int .i64 r) ∧ Below w.heap.size w w' := by
  subst hk
  obtain ⟨W, hW, d0, d1, d2, hB, _⟩ := term_world (10, a, b) w
  have c2 := cellB c20 hB
  have hS := hS0.below hB
  have HB := hid hB
  clear c20 hS0 hB
  dsimp only at hW d0 d1 d2
  have HW := hid hW
  clear hW
  unfold tv
  subst ha
  have hna : na < zs.length := (List.getElem?_eq_some_iff.1 hx.out).1
  obtain ⟨g, o, x, rfl, hg, hc, hxx⟩ := hS.get hna
  obtain rfl : x = xa := Option.some.inj (hxx.out.symm.trans hx.out)
  have hz1 := hzb x (List.mem_of_getElem? hx.out)
  have hw1 : IntKind.i64.wrap (1 + x) = 1 + x := IntWalk.i64_in _ ⟨by omega, by omega⟩
  go_enter Tryz.func155, Tryz.ntmps155
  go_upto_region 1 with (fail)
  rw [HW.out]
  clear hzb hS
  go_wp2
  go_quiet (fail)
  go_upto_region 13 with (fail)
  have HB2 : ∀ n, Below w.heap.size w (W.drewN n) := fun n => below_drewN HB.out n
  refine region_seq2 3 40 (fun _ => false) [Is (Value.int .i64 (1 + x)), Is (Value.int .i64 r), Is (Value.int .i64 r)] [38, 39, 4] (by kernel_rfl) (by kernel_rfl) (Nat.le_of_eq rfl) (grows_cons (Is.grows _) (grows_cons (Is.grows _) (grows_cons (Is.grows _) grows_nil)))
    ⟨(step_ex (Value.int .i64 (1 + x)) rfl (.inl rfl) rfl (fun a ww hw hf hd => by
           have h5 : a.eval (.tmp 5) = Value.int .i64 (1 + x) := ((knows_out 5 (by kernel_rfl) rfl) : Knows _ _ _ _ _ _ 0 _ _) a ww hw hf hd
           revert h5
           generalize a.eval = ev
           intro h5
           unfold execOp
           simp only [h5]
           go_simp)),
     (step_min rfl (.inl rfl) rfl rfl Hr.out (knows_in 0 38 (by decide) (by kernel_rfl) rfl rfl) (knows_const _)),
     (step_asgP rfl (.inl rfl) rfl rfl (knows_in 1 39 (by decide) (by kernel_rfl) rfl rfl)), trivial⟩ ?_
  intro val W2 hw hS _ _
  have e38 : val 38 = Value.int .i64 (1 + x) := hS 0 38 (by decide) rfl
  have e39 : val 39 = Value.int .i64 r := hS 1 39 (by decide) rfl
  have e4 : val 4 = Value.int .i64 r := hS 2 4 (by decide) rfl
  simp only [putVals, List.foldl_cons, List.foldl_nil, List.drop_succ_cons, List.drop_zero, Act.put, List.setIfInBounds_toArray, List.set_cons_succ, List.set_cons_zero, e38, e39, e4]
  clear e38 e39 e4 hS
  go_wp2
  go_ret
  exact ⟨rfl, (HB2 _).trans (Below.mono hw (HB2 _).size)⟩
set_option maxRecDepth 50000 in
set_option maxHeartbeats 2000000 in
theorem size_two4 (p cS : Nat) (AS : Option Addr) (zs : List Int) (k a b r : Int) (hk : k = 4) (na nb : Nat) (xa xb : Int) (ha : a = na) (hb : b = nb) (w : World) (c20 : w.cell? ⟨p, 2, none⟩ = some (.slice AS zs.length cS)) (hS0 : Nums w .i64 AS zs) (hzb : ∀ z ∈ zs, 1 ≤ z ∧ z ≤ 1048576) (hx : Hid (zs[na]? = some xa)) (hy : Hid (zs[nb]? = some xb))
    (Hr : Hid ((if (1048576 : Int) < 1 + xb + xa then 1048576 else 1 + xb + xa) = r)) :
    Calls Tryz.prog 155 #[.pointer (some ⟨p, 0, none⟩), tv (k, a, b)] w fun e w' => e = .returned (.int .i64 r) ∧ Below w.heap.size w w' := by
  subst hk
  obtain ⟨W, hW, d0, d1, d2, hB, _⟩ := term_world (4, a, b) w
  have c2 := cellB c20 hB
  have hS := hS0.below hB
  have HB := hid hB
  clear c20 hS0 hB
  dsimp only at hW d0 d1 d2
  have HW := hid hW
  clear hW
  unfold tv
  subst ha
  subst hb
  have hna : na < zs.length := (List.getElem?_eq_some_iff.1 hx.out).1
  have hnb : nb < zs.length := (List.getElem?_eq_some_iff.1 hy.out).1
  obtain ⟨g, o, x, rfl, hg, hc, hxx⟩ := hS.get hna
  obtain rfl : x = xa := Option.some.inj (hxx.out.symm.trans hx.out)
  obtain ⟨g', o', y, e, hg', hc', hyy⟩ := hS.get hnb
  injection e with e
  injection e with e1 e2
  subst e1 e2
  obtain rfl : y = xb := Option.some.inj (hyy.out.symm.trans hy.out)
  have hz1 := hzb x (List.mem_of_getElem? hx.out)
  have hz2 := hzb y (List.mem_of_getElem? hy.out)
  have hw1 : IntKind.i64.wrap (1 + y) = 1 + y := IntWalk.i64_in _ ⟨by omega, by omega⟩
  have hw2 : IntKind.i64.wrap (1 + y + x) = 1 + y + x := IntWalk.i64_in _ ⟨by omega, by omega⟩
  go_enter Tryz.func155, Tryz.ntmps155
  go_upto_region 1 with (fail)
  rw [HW.out]
  clear hzb hS hxx hyy hx hy
  go_wp2
  go_quiet (fail)
  go_wp2
  go_quiet (fail)
  go_upto_region 13 with (fail)
  have HB2 : ∀ n m, Below w.heap.size w ((W.drewN n).drewN m) := fun n m => below_drewN (below_drewN HB.out n) m
  refine region_seq2 3 40 (fun _ => false) [Is (Value.int .i64 (1 + y + x)), Is (Value.int .i64 r), Is (Value.int .i64 r)] [38, 39, 4] (by kernel_rfl) (by kernel_rfl) (Nat.le_of_eq rfl) (grows_cons (Is.grows _) (grows_cons (Is.grows _) (grows_cons (Is.grows _) grows_nil)))
    ⟨(step_ex (Value.int .i64 (1 + y + x)) rfl (.inl rfl) rfl (fun a ww hw hf hd => by
           have h5 : a.eval (.tmp 5) = Value.int .i64 (1 + y + x) := ((knows_out 5 (by kernel_rfl) rfl) : Knows _ _ _ _ _ _ 0 _ _) a ww hw hf hd
           revert h5
           generalize a.eval = ev
           intro h5
           unfold execOp
           simp only [h5]
           go_simp)),
     (step_min rfl (.inl rfl) rfl rfl Hr.out (knows_in 0 38 (by decide) (by kernel_rfl) rfl rfl) (knows_const _)),
     (step_asgP rfl (.inl rfl) rfl rfl (knows_in 1 39 (by decide) (by kernel_rfl) rfl rfl)), trivial⟩ ?_
  intro val W2 hw hS _ _
  have e38 : val 38 = Value.int .i64 (1 + y + x) := hS 0 38 (by decide) rfl
  have e39 : val 39 = Value.int .i64 r := hS 1 39 (by decide) rfl
  have e4 : val 4 = Value.int .i64 r := hS 2 4 (by decide) rfl
  simp only [putVals, List.foldl_cons, List.foldl_nil, List.drop_succ_cons, List.drop_zero, Act.put, List.setIfInBounds_toArray, List.set_cons_succ, List.set_cons_zero, e38, e39, e4]
  clear e38 e39 e4 hS
  go_wp2
  go_ret
  exact ⟨rfl, (HB2 _ _).trans (Below.mono hw (HB2 _ _).size)⟩
set_option maxRecDepth 50000 in
set_option maxHeartbeats 2000000 in
theorem size_two5 (p cS : Nat) (AS : Option Addr) (zs : List Int) (k a b r : Int) (hk : k = 5) (na nb : Nat) (xa xb : Int) (ha : a = na) (hb : b = nb) (w : World) (c20 : w.cell? ⟨p, 2, none⟩ = some (.slice AS zs.length cS)) (hS0 : Nums w .i64 AS zs) (hzb : ∀ z ∈ zs, 1 ≤ z ∧ z ≤ 1048576) (hx : Hid (zs[na]? = some xa)) (hy : Hid (zs[nb]? = some xb))
    (Hr : Hid ((if (1048576 : Int) < 1 + xb + xa then 1048576 else 1 + xb + xa) = r)) :
    Calls Tryz.prog 155 #[.pointer (some ⟨p, 0, none⟩), tv (k, a, b)] w fun e w' => e = .returned (.int .i64 r) ∧ Below w.heap.size w w' := by
  subst hk
  obtain ⟨W, hW, d0, d1, d2, hB, _⟩ := term_world (5, a, b) w
  have c2 := cellB c20 hB
  have hS := hS0.below hB
  have HB := hid hB
  clear c20 hS0 hB
  dsimp only at hW d0 d1 d2
  have HW := hid hW
  clear hW
  unfold tv
  subst ha
  subst hb
  have hna : na < zs.length := (List.getElem?_eq_some_iff.1 hx.out).1
  have hnb : nb < zs.length := (List.getElem?_eq_some_iff.1 hy.out).1
  obtain ⟨g, o, x, rfl, hg, hc, hxx⟩ := hS.get hna
  obtain rfl : x = xa := Option.some.inj (hxx.out.symm.trans hx.out)
  obtain ⟨g', o', y, e, hg', hc', hyy⟩ := hS.get hnb
  injection e with e
  injection e with e1 e2
  subst e1 e2
  obtain rfl : y = xb := Option.some.inj (hyy.out.symm.trans hy.out)
  have hz1 := hzb x (List.mem_of_getElem? hx.out)
  have hz2 := hzb y (List.mem_of_getElem? hy.out)
  have hw1 : IntKind.i64.wrap (1 + y) = 1 + y := IntWalk.i64_in _ ⟨by omega, by omega⟩
  have hw2 : IntKind.i64.wrap (1 + y + x) = 1 + y + x := IntWalk.i64_in _ ⟨by omega, by omega⟩
  go_enter Tryz.func155, Tryz.ntmps155
  go_upto_region 1 with (fail)
  rw [HW.out]
  clear hzb hS hxx hyy hx hy
  go_wp2
  go_quiet (fail)
  go_wp2
  go_quiet (fail)
  go_upto_region 13 with (fail)
  have HB2 : ∀ n m, Below w.heap.size w ((W.drewN n).drewN m) := fun n m => below_drewN (below_drewN HB.out n) m
  refine region_seq2 3 40 (fun _ => false) [Is (Value.int .i64 (1 + y + x)), Is (Value.int .i64 r), Is (Value.int .i64 r)] [38, 39, 4] (by kernel_rfl) (by kernel_rfl) (Nat.le_of_eq rfl) (grows_cons (Is.grows _) (grows_cons (Is.grows _) (grows_cons (Is.grows _) grows_nil)))
    ⟨(step_ex (Value.int .i64 (1 + y + x)) rfl (.inl rfl) rfl (fun a ww hw hf hd => by
           have h5 : a.eval (.tmp 5) = Value.int .i64 (1 + y + x) := ((knows_out 5 (by kernel_rfl) rfl) : Knows _ _ _ _ _ _ 0 _ _) a ww hw hf hd
           revert h5
           generalize a.eval = ev
           intro h5
           unfold execOp
           simp only [h5]
           go_simp)),
     (step_min rfl (.inl rfl) rfl rfl Hr.out (knows_in 0 38 (by decide) (by kernel_rfl) rfl rfl) (knows_const _)),
     (step_asgP rfl (.inl rfl) rfl rfl (knows_in 1 39 (by decide) (by kernel_rfl) rfl rfl)), trivial⟩ ?_
  intro val W2 hw hS _ _
  have e38 : val 38 = Value.int .i64 (1 + y + x) := hS 0 38 (by decide) rfl
  have e39 : val 39 = Value.int .i64 r := hS 1 39 (by decide) rfl
  have e4 : val 4 = Value.int .i64 r := hS 2 4 (by decide) rfl
  simp only [putVals, List.foldl_cons, List.foldl_nil, List.drop_succ_cons, List.drop_zero, Act.put, List.setIfInBounds_toArray, List.set_cons_succ, List.set_cons_zero, e38, e39, e4]
  clear e38 e39 e4 hS
  go_wp2
  go_ret
  exact ⟨rfl, (HB2 _ _).trans (Below.mono hw (HB2 _ _).size)⟩
set_option maxRecDepth 50000 in
set_option maxHeartbeats 2000000 in
theorem size_two8 (p cS : Nat) (AS : Option Addr) (zs : List Int) (k a b r : Int) (hk : k = 8) (na nb : Nat) (xa xb : Int) (ha : a = na) (hb : b = nb) (w : World) (c20 : w.cell? ⟨p, 2, none⟩ = some (.slice AS zs.length cS)) (hS0 : Nums w .i64 AS zs) (hzb : ∀ z ∈ zs, 1 ≤ z ∧ z ≤ 1048576) (hx : Hid (zs[na]? = some xa)) (hy : Hid (zs[nb]? = some xb))
    (Hr : Hid ((if (1048576 : Int) < 1 + xb + xa then 1048576 else 1 + xb + xa) = r)) :
    Calls Tryz.prog 155 #[.pointer (some ⟨p, 0, none⟩), tv (k, a, b)] w fun e w' => e = .returned (.int .i64 r) ∧ Below w.heap.size w w' := by
  subst hk
  obtain ⟨W, hW, d0, d1, d2, hB, _⟩ := term_world (8, a, b) w
  have c2 := cellB c20 hB
  have hS := hS0.below hB
  have HB := hid hB
  clear c20 hS0 hB
  dsimp only at hW d0 d1 d2
  have HW := hid hW
  clear hW
  unfold tv
  subst ha
  subst hb
  have hna : na < zs.length := (List.getElem?_eq_some_iff.1 hx.out).1
  have hnb : nb < zs.length := (List.getElem?_eq_some_iff.1 hy.out).1
  obtain ⟨g, o, x, rfl, hg, hc, hxx⟩ := hS.get hna
  obtain rfl : x = xa := Option.some.inj (hxx.out.symm.trans hx.out)
  obtain ⟨g', o', y, e, hg', hc', hyy⟩ := hS.get hnb
  injection e with e
  injection e with e1 e2
  subst e1 e2
  obtain rfl : y = xb := Option.some.inj (hyy.out.symm.trans hy.out)
  have hz1 := hzb x (List.mem_of_getElem? hx.out)
  have hz2 := hzb y (List.mem_of_getElem? hy.out)
  have hw1 : IntKind.i64.wrap (1 + y) = 1 + y := IntWalk.i64_in _ ⟨by omega, by omega⟩
  have hw2 : IntKind.i64.wrap (1 + y + x) = 1 + y + x := IntWalk.i64_in _ ⟨by omega, by omega⟩
  go_enter Tryz.func155, Tryz.ntmps155
  go_upto_region 1 with (fail)
  rw [HW.out]
  clear hzb hS hxx hyy hx hy
  go_wp2
  go_quiet (fail)
  go_wp2
  go_quiet (fail)
  go_upto_region 13 with (fail)
  have HB2 : ∀ n m, Below w.heap.size w ((W.drewN n).drewN m) := fun n m => below_drewN (below_drewN HB.out n) m
  refine region_seq2 3 40 (fun _ => false) [Is (Value.int .i64 (1 + y + x)), Is (Value.int .i64 r), Is (Value.int .i64 r)] [38, 39, 4] (by kernel_rfl) (by kernel_rfl) (Nat.le_of_eq rfl) (grows_cons (Is.grows _) (grows_cons (Is.grows _) (grows_cons (Is.grows _) grows_nil)))
    ⟨(step_ex (Value.int .i64 (1 + y + x)) rfl (.inl rfl) rfl (fun a ww hw hf hd => by
           have h5 : a.eval (.tmp 5) = Value.int .i64 (1 + y + x) := ((knows_out 5 (by kernel_rfl) rfl) : Knows _ _ _ _ _ _ 0 _ _) a ww hw hf hd
           revert h5
           generalize a.eval = ev
           intro h5
           unfold execOp
           simp only [h5]
           go_simp)),
     (step_min rfl (.inl rfl) rfl rfl Hr.out (knows_in 0 38 (by decide) (by kernel_rfl) rfl rfl) (knows_const _)),
     (step_asgP rfl (.inl rfl) rfl rfl (knows_in 1 39 (by decide) (by kernel_rfl) rfl rfl)), trivial⟩ ?_
  intro val W2 hw hS _ _
  have e38 : val 38 = Value.int .i64 (1 + y + x) := hS 0 38 (by decide) rfl
  have e39 : val 39 = Value.int .i64 r := hS 1 39 (by decide) rfl
  have e4 : val 4 = Value.int .i64 r := hS 2 4 (by decide) rfl
  simp only [putVals, List.foldl_cons, List.foldl_nil, List.drop_succ_cons, List.drop_zero, Act.put, List.setIfInBounds_toArray, List.set_cons_succ, List.set_cons_zero, e38, e39, e4]
  clear e38 e39 e4 hS
  go_wp2
  go_ret
  exact ⟨rfl, (HB2 _ _).trans (Below.mono hw (HB2 _ _).size)⟩
set_option maxRecDepth 50000 in
set_option maxHeartbeats 1000000 in
theorem size_any (p cS x : Nat) (AS : Option Addr) (zs : List Int) (t : T3) (w : World) (ht : WFt zs.length x t) (c20 : w.cell? ⟨p, 2, none⟩ = some (.slice AS zs.length cS)) (hS0 : Nums w .i64 AS zs) (hzb : ∀ z ∈ zs, 1 ≤ z ∧ z ≤ 1048576) :
    Calls Tryz.prog 155 #[.pointer (some ⟨p, 0, none⟩), tv t] w fun e w' => e = .returned (.int .i64 (szOf zs t)) ∧ Below w.heap.size w w' := by
  obtain ⟨k, a, b⟩ := t
  have hget : ∀ n : Int, 0 ≤ n → n < zs.length → ∃ m : Nat, n = m ∧ zs[m]? = some (zs.getD n.toNat 0) := fun n h0 h1 => by
    refine ⟨n.toNat, by omega, ?_⟩
    have : n.toNat < zs.length := by omega
    simp [List.getD, this]
  rcases ht with ⟨rfl, h1, h2, h3⟩ | ⟨hk, h1, h2, h3⟩ | ⟨hk, h1, h2, h3, h4⟩ | ⟨rfl, h1, h2, h3⟩
  · exact size_atom p cS AS zs 1 a b _ rfl w c20 hS0 hzb (by unfold szOf cap20; rfl)
  · obtain ⟨m, hm, hx⟩ := hget a h1 h2
    dsimp only at hk
    rcases hk with rfl | rfl | rfl | rfl | rfl
    · exact size_one2 p cS AS zs 2 a b _ rfl m _ hm w c20 hS0 hzb hx (by unfold szOf cap20; rfl)
    · exact size_one3 p cS AS zs 3 a b _ rfl m _ hm w c20 hS0 hzb hx (by unfold szOf cap20; rfl)
    · exact size_one6 p cS AS zs 6 a b _ rfl m _ hm w c20 hS0 hzb hx (by unfold szOf cap20; rfl)
    · exact size_one7 p cS AS zs 7 a b _ rfl m _ hm w c20 hS0 hzb hx (by unfold szOf cap20; rfl)
    · exact size_one10 p cS AS zs 10 a b _ rfl m _ hm w c20 hS0 hzb hx (by unfold szOf cap20; rfl)
  · obtain ⟨m, hm, hx⟩ := hget a h1 h2
    obtain ⟨q, hq, hy⟩ := hget b h3 h4
    dsimp only at hk
    rcases hk with rfl | rfl | rfl
    · exact size_two4 p cS AS zs 4 a b _ rfl m q _ _ hm hq w c20 hS0 hzb hx hy (by unfold szOf cap20; rfl)
    · exact size_two5 p cS AS zs 5 a b _ rfl m q _ _ hm hq w c20 hS0 hzb hx hy (by unfold szOf cap20; rfl)
    · exact size_two8 p cS AS zs 8 a b _ rfl m q _ _ hm hq w c20 hS0 hzb hx hy (by unfold szOf cap20; rfl)
  · exact size_text p cS AS zs 9 a b _ rfl w c20 hS0 hzb (by unfold szOf cap20; rfl)
end Go.Proofs.YtpncohoonfahpaaGreatDoor
